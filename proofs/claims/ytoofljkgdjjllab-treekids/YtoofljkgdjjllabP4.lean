import Derived.Test.YtoofljkgdjjllabP2
import Derived.Test.YtoofljkgdjjllabP3
namespace Go.Proofs.Ytoofljkgdjjllab
open Go.RowKit
set_option linter.unusedVariables false
set_option linter.unusedSimpArgs false

/-- append of one Id onto a row of the call's own. -/
theorem push_any {W : World} {base : Nat} {v : Value} {A : List IdK} (own : OwnI W base v A) {x : IdK} (hx : x.ok) (hl : A.length ≤ 5000000000000) (hb : base ≤ W.heap.size) : ∃ w1 qv w2, (Instr.buildSlice 30 1 #[(0, x.v)]).run Try.prog W = .ok (.slice (some ⟨W.heap.size, 0, none⟩) 1 1) w1 ∧
    (Builtin.append_ #[30, 30] 30 #[v, .slice (some ⟨W.heap.size, 0, none⟩) 1 1]).run Try.prog w1 = .ok qv w2 ∧ OwnI w2 base qv (A ++ [x]) ∧ Below base W w2 ∧ (∀ j, j < W.heap.size → v.ownBlock ≠ some j → w2.heap[j]? = W.heap[j]?) ∧ (qv.ownBlock = v.ownBlock ∨ ∃ g, qv.ownBlock = some g ∧ W.heap.size ≤ g) ∧ W.heap.size ≤ w2.heap.size := by
  have b1 : Below W.heap.size W (W.alloc (.cells x.c.toArray 35)) := (Below.refl _ _).alloc (Nat.le_refl _) _
  have hi := ids_lit W x 35
  have hr := run_bsI x hx W
  generalize W.alloc (.cells x.c.toArray 35) = w1 at *
  have own1 := own.below b1
  obtain ⟨qv, w2, e2, o2, g2, q2⟩ := run_appI w1 base v A (some ⟨W.heap.size, 0, none⟩) [x] 1 own1 hi (by intro y hy; simp at hy; subst hy; exact hx) (by simp; omega) (Nat.le_trans hb b1.size)
  have z1 := b1.size
  have z2 := g2.size
  refine ⟨w1, qv, w2, hr, e2, o2, (b1.mono hb).trans (below_grown own1 (by omega) g2), fun j hj hne => (g2.block j (by omega) (fun e => hne e.symm)).trans (b1.block j hj), ?_, by omega⟩
  rcases q2 with q | q
  · exact Or.inl q
  · exact Or.inr ⟨_, q, z1⟩
/-- Two rows of the call's own, apart. -/
structure KI (w6 : World) (B2 : Nat) (kv : Value) (K : List IdK) (W : World) (v5 : Value) (A : List IdK) : Prop where
  bel : Below w6.heap.size w6 W
  own : OwnI W w6.heap.size v5 A
  kid : OwnI W B2 kv K
  sep : ∀ j, v5.ownBlock = some j → kv.ownBlock ≠ some j
section
variable {w6 : World} {B2 : Nat} {kv : Value} {K : List IdK} {W W' : World} {v5 : Value} {A : List IdK}
theorem OwnI.lt {base : Nat} {v : Value} {L : List IdK} (h : OwnI W base v L) {j : Nat} (hj : v.ownBlock = some j) : j < W.heap.size := by
  obtain ⟨_, c, hc⟩ := h.ge j hj
  exact (Array.getElem?_eq_some_iff.1 hc).1
theorem KI.below (h : KI w6 B2 kv K W v5 A) (b : Below W.heap.size W W') : KI w6 B2 kv K W' v5 A := ⟨h.bel.trans (b.mono h.bel.size), h.own.below b, h.kid.below b, h.sep⟩
theorem KI.push (h : KI w6 B2 kv K W v5 A) {x : IdK} (hx : x.ok) (hl : A.length ≤ 5000000000000) : ∃ w1 qv w2, (Instr.buildSlice 30 1 #[(0, x.v)]).run Try.prog W = .ok (.slice (some ⟨W.heap.size, 0, none⟩) 1 1) w1 ∧
    (Builtin.append_ #[30, 30] 30 #[v5, .slice (some ⟨W.heap.size, 0, none⟩) 1 1]).run Try.prog w1 = .ok qv w2 ∧ KI w6 B2 kv K w2 qv (A ++ [x]) := by
  obtain ⟨w1, qv, w2, e1, e2, o2, b2, k2, q2, z2⟩ := push_any h.own hx hl h.bel.size
  refine ⟨w1, qv, w2, e1, e2, h.bel.trans b2, o2, h.kid.keep fun j hj => k2 j (h.kid.lt hj) (fun e => h.sep j e hj), fun j hj e => ?_⟩
  rcases q2 with q | ⟨g, q, hg⟩
  · rw [q] at hj; exact h.sep j hj e
  · rw [q] at hj
    injection hj with hj
    have := h.kid.lt e
    omega
end
theorem KI.form {w6 : World} {B2 : Nat} {kv : Value} {K : List IdK} {W : World} {v5 : Value} {A : List IdK} (h : KI w6 B2 kv K W v5 A) (ok : ∀ x ∈ K, x.ok) {a : Option Addr} {n c : Nat} (e : kv = .slice a n c) : IdsAt W a K := by
  obtain ⟨a', c', e', hi, _⟩ := h.kid.open ok
  rw [e] at e'
  injection e' with e1 e2 e3
  rw [e1]
  exact hi
theorem isOwn {w : World} {B : Nat} {v : Value} {L : List IdK} (h : OwnI w B v L) (ok : ∀ x ∈ L, x.ok) {a : Option Addr} {n c : Nat} (e : v = .slice a n c) : IdsAt w a L ∧ n = L.length := by
  obtain ⟨a', c', e', hi, _⟩ := h.open ok
  rw [e] at e'
  injection e' with e1 e2 e3
  rw [e1]
  exact ⟨hi, e2⟩
theorem sub_run {k1 kk : Nat} (h : k1 + 1 = kk) (hk : kk ≤ 9223372036854775807) (W : World) : (binOp .sub 3 (.int .i64 (kk : Int)) (.int .i64 1)).run Try.prog W = .ok (.int .i64 (k1 : Int)) W := by
  have e : ((kk : Int) - 1) = (k1 : Int) := by omega
  have hb : (k1 : Int) ≤ 9223372036854775807 := by omega
  go_simp
  first | done | rfl | go_num | (unfold IntKind.wrap; simp [IntKind.bits, IntKind.signed]; omega)
theorem bl_key {f : Fn} {z y : IdK} (h : cKid (kidF f z) (kidF f y) < 0) : (Op.bytesLess (nd f z).key.toList (nd f y).key.toList = true) ∨ ((nd f z).key.toList = (nd f y).key.toList ∧ cId z y < 0) := (lt_cKid _ _).1 h
set_option maxRecDepth 100000 in
set_option maxHeartbeats 8000000 in
theorem kids_law (a : Option Addr) (c : Nat) (L : List OpV) (w : World) (hL : RowAt 69 OpV.c w a L) (ok : ∀ x ∈ L, x.ok) (hn : L.length ≤ 1256584717422) :
    Calls Try.prog 4 #[.slice a L.length c] w fun e w' => e = .returned (.bool true) ∧ Below w.heap.size w w' := by
  obtain ⟨n, hnn⟩ : ∃ n, L.length = n := ⟨_, rfl⟩
  have HNn := hidMk hnn
  have HLn := hidMk hn
  have HNM := hidMk (fun (W : World) (b : Below w.heap.size w W) => named_any a c L W (hL.below b) ok hn)
  have HCT := hidMk (fun (W : World) (b : Below w.heap.size w W) => count_any a c L W (hL.below b) ok hn)
  have HA := hidMk alive_any
  have HN1 := hidMk new_own
  have HGR := hidMk (fun (w1 w2 : World) (s : Tr) (b1 : Below w.heap.size w w1) (b2 : Below w1.heap.size w1 w2) (h : Own w1.heap.size w2 s [] (fun _ => none)) => grown_any h b1.size b2.size (b1.trans (b2.mono b1.size)) (by simp) [] dom_none a c L hL ok hn (fun _ => false) (fun x => rfl))
  rw [hnn] at HNM HCT HGR
  rw [hnn]
  clear hnn hn
  go_enter Try.func4, Try.ntmps4
  go_upto_region 8 with (first
    | (go_at_call 8; refine (HA.out w).mono ?_; rintro e w1 ⟨rfl, b1⟩; clear HA)
    | (go_at_call 9; refine (HN1.out _).mono ?_; rintro e w2 ⟨s0, rfl, hs0, b2⟩; clear HN1)
    | (go_at_call 10; refine (HGR.out w1 w2 s0 b1 b2 hs0).mono ?_; rintro e w3 ⟨s, H, f, bv, rfl, gs, hp, hl⟩; obtain ⟨D, hD, hDl⟩ := gs.dom; have gt := gs.t; have HLE := hidMk (len_own gs.own hD); rw [gt] at HLE; have HEM := hidMk (pres_lenW hD hp); clear HGR)
    | (go_at_call 12; refine HLE.out.mono ?_; rintro e w4 ⟨rfl, b4⟩; have own4 := gs.own.below b4; have b14 := gs.bel.trans (b4.mono gs.bel.size); clear HLE)
    | (go_at_call 11; refine (HCT.out _ b14).mono ?_; rintro e w5 ⟨m, rfl, hm, b5⟩; obtain rfl := HEM.out m hm; have own5 := own4.below b5; have b15 := b14.trans (b5.mono b14.size); clear HCT hm)
    | (go_at_call 16; refine (HNM.out _ b15).mono ?_; rintro e w6 ⟨nv, rfl, ownN, b6⟩; have own6 := own5.below b6; have b16 := b15.trans (b6.mono b15.size); clear HNM)
    | fail)
  have okN := namedL_ok ok
  obtain ⟨an, cn, rfl, hIN, _⟩ := ownN.open okN
  have HDL := hidMk (show D.length ≤ 2600000000000 by have := HNn.out; have := HLn.out; simp at hDl; omega)
  have HUB := hidMk (fun (W : World) (b : Below w6.heap.size w6 W) (x u : IdK) (ok : Bool) (hx : x.ok) (hu : (nd f x).u = u) (hok : ((f x).isSome && !(nd f x).pr) = ok) => under_boxed (own6.below b) hx hu hok gt)
  have HDP := hidMk (fun (W : World) (b : Below w6.heap.size w6 W) (x : IdK) (hx : x.ok) => deep_own (own6.below b) hD HDL.out x hx)
  have HKD := hidMk (fun (W : World) (b : Below w6.heap.size w6 W) (x : IdK) (hx : x.ok) => kids_own (own6.below b) hD HDL.out x hx)
  have HLN := hidMk (fun (W : World) (b : Below w6.heap.size w6 W) => len_own (own6.below b) hD)
  rw [gt] at HDP HKD HLN
  have HUO := hidMk own6.uok
  have HF := hidMk own6.ft
  have HD := hidMk hD
  have HPN := hidMk (fun x (h : (f x).isSome = true) => pres_named (L := L) (x := x) (by rw [← hp]; exact h))
  have HB6 := hidMk b16
  have HON := hidMk okN
  have HIN := hidMk hIN
  have HZN := hidMk (show zId ∈ namedL L by simp [namedL])
  have hnl : (namedL L).length ≤ 2600000000000 := by have := HLn.out; rw [namedL, List.length_cons, pairs_len]; omega
  obtain ⟨N, hN⟩ : ∃ N, namedL L = N := ⟨_, rfl⟩
  rw [hN] at HIN HON HPN HZN hnl ⊢
  obtain ⟨q, hq⟩ : ∃ q, N.length = q := ⟨_, rfl⟩
  rw [hq] at hnl ⊢
  have HQN := hidMk hq
  clear hN hq hIN okN ownN own6 own5 own4 gs hp hl hD hDl b16 b15 b14 b6 b5 b4 b2 b1 hs0 gt HEM
  go_wp2
  go_loopw [5, 6] (fun v5 v6 wr => ∃ (i : Nat) (A : List IdK), v6 = .int .i64 (i : Int) ∧ i ≤ q ∧ Below w6.heap.size w6 wr ∧ OwnI wr w6.heap.size v5 A ∧ Part f (N.take i) A) (fun v5 v6 wr => q - (match v6 with | .int _ i => i.toNat | _ => 0))
  case atStart => exact ⟨0, [], rfl, Nat.zero_le _, Below.refl _ _, ⟨rfl, Or.inl ⟨rfl, rfl⟩⟩, Part.nil f⟩
  case round =>
    obtain ⟨i, A, rfl, hiq, bel, own, part⟩ := hrel
    obtain ⟨a5, c5, hv5, _, _⟩ := own.open (part.ok HD.out)
    obtain ⟨l5, hl5⟩ : ∃ l5, A.length = l5 := ⟨_, rfl⟩
    rw [hl5] at hv5
    subst hv5
    have HL5 := hidMk hl5
    have HOW := hidMk own
    have HPT := hidMk part
    clear hl5 own part
    by_cases hi : i < q
    · obtain ⟨x, hxi⟩ : ∃ x, N[i]? = some x := ⟨_, List.getElem?_eq_getElem (by rw [HQN.out]; exact hi)⟩
      have hxo := HON.out x (List.mem_of_getElem? hxi)
      have HXI := hidMk hxi
      have HTK := hidMk (show N.take (i + 1) = N.take i ++ [x] by rw [List.take_add_one, hxi]; rfl)
      obtain ⟨b, o, rfl, hld⟩ := HIN.out.ld HON.out hxi
      have HLD := hidMk hld
      have BE0 := hidMk bel
      clear hxi hld bel
      generalize wr = wo at *
      go_wp2
      go_loopw [7, 8] (fun v7 v8 wr => ∃ (k : Nat) (fb : Bool), v8 = .int .i64 (k : Int) ∧ v7 = .bool fb ∧ k ≤ i ∧ fb = !decide (x ∈ N.take k) ∧ Below wo.heap.size wo wr) (fun v7 v8 wr => i - (match v8 with | .int _ i => i.toNat | _ => 0))
      case atStart => exact ⟨0, true, rfl, rfl, Nat.zero_le _, by simp, Below.refl _ _⟩
      case round =>
        obtain ⟨k, fb, rfl, rfl, hki, hfb, bel⟩ := hrel
        by_cases hk : k < i
        · obtain ⟨y, hyk⟩ : ∃ x, N[k]? = some x := ⟨_, List.getElem?_eq_getElem (by rw [HQN.out]; omega)⟩
          have hyo := HON.out y (List.mem_of_getElem? hyk)
          have HYK := hidMk hyk
          have HFB := hidMk hfb
          have HMT := hidMk (mem_take_succ (x := x) hyk)
          obtain ⟨c1, hc1⟩ : ∃ c1, decide (y = x) = c1 := ⟨_, rfl⟩
          have HC1 := hidMk hc1
          rw [hc1] at HMT
          clear hc1 hfb hyk
          go_upto_region 16 with fail
          refine kids16 (fun W => Below wo.heap.size wo W) (.slice (some ⟨b, o, none⟩) q cn) (.int .i64 (k : Int)) (.int .i64 (i : Int)) (.pointer (some ⟨b, o + k * 33, none⟩)) (.pointer (some ⟨b, o + i * 33, none⟩)) x.v y.v (.bool c1) _ wr _ rfl rfl rfl rfl bel.drew (fun W => ix_id (by omega) (by omega) W) (fun W hW => HLD.out k y HYK.out W (BE0.out.trans (hW.mono BE0.out.size))) (fun W => ix_id hi (by omega) W) (fun W hW => HLD.out i x HXI.out W (BE0.out.trans (hW.mono BE0.out.size))) (fun W => guard_id _ _ y x _ _) (fun W hW => by rw [eql_id y x hyo hxo, HC1.out]) ?_
          intro a' w' hw' ha
          subst ha
          simp only [Act.put, List.setIfInBounds_toArray, List.set_cons_zero, List.set_cons_succ]
          have BEL := hidMk hw'
          clear hw' bel
          cases c1 with
          | true =>
            go_wp2
            rw [show ((k : Int) + 1) = ((k + 1 : Nat) : Int) by omega]
            refine ⟨⟨k + 1, false, rfl, rfl, hk, by rw [HMT.out]; simp, BEL.out⟩, ?_⟩
            show i - ((k + 1 : Nat) : Int).toNat < i - (k : Int).toNat
            omega
          | false =>
            go_wp2
            rw [show ((k : Int) + 1) = ((k + 1 : Nat) : Int) by omega]
            refine ⟨⟨k + 1, fb, rfl, rfl, hk, by rw [HMT.out, HFB.out]; simp, BEL.out⟩, ?_⟩
            show i - ((k + 1 : Nat) : Int).toNat < i - (k : Int).toNat
            omega
        · obtain rfl : i = k := by omega
          have c6 := BE0.out.trans (bel.mono BE0.out.size)
          have C6 := hidMk c6
          have OW6 := hidMk (HOW.out.below bel)
          have HFB := hidMk hfb
          clear hfb hki hk c6 bel
          cases fb with
          | false =>
            have hxm : x ∈ N.take i := by have := HFB.out; simpa using this
            have HXM := hidMk hxm
            clear hxm
            go_wp2
            rw [show ((i : Int) + 1) = ((i + 1 : Nat) : Int) by omega]
            refine ⟨⟨i + 1, A, rfl, hi, C6.out, OW6.out, by rw [HTK.out]; exact HPT.out.more HXM.out⟩, ?_⟩
            show q - ((i + 1 : Nat) : Int).toNat < q - (i : Int).toNat
            omega
          | true =>
            have hxm : x ∉ N.take i := by have := HFB.out; simpa using this
            have HXM := hidMk hxm
            clear hxm HFB
            have HNX := hidMk (fun (K : List IdK) (hK : IsKids f x K) => show Part f (N.take (i + 1)) (A ++ (selfL f x ++ K)) by rw [HTK.out]; exact HPT.out.step HXM.out hK)
            have LX := hidMk (HLD.out i x HXI.out wr C6.out)
            obtain ⟨u, hu⟩ : ∃ u, (nd f x).u = u := ⟨_, rfl⟩
            obtain ⟨okb, hokb⟩ : ∃ okb, ((f x).isSome && !(nd f x).pr) = okb := ⟨_, rfl⟩
            have CU := hidMk (HUB.out wr C6.out x u okb hxo hu hokb)
            have HOKX := hidMk hokb
            clear hu hokb
            have hl5b : l5 ≤ 2600000000000 := by have := HPT.out.le HD.out; have := HDL.out; have := HL5.out; omega
            go_upto_region 19 with fail
            refine kids19 (.pointer (some ⟨s0.t, 0, none⟩)) (.slice (some ⟨b, o, none⟩) q cn) (.int .i64 (i : Int)) (.pointer (some ⟨b, o + i * 33, none⟩)) x.v u.v (.string (nd f x).key) (.bool okb) (Boxed wr u) _ wr _ rfl rfl rfl rfl CU.out (fun W => ix_id hi (by omega) W) LX.out ?_
            rintro p a' w5 ⟨nb, rfl, iu5, b5, hnbl, znb⟩ ha
            subst ha
            simp only [Act.put, List.setIfInBounds_toArray, List.set_cons_zero, List.set_cons_succ]
            have cw5 := C6.out.trans (b5.mono C6.out.size)
            have CW5 := hidMk cw5
            have OW5 := hidMk (OW6.out.below b5)
            have LX5 := hidMk (HLD.out i x HXI.out w5 cw5)
            clear LX CU C6 OW6 iu5 b5 hnbl znb cw5
            cases hs : (f x).isSome with
            | false =>
              obtain rfl : okb = false := by rw [← HOKX.out, hs]; rfl
              have HSE := hidMk (show selfL f x = [] by unfold selfL; rw [if_neg (by rw [hs]; simp)])
              have HDX := hidMk (fun d (h : DeepIs f x d) => show d = -1 from h.unique (Or.inl ⟨hs, rfl⟩))
              clear hs
              have CD5 : Hid (Calls Try.prog 18 #[.pointer (some ⟨s0.t, 0, none⟩), x.v] w5 fun e w' => e = .returned (.int .i64 (-1)) ∧ Below w5.heap.size w5 w') := (HDP.out w5 CW5.out x hxo).mono fun e w' ⟨d, he, hd, b⟩ => ⟨by rw [he, HDX.out d hd], b⟩
              go_upto_region 20 with fail
              refine kids20c (.pointer (some ⟨s0.t, 0, none⟩)) (.slice (some ⟨b, o, none⟩) q cn) (.int .i64 (i : Int)) (.pointer (some ⟨b, o + i * 33, none⟩)) x.v (.int .i64 (-1)) (fun w' => Below w5.heap.size w5 w') _ w5 _ rfl rfl rfl rfl rfl CD5.out (fun W => ix_id hi (by omega) W) LX5.out (fun W => by go_simp) (fun W => by go_simp) ?_
              intro a' w7 b7 ha
              subst ha
              simp only [Act.put, List.setIfInBounds_toArray, List.set_cons_zero, List.set_cons_succ]
              have CS7 := hidMk (CW5.out.trans (b7.mono CW5.out.size))
              have OWS7 := hidMk (OW5.out.below b7)
              have LXS7 := hidMk (HLD.out i x HXI.out w7 CS7.out)
              clear CD5 b7 LX5 CW5 OW5
              have CS := CS7
              have OWS := OWS7
              have LXS := LXS7
              clear CS7 OWS7 LXS7
              go_upto_region 22 with fail
              refine kids22 (.pointer (some ⟨s0.t, 0, none⟩)) (.slice (some ⟨b, o, none⟩) q cn) (.int .i64 (i : Int)) (.pointer (some ⟨b, o + i * 33, none⟩)) x.v (fun kv w' => ∃ L, OwnI w' w7.heap.size kv L ∧ IsKids f x L ∧ Below w7.heap.size w7 w') _ w7 _ rfl rfl rfl rfl ((HKD.out w7 CS.out x hxo).mono fun e w' ⟨v, L, h1, h2, h3, h4⟩ => ⟨v, h1, L, h2, h3, h4⟩) (fun W => ix_id hi (by omega) W) LXS.out ?_
              rintro kv a' w8 ⟨K, ownK, hK, b8⟩ ha
              subst ha
              simp only [Act.put, List.setIfInBounds_toArray, List.set_cons_zero, List.set_cons_succ]
              clear LXS
              have okK : ∀ y ∈ K, y.ok := hK.ok
              obtain ⟨ak, ck, hkv, _, _⟩ := ownK.open okK
              have ki8 : KI w6 w7.heap.size kv K w8 (.slice a5 l5 c5) (A ++ K.take 0) := ⟨CS.out.trans (b8.mono CS.out.size), by rw [List.take_zero, List.append_nil]; exact OWS.out.below b8, ownK, fun j hj e => by have h1 := OWS.out.lt hj; have h2 := (ownK.ge j e).1; omega⟩
              have KI8 := hidMk ki8
              have HK := hidMk hK
              have HOK := hidMk okK
              have HPX := hidMk (HNX.out K hK)
              have hAl : (A ++ K).length ≤ 2600000000000 := by
                have h1 := HPX.out.le HD.out
                have h2 := HDL.out
                rw [HSE.out] at h1
                simp only [List.nil_append, List.append_assoc, List.length_append] at h1 ⊢
                omega
              have HAL := hidMk hAl
              have hkl : K.length ≤ 2600000000000 := by rw [List.length_append] at hAl; omega
              obtain ⟨kn, hkn⟩ : ∃ kn, K.length = kn := ⟨_, rfl⟩
              rw [hkn] at hkl hkv
              have HKN := hidMk hkn
              have HKV := hidMk hkv
              subst hkv
              clear hkn hAl ki8 hK okK ownK b8 HKV
              generalize wr = wp at *
              go_wp2
              go_loopw [5, 13] (fun v5 v13 wr => ∃ k : Nat, v13 = .int .i64 (k : Int) ∧ k ≤ kn ∧ KI w6 w7.heap.size (.slice ak kn ck) K wr v5 (A ++ K.take k)) (fun v5 v13 wr => kn - (match v13 with | .int _ i => i.toNat | _ => 0))
              case atStart => exact ⟨0, rfl, Nat.zero_le _, KI8.out⟩
              case round =>
                obtain ⟨k, rfl, hkk, ki⟩ := hrel
                have ok5 : ∀ y ∈ A ++ K.take k, y.ok := fun y hy => HPX.out.ok HD.out y (by
                  rw [HSE.out]
                  rcases List.mem_append.1 hy with q | q
                  · simp only [List.mem_append] at q ⊢; exact Or.inl q
                  · simp [List.mem_of_mem_take q])
                obtain ⟨a7, c7, hv7, _, _⟩ := ki.own.open ok5
                obtain ⟨l7, hl7⟩ : ∃ l7, (A ++ K.take k).length = l7 := ⟨_, rfl⟩
                rw [hl7] at hv7
                subst hv7
                clear hl7 ok5
                by_cases hk : k < kn
                · obtain ⟨y, hyk⟩ : ∃ x, K[k]? = some x := ⟨_, List.getElem?_eq_getElem (by rw [HKN.out]; exact hk)⟩
                  have hyo := HOK.out y (List.mem_of_getElem? hyk)
                  have hund := (HK.out.mem y).1 (List.mem_of_getElem? hyk)
                  have HEU := hidMk hund.nd.2.1
                  have HEO := hidMk (show ((f y).isSome && !(nd f y).pr) = true by rw [hund.nd.2.2, hund.nd.1]; rfl)
                  have HTK2 := hidMk (show A ++ K.take (k + 1) = (A ++ K.take k) ++ [y] by rw [List.take_add_one, hyk, Option.toList_some]; exact (List.append_assoc _ _ _).symm)
                  have HLW := hidMk (show (A ++ K.take k).length ≤ 5000000000000 by have := HAL.out; rw [List.length_append] at this ⊢; rw [List.length_take]; omega)
                  obtain ⟨bk, ok2, rfl, hldk⟩ := (ki.form HOK.out rfl).ld HOK.out hyk
                  have HLK := hidMk hldk
                  have HYK := hidMk hyk
                  have LY := hidMk (hldk k y hyk wr (Below.refl _ _))
                  have HKI := hidMk ki
                  have belr := ki.bel
                  clear hyk hund hldk ki
                  go_upto_region 26 with fail
                  refine kids26 (.pointer (some ⟨s0.t, 0, none⟩)) (.slice (some ⟨bk, ok2, none⟩) kn ck) (.int .i64 (k : Int)) (.pointer (some ⟨bk, ok2 + k * 33, none⟩)) y.v x.v (.string (nd f y).key) (.bool true) (Boxed wr x) _ wr _ rfl rfl rfl rfl (HUB.out wr belr y x true hyo HEU.out HEO.out) (fun W => ix_id hk (by omega) W) LY.out ?_
                  rintro p a' w11 ⟨nb2, rfl, i11, b91, hnbl2, z11⟩ ha
                  subst ha
                  simp only [Act.put, List.setIfInBounds_toArray, List.set_cons_zero, List.set_cons_succ]
                  clear LY hnbl2
                  go_upto_region 27 with fail
                  have c11 := belr.trans (b91.mono belr.size)
                  refine kids27 (fun W => Below w11.heap.size w11 W) nb2 (.slice (some ⟨b, o, none⟩) q cn) (.int .i64 (i : Int)) (.pointer (some ⟨b, o + i * 33, none⟩)) x.v _ w11 _ rfl rfl rfl rfl rfl (Below.refl _ _).drew (fun W hW => load_id hxo ((hW.block _ z11).trans i11)) (fun W => ix_id hi (by omega) W) (fun W hW => HLD.out i x HXI.out W (c11.trans (hW.mono c11.size))) (fun W => guard_id _ _ x x _ _) (fun W hW => by rw [neq_id x x hxo hxo]; simp) ?_
                  intro a' w12 hw12 ha
                  subst ha
                  simp only [Act.put, List.setIfInBounds_toArray, List.set_cons_zero, List.set_cons_succ]
                  have b12 := b91.trans (hw12.mono b91.size)
                  have KI12 := hidMk (HKI.out.below b12)
                  have BB12 := hidMk b12
                  clear i11 z11 b91 c11 hw12 b12 belr HKI HEU HEO
                  obtain ⟨ky, hky⟩ : ∃ ky, (nd f y).key = ky := ⟨_, rfl⟩
                  have HKY := hidMk hky
                  rw [hky]
                  clear hky
                  rcases k with _ | k1
                  · have LY := hidMk (HLK.out 0 y HYK.out w12 BB12.out)
                    obtain ⟨wq1, qv, wq2, eq1, eq2, kiq⟩ := KI12.out.push hyo HLW.out
                    have EQ1 := hidMk eq1
                    have EQ2 := hidMk eq2
                    have KIQ := hidMk kiq
                    clear eq1 eq2 kiq
                    go_upto_region 33 with fail
                    refine kids33 (.slice a7 l7 c7) (.slice (some ⟨bk, ok2, none⟩) kn ck) (.int .i64 ((0 : Nat) : Int)) (.pointer (some ⟨bk, ok2 + 0 * 33, none⟩)) y.v (.slice (some ⟨w12.heap.size, 0, none⟩) 1 1) qv wq1 wq2 _ w12 _ rfl rfl rfl rfl EQ1.out EQ2.out (fun W => ix_id hk (by omega) W) LY.out ?_
                    intro a' w' hw' ha
                    subst hw' ha
                    simp only [Act.put, List.setIfInBounds_toArray, List.set_cons_zero, List.set_cons_succ]
                    go_wp2
                    refine ⟨⟨0 + 1, rfl, hk, by rw [HTK2.out]; exact KIQ.out⟩, ?_⟩
                    show kn - ((0 + 1 : Nat) : Int).toNat < kn - ((0 : Nat) : Int).toNat
                    omega
                  · obtain ⟨z, hzk⟩ : ∃ x, K[k1]? = some x := ⟨_, List.getElem?_eq_getElem (by rw [HKN.out]; omega)⟩
                    have hzo := HOK.out z (List.mem_of_getElem? hzk)
                    have hundz := (HK.out.mem z).1 (List.mem_of_getElem? hzk)
                    have HEU := hidMk hundz.nd.2.1
                    have HEO := hidMk (show ((f z).isSome && !(nd f z).pr) = true by rw [hundz.nd.2.2, hundz.nd.1]; rfl)
                    obtain ⟨kz, hkz⟩ : ∃ kz, (nd f z).key = kz := ⟨_, rfl⟩
                    have HKZ := hidMk hkz
                    have hlt : (Op.bytesLess kz.toList ky.toList = true) ∨ (kz.toList = ky.toList ∧ cId z y < 0) := by
                      rw [← HKZ.out, ← HKY.out]
                      exact bl_key (by
                        have hs := HK.out.srt
                        obtain ⟨h1, e1⟩ := List.getElem?_eq_some_iff.1 hzk
                        obtain ⟨h2, e2⟩ := List.getElem?_eq_some_iff.1 HYK.out
                        have := (List.pairwise_iff_getElem.1 hs) k1 (k1 + 1) h1 h2 (by omega)
                        rw [e1, e2] at this
                        exact this)
                    have HLT := hidMk hlt
                    have LZ := hidMk (HLK.out k1 z hzk w12 BB12.out)
                    have HZK := hidMk hzk
                    have bel12 := KI12.out.bel
                    have hkp : (0 : Int) < ((k1 + 1 : Nat) : Int) := by omega
                    have hsub : (((k1 + 1 : Nat) : Int) - 1) = (k1 : Int) := by omega
                    have HSUB := hidMk hsub
                    clear hzk hundz hlt hkz
                    obtain ⟨kk, hkkn⟩ : ∃ kk, k1 + 1 = kk := ⟨_, rfl⟩
                    rw [hkkn] at hkp hsub hkk hk HTK2 HLW KI12 HYK ⊢
                    have HKK := hidMk hkkn
                    clear hkkn
                    go_upto_region 30 with fail
                    refine kids30 (.pointer (some ⟨s0.t, 0, none⟩)) (.slice (some ⟨bk, ok2, none⟩) kn ck) (.int .i64 (kk : Int)) (.int .i64 (k1 : Int)) (.pointer (some ⟨bk, ok2 + k1 * 33, none⟩)) z.v x.v (.string kz) (.bool true) (Boxed w12 x) _ w12 _ rfl rfl rfl rfl (by have := HUB.out w12 bel12 z x true hzo HEU.out HEO.out; rw [HKZ.out] at this; exact this) (fun W => by go_simp) (fun W => sub_run HKK.out (by omega) W) (fun W => ix_id (by have := HKK.out; omega) (by omega) W) LZ.out ?_
                    rintro p a' w15 ⟨nb3, rfl, i15, b135, hnbl3, z15⟩ ha
                    subst ha
                    simp only [Act.put, List.setIfInBounds_toArray, List.set_cons_zero, List.set_cons_succ]
                    clear LZ hnbl3
                    go_upto_region 31 with fail
                    have b125 := BB12.out.trans (b135.mono BB12.out.size)
                    have KI15 := hidMk (KI12.out.below b135)
                    clear i15 z15 bel12 hkp hsub
                    rcases HLT.out with hlt | ⟨heq, hci⟩
                    · have hne : kz.toList ≠ ky.toList := fun e => by rw [e, bl_irrefl] at hlt; cases hlt
                      have hge := bl_asymm hlt
                      refine kids31l (fun W => Below w15.heap.size w15 W) kz ky (.slice (some ⟨bk, ok2, none⟩) kn ck) (.int .i64 (kk : Int)) _ w15 _ rfl rfl rfl rfl rfl (Below.refl _ _).drew (fun W => by go_simp) (fun W hW => by go_simp; first | done | simp [hge]) (fun W => by go_simp) (fun W hW => by go_simp; first | done | simp [hne]) ?_
                      intro a' w16 hw16 ha
                      subst ha
                      simp only [Act.put, List.setIfInBounds_toArray, List.set_cons_zero, List.set_cons_succ]
                      have LY := hidMk (HLK.out kk y HYK.out w16 (b125.trans (hw16.mono b125.size)))
                      have KI16 := hidMk (KI15.out.below hw16)
                      clear hlt hne hge hw16 b125 b135
                      obtain ⟨wq1, qv, wq2, eq1, eq2, kiq⟩ := KI16.out.push hyo HLW.out
                      have EQ1 := hidMk eq1
                      have EQ2 := hidMk eq2
                      have KIQ := hidMk kiq
                      clear eq1 eq2 kiq
                      go_upto_region 33 with fail
                      refine kids33 (.slice a7 l7 c7) (.slice (some ⟨bk, ok2, none⟩) kn ck) (.int .i64 (kk : Int)) (.pointer (some ⟨bk, ok2 + kk * 33, none⟩)) y.v (.slice (some ⟨w16.heap.size, 0, none⟩) 1 1) qv wq1 wq2 _ w16 _ rfl rfl rfl rfl EQ1.out EQ2.out (fun W => ix_id hk (by omega) W) LY.out ?_
                      intro a' w' hw' ha
                      subst hw' ha
                      simp only [Act.put, List.setIfInBounds_toArray, List.set_cons_zero, List.set_cons_succ]
                      go_wp2
                      rw [show ((kk : Int) + 1) = ((kk + 1 : Nat) : Int) by omega]
                      refine ⟨⟨kk + 1, rfl, hk, by rw [HTK2.out]; exact KIQ.out⟩, ?_⟩
                      have hkq := HKK.out
                      show kn - ((kk + 1 : Nat) : Int).toNat < kn - ((k1 + 1 : Nat) : Int).toNat
                      omega
                    · have hne : Op.bytesLess ky.toList kz.toList = false := by rw [heq]; exact bl_irrefl _
                      have heq2 : (kz.toList == ky.toList) = true := by simp [heq]
                      refine kids31e (fun W => Below w15.heap.size w15 W) kz ky (.slice (some ⟨bk, ok2, none⟩) kn ck) (.int .i64 (kk : Int)) (.int .i64 (k1 : Int)) (.pointer (some ⟨bk, ok2 + k1 * 33, none⟩)) (.pointer (some ⟨bk, ok2 + kk * 33, none⟩)) y.v z.v _ w15 _ rfl rfl rfl rfl rfl (Below.refl _ _).drew (fun W hW => ?_) (fun W => by go_simp) (fun W hW => by go_simp; first | done | simp [hne]) (fun W => by go_simp) (fun W hW => by go_simp; first | done | simp [heq]) (fun W => by go_simp) (fun W hW => ?_) (fun W => ix_id (by have := HKK.out; omega) (by omega) W) (fun W hW => HLK.out k1 z HZK.out W (b125.trans (hW.mono b125.size))) (fun W => ix_id hk (by omega) W) (fun W hW => HLK.out kk y HYK.out W (b125.trans (hW.mono b125.size))) ?_
                      · refine (lower_any z y W hzo hyo).mono ?_
                        rintro e w' ⟨rfl, bw⟩
                        exact ⟨by rw [decide_eq_true hci], hW.trans (bw.mono hW.size)⟩
                      · exact sub_run HKK.out (by omega) W
                      intro a' w16 hw16 ha
                      subst ha
                      simp only [Act.put, List.setIfInBounds_toArray, List.set_cons_zero, List.set_cons_succ]
                      have LY := hidMk (HLK.out kk y HYK.out w16 (b125.trans (hw16.mono b125.size)))
                      have KI16 := hidMk (KI15.out.below hw16)
                      clear heq heq2 hci hne hw16 b125 b135
                      obtain ⟨wq1, qv, wq2, eq1, eq2, kiq⟩ := KI16.out.push hyo HLW.out
                      have EQ1 := hidMk eq1
                      have EQ2 := hidMk eq2
                      have KIQ := hidMk kiq
                      clear eq1 eq2 kiq
                      go_upto_region 33 with fail
                      refine kids33 (.slice a7 l7 c7) (.slice (some ⟨bk, ok2, none⟩) kn ck) (.int .i64 (kk : Int)) (.pointer (some ⟨bk, ok2 + kk * 33, none⟩)) y.v (.slice (some ⟨w16.heap.size, 0, none⟩) 1 1) qv wq1 wq2 _ w16 _ rfl rfl rfl rfl EQ1.out EQ2.out (fun W => ix_id hk (by omega) W) LY.out ?_
                      intro a' w' hw' ha
                      subst hw' ha
                      simp only [Act.put, List.setIfInBounds_toArray, List.set_cons_zero, List.set_cons_succ]
                      go_wp2
                      rw [show ((kk : Int) + 1) = ((kk + 1 : Nat) : Int) by omega]
                      refine ⟨⟨kk + 1, rfl, hk, by rw [HTK2.out]; exact KIQ.out⟩, ?_⟩
                      have hkq := HKK.out
                      show kn - ((kk + 1 : Nat) : Int).toNat < kn - ((k1 + 1 : Nat) : Int).toNat
                      omega
                · obtain rfl : kn = k := by omega
                  have hfin : A ++ K.take kn = A ++ (selfL f x ++ K) := by rw [List.take_of_length_le (by rw [HKN.out]; exact Nat.le_refl _), HSE.out]; simp
                  have ki2 := ki
                  rw [hfin] at ki2
                  have HKI := hidMk ki2
                  clear ki ki2 hfin hkk hk
                  go_wp2
                  rw [show ((i : Int) + 1) = ((i + 1 : Nat) : Int) by omega]
                  refine ⟨⟨i + 1, _, rfl, hi, HKI.out.bel, HKI.out.own, HPX.out⟩, ?_⟩
                  show q - ((i + 1 : Nat) : Int).toNat < q - (i : Int).toNat
                  omega
            | true =>
              obtain ⟨lx, px, hcx⟩ := HF.out.ends x
              obtain ⟨dx, hdx⟩ : ∃ dx, lx.length = dx := ⟨_, rfl⟩
              have HDX := hidMk (fun d (h : DeepIs f x d) => show d = (dx : Int) by rw [← hdx]; exact h.unique (Or.inr ⟨hs, lx, px, hcx, rfl⟩))
              clear hcx hdx
              cases hpr : (nd f x).pr with
              | true =>
                obtain rfl : okb = false := by rw [← HOKX.out, hs, hpr]; rfl
                have hse : selfL f x = [x] := by unfold selfL; rw [if_pos ⟨hs, hpr⟩]
                have HSE := hidMk hse
                clear hs hpr hse
                have CD5 : Hid (Calls Try.prog 18 #[.pointer (some ⟨s0.t, 0, none⟩), x.v] w5 fun e w' => e = .returned (.int .i64 (dx : Int)) ∧ Below w5.heap.size w5 w') := (HDP.out w5 CW5.out x hxo).mono fun e w' ⟨d, he, hd, b⟩ => ⟨by rw [he, HDX.out d hd], b⟩
                go_upto_region 20 with fail
                refine kids20a (.pointer (some ⟨s0.t, 0, none⟩)) (.slice (some ⟨b, o, none⟩) q cn) (.int .i64 (i : Int)) (.pointer (some ⟨b, o + i * 33, none⟩)) x.v (.int .i64 (dx : Int)) (fun w' => Below w5.heap.size w5 w') _ w5 _ rfl rfl rfl rfl rfl CD5.out (fun W => ix_id hi (by omega) W) LX5.out (fun W => by go_simp) (fun W => by go_simp) ?_
                intro a' w7 b7 ha
                subst ha
                simp only [Act.put, List.setIfInBounds_toArray, List.set_cons_zero, List.set_cons_succ]
                have CS7 := hidMk (CW5.out.trans (b7.mono CW5.out.size))
                have OWS7 := hidMk (OW5.out.below b7)
                have LXS7 := hidMk (HLD.out i x HXI.out w7 CS7.out)
                clear CD5 b7 LX5 CW5 OW5
                obtain ⟨w71, v72, w72, e71, e72, o72, b72, k72, q72, z72⟩ := push_any OWS7.out hxo (by have := HL5.out; omega) CS7.out.size
                have E71 := hidMk e71
                have E72 := hidMk e72
                have CS := hidMk (CS7.out.trans b72)
                have OWS := hidMk o72
                have LXS := hidMk (HLD.out i x HXI.out w72 CS.out)
                clear e71 e72 k72 q72 z72 b72 o72
                go_upto_region 21 with fail
                refine kids21 (.slice a5 l5 c5) (.slice (some ⟨b, o, none⟩) q cn) (.int .i64 (i : Int)) (.pointer (some ⟨b, o + i * 33, none⟩)) x.v (.slice (some ⟨w7.heap.size, 0, none⟩) 1 1) v72 w71 w72 _ w7 _ rfl rfl rfl rfl E71.out E72.out (fun W => ix_id hi (by omega) W) LXS7.out ?_
                intro a' w' hw' ha
                obtain rfl : w72 = w' := hw'.symm
                subst ha
                simp only [Act.put, List.setIfInBounds_toArray, List.set_cons_zero, List.set_cons_succ]
                clear E71 E72 CS7 OWS7 LXS7
                go_upto_region 22 with fail
                refine kids22 (.pointer (some ⟨s0.t, 0, none⟩)) (.slice (some ⟨b, o, none⟩) q cn) (.int .i64 (i : Int)) (.pointer (some ⟨b, o + i * 33, none⟩)) x.v (fun kv w' => ∃ L, OwnI w' w72.heap.size kv L ∧ IsKids f x L ∧ Below w72.heap.size w72 w') _ w72 _ rfl rfl rfl rfl ((HKD.out w72 CS.out x hxo).mono fun e w' ⟨v, L, h1, h2, h3, h4⟩ => ⟨v, h1, L, h2, h3, h4⟩) (fun W => ix_id hi (by omega) W) LXS.out ?_
                rintro kv a' w8 ⟨K, ownK, hK, b8⟩ ha
                subst ha
                simp only [Act.put, List.setIfInBounds_toArray, List.set_cons_zero, List.set_cons_succ]
                clear LXS
                have okK : ∀ y ∈ K, y.ok := hK.ok
                obtain ⟨ak, ck, hkv, _, _⟩ := ownK.open okK
                have ki8 : KI w6 w72.heap.size kv K w8 (v72) ((A ++ [x]) ++ K.take 0) := ⟨CS.out.trans (b8.mono CS.out.size), by rw [List.take_zero, List.append_nil]; exact OWS.out.below b8, ownK, fun j hj e => by have h1 := OWS.out.lt hj; have h2 := (ownK.ge j e).1; omega⟩
                have KI8 := hidMk ki8
                have HK := hidMk hK
                have HOK := hidMk okK
                have HPX := hidMk (HNX.out K hK)
                have hAl : ((A ++ [x]) ++ K).length ≤ 2600000000000 := by
                  have h1 := HPX.out.le HD.out
                  have h2 := HDL.out
                  rw [HSE.out] at h1
                  simp only [List.nil_append, List.append_assoc, List.length_append] at h1 ⊢
                  omega
                have HAL := hidMk hAl
                have hkl : K.length ≤ 2600000000000 := by rw [List.length_append] at hAl; omega
                obtain ⟨kn, hkn⟩ : ∃ kn, K.length = kn := ⟨_, rfl⟩
                rw [hkn] at hkl hkv
                have HKN := hidMk hkn
                have HKV := hidMk hkv
                subst hkv
                clear hkn hAl ki8 hK okK ownK b8 HKV
                generalize wr = wp at *
                go_wp2
                go_loopw [5, 13] (fun v5 v13 wr => ∃ k : Nat, v13 = .int .i64 (k : Int) ∧ k ≤ kn ∧ KI w6 w72.heap.size (.slice ak kn ck) K wr v5 ((A ++ [x]) ++ K.take k)) (fun v5 v13 wr => kn - (match v13 with | .int _ i => i.toNat | _ => 0))
                case atStart => exact ⟨0, rfl, Nat.zero_le _, KI8.out⟩
                case round =>
                  obtain ⟨k, rfl, hkk, ki⟩ := hrel
                  have ok5 : ∀ y ∈ (A ++ [x]) ++ K.take k, y.ok := fun y hy => HPX.out.ok HD.out y (by
                    rw [HSE.out]
                    rcases List.mem_append.1 hy with q | q
                    · simp only [List.mem_append] at q ⊢; exact q.elim Or.inl (fun h => Or.inr (Or.inl h))
                    · simp [List.mem_of_mem_take q])
                  obtain ⟨a7, c7, hv7, _, _⟩ := ki.own.open ok5
                  obtain ⟨l7, hl7⟩ : ∃ l7, ((A ++ [x]) ++ K.take k).length = l7 := ⟨_, rfl⟩
                  rw [hl7] at hv7
                  subst hv7
                  clear hl7 ok5
                  by_cases hk : k < kn
                  · obtain ⟨y, hyk⟩ : ∃ x, K[k]? = some x := ⟨_, List.getElem?_eq_getElem (by rw [HKN.out]; exact hk)⟩
                    have hyo := HOK.out y (List.mem_of_getElem? hyk)
                    have hund := (HK.out.mem y).1 (List.mem_of_getElem? hyk)
                    have HEU := hidMk hund.nd.2.1
                    have HEO := hidMk (show ((f y).isSome && !(nd f y).pr) = true by rw [hund.nd.2.2, hund.nd.1]; rfl)
                    have HTK2 := hidMk (show (A ++ [x]) ++ K.take (k + 1) = ((A ++ [x]) ++ K.take k) ++ [y] by rw [List.take_add_one, hyk, Option.toList_some]; exact (List.append_assoc _ _ _).symm)
                    have HLW := hidMk (show ((A ++ [x]) ++ K.take k).length ≤ 5000000000000 by have := HAL.out; rw [List.length_append] at this ⊢; rw [List.length_take]; omega)
                    obtain ⟨bk, ok2, rfl, hldk⟩ := (ki.form HOK.out rfl).ld HOK.out hyk
                    have HLK := hidMk hldk
                    have HYK := hidMk hyk
                    have LY := hidMk (hldk k y hyk wr (Below.refl _ _))
                    have HKI := hidMk ki
                    have belr := ki.bel
                    clear hyk hund hldk ki
                    go_upto_region 26 with fail
                    refine kids26 (.pointer (some ⟨s0.t, 0, none⟩)) (.slice (some ⟨bk, ok2, none⟩) kn ck) (.int .i64 (k : Int)) (.pointer (some ⟨bk, ok2 + k * 33, none⟩)) y.v x.v (.string (nd f y).key) (.bool true) (Boxed wr x) _ wr _ rfl rfl rfl rfl (HUB.out wr belr y x true hyo HEU.out HEO.out) (fun W => ix_id hk (by omega) W) LY.out ?_
                    rintro p a' w11 ⟨nb2, rfl, i11, b91, hnbl2, z11⟩ ha
                    subst ha
                    simp only [Act.put, List.setIfInBounds_toArray, List.set_cons_zero, List.set_cons_succ]
                    clear LY hnbl2
                    go_upto_region 27 with fail
                    have c11 := belr.trans (b91.mono belr.size)
                    refine kids27 (fun W => Below w11.heap.size w11 W) nb2 (.slice (some ⟨b, o, none⟩) q cn) (.int .i64 (i : Int)) (.pointer (some ⟨b, o + i * 33, none⟩)) x.v _ w11 _ rfl rfl rfl rfl rfl (Below.refl _ _).drew (fun W hW => load_id hxo ((hW.block _ z11).trans i11)) (fun W => ix_id hi (by omega) W) (fun W hW => HLD.out i x HXI.out W (c11.trans (hW.mono c11.size))) (fun W => guard_id _ _ x x _ _) (fun W hW => by rw [neq_id x x hxo hxo]; simp) ?_
                    intro a' w12 hw12 ha
                    subst ha
                    simp only [Act.put, List.setIfInBounds_toArray, List.set_cons_zero, List.set_cons_succ]
                    have b12 := b91.trans (hw12.mono b91.size)
                    have KI12 := hidMk (HKI.out.below b12)
                    have BB12 := hidMk b12
                    clear i11 z11 b91 c11 hw12 b12 belr HKI HEU HEO
                    obtain ⟨ky, hky⟩ : ∃ ky, (nd f y).key = ky := ⟨_, rfl⟩
                    have HKY := hidMk hky
                    rw [hky]
                    clear hky
                    rcases k with _ | k1
                    · have LY := hidMk (HLK.out 0 y HYK.out w12 BB12.out)
                      obtain ⟨wq1, qv, wq2, eq1, eq2, kiq⟩ := KI12.out.push hyo HLW.out
                      have EQ1 := hidMk eq1
                      have EQ2 := hidMk eq2
                      have KIQ := hidMk kiq
                      clear eq1 eq2 kiq
                      go_upto_region 33 with fail
                      refine kids33 (.slice a7 l7 c7) (.slice (some ⟨bk, ok2, none⟩) kn ck) (.int .i64 ((0 : Nat) : Int)) (.pointer (some ⟨bk, ok2 + 0 * 33, none⟩)) y.v (.slice (some ⟨w12.heap.size, 0, none⟩) 1 1) qv wq1 wq2 _ w12 _ rfl rfl rfl rfl EQ1.out EQ2.out (fun W => ix_id hk (by omega) W) LY.out ?_
                      intro a' w' hw' ha
                      subst hw' ha
                      simp only [Act.put, List.setIfInBounds_toArray, List.set_cons_zero, List.set_cons_succ]
                      go_wp2
                      refine ⟨⟨0 + 1, rfl, hk, by rw [HTK2.out]; exact KIQ.out⟩, ?_⟩
                      show kn - ((0 + 1 : Nat) : Int).toNat < kn - ((0 : Nat) : Int).toNat
                      omega
                    · obtain ⟨z, hzk⟩ : ∃ x, K[k1]? = some x := ⟨_, List.getElem?_eq_getElem (by rw [HKN.out]; omega)⟩
                      have hzo := HOK.out z (List.mem_of_getElem? hzk)
                      have hundz := (HK.out.mem z).1 (List.mem_of_getElem? hzk)
                      have HEU := hidMk hundz.nd.2.1
                      have HEO := hidMk (show ((f z).isSome && !(nd f z).pr) = true by rw [hundz.nd.2.2, hundz.nd.1]; rfl)
                      obtain ⟨kz, hkz⟩ : ∃ kz, (nd f z).key = kz := ⟨_, rfl⟩
                      have HKZ := hidMk hkz
                      have hlt : (Op.bytesLess kz.toList ky.toList = true) ∨ (kz.toList = ky.toList ∧ cId z y < 0) := by
                        rw [← HKZ.out, ← HKY.out]
                        exact bl_key (by
                          have hs := HK.out.srt
                          obtain ⟨h1, e1⟩ := List.getElem?_eq_some_iff.1 hzk
                          obtain ⟨h2, e2⟩ := List.getElem?_eq_some_iff.1 HYK.out
                          have := (List.pairwise_iff_getElem.1 hs) k1 (k1 + 1) h1 h2 (by omega)
                          rw [e1, e2] at this
                          exact this)
                      have HLT := hidMk hlt
                      have LZ := hidMk (HLK.out k1 z hzk w12 BB12.out)
                      have HZK := hidMk hzk
                      have bel12 := KI12.out.bel
                      have hkp : (0 : Int) < ((k1 + 1 : Nat) : Int) := by omega
                      have hsub : (((k1 + 1 : Nat) : Int) - 1) = (k1 : Int) := by omega
                      have HSUB := hidMk hsub
                      clear hzk hundz hlt hkz
                      obtain ⟨kk, hkkn⟩ : ∃ kk, k1 + 1 = kk := ⟨_, rfl⟩
                      rw [hkkn] at hkp hsub hkk hk HTK2 HLW KI12 HYK ⊢
                      have HKK := hidMk hkkn
                      clear hkkn
                      go_upto_region 30 with fail
                      refine kids30 (.pointer (some ⟨s0.t, 0, none⟩)) (.slice (some ⟨bk, ok2, none⟩) kn ck) (.int .i64 (kk : Int)) (.int .i64 (k1 : Int)) (.pointer (some ⟨bk, ok2 + k1 * 33, none⟩)) z.v x.v (.string kz) (.bool true) (Boxed w12 x) _ w12 _ rfl rfl rfl rfl (by have := HUB.out w12 bel12 z x true hzo HEU.out HEO.out; rw [HKZ.out] at this; exact this) (fun W => by go_simp) (fun W => sub_run HKK.out (by omega) W) (fun W => ix_id (by have := HKK.out; omega) (by omega) W) LZ.out ?_
                      rintro p a' w15 ⟨nb3, rfl, i15, b135, hnbl3, z15⟩ ha
                      subst ha
                      simp only [Act.put, List.setIfInBounds_toArray, List.set_cons_zero, List.set_cons_succ]
                      clear LZ hnbl3
                      go_upto_region 31 with fail
                      have b125 := BB12.out.trans (b135.mono BB12.out.size)
                      have KI15 := hidMk (KI12.out.below b135)
                      clear i15 z15 bel12 hkp hsub
                      rcases HLT.out with hlt | ⟨heq, hci⟩
                      · have hne : kz.toList ≠ ky.toList := fun e => by rw [e, bl_irrefl] at hlt; cases hlt
                        have hge := bl_asymm hlt
                        refine kids31l (fun W => Below w15.heap.size w15 W) kz ky (.slice (some ⟨bk, ok2, none⟩) kn ck) (.int .i64 (kk : Int)) _ w15 _ rfl rfl rfl rfl rfl (Below.refl _ _).drew (fun W => by go_simp) (fun W hW => by go_simp; first | done | simp [hge]) (fun W => by go_simp) (fun W hW => by go_simp; first | done | simp [hne]) ?_
                        intro a' w16 hw16 ha
                        subst ha
                        simp only [Act.put, List.setIfInBounds_toArray, List.set_cons_zero, List.set_cons_succ]
                        have LY := hidMk (HLK.out kk y HYK.out w16 (b125.trans (hw16.mono b125.size)))
                        have KI16 := hidMk (KI15.out.below hw16)
                        clear hlt hne hge hw16 b125 b135
                        obtain ⟨wq1, qv, wq2, eq1, eq2, kiq⟩ := KI16.out.push hyo HLW.out
                        have EQ1 := hidMk eq1
                        have EQ2 := hidMk eq2
                        have KIQ := hidMk kiq
                        clear eq1 eq2 kiq
                        go_upto_region 33 with fail
                        refine kids33 (.slice a7 l7 c7) (.slice (some ⟨bk, ok2, none⟩) kn ck) (.int .i64 (kk : Int)) (.pointer (some ⟨bk, ok2 + kk * 33, none⟩)) y.v (.slice (some ⟨w16.heap.size, 0, none⟩) 1 1) qv wq1 wq2 _ w16 _ rfl rfl rfl rfl EQ1.out EQ2.out (fun W => ix_id hk (by omega) W) LY.out ?_
                        intro a' w' hw' ha
                        subst hw' ha
                        simp only [Act.put, List.setIfInBounds_toArray, List.set_cons_zero, List.set_cons_succ]
                        go_wp2
                        rw [show ((kk : Int) + 1) = ((kk + 1 : Nat) : Int) by omega]
                        refine ⟨⟨kk + 1, rfl, hk, by rw [HTK2.out]; exact KIQ.out⟩, ?_⟩
                        have hkq := HKK.out
                        show kn - ((kk + 1 : Nat) : Int).toNat < kn - ((k1 + 1 : Nat) : Int).toNat
                        omega
                      · have hne : Op.bytesLess ky.toList kz.toList = false := by rw [heq]; exact bl_irrefl _
                        have heq2 : (kz.toList == ky.toList) = true := by simp [heq]
                        refine kids31e (fun W => Below w15.heap.size w15 W) kz ky (.slice (some ⟨bk, ok2, none⟩) kn ck) (.int .i64 (kk : Int)) (.int .i64 (k1 : Int)) (.pointer (some ⟨bk, ok2 + k1 * 33, none⟩)) (.pointer (some ⟨bk, ok2 + kk * 33, none⟩)) y.v z.v _ w15 _ rfl rfl rfl rfl rfl (Below.refl _ _).drew (fun W hW => ?_) (fun W => by go_simp) (fun W hW => by go_simp; first | done | simp [hne]) (fun W => by go_simp) (fun W hW => by go_simp; first | done | simp [heq]) (fun W => by go_simp) (fun W hW => ?_) (fun W => ix_id (by have := HKK.out; omega) (by omega) W) (fun W hW => HLK.out k1 z HZK.out W (b125.trans (hW.mono b125.size))) (fun W => ix_id hk (by omega) W) (fun W hW => HLK.out kk y HYK.out W (b125.trans (hW.mono b125.size))) ?_
                        · refine (lower_any z y W hzo hyo).mono ?_
                          rintro e w' ⟨rfl, bw⟩
                          exact ⟨by rw [decide_eq_true hci], hW.trans (bw.mono hW.size)⟩
                        · exact sub_run HKK.out (by omega) W
                        intro a' w16 hw16 ha
                        subst ha
                        simp only [Act.put, List.setIfInBounds_toArray, List.set_cons_zero, List.set_cons_succ]
                        have LY := hidMk (HLK.out kk y HYK.out w16 (b125.trans (hw16.mono b125.size)))
                        have KI16 := hidMk (KI15.out.below hw16)
                        clear heq heq2 hci hne hw16 b125 b135
                        obtain ⟨wq1, qv, wq2, eq1, eq2, kiq⟩ := KI16.out.push hyo HLW.out
                        have EQ1 := hidMk eq1
                        have EQ2 := hidMk eq2
                        have KIQ := hidMk kiq
                        clear eq1 eq2 kiq
                        go_upto_region 33 with fail
                        refine kids33 (.slice a7 l7 c7) (.slice (some ⟨bk, ok2, none⟩) kn ck) (.int .i64 (kk : Int)) (.pointer (some ⟨bk, ok2 + kk * 33, none⟩)) y.v (.slice (some ⟨w16.heap.size, 0, none⟩) 1 1) qv wq1 wq2 _ w16 _ rfl rfl rfl rfl EQ1.out EQ2.out (fun W => ix_id hk (by omega) W) LY.out ?_
                        intro a' w' hw' ha
                        subst hw' ha
                        simp only [Act.put, List.setIfInBounds_toArray, List.set_cons_zero, List.set_cons_succ]
                        go_wp2
                        rw [show ((kk : Int) + 1) = ((kk + 1 : Nat) : Int) by omega]
                        refine ⟨⟨kk + 1, rfl, hk, by rw [HTK2.out]; exact KIQ.out⟩, ?_⟩
                        have hkq := HKK.out
                        show kn - ((kk + 1 : Nat) : Int).toNat < kn - ((k1 + 1 : Nat) : Int).toNat
                        omega
                  · obtain rfl : kn = k := by omega
                    have hfin : (A ++ [x]) ++ K.take kn = A ++ (selfL f x ++ K) := by rw [List.take_of_length_le (by rw [HKN.out]; exact Nat.le_refl _), HSE.out]; simp
                    have ki2 := ki
                    rw [hfin] at ki2
                    have HKI := hidMk ki2
                    clear ki ki2 hfin hkk hk
                    go_wp2
                    rw [show ((i : Int) + 1) = ((i + 1 : Nat) : Int) by omega]
                    refine ⟨⟨i + 1, _, rfl, hi, HKI.out.bel, HKI.out.own, HPX.out⟩, ?_⟩
                    show q - ((i + 1 : Nat) : Int).toNat < q - (i : Int).toNat
                    omega
              | false =>
                obtain rfl : okb = true := by rw [← HOKX.out, hs, hpr]; rfl
                have HSE := hidMk (show selfL f x = [] by unfold selfL; rw [if_neg (by rw [hpr]; simp)])
                clear hs hpr
                have CD5 : Hid (Calls Try.prog 18 #[.pointer (some ⟨s0.t, 0, none⟩), x.v] w5 fun e w' => e = .returned (.int .i64 (dx : Int)) ∧ Below w5.heap.size w5 w') := (HDP.out w5 CW5.out x hxo).mono fun e w' ⟨d, he, hd, b⟩ => ⟨by rw [he, HDX.out d hd], b⟩
                go_upto_region 20 with fail
                refine kids20b (.pointer (some ⟨s0.t, 0, none⟩)) (.slice (some ⟨b, o, none⟩) q cn) (.int .i64 (i : Int)) (.pointer (some ⟨b, o + i * 33, none⟩)) x.v (.int .i64 (dx : Int)) (fun w' => Below w5.heap.size w5 w') _ w5 _ rfl rfl rfl rfl rfl CD5.out (fun W => ix_id hi (by omega) W) LX5.out (fun W => by go_simp) (fun W => by go_simp) ?_
                intro a' w7 b7 ha
                subst ha
                simp only [Act.put, List.setIfInBounds_toArray, List.set_cons_zero, List.set_cons_succ]
                have CS7 := hidMk (CW5.out.trans (b7.mono CW5.out.size))
                have OWS7 := hidMk (OW5.out.below b7)
                have LXS7 := hidMk (HLD.out i x HXI.out w7 CS7.out)
                clear CD5 b7 LX5 CW5 OW5
                have CS := CS7
                have OWS := OWS7
                have LXS := LXS7
                clear CS7 OWS7 LXS7
                go_upto_region 22 with fail
                refine kids22 (.pointer (some ⟨s0.t, 0, none⟩)) (.slice (some ⟨b, o, none⟩) q cn) (.int .i64 (i : Int)) (.pointer (some ⟨b, o + i * 33, none⟩)) x.v (fun kv w' => ∃ L, OwnI w' w7.heap.size kv L ∧ IsKids f x L ∧ Below w7.heap.size w7 w') _ w7 _ rfl rfl rfl rfl ((HKD.out w7 CS.out x hxo).mono fun e w' ⟨v, L, h1, h2, h3, h4⟩ => ⟨v, h1, L, h2, h3, h4⟩) (fun W => ix_id hi (by omega) W) LXS.out ?_
                rintro kv a' w8 ⟨K, ownK, hK, b8⟩ ha
                subst ha
                simp only [Act.put, List.setIfInBounds_toArray, List.set_cons_zero, List.set_cons_succ]
                clear LXS
                have okK : ∀ y ∈ K, y.ok := hK.ok
                obtain ⟨ak, ck, hkv, _, _⟩ := ownK.open okK
                have ki8 : KI w6 w7.heap.size kv K w8 (.slice a5 l5 c5) (A ++ K.take 0) := ⟨CS.out.trans (b8.mono CS.out.size), by rw [List.take_zero, List.append_nil]; exact OWS.out.below b8, ownK, fun j hj e => by have h1 := OWS.out.lt hj; have h2 := (ownK.ge j e).1; omega⟩
                have KI8 := hidMk ki8
                have HK := hidMk hK
                have HOK := hidMk okK
                have HPX := hidMk (HNX.out K hK)
                have hAl : (A ++ K).length ≤ 2600000000000 := by
                  have h1 := HPX.out.le HD.out
                  have h2 := HDL.out
                  rw [HSE.out] at h1
                  simp only [List.nil_append, List.append_assoc, List.length_append] at h1 ⊢
                  omega
                have HAL := hidMk hAl
                have hkl : K.length ≤ 2600000000000 := by rw [List.length_append] at hAl; omega
                obtain ⟨kn, hkn⟩ : ∃ kn, K.length = kn := ⟨_, rfl⟩
                rw [hkn] at hkl hkv
                have HKN := hidMk hkn
                have HKV := hidMk hkv
                subst hkv
                clear hkn hAl ki8 hK okK ownK b8 HKV
                generalize wr = wp at *
                go_wp2
                go_loopw [5, 13] (fun v5 v13 wr => ∃ k : Nat, v13 = .int .i64 (k : Int) ∧ k ≤ kn ∧ KI w6 w7.heap.size (.slice ak kn ck) K wr v5 (A ++ K.take k)) (fun v5 v13 wr => kn - (match v13 with | .int _ i => i.toNat | _ => 0))
                case atStart => exact ⟨0, rfl, Nat.zero_le _, KI8.out⟩
                case round =>
                  obtain ⟨k, rfl, hkk, ki⟩ := hrel
                  have ok5 : ∀ y ∈ A ++ K.take k, y.ok := fun y hy => HPX.out.ok HD.out y (by
                    rw [HSE.out]
                    rcases List.mem_append.1 hy with q | q
                    · simp only [List.mem_append] at q ⊢; exact Or.inl q
                    · simp [List.mem_of_mem_take q])
                  obtain ⟨a7, c7, hv7, _, _⟩ := ki.own.open ok5
                  obtain ⟨l7, hl7⟩ : ∃ l7, (A ++ K.take k).length = l7 := ⟨_, rfl⟩
                  rw [hl7] at hv7
                  subst hv7
                  clear hl7 ok5
                  by_cases hk : k < kn
                  · obtain ⟨y, hyk⟩ : ∃ x, K[k]? = some x := ⟨_, List.getElem?_eq_getElem (by rw [HKN.out]; exact hk)⟩
                    have hyo := HOK.out y (List.mem_of_getElem? hyk)
                    have hund := (HK.out.mem y).1 (List.mem_of_getElem? hyk)
                    have HEU := hidMk hund.nd.2.1
                    have HEO := hidMk (show ((f y).isSome && !(nd f y).pr) = true by rw [hund.nd.2.2, hund.nd.1]; rfl)
                    have HTK2 := hidMk (show A ++ K.take (k + 1) = (A ++ K.take k) ++ [y] by rw [List.take_add_one, hyk, Option.toList_some]; exact (List.append_assoc _ _ _).symm)
                    have HLW := hidMk (show (A ++ K.take k).length ≤ 5000000000000 by have := HAL.out; rw [List.length_append] at this ⊢; rw [List.length_take]; omega)
                    obtain ⟨bk, ok2, rfl, hldk⟩ := (ki.form HOK.out rfl).ld HOK.out hyk
                    have HLK := hidMk hldk
                    have HYK := hidMk hyk
                    have LY := hidMk (hldk k y hyk wr (Below.refl _ _))
                    have HKI := hidMk ki
                    have belr := ki.bel
                    clear hyk hund hldk ki
                    go_upto_region 26 with fail
                    refine kids26 (.pointer (some ⟨s0.t, 0, none⟩)) (.slice (some ⟨bk, ok2, none⟩) kn ck) (.int .i64 (k : Int)) (.pointer (some ⟨bk, ok2 + k * 33, none⟩)) y.v x.v (.string (nd f y).key) (.bool true) (Boxed wr x) _ wr _ rfl rfl rfl rfl (HUB.out wr belr y x true hyo HEU.out HEO.out) (fun W => ix_id hk (by omega) W) LY.out ?_
                    rintro p a' w11 ⟨nb2, rfl, i11, b91, hnbl2, z11⟩ ha
                    subst ha
                    simp only [Act.put, List.setIfInBounds_toArray, List.set_cons_zero, List.set_cons_succ]
                    clear LY hnbl2
                    go_upto_region 27 with fail
                    have c11 := belr.trans (b91.mono belr.size)
                    refine kids27 (fun W => Below w11.heap.size w11 W) nb2 (.slice (some ⟨b, o, none⟩) q cn) (.int .i64 (i : Int)) (.pointer (some ⟨b, o + i * 33, none⟩)) x.v _ w11 _ rfl rfl rfl rfl rfl (Below.refl _ _).drew (fun W hW => load_id hxo ((hW.block _ z11).trans i11)) (fun W => ix_id hi (by omega) W) (fun W hW => HLD.out i x HXI.out W (c11.trans (hW.mono c11.size))) (fun W => guard_id _ _ x x _ _) (fun W hW => by rw [neq_id x x hxo hxo]; simp) ?_
                    intro a' w12 hw12 ha
                    subst ha
                    simp only [Act.put, List.setIfInBounds_toArray, List.set_cons_zero, List.set_cons_succ]
                    have b12 := b91.trans (hw12.mono b91.size)
                    have KI12 := hidMk (HKI.out.below b12)
                    have BB12 := hidMk b12
                    clear i11 z11 b91 c11 hw12 b12 belr HKI HEU HEO
                    obtain ⟨ky, hky⟩ : ∃ ky, (nd f y).key = ky := ⟨_, rfl⟩
                    have HKY := hidMk hky
                    rw [hky]
                    clear hky
                    rcases k with _ | k1
                    · have LY := hidMk (HLK.out 0 y HYK.out w12 BB12.out)
                      obtain ⟨wq1, qv, wq2, eq1, eq2, kiq⟩ := KI12.out.push hyo HLW.out
                      have EQ1 := hidMk eq1
                      have EQ2 := hidMk eq2
                      have KIQ := hidMk kiq
                      clear eq1 eq2 kiq
                      go_upto_region 33 with fail
                      refine kids33 (.slice a7 l7 c7) (.slice (some ⟨bk, ok2, none⟩) kn ck) (.int .i64 ((0 : Nat) : Int)) (.pointer (some ⟨bk, ok2 + 0 * 33, none⟩)) y.v (.slice (some ⟨w12.heap.size, 0, none⟩) 1 1) qv wq1 wq2 _ w12 _ rfl rfl rfl rfl EQ1.out EQ2.out (fun W => ix_id hk (by omega) W) LY.out ?_
                      intro a' w' hw' ha
                      subst hw' ha
                      simp only [Act.put, List.setIfInBounds_toArray, List.set_cons_zero, List.set_cons_succ]
                      go_wp2
                      refine ⟨⟨0 + 1, rfl, hk, by rw [HTK2.out]; exact KIQ.out⟩, ?_⟩
                      show kn - ((0 + 1 : Nat) : Int).toNat < kn - ((0 : Nat) : Int).toNat
                      omega
                    · obtain ⟨z, hzk⟩ : ∃ x, K[k1]? = some x := ⟨_, List.getElem?_eq_getElem (by rw [HKN.out]; omega)⟩
                      have hzo := HOK.out z (List.mem_of_getElem? hzk)
                      have hundz := (HK.out.mem z).1 (List.mem_of_getElem? hzk)
                      have HEU := hidMk hundz.nd.2.1
                      have HEO := hidMk (show ((f z).isSome && !(nd f z).pr) = true by rw [hundz.nd.2.2, hundz.nd.1]; rfl)
                      obtain ⟨kz, hkz⟩ : ∃ kz, (nd f z).key = kz := ⟨_, rfl⟩
                      have HKZ := hidMk hkz
                      have hlt : (Op.bytesLess kz.toList ky.toList = true) ∨ (kz.toList = ky.toList ∧ cId z y < 0) := by
                        rw [← HKZ.out, ← HKY.out]
                        exact bl_key (by
                          have hs := HK.out.srt
                          obtain ⟨h1, e1⟩ := List.getElem?_eq_some_iff.1 hzk
                          obtain ⟨h2, e2⟩ := List.getElem?_eq_some_iff.1 HYK.out
                          have := (List.pairwise_iff_getElem.1 hs) k1 (k1 + 1) h1 h2 (by omega)
                          rw [e1, e2] at this
                          exact this)
                      have HLT := hidMk hlt
                      have LZ := hidMk (HLK.out k1 z hzk w12 BB12.out)
                      have HZK := hidMk hzk
                      have bel12 := KI12.out.bel
                      have hkp : (0 : Int) < ((k1 + 1 : Nat) : Int) := by omega
                      have hsub : (((k1 + 1 : Nat) : Int) - 1) = (k1 : Int) := by omega
                      have HSUB := hidMk hsub
                      clear hzk hundz hlt hkz
                      obtain ⟨kk, hkkn⟩ : ∃ kk, k1 + 1 = kk := ⟨_, rfl⟩
                      rw [hkkn] at hkp hsub hkk hk HTK2 HLW KI12 HYK ⊢
                      have HKK := hidMk hkkn
                      clear hkkn
                      go_upto_region 30 with fail
                      refine kids30 (.pointer (some ⟨s0.t, 0, none⟩)) (.slice (some ⟨bk, ok2, none⟩) kn ck) (.int .i64 (kk : Int)) (.int .i64 (k1 : Int)) (.pointer (some ⟨bk, ok2 + k1 * 33, none⟩)) z.v x.v (.string kz) (.bool true) (Boxed w12 x) _ w12 _ rfl rfl rfl rfl (by have := HUB.out w12 bel12 z x true hzo HEU.out HEO.out; rw [HKZ.out] at this; exact this) (fun W => by go_simp) (fun W => sub_run HKK.out (by omega) W) (fun W => ix_id (by have := HKK.out; omega) (by omega) W) LZ.out ?_
                      rintro p a' w15 ⟨nb3, rfl, i15, b135, hnbl3, z15⟩ ha
                      subst ha
                      simp only [Act.put, List.setIfInBounds_toArray, List.set_cons_zero, List.set_cons_succ]
                      clear LZ hnbl3
                      go_upto_region 31 with fail
                      have b125 := BB12.out.trans (b135.mono BB12.out.size)
                      have KI15 := hidMk (KI12.out.below b135)
                      clear i15 z15 bel12 hkp hsub
                      rcases HLT.out with hlt | ⟨heq, hci⟩
                      · have hne : kz.toList ≠ ky.toList := fun e => by rw [e, bl_irrefl] at hlt; cases hlt
                        have hge := bl_asymm hlt
                        refine kids31l (fun W => Below w15.heap.size w15 W) kz ky (.slice (some ⟨bk, ok2, none⟩) kn ck) (.int .i64 (kk : Int)) _ w15 _ rfl rfl rfl rfl rfl (Below.refl _ _).drew (fun W => by go_simp) (fun W hW => by go_simp; first | done | simp [hge]) (fun W => by go_simp) (fun W hW => by go_simp; first | done | simp [hne]) ?_
                        intro a' w16 hw16 ha
                        subst ha
                        simp only [Act.put, List.setIfInBounds_toArray, List.set_cons_zero, List.set_cons_succ]
                        have LY := hidMk (HLK.out kk y HYK.out w16 (b125.trans (hw16.mono b125.size)))
                        have KI16 := hidMk (KI15.out.below hw16)
                        clear hlt hne hge hw16 b125 b135
                        obtain ⟨wq1, qv, wq2, eq1, eq2, kiq⟩ := KI16.out.push hyo HLW.out
                        have EQ1 := hidMk eq1
                        have EQ2 := hidMk eq2
                        have KIQ := hidMk kiq
                        clear eq1 eq2 kiq
                        go_upto_region 33 with fail
                        refine kids33 (.slice a7 l7 c7) (.slice (some ⟨bk, ok2, none⟩) kn ck) (.int .i64 (kk : Int)) (.pointer (some ⟨bk, ok2 + kk * 33, none⟩)) y.v (.slice (some ⟨w16.heap.size, 0, none⟩) 1 1) qv wq1 wq2 _ w16 _ rfl rfl rfl rfl EQ1.out EQ2.out (fun W => ix_id hk (by omega) W) LY.out ?_
                        intro a' w' hw' ha
                        subst hw' ha
                        simp only [Act.put, List.setIfInBounds_toArray, List.set_cons_zero, List.set_cons_succ]
                        go_wp2
                        rw [show ((kk : Int) + 1) = ((kk + 1 : Nat) : Int) by omega]
                        refine ⟨⟨kk + 1, rfl, hk, by rw [HTK2.out]; exact KIQ.out⟩, ?_⟩
                        have hkq := HKK.out
                        show kn - ((kk + 1 : Nat) : Int).toNat < kn - ((k1 + 1 : Nat) : Int).toNat
                        omega
                      · have hne : Op.bytesLess ky.toList kz.toList = false := by rw [heq]; exact bl_irrefl _
                        have heq2 : (kz.toList == ky.toList) = true := by simp [heq]
                        refine kids31e (fun W => Below w15.heap.size w15 W) kz ky (.slice (some ⟨bk, ok2, none⟩) kn ck) (.int .i64 (kk : Int)) (.int .i64 (k1 : Int)) (.pointer (some ⟨bk, ok2 + k1 * 33, none⟩)) (.pointer (some ⟨bk, ok2 + kk * 33, none⟩)) y.v z.v _ w15 _ rfl rfl rfl rfl rfl (Below.refl _ _).drew (fun W hW => ?_) (fun W => by go_simp) (fun W hW => by go_simp; first | done | simp [hne]) (fun W => by go_simp) (fun W hW => by go_simp; first | done | simp [heq]) (fun W => by go_simp) (fun W hW => ?_) (fun W => ix_id (by have := HKK.out; omega) (by omega) W) (fun W hW => HLK.out k1 z HZK.out W (b125.trans (hW.mono b125.size))) (fun W => ix_id hk (by omega) W) (fun W hW => HLK.out kk y HYK.out W (b125.trans (hW.mono b125.size))) ?_
                        · refine (lower_any z y W hzo hyo).mono ?_
                          rintro e w' ⟨rfl, bw⟩
                          exact ⟨by rw [decide_eq_true hci], hW.trans (bw.mono hW.size)⟩
                        · exact sub_run HKK.out (by omega) W
                        intro a' w16 hw16 ha
                        subst ha
                        simp only [Act.put, List.setIfInBounds_toArray, List.set_cons_zero, List.set_cons_succ]
                        have LY := hidMk (HLK.out kk y HYK.out w16 (b125.trans (hw16.mono b125.size)))
                        have KI16 := hidMk (KI15.out.below hw16)
                        clear heq heq2 hci hne hw16 b125 b135
                        obtain ⟨wq1, qv, wq2, eq1, eq2, kiq⟩ := KI16.out.push hyo HLW.out
                        have EQ1 := hidMk eq1
                        have EQ2 := hidMk eq2
                        have KIQ := hidMk kiq
                        clear eq1 eq2 kiq
                        go_upto_region 33 with fail
                        refine kids33 (.slice a7 l7 c7) (.slice (some ⟨bk, ok2, none⟩) kn ck) (.int .i64 (kk : Int)) (.pointer (some ⟨bk, ok2 + kk * 33, none⟩)) y.v (.slice (some ⟨w16.heap.size, 0, none⟩) 1 1) qv wq1 wq2 _ w16 _ rfl rfl rfl rfl EQ1.out EQ2.out (fun W => ix_id hk (by omega) W) LY.out ?_
                        intro a' w' hw' ha
                        subst hw' ha
                        simp only [Act.put, List.setIfInBounds_toArray, List.set_cons_zero, List.set_cons_succ]
                        go_wp2
                        rw [show ((kk : Int) + 1) = ((kk + 1 : Nat) : Int) by omega]
                        refine ⟨⟨kk + 1, rfl, hk, by rw [HTK2.out]; exact KIQ.out⟩, ?_⟩
                        have hkq := HKK.out
                        show kn - ((kk + 1 : Nat) : Int).toNat < kn - ((k1 + 1 : Nat) : Int).toNat
                        omega
                  · obtain rfl : kn = k := by omega
                    have hfin : A ++ K.take kn = A ++ (selfL f x ++ K) := by rw [List.take_of_length_le (by rw [HKN.out]; exact Nat.le_refl _), HSE.out]; simp
                    have ki2 := ki
                    rw [hfin] at ki2
                    have HKI := hidMk ki2
                    clear ki ki2 hfin hkk hk
                    go_wp2
                    rw [show ((i : Int) + 1) = ((i + 1 : Nat) : Int) by omega]
                    refine ⟨⟨i + 1, _, rfl, hi, HKI.out.bel, HKI.out.own, HPX.out⟩, ?_⟩
                    show q - ((i + 1 : Nat) : Int).toNat < q - (i : Int).toNat
                    omega
    · obtain rfl : q = i := by omega
      have hpt := HPT.out
      rw [List.take_of_length_le (by rw [HQN.out]; exact Nat.le_refl _)] at hpt
      have HLEN := hidMk (hpt.len HD.out HF.out HZN.out HPN.out)
      have HND := hidMk hpt.nd
      have okA := hpt.ok HD.out
      obtain ⟨hIA, hl5⟩ := isOwn HOW.out okA rfl
      have HIA := hidMk hIA
      have HOA := hidMk okA
      have HDL5 := hidMk (show l5 ≤ 2600000000000 by have := HLEN.out; have := HDL.out; omega)
      have hl5b := HDL5.out
      have BE0 := hidMk bel
      clear hpt hIA okA bel hi hiq hl5
      generalize wr = wo at *
      go_wp2
      go_loopw [20] (fun v20 wr => ∃ i : Nat, v20 = .int .i64 (i : Int) ∧ i ≤ l5 ∧ Below wo.heap.size wo wr) (fun v20 wr => l5 - (match v20 with | .int _ i => i.toNat | _ => 0))
      case atStart => exact ⟨0, rfl, Nat.zero_le _, Below.refl _ _⟩
      case round =>
        obtain ⟨i, rfl, hil, bel⟩ := hrel
        by_cases hi : i < l5
        · obtain ⟨x, hxi⟩ : ∃ x, A[i]? = some x := ⟨_, List.getElem?_eq_getElem (by have := HL5.out; omega)⟩
          have hxo := HOA.out x (List.mem_of_getElem? hxi)
          have HXI := hidMk hxi
          obtain ⟨b, o, rfl, hld⟩ := HIA.out.ld HOA.out hxi
          have HLD := hidMk hld
          have BE1 := hidMk bel
          clear hxi hld bel
          generalize wr = wp at *
          go_wp2
          go_loopw [21] (fun v21 wr => ∃ k : Nat, v21 = .int .i64 (k : Int) ∧ k ≤ i ∧ Below wo.heap.size wo wr) (fun v21 wr => i - (match v21 with | .int _ i => i.toNat | _ => 0))
          case atStart => exact ⟨0, rfl, Nat.zero_le _, BE1.out⟩
          case round =>
            obtain ⟨k, rfl, hki, bel⟩ := hrel
            by_cases hk : k < i
            · obtain ⟨y, hyk⟩ : ∃ x, A[k]? = some x := ⟨_, List.getElem?_eq_getElem (by have := HL5.out; omega)⟩
              have hyo := HOA.out y (List.mem_of_getElem? hyk)
              have HYK := hidMk hyk
              have HNE := hidMk (nodup_get HND.out hyk HXI.out (by omega))
              clear hyk
              go_upto_region 40 with fail
              refine kids40 (fun W => Below wo.heap.size wo W) (.slice (some ⟨b, o, none⟩) l5 c5) (.int .i64 (k : Int)) (.int .i64 (i : Int)) (.pointer (some ⟨b, o + k * 33, none⟩)) (.pointer (some ⟨b, o + i * 33, none⟩)) x.v y.v (.bool false) _ wr _ rfl rfl rfl rfl bel.drew (fun W => ix_id (by omega) (by omega) W) (fun W hW => HLD.out k y HYK.out W hW) (fun W => ix_id hi (by omega) W) (fun W hW => HLD.out i x HXI.out W hW) (fun W => guard_id _ _ y x _ _) (fun W hW => by rw [eql_id y x hyo hxo, decide_eq_false HNE.out]) ?_
              intro a' w' hw' ha
              subst ha
              simp only [Act.put, List.setIfInBounds_toArray, List.set_cons_zero, List.set_cons_succ]
              have BEL := hidMk hw'
              clear hw' bel
              go_wp2
              rw [show ((k : Int) + 1) = ((k + 1 : Nat) : Int) by omega]
              refine ⟨⟨k + 1, rfl, hk, BEL.out⟩, ?_⟩
              show i - ((k + 1 : Nat) : Int).toNat < i - (k : Int).toNat
              omega
            · obtain rfl : i = k := by omega
              have BEL := hidMk bel
              clear hki hk bel
              go_wp2
              rw [show ((i : Int) + 1) = ((i + 1 : Nat) : Int) by omega]
              refine ⟨⟨i + 1, rfl, hi, BEL.out⟩, ?_⟩
              show l5 - ((i + 1 : Nat) : Int).toNat < l5 - (i : Int).toNat
              omega
        · have cb : Below w6.heap.size w6 wr := BE0.out.trans (bel.mono BE0.out.size)
          have HLNr := hidMk (HLN.out wr cb)
          have hdl : D.length = l5 := by have := HLEN.out; have := HL5.out; omega
          rw [hdl] at HLNr
          obtain rfl : l5 = i := by omega
          clear hi hil hdl
          go_wp2_with (first
            | (go_at_call 12; refine HLNr.out.mono ?_; rintro e w9 ⟨rfl, b9⟩; clear HLNr)
            | fail)
          go_ret
          have c9 := cb.trans (b9.mono cb.size)
          exact ⟨by simp, HB6.out.trans (c9.mono HB6.out.size)⟩
end Go.Proofs.Ytoofljkgdjjllab

