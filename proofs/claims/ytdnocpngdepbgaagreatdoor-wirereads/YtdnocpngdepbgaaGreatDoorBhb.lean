import Derived.Test.YtdnocpngdepbgaaGreatDoorP6
namespace Go.Proofs.YtdnocpngdepbgaaGreatDoor.KH
open Go.RowKit
set_option linter.unusedVariables false
set_option linter.unusedSimpArgs false

def mF (V : Nat → Lst) (L : Nat → List (List UInt8)) (m : Nat) : Nat → List (List UInt8) := fun i => if i < m then rp (V i).n (mrk i) else L i
theorem mF_start (V : Nat → Lst) (L : Nat → List (List UInt8)) (m : Nat) : upF (mF V L m) m (fill 0 (mrk m) (L m)) = mF V L m := by
  funext i
  unfold upF mF
  by_cases e : i = m
  · subst e; rw [if_pos rfl, fill_zero, if_neg (by omega)]
  · rw [if_neg e]
theorem mF_step (V : Nat → Lst) (L : Nat → List (List UInt8)) (m k : Nat) (h : k < (L m).length) : upF (upF (mF V L m) m (fill k (mrk m) (L m))) m ((upF (mF V L m) m (fill k (mrk m) (L m)) m).set k (mrk m)) = upF (mF V L m) m (fill (k + 1) (mrk m) (L m)) := by
  funext i
  unfold upF
  by_cases e : i = m
  · subst e; rw [if_pos rfl, if_pos rfl, if_pos rfl, fill_succ _ _ _ h]
  · rw [if_neg e, if_neg e, if_neg e]
theorem mF_end (V : Nat → Lst) (L : Nat → List (List UInt8)) (m : Nat) (h : (L m).length = (V m).n) : upF (mF V L m) m (fill (L m).length (mrk m) (L m)) = mF V L (m + 1) := by
  funext i
  unfold upF mF
  by_cases e : i = m
  · subst e; rw [if_pos rfl, fill_all, if_pos (by omega), h]; rfl
  · rw [if_neg e]
    by_cases e2 : i < m
    · rw [if_pos e2, if_pos (by omega)]
    · rw [if_neg e2, if_neg (by omega)]
theorem Ph2.weak {w0 w : World} {base q B cB N : Nat} {qo : Option Obj} {V : Nat → Lst} {tz tg : Nat → Nat} {lo m : Nat} {G : Nat → Value} {all : Value} (h : Ph2 w0 w base q B cB N qo V tz tg lo m G all) (lo' : Nat) (hl : lo ≤ lo') : Ph2 w0 w base q B cB N qo V tz tg lo' m G all :=
  ⟨h.bk, h.tq, h.tB, h.rd, fun i h1 h2 => h.ow i (by omega) h2, h.gs, h.al, h.be, h.zb, h.z0, h.fr⟩
theorem ph2_start {w0 w : World} {base q B cB N : Nat} {qo : Option Obj} {V : Nat → Lst} {tg : Nat → Nat} {L : Nat → List (List UInt8)} (h : Ph1 w0 w base q B cB N qo V tg (mF V L N)) (hb : base ≤ w.heap.size) (hz0 : w0.heap.size ≤ w.heap.size) : Ph2 w0 w base q B cB N qo V tg tg 0 0 (fun _ => .slice none 0 0) (.slice none 0 0) := by
  have key : ∀ i, i < N → OwnH w base (V i).v (rp (V i).n (mrk i)) := fun i hi => by
    have := (h.ow i hi).1
    unfold mF at this
    rwa [if_pos hi] at this
  refine ⟨h.bk, h.tq, h.tB, fun i hi => ⟨?_, (h.ow i hi).2.1, fun b e => (World.ownsRow.lt (key i hi).2 b e).2⟩, fun i _ hi => key i hi, fun i hi => by omega, ⟨World.ownsRow_nil _ _ _ _, fun b e => by cases e⟩, h.be, hb, hz0, fun k hk ht => ⟨ht, h.fr k hk ht⟩⟩
  exact ownH_hl (key i hi)
/-- A list while it is grown. -/
def Gr (w : World) (base W : Nat) (tg : Nat → Nat) (m n0 k0 k : Nat) (a0 : Option Addr) (g : Value) : Prop :=
  OwnH w base g (rp (n0 + k) (mrk m)) ∧ Tg tg g (m + 1) ∧ (g.ownBlock = (Value.slice a0 n0 k0).ownBlock ∨ ∃ b, g.ownBlock = some b ∧ W ≤ b) ∧ W ≤ w.heap.size
theorem want0 {ops : Array Oper} {o : Oper} {a : Act} (h : o.guard = none) : Region.wanted o (yielded ops a.tmps) = true := by simp [Region.wanted, h]
theorem wpList_load_midP {ops : Array Oper} {rest : List Oper} {o : Oper} {a : Act} {w : World} {Q : Exit → Act → World → Prop} (hgd : o.guard = none) (x : Operand) (ho : o.op = .load 36 x)
    (b f : Nat) (hx : a.eval x = .pointer (some ⟨b, f, none⟩)) (l : List UInt8) (hr : w.rangeAt b f (hcs l)) (h32 : l.length = 32)
    (h : wpList Tryz.prog ops Q rest (a.put o.dst (.agg (bs l))) w) : wpList Tryz.prog ops Q (o :: rest) a w := by
  refine wpList_load_mid hgd 36 x ho b f hx (hcs l) _ hr Tryz.underlying36 rfl (by rw [hcs_len, h32]; exact hsH) ?_
  rw [hcs_arr]
  exact h
theorem wpList_load_arrP {ops : Array Oper} {rest : List Oper} {o : Oper} {a : Act} {w : World} {Q : Exit → Act → World → Prop} (hgd : o.guard = none) (x : Operand) (ho : o.op = .load 36 x)
    (g : Nat) (hx : a.eval x = .pointer (some ⟨g, 0, none⟩)) (l : List UInt8) (hg : w.heap[g]? = some (.cells (bs l) 36 (0, 0))) (h32 : l.length = 32)
    (h : wpList Tryz.prog ops Q rest (a.put o.dst (.agg (bs l))) w) : wpList Tryz.prog ops Q (o :: rest) a w :=
  wpList_load_arr (want0 hgd) 36 x ho g hx 36 (bs l) (0, 0) _ hg Tryz.underlying36 rfl (by rw [bs_size, h32]; exact hsH) h
theorem built3 (m : Nat) : Tryz.prog.built 36 [(0, .int .u8 238), (1, .int .u8 ((m : Int) % 256)), (2, .int .u8 ((m : Int) / 256 % 256))] = some (bs (mrk m)) := by
  have h : Tryz.prog.built 36 [(0, .int .u8 238), (1, .int .u8 ((m : Int) % 256)), (2, .int .u8 ((m : Int) / 256 % 256))] = some (#[.int .u8 238, .int .u8 ((m : Int) % 256), .int .u8 ((m : Int) / 256 % 256)] ++ (bs (List.replicate 29 0))) := by kernel_rfl
  rw [h]
  have e1 : ((UInt8.ofNat m).toNat : Int) = (m : Int) % 256 := by rw [UInt8.toNat_ofNat']; omega
  have e2 : ((UInt8.ofNat (m / 256)).toNat : Int) = (m : Int) / 256 % 256 := by rw [UInt8.toNat_ofNat']; omega
  have e : bs (mrk m) = #[.int .u8 238, .int .u8 ((UInt8.ofNat m).toNat : Int), .int .u8 ((UInt8.ofNat (m / 256)).toNat : Int)] ++ (bs (List.replicate 29 0)) := by simp [mrk, bs]
  rw [e, e1, e2]
theorem eqH_self (x : List UInt8) (hx : x.length = 32) (wx : World) : (Op.equalIn 10000 36 (.agg (bs x)) (.agg (bs x))).run Tryz.prog wx = .ok true wx := by
  have := eq23 x x hx hx wx
  simpa using this
theorem ownH_at {w : World} {base : Nat} {v : Value} {L : List (List UInt8)} (h : OwnH w base v L) (h0 : 0 < L.length) : ∃ g cap, v = .slice (some ⟨g, 0, none⟩) L.length cap ∧ L.length ≤ cap ∧ base ≤ g ∧ g < w.heap.size ∧ Hs w g 0 L ∧ w.there g 0 (32 * L.length) := by
  rcases h.open with ⟨_, e⟩ | ⟨g, cap, e, h1, h2, h3, h4, h5⟩
  · rw [e] at h0; simp at h0
  · exact ⟨g, cap, e, h1, h2, h3, h4, h5⟩
set_option maxRecDepth 100000 in
set_option maxHeartbeats 40000000 in
theorem aloneHashes_any (q B cB base N : Nat) (qo : Option Obj) (V : Nat → Lst) (L : Nat → List (List UInt8)) (tz : Nat → Nat) (w : World) (hN1 : 1 ≤ N) (hN : N ≤ 4398046510976) (hn : ∀ i, i < N → (V i).n ≤ 4398046510976)
    (h : Ph1 w w base q B cB N qo V tz L) (hbase : base ≤ w.heap.size) :
    Calls Tryz.prog 58 #[.pointer (some ⟨q, 0, none⟩)] w fun e w' => e = .returned (.bool true) ∧ Below base w w' ∧ w'.heap[q]? = qo ∧ ∀ k, k < w.heap.size → tz k = 0 → w'.heap[k]? = w.heap[k]? := by
  have HP0 := K.Hid.mk' h
  have HL : Hid (∀ i, i < N → (L i).length = (V i).n) := fun i hi => (h.ow i hi).2.2
  clear h
  go_enter Tryz.func58, Tryz.ntmps58
  go_wp2
  go_loopw [3] (fun i wr => ∃ m : Nat, m ≤ N ∧ i = .int .i64 m ∧ Hid (Ph1 w wr base q B cB N qo V tz (mF V L m))) (fun i _ => N - (intOf i).toNat)
  case atStart => exact ⟨0, by omega, rfl, by show Ph1 _ _ _ _ _ _ _ _ _ _ _; have : mF V L 0 = L := by (funext i; unfold mF; rw [if_neg (by omega)])
                                              rw [this]; exact HP0.out⟩
  case round =>
    clear HP0
    obtain ⟨m, hm, rfl, HP⟩ := hrel
    by_cases hlt : m < N
    · have hlt' : (m : Int) < (N : Int) := by omega
      obtain ⟨l, hl⟩ : ∃ l, V m = l := ⟨_, rfl⟩
      obtain ⟨a0, n0, k0⟩ := l
      have hnm : n0 ≤ 4398046510976 := by have := hn m hlt; rw [hl] at this; exact this
      have hLm : (L m).length = n0 := by have := HL.out m hlt; rw [hl] at this; exact this
      have HS : Hid (Ph1 w wr base q B cB N qo V tz (upF (mF V L m) m (fill 0 (mrk m) (L m)))) := by show Ph1 _ _ _ _ _ _ _ _ _ _ _; rw [mF_start]; exact HP.out
      have BM := K.Hid.mk' (built3 m)
      have HV := K.Hid.mk' hl
      have cq := HP.out.bk.cq
      clear HP hl
      go_wp2
      go_loopw [4] (fun kk wx => ∃ k : Nat, k ≤ n0 ∧ kk = .int .i64 k ∧ Hid (Ph1 w wx base q B cB N qo V tz (upF (mF V L m) m (fill k (mrk m) (L m))))) (fun kk _ => n0 - (intOf kk).toNat)
      case atStart => exact ⟨0, by omega, rfl, HS⟩
      case round =>
        clear HS cq
        obtain ⟨k, hk, rfl, HP⟩ := hrel
        have cq := HP.out.bk.cq
        have cm : wr.cell? ⟨B, m, none⟩ = some (.slice a0 n0 k0) := by have := HP.out.bk.cr m hlt; rw [HV.out] at this; exact this
        by_cases hkn : k < n0
        · have hkn' : (k : Int) < (n0 : Int) := by omega
          have oo := (HP.out.ow m hlt).1
          have fl : (upF (mF V L m) m (fill k (mrk m) (L m)) m).length = n0 := by unfold upF; rw [if_pos rfl, fill_len _ _ _ (by omega)]; omega
          obtain ⟨g, cv, ev, hcv, hg1, hg2, _, hth⟩ := ownH_at oo (by omega)
          rw [HV.out, fl] at ev
          rw [fl] at hth
          simp only [Lst.v, Value.slice.injEq] at ev
          obtain ⟨rfl, _, rfl⟩ := ev
          have HTH : Hid (wr.there g (32 * k) 32) := (by have := there_part (m := 32) (i := 32 * k) hth (by omega); rwa [Nat.zero_add] at this : wr.there g (32 * k) 32)
          have ix := fun wx => indexH g 0 n0 k0 k wx hkn
          rw [Nat.zero_add] at ix
          have NX : Hid (Ph1 w (wr.setCells g (32 * k) (hcs (mrk m))) base q B cB N qo V tz (upF (mF V L m) m (fill (k + 1) (mrk m) (L m)))) := by
            show Ph1 _ _ _ _ _ _ _ _ _ _ _
            rw [← mF_step V L m k (by omega)]
            exact HP.out.set m k g (mrk m) (mrk_32 m) hlt (by omega) (by rw [HV.out]) hg1
          have h32 := mrk_32 m
          clear oo hth HP fl
          generalize mrk m = x at *
          go_wp2_with (first
            | (refine wpList_build_is rfl 36 _ rfl [(0, .int .u8 238), (1, .int .u8 ((m : Int) % 256)), (2, .int .u8 ((m : Int) / 256 % 256))] (by first | kernel_rfl | simp) (bs x) BM.out ?_)
            | (refine wpList_store_mid rfl 36 _ _ rfl g (32 * k) (bs x) rfl rfl (by rw [bs_size, h32]; exact HTH.out) (by rw [bs_size, h32]; exact hsH) (bs_one _) ?_)
            | fail)
          exact ⟨⟨k + 1, by omega, by go_num, NX⟩, by simp [intOf]; omega⟩
        · obtain rfl : k = n0 := by omega
          have NX : Hid (Ph1 w wr base q B cB N qo V tz (mF V L (m + 1))) := by
            show Ph1 _ _ _ _ _ _ _ _ _ _ _
            rw [← mF_end V L m (by rw [HV.out]; exact hLm), hLm]
            exact HP.out
          clear HP
          go_wp2
          exact ⟨⟨m + 1, by omega, by go_num, NX⟩, by simp [intOf]; omega⟩
    · obtain rfl : m = N := by omega
      have zb : base ≤ wr.heap.size := Nat.le_trans hbase HP.out.be.size
      have hz00 : w.heap.size ≤ wr.heap.size := HP.out.be.size
      have HQ : Hid (∃ tg G, Ph2 w wr base q B cB m qo V tz tg 0 0 G (.slice none 0 0)) := ⟨_, _, ph2_start HP.out zb hz00⟩
      have cq := HP.out.bk.cq
      clear HP HL zb
      go_wp2
      clear cq
      go_loopw [5, 6] (fun all i wr => ∃ j : Nat, j ≤ m ∧ i = .int .i64 j ∧ Hid (∃ tg G, Ph2 w wr base q B cB m qo V tz tg j j G all)) (fun _ i _ => m - (intOf i).toNat)
      case atStart => exact ⟨0, by omega, rfl, HQ⟩
      case round =>
        clear HQ
        obtain ⟨j, hj, rfl, HP⟩ := hrel
        by_cases hjm : j < m
        · have hjm' : (j : Int) < (m : Int) := by omega
          obtain ⟨tg1, G, hP⟩ := HP.out
          obtain ⟨l, hl⟩ : ∃ l, V j = l := ⟨_, rfl⟩
          obtain ⟨a0, n0, k0⟩ := l
          have hnm : n0 ≤ 4398046510976 := by have := hn j hjm; rw [hl] at this; exact this
          have BM := K.Hid.mk' (built3 j)
          have HV := K.Hid.mk' hl
          have oo : OwnH wr base (.slice a0 n0 k0) (rp n0 (mrk j)) := by have := hP.ow j (Nat.le_refl _) hjm; rw [hl] at this; exact this
          have to : Tg tg1 (.slice a0 n0 k0) (j + 1) := by have := (hP.rd j hjm).2.1; rw [hl] at this; exact this
          obtain ⟨W, hW1, hW2⟩ : ∃ W, wr.heap.size ≤ W ∧ W ≤ wr.heap.size := ⟨_, Nat.le_refl _, Nat.le_refl _⟩
          have hv : Hid (∀ b off, 0 < n0 → a0 = some ⟨b, off, none⟩ → (Value.slice a0 n0 k0).ownBlock = some b ∧ off = 0 ∧ b < W) := fun b off hn e => by
            obtain ⟨g, c, ev, _, _, hgl, _, _⟩ := ownH_at oo (by rw [rp_len]; omega)
            rw [rp_len, e] at ev
            cases ev
            exact ⟨by rw [e]; rfl, rfl, by omega⟩
          have HI : Hid (∃ tg, Ph2 w wr base q B cB m qo V tz tg (j + 1) j G u5 ∧ Gr wr base W tg j n0 k0 0 a0 (.slice a0 n0 k0)) := ⟨tg1, hP.weak _ (by omega), oo, to, .inl rfl, hW2⟩
          have cq := hP.bk.cq
          have cm : wr.cell? ⟨B, j, none⟩ = some (.slice a0 n0 k0) := by have := hP.bk.cr j hjm; rw [hl] at this; exact this
          clear oo to hP HP hl hW1 hW2
          go_wp2
          clear cq cm
          go_loopw [7, 8] (fun g kk wx => ∃ k : Nat, k ≤ 20 ∧ kk = .int .i64 k ∧ Hid (∃ tg, Ph2 w wx base q B cB m qo V tz tg (j + 1) j G u5 ∧ Gr wx base W tg j n0 k0 k a0 g)) (fun _ kk _ => 20 - (intOf kk).toNat)
          case atStart => exact ⟨0, by omega, rfl, HI⟩
          case round =>
            clear HI
            obtain ⟨k, hk, rfl, HI⟩ := hrel
            obtain ⟨tg2, P, og, tgg, hg, hWx⟩ := HI.out
            by_cases hlt : k < 20
            · have hlt' : (k : Int) < 20 := by omega
              obtain ⟨wa, hwa⟩ : ∃ wa, wa = wr.alloc (.cells (bs (mrk j)) 36) := ⟨_, rfl⟩
              have be : Below wr.heap.size wr wa := by rw [hwa]; exact (Below.refl _ _).alloc (Nat.le_refl _) _
              have OA : Hid (OwnH wa base u7 (rp (n0 + k) (mrk j))) := og.below be
              have BA : Hid (Hl wa (some ⟨wr.heap.size, 0, none⟩) [mrk j]) := by show Hl _ _ _; rw [hwa]; exact hl_lit wr (mrk j)
              have CA : Hid (All32 [mrk j]) := fun y hy => by simp at hy; subst hy; exact mrk_32 j
              have SA : Hid (((rp (n0 + k) (mrk j)).length + ([mrk j] : List (List UInt8)).length) * 32 ≤ 140737488355328) := (by rw [rp_len]; simp; omega : _ ≤ _)
              have PA : Hid (Ph2 w wa base q B cB m qo V tz tg2 (j + 1) j G u5) := P.below be
              have ZA : Hid (base ≤ wa.heap.size) := PA.out.zb
              have WA : Hid (W ≤ wa.heap.size) := Nat.le_trans hWx be.size
              have TA := K.Hid.mk' tgg
              have GA := K.Hid.mk' hg
              have SZ : Hid (wa.heap.size = wr.heap.size + 1) := by show _ = _; rw [hwa]; simp
              have H1 : Hid (0 < ([mrk j] : List (List UInt8)).length) := by show _ < _; simp
              have HWA := K.Hid.mk' hwa
              have h32 := mrk_32 j
              clear og tgg hg hWx P be HI hwa
              generalize hx : mrk j = x at *
              have HX := K.Hid.mk' hx
              clear hx
              go_wp2_with (first
                | (refine wpList_build_is rfl 36 _ rfl [(0, .int .u8 238), (1, .int .u8 ((j : Int) % 256)), (2, .int .u8 ((j : Int) / 256 % 256))] (by first | kernel_rfl | simp) (bs x) BM.out ?_)
                | (refine wpList_bsH rfl _ rfl (bs x) rfl (by rw [bs_size, h32]) ?_; rw [← HWA.out])
                | (at_builtin; refine wpList_appH3 rfl (.tmp 70) (.tmp 77) rfl base u7 (rp (n0 + k) x) rfl OA.out ⟨wr.heap.size, 0, none⟩ 1 1 [x] rfl rfl CA.out BA.out SA.out ZA.out H1.out ?_)
                | fail)
              intro g' w' own' gr h4
              have YA : Hl wa a0 (rp n0 x) := by have := (PA.out.rd j hjm).1; rw [HV.out, HX.out] at this; exact this
              obtain ⟨yn, gn⟩ := grow_step (cap := k0) WA.out h32 YA hv.out own' gr h4 GA.out
              have hl2 : ∀ b, u7.ownBlock = some b → base ≤ b ∧ b < wa.heap.size := fun b e => World.ownsRow.lt OA.out.2 b e
              have h5 : g'.ownBlock = u7.ownBlock ∨ g'.ownBlock = some wa.heap.size := by rcases h4 with e | ⟨e, _⟩; exact .inl e; exact .inr e
              have hrd : ∀ i, i + 1 = j + 1 → i < m → Hl w' (V i).a (rp (V i).n (mrk i)) := fun i e hi => by
                obtain rfl : i = j := by omega
                rw [HV.out, HX.out]
                exact yn
              obtain ⟨P2, T2⟩ := PA.out.grow (j + 1) u7 g' (by omega) gr TA.out hl2 h5 hrd (fun i h1 _ => by omega) (fun i hi => by omega) (by omega)
              have NX : Hid (∃ tg, Ph2 w w' base q B cB m qo V tz tg (j + 1) j G u5 ∧ Gr w' base W tg j n0 k0 (k + 1) a0 g') := ⟨_, P2, (by show OwnH _ _ _ (rp (n0 + (k + 1)) (mrk j)); rw [HX.out, ← Nat.add_assoc, ← rp_succ]; exact own'), T2, gn, Nat.le_trans WA.out gr.size⟩
              obtain ⟨ga, gc, rfl⟩ := own'.size
              clear OA BA CA SA PA ZA WA TA GA SZ H1 gr h4 YA yn gn hl2 h5 P2 T2 own' hrd HWA HX
              go_wp2
              exact ⟨⟨k + 1, by omega, by go_num, NX⟩, by simp [intOf]; omega⟩
            · obtain rfl : k = 20 := by omega
              clear hlt
              obtain ⟨ga, gc, rfl⟩ := og.size
              rw [rp_len] at og tgg ⊢
              obtain ⟨wa, hwa⟩ : ∃ wa, wa = wr.alloc (.cells #[.slice ga (n0 + 20) gc] 37) := ⟨_, rfl⟩
              have be : Below wr.heap.size wr wa := by rw [hwa]; exact (Below.refl _ _).alloc (Nat.le_refl _) _
              have PA : Hid (Ph2 w wa base q B cB m qo V tz tg2 (j + 1) j G u5) := P.below be
              have OA : Hid (OwnH wa base (.slice ga (n0 + 20) gc) (rp (n0 + 20) (mrk j))) := og.below be
              have TA := K.Hid.mk' tgg
              have SZ : Hid (wa.heap.size = wr.heap.size + 1) := by show _ = _; rw [hwa]; simp
              have CA : Hid (wa.cell? ⟨wr.heap.size, 0, none⟩ = some (.slice ga (n0 + 20) gc)) := by show _ = _; rw [hwa]; exact (cell_of_row _ wr.heap.size 0 _ _ _ (heap_alloc_new _ _)).trans rfl
              clear og tgg hg hWx P be HI
              go_wp2_with (first | (at_builtin; refine wpList_appS rfl (.tmp 79) (.tmp 81) rfl base u5 j ((List.range j).map G) rfl (by rw [← hwa]; exact PA.out.al.1) ⟨wr.heap.size, 0, none⟩ (.slice ga (n0 + 20) gc) rfl (by rw [← hwa]; exact CA.out) rfl (by omega) (by rw [← hwa]; exact PA.out.zb) ?_) | fail)
              intro all' w' rows' gr hblk
              rw [← hwa] at gr
              rw [← SZ.out] at hblk
              clear hwa
              obtain ⟨tg3, P3⟩ := PA.out.done hjm (.slice ga (n0 + 20) gc) all' (by rw [HV.out]; exact OA.out) TA.out gr hblk rows'
              have NX : Hid (∃ tg G, Ph2 w w' base q B cB m qo V tz tg (j + 1) (j + 1) G all') := ⟨_, _, P3⟩
              obtain ⟨la, ln, lc, rfl⟩ : ∃ la ln lc, all' = .slice la ln lc := by
                rcases rows'.2 with ⟨rfl, _⟩ | ⟨g, cap, cur, rfl, _⟩ <;> exact ⟨_, _, _, rfl⟩
              clear PA OA TA CA gr hblk rows' P3
              go_wp2
              exact ⟨⟨j + 1, by omega, by go_num, NX⟩, by simp [intOf]; omega⟩
        · obtain rfl : j = m := by omega
          obtain ⟨tg1, G, hP⟩ := HP.out
          obtain ⟨A, cA, rfl, cG, lA⟩ : ∃ A cA, u5 = .slice (some ⟨A, 0, none⟩) j cA ∧ (∀ i, i < j → wr.cell? ⟨A, i, none⟩ = some (G i)) ∧ A < wr.heap.size := by
            have hc := fun g hg => World.ownsRow.cells hP.al.1 (g := g) hg
            rcases hP.al.1.2 with ⟨_, hn0⟩ | ⟨g, cap, cur, rfl, _, hg, _⟩
            · omega
            · refine ⟨g, cap, rfl, fun i hi => ?_, (Array.getElem?_eq_some_iff.1 hg).1⟩
              have := hc g rfl i (G i) (by rw [List.getElem?_map, List.getElem?_range hi]; rfl)
              rw [Addr.add_mid, Nat.zero_add] at this
              exact this
          have HC : Hid (∀ wx, Below wr.heap.size wr wx → ∀ i, i < j → wx.cell? ⟨A, i, none⟩ = some (G i)) := fun wx b i hi => (b.cell (p := ⟨A, i, none⟩) lA).trans (cG i hi)
          have HR : Hid (∀ wx, Below wr.heap.size wr wx → Below base w wx ∧ wx.heap[q]? = qo ∧ ∀ k, k < w.heap.size → tz k = 0 → wx.heap[k]? = w.heap[k]?) := fun wx b => ⟨hP.be.trans (b.mono hP.zb), (b.block q hP.bk.lq).trans hP.bk.ho, fun k hk ht => (b.block k (Nat.lt_of_lt_of_le hk hP.z0)).trans (hP.fr k hk ht).2⟩
          have PP := K.Hid.mk' hP
          have cq := hP.bk.cq
          have CQ : Hid (∀ wx, Below wr.heap.size wr wx → wx.cell? ⟨q, 1, none⟩ = some (.slice (some ⟨B, 0, none⟩) j cB)) := fun wx b => (b.cell (p := ⟨q, 1, none⟩) hP.bk.lq).trans hP.bk.cq
          obtain ⟨w5, hw5⟩ : ∃ w5, w5 = wr := ⟨_, rfl⟩
          rw [← hw5] at HC HR CQ
          have PP5 : Hid (Ph2 w w5 base q B cB j qo V tz tg1 j j G (.slice (some ⟨A, 0, none⟩) j cA)) := by show Ph2 _ _ _ _ _ _ _ _ _ _ _ _ _ _ _; rw [hw5]; exact PP.out
          have B5 : Hid (Below w5.heap.size w5 wr) := by show Below _ _ _; rw [hw5]; exact Below.refl _ _
          clear HP hP cG lA PP hw5
          go_wp2
          go_loopw [9] (fun i wx => ∃ k : Nat, k ≤ j ∧ i = .int .i64 k ∧ Hid (Below w5.heap.size w5 wx)) (fun i _ => j - (intOf i).toNat)
          case atStart => exact ⟨0, by omega, rfl, B5⟩
          case round =>
            clear cq B5
            obtain ⟨k, hk, rfl, B6⟩ := hrel
            by_cases hkj : k < j
            · have hkj' : (k : Int) < (j : Int) := by omega
              obtain ⟨l, hl⟩ : ∃ l, V k = l := ⟨_, rfl⟩
              obtain ⟨a0, n0, k0⟩ := l
              have hnm : n0 ≤ 4398046510976 := by have := hn k hkj; rw [hl] at this; exact this
              have BM := K.Hid.mk' (built3 k)
              have og := (PP5.out.gs k hkj).1
              rw [hl] at og
              obtain ⟨N, hN⟩ : ∃ N, n0 + 20 = N := ⟨_, rfl⟩
              have og' : OwnH w5 base (G k) (rp N (mrk k)) := by rw [← hN]; exact og
              have hNb : N ≤ 4398046511000 := by omega
              obtain ⟨ga, gc, eG, _, _, gl, hsG, _⟩ := ownH_at og' (by rw [rp_len]; omega)
              rw [rp_len] at eG
              have cG6 : Hid (∀ wx, Below w5.heap.size w5 wx → wx.cell? ⟨A, k, none⟩ = some (.slice (some ⟨ga, 0, none⟩) N gc)) := fun wx b => by rw [HC.out wx b k hkj, eG]
              have sG6 : Hid (∀ wx i, Below w5.heap.size w5 wx → i < N → wx.rangeAt ga (32 * i) (hcs (mrk k))) := fun wx i b hi => by
                have h1 := hsG i (mrk k) (rp_get _ _ _ hi)
                rw [Nat.zero_add] at h1
                exact rangeAt_below h1 b gl
              have cB6 : Hid (∀ wx, Below w5.heap.size w5 wx → wx.cell? ⟨B, k, none⟩ = some (.slice a0 n0 k0)) := fun wx b => by
                have := PP5.out.bk.cr k hkj
                rw [hl] at this
                exact (b.cell (p := ⟨B, k, none⟩) PP5.out.bk.lB).trans this
              have sB6 : Hid (∀ wx i, Below w5.heap.size w5 wx → i < n0 → ∃ b, ∃ off, a0 = some ⟨b, off, none⟩ ∧ wx.rangeAt b (off + 32 * i) (hcs (mrk k))) := fun wx i b hi => by
                have h1 := (PP5.out.rd k hkj).1
                rw [hl] at h1
                have h2 := h1.below (rp_32 _ _) b
                obtain ⟨bb, off, e1, hs⟩ := h2.at (i := i) (by rw [rp_len]; exact hi)
                exact ⟨bb, off, e1, hs i (mrk k) (rp_get _ _ _ hi)⟩
              have HE := K.Hid.mk' (eqH_self (mrk k) (mrk_32 k))
              have h32 := mrk_32 k
              clear hl og og' eG gl hsG hN
              generalize mrk k = x at *
              have cg := cG6.out wr B6.out
              go_wp2
              clear cg
              go_loopw [10] (fun kk wx => ∃ i : Nat, i ≤ N ∧ kk = .int .i64 i ∧ Hid (Below w5.heap.size w5 wx)) (fun kk _ => N - (intOf kk).toNat)
              case atStart => exact ⟨0, by omega, rfl, B6⟩
              case round =>
                clear B6
                obtain ⟨i, hi, rfl, B6⟩ := hrel
                have cg := cG6.out wr B6.out
                by_cases hlt : i < N
                · have hlt' : (i : Int) < (N : Int) := by omega
                  have LD := K.Hid.mk' (sG6.out wr i B6.out hlt)
                  have ix := fun wx => indexH ga 0 N gc i wx hlt
                  rw [Nat.zero_add] at ix
                  have he := HE.out
                  obtain ⟨w7, hw7⟩ : ∃ w7, w7 = wr.alloc (.cells (bs x) 36) := ⟨_, rfl⟩
                  have G7 : Hid (w7.heap[wr.heap.size]? = some (.cells (bs x) 36 (0, 0))) := by show _ = _; rw [hw7]; exact heap_alloc_new _ _
                  have B7 : Hid (Below w5.heap.size w5 w7) := by show Below _ _ _; rw [hw7]; exact B6.out.alloc (by have := B6.out.size; omega) _
                  have HW7 := K.Hid.mk' hw7
                  clear hw7
                  go_upto_region 25 with (first
                    | (refine wpList_load_midP rfl _ rfl ga (32 * i) rfl x LD.out h32 ?_)
                    | (refine wpList_alloc_row rfl 36 rfl (bs z32) (hzH _) ?_)
                    | (refine wpList_store_row rfl 36 _ _ rfl wr.heap.size (bs x) rfl rfl 36 (bs z32) (heap_alloc_new _ _) (by rw [bs_size, h32]; exact hsH) (by rw [bs_size, bs_size, h32]; rfl) (bs_one _) ?_; rw [World.setRow_alloc_new, ← HW7.out])
                    | fail)
                  try simp only [Act.put, List.setIfInBounds_toArray, List.set_cons_zero, List.set_cons_succ]
                  clear LD ix HW7
                  go_wp2_with (first
                    | (refine wpList_load_arrP rfl _ rfl wr.heap.size rfl x G7.out h32 ?_)
                    | (refine wpList_build_is rfl 36 _ rfl [(0, .int .u8 238), (1, .int .u8 ((k : Int) % 256)), (2, .int .u8 ((k : Int) / 256 % 256))] (by first | kernel_rfl | simp) (bs x) BM.out ?_)
                    | fail)
                  exact ⟨⟨i + 1, by omega, by go_num, B7⟩, by simp [intOf]; omega⟩
                · obtain rfl : i = N := by omega
                  clear hlt
                  have cq := CQ.out wr B6.out
                  have cb := cB6.out wr B6.out
                  go_wp2
                  clear cg cq cb
                  go_loopw [12] (fun kk wx => ∃ i : Nat, i ≤ n0 ∧ kk = .int .i64 i ∧ Hid (Below w5.heap.size w5 wx)) (fun kk _ => n0 - (intOf kk).toNat)
                  case atStart => exact ⟨0, by omega, rfl, B6⟩
                  case round =>
                    clear B6
                    obtain ⟨i, hi, rfl, B6⟩ := hrel
                    have cq := CQ.out wr B6.out
                    have cb := cB6.out wr B6.out
                    by_cases hlt : i < n0
                    · have hlt' : (i : Int) < (n0 : Int) := by omega
                      obtain ⟨bb, bo, ha, hrg⟩ := sB6.out wr i B6.out hlt
                      have LD := K.Hid.mk' hrg
                      have ix := fun wx => indexH bb bo n0 k0 i wx hlt
                      rw [← ha] at ix
                      clear ha
                      have he := HE.out
                      clear hrg
                      obtain ⟨w7, hw7⟩ : ∃ w7, w7 = wr.alloc (.cells (bs x) 36) := ⟨_, rfl⟩
                      have G7 : Hid (w7.heap[wr.heap.size]? = some (.cells (bs x) 36 (0, 0))) := by show _ = _; rw [hw7]; exact heap_alloc_new _ _
                      have B7 : Hid (Below w5.heap.size w5 w7) := by show Below _ _ _; rw [hw7]; exact B6.out.alloc (by have := B6.out.size; omega) _
                      have HW7 := K.Hid.mk' hw7
                      clear hw7
                      go_upto_region 31 with (first
                        | (refine wpList_load_midP rfl _ rfl bb (bo + 32 * i) rfl x LD.out h32 ?_)
                        | (refine wpList_alloc_row rfl 36 rfl (bs z32) (hzH _) ?_)
                        | (refine wpList_store_row rfl 36 _ _ rfl wr.heap.size (bs x) rfl rfl 36 (bs z32) (heap_alloc_new _ _) (by rw [bs_size, h32]; exact hsH) (by rw [bs_size, bs_size, h32]; rfl) (bs_one _) ?_; rw [World.setRow_alloc_new, ← HW7.out])
                        | fail)
                      try simp only [Act.put, List.setIfInBounds_toArray, List.set_cons_zero, List.set_cons_succ]
                      clear LD ix HW7
                      go_wp2_with (first
                        | (refine wpList_load_arrP rfl _ rfl wr.heap.size rfl x G7.out h32 ?_)
                        | (refine wpList_build_is rfl 36 _ rfl [(0, .int .u8 238), (1, .int .u8 ((k : Int) % 256)), (2, .int .u8 ((k : Int) / 256 % 256))] (by first | kernel_rfl | simp) (bs x) BM.out ?_)
                        | fail)
                      go_roundw
                      case rel => exact ⟨i + 1, by omega, by go_num, B7⟩
                      case measure => simp [intOf]; omega
                    · obtain rfl : i = n0 := by omega
                      clear hlt
                      go_wp2
                      exact ⟨⟨k + 1, by omega, by go_num, B6⟩, by simp [intOf]; omega⟩
            · obtain rfl : k = j := by omega
              clear hkj
              have HR6 := HR.out wr B6.out
              go_wp2
              go_ret
              exact ⟨rfl, HR6.1, HR6.2.1, HR6.2.2⟩
end Go.Proofs.YtdnocpngdepbgaaGreatDoor.KH
