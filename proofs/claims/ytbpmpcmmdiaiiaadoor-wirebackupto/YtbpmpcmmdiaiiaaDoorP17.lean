import Derived.Test.YtbpmpcmmdiaiiaaDoorP10
import Derived.Test.YtbpmpcmmdiaiiaaDoorP16
import Derived.Test.YtbpmpcmmdiaiiaaDoorRows
import Derived.Great.BuildSlice
namespace Go.Proofs.YtbpmpcmmdiaiiaaDoor
open Go.RowKit
set_option linter.unusedVariables false
set_option linter.unusedSimpArgs false

theorem bulk_one {H : Type} (d : DataW H) : 1 ≤ Rows.uptoBulk d := by
  cases d with
  | lit l => cases l <;> simp [Rows.uptoBulk]
  | _ => simp [Rows.uptoBulk]
theorem bulk_len {H : Type} (l : List (DataW H)) : l.length ≤ Rows.uptoBulkAll l := by
  induction l with
  | nil => simp [Rows.uptoBulkAll]
  | cons x r ih => have := bulk_one x; simp only [Rows.uptoBulkAll, List.length_cons]; omega
theorem bulk_at {H : Type} : ∀ {l : List (DataW H)} {i : Nat} {d : DataW H}, l[i]? = some d → Rows.uptoBulk d ≤ Rows.uptoBulkAll l
  | x :: r, 0, d, h => by
    simp only [List.getElem?_cons_zero, Option.some.injEq] at h
    subst h
    simp only [Rows.uptoBulkAll]
    omega
  | x :: r, i + 1, d, h => by
    simp only [List.getElem?_cons_succ] at h
    have := bulk_at h
    simp only [Rows.uptoBulkAll]
    omega
  | [], i, d, h => by simp at h
set_option maxHeartbeats 1000000 in
/-- The cells of an Op that came in. -/
theorem op_cells2 {H : Type} {enc : TypeId × Value → H} {W : World} {fuel : Nat} {cs : List Value} {y : DataW H × List MemPlace} (h : DataW.trod enc Tryd.prog W 0 (fun _ => true) true fuel 35 cs = some y)
    (hb : Rows.uptoBulk y.1 ≤ 1048576) : ∃ (k : Int) (o : OpV), cs = (o.c k).toList ∧ ∃ R L, OpL W o R L := by
  obtain ⟨xs, n, _, hx, hcl, hlen, hfs⟩ := DataW.trod_struct Tryd.underlying35 h
  rw [cellsOp] at hcl
  have hlen : xs.length = 11 := hlen
  obtain ⟨y0, y1, y2, y3, y4, y5, y6, y7, y8, y9, y10, rfl⟩ := list11 hlen
  obtain ⟨c0, c1, c2, c3, c4, c5, c6, c7, t, rfl, ht⟩ := list8 (m := 34) (by omega)
  obtain ⟨c8, c9, hc89⟩ : ∃ c8 c9, t.drop 32 = [c8, c9] := list2 (by simp; omega)
  have tt : t = t.take 32 ++ [c8, c9] := by rw [← hc89, List.take_append_drop]
  have k1 : ∀ T, T ∈ opTypes → T ≠ 31 → Tryd.prog.cellsOf T = 1 := by
    intro T hT hne
    simp only [opTypes, List.mem_cons, List.not_mem_nil, or_false] at hT
    rcases hT with e | e | e | e | e | e | e | e | e | e | e <;> subst e <;> first | exact absurd rfl hne | kernel_rfl
  have t0 : DataW.trod enc Tryd.prog W 0 (fun _ => true) true n 3 [c0] = some y0 := by simpa [k1 3 (by decide) (by decide)] using hfs 0 _ rfl
  have t1 : DataW.trod enc Tryd.prog W 0 (fun _ => true) true n 5 [c1] = some y1 := by simpa [k1 5 (by decide) (by decide)] using hfs 1 _ rfl
  have t2 : DataW.trod enc Tryd.prog W 0 (fun _ => true) true n 4 [c2] = some y2 := by simpa [k1 4 (by decide) (by decide)] using hfs 2 _ rfl
  have t3 : DataW.trod enc Tryd.prog W 0 (fun _ => true) true n 27 [c3] = some y3 := by simpa [k1 27 (by decide) (by decide)] using hfs 3 _ rfl
  have t4 : DataW.trod enc Tryd.prog W 0 (fun _ => true) true n 2 [c4] = some y4 := by simpa [k1 2 (by decide) (by decide)] using hfs 4 _ rfl
  have t5 : DataW.trod enc Tryd.prog W 0 (fun _ => true) true n 28 [c5] = some y5 := by simpa [k1 28 (by decide) (by decide)] using hfs 5 _ rfl
  have t6 : DataW.trod enc Tryd.prog W 0 (fun _ => true) true n 9 [c6] = some y6 := by simpa [k1 9 (by decide) (by decide)] using hfs 6 _ rfl
  have t7 : DataW.trod enc Tryd.prog W 0 (fun _ => true) true n 29 [c7] = some y7 := by simpa [k1 29 (by decide) (by decide)] using hfs 7 _ rfl
  have t8 : DataW.trod enc Tryd.prog W 0 (fun _ => true) true n 31 (t.take 32) = some y8 := by
    have := hfs 8 _ rfl
    simpa [cellsH] using this
  have t9 : DataW.trod enc Tryd.prog W 0 (fun _ => true) true n 32 [c8] = some y9 := by
    have := hfs 9 _ rfl
    simpa [k1 32 (by decide) (by decide), hc89] using this
  have t10 : DataW.trod enc Tryd.prog W 0 (fun _ => true) true n 33 [c9] = some y10 := by
    have := hfs 10 _ rfl
    have e33 : (t.drop 33).take 1 = [c9] := by rw [show 33 = 32 + 1 from rfl, ← List.drop_drop, hc89]; rfl
    simpa [k1 33 (by decide) (by decide), e33] using this
  obtain ⟨z0, e0, _, w0⟩ := DataW.trod_int Tryd.underlying3 t0
  obtain ⟨z1, e1, _, w1⟩ := DataW.trod_int Tryd.underlying5 t1
  obtain ⟨z2, e2, _⟩ := DataW.trod_bool Tryd.underlying4 t2
  obtain ⟨z3, e3, _, w3⟩ := DataW.trod_int Tryd.underlying27 t3
  obtain ⟨z4, e4, _, w4⟩ := DataW.trod_int Tryd.underlying2 t4
  obtain ⟨z5, e5, w5⟩ := trod_float Tryd.underlying28 t5
  obtain ⟨z6, e6, x6, w6⟩ := DataW.trod_string Tryd.underlying9 t6
  obtain ⟨ra, rn, rc, e7, tr7⟩ := trod_sl Tryd.underlying29 t7
  obtain ⟨hh, hh32, e8⟩ := hash_cells t8
  obtain ⟨la, ln, lc, e9, tr9⟩ := trod_sl Tryd.underlying32 t9
  obtain ⟨z10, e10, _, w10⟩ := DataW.trod_int Tryd.underlying33 t10
  simp at e0 e1 e2 e3 e4 e5 e6 e10
  subst e0 e1 e2 e3 e4 e5 e6 e7 e9 e10
  rw [e8] at tt
  obtain ⟨R, hR, _, hRb, hRd⟩ := view_bytes tr7
  obtain ⟨L, hL, hL32, hLl, _, hLd⟩ := view_hashes tr9
  have b3 := u64_wf w3
  have b4 := i64_wf w4
  have b1 := bounds_u8 w1
  have b5 : z5 < 18446744073709551616 := by simpa [Lit.wf, FloatKind.format, Ieee.Format.width, Ieee.double] using w5
  rw [hx] at hb
  simp only [List.map_cons, List.map_nil, Rows.uptoBulk, Rows.uptoBulkAll] at hb
  have r6 : z6.size ≤ 1048576 := by
    have : Rows.uptoBulk y6.1 = z6.data.toList.length + 1 := by rw [x6]; simp [Rows.uptoBulk]
    have e : z6.data.toList.length = z6.size := by simp
    omega
  have r7 : rn ≤ 1048576 := by
    rcases hRd with ⟨_, h0⟩ | ⟨el, sp, hd, hel⟩
    · omega
    · have h1 := bulk_len el
      have : Rows.uptoBulk y7.1 = Rows.uptoBulkAll el + Rows.uptoBulkAll sp + 1 := by rw [hd]; simp [Rows.uptoBulk]
      omega
  have r9 : ln ≤ 1048576 := by
    rcases hLd with ⟨_, h0⟩ | ⟨el, sp, hd, hel⟩
    · omega
    · have h1 := bulk_len el
      have : Rows.uptoBulk y9.1 = Rows.uptoBulkAll el + Rows.uptoBulkAll sp + 1 := by rw [hd]; simp [Rows.uptoBulk]
      omega
  refine ⟨z0, ⟨z1, z2, z3.toNat, z4, z5, z6, ra, rn, rc, hh, la, ln, lc, z10⟩, ?_, R, L, hh32, by show z3.toNat < _; omega, b4.1, b4.2, b5, b1.1, b1.2, r6, hR, r7, hRb, hL32, hL, r9, hLl⟩
  rw [tt]
  show _ = oL _ _ _ _ _ _ _ _ _ _ _
  simp only [oL]
  rw [show ((z3.toNat : Nat) : Int) = z3 by omega]
/-- What a slice of Ops that came in gives a walk. -/
theorem view_ops2 {H : Type} {enc : TypeId × Value → H} {W : World} {a : Option Addr} {len cap : Nat} {d : DataW H} {p : List MemPlace}
    (h : DataW.Trod enc Tryd.prog W 0 (fun _ => true) true 22 (.slice a len cap) d p) (hb : Rows.uptoBulk d ≤ 1048576) :
    ∃ l : List (Int × OpV), l.length = len ∧ len ≤ 1048576 ∧ Opb W a l := by
  obtain ⟨fuel, hf⟩ := h
  rcases DataW.trod_slice Tryd.underlying22 hf with ⟨hcs', hx⟩ | ⟨ad, l, c, elems, rest, n, _, hcs', hx, _, hl, hm, hel, hcell, _, _⟩
  · simp [Value.cells] at hcs'
    obtain ⟨rfl, rfl, rfl⟩ := hcs'
    simp only [Prod.mk.injEq] at hx
    exact ⟨[], rfl, by omega, .inl rfl⟩
  · simp [Value.cells] at hcs'
    obtain ⟨rfl, rfl, rfl⟩ := hcs'
    simp only [Prod.mk.injEq] at hx
    obtain ⟨b, off, spot⟩ := ad
    rw [hx.1] at hb
    simp only [Rows.uptoBulk] at hb
    have hwd : Rows.uptoBulkAll (elems.map (·.1)) ≤ 1048576 := by omega
    have hbd : len ≤ 1048576 := by
      have := bulk_len (elems.map (·.1))
      rw [List.length_map] at this
      omega
    have raw : ∀ i, i < len → ∃ x : Int × OpV, (∃ R L, OpL W x.2 R L) ∧ ∀ j u, (x.2.c x.1).toList[j]? = some u → W.cell? (((⟨b, off, spot⟩ : Addr).add (i * 42)).add j) = some u := fun i hi => by
      have hi2 := hcell i hi
      have hlt : i < elems.length := by omega
      rw [List.getElem?_eq_getElem hlt, cellsOp, Option.bind_eq_some_iff] at hi2
      obtain ⟨cs, hc1, hc2⟩ := hi2
      obtain ⟨k, o, rfl, R, L, ok⟩ := op_cells2 hc2 (Nat.le_trans (bulk_at (l := elems.map (·.1)) (i := i) (d := elems[i].1) (by simp [hlt])) hwd)
      obtain ⟨_, _, hc3⟩ := World.cells?_some hc1
      refine ⟨(k, o), ⟨R, L, ok⟩, fun j u hu => ?_⟩
      have hj := (List.getElem?_eq_some_iff.1 hu).1
      have hj : j < 42 := by rw [oc_len o k ok.hh] at hj; exact hj
      rw [hc3 j hj]
      exact hu
    have hspot : 0 < len → spot = none := fun h0 => by
      obtain ⟨x, ⟨R, L, ok⟩, hc⟩ := raw 0 h0
      have q := hc 0 _ (List.getElem?_eq_getElem (by rw [oc_len x.2 x.1 ok.hh]; omega))
      have := World.cell?_spot q
      simpa [Addr.add] using this
    let F : Nat → Int × OpV := fun i => if h : i < len then Classical.choose (raw i h) else (0, ⟨0, false, 0, 0, 0, ⟨#[]⟩, none, 0, 0, [], none, 0, 0, 0⟩)
    have hF : ∀ i (h : i < len), F i = Classical.choose (raw i h) := fun i h => dif_pos h
    refine ⟨(List.range len).map F, by simp, hbd, ?_⟩
    by_cases h0 : 0 < len
    · have hs := hspot h0
      subst hs
      refine .inr ⟨b, off, rfl, fun i k o hv => ?_⟩
      have hi : i < len := by
        have := (List.getElem?_eq_some_iff.1 hv).1
        simpa using this
      rw [List.getElem?_map, List.getElem?_range hi] at hv
      simp only [Option.map_some, Option.some.injEq] at hv
      rw [hF i hi] at hv
      have sp := Classical.choose_spec (raw i hi)
      rw [hv] at sp
      refine ⟨fun j u hu => ?_, sp.1⟩
      have := sp.2 j u hu
      rw [Addr.add_mid, Addr.add_mid] at this
      rwa [show off + 42 * i + j = off + i * 42 + j by omega]
    · obtain rfl : len = 0 := by omega
      exact .inl rfl
end Go.Proofs.YtbpmpcmmdiaiiaaDoor

namespace Go.Proofs.YtbpmpcmmdiaiiaaDoor
open Go.RowKit
set_option linter.unusedVariables false
set_option linter.unusedSimpArgs false

theorem flat_cut {Es : List (List UInt8)} {k : Nat} {E : List UInt8} (h : Es[k]? = some E) : K.cut Es.flatten (Es.take k).flatten.length E.length = E ∧ (Es.take k).flatten.length + E.length ≤ Es.flatten.length ∧ (Es.take (k + 1)).flatten.length = (Es.take k).flatten.length + E.length := by
  obtain ⟨hk, hE⟩ := List.getElem?_eq_some_iff.1 h
  have e1 : Es.flatten = (Es.take k).flatten ++ (E ++ (Es.drop (k + 1)).flatten) := by
    conv => lhs; rw [← List.take_append_drop k Es]
    rw [List.flatten_append, List.drop_eq_getElem_cons hk, List.flatten_cons, hE]
  have e2 : (Es.take (k + 1)).flatten = (Es.take k).flatten ++ E := by
    rw [List.take_add_one, h]
    simp
  refine ⟨?_, ?_, ?_⟩
  · rw [e1]
    unfold K.cut
    rw [List.drop_left, List.take_left]
  · rw [e1]
    simp only [List.length_append]
    omega
  · rw [e2, List.length_append]
namespace K
set_option maxRecDepth 100000 in
theorem wdone_cap {p : Nat} {g : Option Nat} {M : List UInt8} (w : World) (hw : WS w 50 p g M 0) (hl : M.length ≤ 140737488355328) :
    Calls Tryd.prog 9 #[.pointer (some ⟨p, 0, none⟩)] w fun x w' => ∃ a cv, x = .returned (.tuple #[.slice a M.length cv, .int .i64 0]) ∧ Byt w' a M ∧ (a = none → cv = 0) ∧ Below w.heap.size w w' := by
  obtain ⟨a, cv, c0, c1, hb, ha⟩ := hw.view
  clear hw
  have HC : Hid (Calls Tryd.prog 39 #[.slice a M.length cv] w fun x w' => ∃ a cv, x = .returned (.slice a M.length cv) ∧ Byt w' a M ∧ (a = none → cv = 0) ∧ Below w.heap.size w w') := (clone_all a M.length cv M w rfl hl (fun e => by rcases ha with ⟨_, _, h⟩ | ⟨b, h⟩; exact h; rw [e] at h; cases h) hb).mono fun x w' h => by
    obtain ⟨v, h1, h2, h3⟩ := h
    obtain ⟨a', cap', rfl, _, hb', _⟩ := h2.open
    refine ⟨a', cap', h1, hb', fun e => ?_, h3⟩
    rcases h2.2 with ⟨e3, _⟩ | ⟨g, cap'', cur, e3, _⟩
    · simp only [Value.slice.injEq] at e3
      exact e3.2.2
    · simp only [Value.slice.injEq] at e3
      rw [e] at e3
      cases e3.1
  clear hb hl ha
  generalize M.length = n at *
  go_enter Tryd.func9, Tryd.ntmps9
  go_wp2_with fail
  refine HC.out.mono ?_
  rintro x w1 ⟨a1, cv1, rfl, h2, h4, h3⟩
  have H2 := Hid.mk' h2
  have H3 := Hid.mk' h3
  have H4 := Hid.mk' h4
  clear h2 h3 h4
  go_wp2
  go_ret2
  exact ⟨_, _, rfl, H2.out, H4.out, H3.out⟩
end K
/-- The Reader, and the Ops that were sent. -/
structure BackR (W : World) (r : Nat) (a : Option Addr) (cap : Nat) (B : List UInt8) (wr : World) (t : Nat) (v : Value) (S : List (Int × OpV)) : Prop where
  rd : K.RD wr 92 r a cap B ⟨t, 0, 0⟩
  bl : Below W.heap.size W wr
  rz : W.heap.size ≤ r
  own : OwnO wr W.heap.size v S
variable {W wr w' : World} {r cap t t' : Nat} {a : Option Addr} {B : List UInt8} {v : Value} {S : List (Int × OpV)}
theorem BackR.sep (I : BackR W r a cap B wr t v S) (q : Nat) (hq : v.ownBlock = some q) : q ≠ r := by
  rcases I.own.2.2 with ⟨rfl, _⟩ | ⟨q', cap', cur, rfl, hbg, hg, rest⟩
  · cases hq
  · cases hq
    intro e
    have e' : q' = r := e
    rw [e', I.rd.row] at hg
    cases hg
theorem BackR.below (I : BackR W r a cap B wr t v S) (b : Below wr.heap.size wr w') : BackR W r a cap B w' t v S :=
  ⟨RD_b I.rd b, I.bl.trans (b.mono I.bl.size), I.rz, I.own.below b⟩
theorem BackR.read (I : BackR W r a cap B wr t v S) (on : K.On wr w' 92 r a cap B ⟨t', 0, 0⟩) : BackR W r a cap B w' t' v S :=
  ⟨on.1, fr_below I.bl on.2 I.rz, I.rz, I.own.keep fun q hq => on.2.block q (I.own.lt q hq).2 (I.sep q hq)⟩
theorem BackR.range {q d c : Nat} (I : BackR W r a cap B wr t (.slice (some ⟨q, 0, none⟩) d c) S) {i : Nat} {kd : Int} {o : OpV} (h : S[i]? = some (kd, o)) : wr.rangeAt q (42 * i) (o.c kd).toList := by
  rcases I.own.open with ⟨e, _⟩ | ⟨q', c', e, _, _, hr⟩
  · cases e
  · have : q = q' := by simp at e; exact e.1
    subst this
    exact hr i kd o h
end Go.Proofs.YtbpmpcmmdiaiiaaDoor

namespace Go.Proofs.YtbpmpcmmdiaiiaaDoor
open Go.RowKit
set_option linter.unusedVariables false
set_option linter.unusedSimpArgs false

theorem le_next {a k : Nat} (h : a ≤ k * 33554500) : a ≤ (k + 1) * 33554500 := Nat.le_trans h (Nat.mul_le_mul_right _ (Nat.le_succ k))
theorem le_next2 {a b k : Nat} (h : a ≤ k * 33554500) (hb : b ≤ 33554500) : a + b ≤ (k + 1) * 33554500 := by rw [Nat.add_mul, Nat.one_mul]; exact Nat.add_le_add h hb
/-- A slice literal of one Op. -/
theorem wpList_bsO {ops : Array Oper} {rest : List Oper} {o : Oper} {a : Act} {w : World} {Q : Exit → Act → World → Prop} (hg : o.guard = none) (x : Operand) (ho : o.op = .buildSlice 22 1 #[(0, x)])
    (C : Array Value) (hx : a.eval x = .agg C) (hC : C.size = 42)
    (h : wpList Tryd.prog ops Q rest (a.put o.dst (.slice (some ⟨w.heap.size, 0, none⟩) 1 1)) (w.alloc (.cells C 35))) : wpList Tryd.prog ops Q (o :: rest) a w := by
  obtain ⟨ie, hi, hz, hs, hby⟩ := infoO
  refine wpList_buildSlice hg 22 35 1 #[(0, x)] ho C ie _ Tryd.underlying22 hi hz (by rw [hs]; decide) (by rw [hs]; decide) ?_ h
  rw [hs]
  have := Go.Great.fill_whole (s := 42) (by decide) [.agg C] ((Array.range (1 * 42)).map ((Value.agg (oz.c 0)).cells[· % (Value.agg (oz.c 0)).cells.size]!)) (by intro v hv; simp at hv; subst hv; exact hC) (by simp)
  simp only [List.map_toArray, List.map_cons, List.map_nil, hx]
  simpa [Value.cells] using this
set_option maxRecDepth 100000 in
set_option maxHeartbeats 4000000 in
theorem back_all (a1 : Option Addr) (l : List (Int × OpV)) (n c1 : Nat) (w : World) (hn : l.length = n) (hnn : n ≤ 1048576) (hr : Opb w a1 l) (hT : K.Tabs w) :
    Calls Tryd.prog 4 #[.slice a1 n c1] w fun e w' => e = .returned (.bool true) ∧ Below w.heap.size w w' := by
  have HL := K.Hid.mk' (K.live_any w hT)
  have HT := K.Hid.mk' hT
  have HN := K.Hid.mk' hn
  have HR := K.Hid.mk' hr
  clear hT hn hr
  go_enter Tryd.func4, Tryd.ntmps4
  go_wp2_with fail
  refine HL.out.mono ?_
  rintro e w1 ⟨rfl, b1⟩
  have hz1 := b1.size
  have I0 : Hid (BackA w w1.heap.size (w1.alloc (.cells #[.slice none 0 0, .int .i64 0] 50)) none [] (.slice none 0 0) []) :=
    ⟨K.ws_new w1 _, b1.alloc hz1 _, fun q e => (by cases e), hz1, OwnO.nil _ _⟩
  clear b1 HL
  go_wp2
  generalize (w1.alloc (.cells #[.slice none 0 0, .int .i64 0] 50)) = W0 at *
  go_loopw [4, 5] (fun v i wr => ∃ (k d : Nat) (va : Option Addr) (vc : Nat) (g : Option Nat) (S : List (Int × OpV)) (Es : List (List UInt8)), k ≤ n ∧ d ≤ k ∧ i = .int .i64 k ∧ v = .slice va d vc ∧ Hid (d = S.length) ∧ Hid (Es.flatten.length ≤ k * 33554500) ∧ Hid (Sent w S Es) ∧ Hid (BackA w w1.heap.size wr g Es.flatten (.slice va d vc) S)) (fun _ i _ => n - (intOf i).toNat)
  case atStart => exact ⟨0, 0, none, 0, none, [], [], Nat.zero_le _, Nat.le_refl _, rfl, rfl, (rfl : 0 = ([] : List (Int × OpV)).length), (by simp : ([] : List (List UInt8)).flatten.length ≤ 0 * 33554500), Sent.nil _, I0⟩
  case round =>
    clear I0
    obtain ⟨k, d, va, vc, g, S, Es, hk, hd, rfl, rfl, HD, HLE, HS, HI⟩ := hrel
    by_cases hkn : k < n
    · obtain ⟨bl, off, kd, o, R, L, rfl, hmem, hra, ok, hbl⟩ := HR.out.at (i := k) (by rw [HN.out]; exact hkn)
      have OK := K.Hid.mk' ok
      have hhO := ok.hh
      have RA : Hid (wr.rangeAt bl (off + 42 * k) (o.c kd).toList) := rangeAt_below hra HI.out.bl hbl
      have HBL := K.Hid.mk' hbl
      have OLn := K.Hid.mk' (opc_len (k := kd) hhO)
      have ix := fun wx => indexOp bl off n c1 k wx hkn
      have RO := K.Hid.mk' (ro_any kd o hhO (by have := ok.s; omega) wr)
      obtain ⟨D, hD⟩ := srt_ex L ok.l32
      have HDD := K.Hid.mk' hD
      have HWR : Hid (∀ wx, Below wr.heap.size wr wx → sentB kd o = true → Calls Tryd.prog 7 #[.pointer (some ⟨w1.heap.size, 0, none⟩), .agg (o.c kd)] wx fun x w' => x = .returned (.bool true) ∧ K.Wr wx w' 50 w1.heap.size g (Es.flatten ++ enc kd o.z R D) 0) := fun wx bx hs =>
        wr_op w kd o R L D OK.out hD.1 hs wx (HI.out.below bx).bl (HI.out.below bx).ws HI.out.pz HI.out.gz (HT.out.below (HI.out.below bx).bl) (by have := HLE.out; omega)
      have OE : Hid ((o.c kd).toList.toArray = o.c kd) := (rfl : _ = _)
      clear hra ok hbl hD hmem
      obtain ⟨C, hC⟩ : ∃ C, C = o.c kd := ⟨_, rfl⟩
      have HC := K.Hid.mk' hC
      rw [← hC] at RA OLn RO HWR OE
      clear hC
      go_wp2_with (first
        | (refine wpList_load_mid rfl 35 _ rfl bl (off + 42 * k) rfl C.toList _ RA.out Tryd.underlying35 rfl (by rw [OLn.out]; exact sizeOp) ?_; rw [show C.toList.toArray = C from rfl])
        | fail)
      refine RO.out.mono ?_
      rintro x w2 ⟨rfl, b2⟩
      have RA2 : Hid (w2.rangeAt bl (off + 42 * k) C.toList) := rangeAt_below RA.out b2 (by have := HI.out.bl.size; have := HBL.out; omega)
      have I2 := K.Hid.mk' (HI.out.below b2)
      have W2 := K.Hid.mk' (fun wx (bx : Below w2.heap.size w2 wx) => HWR.out wx (b2.trans (bx.mono b2.size)))
      clear b2 HI RO RA HWR
      obtain ⟨RV, hRV⟩ : ∃ RV : Array Value, RV = #[.int .i64 kd, .int .u64 (o.u : Int), .int .i64 (mostOf kd o : Int), .int .i64 0] := ⟨_, rfl⟩
      have hRs : RV.size = 4 := by rw [hRV]; rfl
      have hRo : RV.all (·.oneCell') = true := by rw [hRV]; exact rz4_one _ _ _ _ rfl rfl rfl rfl
      rw [← hRV]
      clear hRV
      have bA : Below w2.heap.size w2 (w2.alloc (.cells RV 45)) := (Below.refl _ _).alloc (Nat.le_refl _) _
      by_cases hs : sentB kd o = true
      · rw [hs]
        have W3 := K.Hid.mk' (W2.out (w2.alloc (.cells RV 45)) bA hs)
        have RA3 : Hid ((w2.alloc (.cells RV 45)).rangeAt bl (off + 42 * k) C.toList) := rangeAt_below RA2.out bA (by have := I2.out.bl.size; have := HBL.out; omega)
        have I3 := K.Hid.mk' (I2.out.below bA)
        have HWW : Hid (∃ W3, w2.alloc (.cells RV 45) = W3) := ⟨_, rfl⟩
        obtain ⟨W3', hW3⟩ := HWW.out
        rw [hW3] at W3 RA3 I3
        have HW3 := K.Hid.mk' hW3
        have hblW : Hid (bl < W3'.heap.size) := (by have := I3.out.bl.size; have := HBL.out; omega : bl < W3'.heap.size)
        clear W2 hW3 HWW bA RA2 I2
        go_upto_region 10 with (first
          | (refine wpList_alloc_row rfl 45 rfl rz4 (hz45 _) ?_)
          | (refine wpList_store_row rfl 45 _ _ rfl w2.heap.size RV rfl rfl 45 rz4 (heap_alloc_new _ _) (by rw [hRs]; exact sizeRead) (by rw [hRs]; rfl) hRo ?_; rw [World.setRow_alloc_new, HW3.out])
          | fail)
        try simp only [Act.put, List.setIfInBounds_toArray, List.set_cons_zero, List.set_cons_succ]
        go_wp2_with (first
          | (refine wpList_load_mid rfl 35 _ rfl bl (off + 42 * k) rfl C.toList _ RA3.out Tryd.underlying35 rfl (by rw [OLn.out]; exact sizeOp) ?_; rw [show C.toList.toArray = C from rfl])
          | fail)
        refine W3.out.mono ?_
        rintro x w4 ⟨rfl, wr4⟩
        have RA4 : Hid (w4.rangeAt bl (off + 42 * k) C.toList) := by
          obtain ⟨g4, _, fr4, _⟩ := wr4
          exact fun j v hv => (World.cell?_of_block (fr4.block bl hblW.out (by have := I3.out.pz; have := HBL.out; omega) (fun e => by have := I3.out.gz bl e.symm; have := HBL.out; omega))).trans (RA3.out j v hv)
        obtain ⟨g4, i4⟩ := I3.out.write wr4
        have hCs : C.size = 42 := by have := OLn.out; rwa [Array.length_toList] at this
        have bB : Below w4.heap.size w4 (w4.alloc (.cells C 35)) := (Below.refl _ _).alloc (Nat.le_refl _) _
        have I5 := K.Hid.mk' (i4.below bB)
        have hB5 : Hid (∀ j u, (o.c kd).toList[j]? = some u → (w4.alloc (.cells C 35)).cell? ((⟨w4.heap.size, 0, none⟩ : Addr).add j) = some u) := fun j u hu => by
          rw [Addr.add_mid, Nat.zero_add, cell_of_row _ w4.heap.size j C _ (0, 0) (heap_alloc_new _ _)]
          rw [← HC.out] at hu
          simpa using hu
        have hSl : Hid (S.length ≤ 1048576) := (by have := HD.out; omega : S.length ≤ 1048576)
        have hZ5 : Hid (w.heap.size ≤ (w4.alloc (.cells C 35)).heap.size) := I5.out.bl.size
        clear wr4 i4 bB W3 RA3 I3 HW3 hRs hRo
        go_wp2_with (first
          | (refine wpList_load_mid rfl 35 _ rfl bl (off + 42 * k) rfl C.toList _ RA4.out Tryd.underlying35 rfl (by rw [OLn.out]; exact sizeOp) ?_; rw [show C.toList.toArray = C from rfl])
          | (refine wpList_bsO rfl _ rfl C rfl hCs ?_)
          | (at_builtin; refine wpList_appO rfl (.tmp 40) (.tmp 45) rfl w.heap.size (.slice va d vc) S rfl I5.out.own ⟨w4.heap.size, 0, none⟩ 1 kd o rfl hhO hB5.out hSl.out hZ5.out ?_)
          | fail)
        intro v6 w6 own6 gr6
        have I6 := I5.out.grow gr6 own6
        have hl6 : (S ++ [(kd, o)]).length = d + 1 := by rw [List.length_append, ← HD.out]; rfl
        rcases own6.open with ⟨_, h6⟩ | ⟨g6, c6, rfl, _⟩
        · simp at h6
        · rw [hl6] at I6 ⊢
          have S6 := K.Hid.mk' (HS.out.snoc OK.out HDD.out.1 HDD.out.2 hs)
          have e6 : (Es ++ [enc kd o.z R D]).flatten = Es.flatten ++ enc kd o.z R D := by simp
          rw [← e6] at I6
          have I7 := K.Hid.mk' I6
          have L6 : Hid ((Es ++ [enc kd o.z R D]).flatten.length ≤ (k + 1) * 33554500) := by
            show _ ≤ _
            rw [e6, List.length_append]
            exact le_next2 HLE.out (enc_len (kd := kd) OK.out HDD.out.1 HDD.out.2)
          have D6 : Hid (d + 1 = (S ++ [(kd, o)]).length) := hl6.symm
          clear own6 gr6 I6 hl6 e6 I5 hB5 hSl hZ5 RA4
          generalize enc kd o.z R D = E at *
          go_wp2
          go_roundw
          case rel => exact ⟨k + 1, d + 1, some ⟨g6, 0, none⟩, c6, g4, S ++ [(kd, o)], Es ++ [E], by omega, by omega, by go_num, rfl, D6, L6, S6, I7⟩
          case measure => simp [intOf]; omega
      · rw [Bool.not_eq_true] at hs
        rw [hs]
        have I3 := K.Hid.mk' (I2.out.below bA)
        have L3 : Hid (Es.flatten.length ≤ (k + 1) * 33554500) := le_next HLE.out
        clear W2 bA I2
        go_wp2_with (first
          | (refine wpList_alloc_row rfl 45 rfl rz4 (hz45 _) ?_)
          | (refine wpList_store_row rfl 45 _ _ rfl w2.heap.size RV rfl rfl 45 rz4 (heap_alloc_new _ _) (by rw [hRs]; exact sizeRead) (by rw [hRs]; rfl) hRo ?_; rw [World.setRow_alloc_new])
          | fail)
        go_roundw
        case rel => exact ⟨k + 1, d, va, vc, g, S, Es, by omega, by omega, by go_num, rfl, HD, L3, HS, I3⟩
        case measure => simp [intOf]; omega
    · have hkn' : k = n := by omega
      have hM : Es.flatten.length ≤ 140737488351232 := Nat.le_trans (Nat.le_trans HLE.out (Nat.mul_le_mul_right _ (by omega : k ≤ 1048576))) (by decide)
      have DN := K.Hid.mk' (K.wdone_cap wr HI.out.ws (by omega))
      have HMl := K.Hid.mk' hM
      clear hM hkn'
      obtain ⟨B, hB⟩ : ∃ B, B = Es.flatten := ⟨_, rfl⟩
      have HB := K.Hid.mk' hB
      rw [← hB] at DN HI HMl
      clear hB
      obtain ⟨nb, hnb⟩ : ∃ nb, nb = B.length := ⟨_, rfl⟩
      have HNb := K.Hid.mk' hnb
      have hnb2 : nb ≤ 140737488351232 := by rw [hnb]; exact HMl.out
      rw [← hnb] at DN
      clear hnb
      go_wp2_with fail
      refine DN.out.mono ?_
      rintro x w2 ⟨a2, cv2, rfl, y2, z2, b2⟩
      have I2 := K.Hid.mk' (HI.out.below b2)
      have WL := K.Hid.mk' (K.wlen_any nb w2 I2.out.ws HNb.out.symm)
      have N2 := K.Hid.mk' (K.new_gen a2 nb cv2 B w2 HNb.out.symm hnb2 z2 y2)
      clear y2 z2 b2 DN HI
      go_wp2_with fail
      refine WL.out.mono ?_
      rintro x w3 ⟨rfl, hw3⟩
      subst hw3
      go_wp2_with fail
      refine N2.out.mono ?_
      rintro x w4 ⟨r, a, cap, rfl, rd4, hr4, b4, _⟩
      have hz3 := I2.out.bl.size
      have J0 : Hid (BackR w r a cap B w4 (Es.take 0).flatten.length (.slice va d vc) S) := ⟨(by simpa using rd4), (I2.out.below b4).bl, Nat.le_trans hz3 hr4, (I2.out.below b4).own⟩
      have hgl : Hid (0 ≠ r ∧ 1 ≠ r) := HT.out.ne (Nat.le_trans hz3 hr4)
      clear rd4 hr4 b4 hz3 I2 N2 WL
      go_wp2
      go_loopw [11] (fun i wq => ∃ (t : Nat), t ≤ d ∧ i = .int .i64 t ∧ Hid (BackR w r a cap B wq (Es.take t).flatten.length (.slice va d vc) S)) (fun i _ => d - (intOf i).toNat)
      case atStart => exact ⟨0, Nat.zero_le _, rfl, J0⟩
      case round =>
        clear J0
        obtain ⟨t, ht, rfl, HJ⟩ := hrel
        by_cases htd : t < d
        · obtain ⟨⟨kd, o⟩, hmem⟩ : ∃ x, S[t]? = some x := ⟨_, List.getElem?_eq_getElem (by rw [← HD.out]; exact htd)⟩
          obtain ⟨R, L, D, ok, hD, hDl, hs, hE⟩ := HS.out.each t kd o hmem
          obtain ⟨cut1, cut2, cut3⟩ := flat_cut hE
          rw [← HB.out] at cut1 cut2
          rcases HJ.out.own.open with ⟨_, h0⟩ | ⟨q, cq, hv, hqz, hql, hqr⟩
          · rw [h0] at hmem; simp at hmem
          · obtain ⟨rfl, hdS, rfl⟩ : va = some ⟨q, 0, none⟩ ∧ d = S.length ∧ vc = cq := by simpa using hv
            clear hdS
            have RA : Hid (wr.rangeAt q (t * 42) (o.c kd).toList) := (by rw [Nat.mul_comm]; exact hqr t kd o hmem : wr.rangeAt q (t * 42) (o.c kd).toList)
            have RGE : Hid (∀ wx t', BackR w r a cap B wx t' (.slice (some ⟨q, 0, none⟩) d vc) S → wx.rangeAt q (t * 42) (o.c kd).toList) := fun wx t' I => by rw [Nat.mul_comm]; exact I.range hmem
            have hhO := ok.hh
            have OLn := K.Hid.mk' (opc_len (k := kd) hhO)
            have RO := K.Hid.mk' (ro_any kd o hhO (by have := ok.s; omega) wr)
            rw [hs] at RO
            obtain ⟨RV, hRV⟩ : ∃ RV : Array Value, RV = #[.int .i64 kd, .int .u64 (o.u : Int), .int .i64 (mostOf kd o : Int), .int .i64 0] := ⟨_, rfl⟩
            have hRs : RV.size = 4 := by rw [hRV]; rfl
            have hRo : RV.all (·.oneCell') = true := by rw [hRV]; exact rz4_one _ _ _ _ rfl rfl rfl rfl
            have RDO : Hid (∀ wx, BackR w r a cap B wx (Es.take t).flatten.length (.slice (some ⟨q, 0, none⟩) d vc) S → Calls Tryd.prog 11 #[.pointer (some ⟨r, 0, none⟩), .agg RV] wx fun x w' => ∃ G : Array Value, x = .returned (.agg G) ∧ Hid (BackR w r a cap B w' (Es.take (t + 1)).flatten.length (.slice (some ⟨q, 0, none⟩) d vc) S) ∧ Hid (ToldOk w' G kd o) ∧ Hid (K.Fr r wx w')) := fun wx I => by
              rw [hRV]
              refine (rd_op w kd o R L D ok hD hDl hs wx I.bl I.rz (HT.out.below I.bl) hgl.out I.rd rfl cut2 cut1).mono fun x w' h => ?_
              obtain ⟨G, h1, _, on, td⟩ := h
              refine ⟨G, h1, ?_, td, on.2⟩
              show BackR _ _ _ _ _ _ _ _ _
              rw [cut3]
              exact I.read on
            rw [← hRV] at RO
            clear hv hqz hql hqr hmem hE cut1 cut2 cut3 ok hD hDl hs hRV
            obtain ⟨C, hC⟩ : ∃ C, C = o.c kd := ⟨_, rfl⟩
            have TOK : Hid (∀ W G, ToldOk W G kd o → Calls Tryd.prog 18 #[.agg G, .agg C] W fun e w' => e = .returned (.bool true) ∧ Below W.heap.size W w') := fun W G h => by
              rw [hC]
              exact h W (Below.refl _ _)
            rw [← hC] at RA OLn RO RGE
            clear hC
            go_wp2_with (first
              | (refine wpList_load_mid rfl 35 _ rfl q (t * 42) rfl C.toList _ RA.out Tryd.underlying35 rfl (by rw [OLn.out]; exact sizeOp) ?_; rw [show C.toList.toArray = C from rfl])
              | fail)
            refine RO.out.mono ?_
            rintro x w5 ⟨rfl, b5⟩
            have bA : Below w5.heap.size w5 (w5.alloc (.cells RV 45)) := (Below.refl _ _).alloc (Nat.le_refl _) _
            have J5 := HJ.out.below (b5.trans (bA.mono b5.size))
            have hrow := heap_alloc_new w5 (.cells RV 45)
            obtain ⟨W6, hW6⟩ : ∃ W6, w5.alloc (.cells RV 45) = W6 := ⟨_, rfl⟩
            rw [hW6] at J5 hrow
            have HW6 := K.Hid.mk' hW6
            have HRW := K.Hid.mk' hrow
            have bW : Below W6.heap.size W6 W6.drew := (Below.refl _ _).drew
            have RD6 := K.Hid.mk' (RDO.out W6.drew (J5.below bW))
            have RR6 : Hid (W6.rangeAt q (t * 42) C.toList) := RGE.out W6 _ J5
            have RB6 : Hid (W6.rangeAt w5.heap.size 0 RV.toList) := fun j v hv => by
              rw [Nat.zero_add, cell_of_row W6 w5.heap.size j RV _ (0, 0) HRW.out]
              simpa using hv
            have RVl : Hid (RV.toList.length = 4) := (by rw [Array.length_toList]; exact hRs : RV.toList.length = 4)
            have hr5 : Hid (r < w5.heap.size) := Nat.lt_of_lt_of_le HJ.out.rd.lt b5.size
            have h56 : Hid (w5.heap.size < W6.heap.size) := (Array.getElem?_eq_some_iff.1 HRW.out).1
            have RB7 : Hid (∀ w7, K.Fr r W6.drew w7 → w7.rangeAt w5.heap.size 0 RV.toList) := fun w7 fr j v hv => (World.cell?_of_block (fr.block w5.heap.size h56.out (by have := hr5.out; omega))).trans (RB6.out j v hv)
            clear hW6 hrow J5 b5 bA RDO RO RA HJ bW
            go_upto_region 20 with (first
              | (refine wpList_alloc_row rfl 45 rfl rz4 (hz45 _) ?_)
              | (refine wpList_store_row rfl 45 _ _ rfl w5.heap.size RV rfl rfl 45 rz4 (heap_alloc_new _ _) (by rw [hRs]; exact sizeRead) (by rw [hRs]; rfl) hRo ?_; rw [World.setRow_alloc_new, HW6.out])
              | fail)
            try simp only [Act.put, List.setIfInBounds_toArray, List.set_cons_zero, List.set_cons_succ]
            refine wp_region_noPanic ?_
            refine wp_region_held_drew (S := fun w' => w'.rangeAt q (t * 42) C.toList ∧ w'.rangeAt w5.heap.size 0 RV.toList) (by kernel_rfl) ⟨RR6.out, RB6.out⟩ (fun hHeld => ?_)
            refine wpAnyH_take (i := 0) (v := Value.pointer (some ⟨r, 0, none⟩)) rfl (by kernel_rfl) (by kernel_rfl) (by kernel_rfl) (fun _ _ _ h => h) (Or.inl ⟨by rfl, ?_⟩) hHeld ?_
            · intro w' hS
              go_simp
            simp only [Act.put, List.setIfInBounds_toArray, List.set_cons_zero, List.set_cons_succ]
            refine wpAnyH_take (i := 3) (v := Value.slice (some ⟨q, 0, none⟩) d vc) rfl (by kernel_rfl) (by kernel_rfl) (by kernel_rfl) (fun _ _ _ h => h) (Or.inl ⟨by rfl, ?_⟩) hHeld ?_
            · intro w' hS
              go_simp
            simp only [Act.put, List.setIfInBounds_toArray, List.set_cons_zero, List.set_cons_succ]
            refine wpAnyH_take (i := 4) (v := Value.int .i64 (t : Int)) rfl (by kernel_rfl) (by kernel_rfl) (by kernel_rfl) (fun _ _ _ h => h) (Or.inl ⟨by rfl, ?_⟩) hHeld ?_
            · intro w' hS
              go_simp
            simp only [Act.put, List.setIfInBounds_toArray, List.set_cons_zero, List.set_cons_succ]
            refine wpAnyH_take (i := 5) (v := Value.pointer (some ⟨q, t * 42, none⟩)) rfl (by kernel_rfl) (by kernel_rfl) (by kernel_rfl) (fun _ _ _ h => h) (Or.inl ⟨by rfl, ?_⟩) hHeld ?_
            · intro w' hS
              go_simp
            simp only [Act.put, List.setIfInBounds_toArray, List.set_cons_zero, List.set_cons_succ]
            refine wpAnyH_take (i := 6) (v := Value.agg C) rfl (by kernel_rfl) (by kernel_rfl) (by kernel_rfl) (fun _ _ _ h => h) (yieldsIf_load_mid (by rfl) 35 (.tmp 82) rfl q (t * 42) rfl C.toList _ (fun _ h => h.1) Tryd.underlying35 rfl (by rw [OLn.out]; exact sizeOp)) hHeld ?_
            simp only [Act.put, List.setIfInBounds_toArray, List.set_cons_zero, List.set_cons_succ]
            refine wpAnyH_take (i := 1) (v := Value.agg RV) rfl (by kernel_rfl) (by kernel_rfl) (by kernel_rfl) (fun _ _ _ h => h) (yieldsIf_load_mid (by rfl) 45 (.tmp 12) rfl w5.heap.size 0 rfl RV.toList _ (fun _ h => h.2) Tryd.underlying45 rfl (by rw [RVl.out]; exact sizeRead)) hHeld ?_
            simp only [Act.put, List.setIfInBounds_toArray, List.set_cons_zero, List.set_cons_succ]
            refine wpAnyH_ready (rs := [2]) (by kernel_rfl) (by simp) ?_
            refine AllReadyH.cons rfl (fun K hK => ?_) AllReadyH.nil
            go_simp
            refine RD6.out.mono ?_
            rintro x w7 ⟨G, rfl, J7, T7, F7⟩
            refine hK.out _ _ ⟨RGE.out w7 _ J7.out, RB7.out w7 F7.out⟩ (fun hHeld2 => ?_)
            clear hK K
            try simp only [Act.put, List.setIfInBounds_toArray, List.set_cons_zero, List.set_cons_succ]
            refine wpAnyH_ready (rs := [7]) (by kernel_rfl) (by simp) ?_
            refine AllReadyH.cons rfl (fun K hK => ?_) AllReadyH.nil
            go_simp
            refine (TOK.out w7 G T7.out).mono ?_
            rintro x w8 ⟨rfl, b8⟩
            have J8 : Hid (BackR w r a cap B w8 (Es.take (t + 1)).flatten.length (.slice (some ⟨q, 0, none⟩) d vc) S) := J7.out.below b8
            have h57 : w5.heap.size < w7.heap.size := Nat.lt_of_lt_of_le h56.out F7.out.size
            refine hK.out _ _ ⟨RGE.out w8 _ J8.out, rangeAt_below hHeld2.2 b8 h57⟩ (fun hHeld3 => ?_)
            clear hK K hHeld hHeld2 J7 T7 F7 b8 h57 RD6 RB7 RB6 RR6 RGE TOK HRW HW6 hRs hRo
            try simp only [Act.put, List.setIfInBounds_toArray, List.set_cons_zero, List.set_cons_succ]
            refine wpAnyH_take (i := 8) (v := Value.bool false) rfl (by kernel_rfl) (by kernel_rfl) (by kernel_rfl) (fun _ _ _ h => h) (Or.inl ⟨by rfl, ?_⟩) hHeld3 ?_
            · intro w' hS
              go_simp
            simp only [Act.put, List.getElem_toArray, List.getElem_cons_succ, List.getElem_cons_zero, List.setIfInBounds_toArray, List.set_cons_zero, List.set_cons_succ]
            refine wpAnyH_done (by kernel_rfl) (NoPanic.normal ?_) _
            clear hHeld3
            go_wp2
            go_roundw
            case rel => exact ⟨t + 1, by omega, by go_num, J8⟩
            case measure => simp [intOf]; omega
        · have hte : Es.take t = Es := List.take_of_length_le (by have := HS.out.len; have := HD.out; omega)
          have J9 : Hid (BackR w r a cap B wr B.length (.slice va d vc) S) := (by have := HJ.out; rwa [hte, ← HB.out] at this : BackR w r a cap B wr B.length (.slice va d vc) S)
          have RDn : Hid (Calls Tryd.prog 13 #[.pointer (some ⟨r, 0, none⟩)] wr fun e w' => e = .returned (.tuple #[.int .i64 0, .int .i64 0]) ∧ ∃ m, w' = wr.drewN m) := by
            have := K.rdone_any wr J9.out.rd
            unfold K.doneE K.doneP at this
            show Calls _ _ _ _ _
            simpa using this
          clear hte HJ
          go_wp2_with fail
          refine RDn.out.mono ?_
          rintro x w5 ⟨rfl, m5, hm5⟩
          have bd : Below wr.heap.size wr w5 := by rw [hm5]; exact below_drewN' (Below.refl _ _) _
          have J5 := K.Hid.mk' (J9.out.below bd)
          clear hm5 bd RDn J9
          have RAt := K.Hid.mk' (K.rat_any w5 J5.out.rd)
          have RLf : Hid (Calls Tryd.prog 15 #[.pointer (some ⟨r, 0, none⟩)] w5 fun e w' => e = .returned (.int .i64 0) ∧ ∃ m, w' = w5.drewN m) := by
            have := K.rleft_any w5 J5.out.rd
            show Calls _ _ _ _ _
            simpa using this
          rw [← HNb.out] at RAt
          go_wp2_with fail
          refine RAt.out.mono ?_
          rintro x w6 ⟨rfl, hw6⟩
          subst hw6
          go_wp2_with fail
          refine RLf.out.mono ?_
          rintro x w7 ⟨rfl, m7, hm7⟩
          have B7 : Hid (Below w.heap.size w w7) := by rw [hm7]; exact below_drewN' J5.out.bl _
          clear hm7 RAt RLf J5
          go_wp2
          go_ret
          exact ⟨rfl, B7.out⟩
end Go.Proofs.YtbpmpcmmdiaiiaaDoor

