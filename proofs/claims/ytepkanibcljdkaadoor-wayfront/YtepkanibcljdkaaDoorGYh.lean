import Derived.Test.YtepkanibcljdkaaDoorGYf
import Derived.Deep.DeepAppendWide
import Derived.Great.BuildSlice
import Derived.Lib.BufferMore
import Derived.Test.YtepkanibcljdkaaDoorGWb
import Derived.Deep.QuietTactic
import Derived.BigQuiet
namespace Go.Proofs.YtepkanibcljdkaaDoor
open Go.RowKit
set_option linter.unusedVariables false
set_option linter.unusedSimpArgs false

theorem info_parts {P : Program} {t : TypeId} {z : Option Value} {s b : Nat} (h : (P.info? t).map (fun i => (i.zero, i.size, i.bytes)) = some (z, s, b)) : ∃ i, P.info? t = some i ∧ i.zero = z ∧ i.size = s ∧ i.bytes = b := by
  cases hq : P.info? t with
  | none => rw [hq] at h; simp at h
  | some i => rw [hq] at h; simp at h; exact ⟨i, rfl, h.1, h.2.1, h.2.2⟩
def zSt : St := ⟨0, ⟨#[]⟩, 0⟩
def mSt : St := ⟨77, ⟨#[]⟩, 0⟩
theorem infoS : ∃ i, Tryd.prog.info? 35 = some i ∧ i.zero = some (.agg zSt.c) ∧ i.size = 3 ∧ i.bytes = 32 :=
  info_parts (by kernel_rfl)
/-- The cells of a list of steps. -/
def flatS (L : List St) : List Value := L.flatMap fun p => p.c.toList
theorem flatS_len (L : List St) : (flatS L).length = L.length * 3 := by
  induction L with
  | nil => rfl
  | cons x r ih =>
    simp only [flatS, List.flatMap_cons, List.length_append, List.length_cons] at ih ⊢
    rw [ih]
    show 3 + _ = _
    omega
theorem flatS_get {L : List St} (i j : Nat) (x : St) (hx : L[i]? = some x) (hj : j < 3) : (flatS L)[i * 3 + j]? = x.c.toList[j]? := by
  induction L generalizing i with
  | nil => simp at hx
  | cons y r ih =>
    have hl : y.c.toList.length = 3 := rfl
    simp only [flatS, List.flatMap_cons]
    cases i with
    | zero =>
      simp at hx
      subst hx
      rw [List.getElem?_append_left (by omega)]
      simp
    | succ i =>
      rw [List.getElem?_append_right (by omega), hl, show (i + 1) * 3 + j - 3 = i * 3 + j by omega]
      exact ih i (by simpa using hx)
theorem flatS_app (L M : List St) : flatS (L ++ M) = flatS L ++ flatS M := by simp [flatS]
theorem flatS_one (L : List St) : ∀ v ∈ flatS L, v.oneCell' = true := by
  intro v hv
  simp only [flatS, List.mem_flatMap] at hv
  obtain ⟨x, _, hx⟩ := hv
  simp [St.c] at hx
  rcases hx with rfl | rfl | rfl <;> rfl
/-- A slice of the call's own that holds steps. -/
def OwnS (w : World) (base : Nat) (v : Value) (L : List St) : Prop := w.ownsRow base 35 3 v L.length (flatS L)
theorem OwnS.nil (w : World) (base : Nat) : OwnS w base (.slice none 0 0) [] := World.ownsRow_nil w base 35 3
theorem OwnS.open {w : World} {base : Nat} {v : Value} {L : List St} (h : OwnS w base v L) :
    (v = .slice none 0 0 ∧ L = []) ∨ ∃ g cap, v = .slice (some ⟨g, 0, none⟩) L.length cap ∧ L.length ≤ cap ∧ base ≤ g ∧ g < w.heap.size ∧ Sts w (some ⟨g, 0, none⟩) L := by
  obtain ⟨hlen, ⟨rfl, hn⟩ | ⟨g, cap, cur, rfl, hbg, hg, hnc, hcm, hcs', htake⟩⟩ := h
  · exact .inl ⟨rfl, List.eq_nil_of_length_eq_zero hn⟩
  · have hcell : ∀ j, j < 3 * L.length → w.cell? ⟨g, j, none⟩ = (flatS L)[j]? := fun j hj => by
      rw [cell_of_row w g j cur _ (0, 0) hg, ← htake, List.getElem?_take, if_pos (by omega)]
      simp
    refine .inr ⟨g, cap, rfl, hnc, hbg, (Array.getElem?_eq_some_iff.1 hg).1, .inr ⟨g, 0, rfl, fun i x hx => ?_⟩⟩
    have hi := (List.getElem?_eq_some_iff.1 hx).1
    have k0 := hcell (i * 3 + 0) (by omega)
    have k1 := hcell (i * 3 + 1) (by omega)
    have k2 := hcell (i * 3 + 2) (by omega)
    rw [flatS_get i _ x hx (by omega)] at k0 k1 k2
    rw [show 0 + 3 * i = i * 3 + 0 by omega]
    exact ⟨k0.trans rfl, k1.trans rfl, k2.trans rfl⟩
theorem OwnS.below {w w' : World} {base : Nat} {v : Value} {L : List St} (h : OwnS w base v L) (hb : Below w.heap.size w w') : OwnS w' base v L := by
  refine ⟨h.1, ?_⟩
  rcases h.2 with hn | ⟨g, cap, cur, rfl, hbg, hg, rest⟩
  · exact .inl hn
  · exact .inr ⟨g, cap, cur, rfl, hbg, by rw [hb.block g (Array.getElem?_eq_some_iff.1 hg).1]; exact hg, rest⟩
theorem OwnS.slice {w : World} {base : Nat} {v : Value} {L : List St} (h : OwnS w base v L) : ∃ a cap, v = .slice a L.length cap ∧ L.length ≤ cap ∧ Sts w a L := by
  rcases h.open with ⟨rfl, rfl⟩ | ⟨g, cap, rfl, h1, _, _, h2⟩
  · exact ⟨none, 0, rfl, Nat.le_refl _, .inl rfl⟩
  · exact ⟨_, _, rfl, h1, h2⟩
theorem run_appS (w : World) (base : Nat) (ty : TypeId) (v : Value) (L : List St) (a : Option Addr) (M : List St) (c : Nat) (hown : OwnS w base v L) (hb : Sts w a M) (hne : a = none → M = [])
    (h : L.length + M.length ≤ 4398046510976 + 1) (hbase : base ≤ w.heap.size) :
    ∃ v' w', (Builtin.append_ #[22, 22] ty #[v, .slice a M.length c]).run Tryd.prog w = .ok v' w' ∧ OwnS w' base v' (L ++ M) ∧ w.grownBy w' v.ownBlock := by
  obtain ⟨i, hi, hz, hs, hby⟩ := infoS
  cases a with
  | some a =>
    have hnews : ∀ j u, (flatS M)[j]? = some u → w.cell? (a.add j) = some u := fun j u hj => by
      have hlt : j < M.length * 3 := by have := (List.getElem?_eq_some_iff.1 hj).1; rwa [flatS_len] at this
      rcases hb with rfl | ⟨b, off, e, hc⟩
      · simp at hlt
      · cases e
        have hx : M[j / 3]? = some M[j / 3] := List.getElem?_eq_getElem (by omega)
        have h1 := flatS_get (j / 3) (j % 3) _ hx (by omega)
        rw [show j / 3 * 3 + j % 3 = j by omega, hj] at h1
        obtain ⟨k0, k1, k2⟩ := hc (j / 3) _ hx
        rw [Addr.add_mid]
        rcases (show j % 3 = 0 ∨ j % 3 = 1 ∨ j % 3 = 2 by omega) with e | e | e <;> rw [e] at h1
        · rw [show off + j = off + 3 * (j / 3) by omega, k0]; exact h1.symm
        · rw [show off + j = off + 3 * (j / 3) + 1 by omega, k1]; exact h1.symm
        · rw [show off + j = off + 3 * (j / 3) + 2 by omega, k2]; exact h1.symm
    obtain ⟨v', w', hr, h2, h3, h4⟩ := run_append_own_wide (P := Tryd.prog) w base 22 ty 35 i (.agg zSt.c) 3 32 Tryd.underlying22 hi hz hs hby rfl (by omega) v L.length (flatS L) hown a M.length c (flatS M) (flatS_len M) hnews (flatS_one M) (by unfold maxLen; omega) (by omega) hbase
    refine ⟨v', w', hr, ?_, h3⟩
    unfold OwnS
    rw [List.length_append, flatS_app]
    exact h2
  | none =>
    have := hne rfl
    subst this
    refine ⟨v, w, ?_, by rw [List.append_nil]; exact hown, ⟨rfl, rfl, rfl, Nat.le_refl _, fun _ _ _ => rfl⟩⟩
    rcases hown.2 with ⟨rfl, hn⟩ | ⟨g', cap', cur, rfl, hbg, hg, hnc, rest⟩
    · simp [Builtin.append_, run_underlying Tryd.underlying22, sizeOf, typeInfo, hi, Builtin.lenOf, Builtin.firstCells, storeCells]
    · simp [Builtin.append_, run_underlying Tryd.underlying22, sizeOf, typeInfo, hi, Builtin.lenOf, Builtin.firstCells, hnc, storeCells]
theorem wpList_appS {ops : Array Oper} {rest : List Oper} {o : Oper} {a : Act} {w : World} {Q : Exit → Act → World → Prop} (hgd : o.guard = none) (s x : Operand)
    (ho : o.op = .call { callee := .builtin .append, args := #[s, x], argTypes := #[22, 22] }) (base : Nat) (v : Value) (L : List St) (hs : a.eval s = v) (hown : OwnS w base v L)
    (aa : Option Addr) (m c : Nat) (M : List St) (hx : a.eval x = .slice aa m c) (hm : M.length = m) (hb : Sts w aa M) (hne : aa = none → M = []) (hlen : L.length + M.length ≤ 4398046510976 + 1) (hbase : base ≤ w.heap.size)
    (h : ∀ v' w', OwnS w' base v' (L ++ M) → w.grownBy w' v.ownBlock → wpList Tryd.prog ops Q rest (a.put o.dst v') w') : wpList Tryd.prog ops Q (o :: rest) a w :=
  wpList_plain hgd fun _ hK => by
    subst hm
    obtain ⟨v', w', hr, h2, h3⟩ := run_appS w base o.type v L aa M c hown hb hne hlen hbase
    unfold Oper.wp execOp
    simp only [ho, resolve, invoke, builtin, Sem.run_bind, Sem.run_pure, Result.andThen_ok, List.map_toArray, List.map_cons, List.map_nil, hs, hx, hr]
    exact hK _ _ (h v' w' h2 h3)
/-- A slice literal of one step. -/
theorem wpList_bs1 {ops : Array Oper} {rest : List Oper} {o : Oper} {a : Act} {w : World} {Q : Exit → Act → World → Prop} (hg : o.guard = none) (x : Operand) (ho : o.op = .buildSlice 22 1 #[(0, x)])
    (C : Array Value) (hx : a.eval x = .agg C) (hC : C.size = 3)
    (h : wpList Tryd.prog ops Q rest (a.put o.dst (.slice (some ⟨w.heap.size, 0, none⟩) 1 1)) (w.alloc (.cells C 35))) : wpList Tryd.prog ops Q (o :: rest) a w := by
  obtain ⟨ie, hi, hz, hs, hby⟩ := infoS
  refine wpList_buildSlice hg 22 35 1 #[(0, x)] ho C ie _ Tryd.underlying22 hi hz (by rw [hs]; decide) (by rw [hs]; decide) ?_ h
  rw [hs]
  have := Go.Great.fill_whole (s := 3) (by decide) [.agg C] ((Array.range (1 * 3)).map ((Value.agg zSt.c).cells[· % (Value.agg zSt.c).cells.size]!)) (by intro v hv; simp at hv; subst hv; exact hC) (by simp)
  simp only [List.map_toArray, List.map_cons, List.map_nil, hx]
  simpa [Value.cells] using this
theorem sts_lit (w : World) (p : St) : Sts (w.alloc (.cells p.c 35)) (some ⟨w.heap.size, 0, none⟩) [p] := .inr ⟨w.heap.size, 0, rfl, fun i x hx => by
  obtain ⟨rfl, rfl⟩ : i = 0 ∧ x = p := by
    match i, hx with
    | 0, hx => simp at hx; exact ⟨rfl, hx.symm⟩
  have g := heap_alloc_new w (.cells x.c 35)
  exact ⟨(cell_of_row _ _ 0 _ _ _ g).trans rfl, (cell_of_row _ _ 1 _ _ _ g).trans rfl, (cell_of_row _ _ 2 _ _ _ g).trans rfl⟩⟩
set_option maxRecDepth 100000 in
set_option maxHeartbeats 2000000 in
theorem lent_any (a : Option Addr) (L : List St) (cap : Nat) (w : World) (hl : Sts w a L) (hne : a = none → L = []) (hn : L.length ≤ 4398046510976) :
    Calls Tryd.prog 8 #[.slice a L.length cap] w fun e w' => ∃ g c, e = .returned (.slice (some ⟨g, 0, none⟩) L.length c) ∧ L.length + 1 ≤ c ∧ Sts w' (some ⟨g, 0, none⟩) (L ++ [mSt]) ∧ Below w.heap.size w w' := by
  have S0 : Hid (([] : List St).length + L.length ≤ 4398046510976 + 1) := by show _ ≤ _; simp; omega
  have HL := Hid.mk' hl
  have HNE := Hid.mk' hne
  have N0 := Hid.mk' (OwnS.nil w w.heap.size)
  obtain ⟨n, hnn⟩ : ∃ n, n = L.length := ⟨_, rfl⟩
  rw [← hnn] at hn ⊢
  have HN : Hid (L.length = n) := hnn.symm
  clear hl hne hnn
  go_enter Tryd.func8, Tryd.ntmps8
  go_wp2_with (first | (at_builtin; refine wpList_appS rfl (.tmp 4) (.tmp 5) rfl w.heap.size (.slice none 0 0) [] rfl N0.out a n cap L rfl HN.out HL.out HNE.out S0.out (Nat.le_refl _) ?_) | fail)
  intro v w1 own1 gr1
  have own1' : OwnS w1 w.heap.size v L := by simpa using own1
  have be1 : Below w.heap.size w w1 := (Below.refl _ _).grown gr1 (Nat.le_refl _) (fun k hk => by cases hk)
  obtain ⟨va, vc, rfl, _, _⟩ := own1'.slice
  rw [HN.out] at own1' ⊢
  obtain ⟨W2, hW2⟩ : ∃ W2, W2 = w1.alloc (.cells mSt.c 35) := ⟨_, rfl⟩
  have be2 : Below w1.heap.size w1 W2 := by rw [hW2]; exact (Below.refl _ _).alloc (Nat.le_refl _) _
  have Z2 : W2.heap.size = w1.heap.size + 1 := by rw [hW2]; simp
  have O2 : Hid (OwnS W2 w.heap.size (.slice va n vc) L) := own1'.below be2
  have M2 : Hid (Sts W2 (some ⟨w1.heap.size, 0, none⟩) [mSt]) := by show Sts _ _ _; rw [hW2]; exact sts_lit w1 mSt
  have S2 : Hid (L.length + ([mSt] : List St).length ≤ 4398046510976 + 1) := by show _ ≤ _; rw [HN.out]; simp; omega
  have B2 : Hid (w.heap.size ≤ W2.heap.size) := by show _ ≤ _; have := be1.size; omega
  have BW2 : Hid (Below w.heap.size w W2) := be1.trans (be2.mono be1.size)
  have HW2 := Hid.mk' hW2
  clear own1 own1' gr1 be1 be2 hW2 Z2 N0 S0 HL HNE
  go_wp2_with (first
    | (refine wpList_bs1 rfl (.tmp 8) rfl mSt.c rfl rfl ?_; rw [← HW2.out])
    | (at_builtin; refine wpList_appS rfl (.tmp 7) (.tmp 9) rfl w.heap.size (.slice va n vc) L rfl O2.out (some ⟨w1.heap.size, 0, none⟩) 1 1 [mSt] rfl rfl M2.out (fun h => by cases h) S2.out B2.out ?_)
    | fail)
  intro v3 w3 own3 gr3
  have be3 : Below w.heap.size w w3 := BW2.out.grown gr3 B2.out (fun k hk => (World.ownsRow.lt O2.out k hk).1)
  rcases own3.open with ⟨_, h0⟩ | ⟨g, c, rfl, hc, _, _, st3⟩
  · simp at h0
  have hlen : (L ++ [mSt]).length = n + 1 := by rw [List.length_append, HN.out]; rfl
  rw [hlen] at hc ⊢
  have ST3 := Hid.mk' st3
  have hnc : n ≤ n + 1 := by omega
  clear own3 gr3 st3 O2 M2 S2 B2 BW2 HW2 hlen
  go_wp2
  go_ret
  exact ⟨g, c, rfl, hc, ST3.out, be3⟩
end Go.Proofs.YtepkanibcljdkaaDoor

namespace Go.Proofs.YtepkanibcljdkaaDoor
open Go.RowKit
set_option linter.unusedVariables false
set_option linter.unusedSimpArgs false

theorem wpList_wanted {P : Program} {ops : Array Oper} {rest : List Oper} {o : Oper} {a : Act} {w : World} {Q : Exit → Act → World → Prop} (hw : Region.wanted o (yielded ops a.tmps) = true)
    (h : ∀ K : Act → World → Prop, (∀ a w, wpList P ops Q rest a w → K a w) → o.wp P a w K Q) : wpList P ops Q (o :: rest) a w :=
  wpList_step fun K hK => by rw [if_pos hw]; exact h K hK
theorem wpList_bs1G {ops : Array Oper} {rest : List Oper} {o : Oper} {a : Act} {w : World} {Q : Exit → Act → World → Prop} (hw : Region.wanted o (yielded ops a.tmps) = true) (x : Operand) (ho : o.op = .buildSlice 22 1 #[(0, x)])
    (C : Array Value) (hx : a.eval x = .agg C) (hC : C.size = 3)
    (h : wpList Tryd.prog ops Q rest (a.put o.dst (.slice (some ⟨w.heap.size, 0, none⟩) 1 1)) (w.alloc (.cells C 35))) : wpList Tryd.prog ops Q (o :: rest) a w := by
  obtain ⟨ie, hi, hz, hs, hby⟩ := infoS
  refine wpList_wanted hw fun _ hK => wp_buildSlice 22 35 1 #[(0, x)] ho C ie _ Tryd.underlying22 hi hz (by rw [hs]; decide) (by rw [hs]; decide) ?_ (hK _ _ h)
  rw [hs]
  have := Go.Great.fill_whole (s := 3) (by decide) [.agg C] ((Array.range (1 * 3)).map ((Value.agg zSt.c).cells[· % (Value.agg zSt.c).cells.size]!)) (by intro v hv; simp at hv; subst hv; exact hC) (by simp)
  simp only [List.map_toArray, List.map_cons, List.map_nil, hx]
  simpa [Value.cells] using this
theorem Sts.front {W : World} {a : Option Addr} {L M : List St} (h : Sts W a (L ++ M)) : Sts W a L := by
  have := h.take L.length
  simpa using this
set_option maxRecDepth 100000 in
set_option maxHeartbeats 2000000 in
theorem kept_any (g : Nat) (a : Option Addr) (L : List St) (c cap : Nat) (w : World) (ho : Sts w (some ⟨g, 0, none⟩) (L ++ [mSt])) (hl : Sts w a L) (hc : L.length + 1 ≤ c) (hn : L.length ≤ 4398046510976) :
    Calls Tryd.prog 13 #[.slice (some ⟨g, 0, none⟩) L.length c, .slice a L.length cap] w fun e w' => e = .returned (.bool true) ∧ Below w.heap.size w w' := by
  have H := Hid.mk' (same_any (some ⟨g, 0, none⟩) a L L c cap w ho.front hl (by omega) (by omega))
  rw [decide_eq_true (cL_zero.2 rfl)] at H
  have HO := Hid.mk' (fun w' (h : Below w.heap.size w w') => ho.below h)
  have he : ∀ wx, (Op.equalIn 10000 35 (.agg #[.int .u8 77, .string ⟨#[]⟩, .int .i64 0]) (.agg #[.int .u8 77, .string ⟨#[]⟩, .int .i64 0])).run Tryd.prog wx = .ok true wx := fun wx => by
    have := eqSt mSt mSt wx
    rw [decide_eq_true (cSt_zero.2 rfl)] at this
    exact this
  have HM : Hid (∀ w', Below w.heap.size w w' → w'.cell? ⟨g, 3 * L.length, none⟩ = some (.int .u8 77) ∧ w'.cell? ⟨g, 3 * L.length + 1, none⟩ = some (.string ⟨#[]⟩) ∧ w'.cell? ⟨g, 3 * L.length + 2, none⟩ = some (.int .i64 0)) := fun w' h => by
    obtain ⟨b, off, p, e, hp, c0, c1, c2⟩ := (HO.out w' h).at (i := L.length) (by simp)
    cases e
    have : p = mSt := by simpa using hp.symm
    subst this
    rw [Nat.zero_add] at c0 c1 c2
    exact ⟨c0, c1, c2⟩
  have ix := fun wx => indexS g 0 (L.length + 1) c L.length wx (by omega)
  rw [Nat.zero_add] at ix
  generalize L.length = n at *
  have hc' : ((n : Int) + 1) ≤ (c : Int) := by omega
  clear ho hl HO
  go_enter Tryd.func13, Tryd.ntmps13
  go_wp2_with fail
  refine H.out.mono ?_
  rintro e w1 ⟨rfl, b1⟩
  obtain ⟨c0, c1, c2⟩ := HM.out w1 b1
  clear H HM
  go_wp2
  go_ret
  exact ⟨rfl, b1⟩
end Go.Proofs.YtepkanibcljdkaaDoor

namespace Go.Proofs.YtepkanibcljdkaaDoor
open Go.RowKit
set_option linter.unusedVariables false
set_option linter.unusedSimpArgs false

/-- A digit. -/
def dgC (c : Nat) : Bool := decide (48 ≤ c) && decide (c ≤ 57)
/-- The decimal that stands at a place: the number, the place behind it, and that it is one; else the place of its fault. -/
def numP (s : ByteArray) (from0 : Nat) : Nat → Nat → Nat → Nat × Nat × Bool
  | 0, k, n => if k = from0 then (0, k, false) else (n, k, true)
  | f + 1, k, n => if dgC (K.V.by8 s k) = true then (if 2147483647 < n * 10 + (K.V.by8 s k - 48) ∨ (from0 < k ∧ K.V.by8 s from0 = 48) then (0, k, false) else numP s from0 f (k + 1) (n * 10 + (K.V.by8 s k - 48))) else (if k = from0 then (0, k, false) else (n, k, true))
/-- An error, or none. -/
def erV (a : Addr) (ok : Bool) : Value := if ok = true then .nilIface else .iface 127 (.pointer (some a))
theorem numP_end {s : ByteArray} {from0 f k n : Nat} (h : f = 0 ∨ dgC (K.V.by8 s k) = false) : numP s from0 f k n = if k = from0 then (0, k, false) else (n, k, true) := by
  cases f with
  | zero => rfl
  | succ f =>
    rcases h with h | h
    · omega
    · unfold numP
      rw [if_neg (by rw [h]; decide)]
theorem numP_bad {s : ByteArray} {from0 f k n : Nat} (h : dgC (K.V.by8 s k) = true) (h2 : 2147483647 < n * 10 + (K.V.by8 s k - 48) ∨ (from0 < k ∧ K.V.by8 s from0 = 48)) : numP s from0 (f + 1) k n = (0, k, false) := by
  unfold numP
  rw [if_pos h, if_pos h2]
theorem numP_go {s : ByteArray} {from0 f k n : Nat} (h : dgC (K.V.by8 s k) = true) (h2 : ¬ (2147483647 < n * 10 + (K.V.by8 s k - 48) ∨ (from0 < k ∧ K.V.by8 s from0 = 48))) : numP s from0 (f + 1) k n = numP s from0 f (k + 1) (n * 10 + (K.V.by8 s k - 48)) := by
  rw [numP]
  rw [if_pos h, if_neg h2]
theorem dg_yes {c : Nat} (h : dgC c = true) : (48 : Int) ≤ (c : Int) ∧ (c : Int) ≤ 57 := by unfold dgC at h; simp at h; omega
theorem dg_no {c : Nat} (h : dgC c = false) (h1 : (48 : Int) ≤ (c : Int)) : ¬ (c : Int) ≤ 57 := by unfold dgC at h; simp at h; omega
set_option maxRecDepth 100000 in
set_option maxHeartbeats 1000000 in
theorem rnum_any (s : ByteArray) (k0 : Nat) (w : World) (hk0 : k0 ≤ s.size) (hs : s.size ≤ 5000) (a0 a1 a2 : Addr) (hE : Snt w a0 a1 a2) :
    Calls Tryd.prog 39 #[.string s, .int .i64 (k0 : Int)] w fun e w' => e = .returned (.tuple #[.int .i64 ((numP s k0 (s.size - k0) k0 0).1 : Int), .int .i64 ((numP s k0 (s.size - k0) k0 0).2.1 : Int), erV a2 (numP s k0 (s.size - k0) k0 0).2.2]) ∧ Below w.heap.size w w' := by
  obtain ⟨R, hR⟩ : ∃ R, R = numP s k0 (s.size - k0) k0 0 := ⟨_, rfl⟩
  rw [← hR]
  have HR := Hid.mk' hR
  have HX : Hid (∀ k, k < s.size → ∀ wx, (Instr.index 9 (.string s) (.int .i64 (k : Int))).run Tryd.prog wx = .ok (.int .u8 (K.V.by8 s k : Int)) wx) := fun k h wx => K.V.index_str s k wx h
  have HB := Hid.mk' (K.V.by8_lt s)
  have HG : Hid (∀ wx, Below w.heap.size w wx → wx.cell? ⟨2, 0, none⟩ = some (.iface 127 (.pointer (some a2)))) := fun wx h => (hE.below h).g2
  clear hR hE
  go_enter Tryd.func39, Tryd.ntmps39
  go_wp2
  go_loopw [1, 7] (fun i v wr => ∃ k n : Nat, k ≤ s.size ∧ k0 ≤ k ∧ i = .int .i64 k ∧ v = .int .i64 n ∧ n ≤ 2147483647 ∧ Hid (Below w.heap.size w wr) ∧ Hid (R = numP s k0 (s.size - k) k n)) (fun i _ _ => s.size - (intOf i).toNat)
  case atStart => exact ⟨k0, 0, hk0, by omega, rfl, rfl, by omega, Below.refl _ _, HR⟩
  case round =>
    obtain ⟨k, n, hk, hkk, rfl, rfl, hn, HW, HN⟩ := hrel
    have hg := HG.out wr HW.out
    clear HR
    by_cases hks : k < s.size
    · have hks' : (k : Int) < (s.size : Int) := by omega
      have ix := HX.out k hks
      have hb := HB.out k
      have hf : s.size - k = (s.size - (k + 1)) + 1 := by omega
      have HN2 : Hid (R = numP s k0 (s.size - (k + 1) + 1) k n) := by show _ = _; rw [HN.out, hf]
      cases hd : dgC (K.V.by8 s k) with
      | true =>
        obtain ⟨d1, d2⟩ := dg_yes hd
        obtain ⟨d, hdd⟩ : ∃ d, K.V.by8 s k = d + 48 := ⟨K.V.by8 s k - 48, by omega⟩
        have hd9 : d ≤ 9 := by omega
        have hval : n * 10 + (K.V.by8 s k - 48) = n * 10 + d := by omega
        have HBAD : Hid (2147483647 < n * 10 + d ∨ (k0 < k ∧ K.V.by8 s k0 = 48) → R = (0, k, false)) := fun h => by rw [HN2.out]; exact numP_bad hd (by rw [hval]; exact h)
        have HGO : Hid (¬ (2147483647 < n * 10 + d ∨ (k0 < k ∧ K.V.by8 s k0 = 48)) → R = numP s k0 (s.size - (k + 1)) (k + 1) (n * 10 + d)) := fun h => by rw [HN2.out, numP_go hd (by rw [hval]; exact h), hval]
        rw [hdd] at ix d1 d2 hb
        have e1 : ((d + 48 : Nat) : Int) - 48 = (d : Int) := by omega
        have e2 : (d : Int) % 256 = (d : Int) := by omega
        clear hd HN HN2 hval hdd hf
        by_cases hov : 2147483647 < n * 10 + d
        · have hov' : (2147483647 : Int) < (n : Int) * 10 + (d : Int) := by omega
          have HRR : Hid (R = (0, k, false)) := HBAD.out (.inl hov)
          clear HBAD HGO
          go_wp2
          go_quiet (fail)
          go_wp2
          go_ret3
          exact ⟨by rw [HRR.out]; rfl, below_drewN HW.out _⟩
        · have hov' : ¬ (2147483647 : Int) < (n : Int) * 10 + (d : Int) := by omega
          by_cases hkl : k0 < k
          · have hkl' : (k0 : Int) < (k : Int) := by omega
            have ix0 := HX.out k0 (by omega)
            by_cases h48 : K.V.by8 s k0 = 48
            · have HRR : Hid (R = (0, k, false)) := HBAD.out (.inr ⟨hkl, h48⟩)
              rw [h48] at ix0
              clear HBAD HGO h48
              go_wp2
              go_quiet (fail)
              go_wp2
              go_ret3
              exact ⟨by rw [HRR.out]; rfl, below_drewN HW.out _⟩
            · have HN3 : Hid (R = numP s k0 (s.size - (k + 1)) (k + 1) (n * 10 + d)) := HGO.out (fun h => h.elim (fun h => hov h) (fun h => h48 h.2))
              have h48' : ¬ (K.V.by8 s k0 : Int) = 48 := by omega
              clear HBAD HGO h48
              generalize K.V.by8 s k0 = c0 at *
              go_wp2
              go_roundw
              case rel => exact ⟨k + 1, n * 10 + d, by omega, by omega, by go_num, by go_num, by omega, HW, HN3⟩
              case measure => simp [intOf]; omega
          · have hkl' : ¬ (k0 : Int) < (k : Int) := by omega
            have HN3 : Hid (R = numP s k0 (s.size - (k + 1)) (k + 1) (n * 10 + d)) := HGO.out (fun h => h.elim (fun h => hov h) (fun h => hkl h.1))
            clear HBAD HGO
            go_wp2
            go_roundw
            case rel => exact ⟨k + 1, n * 10 + d, by omega, by omega, by go_num, by go_num, by omega, HW, HN3⟩
            case measure => simp [intOf]; omega
      | false =>
        have HN3 : Hid (R = if k = k0 then (0, k, false) else (n, k, true)) := by show _ = _; rw [HN2.out]; exact numP_end (.inr hd)
        have hno := @dg_no _ hd
        clear hd HN HN2 hf
        generalize K.V.by8 s k = c at *
        by_cases h48 : (48 : Int) ≤ (c : Int)
        · have h57 := hno h48
          by_cases hq : k = k0
          · have hq' : (k : Int) = (k0 : Int) := by omega
            have HRR : Hid (R = (0, k, false)) := by show _ = _; rw [HN3.out, if_pos hq]
            subst hq
            clear HN3
            go_wp2
            go_quiet (fail)
            go_wp2
            go_ret3
            exact ⟨by rw [HRR.out]; rfl, below_drewN HW.out _⟩
          · have hq' : ¬ (k : Int) = (k0 : Int) := by omega
            have HRR : Hid (R = (n, k, true)) := by show _ = _; rw [HN3.out, if_neg hq]
            clear HN3
            go_wp2
            go_ret3
            exact ⟨by rw [HRR.out]; rfl, HW.out⟩
        · clear hno
          by_cases hq : k = k0
          · have hq' : (k : Int) = (k0 : Int) := by omega
            have HRR : Hid (R = (0, k, false)) := by show _ = _; rw [HN3.out, if_pos hq]
            subst hq
            clear HN3
            go_wp2
            go_quiet (fail)
            go_wp2
            go_ret3
            exact ⟨by rw [HRR.out]; rfl, below_drewN HW.out _⟩
          · have hq' : ¬ (k : Int) = (k0 : Int) := by omega
            have HRR : Hid (R = (n, k, true)) := by show _ = _; rw [HN3.out, if_neg hq]
            clear HN3
            go_wp2
            go_ret3
            exact ⟨by rw [HRR.out]; rfl, HW.out⟩
    · have hks' : ¬ (k : Int) < (s.size : Int) := by omega
      have HN3 : Hid (R = if k = k0 then (0, k, false) else (n, k, true)) := by show _ = _; rw [HN.out]; exact numP_end (.inl (by omega))
      clear HN
      by_cases hq : k = k0
      · have hq' : (k : Int) = (k0 : Int) := by omega
        have HRR : Hid (R = (0, k, false)) := by show _ = _; rw [HN3.out, if_pos hq]
        subst hq
        clear HN3
        go_wp2
        go_quiet (fail)
        go_wp2
        go_ret3
        exact ⟨by rw [HRR.out]; rfl, below_drewN HW.out _⟩
      · have hq' : ¬ (k : Int) = (k0 : Int) := by omega
        have HRR : Hid (R = (n, k, true)) := by show _ = _; rw [HN3.out, if_neg hq]
        clear HN3
        go_wp2
        go_ret3
        exact ⟨by rw [HRR.out]; rfl, HW.out⟩
end Go.Proofs.YtepkanibcljdkaaDoor

