import Derived.Test.YthffcdahjcpdfaaGreatDoorYe
import Derived.Deep.QuietTactic
import Derived.BigQuiet
import Derived.Deep.DeepAppendWide
import Derived.Great.BuildSlice
import Derived.Test.YthffcdahjcpdfaaGreatDoorRows
import Derived.WalkKit
import Derived.WalkSpells
import Derived.WalkLawsBesides
import Derived.Below
import Derived.Laws.Externs
namespace Go.Proofs.YthffcdahjcpdfaaGreatDoor
open Go.RowKit
set_option linter.unusedVariables false
set_option linter.unusedSimpArgs false

theorem Sts.take {W : World} {a : Option Addr} {l : List St} (h : Sts W a l) (k : Nat) : Sts W a (l.take k) := by
  rcases h with rfl | ⟨b, off, rfl, h⟩
  · exact .inl (by simp)
  · refine .inr ⟨b, off, rfl, fun i p e => h i p ?_⟩
    rw [List.getElem?_take] at e
    split at e
    · exact e
    · cases e
set_option maxRecDepth 100000 in
set_option maxHeartbeats 1000000 in
theorem same_any (a b : Option Addr) (l m : List St) (c d : Nat) (w : World) (ha : Sts w a l) (hb : Sts w b m) (hl : l.length ≤ 140737488355328) (hm : m.length ≤ 140737488355328) :
    Calls Tryz.prog 36 #[.slice a l.length c, .slice b m.length d] w fun e w' => e = .returned (.bool (decide (cL l m = 0))) ∧ Below w.heap.size w w' := by
  have H := Hid.mk' (rcompare_any a b l m c d w ha hb hl hm)
  clear ha hb
  generalize l.length = n at *
  generalize m.length = q at *
  generalize cL l m = C at *
  by_cases hC : C = 0
  · subst hC
    go_enter Tryz.func36, Tryz.ntmps36
    go_wp2_with fail
    refine H.out.mono ?_
    rintro e w1 ⟨rfl, b1⟩
    go_wp2
    go_ret
    exact ⟨rfl, b1⟩
  · rw [decide_eq_false hC]
    go_enter Tryz.func36, Tryz.ntmps36
    go_wp2_with fail
    refine H.out.mono ?_
    rintro e w1 ⟨rfl, b1⟩
    go_wp2
    go_ret
    exact ⟨by simp [hC], b1⟩
/-- Whether a way starts with another. -/
def stB (l m : List St) : Bool := decide (m.length ≤ l.length) && decide (cL (l.take m.length) m = 0)
end Go.Proofs.YthffcdahjcpdfaaGreatDoor

namespace Go.Proofs.YthffcdahjcpdfaaGreatDoor
open Go.RowKit
set_option linter.unusedVariables false
set_option linter.unusedSimpArgs false

theorem info_parts {P : Program} {t : TypeId} {z : Option Value} {s b : Nat} (h : (P.info? t).map (fun i => (i.zero, i.size, i.bytes)) = some (z, s, b)) : ∃ i, P.info? t = some i ∧ i.zero = z ∧ i.size = s ∧ i.bytes = b := by
  cases hq : P.info? t with
  | none => rw [hq] at h; simp at h
  | some i => rw [hq] at h; simp at h; exact ⟨i, rfl, h.1, h.2.1, h.2.2⟩
def zSt : St := ⟨0, ⟨#[]⟩, 0⟩
def mSt : St := ⟨77, ⟨#[]⟩, 0⟩
theorem infoS : ∃ i, Tryz.prog.info? 54 = some i ∧ i.zero = some (.agg zSt.c) ∧ i.size = 3 ∧ i.bytes = 32 :=
  info_parts (by kernel_rfl)
/-- The cells of a list of steps. -/
def flatS (L : List St) : List Value := L.flatMap fun p => p.c.toList
theorem flatS_len (L : List St) : (flatS L).length = L.length * 3 := by
  induction L with
  | nil => rfl
  | cons x r ih =>
    simp only [flatS, List.flatMap_cons, List.length_append, List.length_cons] at ih ⊢
    rw [ih]
    show 3 + _ = _
    omega
theorem flatS_get {L : List St} (i j : Nat) (x : St) (hx : L[i]? = some x) (hj : j < 3) : (flatS L)[i * 3 + j]? = x.c.toList[j]? := by
  induction L generalizing i with
  | nil => simp at hx
  | cons y r ih =>
    have hl : y.c.toList.length = 3 := rfl
    simp only [flatS, List.flatMap_cons]
    cases i with
    | zero =>
      simp at hx
      subst hx
      rw [List.getElem?_append_left (by omega)]
      simp
    | succ i =>
      rw [List.getElem?_append_right (by omega), hl, show (i + 1) * 3 + j - 3 = i * 3 + j by omega]
      exact ih i (by simpa using hx)
theorem flatS_app (L M : List St) : flatS (L ++ M) = flatS L ++ flatS M := by simp [flatS]
theorem flatS_one (L : List St) : ∀ v ∈ flatS L, v.oneCell' = true := by
  intro v hv
  simp only [flatS, List.mem_flatMap] at hv
  obtain ⟨x, _, hx⟩ := hv
  simp [St.c] at hx
  rcases hx with rfl | rfl | rfl <;> rfl
/-- A slice of the call's own that holds steps. -/
def OwnS (w : World) (base : Nat) (v : Value) (L : List St) : Prop := w.ownsRow base 54 3 v L.length (flatS L)
theorem OwnS.nil (w : World) (base : Nat) : OwnS w base (.slice none 0 0) [] := World.ownsRow_nil w base 54 3
theorem OwnS.open {w : World} {base : Nat} {v : Value} {L : List St} (h : OwnS w base v L) :
    (v = .slice none 0 0 ∧ L = []) ∨ ∃ g cap, v = .slice (some ⟨g, 0, none⟩) L.length cap ∧ L.length ≤ cap ∧ base ≤ g ∧ g < w.heap.size ∧ Sts w (some ⟨g, 0, none⟩) L := by
  obtain ⟨hlen, ⟨rfl, hn⟩ | ⟨g, cap, cur, rfl, hbg, hg, hnc, hcm, hcs', htake⟩⟩ := h
  · exact .inl ⟨rfl, List.eq_nil_of_length_eq_zero hn⟩
  · have hcell : ∀ j, j < 3 * L.length → w.cell? ⟨g, j, none⟩ = (flatS L)[j]? := fun j hj => by
      rw [cell_of_row w g j cur _ (0, 0) hg, ← htake, List.getElem?_take, if_pos (by omega)]
      simp
    refine .inr ⟨g, cap, rfl, hnc, hbg, (Array.getElem?_eq_some_iff.1 hg).1, .inr ⟨g, 0, rfl, fun i x hx => ?_⟩⟩
    have hi := (List.getElem?_eq_some_iff.1 hx).1
    have k0 := hcell (i * 3 + 0) (by omega)
    have k1 := hcell (i * 3 + 1) (by omega)
    have k2 := hcell (i * 3 + 2) (by omega)
    rw [flatS_get i _ x hx (by omega)] at k0 k1 k2
    rw [show 0 + 3 * i = i * 3 + 0 by omega]
    exact ⟨k0.trans rfl, k1.trans rfl, k2.trans rfl⟩
theorem OwnS.below {w w' : World} {base : Nat} {v : Value} {L : List St} (h : OwnS w base v L) (hb : Below w.heap.size w w') : OwnS w' base v L := by
  refine ⟨h.1, ?_⟩
  rcases h.2 with hn | ⟨g, cap, cur, rfl, hbg, hg, rest⟩
  · exact .inl hn
  · exact .inr ⟨g, cap, cur, rfl, hbg, by rw [hb.block g (Array.getElem?_eq_some_iff.1 hg).1]; exact hg, rest⟩
theorem OwnS.slice {w : World} {base : Nat} {v : Value} {L : List St} (h : OwnS w base v L) : ∃ a cap, v = .slice a L.length cap ∧ L.length ≤ cap ∧ Sts w a L := by
  rcases h.open with ⟨rfl, rfl⟩ | ⟨g, cap, rfl, h1, _, _, h2⟩
  · exact ⟨none, 0, rfl, Nat.le_refl _, .inl rfl⟩
  · exact ⟨_, _, rfl, h1, h2⟩
theorem run_appS (w : World) (base : Nat) (ty : TypeId) (v : Value) (L : List St) (a : Option Addr) (M : List St) (c : Nat) (hown : OwnS w base v L) (hb : Sts w a M) (hne : a = none → M = [])
    (h : L.length + M.length ≤ 4398046510976 + 1) (hbase : base ≤ w.heap.size) :
    ∃ v' w', (Builtin.append_ #[22, 22] ty #[v, .slice a M.length c]).run Tryz.prog w = .ok v' w' ∧ OwnS w' base v' (L ++ M) ∧ w.grownBy w' v.ownBlock := by
  obtain ⟨i, hi, hz, hs, hby⟩ := infoS
  cases a with
  | some a =>
    have hnews : ∀ j u, (flatS M)[j]? = some u → w.cell? (a.add j) = some u := fun j u hj => by
      have hlt : j < M.length * 3 := by have := (List.getElem?_eq_some_iff.1 hj).1; rwa [flatS_len] at this
      rcases hb with rfl | ⟨b, off, e, hc⟩
      · simp at hlt
      · cases e
        have hx : M[j / 3]? = some M[j / 3] := List.getElem?_eq_getElem (by omega)
        have h1 := flatS_get (j / 3) (j % 3) _ hx (by omega)
        rw [show j / 3 * 3 + j % 3 = j by omega, hj] at h1
        obtain ⟨k0, k1, k2⟩ := hc (j / 3) _ hx
        rw [Addr.add_mid]
        rcases (show j % 3 = 0 ∨ j % 3 = 1 ∨ j % 3 = 2 by omega) with e | e | e <;> rw [e] at h1
        · rw [show off + j = off + 3 * (j / 3) by omega, k0]; exact h1.symm
        · rw [show off + j = off + 3 * (j / 3) + 1 by omega, k1]; exact h1.symm
        · rw [show off + j = off + 3 * (j / 3) + 2 by omega, k2]; exact h1.symm
    obtain ⟨v', w', hr, h2, h3, h4⟩ := run_append_own_wide (P := Tryz.prog) w base 22 ty 54 i (.agg zSt.c) 3 32 Tryz.underlying22 hi hz hs hby rfl (by omega) v L.length (flatS L) hown a M.length c (flatS M) (flatS_len M) hnews (flatS_one M) (by unfold maxLen; omega) (by omega) hbase
    refine ⟨v', w', hr, ?_, h3⟩
    unfold OwnS
    rw [List.length_append, flatS_app]
    exact h2
  | none =>
    have := hne rfl
    subst this
    refine ⟨v, w, ?_, by rw [List.append_nil]; exact hown, ⟨rfl, rfl, rfl, Nat.le_refl _, fun _ _ _ => rfl⟩⟩
    rcases hown.2 with ⟨rfl, hn⟩ | ⟨g', cap', cur, rfl, hbg, hg, hnc, rest⟩
    · simp [Builtin.append_, run_underlying Tryz.underlying22, sizeOf, typeInfo, hi, Builtin.lenOf, Builtin.firstCells, storeCells]
    · simp [Builtin.append_, run_underlying Tryz.underlying22, sizeOf, typeInfo, hi, Builtin.lenOf, Builtin.firstCells, hnc, storeCells]
theorem wpList_appS {ops : Array Oper} {rest : List Oper} {o : Oper} {a : Act} {w : World} {Q : Exit → Act → World → Prop} (hgd : o.guard = none) (s x : Operand)
    (ho : o.op = .call { callee := .builtin .append, args := #[s, x], argTypes := #[22, 22] }) (base : Nat) (v : Value) (L : List St) (hs : a.eval s = v) (hown : OwnS w base v L)
    (aa : Option Addr) (m c : Nat) (M : List St) (hx : a.eval x = .slice aa m c) (hm : M.length = m) (hb : Sts w aa M) (hne : aa = none → M = []) (hlen : L.length + M.length ≤ 4398046510976 + 1) (hbase : base ≤ w.heap.size)
    (h : ∀ v' w', OwnS w' base v' (L ++ M) → w.grownBy w' v.ownBlock → wpList Tryz.prog ops Q rest (a.put o.dst v') w') : wpList Tryz.prog ops Q (o :: rest) a w :=
  wpList_plain hgd fun _ hK => by
    subst hm
    obtain ⟨v', w', hr, h2, h3⟩ := run_appS w base o.type v L aa M c hown hb hne hlen hbase
    unfold Oper.wp execOp
    simp only [ho, resolve, invoke, builtin, Sem.run_bind, Sem.run_pure, Result.andThen_ok, List.map_toArray, List.map_cons, List.map_nil, hs, hx, hr]
    exact hK _ _ (h v' w' h2 h3)
/-- A slice literal of one step. -/
theorem wpList_bs1 {ops : Array Oper} {rest : List Oper} {o : Oper} {a : Act} {w : World} {Q : Exit → Act → World → Prop} (hg : o.guard = none) (x : Operand) (ho : o.op = .buildSlice 22 1 #[(0, x)])
    (C : Array Value) (hx : a.eval x = .agg C) (hC : C.size = 3)
    (h : wpList Tryz.prog ops Q rest (a.put o.dst (.slice (some ⟨w.heap.size, 0, none⟩) 1 1)) (w.alloc (.cells C 54))) : wpList Tryz.prog ops Q (o :: rest) a w := by
  obtain ⟨ie, hi, hz, hs, hby⟩ := infoS
  refine wpList_buildSlice hg 22 54 1 #[(0, x)] ho C ie _ Tryz.underlying22 hi hz (by rw [hs]; decide) (by rw [hs]; decide) ?_ h
  rw [hs]
  have := Go.Great.fill_whole (s := 3) (by decide) [.agg C] ((Array.range (1 * 3)).map ((Value.agg zSt.c).cells[· % (Value.agg zSt.c).cells.size]!)) (by intro v hv; simp at hv; subst hv; exact hC) (by simp)
  simp only [List.map_toArray, List.map_cons, List.map_nil, hx]
  simpa [Value.cells] using this
theorem sts_lit (w : World) (p : St) : Sts (w.alloc (.cells p.c 54)) (some ⟨w.heap.size, 0, none⟩) [p] := .inr ⟨w.heap.size, 0, rfl, fun i x hx => by
  obtain ⟨rfl, rfl⟩ : i = 0 ∧ x = p := by
    match i, hx with
    | 0, hx => simp at hx; exact ⟨rfl, hx.symm⟩
  have g := heap_alloc_new w (.cells x.c 54)
  exact ⟨(cell_of_row _ _ 0 _ _ _ g).trans rfl, (cell_of_row _ _ 1 _ _ _ g).trans rfl, (cell_of_row _ _ 2 _ _ _ g).trans rfl⟩⟩
set_option maxRecDepth 100000 in
set_option maxHeartbeats 2000000 in
theorem lent_any (a : Option Addr) (L : List St) (cap : Nat) (w : World) (hl : Sts w a L) (hne : a = none → L = []) (hn : L.length ≤ 4398046510976) :
    Calls Tryz.prog 4 #[.slice a L.length cap] w fun e w' => ∃ g c, e = .returned (.slice (some ⟨g, 0, none⟩) L.length c) ∧ L.length + 1 ≤ c ∧ Sts w' (some ⟨g, 0, none⟩) (L ++ [mSt]) ∧ Below w.heap.size w w' := by
  have S0 : Hid (([] : List St).length + L.length ≤ 4398046510976 + 1) := by show _ ≤ _; simp; omega
  have HL := Hid.mk' hl
  have HNE := Hid.mk' hne
  have N0 := Hid.mk' (OwnS.nil w w.heap.size)
  obtain ⟨n, hnn⟩ : ∃ n, n = L.length := ⟨_, rfl⟩
  rw [← hnn] at hn ⊢
  have HN : Hid (L.length = n) := hnn.symm
  clear hl hne hnn
  go_enter Tryz.func4, Tryz.ntmps4
  go_wp2_with (first | (at_builtin; refine wpList_appS rfl (.tmp 4) (.tmp 5) rfl w.heap.size (.slice none 0 0) [] rfl N0.out a n cap L rfl HN.out HL.out HNE.out S0.out (Nat.le_refl _) ?_) | fail)
  intro v w1 own1 gr1
  have own1' : OwnS w1 w.heap.size v L := by simpa using own1
  have be1 : Below w.heap.size w w1 := (Below.refl _ _).grown gr1 (Nat.le_refl _) (fun k hk => by cases hk)
  obtain ⟨va, vc, rfl, _, _⟩ := own1'.slice
  rw [HN.out] at own1' ⊢
  obtain ⟨W2, hW2⟩ : ∃ W2, W2 = w1.alloc (.cells mSt.c 54) := ⟨_, rfl⟩
  have be2 : Below w1.heap.size w1 W2 := by rw [hW2]; exact (Below.refl _ _).alloc (Nat.le_refl _) _
  have Z2 : W2.heap.size = w1.heap.size + 1 := by rw [hW2]; simp
  have O2 : Hid (OwnS W2 w.heap.size (.slice va n vc) L) := own1'.below be2
  have M2 : Hid (Sts W2 (some ⟨w1.heap.size, 0, none⟩) [mSt]) := by show Sts _ _ _; rw [hW2]; exact sts_lit w1 mSt
  have S2 : Hid (L.length + ([mSt] : List St).length ≤ 4398046510976 + 1) := by show _ ≤ _; rw [HN.out]; simp; omega
  have B2 : Hid (w.heap.size ≤ W2.heap.size) := by show _ ≤ _; have := be1.size; omega
  have BW2 : Hid (Below w.heap.size w W2) := be1.trans (be2.mono be1.size)
  have HW2 := Hid.mk' hW2
  clear own1 own1' gr1 be1 be2 hW2 Z2 N0 S0 HL HNE
  go_wp2_with (first
    | (refine wpList_bs1 rfl (.tmp 8) rfl mSt.c rfl rfl ?_; rw [← HW2.out])
    | (at_builtin; refine wpList_appS rfl (.tmp 7) (.tmp 9) rfl w.heap.size (.slice va n vc) L rfl O2.out (some ⟨w1.heap.size, 0, none⟩) 1 1 [mSt] rfl rfl M2.out (fun h => by cases h) S2.out B2.out ?_)
    | fail)
  intro v3 w3 own3 gr3
  have be3 : Below w.heap.size w w3 := BW2.out.grown gr3 B2.out (fun k hk => (World.ownsRow.lt O2.out k hk).1)
  rcases own3.open with ⟨_, h0⟩ | ⟨g, c, rfl, hc, _, _, st3⟩
  · simp at h0
  have hlen : (L ++ [mSt]).length = n + 1 := by rw [List.length_append, HN.out]; rfl
  rw [hlen] at hc ⊢
  have ST3 := Hid.mk' st3
  have hnc : n ≤ n + 1 := by omega
  clear own3 gr3 st3 O2 M2 S2 B2 BW2 HW2 hlen
  go_wp2
  go_ret
  exact ⟨g, c, rfl, hc, ST3.out, be3⟩
end Go.Proofs.YthffcdahjcpdfaaGreatDoor

namespace Go.Proofs.YthffcdahjcpdfaaGreatDoor.Q
open Go.RowKit
set_option linter.unusedVariables false
set_option linter.unusedSimpArgs false

/-- A value of package api, by value. -/
def VV (k n : Int) (f : Nat) (s : ByteArray) : Value := .agg #[.int .u8 k, .int .i64 n, .float .f64 f, .string s]


theorem below_drewN {B : Nat} {a w : World} (h : Below B a w) : ∀ q, Below B a (w.drewN q)
  | 0 => h
  | q + 1 => (below_drewN h q).drew
theorem bel_box (w : World) (c : Array Value) (t : TypeId) : Below w.heap.size w (w.alloc (.cells c t)) := (Below.refl _ _).alloc (Nat.le_refl _) _

/-- Which values of the kinds without floats and texts are right. -/
def rightB (k n : Int) (f : Nat) (s : ByteArray) : Bool :=
  if k = 1 then (decide (n = 0) || decide (n = 1)) && decide (f = 0) && s.toList.isEmpty
  else if k = 2 ∨ k = 7 then decide (f = 0) && s.toList.isEmpty
  else if k = 5 then decide (n = 0) && decide (f = 0) && decide ((s.size : Int) ≤ 1000)
  else if k = 6 then decide (0 ≤ n) && decide (n ≤ 9007199254740992) && decide (f = 0) && s.toList.isEmpty
  else if k ≤ 11 then decide (n = 0) && decide (f = 0) && s.toList.isEmpty else false

end Go.Proofs.YthffcdahjcpdfaaGreatDoor.Q

