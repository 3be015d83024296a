import Derived.Test.YtefoipjbbfcjhaaDoorDz
import Derived.Deep.RegionHeld3
import Derived.Deep.Cut
namespace Go.Proofs.YtefoipjbbfcjhaaDoor
open Go.RowKit
set_option linter.unusedVariables false
set_option linter.unusedSimpArgs false

theorem pV_get {l : List Pat} {k r : Nat} (hk : k < l.length) (hr : r < 7) : (pV l)[k * 7 + r]? = (patC l[k].at' l[k].cnt l[k].txt)[r]? := by
  induction l generalizing k with
  | nil => simp at hk
  | cons p l ih =>
    have e : pV (p :: l) = (patC p.at' p.cnt p.txt).toList ++ pV l := by simp [pV]
    have hsz : (patC p.at' p.cnt p.txt).toList.length = 7 := rfl
    cases k with
    | zero =>
      rw [e, Nat.zero_mul, Nat.zero_add, List.getElem?_append_left (by rw [hsz]; exact hr)]
      simp
    | succ k =>
      have e0 : (k + 1) * 7 + r = 7 + (k * 7 + r) := by omega
      rw [e, e0, List.getElem?_append_right (by rw [hsz]; omega), hsz]
      have e1 : 7 + (k * 7 + r) - 7 = k * 7 + r := by omega
      rw [e1, ih (k := k) (by simpa using hk)]
      simp
theorem index23 (b n cap k : Nat) (w : World) (hk : k < n) : (Instr.indexAt 23 (.slice (some ⟨b, 0, none⟩) n cap) (.int .i64 (k : Int))).run Tryd.prog w = .ok (.pointer (some ⟨b, k * 7, none⟩)) w := by
  obtain ⟨i, hi, _, hs, _⟩ := ei23.ex
  have he : Tryd.prog.elem 23 = 34 := by kernel_rfl
  rw [run_indexAt_slice (P := Tryd.prog) _ _ _ _ _ _ _ Tryd.underlying23]
  simp [hk, he, hi, hs, Go.sizeOf, typeInfo, Addr.add_mid, Nat.mul_comm]
/-- The cells of one patch. -/
structure PC (w : World) (g o a c : Nat) (t : ByteArray) : Prop where
  c0 : w.cell? ⟨g, o, none⟩ = some (.int .u8 4)
  c1 : w.cell? ⟨g, o + 1, none⟩ = some (.slice none 0 0)
  c2 : w.cell? ⟨g, o + 2, none⟩ = some (.slice none 0 0)
  c3 : w.cell? ⟨g, o + 3, none⟩ = some (.int .i64 (a : Int))
  c4 : w.cell? ⟨g, o + 4, none⟩ = some (.int .i64 (c : Int))
  c5 : w.cell? ⟨g, o + 5, none⟩ = some (.string t)
  c6 : w.cell? ⟨g, o + 6, none⟩ = some (.slice none 0 0)
theorem rd_pc {w : World} {a : Option Addr} {l : List Pat} (h : Rd w a (pV l)) {k : Nat} (hk : k < l.length) : ∃ g, a = some ⟨g, 0, none⟩ ∧ PC w g (k * 7) l[k].at' l[k].cnt l[k].txt := by
  have G : ∀ r v, r < 7 → (patC l[k].at' l[k].cnt l[k].txt)[r]? = some v → ∃ g, a = some ⟨g, 0, none⟩ ∧ w.cell? ⟨g, k * 7 + r, none⟩ = some v := fun r v hr hv => h _ v ((pV_get hk hr).trans hv)
  obtain ⟨g, rfl, h0⟩ := G 0 _ (by omega) rfl
  refine ⟨g, rfl, h0, ?_, ?_, ?_, ?_, ?_, ?_⟩
  all_goals
    first
    | (obtain ⟨g2, e, h1⟩ := G 1 _ (by omega) rfl; cases e; exact h1)
    | (obtain ⟨g2, e, h1⟩ := G 2 _ (by omega) rfl; cases e; exact h1)
    | (obtain ⟨g2, e, h1⟩ := G 3 _ (by omega) rfl; cases e; exact h1)
    | (obtain ⟨g2, e, h1⟩ := G 4 _ (by omega) rfl; cases e; exact h1)
    | (obtain ⟨g2, e, h1⟩ := G 5 _ (by omega) rfl; cases e; exact h1)
    | (obtain ⟨g2, e, h1⟩ := G 6 _ (by omega) rfl; cases e; exact h1)
theorem pc_of {w : World} {g a c : Nat} {t : ByteArray} (h : w.heap[g]? = some (.cells #[.int .u8 4, .slice none 0 0, .slice none 0 0, .int .i64 (a : Int), .int .i64 (c : Int), .string t, .slice none 0 0] 34 (0, 0))) : PC w g 0 a c t :=
  ⟨(cell_of_row _ _ 0 _ _ _ h).trans rfl, (cell_of_row _ _ 1 _ _ _ h).trans rfl, (cell_of_row _ _ 2 _ _ _ h).trans rfl, (cell_of_row _ _ 3 _ _ _ h).trans rfl, (cell_of_row _ _ 4 _ _ _ h).trans rfl, (cell_of_row _ _ 5 _ _ _ h).trans rfl, (cell_of_row _ _ 6 _ _ _ h).trans rfl⟩
theorem two_box (w : World) (c d : Array Value) (t : TypeId) : ((w.alloc (.cells c t)).alloc (.cells d t)).drew.heap[w.heap.size]? = some (.cells c t (0, 0)) ∧ ((w.alloc (.cells c t)).alloc (.cells d t)).drew.heap[w.heap.size + 1]? = some (.cells d t (0, 0)) ∧ Below w.heap.size w ((w.alloc (.cells c t)).alloc (.cells d t)).drew := by
  refine ⟨?_, ?_, ((((Below.refl _ _).alloc (Nat.le_refl _) _).alloc (by simp) _)).drew⟩
  · show ((w.alloc (.cells c t)).alloc (.cells d t)).heap[w.heap.size]? = _
    rw [Below.heap_alloc _ _ _ (by simp)]; exact heap_alloc_new _ _
  · show ((w.alloc (.cells c t)).alloc (.cells d t)).heap[w.heap.size + 1]? = _
    have := heap_alloc_new (w.alloc (.cells c t)) (.cells d t)
    simpa using this
set_option maxRecDepth 100000 in
set_option maxHeartbeats 8000000 in
theorem same_all (L : List Pat) (a b : Option Addr) (ca cb : Nat) (w : World) (hA : Rd w a (pV L)) (hB : Rd w b (pV L)) (hl : L.length ≤ 9223372036854775807) :
    Calls Tryd.prog 5 #[.slice a L.length ca, .slice b L.length cb] w fun e w' => e = .returned (.bool true) ∧ Below w.heap.size w w' := by
  obtain ⟨fA, fC, fT, hf⟩ : ∃ (fA fC : Nat → Nat) (fT : Nat → ByteArray), ∀ k (hk : k < L.length), L[k].at' = fA k ∧ L[k].cnt = fC k ∧ L[k].txt = fT k := ⟨fun k => (L.getD k ⟨0, 0, ⟨#[]⟩⟩).at', fun k => (L.getD k ⟨0, 0, ⟨#[]⟩⟩).cnt, fun k => (L.getD k ⟨0, 0, ⟨#[]⟩⟩).txt, fun k hk => by simp [List.getD, hk]⟩
  have HA : Hid (∀ wx, Below w.heap.size w wx → ∀ k, k < L.length → ∃ g, a = some ⟨g, 0, none⟩ ∧ PC wx g (k * 7) (fA k) (fC k) (fT k)) := fun wx h k hk => by
    obtain ⟨h1, h2, h3⟩ := hf k hk
    rw [← h1, ← h2, ← h3]
    exact rd_pc (hA.below h) hk
  have HB : Hid (∀ wx, Below w.heap.size w wx → ∀ k, k < L.length → ∃ g, b = some ⟨g, 0, none⟩ ∧ PC wx g (k * 7) (fA k) (fC k) (fT k)) := fun wx h k hk => by
    obtain ⟨h1, h2, h3⟩ := hf k hk
    rw [← h1, ← h2, ← h3]
    exact rd_pc (hB.below h) hk
  clear hf
  clear hA hB
  generalize hn : L.length = n at *
  have HN := Hid.mk' hn
  clear hn
  go_enter Tryd.func5, Tryd.ntmps5
  go_wp2
  go_loopw [5] (fun i wr => ∃ k : Nat, k ≤ n ∧ i = .int .i64 k ∧ Hid (Below w.heap.size w wr)) (fun i _ => n - (intOf i).toNat)
  case atStart => exact ⟨0, by omega, rfl, Below.refl _ _⟩
  case round =>
    obtain ⟨k, hk, rfl, HW⟩ := hrel
    by_cases hkn : k < n
    · have hkn' : (k : Int) < (n : Int) := by omega
      obtain ⟨g1, rfl, P1⟩ := HA.out wr HW.out k hkn
      obtain ⟨g2, rfl, P2⟩ := HB.out wr HW.out k hkn
      have ix := fun wx => index23 g1 n ca k wx hkn
      have ix2 := fun wx => index23 g2 n cb k wx hkn
      obtain ⟨c0, c1, c2, c3, c4, c5, c6⟩ := P1
      obtain ⟨d0, d1, d2, d3, d4, d5, d6⟩ := P2
      clear HA HB
      generalize fA k = pa at *
      generalize fC k = pc at *
      generalize fT k = pt at *
      generalize k * 7 = o at *
      obtain ⟨A1, hA1⟩ : ∃ A, A = ((wr.alloc (.cells #[.int .u8 4, .slice none 0 0, .slice none 0 0, .int .i64 (pa : Int), .int .i64 (pc : Int), .string pt, .slice none 0 0] 34)).alloc (.cells #[.int .u8 4, .slice none 0 0, .slice none 0 0, .int .i64 (pa : Int), .int .i64 (pc : Int), .string pt, .slice none 0 0] 34)).drew := ⟨_, rfl⟩
      have Q1 := two_box wr #[.int .u8 4, .slice none 0 0, .slice none 0 0, .int .i64 (pa : Int), .int .i64 (pc : Int), .string pt, .slice none 0 0] #[.int .u8 4, .slice none 0 0, .slice none 0 0, .int .i64 (pa : Int), .int .i64 (pc : Int), .string pt, .slice none 0 0] 34
      rw [← hA1] at Q1
      have X1 : Hid (PC A1 wr.heap.size 0 pa pc pt ∧ PC A1 (wr.heap.size + 1) 0 pa pc pt ∧ Below w.heap.size w A1) := ⟨pc_of Q1.1, pc_of Q1.2.1, HW.out.trans (Q1.2.2.mono HW.out.size)⟩
      have HA1 := Hid.mk' hA1
      clear hA1 Q1
      go_upto_region 6 with fail
      go_region_held3 (fun w' => w'.cell? ⟨g1, o, none⟩ = some (.int .u8 4) ∧ w'.cell? ⟨g1, o + 1, none⟩ = some (.slice none 0 0) ∧ w'.cell? ⟨g1, o + 2, none⟩ = some (.slice none 0 0) ∧ w'.cell? ⟨g1, o + 3, none⟩ = some (.int .i64 (pa : Int)) ∧ w'.cell? ⟨g1, o + 4, none⟩ = some (.int .i64 (pc : Int)) ∧ w'.cell? ⟨g1, o + 5, none⟩ = some (.string pt) ∧ w'.cell? ⟨g1, o + 6, none⟩ = some (.slice none 0 0) ∧ w'.cell? ⟨g2, o, none⟩ = some (.int .u8 4) ∧ w'.cell? ⟨g2, o + 1, none⟩ = some (.slice none 0 0) ∧ w'.cell? ⟨g2, o + 2, none⟩ = some (.slice none 0 0) ∧ w'.cell? ⟨g2, o + 3, none⟩ = some (.int .i64 (pa : Int)) ∧ w'.cell? ⟨g2, o + 4, none⟩ = some (.int .i64 (pc : Int)) ∧ w'.cell? ⟨g2, o + 5, none⟩ = some (.string pt) ∧ w'.cell? ⟨g2, o + 6, none⟩ = some (.slice none 0 0)) (first | assumption | go_keep) (fail)
      all_goals
        clear c0 c1 c2 c3 c4 c5 c6 d0 d1 d2 d3 d4 d5 d6
        rw [← HA1.out]
        obtain ⟨P1, P2, bw⟩ := X1.out
        have BW := Hid.mk' bw
        obtain ⟨c0, c1, c2, c3, c4, c5, c6⟩ := P1
        obtain ⟨d0, d1, d2, d3, d4, d5, d6⟩ := P2
        clear X1 HA1 bw
        simp only [Nat.zero_add] at c1 c2 c3 c4 c5 c6 d1 d2 d3 d4 d5 d6
        go_wp2
        exact ⟨⟨k + 1, by omega, by go_num, BW⟩, by simp [intOf]; omega⟩
    · have hkn' : ¬ (k : Int) < (n : Int) := by omega
      go_wp2
      go_ret
      exact ⟨rfl, HW.out⟩
end Go.Proofs.YtefoipjbbfcjhaaDoor
