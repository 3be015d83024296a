import Derived.Test.YtdajeabhhkgibaaVa
import Derived.Deep.RegionHeld3
import Derived.Deep.Cut
import Derived.BigQuiet
namespace Go.Proofs.Ytdajeabhhkgibaa
open Go.RowKit
set_option linter.unusedVariables false
set_option linter.unusedSimpArgs false

def two64 : Nat := 18446744073709551616
/-- Bits in words. -/
def bitAt (ws : Nat → Nat) (n : Nat) : Bool := (ws (n / 64)).testBit (n % 64)
def setBit (ws : Nat → Nat) (n i : Nat) : Nat := if i = n / 64 then ws i ||| 2 ^ (n % 64) else ws i
theorem bitAt_set (ws : Nat → Nat) (n m : Nat) : bitAt (setBit ws n) m = (decide (m = n) || bitAt ws m) := by
  unfold bitAt setBit
  by_cases h : m / 64 = n / 64
  · rw [if_pos h, Nat.testBit_or, Nat.testBit_two_pow]
    have : decide (n % 64 = m % 64) = decide (m = n) := by
      congr 1
      apply propext
      constructor
      · intro e; omega
      · intro e; rw [e]
    rw [this, Bool.or_comm]
  · rw [if_neg h]
    have : decide (m = n) = false := decide_eq_false (fun e => h (by rw [e]))
    rw [this, Bool.false_or]
theorem setBit_lt {ws : Nat → Nat} (h : ∀ i, ws i < 18446744073709551616) (n i : Nat) : setBit ws n i < 18446744073709551616 := by
  unfold setBit
  split
  · exact Nat.or_lt_two_pow (n := 64) (h i) (Nat.pow_lt_pow_right (by omega) (by omega))
  · exact h i
/-- The row of words. -/
def WR (w : World) (g m : Nat) (ws : Nat → Nat) : Prop := w.rowIs g 106 m (fun i => .int .u64 (ws i : Int))
theorem wrap_pow (r : Nat) (hr : r < 64) : IntKind.u64.wrap (2 ^ r) = ((2 ^ r : Nat) : Int) ∧ 2 ^ r < 18446744073709551616 := by
  have h2 : 2 ^ r < 18446744073709551616 := Nat.pow_lt_pow_right (n := 64) (by omega) hr
  refine ⟨?_, h2⟩
  have e : (2 : Int) ^ r = ((2 ^ r : Nat) : Int) := by simp
  rw [e]
  generalize 2 ^ r = P at *
  rw [IntKind.wrap_u64]
  omega
/-- All but one block stay. -/
theorem grown_set (w : World) (g i : Nat) (v : Value) : w.grownBy (w.setCell ⟨g, i, none⟩ v).drew (some g) :=
  ⟨rfl, rfl, rfl, by simp, fun k _ hk => Below.heap_setCell _ _ _ _ (fun e => hk (by rw [e]))⟩
theorem WR.put {w : World} {g m : Nat} {ws : Nat → Nat} (h : WR w g m ws) (n : Nat) : WR (w.setCell ⟨g, n / 64, none⟩ (.int .u64 ((ws (n / 64) ||| 2 ^ (n % 64) : Nat) : Int))).drew g m (setBit ws n) := by
  refine (h.set (n / 64) _).congr fun i hi => ?_
  unfold setBit
  by_cases e : i = n / 64
  · rw [if_pos e, if_pos e, e]
  · rw [if_neg e, if_neg e]
set_option maxRecDepth 100000 in
theorem index95 (b n cap k : Nat) (w : World) (hk : k < n) : (Instr.indexAt 95 (.slice (some ⟨b, 0, none⟩) n cap) (.int .i64 (k : Int))).run Try.prog w = .ok (.pointer (some ⟨b, k, none⟩)) w := by
  rw [run_indexAt_slice (P := Try.prog) _ _ _ _ _ _ _ Try.underlying95]
  have hsz : (sizeOf (Try.prog.elem 95)).run Try.prog w = .ok 1 w := by kernel_rfl
  simp [hk, hsz, Addr.add_mid]
set_option maxRecDepth 100000 in
theorem put_any (g m n : Nat) (ws : Nat → Nat) (w : World) (h : WR w g m ws) (hw : ∀ i, ws i < 18446744073709551616) (hn : n / 64 < m) (hn2 : n < 65536) (hm : m ≤ 1024) :
    Calls Try.prog 43 #[.slice (some ⟨g, 0, none⟩) m m, .int .i64 (n : Int)] w fun e w' => e = .returned (.tuple #[]) ∧ WR w' g m (setBit ws n) ∧ w.grownBy w' (some g) := by
  have hc : w.cell? ⟨g, n / 64, none⟩ = some (.int .u64 (ws (n / 64) : Int)) := h.cell hn
  have hf : w.frozen? ⟨g, n / 64, none⟩ = false := h.frozen _
  have hlt := hw (n / 64)
  have hq : n % 64 < 64 := Nat.mod_lt _ (by omega)
  obtain ⟨hs, h2⟩ := wrap_pow (n % 64) hq
  have ho := bits_or_u64_nat (ws (n / 64)) (2 ^ (n % 64)) hlt h2
  rw [← hs] at ho
  have e1 : (n : Int).tdiv 64 = ((n / 64 : Nat) : Int) := by rw [Int.tdiv_eq_ediv_of_nonneg (by omega)]; omega
  have e2 : (n : Int).tmod 64 = ((n % 64 : Nat) : Int) := by rw [Int.tmod_eq_emod_of_nonneg (by omega)]; omega
  have HP := Hid.mk' (h.put n)
  have HG := Hid.mk' (grown_set w g (n / 64) (.int .u64 ((ws (n / 64) ||| 2 ^ (n % 64) : Nat) : Int)))
  have HO := Hid.mk' ho
  clear ho hs h2 h hw
  have ix := fun wx => index95 g m m (n / 64) wx hn
  generalize ws (n / 64) = x at *
  generalize n / 64 = d at *
  generalize n % 64 = r at *
  go_enter Try.func43, Try.ntmps43
  go_upto_region 0 with fail
  go_region
  rw [HO.out]
  go_end0
  exact ⟨rfl, HP.out, HG.out⟩
theorem shr_bit (x r : Nat) (hx : x < 18446744073709551616) (hr : r < 64) : (bits .and .u64 ((x : Int) / (2 ^ r)) 1 == 1) = x.testBit r := by
  have e1 : (x : Int) / (2 ^ r) = ((x / 2 ^ r : Nat) : Int) := by simp
  have hle : x / 2 ^ r ≤ x := Nat.div_le_self _ _
  have e2 := bits_and_u64_nat (x / 2 ^ r) 1 (by omega) (by omega)
  rw [e1]
  show (bits .and .u64 ((x / 2 ^ r : Nat) : Int) ((1 : Nat) : Int) == 1) = _
  rw [e2, Nat.and_one_is_mod, Nat.testBit_eq_decide_div_mod_eq]
  generalize x / 2 ^ r % 2 = y
  by_cases hy : y = 1
  · subst hy; rfl
  · rw [decide_eq_false hy]
    have : ¬ ((y : Int) = 1) := by omega
    simpa using this
set_option maxRecDepth 100000 in
theorem has_any (g m n : Nat) (ws : Nat → Nat) (w : World) (h : WR w g m ws) (hw : ∀ i, ws i < 18446744073709551616) (hn : n / 64 < m) (hn2 : n < 65536) (hm : m ≤ 1024) :
    Calls Try.prog 49 #[.slice (some ⟨g, 0, none⟩) m m, .int .i64 (n : Int)] w fun e w' => e = .returned (.bool (bitAt ws n)) ∧ w' = w := by
  have hc : w.cell? ⟨g, n / 64, none⟩ = some (.int .u64 (ws (n / 64) : Int)) := h.cell hn
  have hlt := hw (n / 64)
  have hq : n % 64 < 64 := Nat.mod_lt _ (by omega)
  have hb := shr_bit (ws (n / 64)) (n % 64) hlt hq
  have e1 : (n : Int).tdiv 64 = ((n / 64 : Nat) : Int) := by rw [Int.tdiv_eq_ediv_of_nonneg (by omega)]; omega
  have e2 : (n : Int).tmod 64 = ((n % 64 : Nat) : Int) := by rw [Int.tmod_eq_emod_of_nonneg (by omega)]; omega
  have HB : Hid (bitAt ws n = (ws (n / 64)).testBit (n % 64)) := rfl
  clear h hw
  have ix := fun wx => index95 g m m (n / 64) wx hn
  generalize bitAt ws n = R at *
  generalize ws (n / 64) = x at *
  generalize n / 64 = d at *
  generalize n % 64 = r at *
  generalize x.testBit r = T at *
  obtain rfl : R = T := HB.out
  have HQ := Hid.mk' hb
  clear HB hb
  go_enter Try.func49, Try.ntmps49
  go_wp2
  go_ret
  refine ⟨?_, rfl⟩
  show Ending.returned (.bool _) = _
  rw [HQ.out]
/-- A filter's cells. -/
structure FC (w : World) (q g bits probes : Nat) : Prop where
  c0 : w.cell? ⟨q, 0, none⟩ = some (.int .i64 (bits : Int))
  c1 : w.cell? ⟨q, 1, none⟩ = some (.int .i64 (probes : Int))
  c2 : w.cell? ⟨q, 2, none⟩ = some (.slice (some ⟨g, 0, none⟩) ((bits + 63) / 64) ((bits + 63) / 64))
  ne : g ≠ q
theorem FC.of {w w' : World} {q g bits probes : Nat} (h : FC w q g bits probes) (e : w'.heap[q]? = w.heap[q]?) : FC w' q g bits probes :=
  ⟨(World.cell?_of_block (w := w) (a := ⟨q, 0, none⟩) e).trans h.c0, (World.cell?_of_block (w := w) (a := ⟨q, 1, none⟩) e).trans h.c1, (World.cell?_of_block (w := w) (a := ⟨q, 2, none⟩) e).trans h.c2, h.ne⟩
theorem FC.lt {w : World} {q g bits probes : Nat} (h : FC w q g bits probes) : q < w.heap.size := World.block_lt_of_cell? _ _ h.c0
set_option maxRecDepth 100000 in
theorem bits_any (q g bits probes : Nat) (w : World) (h : FC w q g bits probes) : Calls Try.prog 32 #[.pointer (some ⟨q, 0, none⟩)] w fun e w' => e = .returned (.int .i64 (bits : Int)) ∧ w' = w := by
  have hc := h.c0
  clear h
  go_enter Try.func32, Try.ntmps32
  go_wp2
  go_ret
  exact ⟨rfl, rfl⟩
set_option maxRecDepth 100000 in
theorem probes_any (q g bits probes : Nat) (w : World) (h : FC w q g bits probes) : Calls Try.prog 53 #[.pointer (some ⟨q, 0, none⟩)] w fun e w' => e = .returned (.int .i64 (probes : Int)) ∧ w' = w := by
  have hc := h.c1
  clear h
  go_enter Try.func53, Try.ntmps53
  go_wp2
  go_ret
  exact ⟨rfl, rfl⟩
theorem info106 : (Try.prog.info? 106).map (fun i => (i.zero, i.size, i.bytes)) = some (some (.int .u64 0), 1, 8) := by kernel_rfl
set_option maxRecDepth 100000 in
theorem empty_any (bits probes : Nat) (w : World) (hb : bits ≤ 65536) (hb0 : 0 < bits) (hp : probes ≤ 16) :
    Calls Try.prog 40 #[.int .i64 (bits : Int), .int .i64 (probes : Int)] w fun e w' => e = .returned (.pointer (some ⟨w.heap.size + 1, 0, none⟩)) ∧ FC w' (w.heap.size + 1) w.heap.size bits probes ∧ WR w' w.heap.size ((bits + 63) / 64) (fun _ => 0) ∧ Below w.heap.size w w' ∧ w.heap.size + 1 < w'.heap.size := by
  have e1 : ((bits : Int) + 64 - 1).tdiv 64 = (((bits + 63) / 64 : Nat) : Int) := by rw [Int.tdiv_eq_ediv_of_nonneg (by omega)]; omega
  have e2 : ((bits : Int) + 63) / 64 = (((bits + 63) / 64 : Nat) : Int) := by omega
  have mk2 := run_make_row' (P := Try.prog) 95 106 (.int .u64 0) 8 Try.underlying95 info106 rfl .i64 .i64 ((bits + 63) / 64) (by omega) (by omega)
  have HW : Hid (∀ o, FC ((w.alloc (.cells (madeCells #[.int .u64 0] ((bits + 63) / 64)) 106)).alloc (.cells #[.int .i64 (bits : Int), .int .i64 (probes : Int), .slice (some ⟨w.heap.size, 0, none⟩) ((bits + 63) / 64) ((bits + 63) / 64)] o)) (w.heap.size + 1) w.heap.size bits probes ∧ WR ((w.alloc (.cells (madeCells #[.int .u64 0] ((bits + 63) / 64)) 106)).alloc (.cells #[.int .i64 (bits : Int), .int .i64 (probes : Int), .slice (some ⟨w.heap.size, 0, none⟩) ((bits + 63) / 64) ((bits + 63) / 64)] o)) w.heap.size ((bits + 63) / 64) (fun _ => 0) ∧ Below w.heap.size w ((w.alloc (.cells (madeCells #[.int .u64 0] ((bits + 63) / 64)) 106)).alloc (.cells #[.int .i64 (bits : Int), .int .i64 (probes : Int), .slice (some ⟨w.heap.size, 0, none⟩) ((bits + 63) / 64) ((bits + 63) / 64)] o))) := fun o => by
    have g := heap_alloc_new (w.alloc (.cells (madeCells #[.int .u64 0] ((bits + 63) / 64)) 106)) (.cells #[.int .i64 (bits : Int), .int .i64 (probes : Int), .slice (some ⟨w.heap.size, 0, none⟩) ((bits + 63) / 64) ((bits + 63) / 64)] o)
    rw [World.size_alloc] at g
    refine ⟨⟨(cell_of_row _ _ 0 _ _ _ g).trans rfl, (cell_of_row _ _ 1 _ _ _ g).trans rfl, (cell_of_row _ _ 2 _ _ _ g).trans rfl, by omega⟩, ?_, ((Below.refl _ _).alloc (Nat.le_refl _) _).alloc (by simp) _⟩
    exact ((World.rowIs_made w (.int .u64 0) ((bits + 63) / 64) 106).alloc _)
  have HN := Hid.mk' (show ∀ q g w, FC w q g bits probes ↔ FC w q g bits probes from fun _ _ _ => Iff.rfl)
  generalize hnw : (bits + 63) / 64 = nw at mk2 e1 e2 HW ⊢
  go_enter Try.func40, Try.ntmps40
  go_wp2
  go_ret
  obtain ⟨h1, h2, h3⟩ := HW.out 97
  exact ⟨rfl, h1, h2, h3, by simp⟩
end Go.Proofs.Ytdajeabhhkgibaa
