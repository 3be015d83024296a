import Derived.Test.YtpalbfkkegaliabDoorB
import Derived.Test.YtpalbfkkegaliabDoorHl
import Derived.Deep.RegionWith
import Derived.Deep.QuietTactic
import Derived.BigQuiet
namespace Go.Proofs.YtpalbfkkegaliabDoor
open Go.RowKit
set_option linter.unusedVariables false
set_option linter.unusedSimpArgs false

/-- The byte that two digits make. -/
def two (l : List UInt8) (k : Nat) : UInt8 := UInt8.ofNat ((dgVal (at8 l (2 * k)) * 16 + dgVal (at8 l (2 * k + 1))) % 256).toNat

/-- The first k bytes that the digits make, zeros behind. -/
def unTo (l : List UInt8) (k : Nat) : List UInt8 := (List.range 32).map (fun i => if i < k then two l i else 0)

theorem hz23 (w : World) : (zeroValue 36).run Tryd.prog w = .ok (.agg (bs z32)) w := (zero_of_info (n := 32) (by kernel_rfl)).1 w
theorem hb23 : Tryd.prog.built 36 [] = some (bs z32) := by kernel_rfl
theorem hs23 : (Tryd.prog.info? 36).map (·.size) = some 32 := by kernel_rfl
theorem load23 (w : World) (g : Nat) (t : TypeId) (l : List UInt8) (hl : l.length = 32) (fr : Nat × Nat) (hg : w.heap[g]? = some (.cells (bs l) t fr)) :
    (loadVar 36 ⟨g, 0, none⟩).run Tryd.prog w = .ok (.agg (bs l)) w :=
  run_loadVar_row w g t 36 (bs l) fr _ hg Tryd.underlying36 rfl (by rw [bs_size, hl]; exact hs23)

theorem unTo_len (l : List UInt8) (k : Nat) : (unTo l k).length = 32 := by simp [unTo]
theorem unTo_zero (l : List UInt8) : unTo l 0 = z32 := by simp [unTo, z32]; rfl
theorem unTo_succ (l : List UInt8) (k : Nat) (hk : k < 32) : (unTo l k).set k (two l k) = unTo l (k + 1) := by
  apply List.ext_getElem
  · simp [unTo]
  · intro i h1 h2
    simp only [unTo, List.getElem_set, List.getElem_map, List.getElem_range]
    by_cases e : k = i
    · subst e; simp
    · have : (i < k + 1) = (i < k) := by apply propext; omega
      simp [e, this]

theorem goodOf_all (n : Nat) (l : List UInt8) (h : goodOf n l = n) : ∀ j, j < n → isDg (at8 l j) = true := by
  induction n generalizing l with
  | zero => intro j hj; omega
  | succ n ih =>
    cases l with
    | nil => simp [goodOf] at h
    | cons a r =>
      cases ha : isDg (a.toNat : Int) with
      | false => simp [goodOf, ha] at h
      | true =>
        simp only [goodOf, ha, if_true, Nat.add_right_cancel_iff] at h
        intro j hj
        cases j with
        | zero => rw [at8_zero]; exact ha
        | succ j => rw [at8_succ]; exact ih r h j (by omega)

theorem dgVal_digit {c : Int} (h : isDg c = true) : 0 ≤ dgVal c ∧ dgVal c < 16 := by
  have := isDg_digit h
  unfold dgVal
  split <;> omega

theorem two_or (l : List UInt8) (k : Nat) (h1 : 0 ≤ dgVal (at8 l (2 * k))) (h2 : dgVal (at8 l (2 * k)) < 16) (h3 : 0 ≤ dgVal (at8 l (2 * k + 1))) (h4 : dgVal (at8 l (2 * k + 1)) < 16) :
    bits .or .u8 (dgVal (at8 l (2 * k)) * 16) (dgVal (at8 l (2 * k + 1))) = ((two l k).toNat : Int) := by
  unfold two
  generalize dgVal (at8 l (2 * k)) = a at *
  generalize dgVal (at8 l (2 * k + 1)) = b at *
  rw [u8_or _ _ (by omega) (by omega) h3 (by omega)]
  have e : (a * 16).toNat = a.toNat * 16 := by omega
  rw [e, nat_join 4 _ _ (by omega) (by omega), UInt8.toNat_ofNat']
  omega

theorem below_setRow (B : Nat) (w : World) (g : Nat) (cs : Array Value) (h : B ≤ g) : Below B w (w.setRow g cs) :=
  ⟨rfl, rfl, rfl, by simp, fun k hk => setRow_other w g k cs (by omega)⟩

theorem index_str (s : ByteArray) (k : Nat) (w : World) (h : k < s.size) : (Instr.index 9 (.string s) (.int .i64 (k : Int))).run Tryd.prog w = .ok (.int .u8 (at8 s.data.toList k)) w := by
  rw [run_index_string _ _ _ _ _ Tryd.underlying9, dif_pos ⟨by omega, by omega⟩]
  simp only [Int.toNat_natCast]
  rw [at8_str s k h]

end Go.Proofs.YtpalbfkkegaliabDoor
