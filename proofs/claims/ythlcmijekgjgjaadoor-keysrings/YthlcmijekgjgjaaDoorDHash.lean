import Derived.Test.YthlcmijekgjgjaaDoorDMix
namespace Go.Proofs.YthlcmijekgjgjaaDoor
open Go.RowKit
set_option linter.unusedVariables false
set_option linter.unusedSimpArgs false

/-- The cells of a Hasher. -/
def hcl (s : S8) (bl : List UInt8) (n : Int) : List Value := s.list.map (fun x => Value.int .u32 (U x)) ++ (bl.map (fun b => Value.int .u8 (b.toNat : Int)) ++ [.int .i64 n])
def hc (s : S8) (bl : List UInt8) (n : Int) : Array Value := (hcl s bl n).toArray

theorem hc_size (s : S8) (bl : List UInt8) (n : Int) (h : bl.length = 64) : (hc s bl n).size = 73 := by simp [hc, hcl, S8.list, h]
theorem hc_state (s : S8) (bl : List UInt8) (n : Int) (j : Nat) (hj : j < 8) : (hc s bl n)[j]? = some (.int .u32 (U (s.list.getD j 0))) := by
  have hl : j < s.list.length := by simpa [S8.list] using hj
  simp only [hc, hcl, List.getElem?_toArray]
  rw [List.getElem?_append_left (by simpa using hl)]
  simp [List.getElem?_eq_getElem hl]
theorem hc_block (s : S8) (bl : List UInt8) (n : Int) (h : bl.length = 64) (j : Nat) (hj : j < 64) : (hc s bl n)[8 + j]? = some (.int .u8 (at8 bl j)) := by
  have hl : j < bl.length := by omega
  simp only [hc, hcl, List.getElem?_toArray]
  rw [List.getElem?_append_right (by simp [S8.list]), List.getElem?_append_left (by simp [S8.list]; omega)]
  simp [S8.list, at8, List.getElem?_eq_getElem hl]
theorem hc_len (s : S8) (bl : List UInt8) (n : Int) (h : bl.length = 64) : (hc s bl n)[72]? = some (.int .i64 n) := by
  simp only [hc, hcl, List.getElem?_toArray]
  rw [List.getElem?_append_right (by simp [S8.list]), List.getElem?_append_right (by simp [S8.list, h])]
  simp [S8.list, h]
theorem hc_setLen (s : S8) (bl : List UInt8) (n m : Int) (h : bl.length = 64) : (hc s bl n).setIfInBounds 72 (.int .i64 m) = hc s bl m := by
  simp only [hc, hcl, List.setIfInBounds_toArray]
  rw [List.set_append_right _ _ (by simp [S8.list]), List.set_append_right _ _ (by simp [S8.list, h])]
  simp [S8.list, h]
theorem hc_setBlock (s : S8) (bl : List UInt8) (n : Int) (j : Nat) (v : UInt8) (h : bl.length = 64) (hj : j < 64) : (hc s bl n).setIfInBounds (8 + j) (.int .u8 (v.toNat : Int)) = hc s (bl.set j v) n := by
  simp only [hc, hcl, List.setIfInBounds_toArray]
  rw [List.set_append_right _ _ (by simp [S8.list]), List.set_append_left _ _ (by simp [S8.list]; omega)]
  simp [S8.list, List.map_set]
end Go.Proofs.YthlcmijekgjgjaaDoor
