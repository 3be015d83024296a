import Derived.WalkKit
import Derived.Laws.BitsAllLaws
namespace Go.Proofs.YtifendlpeebofaaGreatDoor
open Go.RowKit
set_option linter.unusedVariables false
set_option linter.unusedSimpArgs false

/-- A row of bytes as cells. -/
def bs (h : List UInt8) : Array Value := (h.map (fun b => Value.int .u8 (b.toNat : Int))).toArray

/-- A byte of a list, as a number. -/
def at8 (h : List UInt8) (k : Nat) : Int := ((h.getD k 0).toNat : Int)

theorem at8_lo (h : List UInt8) (k : Nat) : 0 ≤ at8 h k := by unfold at8; omega
theorem at8_hi (h : List UInt8) (k : Nat) : at8 h k ≤ 255 := by unfold at8; have := (h.getD k 0).toNat_lt; omega

theorem bs_size (h : List UInt8) : (bs h).size = h.length := by simp [bs]

theorem bs_get (h : List UInt8) (k : Nat) (hk : k < h.length) : (bs h)[k]? = some (.int .u8 (at8 h k)) := by
  simp [bs, at8, List.getElem?_eq_getElem hk]

theorem bs_set (h : List UInt8) (k : Nat) (v : UInt8) : (bs h).setIfInBounds k (.int .u8 (v.toNat : Int)) = bs (h.set k v) := by
  simp [bs, List.map_set]

theorem bs_inj {a b : List UInt8} (h : bs a = bs b) : a = b := by
  have h2 : a.map (fun b => Value.int .u8 (b.toNat : Int)) = b.map (fun b => Value.int .u8 (b.toNat : Int)) := by
    simpa [bs] using h
  have h3 := congrArg (List.map (fun v => UInt8.ofNat (intOf v).toNat)) h2
  simpa [List.map_map, Function.comp_def, intOf] using h3

/-- Is a byte a digit? -/
def isDg (c : Int) : Bool := decide (48 ≤ c) && decide (c ≤ 57) || decide (97 ≤ c) && decide (c ≤ 102)

/-- A digit's number. -/
def dgVal (c : Int) : Int := if 97 ≤ c then (c - 87) % 256 else (c - 48) % 256

/-- Digit number k of a hash. -/
def dig (h : List UInt8) (k : Nat) : Int := if k % 2 = 0 then at8 h (k / 2) / 16 else at8 h (k / 2) % 16

theorem dig_bd (h : List UInt8) (k : Nat) : 0 ≤ dig h k ∧ dig h k < 16 := by
  unfold dig
  have := at8_lo h (k / 2)
  have := at8_hi h (k / 2)
  split <;> omega

theorem and15 (x : Int) (h0 : 0 ≤ x) (h1 : x ≤ 255) : bits .and .u8 x 15 = x % 16 := by
  rw [u8_and x 15 h0 (by omega) (by decide) (by decide)]
  show ((x.toNat &&& 15 : Nat) : Int) = _
  rw [nat_mask4]
  omega

theorem isDg_digit {c : Int} (h : isDg c = true) : 48 ≤ c ∧ c ≤ 57 ∨ 97 ≤ c ∧ c ≤ 102 := by
  simpa [isDg] using h

theorem ret_int {k : IntKind} {a b : Int} (h : a = b) : Ending.returned (.int k a) = .returned (.int k b) := by rw [h]
theorem ret_bool {a b : Bool} (h : a = b) : Ending.returned (.bool a) = .returned (.bool b) := by rw [h]
end Go.Proofs.YtifendlpeebofaaGreatDoor
