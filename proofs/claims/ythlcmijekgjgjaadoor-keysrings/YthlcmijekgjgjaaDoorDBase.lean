import Derived.WalkKit
import Derived.Laws.BitsAllLaws
namespace Go.Proofs.YthlcmijekgjgjaaDoor
open Go.RowKit
set_option linter.unusedVariables false
set_option linter.unusedSimpArgs false

/-- A row of bytes as cells. -/
def bs (h : List UInt8) : Array Value := (h.map (fun b => Value.int .u8 (b.toNat : Int))).toArray
/-- A byte of a list, as a number. -/
def at8 (h : List UInt8) (k : Nat) : Int := ((h.getD k 0).toNat : Int)
/-- A number of 32 bits, as an integer. -/
def U (x : UInt32) : Int := (x.toNat : Int)
/-- A row of such numbers as cells. -/
def ws (l : List UInt32) : Array Value := (l.map (fun x => Value.int .u32 (U x))).toArray

theorem U_lo (x : UInt32) : 0 ≤ U x := by unfold U; omega
theorem U_hi (x : UInt32) : U x < 4294967296 := by unfold U; have := x.toNat_lt; omega
theorem U_inj {a b : UInt32} (h : U a = U b) : a = b := by unfold U at h; exact UInt32.toNat_inj.1 (by omega)

theorem at8_lo (h : List UInt8) (k : Nat) : 0 ≤ at8 h k := by unfold at8; omega
theorem at8_hi (h : List UInt8) (k : Nat) : at8 h k ≤ 255 := by unfold at8; have := (h.getD k 0).toNat_lt; omega
theorem bs_size (h : List UInt8) : (bs h).size = h.length := by simp [bs]
theorem bs_get (h : List UInt8) (k : Nat) (hk : k < h.length) : (bs h)[k]? = some (.int .u8 (at8 h k)) := by
  simp [bs, at8, List.getElem?_eq_getElem hk]
theorem bs_set (h : List UInt8) (k : Nat) (v : UInt8) : (bs h).setIfInBounds k (.int .u8 (v.toNat : Int)) = bs (h.set k v) := by
  simp [bs, List.map_set]
theorem bs_one (l : List UInt8) : (bs l).all (·.oneCell') = true := by
  simp [bs, Value.oneCell']
theorem ws_size (h : List UInt32) : (ws h).size = h.length := by simp [ws]
theorem ws_get (h : List UInt32) (k : Nat) (hk : k < h.length) : (ws h)[k]? = some (.int .u32 (U (h.getD k 0))) := by
  simp [ws, List.getElem?_eq_getElem hk]
theorem ws_set (h : List UInt32) (k : Nat) (v : UInt32) : (ws h).setIfInBounds k (.int .u32 (U v)) = ws (h.set k v) := by
  simp [ws, List.map_set]
theorem ws_one (l : List UInt32) : (ws l).all (·.oneCell') = true := by
  simp [ws, Value.oneCell']

theorem bits_xor (a b : UInt32) : bits .xor .u32 (U a) (U b) = U (a ^^^ b) := by
  unfold U
  rw [u32_xor_nat _ _ a.toNat_lt b.toNat_lt, UInt32.toNat_xor]
theorem bits_and (a b : UInt32) : bits .and .u32 (U a) (U b) = U (a &&& b) := by
  unfold U
  rw [u32_and_nat _ _ a.toNat_lt b.toNat_lt, UInt32.toNat_and]
theorem bits_or (a b : UInt32) : bits .or .u32 (U a) (U b) = U (a ||| b) := by
  unfold U
  rw [u32_or_nat _ _ a.toNat_lt b.toNat_lt, UInt32.toNat_or]

theorem ret_int {k : IntKind} {a b : Int} (h : a = b) : Ending.returned (.int k a) = .returned (.int k b) := by rw [h]
theorem ret_bool {a b : Bool} (h : a = b) : Ending.returned (.bool a) = .returned (.bool b) := by rw [h]

/-- A slice of bytes that lies in memory. -/
def Byt (w : World) (a : Option Addr) (l : List UInt8) : Prop :=
  l = [] ∨ ∃ b off, a = some ⟨b, off, none⟩ ∧ ∀ j, j < l.length → w.cell? ⟨b, off + j, none⟩ = some (.int .u8 (at8 l j))

/-! ### The sum -/
def nibs : List UInt32 := [0x00000000, 0x1db71064, 0x3b6e20c8, 0x26d930ac, 0x76dc4190, 0x6b6b51f4, 0x4db26158, 0x5005713c, 0xedb88320, 0xf00f9344, 0xd6d6a3e8, 0xcb61b38c, 0x9b64c2b0, 0x86d3d2d4, 0xa00ae278, 0xbdbdf21c]
def nib (r : UInt32) : UInt32 := nibs.getD (r.toNat % 16) 0
/-- Half a byte's step. -/
def half (r : UInt32) : UInt32 := (r >>> 4) ^^^ nib r
theorem and15 (x : UInt32) : bits .and .u32 (U x) 15 = U x % 16 := by
  have := U_lo x
  have := U_hi x
  rw [u32_and _ _ (by omega) (by omega) (by decide) (by decide)]
  show (((U x).toNat &&& 15 : Nat) : Int) = _
  rw [nat_mask4]
  omega
theorem xor_max (x : UInt32) : bits .xor .u32 IntKind.u32.max (U x) = U (x ^^^ 0xffffffff) := by
  have e : IntKind.u32.max = U 0xffffffff := by decide
  rw [e, bits_xor, UInt32.xor_comm]
/-- A byte's step. -/
def crcStep (r : UInt32) (v : UInt8) : UInt32 := half (half (r ^^^ UInt32.ofNat v.toNat))
def crcReg (l : List UInt8) : UInt32 := l.foldl crcStep 0xffffffff
def crc (l : List UInt8) : UInt32 := crcReg l ^^^ 0xffffffff

theorem U_shr4 (r : UInt32) : (U r : Int) / (16 : Int) = U (r >>> 4) := by
  unfold U
  rw [UInt32.toNat_shiftRight]
  simp [Nat.shiftRight_eq_div_pow]
theorem U_byte (v : UInt8) : ((v.toNat : Nat) : Int) = U (UInt32.ofNat v.toNat) := by
  unfold U
  rw [UInt32.toNat_ofNat']
  have := v.toNat_lt
  omega
theorem U_and15 (r : UInt32) : (U r % 16).toNat = r.toNat % 16 := by unfold U; omega
theorem crcReg_take (l : List UInt8) (k : Nat) (hk : k < l.length) : crcReg (l.take (k + 1)) = crcStep (crcReg (l.take k)) (l.getD k 0) := by
  unfold crcReg
  rw [List.take_succ_eq_append_getElem hk, List.foldl_append]
  simp [List.getElem?_eq_getElem hk]
end Go.Proofs.YthlcmijekgjgjaaDoor
