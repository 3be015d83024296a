import Derived.Test.YtpmdlhlojifoeaaDoorLin
import Derived.Lib.SlBytesConst
namespace Go.Proofs.YtpmdlhlojifoeaaDoor
open Go.RowKit
set_option linter.unusedVariables false
set_option linter.unusedSimpArgs false

theorem Tryd.info5 : (Tryd.prog.info? 5).map (fun i => (i.zero, i.size, i.bytes)) = some (some (.int .u8 0), 1, 1) := by kernel_rfl
theorem made_bs (n : Nat) : madeCells #[.int .u8 0] n = bs (List.replicate n 0) := by
  apply Array.ext
  · simp [madeCells, bs]
  · intro i h1 h2
    simp [madeCells, bs, Nat.mod_one]

theorem crc_at (len : Nat) (a : Option Addr) (l : List UInt8) (cap : Nat) (w : World) (h : l.length = len) (hb : Byt w a l) (hl : len ≤ 4611686018427387904) (hn : NibsAt w) :
    Calls Tryd.prog 11 #[.slice a len cap] w fun e w' => e = .returned (.int .u32 (U (crc l))) ∧ w' = w := by
  subst h
  exact crc_any a l cap w hb hl hn

def x3 (A B C : List UInt8) (k : Nat) : UInt8 := A.getD k 0 ^^^ B.getD k 0 ^^^ C.getD k 0
def xTo (n : Nat) (A B C : List UInt8) (k : Nat) : List UInt8 := (List.range n).map (fun i => if i < k then x3 A B C i else 0)
theorem xTo_len (n : Nat) (A B C : List UInt8) (k : Nat) : (xTo n A B C k).length = n := by simp [xTo]
theorem xTo_zero (n : Nat) (A B C : List UInt8) : xTo n A B C 0 = List.replicate n 0 := by simp [xTo, List.map_const']
theorem xTo_succ (n : Nat) (A B C : List UInt8) (k : Nat) (hk : k < n) : (xTo n A B C k).set k (x3 A B C k) = xTo n A B C (k + 1) := by
  apply List.ext_getElem
  · simp [xTo]
  · intro i h1 h2
    simp only [xTo, List.getElem_set, List.getElem_map, List.getElem_range]
    by_cases e : k = i
    · subst e; simp
    · have : (i < k + 1) = (i < k) := by apply propext; omega
      simp [e, this]
theorem xTo_all (n : Nat) (A B C : List UInt8) (h1 : A.length = n) (h2 : B.length = n) (h3 : C.length = n) : xTo n A B C n = xor3 A B C := by
  apply List.ext_getElem
  · simp [xTo, xor3, h1, h2, h3]
  · intro i g1 g2
    have hi : i < n := by simpa [xTo] using g1
    simp [xTo, xor3, x3, hi, h1, h2, h3]
theorem x3_bits (A B C : List UInt8) (k : Nat) : bits .xor .u8 (bits .xor .u8 (at8 A k) (at8 B k)) (at8 C k) = ((x3 A B C k).toNat : Int) := by
  unfold at8 x3
  rw [u8_xor_nat _ _ (UInt8.toNat_lt _) (UInt8.toNat_lt _), ← UInt8.toNat_xor, u8_xor_nat _ _ (UInt8.toNat_lt _) (UInt8.toNat_lt _), ← UInt8.toNat_xor]

def digs : List UInt8 := [49, 50, 51, 52, 53, 54, 55, 56, 57]
theorem crc_digs : U (crc digs) = 3421780262 := by decide +kernel
attribute [local go_sem] bits_xor
theorem lit9 (wr : World) : (convert 26 26 (.slice (some ⟨wr.heap.size, 0, none⟩) 9 9)).run Tryd.prog (wr.alloc (.cells #[.int .u8 49, .int .u8 50, .int .u8 51, .int .u8 52, .int .u8 53, .int .u8 54, .int .u8 55, .int .u8 56, .int .u8 57] 5)).drew = .ok (.slice (some ⟨wr.heap.size, 0, none⟩) 9 9) (wr.alloc (.cells (bs digs) 5 (9, 10))).drew :=
  Lib.run_convert_bytes_const (P := Tryd.prog) wr.drew 26 5 #[.int .u8 49, .int .u8 50, .int .u8 51, .int .u8 52, .int .u8 53, .int .u8 54, .int .u8 55, .int .u8 56, .int .u8 57] 9 9 Tryd.underlying26 Tryd.underlying5

end Go.Proofs.YtpmdlhlojifoeaaDoor
