import Derived.Test.YtpmdlhlojifoeaaDoorCrc
import Derived.Deep.OwnRows
import Derived.Deep.RegionWith
import Derived.Deep.QuietTactic
import Derived.BigQuiet
namespace Go.Proofs.YtpmdlhlojifoeaaDoor
open Go.RowKit
set_option linter.unusedVariables false
set_option linter.unusedSimpArgs false

theorem nibs_xor : ∀ x : Fin 16, ∀ y : Fin 16, nibs.getD (x.val ^^^ y.val) 0 = nibs.getD x.val 0 ^^^ nibs.getD y.val 0 := by decide
theorem nib_xor (a b : UInt32) : nib (a ^^^ b) = nib a ^^^ nib b := by
  unfold nib
  have e : (a ^^^ b).toNat % 16 = (a.toNat % 16) ^^^ (b.toNat % 16) := by
    rw [UInt32.toNat_xor, ← Nat.and_two_pow_sub_one_eq_mod _ 4, ← Nat.and_two_pow_sub_one_eq_mod _ 4, ← Nat.and_two_pow_sub_one_eq_mod _ 4, Nat.and_xor_distrib_right]
  rw [e]
  exact nibs_xor ⟨a.toNat % 16, by omega⟩ ⟨b.toNat % 16, by omega⟩
theorem shr_xor (a b c : UInt32) : (a ^^^ b) >>> c = a >>> c ^^^ b >>> c := by
  apply UInt32.toNat_inj.1
  rw [UInt32.toNat_xor, UInt32.toNat_shiftRight, UInt32.toNat_shiftRight, UInt32.toNat_shiftRight, UInt32.toNat_xor, Nat.shiftRight_xor_distrib]
theorem half_xor (a b : UInt32) : half (a ^^^ b) = half a ^^^ half b := by
  unfold half
  rw [nib_xor, shr_xor]
  ac_rfl
theorem ofNat_xor (a b : UInt8) : UInt32.ofNat (a ^^^ b).toNat = UInt32.ofNat a.toNat ^^^ UInt32.ofNat b.toNat := by
  apply UInt32.toNat_inj.1
  have ha := a.toNat_lt
  have hb := b.toNat_lt
  have hc := (a ^^^ b).toNat_lt
  rw [UInt32.toNat_xor, UInt32.toNat_ofNat', UInt32.toNat_ofNat', UInt32.toNat_ofNat', Nat.mod_eq_of_lt (by omega), Nat.mod_eq_of_lt (by omega), Nat.mod_eq_of_lt (by omega), UInt8.toNat_xor]
theorem step_xor3 (r s t : UInt32) (x y z : UInt8) : crcStep (r ^^^ s ^^^ t) (x ^^^ y ^^^ z) = crcStep r x ^^^ crcStep s y ^^^ crcStep t z := by
  unfold crcStep
  rw [ofNat_xor, ofNat_xor, ← half_xor, ← half_xor, ← half_xor, ← half_xor]
  congr 2
  ac_rfl

/-- Byte by byte. -/
def xor3 (a b c : List UInt8) : List UInt8 := (a.zip (b.zip c)).map (fun p => p.1 ^^^ p.2.1 ^^^ p.2.2)
theorem reg_xor3 (a b c : List UInt8) (r s t : UInt32) (h1 : a.length = b.length) (h2 : a.length = c.length) :
    (xor3 a b c).foldl crcStep (r ^^^ s ^^^ t) = a.foldl crcStep r ^^^ b.foldl crcStep s ^^^ c.foldl crcStep t := by
  induction a generalizing b c r s t with
  | nil =>
    cases b with
    | nil => cases c with | nil => rfl | cons _ _ => simp at h2
    | cons _ _ => simp at h1
  | cons x a ih =>
    cases b with
    | nil => simp at h1
    | cons y b =>
      cases c with
      | nil => simp at h2
      | cons z c =>
        simp only [xor3, List.zip_cons_cons, List.map_cons, List.foldl_cons]
        rw [step_xor3]
        exact ih b c _ _ _ (by simpa using h1) (by simpa using h2)
theorem crc_xor3 (a b c : List UInt8) (h1 : a.length = b.length) (h2 : a.length = c.length) : crc (xor3 a b c) = crc a ^^^ crc b ^^^ crc c := by
  have h := reg_xor3 a b c 0xffffffff 0xffffffff 0xffffffff h1 h2
  have e : (0xffffffff : UInt32) ^^^ 0xffffffff ^^^ 0xffffffff = 0xffffffff := by decide
  rw [e] at h
  unfold crc crcReg
  rw [h]
  generalize List.foldl crcStep 4294967295 a = p
  generalize List.foldl crcStep 4294967295 b = q
  generalize List.foldl crcStep 4294967295 c = o
  generalize hm : (4294967295 : UInt32) = m
  have e2 : p ^^^ m ^^^ (q ^^^ m) ^^^ (o ^^^ m) = p ^^^ q ^^^ o ^^^ (m ^^^ m ^^^ m) := by ac_rfl
  rw [e2]
  simp
end Go.Proofs.YtpmdlhlojifoeaaDoor
