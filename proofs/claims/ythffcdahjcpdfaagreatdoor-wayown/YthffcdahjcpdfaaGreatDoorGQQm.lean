import Derived.Test.YthffcdahjcpdfaaGreatDoorQQc
import Derived.Lib.MapLaws
import Derived.Lib.ValidLaws
import Derived.Test.YthffcdahjcpdfaaGreatDoorGPb
import Derived.Lib.ValidAsc
namespace Go.Proofs.YthffcdahjcpdfaaGreatDoor.Q
open Go.RowKit
set_option linter.unusedVariables false
set_option linter.unusedSimpArgs false

/-- A byte, as the document writes it in quotes. -/
def escB (c : UInt8) : List UInt8 :=
  if c = 34 ∨ c = 92 then [92, c] else if c = 10 then [92, 110] else if c = 13 then [92, 114] else if c = 9 then [92, 116]
  else if c.toNat < 32 ∨ c = 127 then [92, 117, 48, 48, hx ((c.toNat : Int) / 16), hx ((c.toNat : Int) % 16)] else [c]
theorem escB_len (c : UInt8) : 1 ≤ (escB c).length ∧ (escB c).length ≤ 6 := by
  unfold escB
  repeat' split
  all_goals simp
theorem escB_high (c : UInt8) (h : 128 ≤ c.toNat) : escB c = [c] := by
  unfold escB
  have e : ∀ k : Nat, k < 128 → c ≠ UInt8.ofNat k := fun k hk e => by
    rw [e, UInt8.toNat_ofNat'] at h
    omega
  have e34 : c ≠ 34 := e 34 (by omega)
  have e92 : c ≠ 92 := e 92 (by omega)
  have e10 : c ≠ 10 := e 10 (by omega)
  have e13 : c ≠ 13 := e 13 (by omega)
  have e9 : c ≠ 9 := e 9 (by omega)
  have e127 : c ≠ 127 := e 127 (by omega)
  rw [if_neg (by rintro (h | h); exact e34 h; exact e92 h), if_neg e10, if_neg e13, if_neg e9, if_neg (by rintro (h | h); omega; exact e127 h)]
theorem esc_low : ∀ x : Fin 128, escB (UInt8.ofNat x.val) = escR ((x.val : Nat) : Int) := by decide +kernel
theorem esc_flat (l : List UInt8) (h : ∀ b ∈ l, 128 ≤ b.toNat) : l.flatMap escB = l := by
  induction l with
  | nil => rfl
  | cons b t ih =>
    rw [List.flatMap_cons, escB_high b (h b (by simp)), ih (fun c hc => h c (by simp [hc]))]
    rfl
theorem enc_high (r : Int) (h : 128 ≤ r) (h1 : r ≤ 1114111) : ∀ b ∈ Lib.encodeRune r, 128 ≤ b.toNat := by
  intro b hb
  unfold Lib.encodeRune at hb
  rw [List.mem_map] at hb
  obtain ⟨x, hx, rfl⟩ := hb
  have hb : 128 ≤ x ∧ x < 256 := by
    unfold Lib.encodeRuneZ at hx
    split at hx
    · omega
    · split at hx
      · simp at hx; omega
      · split at hx
        · simp at hx; omega
        · split at hx
          · simp at hx; omega
          · simp at hx; omega
  rw [Nat.toUInt8, UInt8.toNat_ofNat']
  omega
theorem decode_le (l : List UInt8) : (Lib.decodeL l).1 ≤ 1114111 := by
  rw [Lib.decodeL_N]
  unfold Lib.decodeN
  have b0 := (l.getD 0 0).toNat_lt
  have b1 := (l.getD 1 0).toNat_lt
  have b2 := (l.getD 2 0).toNat_lt
  have b3 := (l.getD 3 0).toNat_lt
  repeat' split
  all_goals (simp only []; omega)
/-- A character at the front: quoted by its bytes it is what Quote writes of it. -/
theorem esc_step (l : List UInt8) (hne : l ≠ []) (hv : ¬ ((Lib.decodeL l).1 = 65533 ∧ (Lib.decodeL l).2 = 1)) :
    l.flatMap escB = escR ((Lib.decodeL l).1 : Int) ++ (l.drop (Lib.decodeL l).2).flatMap escB := by
  have he := Lib.encode_decode l hne hv
  have hle := decode_le l
  generalize (Lib.decodeL l).1 = r at *
  generalize (Lib.decodeL l).2 = n at *
  have key : (l.take n).flatMap escB = escR (r : Int) := by
    rw [← he]
    by_cases h : r < 128
    · have e : Lib.encodeRune (r : Int) = [UInt8.ofNat r] := by
        unfold Lib.encodeRune
        rw [Lib.encodeRuneZ_one (by omega) (by omega)]
        simp [Nat.toUInt8]
      rw [e]
      have := esc_low ⟨r, h⟩
      simp only [List.flatMap_cons, List.flatMap_nil, List.append_nil]
      exact this
    · rw [esc_flat _ (enc_high _ (by omega) (by omega))]
      unfold escR
      have h1 : signN (r : Int) = 0 := by
        unfold signN
        rw [if_neg (by omega), if_neg (by omega), if_neg (by omega), if_neg (by omega)]
      have h2 : hidB (r : Int) = false := by
        unfold hidB
        rw [decide_eq_false (by omega), decide_eq_false (by omega)]
        rfl
      rw [if_neg (by rw [h1]; simp), if_neg (by rw [h2]; simp)]
  rw [← key, ← List.flatMap_append, List.take_append_drop]
theorem esc_total (l : List UInt8) : (l.flatMap escB).length ≤ 6 * l.length := by
  induction l with
  | nil => simp
  | cons b t ih =>
    have := escB_len b
    rw [List.flatMap_cons, List.length_append, List.length_cons]
    omega
theorem valid_next (l : List UInt8) (hne : l ≠ []) (hv : Lib.validD l = true) : ¬ ((Lib.decodeL l).1 = 65533 ∧ (Lib.decodeL l).2 = 1) ∧ Lib.validD (l.drop (Lib.decodeL l).2) = true := by
  rw [Lib.validD_step l hne] at hv
  split at hv
  · cases hv
  · rename_i h
    exact ⟨h, hv⟩
theorem decode_pos (l : List UInt8) : 1 ≤ (Lib.decodeL l).2 := by
  rw [Lib.decodeL_N]
  unfold Lib.decodeN
  repeat' split
  all_goals simp
theorem decode_len (l : List UInt8) (hne : l ≠ []) (hv : ¬ ((Lib.decodeL l).1 = 65533 ∧ (Lib.decodeL l).2 = 1)) : (Lib.decodeL l).2 ≤ l.length := by
  have hl : 0 < l.length := List.length_pos_iff.2 hne
  revert hv
  rw [Lib.decodeL_N]
  unfold Lib.decodeN
  repeat' split
  all_goals (intro hv; first | (simp at hv ⊢; omega) | simp at hv ⊢)
theorem get_getD (s : ByteArray) (i : Nat) : s.get! i = s.data.toList.getD i 0 := (Lib.getD_get!' s i).symm
theorem decode_drop (s : ByteArray) (k : Nat) : Utf8.decode s k = Lib.decodeL (s.data.toList.drop k) := by
  rw [Lib.decode_at, Lib.decodeL_N, get_getD, get_getD, get_getD, get_getD]
  have e : ∀ j, (s.data.toList.drop k).getD j 0 = s.data.toList.getD (k + j) 0 := fun j => by simp [List.getD_eq_getElem?_getD]
  rw [e, e, e, e]
  congr 1
  simp
end Go.Proofs.YthffcdahjcpdfaaGreatDoor.Q

namespace Go.Proofs.YthffcdahjcpdfaaGreatDoor.Q
open Go.RowKit
set_option linter.unusedVariables false
set_option linter.unusedSimpArgs false

/-- How many bytes the character at the front has, of a text that is not empty; 0: none stands there. -/
def wideN (s : ByteArray) : Nat :=
  if by8 s 0 < 128 then 1 else (Lib.checkN s.size (by8 s 1) (by8 s 2) (by8 s 3) (Lib.firstT (by8 s 0) % 8) (Lib.accLo (Lib.firstT (by8 s 0) / 16)) (Lib.accHi (Lib.firstT (by8 s 0) / 16))).getD 0
theorem tail_2 (s : ByteArray) (lo hi : Nat) : (TailP s 2 lo hi → Lib.checkN s.size (by8 s 1) (by8 s 2) (by8 s 3) 2 lo hi = some 2) ∧ (¬ TailP s 2 lo hi → Lib.checkN s.size (by8 s 1) (by8 s 2) (by8 s 3) 2 lo hi = none) := by
  unfold TailP Lib.checkN
  constructor
  · rintro ⟨h1, h2, h3, h4⟩
    rw [if_pos rfl, if_neg (by omega)]
  · intro h
    rw [if_pos rfl, if_pos]
    apply Classical.byContradiction
    intro hc
    exact h ⟨by omega, by omega, by omega, fun i _ _ => by omega⟩
theorem tail_3 (s : ByteArray) (lo hi : Nat) : (TailP s 3 lo hi → Lib.checkN s.size (by8 s 1) (by8 s 2) (by8 s 3) 3 lo hi = some 3) ∧ (¬ TailP s 3 lo hi → Lib.checkN s.size (by8 s 1) (by8 s 2) (by8 s 3) 3 lo hi = none) := by
  unfold TailP Lib.checkN
  constructor
  · rintro ⟨h1, h2, h3, h4⟩
    have := h4 2 (by omega) (by omega)
    rw [if_neg (by omega), if_pos rfl, if_neg (by omega)]
  · intro h
    rw [if_neg (by omega), if_pos rfl, if_pos]
    apply Classical.byContradiction
    intro hc
    refine h ⟨by omega, by omega, by omega, fun i h1 h2 => ?_⟩
    obtain rfl : i = 2 := by omega
    omega
theorem tail_4 (s : ByteArray) (lo hi : Nat) : (TailP s 4 lo hi → Lib.checkN s.size (by8 s 1) (by8 s 2) (by8 s 3) 4 lo hi = some 4) ∧ (¬ TailP s 4 lo hi → Lib.checkN s.size (by8 s 1) (by8 s 2) (by8 s 3) 4 lo hi = none) := by
  unfold TailP Lib.checkN
  constructor
  · rintro ⟨h1, h2, h3, h4⟩
    have := h4 2 (by omega) (by omega)
    have := h4 3 (by omega) (by omega)
    rw [if_neg (by omega), if_neg (by omega), if_pos rfl, if_neg (by omega)]
  · intro h
    rw [if_neg (by omega), if_neg (by omega), if_pos rfl, if_pos]
    apply Classical.byContradiction
    intro hc
    refine h ⟨by omega, by omega, by omega, fun i h1 h2 => ?_⟩
    rcases (show i = 2 ∨ i = 3 by omega) with rfl | rfl <;> omega
theorem not_empty (s : ByteArray) (h : 0 < s.size) : s.toList.isEmpty = false := by
  rw [ByteArray.toList_eq]
  cases hq : s.data.toList with
  | nil =>
    have : s.data.toList.length = s.size := by simp
    rw [hq] at this
    simp at this
    omega
  | cons => rfl

end Go.Proofs.YthffcdahjcpdfaaGreatDoor.Q

namespace Go.Proofs.YthffcdahjcpdfaaGreatDoor.Q
open Go.RowKit
set_option linter.unusedVariables false
set_option linter.unusedSimpArgs false

theorem check_none (n b1 b2 b3 c lo hi : Nat) (h : c ≠ 2) (h3 : c ≠ 3) (h4 : c ≠ 4) : Lib.checkN n b1 b2 b3 c lo hi = none := by
  unfold Lib.checkN
  rw [if_neg h, if_neg h3, if_neg h4]
theorem wideN_of (s : ByteArray) (c sz lo hi : Nat) (hc : by8 s 0 = c) (h : ¬ c < 128) (e1 : Lib.firstT c % 8 = sz) (e2 : Lib.accLo (Lib.firstT c / 16) = lo) (e3 : Lib.accHi (Lib.firstT c / 16) = hi) :
    wideN s = (Lib.checkN s.size (by8 s 1) (by8 s 2) (by8 s 3) sz lo hi).getD 0 := by
  unfold wideN
  rw [hc, if_neg h, e1, e2, e3]
theorem check_le {n b1 b2 b3 sz lo hi k : Nat} (h : Lib.checkN n b1 b2 b3 sz lo hi = some k) : k ≤ n ∧ 2 ≤ k := by
  unfold Lib.checkN at h
  repeat' split at h
  all_goals first | (cases h; done) | (simp at h; omega)
theorem wideN_le (s : ByteArray) (h0 : 0 < s.size) : wideN s ≤ s.size := by
  unfold wideN
  split
  · omega
  · cases hq : Lib.checkN s.size (by8 s 1) (by8 s 2) (by8 s 3) (Lib.firstT (by8 s 0) % 8) (Lib.accLo (Lib.firstT (by8 s 0) / 16)) (Lib.accHi (Lib.firstT (by8 s 0) / 16)) with
    | none => simp
    | some k => simpa using (check_le hq).1
theorem ne_nil {s : ByteArray} (h0 : 0 < s.size) : s.data.toList ≠ [] := by
  intro e
  have : s.data.toList.length = s.size := by simp
  rw [e] at this
  simp at this
  omega
theorem valid_wide (s : ByteArray) (h0 : 0 < s.size) : Lib.validD s.data.toList = if wideN s = 0 then false else Lib.validD (s.data.toList.drop (wideN s)) := by
  have hne := ne_nil h0
  by_cases h1 : by8 s 0 < 128
  · have e : wideN s = 1 := by unfold wideN; rw [if_pos h1]
    rw [e, if_neg (by decide)]
    unfold by8 at h1
    cases hl : s.data.toList with
    | nil => exact absurd hl hne
    | cons b t =>
      rw [hl] at h1
      exact Lib.validD_cons b t (by simpa using h1)
  · have h128 : 128 ≤ (s.data.toList.getD 0 0).toNat := by unfold by8 at h1; omega
    rw [Lib.validD_lead _ hne h128]
    have hlen : s.data.toList.length = s.size := by simp
    rw [hlen]
    show (match Lib.checkN s.size (by8 s 1) (by8 s 2) (by8 s 3) (Lib.firstT (by8 s 0) % 8) (Lib.accLo (Lib.firstT (by8 s 0) / 16)) (Lib.accHi (Lib.firstT (by8 s 0) / 16)) with | none => false | some k => Lib.validD (s.data.toList.drop k)) = _
    cases hq : Lib.checkN s.size (by8 s 1) (by8 s 2) (by8 s 3) (Lib.firstT (by8 s 0) % 8) (Lib.accLo (Lib.firstT (by8 s 0) / 16)) (Lib.accHi (Lib.firstT (by8 s 0) / 16)) with
    | none =>
      have e : wideN s = 0 := by unfold wideN; rw [if_neg h1, hq]; rfl
      rw [e, if_pos rfl]
    | some k =>
      have e : wideN s = k := by unfold wideN; rw [if_neg h1, hq]; rfl
      have := (check_le hq).2
      rw [e, if_neg (by omega)]

end Go.Proofs.YthffcdahjcpdfaaGreatDoor.Q

