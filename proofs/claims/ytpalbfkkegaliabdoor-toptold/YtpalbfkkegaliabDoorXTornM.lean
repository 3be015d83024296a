import Derived.Test.YtpalbfkkegaliabDoorXLin
namespace Go.Proofs.YtpalbfkkegaliabDoor.X
open Go.RowKit
set_option linter.unusedVariables false
set_option linter.unusedSimpArgs false

/-! ### A sum tells one byte that was turned -/
theorem nibs_top : ∀ x : Fin 16, (nibs.getD x.val 0).toNat / 268435456 = 0 → x.val = 0 := by decide
theorem half_zero (x : UInt32) (h : half x = 0) : x = 0 := by
  have hx := x.toNat_lt
  unfold half at h
  have h1 : x >>> 4 = nib x := by
    have e : (x >>> 4 ^^^ nib x) ^^^ nib x = 0 ^^^ nib x := by rw [h]
    rw [UInt32.xor_assoc, UInt32.xor_self, UInt32.xor_zero, UInt32.zero_xor] at e
    exact e
  have h2 : (x >>> 4).toNat = x.toNat / 16 := by
    rw [UInt32.toNat_shiftRight, Nat.shiftRight_eq_div_pow]; rfl
  have h3 : (nib x).toNat / 268435456 = 0 := by rw [← h1, h2]; omega
  have h4 := nibs_top ⟨x.toNat % 16, by omega⟩ h3
  have h5 : nib x = 0 := by unfold nib; rw [show x.toNat % 16 = 0 from h4]; rfl
  rw [h5] at h1
  have h6 : x.toNat / 16 = 0 := by rw [← h2, h1]; rfl
  have h4' : x.toNat % 16 = 0 := h4
  exact UInt32.toNat_inj.1 (by show x.toNat = 0; omega)
theorem half_inj {a b : UInt32} (h : half a = half b) : a = b := by
  have e : half (a ^^^ b) = 0 := by rw [half_xor, h, UInt32.xor_self]
  have := half_zero _ e
  have e2 : (a ^^^ b) ^^^ b = 0 ^^^ b := by rw [this]
  rw [UInt32.xor_assoc, UInt32.xor_self, UInt32.xor_zero, UInt32.zero_xor] at e2
  exact e2
theorem xor_cancel {a b c : UInt32} (h : a ^^^ c = b ^^^ c) : a = b := by
  have e : (a ^^^ c) ^^^ c = (b ^^^ c) ^^^ c := by rw [h]
  rw [UInt32.xor_assoc, UInt32.xor_self, UInt32.xor_zero, UInt32.xor_assoc, UInt32.xor_self, UInt32.xor_zero] at e
  exact e
theorem step_inj {r s : UInt32} {v : UInt8} (h : crcStep r v = crcStep s v) : r = s := xor_cancel (half_inj (half_inj h))
theorem step_byte {r : UInt32} {u v : UInt8} (h : crcStep r u = crcStep r v) : u = v := by
  have h1 := half_inj (half_inj h)
  rw [UInt32.xor_comm r, UInt32.xor_comm r] at h1
  have h2 := xor_cancel h1
  have h3 := congrArg UInt32.toNat h2
  have hu := u.toNat_lt
  have hv := v.toNat_lt
  rw [UInt32.toNat_ofNat', UInt32.toNat_ofNat', Nat.mod_eq_of_lt (by omega), Nat.mod_eq_of_lt (by omega)] at h3
  exact UInt8.toNat_inj.1 h3
theorem fold_inj (l : List UInt8) {r s : UInt32} (h : l.foldl crcStep r = l.foldl crcStep s) : r = s := by
  induction l generalizing r s with
  | nil => exact h
  | cons v l ih => exact step_inj (ih h)
theorem crc_set (l : List UInt8) (i : Nat) (v : UInt8) (hi : i < l.length) (h : crc (l.set i v) = crc l) : l.getD i 0 = v := by
  have h1 : crcReg (l.set i v) = crcReg l := xor_cancel h
  unfold crcReg at h1
  have e1 : l.set i v = l.take i ++ v :: l.drop (i + 1) := List.set_eq_take_append_cons_drop .. |>.trans (if_pos hi)
  have e2 : l = l.take i ++ l[i] :: l.drop (i + 1) := by
    conv => lhs; rw [← List.take_append_drop i l, List.drop_eq_getElem_cons hi]
  rw [e1] at h1
  conv at h1 => rhs; rw [e2]
  rw [List.foldl_append, List.foldl_append, List.foldl_cons, List.foldl_cons] at h1
  have h2 := step_byte (fold_inj _ h1)
  simp [List.getElem?_eq_getElem hi, h2]

/-! ### Four bytes, the highest first -/
def b4n (l : List UInt8) (k : Nat) : Nat := (l.getD k 0).toNat
def rd (l : List UInt8) (i : Nat) : Nat := b4n l i * 16777216 + b4n l (i + 1) * 65536 + b4n l (i + 2) * 256 + b4n l (i + 3)
def be (v : UInt32) : List UInt8 := [UInt8.ofNat (v.toNat / 16777216), UInt8.ofNat (v.toNat / 65536), UInt8.ofNat (v.toNat / 256), UInt8.ofNat v.toNat]
theorem be_len (v : UInt32) : (be v).length = 4 := rfl
theorem b4n_lt (l : List UInt8) (k : Nat) : b4n l k < 256 := by unfold b4n; exact UInt8.toNat_lt _
theorem rd_be (a : List UInt8) (v : UInt32) (c : List UInt8) : rd (a ++ (be v ++ c)) a.length = v.toNat := by
  have hv := v.toNat_lt
  have e : ∀ k, k < 4 → b4n (a ++ (be v ++ c)) (a.length + k) = b4n (be v) k := fun k hk => by
    unfold b4n
    congr 1
    simp only [List.getD_eq_getElem?_getD]
    rw [List.getElem?_append_right (by omega), List.getElem?_append_left (by rw [be_len]; omega), show a.length + k - a.length = k by omega]
  unfold rd
  have e0 := e 0 (by omega)
  rw [Nat.add_zero] at e0
  rw [e0, e 1 (by omega), e 2 (by omega), e 3 (by omega)]
  simp only [b4n, be, List.getD_eq_getElem?_getD, List.getElem?_cons_zero, List.getElem?_cons_succ, Option.getD_some, UInt8.toNat_ofNat']
  omega
theorem b4n_set (l : List UInt8) (i k : Nat) (v : UInt8) (hi : i < l.length) : b4n (l.set i v) k = if k = i then v.toNat else b4n l k := by
  unfold b4n
  by_cases h : k = i
  · subst h
    rw [if_pos rfl]
    simp [List.getElem?_set_self hi]
  · rw [if_neg h]
    simp [List.getElem?_set_ne (fun e => h e.symm)]
theorem rd_other (l : List UInt8) (i j : Nat) (v : UInt8) (hi : i < l.length) (h : i < j ∨ j + 4 ≤ i) : rd (l.set i v) j = rd l j := by
  unfold rd
  rw [b4n_set l i _ v hi, b4n_set l i _ v hi, b4n_set l i _ v hi, b4n_set l i _ v hi, if_neg (by omega), if_neg (by omega), if_neg (by omega), if_neg (by omega)]
theorem rd_same (l : List UInt8) (i j : Nat) (v : UInt8) (hi : i < l.length) (h1 : j ≤ i) (h2 : i < j + 4) (h : rd (l.set i v) j = rd l j) : l.getD i 0 = v := by
  have key : b4n l i = v.toNat := by
    unfold rd at h
    rw [b4n_set l i _ v hi, b4n_set l i _ v hi, b4n_set l i _ v hi, b4n_set l i _ v hi] at h
    have q0 := b4n_lt l j
    have q1 := b4n_lt l (j + 1)
    have q2 := b4n_lt l (j + 2)
    have q3 := b4n_lt l (j + 3)
    have qv := v.toNat_lt
    rcases (show i = j ∨ i = j + 1 ∨ i = j + 2 ∨ i = j + 3 by omega) with rfl | rfl | rfl | rfl
    · rw [if_pos rfl, if_neg (by omega), if_neg (by omega), if_neg (by omega)] at h; omega
    · rw [if_neg (by omega), if_pos rfl, if_neg (by omega), if_neg (by omega)] at h; omega
    · rw [if_neg (by omega), if_neg (by omega), if_pos rfl, if_neg (by omega)] at h; omega
    · rw [if_neg (by omega), if_neg (by omega), if_neg (by omega), if_pos rfl] at h; omega
  exact UInt8.toNat_inj.1 key

/-! ### Frames -/
def head5 (k : UInt8) (n : Nat) : List UInt8 := k :: be (UInt32.ofNat n)
def head9 (k : UInt8) (n : Nat) : List UInt8 := head5 k n ++ be (crc (head5 k n))
def frame (k : UInt8) (b : List UInt8) : List UInt8 := head9 k b.length ++ b ++ be (crc (head9 k b.length ++ b))
theorem head5_len (k : UInt8) (n : Nat) : (head5 k n).length = 5 := rfl
theorem head9_len (k : UInt8) (n : Nat) : (head9 k n).length = 9 := rfl
theorem frame_len (k : UInt8) (b : List UInt8) : (frame k b).length = b.length + 13 := by
  unfold frame; rw [List.length_append, List.length_append, head9_len, be_len]; omega
/-- What 'Open' answers: 0, or why not. -/
def openE (x : List UInt8) : Nat :=
  if x.length < 9 then 20 else if rd x 5 ≠ (crc (x.take 5)).toNat then 23 else if 16777216 < rd x 1 then 6
  else if x.length < 9 + rd x 1 + 4 then 20 else if rd x (9 + rd x 1) ≠ (crc (x.take (9 + rd x 1))).toNat then 23 else 0

theorem frame_rd5 (k : UInt8) (b t : List UInt8) : rd (frame k b ++ t) 5 = (crc ((frame k b ++ t).take 5)).toNat := by
  have e : frame k b ++ t = head5 k b.length ++ (be (crc (head5 k b.length)) ++ (b ++ be (crc (head9 k b.length ++ b)) ++ t)) := by
    unfold frame head9; simp [List.append_assoc]
  have e2 : (frame k b ++ t).take 5 = head5 k b.length := by
    rw [e, List.take_append_of_le_length (by rw [head5_len]; omega)]
    exact List.take_of_length_le (by rw [head5_len]; omega)
  rw [e2, e]
  exact rd_be (head5 k b.length) _ _
theorem frame_rd1 (k : UInt8) (b t : List UInt8) (h : b.length ≤ 16777216) : rd (frame k b ++ t) 1 = b.length := by
  have e : frame k b ++ t = [k] ++ (be (UInt32.ofNat b.length) ++ (be (crc (head5 k b.length)) ++ (b ++ be (crc (head9 k b.length ++ b)) ++ t))) := by
    unfold frame head9 head5; simp [List.append_assoc]
  rw [e]
  have := rd_be [k] (UInt32.ofNat b.length) (be (crc (head5 k b.length)) ++ (b ++ be (crc (head9 k b.length ++ b)) ++ t))
  rw [UInt32.toNat_ofNat', Nat.mod_eq_of_lt (by omega)] at this
  exact this
theorem frame_rdE (k : UInt8) (b t : List UInt8) : rd (frame k b ++ t) (9 + b.length) = (crc ((frame k b ++ t).take (9 + b.length))).toNat := by
  have hl : (head9 k b.length ++ b).length = 9 + b.length := by rw [List.length_append, head9_len]
  have e : frame k b ++ t = (head9 k b.length ++ b) ++ (be (crc (head9 k b.length ++ b)) ++ t) := by
    unfold frame; simp [List.append_assoc]
  have e2 : (frame k b ++ t).take (9 + b.length) = head9 k b.length ++ b := by
    rw [e, List.take_append_of_le_length (by omega)]
    exact List.take_of_length_le (by omega)
  rw [e2, e, ← hl]
  exact rd_be _ _ _
theorem open_frame (k : UInt8) (b t : List UInt8) (h : b.length ≤ 16777216) : openE (frame k b ++ t) = 0 := by
  have hl : (frame k b ++ t).length = b.length + 13 + t.length := by rw [List.length_append, frame_len]
  unfold openE
  rw [frame_rd1 k b t h, if_neg (by omega), if_neg (fun e => e (frame_rd5 k b t)), if_neg (by omega), if_neg (by omega), if_neg (fun e => e (frame_rdE k b t))]
theorem b4n_take (l : List UInt8) (n k : Nat) (h : k < n) : b4n (l.take n) k = b4n l k := by
  unfold b4n; simp [List.getElem?_take, h]
theorem rd_take (l : List UInt8) (n i : Nat) (h : i + 4 ≤ n) : rd (l.take n) i = rd l i := by
  unfold rd; rw [b4n_take _ _ _ (by omega), b4n_take _ _ _ (by omega), b4n_take _ _ _ (by omega), b4n_take _ _ _ (by omega)]
theorem open_cut (k : UInt8) (b : List UInt8) (n : Nat) (h : b.length ≤ 16777216) (hn : n < (frame k b).length) : openE ((frame k b).take n) ≠ 0 := by
  have hl : ((frame k b).take n).length = n := by rw [List.length_take]; omega
  have e := frame_rd1 k b [] h
  rw [List.append_nil] at e
  have hf := frame_len k b
  unfold openE
  rw [hl]
  by_cases h9 : n < 9
  · rw [if_pos h9]; omega
  · rw [if_neg h9, rd_take _ _ 1 (by omega), e]
    split
    · omega
    · rw [if_neg (by omega), if_pos (by omega)]; omega
theorem open_torn (k : UInt8) (b : List UInt8) (i : Nat) (v : UInt8) (h : b.length ≤ 16777216) (hi : i < (frame k b).length) (ho : openE ((frame k b).set i v) = 0) : (frame k b).getD i 0 = v := by
  have e5 := frame_rd5 k b []
  have e1 := frame_rd1 k b [] h
  have eE := frame_rdE k b []
  rw [List.append_nil] at e5 e1 eE
  have hf := frame_len k b
  generalize frame k b = F at *
  unfold openE at ho
  rw [List.length_set] at ho
  rw [if_neg (by omega)] at ho
  by_cases c5 : rd (F.set i v) 5 = (crc ((F.set i v).take 5)).toNat
  · rw [if_neg (fun e => e c5)] at ho
    by_cases i5 : i < 5
    · rw [rd_other F i 5 v hi (by omega), e5, List.take_set] at c5
      have := crc_set (F.take 5) i v (by rw [List.length_take]; omega) (UInt32.toNat_inj.1 c5.symm)
      rw [← this]
      simp [List.getElem?_take, i5]
    · by_cases i9 : i < 9
      · have et : (F.set i v).take 5 = F.take 5 := by rw [List.take_set, List.set_eq_of_length_le (by rw [List.length_take]; omega)]
        rw [et, ← e5] at c5
        exact rd_same F i 5 v hi (by omega) (by omega) c5
      · have e1' : rd (F.set i v) 1 = b.length := by rw [rd_other F i 1 v hi (by omega)]; exact e1
        rw [e1', if_neg (by omega), if_neg (by omega)] at ho
        by_cases cE : rd (F.set i v) (9 + b.length) = (crc ((F.set i v).take (9 + b.length))).toNat
        · by_cases iE : i < 9 + b.length
          · rw [rd_other F i _ v hi (by omega), eE, List.take_set] at cE
            have := crc_set (F.take (9 + b.length)) i v (by rw [List.length_take]; omega) (UInt32.toNat_inj.1 cE.symm)
            rw [← this]
            simp [List.getElem?_take, iE]
          · have et : (F.set i v).take (9 + b.length) = F.take (9 + b.length) := by rw [List.take_set, List.set_eq_of_length_le (by rw [List.length_take]; omega)]
            rw [et, ← eE] at cE
            exact rd_same F i _ v hi (by omega) (by omega) cE
        · rw [if_pos cE] at ho; omega
  · rw [if_pos c5] at ho; omega
end Go.Proofs.YtpalbfkkegaliabDoor.X
