import Derived.Test.YtgnichmemkglkaaDoorYf
import Derived.Test.YtgnichmemkglkaaDoorKVv
namespace Go.Proofs.YtgnichmemkglkaaDoor
open Go.RowKit
set_option linter.unusedVariables false
set_option linter.unusedSimpArgs false

/-- A byte that a right text may have. -/
def okC (n : Nat) : Bool := decide (32 ≤ n) && decide (n ≠ 127)
def plainB (s : ByteArray) : Bool := s.data.toList.all fun c => okC c.toNat
def rightB (s : ByteArray) : Bool := plainB s && Lib.validD s.data.toList
def keyB (s : ByteArray) : Bool := decide (0 < s.size) && decide (s.size ≤ 64) && rightB s
theorem by8_at (s : ByteArray) (i : Nat) (hi : i < s.data.toList.length) : K.V.by8 s i = (s.data.toList[i]).toNat := by
  unfold K.V.by8
  rw [List.getD_eq_getElem?_getD, List.getElem?_eq_getElem hi]
  rfl
theorem plain_iff (s : ByteArray) : plainB s = true ↔ ∀ i, i < s.size → okC (K.V.by8 s i) = true := by
  unfold plainB
  have hz : s.data.toList.length = s.size := Array.length_toList
  rw [List.all_eq_true]
  constructor
  · intro h i hi
    rw [by8_at s i (by omega)]
    exact h _ (List.getElem_mem _)
  · intro h c hc
    obtain ⟨i, hi, rfl⟩ := List.getElem_of_mem hc
    have := h i (by omega)
    rw [by8_at s i hi] at this
    exact this
theorem plain_no {s : ByteArray} {i : Nat} (hi : i < s.size) (h : okC (K.V.by8 s i) = false) : plainB s = false := by
  cases hp : plainB s with
  | false => rfl
  | true => rw [(plain_iff s).1 hp i hi] at h; cases h
theorem okC_no {n : Nat} (h : okC n = false) (h1 : ¬ (n : Int) < 32) : (n : Int) = 127 := by
  unfold okC at h
  simp at h
  omega
theorem okC_yes {n : Nat} (h : okC n = true) : ¬ (n : Int) < 32 ∧ ¬ (n : Int) = 127 := by
  unfold okC at h
  simp at h
  omega
set_option maxRecDepth 100000 in
set_option maxHeartbeats 1000000 in
theorem wright_any (s : ByteArray) (w : World) (hs : s.size ≤ 140737488355328) (hT : K.V.Tabs w) :
    Calls Tryd.prog 62 #[.string s] w fun e w' => e = .returned (.bool (rightB s)) ∧ Below w.heap.size w w' := by
  have HV := Hid.mk' (K.V.valid_any s w (by omega) hT)
  have HP : Hid (plainB s = true → rightB s = Lib.validD s.data.toList) := fun h => by unfold rightB; rw [h]; rfl
  have HF : Hid (plainB s = false → rightB s = false) := fun h => by unfold rightB; rw [h]; rfl
  have HI := Hid.mk' (plain_iff s)
  have HN : Hid (∀ i, i < s.size → okC (K.V.by8 s i) = false → plainB s = false) := fun i h1 h2 => plain_no h1 h2
  have HX : Hid (∀ k, k < s.size → ∀ wx, (Instr.index 9 (.string s) (.int .i64 (k : Int))).run Tryd.prog wx = .ok (.int .u8 (K.V.by8 s k : Int)) wx) := fun k h wx => K.V.index_str s k wx h
  have HB := Hid.mk' (K.V.by8_lt s)
  generalize Lib.validD s.data.toList = D at *
  generalize rightB s = R at *
  clear hT
  go_enter Tryd.func62, Tryd.ntmps62
  go_wp2
  go_loopw [6] (fun i wr => ∃ k : Nat, k ≤ s.size ∧ i = .int .i64 k ∧ wr = w ∧ Hid (∀ j, j < k → okC (K.V.by8 s j) = true)) (fun i _ => s.size - (intOf i).toNat)
  case atStart => exact ⟨0, by omega, rfl, rfl, fun j hj => by omega⟩
  case round =>
    obtain ⟨k, hk, rfl, rfl, HK⟩ := hrel
    by_cases hks : k < s.size
    · have hks' : (k : Int) < (s.size : Int) := by omega
      have ix := HX.out k hks
      have hb := HB.out k
      cases hok : okC (K.V.by8 s k) with
      | true =>
        obtain ⟨o1, o2⟩ := okC_yes hok
        have HK2 : Hid (∀ j, j < k + 1 → okC (K.V.by8 s j) = true) := fun j hj => by
          rcases Nat.lt_or_ge j k with h | h
          · exact HK.out j h
          · obtain rfl : j = k := by omega
            exact hok
        clear hok HK
        generalize K.V.by8 s k = c at *
        go_wp2
        go_roundw
        case rel => exact ⟨k + 1, by omega, by go_num, by trivial, HK2⟩
        case measure => simp [intOf]; omega
      | false =>
        have HR : Hid (R = false) := HF.out (HN.out k hks hok)
        have ho := @okC_no _ hok
        clear hok HK HF HN HP
        generalize K.V.by8 s k = c at *
        by_cases h1 : (c : Int) < 32
        · go_wp2
          go_ret
          exact ⟨by rw [HR.out]; rfl, Below.refl _ _⟩
        · have h2 := ho h1
          clear ho
          go_wp2
          go_ret
          exact ⟨by rw [HR.out]; rfl, Below.refl _ _⟩
    · have hks' : ¬ (k : Int) < (s.size : Int) := by omega
      have HR : Hid (R = D) := HP.out (HI.out.2 fun j hj => HK.out j (by omega))
      clear HK HF HN HP HX
      go_wp2_with fail
      refine HV.out.mono ?_
      rintro e w1 ⟨rfl, b1⟩
      skip
      go_wp2
      go_ret
      exact ⟨by rw [HR.out]; rfl, b1⟩
set_option maxRecDepth 100000 in
set_option maxHeartbeats 1000000 in
theorem rright_any (s : ByteArray) (w : World) (hs : s.size ≤ 140737488355328) :
    Calls Tryd.prog 49 #[.string s] w fun e w' => e = .returned (.bool (rightB s)) ∧ w' = w := by
  have HV := Hid.mk' (K.V.utf8_any s w hs)
  have HP : Hid (plainB s = true → rightB s = Lib.validD s.data.toList) := fun h => by unfold rightB; rw [h]; rfl
  have HF : Hid (plainB s = false → rightB s = false) := fun h => by unfold rightB; rw [h]; rfl
  have HI := Hid.mk' (plain_iff s)
  have HN : Hid (∀ i, i < s.size → okC (K.V.by8 s i) = false → plainB s = false) := fun i h1 h2 => plain_no h1 h2
  have HX : Hid (∀ k, k < s.size → ∀ wx, (Instr.index 9 (.string s) (.int .i64 (k : Int))).run Tryd.prog wx = .ok (.int .u8 (K.V.by8 s k : Int)) wx) := fun k h wx => K.V.index_str s k wx h
  have HB := Hid.mk' (K.V.by8_lt s)
  generalize Lib.validD s.data.toList = D at *
  generalize rightB s = R at *
  skip
  go_enter Tryd.func49, Tryd.ntmps49
  go_wp2
  go_loopw [3] (fun i wr => ∃ k : Nat, k ≤ s.size ∧ i = .int .i64 k ∧ wr = w ∧ Hid (∀ j, j < k → okC (K.V.by8 s j) = true)) (fun i _ => s.size - (intOf i).toNat)
  case atStart => exact ⟨0, by omega, rfl, rfl, fun j hj => by omega⟩
  case round =>
    obtain ⟨k, hk, rfl, rfl, HK⟩ := hrel
    by_cases hks : k < s.size
    · have hks' : (k : Int) < (s.size : Int) := by omega
      have ix := HX.out k hks
      have hb := HB.out k
      cases hok : okC (K.V.by8 s k) with
      | true =>
        obtain ⟨o1, o2⟩ := okC_yes hok
        have HK2 : Hid (∀ j, j < k + 1 → okC (K.V.by8 s j) = true) := fun j hj => by
          rcases Nat.lt_or_ge j k with h | h
          · exact HK.out j h
          · obtain rfl : j = k := by omega
            exact hok
        clear hok HK
        generalize K.V.by8 s k = c at *
        go_wp2
        go_roundw
        case rel => exact ⟨k + 1, by omega, by go_num, by trivial, HK2⟩
        case measure => simp [intOf]; omega
      | false =>
        have HR : Hid (R = false) := HF.out (HN.out k hks hok)
        have ho := @okC_no _ hok
        clear hok HK HF HN HP
        generalize K.V.by8 s k = c at *
        by_cases h1 : (c : Int) < 32
        · go_wp2
          go_ret
          exact ⟨by rw [HR.out]; rfl, rfl⟩
        · have h2 := ho h1
          clear ho
          go_wp2
          go_ret
          exact ⟨by rw [HR.out]; rfl, rfl⟩
    · have hks' : ¬ (k : Int) < (s.size : Int) := by omega
      have HR : Hid (R = D) := HP.out (HI.out.2 fun j hj => HK.out j (by omega))
      clear HK HF HN HP HX
      go_wp2_with fail
      refine HV.out.mono ?_
      rintro e w1 ⟨rfl, b1⟩
      subst b1
      go_wp2
      go_ret
      exact ⟨by rw [HR.out]; rfl, rfl⟩
set_option maxRecDepth 100000 in
set_option maxHeartbeats 1000000 in
theorem wkey_any (s : ByteArray) (w : World) (hT : K.V.Tabs w) :
    Calls Tryd.prog 48 #[.string s] w fun e w' => e = .returned (.bool (keyB s)) ∧ Below w.heap.size w w' := by
  have H := Hid.mk' (fun (hq : s.size ≤ 64) => wright_any s w (by omega) hT)
  have HK : Hid (keyB s = (decide (0 < s.size) && decide (s.size ≤ 64) && rightB s)) := rfl
  generalize rightB s = R at *
  generalize keyB s = B at *
  clear hT
  by_cases h0 : s.size = 0
  · have HB : Hid (B = false) := by show _ = _; rw [HK.out, h0]; rfl
    have e0 : s.toList.isEmpty = true := by
      rw [ByteArray.toList_eq, show s.data.toList = [] from List.eq_nil_of_length_eq_zero (by rw [Array.length_toList]; exact h0)]
      rfl
    clear H HK
    go_enter Tryd.func48, Tryd.ntmps48
    go_wp2
    go_ret
    exact ⟨by rw [HB.out]; rfl, Below.refl _ _⟩
  · have h0' : (1 : Int) ≤ (s.size : Int) := by omega
    have e0 : s.toList.isEmpty = false := K.V.not_empty s (by omega)
    by_cases h1 : s.size ≤ 64
    · have h1' : (s.size : Int) ≤ 64 := by omega
      have HB : Hid (B = R) := by show _ = _; rw [HK.out, decide_eq_true (show 0 < s.size by omega), decide_eq_true h1]; rfl
      clear HK
      go_enter Tryd.func48, Tryd.ntmps48
      go_wp2_with fail
      refine (H.out h1).mono ?_
      rintro e w1 ⟨rfl, b1⟩
      skip
      go_wp2
      go_ret
      exact ⟨by rw [HB.out]; rfl, b1⟩
    · have h1' : ¬ (s.size : Int) ≤ 64 := by omega
      have HB : Hid (B = false) := by show _ = _; rw [HK.out, decide_eq_false h1, Bool.and_false]; rfl
      clear H HK
      go_enter Tryd.func48, Tryd.ntmps48
      go_wp2
      go_ret
      exact ⟨by rw [HB.out]; rfl, Below.refl _ _⟩
set_option maxRecDepth 100000 in
set_option maxHeartbeats 1000000 in
theorem rkey_any (s : ByteArray) (w : World) :
    Calls Tryd.prog 33 #[.string s] w fun e w' => e = .returned (.bool (keyB s)) ∧ w' = w := by
  have H := Hid.mk' (fun (hq : s.size ≤ 64) => rright_any s w (by omega))
  have HK : Hid (keyB s = (decide (0 < s.size) && decide (s.size ≤ 64) && rightB s)) := rfl
  generalize rightB s = R at *
  generalize keyB s = B at *
  skip
  by_cases h0 : s.size = 0
  · have HB : Hid (B = false) := by show _ = _; rw [HK.out, h0]; rfl
    have e0 : s.toList.isEmpty = true := by
      rw [ByteArray.toList_eq, show s.data.toList = [] from List.eq_nil_of_length_eq_zero (by rw [Array.length_toList]; exact h0)]
      rfl
    clear H HK
    go_enter Tryd.func33, Tryd.ntmps33
    go_wp2
    go_ret
    exact ⟨by rw [HB.out]; rfl, rfl⟩
  · have h0' : (1 : Int) ≤ (s.size : Int) := by omega
    have e0 : s.toList.isEmpty = false := K.V.not_empty s (by omega)
    by_cases h1 : s.size ≤ 64
    · have h1' : (s.size : Int) ≤ 64 := by omega
      have HB : Hid (B = R) := by show _ = _; rw [HK.out, decide_eq_true (show 0 < s.size by omega), decide_eq_true h1]; rfl
      clear HK
      go_enter Tryd.func33, Tryd.ntmps33
      go_wp2_with fail
      refine (H.out h1).mono ?_
      rintro e w1 ⟨rfl, b1⟩
      subst b1
      go_wp2
      go_ret
      exact ⟨by rw [HB.out]; rfl, rfl⟩
    · have h1' : ¬ (s.size : Int) ≤ 64 := by omega
      have HB : Hid (B = false) := by show _ = _; rw [HK.out, decide_eq_false h1, Bool.and_false]; rfl
      clear H HK
      go_enter Tryd.func33, Tryd.ntmps33
      go_wp2
      go_ret
      exact ⟨by rw [HB.out]; rfl, rfl⟩
end Go.Proofs.YtgnichmemkglkaaDoor
