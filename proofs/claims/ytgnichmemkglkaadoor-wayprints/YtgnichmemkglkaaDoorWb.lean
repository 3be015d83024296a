import Derived.Test.YtgnichmemkglkaaDoorWa
namespace Go.Proofs.YtgnichmemkglkaaDoor
open Go.RowKit
set_option linter.unusedVariables false
set_option linter.unusedSimpArgs false

/-- Whether all bytes are such. -/
def plS (s : ByteArray) : Bool := s.data.toList.all fun c => plC c.toNat
/-- How many such bytes a text begins with. -/
def plN (s : ByteArray) : Nat := (s.data.toList.takeWhile fun c => plC c.toNat).length
theorem plS_iff (s : ByteArray) : plS s = true ↔ ∀ i, i < s.size → plC (K.V.by8 s i) = true := by
  unfold plS
  have hz : s.data.toList.length = s.size := Array.length_toList
  rw [List.all_eq_true]
  constructor
  · intro h i hi
    rw [by8_at s i (by omega)]
    exact h _ (List.getElem_mem _)
  · intro h c hc
    obtain ⟨i, hi, rfl⟩ := List.getElem_of_mem hc
    have := h i (by omega)
    rw [by8_at s i hi] at this
    exact this
theorem tw_at {f : UInt8 → Bool} : ∀ {l : List UInt8} {k : Nat}, k < l.length → (∀ j (h : j < l.length), j < k → f l[j] = true) → (∀ h : k < l.length, f l[k] = false) → (l.takeWhile f).length = k
  | [], k, h, _, _ => by simp at h
  | a :: l, 0, _, _, h => by
    have := h (by simp)
    simp at this
    simp [List.takeWhile_cons, this]
  | a :: l, k + 1, hk, h1, h2 => by
    have h0 := h1 0 (by simp) (by omega)
    simp at h0
    have ih := tw_at (f := f) (l := l) (k := k) (by simpa using hk) (fun j hj hjk => by have := h1 (j + 1) (by simpa using hj) (by omega); simpa using this) (fun hh => by have := h2 (by simpa using hh); simpa using this)
    simp [List.takeWhile_cons, h0, ih]
theorem tw_all {f : UInt8 → Bool} : ∀ l : List UInt8, (∀ x ∈ l, f x = true) → (l.takeWhile f).length = l.length
  | [], _ => rfl
  | a :: l, h => by
    have h0 := h a (by simp)
    have ih := tw_all (f := f) l fun x hx => h x (by simp [hx])
    simp [List.takeWhile_cons, h0, ih]
theorem plN_at {s : ByteArray} {k : Nat} (hk : k < s.size) (h1 : ∀ j, j < k → plC (K.V.by8 s j) = true) (h2 : plC (K.V.by8 s k) = false) : plN s = k := by
  have hz : s.data.toList.length = s.size := Array.length_toList
  refine tw_at (by omega) (fun j hj hjk => ?_) (fun h => ?_)
  · have := h1 j hjk
    rw [by8_at s j hj] at this
    exact this
  · rw [by8_at s k h] at h2
    exact h2
theorem plN_all {s : ByteArray} (h : plS s = true) : plN s = s.size := by
  have hz : s.data.toList.length = s.size := Array.length_toList
  unfold plN
  unfold plS at h
  rw [← hz]
  exact tw_all _ fun x hx => List.all_eq_true.1 h x hx
theorem plS_no {s : ByteArray} {k : Nat} (hk : k < s.size) (h : plC (K.V.by8 s k) = false) : plS s = false := by
  cases hp : plS s with
  | false => rfl
  | true => rw [(plS_iff s).1 hp k hk] at h; cases h
set_option maxRecDepth 100000 in
set_option maxHeartbeats 1000000 in
theorem psize_any (s : ByteArray) (w : World) (hs : s.size ≤ 140737488355328) :
    Calls Tryd.prog 25 #[.string s] w fun e w' => e = .returned (.int .i64 (plN s : Int)) ∧ w' = w := by
  have HX : Hid (∀ k, k < s.size → ∀ wx, (Instr.index 9 (.string s) (.int .i64 (k : Int))).run Tryd.prog wx = .ok (.int .u8 (K.V.by8 s k : Int)) wx) := fun k h wx => K.V.index_str s k wx h
  have HB := Hid.mk' (K.V.by8_lt s)
  have HC : Hid (∀ (c : Nat) (wx : World), c < 256 → Calls Tryd.prog 40 #[.int .u8 (c : Int)] wx fun e w' => e = .returned (.bool (plC c)) ∧ w' = wx) := fun c wx h => plain_any c wx h
  have BADF : Hid (∀ k, k < s.size → (∀ j, j < k → plC (K.V.by8 s j) = true) → plC (K.V.by8 s k) = false → (plN s : Int) = (k : Int)) := fun k h1 h2 h3 => by rw [plN_at h1 h2 h3]
  have GOODF : Hid ((∀ j, j < s.size → plC (K.V.by8 s j) = true) → (plN s : Int) = (s.size : Int)) := fun h => by rw [plN_all ((plS_iff s).2 h)]
  skip
  generalize (plN s : Int) = R at *
  go_enter Tryd.func25, Tryd.ntmps25
  go_wp2
  go_loopw [6] (fun i wr => ∃ k : Nat, k ≤ s.size ∧ i = .int .i64 k ∧ wr = w ∧ Hid (∀ j, j < k → plC (K.V.by8 s j) = true)) (fun i _ => s.size - (intOf i).toNat)
  case atStart => exact ⟨0, by omega, rfl, rfl, fun j hj => by omega⟩
  case round =>
    obtain ⟨k, hk, rfl, rfl, HK⟩ := hrel
    by_cases hks : k < s.size
    · have hks' : (k : Int) < (s.size : Int) := by omega
      have ix := HX.out k hks
      have HCC := Hid.mk' (HC.out (K.V.by8 s k) wr (HB.out k))
      cases hok : plC (K.V.by8 s k) with
      | true =>
        have HK2 : Hid (∀ j, j < k + 1 → plC (K.V.by8 s j) = true) := fun j hj => by
          rcases Nat.lt_or_ge j k with h | h
          · exact HK.out j h
          · obtain rfl : j = k := by omega
            exact hok
        rw [hok] at HCC
        clear hok HK
        generalize K.V.by8 s k = c at *
        go_wp2_with fail
        refine HCC.out.mono ?_
        rintro e _ ⟨rfl, rfl⟩
        go_wp2
        go_roundw
        case rel => exact ⟨k + 1, by omega, by go_num, by trivial, HK2⟩
        case measure => simp [intOf]; omega
      | false =>
        have HR := Hid.mk' (BADF.out k hks (fun j hj => HK.out j hj) hok)
        rw [hok] at HCC
        clear hok HK BADF GOODF
        generalize K.V.by8 s k = c at *
        go_wp2_with fail
        refine HCC.out.mono ?_
        rintro e _ ⟨rfl, rfl⟩
        go_wp2
        go_ret
        exact ⟨by rw [HR.out]; rfl, rfl⟩
    · have hks' : ¬ (k : Int) < (s.size : Int) := by omega
      have HR := Hid.mk' (GOODF.out (fun j hj => HK.out j (by omega)))
      clear HK BADF GOODF
      go_wp2
      go_ret
      exact ⟨by rw [HR.out]; rfl, rfl⟩
set_option maxRecDepth 100000 in
set_option maxHeartbeats 1000000 in
theorem rplain_any (s : ByteArray) (w : World) (hs : s.size ≤ 140737488355328) :
    Calls Tryd.prog 16 #[.string s] w fun e w' => e = .returned (.bool (plS s && decide (0 < s.size))) ∧ w' = w := by
  have HX : Hid (∀ k, k < s.size → ∀ wx, (Instr.index 9 (.string s) (.int .i64 (k : Int))).run Tryd.prog wx = .ok (.int .u8 (K.V.by8 s k : Int)) wx) := fun k h wx => K.V.index_str s k wx h
  have HB := Hid.mk' (K.V.by8_lt s)
  have HC : Hid (∀ (c : Nat) (wx : World), c < 256 → Calls Tryd.prog 28 #[.int .u8 (c : Int)] wx fun e w' => e = .returned (.bool (plC c)) ∧ w' = wx) := fun c wx h => rplainC_any c wx h
  have BADF : Hid (∀ k, k < s.size → (∀ j, j < k → plC (K.V.by8 s j) = true) → plC (K.V.by8 s k) = false → (plS s && decide (0 < s.size)) = false) := fun k h1 h2 h3 => by rw [plS_no h1 h3]; rfl
  have GOODF : Hid ((∀ j, j < s.size → plC (K.V.by8 s j) = true) → (plS s && decide (0 < s.size)) = decide (0 < s.size)) := fun h => by rw [(plS_iff s).2 h]; rfl
  skip
  generalize (plS s && decide (0 < s.size)) = R at *
  go_enter Tryd.func16, Tryd.ntmps16
  go_wp2
  go_loopw [3] (fun i wr => ∃ k : Nat, k ≤ s.size ∧ i = .int .i64 k ∧ wr = w ∧ Hid (∀ j, j < k → plC (K.V.by8 s j) = true)) (fun i _ => s.size - (intOf i).toNat)
  case atStart => exact ⟨0, by omega, rfl, rfl, fun j hj => by omega⟩
  case round =>
    obtain ⟨k, hk, rfl, rfl, HK⟩ := hrel
    by_cases hks : k < s.size
    · have hks' : (k : Int) < (s.size : Int) := by omega
      have ix := HX.out k hks
      have HCC := Hid.mk' (HC.out (K.V.by8 s k) wr (HB.out k))
      cases hok : plC (K.V.by8 s k) with
      | true =>
        have HK2 : Hid (∀ j, j < k + 1 → plC (K.V.by8 s j) = true) := fun j hj => by
          rcases Nat.lt_or_ge j k with h | h
          · exact HK.out j h
          · obtain rfl : j = k := by omega
            exact hok
        rw [hok] at HCC
        clear hok HK
        generalize K.V.by8 s k = c at *
        go_wp2_with fail
        refine HCC.out.mono ?_
        rintro e _ ⟨rfl, rfl⟩
        go_wp2
        go_roundw
        case rel => exact ⟨k + 1, by omega, by go_num, by trivial, HK2⟩
        case measure => simp [intOf]; omega
      | false =>
        have HR := Hid.mk' (BADF.out k hks (fun j hj => HK.out j hj) hok)
        rw [hok] at HCC
        clear hok HK BADF GOODF
        generalize K.V.by8 s k = c at *
        go_wp2_with fail
        refine HCC.out.mono ?_
        rintro e _ ⟨rfl, rfl⟩
        go_wp2
        go_ret
        exact ⟨by rw [HR.out]; rfl, rfl⟩
    · have hks' : ¬ (k : Int) < (s.size : Int) := by omega
      have HR := Hid.mk' (GOODF.out (fun j hj => HK.out j (by omega)))
      clear HK BADF GOODF
      by_cases h0 : s.size = 0
      · have e0 : s.toList.isEmpty = true := by
          rw [ByteArray.toList_eq, show s.data.toList = [] from List.eq_nil_of_length_eq_zero (by rw [Array.length_toList]; exact h0)]
          rfl
        have HR2 : Hid (R = false) := by show _ = _; rw [HR.out]; exact decide_eq_false (by omega)
        go_wp2
        go_ret
        exact ⟨by rw [HR2.out]; rfl, rfl⟩
      · have e0 : s.toList.isEmpty = false := K.V.not_empty s (by omega)
        have HR2 : Hid (R = true) := by show _ = _; rw [HR.out]; exact decide_eq_true (by omega)
        go_wp2
        go_ret
        exact ⟨by rw [HR2.out]; rfl, rfl⟩
end Go.Proofs.YtgnichmemkglkaaDoor
