import Derived.Test.YtepkanibcljdkaaDoorGKVe
import Derived.Ground.NamesProg
import Derived.Shelf.Unicode.ValidAny
import Derived.Test.YtepkanibcljdkaaDoorGYf
namespace Go.Proofs.YtepkanibcljdkaaDoor.K
open Go.RowKit Go.Shelf
set_option linter.unusedVariables false
set_option linter.unusedSimpArgs false
namespace V

def laysValid_ren : Go.Shelf.Ren := ⟨fun | 196 => 44 | 259 => 56 | n => n, fun | 9 => 9 | 4 => 4 | 3 => 3 | 5 => 5 | 12 => 12 | 119 => 76 | 0 => 0 | 46 => 80 | 139 => 79 | 138 => 78 | 53 => 73 | n => n, fun | 3 => 3 | 4 => 4 | n => n⟩
theorem laysValid : Lays.n196 Tryd.prog laysValid_ren := {
  mixed := by kernel_rfl
  f196 := Tryd.func44.trans (congrArg some (by kernel_rfl))
  f259 := Tryd.func56.trans (congrArg some (by kernel_rfl))
  t0 := Tryd.underlying0
  a0 := Tryd.isAgg0
  z0 := Tryd.sizeOf0
  v0 := Tryd.zeroValue0
  t3 := Tryd.underlying3
  a3 := Tryd.isAgg3
  z3 := Tryd.sizeOf3
  v3 := Tryd.zeroValue3
  t4 := Tryd.underlying4
  a4 := Tryd.isAgg4
  z4 := Tryd.sizeOf4
  v4 := Tryd.zeroValue4
  t5 := Tryd.underlying5
  a5 := Tryd.isAgg5
  z5 := Tryd.sizeOf5
  v5 := Tryd.zeroValue5
  t9 := Tryd.underlying9
  a9 := Tryd.isAgg9
  z9 := Tryd.sizeOf9
  v9 := Tryd.zeroValue9
  t12 := Tryd.underlying12
  a12 := Tryd.isAgg12
  z12 := Tryd.sizeOf12
  v12 := Tryd.zeroValue12
  t46 := Tryd.underlying80
  a46 := Tryd.isAgg80
  z46 := Tryd.sizeOf80
  v46 := Tryd.zeroValue80
  t53 := Tryd.underlying73
  a53 := Tryd.isAgg73
  z53 := Tryd.sizeOf73
  v53 := Tryd.zeroValue73
  t119 := Tryd.underlying76
  a119 := Tryd.isAgg76
  z119 := Tryd.sizeOf76
  t138 := Tryd.underlying78
  a138 := Tryd.isAgg78
  z138 := Tryd.sizeOf78
  v138 := Tryd.zeroValue78
  t139 := Tryd.underlying79
  a139 := Tryd.isAgg79
  z139 := Tryd.sizeOf79
  v139 := Tryd.zeroValue79
  g3 := by kernel_rfl
  g4 := by kernel_rfl }

def Tabs (w : World) : Prop := Lib.Utf8Tabs 3 4 w
theorem Tabs.below {w w' : World} (h : Tabs w) (hb : Below w.heap.size w w') : Tabs w' := Utf8Tabs_below h hb
theorem valid_any (s : ByteArray) (w : World) (hs : s.size ≤ 9223372036854775807) (hT : Tabs w) :
    Calls Tryd.prog 44 #[.string s] w fun e w' => e = .returned (.bool (Lib.validD s.data.toList)) ∧ Below w.heap.size w w' :=
  Any.utf8_ValidString laysValid s w hs hT
end V
end Go.Proofs.YtepkanibcljdkaaDoor.K

namespace Go.Proofs.YtepkanibcljdkaaDoor
open Go.RowKit
set_option linter.unusedVariables false
set_option linter.unusedSimpArgs false

/-- A byte that a right text may have. -/
def okC (n : Nat) : Bool := decide (32 ≤ n) && decide (n ≠ 127)
def plainB (s : ByteArray) : Bool := s.data.toList.all fun c => okC c.toNat
def rightB (s : ByteArray) : Bool := plainB s && Lib.validD s.data.toList
def keyB (s : ByteArray) : Bool := decide (0 < s.size) && decide (s.size ≤ 64) && rightB s
theorem by8_at (s : ByteArray) (i : Nat) (hi : i < s.data.toList.length) : K.V.by8 s i = (s.data.toList[i]).toNat := by
  unfold K.V.by8
  rw [List.getD_eq_getElem?_getD, List.getElem?_eq_getElem hi]
  rfl
theorem plain_iff (s : ByteArray) : plainB s = true ↔ ∀ i, i < s.size → okC (K.V.by8 s i) = true := by
  unfold plainB
  have hz : s.data.toList.length = s.size := Array.length_toList
  rw [List.all_eq_true]
  constructor
  · intro h i hi
    rw [by8_at s i (by omega)]
    exact h _ (List.getElem_mem _)
  · intro h c hc
    obtain ⟨i, hi, rfl⟩ := List.getElem_of_mem hc
    have := h i (by omega)
    rw [by8_at s i hi] at this
    exact this
theorem plain_no {s : ByteArray} {i : Nat} (hi : i < s.size) (h : okC (K.V.by8 s i) = false) : plainB s = false := by
  cases hp : plainB s with
  | false => rfl
  | true => rw [(plain_iff s).1 hp i hi] at h; cases h
theorem okC_no {n : Nat} (h : okC n = false) (h1 : ¬ (n : Int) < 32) : (n : Int) = 127 := by
  unfold okC at h
  simp at h
  omega
theorem okC_yes {n : Nat} (h : okC n = true) : ¬ (n : Int) < 32 ∧ ¬ (n : Int) = 127 := by
  unfold okC at h
  simp at h
  omega
set_option maxRecDepth 100000 in
set_option maxHeartbeats 1000000 in
theorem wright_any (s : ByteArray) (w : World) (hs : s.size ≤ 140737488355328) (hT : K.V.Tabs w) :
    Calls Tryd.prog 65 #[.string s] w fun e w' => e = .returned (.bool (rightB s)) ∧ Below w.heap.size w w' := by
  have HV := Hid.mk' (K.V.valid_any s w (by omega) hT)
  have HP : Hid (plainB s = true → rightB s = Lib.validD s.data.toList) := fun h => by unfold rightB; rw [h]; rfl
  have HF : Hid (plainB s = false → rightB s = false) := fun h => by unfold rightB; rw [h]; rfl
  have HI := Hid.mk' (plain_iff s)
  have HN : Hid (∀ i, i < s.size → okC (K.V.by8 s i) = false → plainB s = false) := fun i h1 h2 => plain_no h1 h2
  have HX : Hid (∀ k, k < s.size → ∀ wx, (Instr.index 9 (.string s) (.int .i64 (k : Int))).run Tryd.prog wx = .ok (.int .u8 (K.V.by8 s k : Int)) wx) := fun k h wx => K.V.index_str s k wx h
  have HB := Hid.mk' (K.V.by8_lt s)
  generalize Lib.validD s.data.toList = D at *
  generalize rightB s = R at *
  clear hT
  go_enter Tryd.func65, Tryd.ntmps65
  go_wp2
  go_loopw [6] (fun i wr => ∃ k : Nat, k ≤ s.size ∧ i = .int .i64 k ∧ wr = w ∧ Hid (∀ j, j < k → okC (K.V.by8 s j) = true)) (fun i _ => s.size - (intOf i).toNat)
  case atStart => exact ⟨0, by omega, rfl, rfl, fun j hj => by omega⟩
  case round =>
    obtain ⟨k, hk, rfl, rfl, HK⟩ := hrel
    by_cases hks : k < s.size
    · have hks' : (k : Int) < (s.size : Int) := by omega
      have ix := HX.out k hks
      have hb := HB.out k
      cases hok : okC (K.V.by8 s k) with
      | true =>
        obtain ⟨o1, o2⟩ := okC_yes hok
        have HK2 : Hid (∀ j, j < k + 1 → okC (K.V.by8 s j) = true) := fun j hj => by
          rcases Nat.lt_or_ge j k with h | h
          · exact HK.out j h
          · obtain rfl : j = k := by omega
            exact hok
        clear hok HK
        generalize K.V.by8 s k = c at *
        go_wp2
        go_roundw
        case rel => exact ⟨k + 1, by omega, by go_num, by trivial, HK2⟩
        case measure => simp [intOf]; omega
      | false =>
        have HR : Hid (R = false) := HF.out (HN.out k hks hok)
        have ho := @okC_no _ hok
        clear hok HK HF HN HP
        generalize K.V.by8 s k = c at *
        by_cases h1 : (c : Int) < 32
        · go_wp2
          go_ret
          exact ⟨by rw [HR.out]; rfl, Below.refl _ _⟩
        · have h2 := ho h1
          clear ho
          go_wp2
          go_ret
          exact ⟨by rw [HR.out]; rfl, Below.refl _ _⟩
    · have hks' : ¬ (k : Int) < (s.size : Int) := by omega
      have HR : Hid (R = D) := HP.out (HI.out.2 fun j hj => HK.out j (by omega))
      clear HK HF HN HP HX
      go_wp2_with fail
      refine HV.out.mono ?_
      rintro e w1 ⟨rfl, b1⟩
      skip
      go_wp2
      go_ret
      exact ⟨by rw [HR.out]; rfl, b1⟩
set_option maxRecDepth 100000 in
set_option maxHeartbeats 1000000 in
theorem rright_any (s : ByteArray) (w : World) (hs : s.size ≤ 140737488355328) :
    Calls Tryd.prog 52 #[.string s] w fun e w' => e = .returned (.bool (rightB s)) ∧ w' = w := by
  have HV := Hid.mk' (K.V.utf8_any s w hs)
  have HP : Hid (plainB s = true → rightB s = Lib.validD s.data.toList) := fun h => by unfold rightB; rw [h]; rfl
  have HF : Hid (plainB s = false → rightB s = false) := fun h => by unfold rightB; rw [h]; rfl
  have HI := Hid.mk' (plain_iff s)
  have HN : Hid (∀ i, i < s.size → okC (K.V.by8 s i) = false → plainB s = false) := fun i h1 h2 => plain_no h1 h2
  have HX : Hid (∀ k, k < s.size → ∀ wx, (Instr.index 9 (.string s) (.int .i64 (k : Int))).run Tryd.prog wx = .ok (.int .u8 (K.V.by8 s k : Int)) wx) := fun k h wx => K.V.index_str s k wx h
  have HB := Hid.mk' (K.V.by8_lt s)
  generalize Lib.validD s.data.toList = D at *
  generalize rightB s = R at *
  skip
  go_enter Tryd.func52, Tryd.ntmps52
  go_wp2
  go_loopw [3] (fun i wr => ∃ k : Nat, k ≤ s.size ∧ i = .int .i64 k ∧ wr = w ∧ Hid (∀ j, j < k → okC (K.V.by8 s j) = true)) (fun i _ => s.size - (intOf i).toNat)
  case atStart => exact ⟨0, by omega, rfl, rfl, fun j hj => by omega⟩
  case round =>
    obtain ⟨k, hk, rfl, rfl, HK⟩ := hrel
    by_cases hks : k < s.size
    · have hks' : (k : Int) < (s.size : Int) := by omega
      have ix := HX.out k hks
      have hb := HB.out k
      cases hok : okC (K.V.by8 s k) with
      | true =>
        obtain ⟨o1, o2⟩ := okC_yes hok
        have HK2 : Hid (∀ j, j < k + 1 → okC (K.V.by8 s j) = true) := fun j hj => by
          rcases Nat.lt_or_ge j k with h | h
          · exact HK.out j h
          · obtain rfl : j = k := by omega
            exact hok
        clear hok HK
        generalize K.V.by8 s k = c at *
        go_wp2
        go_roundw
        case rel => exact ⟨k + 1, by omega, by go_num, by trivial, HK2⟩
        case measure => simp [intOf]; omega
      | false =>
        have HR : Hid (R = false) := HF.out (HN.out k hks hok)
        have ho := @okC_no _ hok
        clear hok HK HF HN HP
        generalize K.V.by8 s k = c at *
        by_cases h1 : (c : Int) < 32
        · go_wp2
          go_ret
          exact ⟨by rw [HR.out]; rfl, rfl⟩
        · have h2 := ho h1
          clear ho
          go_wp2
          go_ret
          exact ⟨by rw [HR.out]; rfl, rfl⟩
    · have hks' : ¬ (k : Int) < (s.size : Int) := by omega
      have HR : Hid (R = D) := HP.out (HI.out.2 fun j hj => HK.out j (by omega))
      clear HK HF HN HP HX
      go_wp2_with fail
      refine HV.out.mono ?_
      rintro e w1 ⟨rfl, b1⟩
      subst b1
      go_wp2
      go_ret
      exact ⟨by rw [HR.out]; rfl, rfl⟩
set_option maxRecDepth 100000 in
set_option maxHeartbeats 1000000 in
theorem wkey_any (s : ByteArray) (w : World) (hT : K.V.Tabs w) :
    Calls Tryd.prog 51 #[.string s] w fun e w' => e = .returned (.bool (keyB s)) ∧ Below w.heap.size w w' := by
  have H := Hid.mk' (fun (hq : s.size ≤ 64) => wright_any s w (by omega) hT)
  have HK : Hid (keyB s = (decide (0 < s.size) && decide (s.size ≤ 64) && rightB s)) := rfl
  generalize rightB s = R at *
  generalize keyB s = B at *
  clear hT
  by_cases h0 : s.size = 0
  · have HB : Hid (B = false) := by show _ = _; rw [HK.out, h0]; rfl
    have e0 : s.toList.isEmpty = true := by
      rw [ByteArray.toList_eq, show s.data.toList = [] from List.eq_nil_of_length_eq_zero (by rw [Array.length_toList]; exact h0)]
      rfl
    clear H HK
    go_enter Tryd.func51, Tryd.ntmps51
    go_wp2
    go_ret
    exact ⟨by rw [HB.out]; rfl, Below.refl _ _⟩
  · have h0' : (1 : Int) ≤ (s.size : Int) := by omega
    have e0 : s.toList.isEmpty = false := K.V.not_empty s (by omega)
    by_cases h1 : s.size ≤ 64
    · have h1' : (s.size : Int) ≤ 64 := by omega
      have HB : Hid (B = R) := by show _ = _; rw [HK.out, decide_eq_true (show 0 < s.size by omega), decide_eq_true h1]; rfl
      clear HK
      go_enter Tryd.func51, Tryd.ntmps51
      go_wp2_with fail
      refine (H.out h1).mono ?_
      rintro e w1 ⟨rfl, b1⟩
      skip
      go_wp2
      go_ret
      exact ⟨by rw [HB.out]; rfl, b1⟩
    · have h1' : ¬ (s.size : Int) ≤ 64 := by omega
      have HB : Hid (B = false) := by show _ = _; rw [HK.out, decide_eq_false h1, Bool.and_false]; rfl
      clear H HK
      go_enter Tryd.func51, Tryd.ntmps51
      go_wp2
      go_ret
      exact ⟨by rw [HB.out]; rfl, Below.refl _ _⟩
set_option maxRecDepth 100000 in
set_option maxHeartbeats 1000000 in
theorem rkey_any (s : ByteArray) (w : World) :
    Calls Tryd.prog 36 #[.string s] w fun e w' => e = .returned (.bool (keyB s)) ∧ w' = w := by
  have H := Hid.mk' (fun (hq : s.size ≤ 64) => rright_any s w (by omega))
  have HK : Hid (keyB s = (decide (0 < s.size) && decide (s.size ≤ 64) && rightB s)) := rfl
  generalize rightB s = R at *
  generalize keyB s = B at *
  skip
  by_cases h0 : s.size = 0
  · have HB : Hid (B = false) := by show _ = _; rw [HK.out, h0]; rfl
    have e0 : s.toList.isEmpty = true := by
      rw [ByteArray.toList_eq, show s.data.toList = [] from List.eq_nil_of_length_eq_zero (by rw [Array.length_toList]; exact h0)]
      rfl
    clear H HK
    go_enter Tryd.func36, Tryd.ntmps36
    go_wp2
    go_ret
    exact ⟨by rw [HB.out]; rfl, rfl⟩
  · have h0' : (1 : Int) ≤ (s.size : Int) := by omega
    have e0 : s.toList.isEmpty = false := K.V.not_empty s (by omega)
    by_cases h1 : s.size ≤ 64
    · have h1' : (s.size : Int) ≤ 64 := by omega
      have HB : Hid (B = R) := by show _ = _; rw [HK.out, decide_eq_true (show 0 < s.size by omega), decide_eq_true h1]; rfl
      clear HK
      go_enter Tryd.func36, Tryd.ntmps36
      go_wp2_with fail
      refine (H.out h1).mono ?_
      rintro e w1 ⟨rfl, b1⟩
      subst b1
      go_wp2
      go_ret
      exact ⟨by rw [HB.out]; rfl, rfl⟩
    · have h1' : ¬ (s.size : Int) ≤ 64 := by omega
      have HB : Hid (B = false) := by show _ = _; rw [HK.out, decide_eq_false h1, Bool.and_false]; rfl
      clear H HK
      go_enter Tryd.func36, Tryd.ntmps36
      go_wp2
      go_ret
      exact ⟨by rw [HB.out]; rfl, rfl⟩
end Go.Proofs.YtepkanibcljdkaaDoor

namespace Go.Proofs.YtepkanibcljdkaaDoor
open Go.RowKit
set_option linter.unusedVariables false
set_option linter.unusedSimpArgs false

/-- A byte that needs no quotes in a way. -/
def plC (c : Nat) : Bool := decide (97 ≤ c) && decide (c ≤ 122) || decide (65 ≤ c) && decide (c ≤ 90) || decide (48 ≤ c) && decide (c ≤ 57) || decide (c = 95) || decide (c = 45)
set_option maxRecDepth 100000 in
set_option maxHeartbeats 2000000 in
theorem plain_any (c : Nat) (w : World) (hc : c < 256) : Calls Tryd.prog 43 #[.int .u8 (c : Int)] w fun e w' => e = .returned (.bool (plC c)) ∧ w' = w := by
  rcases (show c ≤ 44 ∨ c = 45 ∨ (46 ≤ c ∧ c ≤ 47) ∨ (48 ≤ c ∧ c ≤ 57) ∨ (58 ≤ c ∧ c ≤ 64) ∨ (65 ≤ c ∧ c ≤ 90) ∨ (91 ≤ c ∧ c ≤ 94) ∨ c = 95 ∨ c = 96 ∨ (97 ≤ c ∧ c ≤ 122) ∨ (123 ≤ c ∧ c ≤ 255) by omega) with h | h | h | h | h | h | h | h | h | h | h
  · have f1 : ¬ ((97 : Int) ≤ (c : Int)) := by omega
    have f2 : ((c : Int) ≤ 122) := by omega
    have f3 : ¬ ((65 : Int) ≤ (c : Int)) := by omega
    have f4 : ((c : Int) ≤ 90) := by omega
    have f5 : ¬ ((48 : Int) ≤ (c : Int)) := by omega
    have f6 : ((c : Int) ≤ 57) := by omega
    have f7 : ¬ ((c : Int) = 95) := by omega
    have f8 : ¬ ((c : Int) = 45) := by omega
    have HP : Hid (plC c = false) := by show _ = _; unfold plC; simp; omega
    generalize plC c = P at *
    clear h
    go_enter Tryd.func43, Tryd.ntmps43
    go_wp2
    go_ret
    exact ⟨by rw [HP.out]; first | rfl | simp [f7, f8], rfl⟩
  · have f1 : ¬ ((97 : Int) ≤ (c : Int)) := by omega
    have f2 : ((c : Int) ≤ 122) := by omega
    have f3 : ¬ ((65 : Int) ≤ (c : Int)) := by omega
    have f4 : ((c : Int) ≤ 90) := by omega
    have f5 : ¬ ((48 : Int) ≤ (c : Int)) := by omega
    have f6 : ((c : Int) ≤ 57) := by omega
    have f7 : ¬ ((c : Int) = 95) := by omega
    have f8 : ((c : Int) = 45) := by omega
    have HP : Hid (plC c = true) := by show _ = _; unfold plC; simp; omega
    generalize plC c = P at *
    clear h
    go_enter Tryd.func43, Tryd.ntmps43
    go_wp2
    go_ret
    exact ⟨by rw [HP.out]; first | rfl | simp [f7, f8], rfl⟩
  · have f1 : ¬ ((97 : Int) ≤ (c : Int)) := by omega
    have f2 : ((c : Int) ≤ 122) := by omega
    have f3 : ¬ ((65 : Int) ≤ (c : Int)) := by omega
    have f4 : ((c : Int) ≤ 90) := by omega
    have f5 : ¬ ((48 : Int) ≤ (c : Int)) := by omega
    have f6 : ((c : Int) ≤ 57) := by omega
    have f7 : ¬ ((c : Int) = 95) := by omega
    have f8 : ¬ ((c : Int) = 45) := by omega
    have HP : Hid (plC c = false) := by show _ = _; unfold plC; simp; omega
    generalize plC c = P at *
    clear h
    go_enter Tryd.func43, Tryd.ntmps43
    go_wp2
    go_ret
    exact ⟨by rw [HP.out]; first | rfl | simp [f7, f8], rfl⟩
  · have f1 : ¬ ((97 : Int) ≤ (c : Int)) := by omega
    have f2 : ((c : Int) ≤ 122) := by omega
    have f3 : ¬ ((65 : Int) ≤ (c : Int)) := by omega
    have f4 : ((c : Int) ≤ 90) := by omega
    have f5 : ((48 : Int) ≤ (c : Int)) := by omega
    have f6 : ((c : Int) ≤ 57) := by omega
    have f7 : ¬ ((c : Int) = 95) := by omega
    have f8 : ¬ ((c : Int) = 45) := by omega
    have HP : Hid (plC c = true) := by show _ = _; unfold plC; simp; omega
    generalize plC c = P at *
    clear h
    go_enter Tryd.func43, Tryd.ntmps43
    go_wp2
    go_ret
    exact ⟨by rw [HP.out]; first | rfl | simp [f7, f8], rfl⟩
  · have f1 : ¬ ((97 : Int) ≤ (c : Int)) := by omega
    have f2 : ((c : Int) ≤ 122) := by omega
    have f3 : ¬ ((65 : Int) ≤ (c : Int)) := by omega
    have f4 : ((c : Int) ≤ 90) := by omega
    have f5 : ((48 : Int) ≤ (c : Int)) := by omega
    have f6 : ¬ ((c : Int) ≤ 57) := by omega
    have f7 : ¬ ((c : Int) = 95) := by omega
    have f8 : ¬ ((c : Int) = 45) := by omega
    have HP : Hid (plC c = false) := by show _ = _; unfold plC; simp; omega
    generalize plC c = P at *
    clear h
    go_enter Tryd.func43, Tryd.ntmps43
    go_wp2
    go_ret
    exact ⟨by rw [HP.out]; first | rfl | simp [f7, f8], rfl⟩
  · have f1 : ¬ ((97 : Int) ≤ (c : Int)) := by omega
    have f2 : ((c : Int) ≤ 122) := by omega
    have f3 : ((65 : Int) ≤ (c : Int)) := by omega
    have f4 : ((c : Int) ≤ 90) := by omega
    have f5 : ((48 : Int) ≤ (c : Int)) := by omega
    have f6 : ¬ ((c : Int) ≤ 57) := by omega
    have f7 : ¬ ((c : Int) = 95) := by omega
    have f8 : ¬ ((c : Int) = 45) := by omega
    have HP : Hid (plC c = true) := by show _ = _; unfold plC; simp; omega
    generalize plC c = P at *
    clear h
    go_enter Tryd.func43, Tryd.ntmps43
    go_wp2
    go_ret
    exact ⟨by rw [HP.out]; first | rfl | simp [f7, f8], rfl⟩
  · have f1 : ¬ ((97 : Int) ≤ (c : Int)) := by omega
    have f2 : ((c : Int) ≤ 122) := by omega
    have f3 : ((65 : Int) ≤ (c : Int)) := by omega
    have f4 : ¬ ((c : Int) ≤ 90) := by omega
    have f5 : ((48 : Int) ≤ (c : Int)) := by omega
    have f6 : ¬ ((c : Int) ≤ 57) := by omega
    have f7 : ¬ ((c : Int) = 95) := by omega
    have f8 : ¬ ((c : Int) = 45) := by omega
    have HP : Hid (plC c = false) := by show _ = _; unfold plC; simp; omega
    generalize plC c = P at *
    clear h
    go_enter Tryd.func43, Tryd.ntmps43
    go_wp2
    go_ret
    exact ⟨by rw [HP.out]; first | rfl | simp [f7, f8], rfl⟩
  · have f1 : ¬ ((97 : Int) ≤ (c : Int)) := by omega
    have f2 : ((c : Int) ≤ 122) := by omega
    have f3 : ((65 : Int) ≤ (c : Int)) := by omega
    have f4 : ¬ ((c : Int) ≤ 90) := by omega
    have f5 : ((48 : Int) ≤ (c : Int)) := by omega
    have f6 : ¬ ((c : Int) ≤ 57) := by omega
    have f7 : ((c : Int) = 95) := by omega
    have f8 : ¬ ((c : Int) = 45) := by omega
    have HP : Hid (plC c = true) := by show _ = _; unfold plC; simp; omega
    generalize plC c = P at *
    clear h
    go_enter Tryd.func43, Tryd.ntmps43
    go_wp2
    go_ret
    exact ⟨by rw [HP.out]; first | rfl | simp [f7, f8], rfl⟩
  · have f1 : ¬ ((97 : Int) ≤ (c : Int)) := by omega
    have f2 : ((c : Int) ≤ 122) := by omega
    have f3 : ((65 : Int) ≤ (c : Int)) := by omega
    have f4 : ¬ ((c : Int) ≤ 90) := by omega
    have f5 : ((48 : Int) ≤ (c : Int)) := by omega
    have f6 : ¬ ((c : Int) ≤ 57) := by omega
    have f7 : ¬ ((c : Int) = 95) := by omega
    have f8 : ¬ ((c : Int) = 45) := by omega
    have HP : Hid (plC c = false) := by show _ = _; unfold plC; simp; omega
    generalize plC c = P at *
    clear h
    go_enter Tryd.func43, Tryd.ntmps43
    go_wp2
    go_ret
    exact ⟨by rw [HP.out]; first | rfl | simp [f7, f8], rfl⟩
  · have f1 : ((97 : Int) ≤ (c : Int)) := by omega
    have f2 : ((c : Int) ≤ 122) := by omega
    have f3 : ((65 : Int) ≤ (c : Int)) := by omega
    have f4 : ¬ ((c : Int) ≤ 90) := by omega
    have f5 : ((48 : Int) ≤ (c : Int)) := by omega
    have f6 : ¬ ((c : Int) ≤ 57) := by omega
    have f7 : ¬ ((c : Int) = 95) := by omega
    have f8 : ¬ ((c : Int) = 45) := by omega
    have HP : Hid (plC c = true) := by show _ = _; unfold plC; simp; omega
    generalize plC c = P at *
    clear h
    go_enter Tryd.func43, Tryd.ntmps43
    go_wp2
    go_ret
    exact ⟨by rw [HP.out]; first | rfl | simp [f7, f8], rfl⟩
  · have f1 : ((97 : Int) ≤ (c : Int)) := by omega
    have f2 : ¬ ((c : Int) ≤ 122) := by omega
    have f3 : ((65 : Int) ≤ (c : Int)) := by omega
    have f4 : ¬ ((c : Int) ≤ 90) := by omega
    have f5 : ((48 : Int) ≤ (c : Int)) := by omega
    have f6 : ¬ ((c : Int) ≤ 57) := by omega
    have f7 : ¬ ((c : Int) = 95) := by omega
    have f8 : ¬ ((c : Int) = 45) := by omega
    have HP : Hid (plC c = false) := by show _ = _; unfold plC; simp; omega
    generalize plC c = P at *
    clear h
    go_enter Tryd.func43, Tryd.ntmps43
    go_wp2
    go_ret
    exact ⟨by rw [HP.out]; first | rfl | simp [f7, f8], rfl⟩
set_option maxRecDepth 100000 in
set_option maxHeartbeats 2000000 in
theorem rplainC_any (c : Nat) (w : World) (hc : c < 256) : Calls Tryd.prog 31 #[.int .u8 (c : Int)] w fun e w' => e = .returned (.bool (plC c)) ∧ w' = w := by
  rcases (show c ≤ 44 ∨ c = 45 ∨ (46 ≤ c ∧ c ≤ 47) ∨ (48 ≤ c ∧ c ≤ 57) ∨ (58 ≤ c ∧ c ≤ 64) ∨ (65 ≤ c ∧ c ≤ 90) ∨ (91 ≤ c ∧ c ≤ 94) ∨ c = 95 ∨ c = 96 ∨ (97 ≤ c ∧ c ≤ 122) ∨ (123 ≤ c ∧ c ≤ 255) by omega) with h | h | h | h | h | h | h | h | h | h | h
  · have f1 : ¬ ((97 : Int) ≤ (c : Int)) := by omega
    have f2 : ((c : Int) ≤ 122) := by omega
    have f3 : ¬ ((65 : Int) ≤ (c : Int)) := by omega
    have f4 : ((c : Int) ≤ 90) := by omega
    have f5 : ¬ ((48 : Int) ≤ (c : Int)) := by omega
    have f6 : ((c : Int) ≤ 57) := by omega
    have f7 : ¬ ((c : Int) = 95) := by omega
    have f8 : ¬ ((c : Int) = 45) := by omega
    have HP : Hid (plC c = false) := by show _ = _; unfold plC; simp; omega
    generalize plC c = P at *
    clear h
    go_enter Tryd.func31, Tryd.ntmps31
    go_wp2
    go_ret
    exact ⟨by rw [HP.out]; first | rfl | simp [f7, f8], rfl⟩
  · have f1 : ¬ ((97 : Int) ≤ (c : Int)) := by omega
    have f2 : ((c : Int) ≤ 122) := by omega
    have f3 : ¬ ((65 : Int) ≤ (c : Int)) := by omega
    have f4 : ((c : Int) ≤ 90) := by omega
    have f5 : ¬ ((48 : Int) ≤ (c : Int)) := by omega
    have f6 : ((c : Int) ≤ 57) := by omega
    have f7 : ¬ ((c : Int) = 95) := by omega
    have f8 : ((c : Int) = 45) := by omega
    have HP : Hid (plC c = true) := by show _ = _; unfold plC; simp; omega
    generalize plC c = P at *
    clear h
    go_enter Tryd.func31, Tryd.ntmps31
    go_wp2
    go_ret
    exact ⟨by rw [HP.out]; first | rfl | simp [f7, f8], rfl⟩
  · have f1 : ¬ ((97 : Int) ≤ (c : Int)) := by omega
    have f2 : ((c : Int) ≤ 122) := by omega
    have f3 : ¬ ((65 : Int) ≤ (c : Int)) := by omega
    have f4 : ((c : Int) ≤ 90) := by omega
    have f5 : ¬ ((48 : Int) ≤ (c : Int)) := by omega
    have f6 : ((c : Int) ≤ 57) := by omega
    have f7 : ¬ ((c : Int) = 95) := by omega
    have f8 : ¬ ((c : Int) = 45) := by omega
    have HP : Hid (plC c = false) := by show _ = _; unfold plC; simp; omega
    generalize plC c = P at *
    clear h
    go_enter Tryd.func31, Tryd.ntmps31
    go_wp2
    go_ret
    exact ⟨by rw [HP.out]; first | rfl | simp [f7, f8], rfl⟩
  · have f1 : ¬ ((97 : Int) ≤ (c : Int)) := by omega
    have f2 : ((c : Int) ≤ 122) := by omega
    have f3 : ¬ ((65 : Int) ≤ (c : Int)) := by omega
    have f4 : ((c : Int) ≤ 90) := by omega
    have f5 : ((48 : Int) ≤ (c : Int)) := by omega
    have f6 : ((c : Int) ≤ 57) := by omega
    have f7 : ¬ ((c : Int) = 95) := by omega
    have f8 : ¬ ((c : Int) = 45) := by omega
    have HP : Hid (plC c = true) := by show _ = _; unfold plC; simp; omega
    generalize plC c = P at *
    clear h
    go_enter Tryd.func31, Tryd.ntmps31
    go_wp2
    go_ret
    exact ⟨by rw [HP.out]; first | rfl | simp [f7, f8], rfl⟩
  · have f1 : ¬ ((97 : Int) ≤ (c : Int)) := by omega
    have f2 : ((c : Int) ≤ 122) := by omega
    have f3 : ¬ ((65 : Int) ≤ (c : Int)) := by omega
    have f4 : ((c : Int) ≤ 90) := by omega
    have f5 : ((48 : Int) ≤ (c : Int)) := by omega
    have f6 : ¬ ((c : Int) ≤ 57) := by omega
    have f7 : ¬ ((c : Int) = 95) := by omega
    have f8 : ¬ ((c : Int) = 45) := by omega
    have HP : Hid (plC c = false) := by show _ = _; unfold plC; simp; omega
    generalize plC c = P at *
    clear h
    go_enter Tryd.func31, Tryd.ntmps31
    go_wp2
    go_ret
    exact ⟨by rw [HP.out]; first | rfl | simp [f7, f8], rfl⟩
  · have f1 : ¬ ((97 : Int) ≤ (c : Int)) := by omega
    have f2 : ((c : Int) ≤ 122) := by omega
    have f3 : ((65 : Int) ≤ (c : Int)) := by omega
    have f4 : ((c : Int) ≤ 90) := by omega
    have f5 : ((48 : Int) ≤ (c : Int)) := by omega
    have f6 : ¬ ((c : Int) ≤ 57) := by omega
    have f7 : ¬ ((c : Int) = 95) := by omega
    have f8 : ¬ ((c : Int) = 45) := by omega
    have HP : Hid (plC c = true) := by show _ = _; unfold plC; simp; omega
    generalize plC c = P at *
    clear h
    go_enter Tryd.func31, Tryd.ntmps31
    go_wp2
    go_ret
    exact ⟨by rw [HP.out]; first | rfl | simp [f7, f8], rfl⟩
  · have f1 : ¬ ((97 : Int) ≤ (c : Int)) := by omega
    have f2 : ((c : Int) ≤ 122) := by omega
    have f3 : ((65 : Int) ≤ (c : Int)) := by omega
    have f4 : ¬ ((c : Int) ≤ 90) := by omega
    have f5 : ((48 : Int) ≤ (c : Int)) := by omega
    have f6 : ¬ ((c : Int) ≤ 57) := by omega
    have f7 : ¬ ((c : Int) = 95) := by omega
    have f8 : ¬ ((c : Int) = 45) := by omega
    have HP : Hid (plC c = false) := by show _ = _; unfold plC; simp; omega
    generalize plC c = P at *
    clear h
    go_enter Tryd.func31, Tryd.ntmps31
    go_wp2
    go_ret
    exact ⟨by rw [HP.out]; first | rfl | simp [f7, f8], rfl⟩
  · have f1 : ¬ ((97 : Int) ≤ (c : Int)) := by omega
    have f2 : ((c : Int) ≤ 122) := by omega
    have f3 : ((65 : Int) ≤ (c : Int)) := by omega
    have f4 : ¬ ((c : Int) ≤ 90) := by omega
    have f5 : ((48 : Int) ≤ (c : Int)) := by omega
    have f6 : ¬ ((c : Int) ≤ 57) := by omega
    have f7 : ((c : Int) = 95) := by omega
    have f8 : ¬ ((c : Int) = 45) := by omega
    have HP : Hid (plC c = true) := by show _ = _; unfold plC; simp; omega
    generalize plC c = P at *
    clear h
    go_enter Tryd.func31, Tryd.ntmps31
    go_wp2
    go_ret
    exact ⟨by rw [HP.out]; first | rfl | simp [f7, f8], rfl⟩
  · have f1 : ¬ ((97 : Int) ≤ (c : Int)) := by omega
    have f2 : ((c : Int) ≤ 122) := by omega
    have f3 : ((65 : Int) ≤ (c : Int)) := by omega
    have f4 : ¬ ((c : Int) ≤ 90) := by omega
    have f5 : ((48 : Int) ≤ (c : Int)) := by omega
    have f6 : ¬ ((c : Int) ≤ 57) := by omega
    have f7 : ¬ ((c : Int) = 95) := by omega
    have f8 : ¬ ((c : Int) = 45) := by omega
    have HP : Hid (plC c = false) := by show _ = _; unfold plC; simp; omega
    generalize plC c = P at *
    clear h
    go_enter Tryd.func31, Tryd.ntmps31
    go_wp2
    go_ret
    exact ⟨by rw [HP.out]; first | rfl | simp [f7, f8], rfl⟩
  · have f1 : ((97 : Int) ≤ (c : Int)) := by omega
    have f2 : ((c : Int) ≤ 122) := by omega
    have f3 : ((65 : Int) ≤ (c : Int)) := by omega
    have f4 : ¬ ((c : Int) ≤ 90) := by omega
    have f5 : ((48 : Int) ≤ (c : Int)) := by omega
    have f6 : ¬ ((c : Int) ≤ 57) := by omega
    have f7 : ¬ ((c : Int) = 95) := by omega
    have f8 : ¬ ((c : Int) = 45) := by omega
    have HP : Hid (plC c = true) := by show _ = _; unfold plC; simp; omega
    generalize plC c = P at *
    clear h
    go_enter Tryd.func31, Tryd.ntmps31
    go_wp2
    go_ret
    exact ⟨by rw [HP.out]; first | rfl | simp [f7, f8], rfl⟩
  · have f1 : ((97 : Int) ≤ (c : Int)) := by omega
    have f2 : ¬ ((c : Int) ≤ 122) := by omega
    have f3 : ((65 : Int) ≤ (c : Int)) := by omega
    have f4 : ¬ ((c : Int) ≤ 90) := by omega
    have f5 : ((48 : Int) ≤ (c : Int)) := by omega
    have f6 : ¬ ((c : Int) ≤ 57) := by omega
    have f7 : ¬ ((c : Int) = 95) := by omega
    have f8 : ¬ ((c : Int) = 45) := by omega
    have HP : Hid (plC c = false) := by show _ = _; unfold plC; simp; omega
    generalize plC c = P at *
    clear h
    go_enter Tryd.func31, Tryd.ntmps31
    go_wp2
    go_ret
    exact ⟨by rw [HP.out]; first | rfl | simp [f7, f8], rfl⟩
end Go.Proofs.YtepkanibcljdkaaDoor

