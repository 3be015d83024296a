import Derived.Test.YthffcdahjcpdfaaGreatDoorGKKz
import Derived.Lib.ValidAsc
import Derived.Ground.NamesProg
import Derived.Shelf.Unicode.ValidAny
import Derived.Test.YthffcdahjcpdfaaGreatDoorGYf
namespace Go.Proofs.YthffcdahjcpdfaaGreatDoor.K
open Go.RowKit
set_option linter.unusedVariables false
set_option linter.unusedSimpArgs false
namespace V

theorem check_none (n b1 b2 b3 c lo hi : Nat) (h : c ≠ 2) (h3 : c ≠ 3) (h4 : c ≠ 4) : Lib.checkN n b1 b2 b3 c lo hi = none := by
  unfold Lib.checkN
  rw [if_neg h, if_neg h3, if_neg h4]
theorem wideN_of (s : ByteArray) (c sz lo hi : Nat) (hc : by8 s 0 = c) (h : ¬ c < 128) (e1 : Lib.firstT c % 8 = sz) (e2 : Lib.accLo (Lib.firstT c / 16) = lo) (e3 : Lib.accHi (Lib.firstT c / 16) = hi) :
    wideN s = (Lib.checkN s.size (by8 s 1) (by8 s 2) (by8 s 3) sz lo hi).getD 0 := by
  unfold wideN
  rw [hc, if_neg h, e1, e2, e3]
theorem check_le {n b1 b2 b3 sz lo hi k : Nat} (h : Lib.checkN n b1 b2 b3 sz lo hi = some k) : k ≤ n ∧ 2 ≤ k := by
  unfold Lib.checkN at h
  repeat' split at h
  all_goals first | (cases h; done) | (simp at h; omega)
theorem wideN_le (s : ByteArray) (h0 : 0 < s.size) : wideN s ≤ s.size := by
  unfold wideN
  split
  · omega
  · cases hq : Lib.checkN s.size (by8 s 1) (by8 s 2) (by8 s 3) (Lib.firstT (by8 s 0) % 8) (Lib.accLo (Lib.firstT (by8 s 0) / 16)) (Lib.accHi (Lib.firstT (by8 s 0) / 16)) with
    | none => simp
    | some k => simpa using (check_le hq).1
theorem ne_nil {s : ByteArray} (h0 : 0 < s.size) : s.data.toList ≠ [] := by
  intro e
  have : s.data.toList.length = s.size := by simp
  rw [e] at this
  simp at this
  omega
theorem valid_wide (s : ByteArray) (h0 : 0 < s.size) : Lib.validD s.data.toList = if wideN s = 0 then false else Lib.validD (s.data.toList.drop (wideN s)) := by
  have hne := ne_nil h0
  by_cases h1 : by8 s 0 < 128
  · have e : wideN s = 1 := by unfold wideN; rw [if_pos h1]
    rw [e, if_neg (by decide)]
    unfold by8 at h1
    cases hl : s.data.toList with
    | nil => exact absurd hl hne
    | cons b t =>
      rw [hl] at h1
      exact Lib.validD_cons b t (by simpa using h1)
  · have h128 : 128 ≤ (s.data.toList.getD 0 0).toNat := by unfold by8 at h1; omega
    rw [Lib.validD_lead _ hne h128]
    have hlen : s.data.toList.length = s.size := by simp
    rw [hlen]
    show (match Lib.checkN s.size (by8 s 1) (by8 s 2) (by8 s 3) (Lib.firstT (by8 s 0) % 8) (Lib.accLo (Lib.firstT (by8 s 0) / 16)) (Lib.accHi (Lib.firstT (by8 s 0) / 16)) with | none => false | some k => Lib.validD (s.data.toList.drop k)) = _
    cases hq : Lib.checkN s.size (by8 s 1) (by8 s 2) (by8 s 3) (Lib.firstT (by8 s 0) % 8) (Lib.accLo (Lib.firstT (by8 s 0) / 16)) (Lib.accHi (Lib.firstT (by8 s 0) / 16)) with
    | none =>
      have e : wideN s = 0 := by unfold wideN; rw [if_neg h1, hq]; rfl
      rw [e, if_pos rfl]
    | some k =>
      have e : wideN s = k := by unfold wideN; rw [if_neg h1, hq]; rfl
      have := (check_le hq).2
      rw [e, if_neg (by omega)]

end V
end Go.Proofs.YthffcdahjcpdfaaGreatDoor.K

namespace Go.Proofs.YthffcdahjcpdfaaGreatDoor.K
open Go.RowKit Go.Shelf
set_option linter.unusedVariables false
set_option linter.unusedSimpArgs false
namespace V

def laysValid_ren : Go.Shelf.Ren := ⟨fun | 196 => 54 | 259 => 59 | n => n, fun | 9 => 9 | 4 => 4 | 3 => 3 | 5 => 5 | 12 => 12 | 119 => 155 | 0 => 0 | 46 => 79 | 139 => 158 | 138 => 157 | 53 => 152 | n => n, fun | 3 => 3 | 4 => 4 | n => n⟩
theorem laysValid : Lays.n196 Tryz.prog laysValid_ren := {
  mixed := by kernel_rfl
  f196 := Tryz.func54.trans (congrArg some (by kernel_rfl))
  f259 := Tryz.func59.trans (congrArg some (by kernel_rfl))
  t0 := Tryz.underlying0
  a0 := Tryz.isAgg0
  z0 := Tryz.sizeOf0
  v0 := Tryz.zeroValue0
  t3 := Tryz.underlying3
  a3 := Tryz.isAgg3
  z3 := Tryz.sizeOf3
  v3 := Tryz.zeroValue3
  t4 := Tryz.underlying4
  a4 := Tryz.isAgg4
  z4 := Tryz.sizeOf4
  v4 := Tryz.zeroValue4
  t5 := Tryz.underlying5
  a5 := Tryz.isAgg5
  z5 := Tryz.sizeOf5
  v5 := Tryz.zeroValue5
  t9 := Tryz.underlying9
  a9 := Tryz.isAgg9
  z9 := Tryz.sizeOf9
  v9 := Tryz.zeroValue9
  t12 := Tryz.underlying12
  a12 := Tryz.isAgg12
  z12 := Tryz.sizeOf12
  v12 := Tryz.zeroValue12
  t46 := Tryz.underlying79
  a46 := Tryz.isAgg79
  z46 := Tryz.sizeOf79
  v46 := Tryz.zeroValue79
  t53 := Tryz.underlying152
  a53 := Tryz.isAgg152
  z53 := Tryz.sizeOf152
  v53 := Tryz.zeroValue152
  t119 := Tryz.underlying155
  a119 := Tryz.isAgg155
  z119 := Tryz.sizeOf155
  t138 := Tryz.underlying157
  a138 := Tryz.isAgg157
  z138 := Tryz.sizeOf157
  v138 := Tryz.zeroValue157
  t139 := Tryz.underlying158
  a139 := Tryz.isAgg158
  z139 := Tryz.sizeOf158
  v139 := Tryz.zeroValue158
  g3 := by kernel_rfl
  g4 := by kernel_rfl }

def Tabs (w : World) : Prop := Lib.Utf8Tabs 3 4 w
theorem Tabs.below {w w' : World} (h : Tabs w) (hb : Below w.heap.size w w') : Tabs w' := Utf8Tabs_below h hb
theorem valid_any (s : ByteArray) (w : World) (hs : s.size ≤ 9223372036854775807) (hT : Tabs w) :
    Calls Tryz.prog 54 #[.string s] w fun e w' => e = .returned (.bool (Lib.validD s.data.toList)) ∧ Below w.heap.size w w' :=
  Any.utf8_ValidString laysValid s w hs hT
end V
end Go.Proofs.YthffcdahjcpdfaaGreatDoor.K

namespace Go.Proofs.YthffcdahjcpdfaaGreatDoor
open Go.RowKit
set_option linter.unusedVariables false
set_option linter.unusedSimpArgs false

/-- A byte that a right text may have. -/
def okC (n : Nat) : Bool := decide (32 ≤ n) && decide (n ≠ 127)
def plainB (s : ByteArray) : Bool := s.data.toList.all fun c => okC c.toNat
def rightB (s : ByteArray) : Bool := plainB s && Lib.validD s.data.toList
def keyB (s : ByteArray) : Bool := decide (0 < s.size) && decide (s.size ≤ 64) && rightB s
theorem by8_at (s : ByteArray) (i : Nat) (hi : i < s.data.toList.length) : K.V.by8 s i = (s.data.toList[i]).toNat := by
  unfold K.V.by8
  rw [List.getD_eq_getElem?_getD, List.getElem?_eq_getElem hi]
  rfl
theorem plain_iff (s : ByteArray) : plainB s = true ↔ ∀ i, i < s.size → okC (K.V.by8 s i) = true := by
  unfold plainB
  have hz : s.data.toList.length = s.size := Array.length_toList
  rw [List.all_eq_true]
  constructor
  · intro h i hi
    rw [by8_at s i (by omega)]
    exact h _ (List.getElem_mem _)
  · intro h c hc
    obtain ⟨i, hi, rfl⟩ := List.getElem_of_mem hc
    have := h i (by omega)
    rw [by8_at s i hi] at this
    exact this
theorem plain_no {s : ByteArray} {i : Nat} (hi : i < s.size) (h : okC (K.V.by8 s i) = false) : plainB s = false := by
  cases hp : plainB s with
  | false => rfl
  | true => rw [(plain_iff s).1 hp i hi] at h; cases h
theorem okC_no {n : Nat} (h : okC n = false) (h1 : ¬ (n : Int) < 32) : (n : Int) = 127 := by
  unfold okC at h
  simp at h
  omega
theorem okC_yes {n : Nat} (h : okC n = true) : ¬ (n : Int) < 32 ∧ ¬ (n : Int) = 127 := by
  unfold okC at h
  simp at h
  omega
set_option maxRecDepth 100000 in
set_option maxHeartbeats 1000000 in
theorem wright_any (s : ByteArray) (w : World) (hs : s.size ≤ 140737488355328) (hT : K.V.Tabs w) :
    Calls Tryz.prog 66 #[.string s] w fun e w' => e = .returned (.bool (rightB s)) ∧ Below w.heap.size w w' := by
  have HV := Hid.mk' (K.V.valid_any s w (by omega) hT)
  have HP : Hid (plainB s = true → rightB s = Lib.validD s.data.toList) := fun h => by unfold rightB; rw [h]; rfl
  have HF : Hid (plainB s = false → rightB s = false) := fun h => by unfold rightB; rw [h]; rfl
  have HI := Hid.mk' (plain_iff s)
  have HN : Hid (∀ i, i < s.size → okC (K.V.by8 s i) = false → plainB s = false) := fun i h1 h2 => plain_no h1 h2
  have HX : Hid (∀ k, k < s.size → ∀ wx, (Instr.index 9 (.string s) (.int .i64 (k : Int))).run Tryz.prog wx = .ok (.int .u8 (K.V.by8 s k : Int)) wx) := fun k h wx => K.V.index_str s k wx h
  have HB := Hid.mk' (K.V.by8_lt s)
  generalize Lib.validD s.data.toList = D at *
  generalize rightB s = R at *
  clear hT
  go_enter Tryz.func66, Tryz.ntmps66
  go_wp2
  go_loopw [6] (fun i wr => ∃ k : Nat, k ≤ s.size ∧ i = .int .i64 k ∧ wr = w ∧ Hid (∀ j, j < k → okC (K.V.by8 s j) = true)) (fun i _ => s.size - (intOf i).toNat)
  case atStart => exact ⟨0, by omega, rfl, rfl, fun j hj => by omega⟩
  case round =>
    obtain ⟨k, hk, rfl, rfl, HK⟩ := hrel
    by_cases hks : k < s.size
    · have hks' : (k : Int) < (s.size : Int) := by omega
      have ix := HX.out k hks
      have hb := HB.out k
      cases hok : okC (K.V.by8 s k) with
      | true =>
        obtain ⟨o1, o2⟩ := okC_yes hok
        have HK2 : Hid (∀ j, j < k + 1 → okC (K.V.by8 s j) = true) := fun j hj => by
          rcases Nat.lt_or_ge j k with h | h
          · exact HK.out j h
          · obtain rfl : j = k := by omega
            exact hok
        clear hok HK
        generalize K.V.by8 s k = c at *
        go_wp2
        go_roundw
        case rel => exact ⟨k + 1, by omega, by go_num, by trivial, HK2⟩
        case measure => simp [intOf]; omega
      | false =>
        have HR : Hid (R = false) := HF.out (HN.out k hks hok)
        have ho := @okC_no _ hok
        clear hok HK HF HN HP
        generalize K.V.by8 s k = c at *
        by_cases h1 : (c : Int) < 32
        · go_wp2
          go_ret
          exact ⟨by rw [HR.out]; rfl, Below.refl _ _⟩
        · have h2 := ho h1
          clear ho
          go_wp2
          go_ret
          exact ⟨by rw [HR.out]; rfl, Below.refl _ _⟩
    · have hks' : ¬ (k : Int) < (s.size : Int) := by omega
      have HR : Hid (R = D) := HP.out (HI.out.2 fun j hj => HK.out j (by omega))
      clear HK HF HN HP HX
      go_wp2_with fail
      refine HV.out.mono ?_
      rintro e w1 ⟨rfl, b1⟩
      skip
      go_wp2
      go_ret
      exact ⟨by rw [HR.out]; rfl, b1⟩
set_option maxRecDepth 100000 in
set_option maxHeartbeats 1000000 in
theorem wkey_any (s : ByteArray) (w : World) (hT : K.V.Tabs w) :
    Calls Tryz.prog 57 #[.string s] w fun e w' => e = .returned (.bool (keyB s)) ∧ Below w.heap.size w w' := by
  have H := Hid.mk' (fun (hq : s.size ≤ 64) => wright_any s w (by omega) hT)
  have HK : Hid (keyB s = (decide (0 < s.size) && decide (s.size ≤ 64) && rightB s)) := rfl
  generalize rightB s = R at *
  generalize keyB s = B at *
  clear hT
  by_cases h0 : s.size = 0
  · have HB : Hid (B = false) := by show _ = _; rw [HK.out, h0]; rfl
    have e0 : s.toList.isEmpty = true := by
      rw [ByteArray.toList_eq, show s.data.toList = [] from List.eq_nil_of_length_eq_zero (by rw [Array.length_toList]; exact h0)]
      rfl
    clear H HK
    go_enter Tryz.func57, Tryz.ntmps57
    go_wp2
    go_ret
    exact ⟨by rw [HB.out]; rfl, Below.refl _ _⟩
  · have h0' : (1 : Int) ≤ (s.size : Int) := by omega
    have e0 : s.toList.isEmpty = false := K.V.not_empty s (by omega)
    by_cases h1 : s.size ≤ 64
    · have h1' : (s.size : Int) ≤ 64 := by omega
      have HB : Hid (B = R) := by show _ = _; rw [HK.out, decide_eq_true (show 0 < s.size by omega), decide_eq_true h1]; rfl
      clear HK
      go_enter Tryz.func57, Tryz.ntmps57
      go_wp2_with fail
      refine (H.out h1).mono ?_
      rintro e w1 ⟨rfl, b1⟩
      skip
      go_wp2
      go_ret
      exact ⟨by rw [HB.out]; rfl, b1⟩
    · have h1' : ¬ (s.size : Int) ≤ 64 := by omega
      have HB : Hid (B = false) := by show _ = _; rw [HK.out, decide_eq_false h1, Bool.and_false]; rfl
      clear H HK
      go_enter Tryz.func57, Tryz.ntmps57
      go_wp2
      go_ret
      exact ⟨by rw [HB.out]; rfl, Below.refl _ _⟩
end Go.Proofs.YthffcdahjcpdfaaGreatDoor

