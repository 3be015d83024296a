import Derived.Test.YthffcdahjcpdfaaGreatDoorGKVf
import Derived.Test.YthffcdahjcpdfaaGreatDoorGYf
import Derived.LaidEql
import Derived.Stop.Asserts
import Derived.RowKitTokens
namespace Go.Proofs.YthffcdahjcpdfaaGreatDoor
open Go.RowKit
set_option linter.unusedVariables false
set_option linter.unusedSimpArgs false

/-- A byte that needs no quotes in a way. -/
def plC (c : Nat) : Bool := decide (97 ≤ c) && decide (c ≤ 122) || decide (65 ≤ c) && decide (c ≤ 90) || decide (48 ≤ c) && decide (c ≤ 57) || decide (c = 95) || decide (c = 45)
set_option maxRecDepth 100000 in
set_option maxHeartbeats 2000000 in
theorem plain_any (c : Nat) (w : World) (hc : c < 256) : Calls Tryz.prog 53 #[.int .u8 (c : Int)] w fun e w' => e = .returned (.bool (plC c)) ∧ w' = w := by
  rcases (show c ≤ 44 ∨ c = 45 ∨ (46 ≤ c ∧ c ≤ 47) ∨ (48 ≤ c ∧ c ≤ 57) ∨ (58 ≤ c ∧ c ≤ 64) ∨ (65 ≤ c ∧ c ≤ 90) ∨ (91 ≤ c ∧ c ≤ 94) ∨ c = 95 ∨ c = 96 ∨ (97 ≤ c ∧ c ≤ 122) ∨ (123 ≤ c ∧ c ≤ 255) by omega) with h | h | h | h | h | h | h | h | h | h | h
  · have f1 : ¬ ((97 : Int) ≤ (c : Int)) := by omega
    have f2 : ((c : Int) ≤ 122) := by omega
    have f3 : ¬ ((65 : Int) ≤ (c : Int)) := by omega
    have f4 : ((c : Int) ≤ 90) := by omega
    have f5 : ¬ ((48 : Int) ≤ (c : Int)) := by omega
    have f6 : ((c : Int) ≤ 57) := by omega
    have f7 : ¬ ((c : Int) = 95) := by omega
    have f8 : ¬ ((c : Int) = 45) := by omega
    have HP : Hid (plC c = false) := by show _ = _; unfold plC; simp; omega
    generalize plC c = P at *
    clear h
    go_enter Tryz.func53, Tryz.ntmps53
    go_wp2
    go_ret
    exact ⟨by rw [HP.out]; first | rfl | simp [f7, f8], rfl⟩
  · have f1 : ¬ ((97 : Int) ≤ (c : Int)) := by omega
    have f2 : ((c : Int) ≤ 122) := by omega
    have f3 : ¬ ((65 : Int) ≤ (c : Int)) := by omega
    have f4 : ((c : Int) ≤ 90) := by omega
    have f5 : ¬ ((48 : Int) ≤ (c : Int)) := by omega
    have f6 : ((c : Int) ≤ 57) := by omega
    have f7 : ¬ ((c : Int) = 95) := by omega
    have f8 : ((c : Int) = 45) := by omega
    have HP : Hid (plC c = true) := by show _ = _; unfold plC; simp; omega
    generalize plC c = P at *
    clear h
    go_enter Tryz.func53, Tryz.ntmps53
    go_wp2
    go_ret
    exact ⟨by rw [HP.out]; first | rfl | simp [f7, f8], rfl⟩
  · have f1 : ¬ ((97 : Int) ≤ (c : Int)) := by omega
    have f2 : ((c : Int) ≤ 122) := by omega
    have f3 : ¬ ((65 : Int) ≤ (c : Int)) := by omega
    have f4 : ((c : Int) ≤ 90) := by omega
    have f5 : ¬ ((48 : Int) ≤ (c : Int)) := by omega
    have f6 : ((c : Int) ≤ 57) := by omega
    have f7 : ¬ ((c : Int) = 95) := by omega
    have f8 : ¬ ((c : Int) = 45) := by omega
    have HP : Hid (plC c = false) := by show _ = _; unfold plC; simp; omega
    generalize plC c = P at *
    clear h
    go_enter Tryz.func53, Tryz.ntmps53
    go_wp2
    go_ret
    exact ⟨by rw [HP.out]; first | rfl | simp [f7, f8], rfl⟩
  · have f1 : ¬ ((97 : Int) ≤ (c : Int)) := by omega
    have f2 : ((c : Int) ≤ 122) := by omega
    have f3 : ¬ ((65 : Int) ≤ (c : Int)) := by omega
    have f4 : ((c : Int) ≤ 90) := by omega
    have f5 : ((48 : Int) ≤ (c : Int)) := by omega
    have f6 : ((c : Int) ≤ 57) := by omega
    have f7 : ¬ ((c : Int) = 95) := by omega
    have f8 : ¬ ((c : Int) = 45) := by omega
    have HP : Hid (plC c = true) := by show _ = _; unfold plC; simp; omega
    generalize plC c = P at *
    clear h
    go_enter Tryz.func53, Tryz.ntmps53
    go_wp2
    go_ret
    exact ⟨by rw [HP.out]; first | rfl | simp [f7, f8], rfl⟩
  · have f1 : ¬ ((97 : Int) ≤ (c : Int)) := by omega
    have f2 : ((c : Int) ≤ 122) := by omega
    have f3 : ¬ ((65 : Int) ≤ (c : Int)) := by omega
    have f4 : ((c : Int) ≤ 90) := by omega
    have f5 : ((48 : Int) ≤ (c : Int)) := by omega
    have f6 : ¬ ((c : Int) ≤ 57) := by omega
    have f7 : ¬ ((c : Int) = 95) := by omega
    have f8 : ¬ ((c : Int) = 45) := by omega
    have HP : Hid (plC c = false) := by show _ = _; unfold plC; simp; omega
    generalize plC c = P at *
    clear h
    go_enter Tryz.func53, Tryz.ntmps53
    go_wp2
    go_ret
    exact ⟨by rw [HP.out]; first | rfl | simp [f7, f8], rfl⟩
  · have f1 : ¬ ((97 : Int) ≤ (c : Int)) := by omega
    have f2 : ((c : Int) ≤ 122) := by omega
    have f3 : ((65 : Int) ≤ (c : Int)) := by omega
    have f4 : ((c : Int) ≤ 90) := by omega
    have f5 : ((48 : Int) ≤ (c : Int)) := by omega
    have f6 : ¬ ((c : Int) ≤ 57) := by omega
    have f7 : ¬ ((c : Int) = 95) := by omega
    have f8 : ¬ ((c : Int) = 45) := by omega
    have HP : Hid (plC c = true) := by show _ = _; unfold plC; simp; omega
    generalize plC c = P at *
    clear h
    go_enter Tryz.func53, Tryz.ntmps53
    go_wp2
    go_ret
    exact ⟨by rw [HP.out]; first | rfl | simp [f7, f8], rfl⟩
  · have f1 : ¬ ((97 : Int) ≤ (c : Int)) := by omega
    have f2 : ((c : Int) ≤ 122) := by omega
    have f3 : ((65 : Int) ≤ (c : Int)) := by omega
    have f4 : ¬ ((c : Int) ≤ 90) := by omega
    have f5 : ((48 : Int) ≤ (c : Int)) := by omega
    have f6 : ¬ ((c : Int) ≤ 57) := by omega
    have f7 : ¬ ((c : Int) = 95) := by omega
    have f8 : ¬ ((c : Int) = 45) := by omega
    have HP : Hid (plC c = false) := by show _ = _; unfold plC; simp; omega
    generalize plC c = P at *
    clear h
    go_enter Tryz.func53, Tryz.ntmps53
    go_wp2
    go_ret
    exact ⟨by rw [HP.out]; first | rfl | simp [f7, f8], rfl⟩
  · have f1 : ¬ ((97 : Int) ≤ (c : Int)) := by omega
    have f2 : ((c : Int) ≤ 122) := by omega
    have f3 : ((65 : Int) ≤ (c : Int)) := by omega
    have f4 : ¬ ((c : Int) ≤ 90) := by omega
    have f5 : ((48 : Int) ≤ (c : Int)) := by omega
    have f6 : ¬ ((c : Int) ≤ 57) := by omega
    have f7 : ((c : Int) = 95) := by omega
    have f8 : ¬ ((c : Int) = 45) := by omega
    have HP : Hid (plC c = true) := by show _ = _; unfold plC; simp; omega
    generalize plC c = P at *
    clear h
    go_enter Tryz.func53, Tryz.ntmps53
    go_wp2
    go_ret
    exact ⟨by rw [HP.out]; first | rfl | simp [f7, f8], rfl⟩
  · have f1 : ¬ ((97 : Int) ≤ (c : Int)) := by omega
    have f2 : ((c : Int) ≤ 122) := by omega
    have f3 : ((65 : Int) ≤ (c : Int)) := by omega
    have f4 : ¬ ((c : Int) ≤ 90) := by omega
    have f5 : ((48 : Int) ≤ (c : Int)) := by omega
    have f6 : ¬ ((c : Int) ≤ 57) := by omega
    have f7 : ¬ ((c : Int) = 95) := by omega
    have f8 : ¬ ((c : Int) = 45) := by omega
    have HP : Hid (plC c = false) := by show _ = _; unfold plC; simp; omega
    generalize plC c = P at *
    clear h
    go_enter Tryz.func53, Tryz.ntmps53
    go_wp2
    go_ret
    exact ⟨by rw [HP.out]; first | rfl | simp [f7, f8], rfl⟩
  · have f1 : ((97 : Int) ≤ (c : Int)) := by omega
    have f2 : ((c : Int) ≤ 122) := by omega
    have f3 : ((65 : Int) ≤ (c : Int)) := by omega
    have f4 : ¬ ((c : Int) ≤ 90) := by omega
    have f5 : ((48 : Int) ≤ (c : Int)) := by omega
    have f6 : ¬ ((c : Int) ≤ 57) := by omega
    have f7 : ¬ ((c : Int) = 95) := by omega
    have f8 : ¬ ((c : Int) = 45) := by omega
    have HP : Hid (plC c = true) := by show _ = _; unfold plC; simp; omega
    generalize plC c = P at *
    clear h
    go_enter Tryz.func53, Tryz.ntmps53
    go_wp2
    go_ret
    exact ⟨by rw [HP.out]; first | rfl | simp [f7, f8], rfl⟩
  · have f1 : ((97 : Int) ≤ (c : Int)) := by omega
    have f2 : ¬ ((c : Int) ≤ 122) := by omega
    have f3 : ((65 : Int) ≤ (c : Int)) := by omega
    have f4 : ¬ ((c : Int) ≤ 90) := by omega
    have f5 : ((48 : Int) ≤ (c : Int)) := by omega
    have f6 : ¬ ((c : Int) ≤ 57) := by omega
    have f7 : ¬ ((c : Int) = 95) := by omega
    have f8 : ¬ ((c : Int) = 45) := by omega
    have HP : Hid (plC c = false) := by show _ = _; unfold plC; simp; omega
    generalize plC c = P at *
    clear h
    go_enter Tryz.func53, Tryz.ntmps53
    go_wp2
    go_ret
    exact ⟨by rw [HP.out]; first | rfl | simp [f7, f8], rfl⟩
end Go.Proofs.YthffcdahjcpdfaaGreatDoor

namespace Go.Proofs.YthffcdahjcpdfaaGreatDoor
open Go.RowKit
set_option linter.unusedVariables false
set_option linter.unusedSimpArgs false

/-- Whether all bytes are such. -/
def plS (s : ByteArray) : Bool := s.data.toList.all fun c => plC c.toNat
/-- How many such bytes a text begins with. -/
def plN (s : ByteArray) : Nat := (s.data.toList.takeWhile fun c => plC c.toNat).length
theorem plS_iff (s : ByteArray) : plS s = true ↔ ∀ i, i < s.size → plC (K.V.by8 s i) = true := by
  unfold plS
  have hz : s.data.toList.length = s.size := Array.length_toList
  rw [List.all_eq_true]
  constructor
  · intro h i hi
    rw [by8_at s i (by omega)]
    exact h _ (List.getElem_mem _)
  · intro h c hc
    obtain ⟨i, hi, rfl⟩ := List.getElem_of_mem hc
    have := h i (by omega)
    rw [by8_at s i hi] at this
    exact this
theorem tw_at {f : UInt8 → Bool} : ∀ {l : List UInt8} {k : Nat}, k < l.length → (∀ j (h : j < l.length), j < k → f l[j] = true) → (∀ h : k < l.length, f l[k] = false) → (l.takeWhile f).length = k
  | [], k, h, _, _ => by simp at h
  | a :: l, 0, _, _, h => by
    have := h (by simp)
    simp at this
    simp [List.takeWhile_cons, this]
  | a :: l, k + 1, hk, h1, h2 => by
    have h0 := h1 0 (by simp) (by omega)
    simp at h0
    have ih := tw_at (f := f) (l := l) (k := k) (by simpa using hk) (fun j hj hjk => by have := h1 (j + 1) (by simpa using hj) (by omega); simpa using this) (fun hh => by have := h2 (by simpa using hh); simpa using this)
    simp [List.takeWhile_cons, h0, ih]
theorem tw_all {f : UInt8 → Bool} : ∀ l : List UInt8, (∀ x ∈ l, f x = true) → (l.takeWhile f).length = l.length
  | [], _ => rfl
  | a :: l, h => by
    have h0 := h a (by simp)
    have ih := tw_all (f := f) l fun x hx => h x (by simp [hx])
    simp [List.takeWhile_cons, h0, ih]
theorem plN_at {s : ByteArray} {k : Nat} (hk : k < s.size) (h1 : ∀ j, j < k → plC (K.V.by8 s j) = true) (h2 : plC (K.V.by8 s k) = false) : plN s = k := by
  have hz : s.data.toList.length = s.size := Array.length_toList
  refine tw_at (by omega) (fun j hj hjk => ?_) (fun h => ?_)
  · have := h1 j hjk
    rw [by8_at s j hj] at this
    exact this
  · rw [by8_at s k h] at h2
    exact h2
theorem plN_all {s : ByteArray} (h : plS s = true) : plN s = s.size := by
  have hz : s.data.toList.length = s.size := Array.length_toList
  unfold plN
  unfold plS at h
  rw [← hz]
  exact tw_all _ fun x hx => List.all_eq_true.1 h x hx
theorem plS_no {s : ByteArray} {k : Nat} (hk : k < s.size) (h : plC (K.V.by8 s k) = false) : plS s = false := by
  cases hp : plS s with
  | false => rfl
  | true => rw [(plS_iff s).1 hp k hk] at h; cases h
set_option maxRecDepth 100000 in
set_option maxHeartbeats 1000000 in
theorem psize_any (s : ByteArray) (w : World) (hs : s.size ≤ 140737488355328) :
    Calls Tryz.prog 44 #[.string s] w fun e w' => e = .returned (.int .i64 (plN s : Int)) ∧ w' = w := by
  have HX : Hid (∀ k, k < s.size → ∀ wx, (Instr.index 9 (.string s) (.int .i64 (k : Int))).run Tryz.prog wx = .ok (.int .u8 (K.V.by8 s k : Int)) wx) := fun k h wx => K.V.index_str s k wx h
  have HB := Hid.mk' (K.V.by8_lt s)
  have HC : Hid (∀ (c : Nat) (wx : World), c < 256 → Calls Tryz.prog 53 #[.int .u8 (c : Int)] wx fun e w' => e = .returned (.bool (plC c)) ∧ w' = wx) := fun c wx h => plain_any c wx h
  have BADF : Hid (∀ k, k < s.size → (∀ j, j < k → plC (K.V.by8 s j) = true) → plC (K.V.by8 s k) = false → (plN s : Int) = (k : Int)) := fun k h1 h2 h3 => by rw [plN_at h1 h2 h3]
  have GOODF : Hid ((∀ j, j < s.size → plC (K.V.by8 s j) = true) → (plN s : Int) = (s.size : Int)) := fun h => by rw [plN_all ((plS_iff s).2 h)]
  skip
  generalize (plN s : Int) = R at *
  go_enter Tryz.func44, Tryz.ntmps44
  go_wp2
  go_loopw [6] (fun i wr => ∃ k : Nat, k ≤ s.size ∧ i = .int .i64 k ∧ wr = w ∧ Hid (∀ j, j < k → plC (K.V.by8 s j) = true)) (fun i _ => s.size - (intOf i).toNat)
  case atStart => exact ⟨0, by omega, rfl, rfl, fun j hj => by omega⟩
  case round =>
    obtain ⟨k, hk, rfl, rfl, HK⟩ := hrel
    by_cases hks : k < s.size
    · have hks' : (k : Int) < (s.size : Int) := by omega
      have ix := HX.out k hks
      have HCC := Hid.mk' (HC.out (K.V.by8 s k) wr (HB.out k))
      cases hok : plC (K.V.by8 s k) with
      | true =>
        have HK2 : Hid (∀ j, j < k + 1 → plC (K.V.by8 s j) = true) := fun j hj => by
          rcases Nat.lt_or_ge j k with h | h
          · exact HK.out j h
          · obtain rfl : j = k := by omega
            exact hok
        rw [hok] at HCC
        clear hok HK
        generalize K.V.by8 s k = c at *
        go_wp2_with fail
        refine HCC.out.mono ?_
        rintro e _ ⟨rfl, rfl⟩
        go_wp2
        go_roundw
        case rel => exact ⟨k + 1, by omega, by go_num, by trivial, HK2⟩
        case measure => simp [intOf]; omega
      | false =>
        have HR := Hid.mk' (BADF.out k hks (fun j hj => HK.out j hj) hok)
        rw [hok] at HCC
        clear hok HK BADF GOODF
        generalize K.V.by8 s k = c at *
        go_wp2_with fail
        refine HCC.out.mono ?_
        rintro e _ ⟨rfl, rfl⟩
        go_wp2
        go_ret
        exact ⟨by rw [HR.out]; rfl, rfl⟩
    · have hks' : ¬ (k : Int) < (s.size : Int) := by omega
      have HR := Hid.mk' (GOODF.out (fun j hj => HK.out j (by omega)))
      clear HK BADF GOODF
      go_wp2
      go_ret
      exact ⟨by rw [HR.out]; rfl, rfl⟩
theorem tw_eq {f : UInt8 → Bool} : ∀ l : List UInt8, (l.takeWhile f).length = l.length → ∀ x ∈ l, f x = true
  | [], _, x, hx => by cases hx
  | a :: l, h, x, hx => by
    cases ha : f a with
    | false => simp [List.takeWhile_cons, ha] at h
    | true =>
      simp [List.takeWhile_cons, ha] at h
      rcases List.mem_cons.1 hx with rfl | hx
      · exact ha
      · exact tw_eq l h x hx
theorem plN_ne {s : ByteArray} (h : plS s = false) : plN s ≠ s.size := fun e => by
  have hz : s.data.toList.length = s.size := Array.length_toList
  have : plS s = true := by
    unfold plS
    unfold plN at e
    rw [← hz] at e
    rw [List.all_eq_true]
    have := tw_eq _ e
    exact this
  rw [this] at h
  cases h
theorem ba_list (x y : ByteArray) : (x ++ y).data.toList = x.data.toList ++ y.data.toList := by simp
theorem ba_of (x : ByteArray) (L : List UInt8) (h : x.data.toList = L) : x = ⟨L.toArray⟩ := by
  obtain ⟨⟨l⟩⟩ := x
  simp at h
  rw [h]
theorem ba_size (L : List UInt8) : (⟨L.toArray⟩ : ByteArray).size = L.length := by simp [ByteArray.size]
end Go.Proofs.YthffcdahjcpdfaaGreatDoor

namespace Go.Proofs.YthffcdahjcpdfaaGreatDoor
open Go.RowKit Go.Extern.Stop Go.Stop Go.Extern
set_option linter.unusedVariables false
set_option linter.unusedSimpArgs false

/-! ### errors.Is where the target is a sentinel of errors.New's make -/
theorem isTypeOf (v : Value) (w : World) : (Extern.ReflectliteType.typeOf #[.iface 189 v]).run Tryz.prog w = .ok (.iface 142 (.agg #[.pointer (some ⟨9, 189, none⟩)])) w := by kernel_rfl
theorem typeRun (v : Value) (w : World) : (callFunc 49 #[.iface 189 v]).run Tryz.prog w = .ok (.value (.iface 142 (.agg #[.pointer (some ⟨9, 189, none⟩)]))) w := by
  rw [run_callFunc_extern Tryz.func49 (by kernel_rfl) (by kernel_rfl) (by kernel_rfl) (e := Extern.ReflectliteType.typeOf) (by kernel_rfl), isTypeOf]
  rfl
theorem cmpRun (w : World) : (callFunc 108 #[.agg #[.pointer (some ⟨9, 189, none⟩)]]).run Tryz.prog w = .ok (.value (.bool true)) w := by
  rw [run_callFunc_extern Tryz.func108 (by kernel_rfl) (by kernel_rfl) (by kernel_rfl) (e := Extern.ReflectliteType.method fun t => do Extern.Rtype.noPackHeld "Comparable" t; pure (.bool (← typeInfo t).comparable)) (by kernel_rfl)]
  kernel_rfl
theorem isMethodComparable (v : Value) (w : World) : (Go.method 323 142 v "Comparable").run Tryz.prog w = .ok (108, v) w := by kernel_rfl
theorem isComp : (Tryz.prog.info? 189).map (·.comparable) = some true := by kernel_rfl
theorem isSize : (Tryz.prog.info? 212).map (·.size) = some 1 := by kernel_rfl
theorem noIsE (v : Value) (xT : TypeId) (w : World) : (Instr.typeAssert (.iface 189 v) xT 144 true).run Tryz.prog w = .ok (.tuple #[.nilIface, .bool false]) w := run_typeAssert_lacksB Tryz.underlying144 (by kernel_rfl) (by kernel_rfl) v xT w
theorem noUnwrapE (v : Value) (xT : TypeId) (w : World) : (Instr.typeAssert (.iface 189 v) xT 147 true).run Tryz.prog w = .ok (.tuple #[.nilIface, .bool false]) w := run_typeAssert_lacksB Tryz.underlying147 (by kernel_rfl) (by kernel_rfl) v xT w
theorem noUnwrapsE (v : Value) (xT : TypeId) (w : World) : (Instr.typeAssert (.iface 189 v) xT 149 true).run Tryz.prog w = .ok (.tuple #[.nilIface, .bool false]) w := run_typeAssert_lacksB Tryz.underlying149 (by kernel_rfl) (by kernel_rfl) v xT w
set_option maxRecDepth 100000 in
set_option maxHeartbeats 1000000 in
/-- errors.Is(x, x). -/
theorem is_same (a : Addr) (w : World) :
    Calls Tryz.prog 40 #[.iface 189 (.pointer (some a)), .iface 189 (.pointer (some a))] w fun e w' => e = .returned (.bool true) ∧ w' = w := by
  obtain ⟨i, hi, hcmp⟩ := Option.map_eq_some_iff.1 isComp
  obtain ⟨j, hj, hjs⟩ := Option.map_eq_some_iff.1 isSize
  have h8 := typeRun
  have h32 := cmpRun
  have mR := isMethodComparable
  have heq := run_eql_iface_ptr_same (P := Tryz.prog) w a Tryz.underlying59 Tryz.underlying189 hi hcmp hj
  go_enter Tryz.func40, Tryz.ntmps40
  go_wp2
  refine wp_loop_rounds 1 ?_
  rw [rounds_succ]
  go_wp2
  go_ret
  exact ⟨rfl, rfl⟩
set_option maxRecDepth 100000 in
set_option maxHeartbeats 1000000 in
/-- errors.Is(nil, x). -/
theorem is_nil (b : Addr) (w : World) :
    Calls Tryz.prog 40 #[.nilIface, .iface 189 (.pointer (some b))] w fun e w' => e = .returned (.bool false) ∧ w' = w := by
  have hn := run_eql_iface_nil_left (P := Tryz.prog) w 189 (.pointer (some b)) Tryz.underlying59
  go_enter Tryz.func40, Tryz.ntmps40
  go_wp2
  go_ret
  exact ⟨rfl, rfl⟩
set_option maxRecDepth 100000 in
set_option maxHeartbeats 1000000 in
/-- errors.Is(x, y), two sentinels. -/
theorem is_other (a b : Addr) (ca cb : Array Value) (ta tb : TypeId) (w : World) (hne : a ≠ b) (ha : w.heap[a.block]? = some (.cells ca ta (0, 0))) (hb : w.heap[b.block]? = some (.cells cb tb (0, 0))) :
    Calls Tryz.prog 40 #[.iface 189 (.pointer (some a)), .iface 189 (.pointer (some b))] w fun e w' => e = .returned (.bool false) ∧ w' = w := by
  obtain ⟨i, hi, hcmp⟩ := Option.map_eq_some_iff.1 isComp
  obtain ⟨j, hj, hjs⟩ := Option.map_eq_some_iff.1 isSize
  have h8 := typeRun
  have h32 := cmpRun
  have mR := isMethodComparable
  have nE := noIsE
  have uE := noUnwrapE
  have vE := noUnwrapsE
  have heq := run_eql_iface_ptr_other (P := Tryz.prog) w Tryz.underlying59 Tryz.underlying189 hi hcmp hj (by rw [hjs]; decide) hne ha hb
  go_enter Tryz.func40, Tryz.ntmps40
  go_wp2
  refine wp_loop_rounds 1 ?_
  rw [rounds_succ]
  go_wp2
  go_ret
  exact ⟨rfl, rfl⟩
/-- The three errors of the package, as they lie in the world. -/
structure Snt (w : World) (a0 a1 a2 : Addr) : Prop where
  g0 : w.cell? ⟨0, 0, none⟩ = some (.iface 189 (.pointer (some a0)))
  g1 : w.cell? ⟨2, 0, none⟩ = some (.iface 189 (.pointer (some a1)))
  g2 : w.cell? ⟨1, 0, none⟩ = some (.iface 189 (.pointer (some a2)))
  n01 : a0 ≠ a1
  n12 : a1 ≠ a2
  n02 : a0 ≠ a2
  h0 : ∃ c t, w.heap[a0.block]? = some (.cells c t (0, 0))
  h1 : ∃ c t, w.heap[a1.block]? = some (.cells c t (0, 0))
  h2 : ∃ c t, w.heap[a2.block]? = some (.cells c t (0, 0))
theorem blk_below {w w' : World} {b : Nat} (hb : Below w.heap.size w w') (h : ∃ c t, w.heap[b]? = some (.cells c t (0, 0))) : ∃ c t, w'.heap[b]? = some (.cells c t (0, 0)) := by
  obtain ⟨c, t, e⟩ := h
  exact ⟨c, t, by rw [hb.block b (Array.getElem?_eq_some_iff.1 e).1]; exact e⟩
theorem Snt.below {w w' : World} {a0 a1 a2 : Addr} (h : Snt w a0 a1 a2) (hb : Below w.heap.size w w') : Snt w' a0 a1 a2 :=
  ⟨(hb.cell (block_lt_of_cell h.g0)).trans h.g0, (hb.cell (block_lt_of_cell h.g1)).trans h.g1, (hb.cell (block_lt_of_cell h.g2)).trans h.g2, h.n01, h.n12, h.n02, blk_below hb h.h0, blk_below hb h.h1, blk_below hb h.h2⟩
set_option maxRecDepth 100000 in
set_option maxHeartbeats 1000000 in
theorem number_nil (a0 a1 a2 : Addr) (w : World) (h : Snt w a0 a1 a2) : Calls Tryz.prog 13 #[.nilIface] w fun e w' => e = .returned (.int .i64 0) ∧ w' = w := by
  have H : Hid (∀ b wx, Calls Tryz.prog 40 #[.nilIface, .iface 189 (.pointer (some b))] wx fun e w' => e = .returned (.bool false) ∧ w' = wx) := fun b wx => is_nil b wx
  obtain ⟨g0, g1, g2, _, _, _, _, _, _⟩ := h
  go_enter Tryz.func13, Tryz.ntmps13
  go_wp2_with (first | (go_at_call 40; refine (H.out _ _).mono ?_; rintro e _ ⟨rfl, rfl⟩) | fail)
  go_ret
  exact ⟨rfl, rfl⟩
set_option maxRecDepth 100000 in
set_option maxHeartbeats 1000000 in
theorem number_long (a0 a1 a2 : Addr) (w : World) (h : Snt w a0 a1 a2) : Calls Tryz.prog 13 #[.iface 189 (.pointer (some a0))] w fun e w' => e = .returned (.int .i64 6) ∧ w' = w := by
  have H := Hid.mk' (is_same a0 w)
  obtain ⟨g0, g1, g2, _, _, _, _, _, _⟩ := h
  go_enter Tryz.func13, Tryz.ntmps13
  go_wp2_with (first | (go_at_call 40; refine H.out.mono ?_; rintro e _ ⟨rfl, rfl⟩) | fail)
  go_ret
  exact ⟨rfl, rfl⟩
set_option maxRecDepth 100000 in
set_option maxHeartbeats 1000000 in
theorem number_step (a0 a1 a2 : Addr) (w : World) (h : Snt w a0 a1 a2) : Calls Tryz.prog 13 #[.iface 189 (.pointer (some a1))] w fun e w' => e = .returned (.int .i64 41) ∧ w' = w := by
  have H := Hid.mk' (is_same a1 w)
  obtain ⟨c0, t0, e0⟩ := h.h0
  obtain ⟨c1, t1, e1⟩ := h.h1
  have H0 := Hid.mk' (is_other a1 a0 c1 c0 t1 t0 w (fun e => h.n01 e.symm) e1 e0)
  obtain ⟨g0, g1, g2, _, _, _, _, _, _⟩ := h
  clear e0 e1
  go_enter Tryz.func13, Tryz.ntmps13
  go_wp2_with fail
  refine H0.out.mono ?_
  rintro e _ ⟨rfl, rfl⟩
  go_wp2_with fail
  refine H.out.mono ?_
  rintro e _ ⟨rfl, rfl⟩
  go_wp2
  go_ret
  exact ⟨rfl, rfl⟩
end Go.Proofs.YthffcdahjcpdfaaGreatDoor

