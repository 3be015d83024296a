import Derived.Test.YtepkanibcljdkaaDoorGKVv
import Derived.Test.YtepkanibcljdkaaDoorGYf
import Derived.LaidEql
import Derived.Stop.Asserts
import Derived.RowKitTokens
namespace Go.Proofs.YtepkanibcljdkaaDoor
open Go.RowKit
set_option linter.unusedVariables false
set_option linter.unusedSimpArgs false

/-- Whether all bytes are such. -/
def plS (s : ByteArray) : Bool := s.data.toList.all fun c => plC c.toNat
/-- How many such bytes a text begins with. -/
def plN (s : ByteArray) : Nat := (s.data.toList.takeWhile fun c => plC c.toNat).length
theorem plS_iff (s : ByteArray) : plS s = true ↔ ∀ i, i < s.size → plC (K.V.by8 s i) = true := by
  unfold plS
  have hz : s.data.toList.length = s.size := Array.length_toList
  rw [List.all_eq_true]
  constructor
  · intro h i hi
    rw [by8_at s i (by omega)]
    exact h _ (List.getElem_mem _)
  · intro h c hc
    obtain ⟨i, hi, rfl⟩ := List.getElem_of_mem hc
    have := h i (by omega)
    rw [by8_at s i hi] at this
    exact this
theorem tw_at {f : UInt8 → Bool} : ∀ {l : List UInt8} {k : Nat}, k < l.length → (∀ j (h : j < l.length), j < k → f l[j] = true) → (∀ h : k < l.length, f l[k] = false) → (l.takeWhile f).length = k
  | [], k, h, _, _ => by simp at h
  | a :: l, 0, _, _, h => by
    have := h (by simp)
    simp at this
    simp [List.takeWhile_cons, this]
  | a :: l, k + 1, hk, h1, h2 => by
    have h0 := h1 0 (by simp) (by omega)
    simp at h0
    have ih := tw_at (f := f) (l := l) (k := k) (by simpa using hk) (fun j hj hjk => by have := h1 (j + 1) (by simpa using hj) (by omega); simpa using this) (fun hh => by have := h2 (by simpa using hh); simpa using this)
    simp [List.takeWhile_cons, h0, ih]
theorem tw_all {f : UInt8 → Bool} : ∀ l : List UInt8, (∀ x ∈ l, f x = true) → (l.takeWhile f).length = l.length
  | [], _ => rfl
  | a :: l, h => by
    have h0 := h a (by simp)
    have ih := tw_all (f := f) l fun x hx => h x (by simp [hx])
    simp [List.takeWhile_cons, h0, ih]
theorem plN_at {s : ByteArray} {k : Nat} (hk : k < s.size) (h1 : ∀ j, j < k → plC (K.V.by8 s j) = true) (h2 : plC (K.V.by8 s k) = false) : plN s = k := by
  have hz : s.data.toList.length = s.size := Array.length_toList
  refine tw_at (by omega) (fun j hj hjk => ?_) (fun h => ?_)
  · have := h1 j hjk
    rw [by8_at s j hj] at this
    exact this
  · rw [by8_at s k h] at h2
    exact h2
theorem plN_all {s : ByteArray} (h : plS s = true) : plN s = s.size := by
  have hz : s.data.toList.length = s.size := Array.length_toList
  unfold plN
  unfold plS at h
  rw [← hz]
  exact tw_all _ fun x hx => List.all_eq_true.1 h x hx
theorem plS_no {s : ByteArray} {k : Nat} (hk : k < s.size) (h : plC (K.V.by8 s k) = false) : plS s = false := by
  cases hp : plS s with
  | false => rfl
  | true => rw [(plS_iff s).1 hp k hk] at h; cases h
set_option maxRecDepth 100000 in
set_option maxHeartbeats 1000000 in
theorem psize_any (s : ByteArray) (w : World) (hs : s.size ≤ 140737488355328) :
    Calls Tryd.prog 28 #[.string s] w fun e w' => e = .returned (.int .i64 (plN s : Int)) ∧ w' = w := by
  have HX : Hid (∀ k, k < s.size → ∀ wx, (Instr.index 9 (.string s) (.int .i64 (k : Int))).run Tryd.prog wx = .ok (.int .u8 (K.V.by8 s k : Int)) wx) := fun k h wx => K.V.index_str s k wx h
  have HB := Hid.mk' (K.V.by8_lt s)
  have HC : Hid (∀ (c : Nat) (wx : World), c < 256 → Calls Tryd.prog 43 #[.int .u8 (c : Int)] wx fun e w' => e = .returned (.bool (plC c)) ∧ w' = wx) := fun c wx h => plain_any c wx h
  have BADF : Hid (∀ k, k < s.size → (∀ j, j < k → plC (K.V.by8 s j) = true) → plC (K.V.by8 s k) = false → (plN s : Int) = (k : Int)) := fun k h1 h2 h3 => by rw [plN_at h1 h2 h3]
  have GOODF : Hid ((∀ j, j < s.size → plC (K.V.by8 s j) = true) → (plN s : Int) = (s.size : Int)) := fun h => by rw [plN_all ((plS_iff s).2 h)]
  skip
  generalize (plN s : Int) = R at *
  go_enter Tryd.func28, Tryd.ntmps28
  go_wp2
  go_loopw [6] (fun i wr => ∃ k : Nat, k ≤ s.size ∧ i = .int .i64 k ∧ wr = w ∧ Hid (∀ j, j < k → plC (K.V.by8 s j) = true)) (fun i _ => s.size - (intOf i).toNat)
  case atStart => exact ⟨0, by omega, rfl, rfl, fun j hj => by omega⟩
  case round =>
    obtain ⟨k, hk, rfl, rfl, HK⟩ := hrel
    by_cases hks : k < s.size
    · have hks' : (k : Int) < (s.size : Int) := by omega
      have ix := HX.out k hks
      have HCC := Hid.mk' (HC.out (K.V.by8 s k) wr (HB.out k))
      cases hok : plC (K.V.by8 s k) with
      | true =>
        have HK2 : Hid (∀ j, j < k + 1 → plC (K.V.by8 s j) = true) := fun j hj => by
          rcases Nat.lt_or_ge j k with h | h
          · exact HK.out j h
          · obtain rfl : j = k := by omega
            exact hok
        rw [hok] at HCC
        clear hok HK
        generalize K.V.by8 s k = c at *
        go_wp2_with fail
        refine HCC.out.mono ?_
        rintro e _ ⟨rfl, rfl⟩
        go_wp2
        go_roundw
        case rel => exact ⟨k + 1, by omega, by go_num, by trivial, HK2⟩
        case measure => simp [intOf]; omega
      | false =>
        have HR := Hid.mk' (BADF.out k hks (fun j hj => HK.out j hj) hok)
        rw [hok] at HCC
        clear hok HK BADF GOODF
        generalize K.V.by8 s k = c at *
        go_wp2_with fail
        refine HCC.out.mono ?_
        rintro e _ ⟨rfl, rfl⟩
        go_wp2
        go_ret
        exact ⟨by rw [HR.out]; rfl, rfl⟩
    · have hks' : ¬ (k : Int) < (s.size : Int) := by omega
      have HR := Hid.mk' (GOODF.out (fun j hj => HK.out j (by omega)))
      clear HK BADF GOODF
      go_wp2
      go_ret
      exact ⟨by rw [HR.out]; rfl, rfl⟩
set_option maxRecDepth 100000 in
set_option maxHeartbeats 1000000 in
theorem rplain_any (s : ByteArray) (w : World) (hs : s.size ≤ 140737488355328) :
    Calls Tryd.prog 19 #[.string s] w fun e w' => e = .returned (.bool (plS s && decide (0 < s.size))) ∧ w' = w := by
  have HX : Hid (∀ k, k < s.size → ∀ wx, (Instr.index 9 (.string s) (.int .i64 (k : Int))).run Tryd.prog wx = .ok (.int .u8 (K.V.by8 s k : Int)) wx) := fun k h wx => K.V.index_str s k wx h
  have HB := Hid.mk' (K.V.by8_lt s)
  have HC : Hid (∀ (c : Nat) (wx : World), c < 256 → Calls Tryd.prog 31 #[.int .u8 (c : Int)] wx fun e w' => e = .returned (.bool (plC c)) ∧ w' = wx) := fun c wx h => rplainC_any c wx h
  have BADF : Hid (∀ k, k < s.size → (∀ j, j < k → plC (K.V.by8 s j) = true) → plC (K.V.by8 s k) = false → (plS s && decide (0 < s.size)) = false) := fun k h1 h2 h3 => by rw [plS_no h1 h3]; rfl
  have GOODF : Hid ((∀ j, j < s.size → plC (K.V.by8 s j) = true) → (plS s && decide (0 < s.size)) = decide (0 < s.size)) := fun h => by rw [(plS_iff s).2 h]; rfl
  skip
  generalize (plS s && decide (0 < s.size)) = R at *
  go_enter Tryd.func19, Tryd.ntmps19
  go_wp2
  go_loopw [3] (fun i wr => ∃ k : Nat, k ≤ s.size ∧ i = .int .i64 k ∧ wr = w ∧ Hid (∀ j, j < k → plC (K.V.by8 s j) = true)) (fun i _ => s.size - (intOf i).toNat)
  case atStart => exact ⟨0, by omega, rfl, rfl, fun j hj => by omega⟩
  case round =>
    obtain ⟨k, hk, rfl, rfl, HK⟩ := hrel
    by_cases hks : k < s.size
    · have hks' : (k : Int) < (s.size : Int) := by omega
      have ix := HX.out k hks
      have HCC := Hid.mk' (HC.out (K.V.by8 s k) wr (HB.out k))
      cases hok : plC (K.V.by8 s k) with
      | true =>
        have HK2 : Hid (∀ j, j < k + 1 → plC (K.V.by8 s j) = true) := fun j hj => by
          rcases Nat.lt_or_ge j k with h | h
          · exact HK.out j h
          · obtain rfl : j = k := by omega
            exact hok
        rw [hok] at HCC
        clear hok HK
        generalize K.V.by8 s k = c at *
        go_wp2_with fail
        refine HCC.out.mono ?_
        rintro e _ ⟨rfl, rfl⟩
        go_wp2
        go_roundw
        case rel => exact ⟨k + 1, by omega, by go_num, by trivial, HK2⟩
        case measure => simp [intOf]; omega
      | false =>
        have HR := Hid.mk' (BADF.out k hks (fun j hj => HK.out j hj) hok)
        rw [hok] at HCC
        clear hok HK BADF GOODF
        generalize K.V.by8 s k = c at *
        go_wp2_with fail
        refine HCC.out.mono ?_
        rintro e _ ⟨rfl, rfl⟩
        go_wp2
        go_ret
        exact ⟨by rw [HR.out]; rfl, rfl⟩
    · have hks' : ¬ (k : Int) < (s.size : Int) := by omega
      have HR := Hid.mk' (GOODF.out (fun j hj => HK.out j (by omega)))
      clear HK BADF GOODF
      by_cases h0 : s.size = 0
      · have e0 : s.toList.isEmpty = true := by
          rw [ByteArray.toList_eq, show s.data.toList = [] from List.eq_nil_of_length_eq_zero (by rw [Array.length_toList]; exact h0)]
          rfl
        have HR2 : Hid (R = false) := by show _ = _; rw [HR.out]; exact decide_eq_false (by omega)
        go_wp2
        go_ret
        exact ⟨by rw [HR2.out]; rfl, rfl⟩
      · have e0 : s.toList.isEmpty = false := K.V.not_empty s (by omega)
        have HR2 : Hid (R = true) := by show _ = _; rw [HR.out]; exact decide_eq_true (by omega)
        go_wp2
        go_ret
        exact ⟨by rw [HR2.out]; rfl, rfl⟩
theorem tw_eq {f : UInt8 → Bool} : ∀ l : List UInt8, (l.takeWhile f).length = l.length → ∀ x ∈ l, f x = true
  | [], _, x, hx => by cases hx
  | a :: l, h, x, hx => by
    cases ha : f a with
    | false => simp [List.takeWhile_cons, ha] at h
    | true =>
      simp [List.takeWhile_cons, ha] at h
      rcases List.mem_cons.1 hx with rfl | hx
      · exact ha
      · exact tw_eq l h x hx
theorem plN_ne {s : ByteArray} (h : plS s = false) : plN s ≠ s.size := fun e => by
  have hz : s.data.toList.length = s.size := Array.length_toList
  have : plS s = true := by
    unfold plS
    unfold plN at e
    rw [← hz] at e
    rw [List.all_eq_true]
    have := tw_eq _ e
    exact this
  rw [this] at h
  cases h
theorem ba_list (x y : ByteArray) : (x ++ y).data.toList = x.data.toList ++ y.data.toList := by simp
theorem ba_of (x : ByteArray) (L : List UInt8) (h : x.data.toList = L) : x = ⟨L.toArray⟩ := by
  obtain ⟨⟨l⟩⟩ := x
  simp at h
  rw [h]
theorem ba_size (L : List UInt8) : (⟨L.toArray⟩ : ByteArray).size = L.length := by simp [ByteArray.size]
end Go.Proofs.YtepkanibcljdkaaDoor

namespace Go.Proofs.YtepkanibcljdkaaDoor
open Go.RowKit Go.Extern.Stop Go.Stop Go.Extern
set_option linter.unusedVariables false
set_option linter.unusedSimpArgs false

/-! ### errors.Is where the target is a sentinel of errors.New's make -/
theorem isTypeOf (v : Value) (w : World) : (Extern.ReflectliteType.typeOf #[.iface 127 v]).run Tryd.prog w = .ok (.iface 90 (.agg #[.pointer (some ⟨9, 127, none⟩)])) w := by kernel_rfl
theorem typeRun (v : Value) (w : World) : (callFunc 49 #[.iface 127 v]).run Tryd.prog w = .ok (.value (.iface 90 (.agg #[.pointer (some ⟨9, 127, none⟩)]))) w := by
  rw [run_callFunc_extern Tryd.func49 (by kernel_rfl) (by kernel_rfl) (by kernel_rfl) (e := Extern.ReflectliteType.typeOf) (by kernel_rfl), isTypeOf]
  rfl
theorem cmpRun (w : World) : (callFunc 110 #[.agg #[.pointer (some ⟨9, 127, none⟩)]]).run Tryd.prog w = .ok (.value (.bool true)) w := by
  rw [run_callFunc_extern Tryd.func110 (by kernel_rfl) (by kernel_rfl) (by kernel_rfl) (e := Extern.ReflectliteType.method fun t => do Extern.Rtype.noPackHeld "Comparable" t; pure (.bool (← typeInfo t).comparable)) (by kernel_rfl)]
  kernel_rfl
theorem isMethodComparable (v : Value) (w : World) : (Go.method 261 90 v "Comparable").run Tryd.prog w = .ok (110, v) w := by kernel_rfl
theorem isComp : (Tryd.prog.info? 127).map (·.comparable) = some true := by kernel_rfl
theorem isSize : (Tryd.prog.info? 150).map (·.size) = some 1 := by kernel_rfl
theorem noIsE (v : Value) (xT : TypeId) (w : World) : (Instr.typeAssert (.iface 127 v) xT 92 true).run Tryd.prog w = .ok (.tuple #[.nilIface, .bool false]) w := run_typeAssert_lacksB Tryd.underlying92 (by kernel_rfl) (by kernel_rfl) v xT w
theorem noUnwrapE (v : Value) (xT : TypeId) (w : World) : (Instr.typeAssert (.iface 127 v) xT 95 true).run Tryd.prog w = .ok (.tuple #[.nilIface, .bool false]) w := run_typeAssert_lacksB Tryd.underlying95 (by kernel_rfl) (by kernel_rfl) v xT w
theorem noUnwrapsE (v : Value) (xT : TypeId) (w : World) : (Instr.typeAssert (.iface 127 v) xT 97 true).run Tryd.prog w = .ok (.tuple #[.nilIface, .bool false]) w := run_typeAssert_lacksB Tryd.underlying97 (by kernel_rfl) (by kernel_rfl) v xT w
set_option maxRecDepth 100000 in
set_option maxHeartbeats 1000000 in
/-- errors.Is(x, x). -/
theorem is_same (a : Addr) (w : World) :
    Calls Tryd.prog 34 #[.iface 127 (.pointer (some a)), .iface 127 (.pointer (some a))] w fun e w' => e = .returned (.bool true) ∧ w' = w := by
  obtain ⟨i, hi, hcmp⟩ := Option.map_eq_some_iff.1 isComp
  obtain ⟨j, hj, hjs⟩ := Option.map_eq_some_iff.1 isSize
  have h8 := typeRun
  have h32 := cmpRun
  have mR := isMethodComparable
  have heq := run_eql_iface_ptr_same (P := Tryd.prog) w a Tryd.underlying42 Tryd.underlying127 hi hcmp hj
  go_enter Tryd.func34, Tryd.ntmps34
  go_wp2
  refine wp_loop_rounds 1 ?_
  rw [rounds_succ]
  go_wp2
  go_ret
  exact ⟨rfl, rfl⟩
set_option maxRecDepth 100000 in
set_option maxHeartbeats 1000000 in
/-- errors.Is(nil, x). -/
theorem is_nil (b : Addr) (w : World) :
    Calls Tryd.prog 34 #[.nilIface, .iface 127 (.pointer (some b))] w fun e w' => e = .returned (.bool false) ∧ w' = w := by
  have hn := run_eql_iface_nil_left (P := Tryd.prog) w 127 (.pointer (some b)) Tryd.underlying42
  go_enter Tryd.func34, Tryd.ntmps34
  go_wp2
  go_ret
  exact ⟨rfl, rfl⟩
set_option maxRecDepth 100000 in
set_option maxHeartbeats 1000000 in
/-- errors.Is(x, y), two sentinels. -/
theorem is_other (a b : Addr) (ca cb : Array Value) (ta tb : TypeId) (w : World) (hne : a ≠ b) (ha : w.heap[a.block]? = some (.cells ca ta (0, 0))) (hb : w.heap[b.block]? = some (.cells cb tb (0, 0))) :
    Calls Tryd.prog 34 #[.iface 127 (.pointer (some a)), .iface 127 (.pointer (some b))] w fun e w' => e = .returned (.bool false) ∧ w' = w := by
  obtain ⟨i, hi, hcmp⟩ := Option.map_eq_some_iff.1 isComp
  obtain ⟨j, hj, hjs⟩ := Option.map_eq_some_iff.1 isSize
  have h8 := typeRun
  have h32 := cmpRun
  have mR := isMethodComparable
  have nE := noIsE
  have uE := noUnwrapE
  have vE := noUnwrapsE
  have heq := run_eql_iface_ptr_other (P := Tryd.prog) w Tryd.underlying42 Tryd.underlying127 hi hcmp hj (by rw [hjs]; decide) hne ha hb
  go_enter Tryd.func34, Tryd.ntmps34
  go_wp2
  refine wp_loop_rounds 1 ?_
  rw [rounds_succ]
  go_wp2
  go_ret
  exact ⟨rfl, rfl⟩
/-- The three errors of the package, as they lie in the world. -/
structure Snt (w : World) (a0 a1 a2 : Addr) : Prop where
  g0 : w.cell? ⟨0, 0, none⟩ = some (.iface 127 (.pointer (some a0)))
  g1 : w.cell? ⟨1, 0, none⟩ = some (.iface 127 (.pointer (some a1)))
  g2 : w.cell? ⟨2, 0, none⟩ = some (.iface 127 (.pointer (some a2)))
  n01 : a0 ≠ a1
  n12 : a1 ≠ a2
  n02 : a0 ≠ a2
  h0 : ∃ c t, w.heap[a0.block]? = some (.cells c t (0, 0))
  h1 : ∃ c t, w.heap[a1.block]? = some (.cells c t (0, 0))
  h2 : ∃ c t, w.heap[a2.block]? = some (.cells c t (0, 0))
theorem blk_below {w w' : World} {b : Nat} (hb : Below w.heap.size w w') (h : ∃ c t, w.heap[b]? = some (.cells c t (0, 0))) : ∃ c t, w'.heap[b]? = some (.cells c t (0, 0)) := by
  obtain ⟨c, t, e⟩ := h
  exact ⟨c, t, by rw [hb.block b (Array.getElem?_eq_some_iff.1 e).1]; exact e⟩
theorem Snt.below {w w' : World} {a0 a1 a2 : Addr} (h : Snt w a0 a1 a2) (hb : Below w.heap.size w w') : Snt w' a0 a1 a2 :=
  ⟨(hb.cell (block_lt_of_cell h.g0)).trans h.g0, (hb.cell (block_lt_of_cell h.g1)).trans h.g1, (hb.cell (block_lt_of_cell h.g2)).trans h.g2, h.n01, h.n12, h.n02, blk_below hb h.h0, blk_below hb h.h1, blk_below hb h.h2⟩
set_option maxRecDepth 100000 in
set_option maxHeartbeats 1000000 in
theorem number_nil (a0 a1 a2 : Addr) (w : World) (h : Snt w a0 a1 a2) : Calls Tryd.prog 21 #[.nilIface] w fun e w' => e = .returned (.int .i64 0) ∧ w' = w := by
  have H : Hid (∀ b wx, Calls Tryd.prog 34 #[.nilIface, .iface 127 (.pointer (some b))] wx fun e w' => e = .returned (.bool false) ∧ w' = wx) := fun b wx => is_nil b wx
  obtain ⟨g0, g1, g2, _, _, _, _, _, _⟩ := h
  go_enter Tryd.func21, Tryd.ntmps21
  go_wp2_with (first | (go_at_call 34; refine (H.out _ _).mono ?_; rintro e _ ⟨rfl, rfl⟩) | fail)
  go_ret
  exact ⟨rfl, rfl⟩
set_option maxRecDepth 100000 in
set_option maxHeartbeats 1000000 in
theorem number_long (a0 a1 a2 : Addr) (w : World) (h : Snt w a0 a1 a2) : Calls Tryd.prog 21 #[.iface 127 (.pointer (some a0))] w fun e w' => e = .returned (.int .i64 6) ∧ w' = w := by
  have H := Hid.mk' (is_same a0 w)
  obtain ⟨g0, g1, g2, _, _, _, _, _, _⟩ := h
  go_enter Tryd.func21, Tryd.ntmps21
  go_wp2_with (first | (go_at_call 34; refine H.out.mono ?_; rintro e _ ⟨rfl, rfl⟩) | fail)
  go_ret
  exact ⟨rfl, rfl⟩
set_option maxRecDepth 100000 in
set_option maxHeartbeats 1000000 in
theorem number_step (a0 a1 a2 : Addr) (w : World) (h : Snt w a0 a1 a2) : Calls Tryd.prog 21 #[.iface 127 (.pointer (some a1))] w fun e w' => e = .returned (.int .i64 41) ∧ w' = w := by
  have H := Hid.mk' (is_same a1 w)
  obtain ⟨c0, t0, e0⟩ := h.h0
  obtain ⟨c1, t1, e1⟩ := h.h1
  have H0 := Hid.mk' (is_other a1 a0 c1 c0 t1 t0 w (fun e => h.n01 e.symm) e1 e0)
  obtain ⟨g0, g1, g2, _, _, _, _, _, _⟩ := h
  clear e0 e1
  go_enter Tryd.func21, Tryd.ntmps21
  go_wp2_with fail
  refine H0.out.mono ?_
  rintro e _ ⟨rfl, rfl⟩
  go_wp2_with fail
  refine H.out.mono ?_
  rintro e _ ⟨rfl, rfl⟩
  go_wp2
  go_ret
  exact ⟨rfl, rfl⟩
end Go.Proofs.YtepkanibcljdkaaDoor

namespace Go.Proofs.YtepkanibcljdkaaDoor
open Go.RowKit
set_option linter.unusedVariables false
set_option linter.unusedSimpArgs false

/-- Whether a step is right. -/
def stepB (p : St) : Bool := if p.k = 1 then keyB p.s && decide (p.n = 0) else if p.k = 2 ∨ p.k = 3 then decide (p.s.size = 0) && decide (0 ≤ p.n) && decide (p.n ≤ 2147483647) else false
/-- What is wrong with a way. -/
def rightL (l : List St) : Int := if 32 < l.length then 6 else if l.all stepB = true then 0 else 41
theorem empty_size {s : ByteArray} (h : s.size = 0) : s.toList.isEmpty = true := by
  rw [ByteArray.toList_eq, show s.data.toList = [] from List.eq_nil_of_length_eq_zero (by rw [Array.length_toList]; exact h)]
  rfl
set_option maxRecDepth 100000 in
set_option maxHeartbeats 2000000 in
theorem step_any (k : Int) (s : ByteArray) (n : Int) (w : World) (hT : K.V.Tabs w) :
    Calls Tryd.prog 35 #[.agg #[.int .u8 k, .string s, .int .i64 n]] w fun e w' => e = .returned (.bool (stepB ⟨k, s, n⟩)) ∧ Below w.heap.size w w' := by
  by_cases h1 : k = 1
  · subst h1
    obtain ⟨W0, hW0⟩ : ∃ W, W = w.alloc (.cells #[.int .u8 1, .string s, .int .i64 n] 35) := ⟨_, rfl⟩
    have bw : Below w.heap.size w W0 := by rw [hW0]; exact (Below.refl _ _).alloc (Nat.le_refl _) _
    have g := heap_alloc_new w (.cells #[.int .u8 1, .string s, .int .i64 n] 35)
    rw [← hW0] at g
    have H := Hid.mk' (wkey_any s W0 (hT.below bw))
    have HX : Hid (∀ w1, Below W0.heap.size W0 w1 → w1.cell? ⟨w.heap.size, 2, none⟩ = some (.int .i64 n) ∧ Below w.heap.size w w1) := fun w1 hb => by
      have c2 : W0.cell? ⟨w.heap.size, 2, none⟩ = some (.int .i64 n) := (cell_of_row _ _ 2 _ _ _ g).trans rfl
      exact ⟨(hb.cell (block_lt_of_cell c2)).trans c2, bw.trans (hb.mono bw.size)⟩
    have HW0 := Hid.mk' hW0
    have HB : Hid (stepB ⟨1, s, n⟩ = (keyB s && decide (n = 0))) := rfl
    generalize stepB ⟨1, s, n⟩ = B at *
    generalize keyB s = Q at *
    clear g bw hW0 hT
    go_enter Tryd.func35, Tryd.ntmps35
    go_wp2_with fail
    rw [← HW0.out]
    refine H.out.mono ?_
    rintro e w1 ⟨rfl, b1⟩
    skip
    obtain ⟨c2, bb⟩ := HX.out _ (b1)
    have BB := Hid.mk' bb
    clear H HX HW0 bb
    cases Q with
    | true =>
      by_cases hn : n = 0
      · have HB2 : Hid (B = true) := by show _ = _; rw [HB.out, decide_eq_true hn]; rfl
        clear HB
        go_wp2
        go_ret
        exact ⟨by rw [HB2.out]; rfl, BB.out⟩
      · have HB2 : Hid (B = false) := by show _ = _; rw [HB.out, decide_eq_false hn]; rfl
        clear HB
        go_wp2
        go_ret
        exact ⟨by rw [HB2.out]; simp [hn], BB.out⟩
    | false =>
      have HB2 : Hid (B = false) := HB.out
      clear HB
      go_wp2
      go_ret
      exact ⟨by rw [HB2.out]; rfl, BB.out⟩
  · by_cases h23 : k = 2 ∨ k = 3
    · have HB : Hid (stepB ⟨k, s, n⟩ = (decide (s.size = 0) && decide (0 ≤ n) && decide (n ≤ 2147483647))) := by
        show _ = _
        unfold stepB
        rw [if_neg h1, if_pos h23]
      generalize stepB ⟨k, s, n⟩ = B at *
      clear hT
      by_cases hz : s.size = 0
      · have e0 : s.toList.isEmpty = true := empty_size hz
        by_cases hn : 0 ≤ n
        · by_cases hm : n ≤ 2147483647
          · have HB2 : Hid (B = true) := by show _ = _; rw [HB.out, decide_eq_true hz, decide_eq_true hn, decide_eq_true hm]; rfl
            clear HB
            rcases h23 with rfl | rfl
            · go_enter Tryd.func35, Tryd.ntmps35
              go_wp2
              go_ret
              exact ⟨by rw [HB2.out]; rfl, (Below.refl _ _).alloc (Nat.le_refl _) _⟩
            · go_enter Tryd.func35, Tryd.ntmps35
              go_wp2
              go_ret
              exact ⟨by rw [HB2.out]; rfl, (Below.refl _ _).alloc (Nat.le_refl _) _⟩
          · have HB2 : Hid (B = false) := by show _ = _; rw [HB.out, decide_eq_true hz, decide_eq_true hn, decide_eq_false hm]; rfl
            clear HB
            rcases h23 with rfl | rfl
            · go_enter Tryd.func35, Tryd.ntmps35
              go_wp2
              go_ret
              exact ⟨by rw [HB2.out]; rfl, (Below.refl _ _).alloc (Nat.le_refl _) _⟩
            · go_enter Tryd.func35, Tryd.ntmps35
              go_wp2
              go_ret
              exact ⟨by rw [HB2.out]; rfl, (Below.refl _ _).alloc (Nat.le_refl _) _⟩
        · have HB2 : Hid (B = false) := by show _ = _; rw [HB.out, decide_eq_true hz, decide_eq_false hn]; rfl
          clear HB
          rcases h23 with rfl | rfl
          · go_enter Tryd.func35, Tryd.ntmps35
            go_wp2
            go_ret
            exact ⟨by rw [HB2.out]; rfl, (Below.refl _ _).alloc (Nat.le_refl _) _⟩
          · go_enter Tryd.func35, Tryd.ntmps35
            go_wp2
            go_ret
            exact ⟨by rw [HB2.out]; rfl, (Below.refl _ _).alloc (Nat.le_refl _) _⟩
      · have e0 : s.toList.isEmpty = false := K.V.not_empty s (by omega)
        have HB2 : Hid (B = false) := by show _ = _; rw [HB.out, decide_eq_false hz]; rfl
        clear HB
        rcases h23 with rfl | rfl
        · go_enter Tryd.func35, Tryd.ntmps35
          go_wp2
          go_ret
          exact ⟨by rw [HB2.out]; rfl, (Below.refl _ _).alloc (Nat.le_refl _) _⟩
        · go_enter Tryd.func35, Tryd.ntmps35
          go_wp2
          go_ret
          exact ⟨by rw [HB2.out]; rfl, (Below.refl _ _).alloc (Nat.le_refl _) _⟩
    · have HB : Hid (stepB ⟨k, s, n⟩ = false) := by
        show _ = _
        unfold stepB
        rw [if_neg h1, if_neg h23]
      generalize stepB ⟨k, s, n⟩ = B at *
      clear hT
      have h2 : ¬ k = 2 := fun h => h23 (.inl h)
      have h3 : ¬ k = 3 := fun h => h23 (.inr h)
      clear h23
      go_enter Tryd.func35, Tryd.ntmps35
      go_wp2
      go_ret
      exact ⟨by rw [HB.out]; rfl, (Below.refl _ _).alloc (Nat.le_refl _) _⟩
set_option maxRecDepth 100000 in
set_option maxHeartbeats 2000000 in
theorem rstep_any (k : Int) (s : ByteArray) (n : Int) (w : World) :
    Calls Tryd.prog 23 #[.agg #[.int .u8 k, .string s, .int .i64 n]] w fun e w' => e = .returned (.bool (stepB ⟨k, s, n⟩)) ∧ Below w.heap.size w w' := by
  by_cases h1 : k = 1
  · subst h1
    obtain ⟨W0, hW0⟩ : ∃ W, W = w.alloc (.cells #[.int .u8 1, .string s, .int .i64 n] 35) := ⟨_, rfl⟩
    have bw : Below w.heap.size w W0 := by rw [hW0]; exact (Below.refl _ _).alloc (Nat.le_refl _) _
    have g := heap_alloc_new w (.cells #[.int .u8 1, .string s, .int .i64 n] 35)
    rw [← hW0] at g
    have H := Hid.mk' (rkey_any s W0)
    have HX : Hid (∀ w1, Below W0.heap.size W0 w1 → w1.cell? ⟨w.heap.size, 2, none⟩ = some (.int .i64 n) ∧ Below w.heap.size w w1) := fun w1 hb => by
      have c2 : W0.cell? ⟨w.heap.size, 2, none⟩ = some (.int .i64 n) := (cell_of_row _ _ 2 _ _ _ g).trans rfl
      exact ⟨(hb.cell (block_lt_of_cell c2)).trans c2, bw.trans (hb.mono bw.size)⟩
    have HW0 := Hid.mk' hW0
    have HB : Hid (stepB ⟨1, s, n⟩ = (keyB s && decide (n = 0))) := rfl
    generalize stepB ⟨1, s, n⟩ = B at *
    generalize keyB s = Q at *
    clear g bw hW0 
    go_enter Tryd.func23, Tryd.ntmps23
    go_wp2_with fail
    rw [← HW0.out]
    refine H.out.mono ?_
    rintro e w1 ⟨rfl, b1⟩
    subst b1
    obtain ⟨c2, bb⟩ := HX.out _ (Below.refl _ _)
    have BB := Hid.mk' bb
    clear H HX HW0 bb
    cases Q with
    | true =>
      by_cases hn : n = 0
      · have HB2 : Hid (B = true) := by show _ = _; rw [HB.out, decide_eq_true hn]; rfl
        clear HB
        go_wp2
        go_ret
        exact ⟨by rw [HB2.out]; rfl, BB.out⟩
      · have HB2 : Hid (B = false) := by show _ = _; rw [HB.out, decide_eq_false hn]; rfl
        clear HB
        go_wp2
        go_ret
        exact ⟨by rw [HB2.out]; simp [hn], BB.out⟩
    | false =>
      have HB2 : Hid (B = false) := HB.out
      clear HB
      go_wp2
      go_ret
      exact ⟨by rw [HB2.out]; rfl, BB.out⟩
  · by_cases h23 : k = 2 ∨ k = 3
    · have HB : Hid (stepB ⟨k, s, n⟩ = (decide (s.size = 0) && decide (0 ≤ n) && decide (n ≤ 2147483647))) := by
        show _ = _
        unfold stepB
        rw [if_neg h1, if_pos h23]
      generalize stepB ⟨k, s, n⟩ = B at *
      skip
      by_cases hz : s.size = 0
      · have e0 : s.toList.isEmpty = true := empty_size hz
        by_cases hn : 0 ≤ n
        · by_cases hm : n ≤ 2147483647
          · have HB2 : Hid (B = true) := by show _ = _; rw [HB.out, decide_eq_true hz, decide_eq_true hn, decide_eq_true hm]; rfl
            clear HB
            rcases h23 with rfl | rfl
            · go_enter Tryd.func23, Tryd.ntmps23
              go_wp2
              go_ret
              exact ⟨by rw [HB2.out]; rfl, (Below.refl _ _).alloc (Nat.le_refl _) _⟩
            · go_enter Tryd.func23, Tryd.ntmps23
              go_wp2
              go_ret
              exact ⟨by rw [HB2.out]; rfl, (Below.refl _ _).alloc (Nat.le_refl _) _⟩
          · have HB2 : Hid (B = false) := by show _ = _; rw [HB.out, decide_eq_true hz, decide_eq_true hn, decide_eq_false hm]; rfl
            clear HB
            rcases h23 with rfl | rfl
            · go_enter Tryd.func23, Tryd.ntmps23
              go_wp2
              go_ret
              exact ⟨by rw [HB2.out]; rfl, (Below.refl _ _).alloc (Nat.le_refl _) _⟩
            · go_enter Tryd.func23, Tryd.ntmps23
              go_wp2
              go_ret
              exact ⟨by rw [HB2.out]; rfl, (Below.refl _ _).alloc (Nat.le_refl _) _⟩
        · have HB2 : Hid (B = false) := by show _ = _; rw [HB.out, decide_eq_true hz, decide_eq_false hn]; rfl
          clear HB
          rcases h23 with rfl | rfl
          · go_enter Tryd.func23, Tryd.ntmps23
            go_wp2
            go_ret
            exact ⟨by rw [HB2.out]; rfl, (Below.refl _ _).alloc (Nat.le_refl _) _⟩
          · go_enter Tryd.func23, Tryd.ntmps23
            go_wp2
            go_ret
            exact ⟨by rw [HB2.out]; rfl, (Below.refl _ _).alloc (Nat.le_refl _) _⟩
      · have e0 : s.toList.isEmpty = false := K.V.not_empty s (by omega)
        have HB2 : Hid (B = false) := by show _ = _; rw [HB.out, decide_eq_false hz]; rfl
        clear HB
        rcases h23 with rfl | rfl
        · go_enter Tryd.func23, Tryd.ntmps23
          go_wp2
          go_ret
          exact ⟨by rw [HB2.out]; rfl, (Below.refl _ _).alloc (Nat.le_refl _) _⟩
        · go_enter Tryd.func23, Tryd.ntmps23
          go_wp2
          go_ret
          exact ⟨by rw [HB2.out]; rfl, (Below.refl _ _).alloc (Nat.le_refl _) _⟩
    · have HB : Hid (stepB ⟨k, s, n⟩ = false) := by
        show _ = _
        unfold stepB
        rw [if_neg h1, if_neg h23]
      generalize stepB ⟨k, s, n⟩ = B at *
      skip
      have h2 : ¬ k = 2 := fun h => h23 (.inl h)
      have h3 : ¬ k = 3 := fun h => h23 (.inr h)
      clear h23
      go_enter Tryd.func23, Tryd.ntmps23
      go_wp2
      go_ret
      exact ⟨by rw [HB.out]; rfl, (Below.refl _ _).alloc (Nat.le_refl _) _⟩
theorem all_no {l : List St} {k : Nat} {p : St} (h : l[k]? = some p) (hp : stepB p = false) : l.all stepB = false := by
  cases ha : l.all stepB with
  | false => rfl
  | true =>
    have := List.all_eq_true.1 ha p (List.mem_of_getElem? h)
    rw [hp] at this
    cases this
theorem all_yes {l : List St} (h : ∀ (i : Nat) (p : St), l[i]? = some p → stepB p = true) : l.all stepB = true := by
  rw [List.all_eq_true]
  intro p hp
  obtain ⟨i, hi⟩ := List.getElem?_of_mem hp
  exact h i p hi
set_option maxRecDepth 100000 in
set_option maxHeartbeats 2000000 in
theorem rright_l (a : Option Addr) (l : List St) (c : Nat) (w : World) (ha : Sts w a l) (hl : l.length ≤ 140737488355328) :
    Calls Tryd.prog 12 #[.slice a l.length c] w fun e w' => e = .returned (.int .i64 (rightL l)) ∧ Below w.heap.size w w' := by
  obtain ⟨VV, hVV⟩ : ∃ V, V = rightL l := ⟨_, rfl⟩
  have hv1 : 32 < l.length → VV = 6 := fun h => by rw [hVV]; unfold rightL; rw [if_pos h]
  have hv2 : l.length ≤ 32 → l.all stepB = true → VV = 0 := fun h h2 => by rw [hVV]; unfold rightL; rw [if_neg (by omega), if_pos h2]
  have hv3 : l.length ≤ 32 → l.all stepB = false → VV = 41 := fun h h2 => by rw [hVV]; unfold rightL; rw [if_neg (by omega), if_neg (by rw [h2]; decide)]
  rw [← hVV]
  clear hVV
  have HA := Hid.mk' (fun wx (h : Below w.heap.size w wx) => ha.below h)
  obtain ⟨n, hn⟩ : ∃ n, n = l.length := ⟨_, rfl⟩
  have HR : Hid ((32 < n → VV = 6) ∧ (n ≤ 32 → l.all stepB = true → VV = 0) ∧ (n ≤ 32 → l.all stepB = false → VV = 41)) := by
    rw [hn]
    exact ⟨hv1, hv2, hv3⟩
  rw [← hn] at hl ⊢
  have HN := Hid.mk' hn
  clear ha hn hv1 hv2 hv3
  by_cases h32 : 32 < n
  · have h32' : (32 : Int) < (n : Int) := by omega
    have HV : Hid (VV = 6) := HR.out.1 h32
    clear HR
    go_enter Tryd.func12, Tryd.ntmps12
    go_wp2
    go_ret
    exact ⟨by rw [HV.out]; rfl, Below.refl _ _⟩
  · have h32' : ¬ (32 : Int) < (n : Int) := by omega
    go_enter Tryd.func12, Tryd.ntmps12
    go_wp2
    go_loopw [3] (fun i wr => ∃ k : Nat, k ≤ n ∧ i = .int .i64 k ∧ Hid (Below w.heap.size w wr) ∧ Hid (∀ (j : Nat) (p : St), j < k → l[j]? = some p → stepB p = true)) (fun i _ => n - (intOf i).toNat)
    case atStart => exact ⟨0, by omega, rfl, Below.refl _ _, fun j p hj => by omega⟩
    case round =>
      obtain ⟨k, hk, rfl, HW, HK⟩ := hrel
      by_cases hkn : k < n
      · have hkn' : (k : Int) < (n : Int) := by omega
        obtain ⟨b1, o1, p, rfl, hp, c0, c1, c2⟩ := (HA.out wr HW.out).at (i := k) (by rw [← HN.out]; omega)
        have HP := Hid.mk' hp
        have ix := fun wx => indexS b1 o1 n c k wx hkn
        clear hp
        obtain ⟨pk, ps, pn⟩ := p
        simp only [] at c0 c1 c2
        have HST : Hid (Calls Tryd.prog 23 #[.agg #[.int .u8 pk, .string ps, .int .i64 pn]] wr fun e w' => e = .returned (.bool (stepB ⟨pk, ps, pn⟩)) ∧ Below wr.heap.size wr w') := rstep_any pk ps pn wr
        generalize hB : stepB ⟨pk, ps, pn⟩ = B at *
        cases B with
        | true =>
          have HK2 : Hid (∀ (j : Nat) (p : St), j < k + 1 → l[j]? = some p → stepB p = true) := fun j p hj hpj => by
            rcases Nat.lt_or_ge j k with h | h
            · exact HK.out j p h hpj
            · obtain rfl : j = k := by omega
              obtain rfl := Option.some.inj (HP.out.symm.trans hpj)
              exact hB
          clear hB HK HP
          go_wp2_with fail
          refine HST.out.mono ?_
          rintro e w1 ⟨rfl, b1⟩
          have BW : Hid (Below w.heap.size w w1) := HW.out.trans (b1.mono HW.out.size)
          clear b1 HST
          go_wp2
          go_roundw
          case rel => exact ⟨k + 1, by omega, by go_num, BW, HK2⟩
          case measure => simp [intOf]; omega
        | false =>
          have HV : Hid (VV = 41) := HR.out.2.2 (by omega) (all_no HP.out hB)
          clear hB HK HP HR
          go_wp2_with fail
          refine HST.out.mono ?_
          rintro e w1 ⟨rfl, b1⟩
          have BW : Hid (Below w.heap.size w w1) := HW.out.trans (b1.mono HW.out.size)
          clear b1 HST
          go_wp2
          go_ret
          exact ⟨by rw [HV.out]; rfl, BW.out⟩
      · have hkn' : ¬ (k : Int) < (n : Int) := by omega
        have HV : Hid (VV = 0) := HR.out.2.1 (by omega) (all_yes fun i p hi => HK.out i p (by have := (List.getElem?_eq_some_iff.1 hi).1; rw [← HN.out] at this; omega) hi)
        clear HR HK
        go_wp2
        go_ret
        exact ⟨by rw [HV.out]; rfl, HW.out⟩
/-- The error that check tells. -/
def chkV (l : List St) (a0 a1 : Addr) : Value := if 32 < l.length then .iface 127 (.pointer (some a0)) else if l.all stepB = true then .nilIface else .iface 127 (.pointer (some a1))
set_option maxRecDepth 100000 in
set_option maxHeartbeats 2000000 in
theorem check_l (a : Option Addr) (l : List St) (c : Nat) (w : World) (ha : Sts w a l) (hl : l.length ≤ 140737488355328) (hT : K.V.Tabs w) (a0 a1 a2 : Addr) (hE : Snt w a0 a1 a2) :
    Calls Tryd.prog 22 #[.slice a l.length c] w fun e w' => e = .returned (chkV l a0 a1) ∧ Below w.heap.size w w' := by
  obtain ⟨VV, hVV⟩ : ∃ V, V = chkV l a0 a1 := ⟨_, rfl⟩
  have hv1 : 32 < l.length → VV = .iface 127 (.pointer (some a0)) := fun h => by rw [hVV]; unfold chkV; rw [if_pos h]
  have hv2 : l.length ≤ 32 → l.all stepB = true → VV = .nilIface := fun h h2 => by rw [hVV]; unfold chkV; rw [if_neg (by omega), if_pos h2]
  have hv3 : l.length ≤ 32 → l.all stepB = false → VV = .iface 127 (.pointer (some a1)) := fun h h2 => by rw [hVV]; unfold chkV; rw [if_neg (by omega), if_neg (by rw [h2]; decide)]
  rw [← hVV]
  have HTT := Hid.mk' hT
  have HEE := Hid.mk' hE
  have eg0 := hE.g0
  clear hVV hT hE
  have HA := Hid.mk' (fun wx (h : Below w.heap.size w wx) => ha.below h)
  obtain ⟨n, hn⟩ : ∃ n, n = l.length := ⟨_, rfl⟩
  have HR : Hid ((32 < n → VV = .iface 127 (.pointer (some a0))) ∧ (n ≤ 32 → l.all stepB = true → VV = .nilIface) ∧ (n ≤ 32 → l.all stepB = false → VV = .iface 127 (.pointer (some a1)))) := by
    rw [hn]
    exact ⟨hv1, hv2, hv3⟩
  rw [← hn] at hl ⊢
  have HN := Hid.mk' hn
  clear ha hn hv1 hv2 hv3
  by_cases h32 : 32 < n
  · have h32' : (32 : Int) < (n : Int) := by omega
    have HV : Hid (VV = .iface 127 (.pointer (some a0))) := HR.out.1 h32
    clear HR
    go_enter Tryd.func22, Tryd.ntmps22
    go_wp2
    go_ret
    exact ⟨by rw [HV.out]; rfl, Below.refl _ _⟩
  · have h32' : ¬ (32 : Int) < (n : Int) := by omega
    go_enter Tryd.func22, Tryd.ntmps22
    go_wp2
    go_loopw [11] (fun i wr => ∃ k : Nat, k ≤ n ∧ i = .int .i64 k ∧ Hid (Below w.heap.size w wr) ∧ Hid (∀ (j : Nat) (p : St), j < k → l[j]? = some p → stepB p = true)) (fun i _ => n - (intOf i).toNat)
    case atStart => exact ⟨0, by omega, rfl, Below.refl _ _, fun j p hj => by omega⟩
    case round =>
      obtain ⟨k, hk, rfl, HW, HK⟩ := hrel
      by_cases hkn : k < n
      · have hkn' : (k : Int) < (n : Int) := by omega
        obtain ⟨b1, o1, p, rfl, hp, c0, c1, c2⟩ := (HA.out wr HW.out).at (i := k) (by rw [← HN.out]; omega)
        have HP := Hid.mk' hp
        have ix := fun wx => indexS b1 o1 n c k wx hkn
        clear hp
        obtain ⟨pk, ps, pn⟩ := p
        simp only [] at c0 c1 c2
        obtain ⟨W1, hW1⟩ : ∃ W, W = wr.alloc (.cells #[.int .u8 pk, .string ps, .int .i64 pn] 35) := ⟨_, rfl⟩
        have bw1 : Below w.heap.size w W1 := HW.out.trans (by rw [hW1]; exact ((Below.refl _ _).alloc (Nat.le_refl _) _).mono HW.out.size)
        have HST : Hid (Calls Tryd.prog 35 #[.agg #[.int .u8 pk, .string ps, .int .i64 pn]] W1 fun e w' => e = .returned (.bool (stepB ⟨pk, ps, pn⟩)) ∧ Below W1.heap.size W1 w') := step_any pk ps pn W1 (HTT.out.below bw1)
        rw [hW1] at HST bw1
        clear hW1
        generalize hB : stepB ⟨pk, ps, pn⟩ = B at *
        cases B with
        | true =>
          have HK2 : Hid (∀ (j : Nat) (p : St), j < k + 1 → l[j]? = some p → stepB p = true) := fun j p hj hpj => by
            rcases Nat.lt_or_ge j k with h | h
            · exact HK.out j p h hpj
            · obtain rfl : j = k := by omega
              obtain rfl := Option.some.inj (HP.out.symm.trans hpj)
              exact hB
          clear hB HK HP
          go_wp2_with fail
          refine HST.out.mono ?_
          rintro e w1 ⟨rfl, b1⟩
          have BW : Hid (Below w.heap.size w w1) := bw1.trans (b1.mono bw1.size)
          clear b1 HST
          go_wp2
          go_roundw
          case rel => exact ⟨k + 1, by omega, by go_num, BW, HK2⟩
          case measure => simp [intOf]; omega
        | false =>
          have HV : Hid (VV = .iface 127 (.pointer (some a1))) := HR.out.2.2 (by omega) (all_no HP.out hB)
          clear hB HK HP HR
          go_wp2_with fail
          refine HST.out.mono ?_
          rintro e w1 ⟨rfl, b1⟩
          have BW : Hid (Below w.heap.size w w1) := bw1.trans (b1.mono bw1.size)
          clear b1 HST
          have eg1 := (HEE.out.below BW.out).g1
          go_wp2
          go_ret
          exact ⟨by rw [HV.out]; rfl, BW.out⟩
      · have hkn' : ¬ (k : Int) < (n : Int) := by omega
        have HV : Hid (VV = .nilIface) := HR.out.2.1 (by omega) (all_yes fun i p hi => HK.out i p (by have := (List.getElem?_eq_some_iff.1 hi).1; rw [← HN.out] at this; omega) hi)
        clear HR HK
        go_wp2
        go_ret
        exact ⟨by rw [HV.out]; rfl, HW.out⟩
set_option maxRecDepth 100000 in
set_option maxHeartbeats 2000000 in
theorem right_l (a : Option Addr) (l : List St) (c : Nat) (w : World) (ha : Sts w a l) (hl : l.length ≤ 140737488355328) (hT : K.V.Tabs w) (a0 a1 a2 : Addr) (hE : Snt w a0 a1 a2) :
    Calls Tryd.prog 11 #[.slice a l.length c] w fun e w' => e = .returned (.int .i64 (rightL l)) ∧ Below w.heap.size w w' := by
  have HC := Hid.mk' (check_l a l c w ha hl hT a0 a1 a2 hE)
  have HN : Hid (∀ wx, Below w.heap.size w wx → Calls Tryd.prog 21 #[chkV l a0 a1] wx fun e w' => e = .returned (.int .i64 (rightL l)) ∧ w' = wx) := fun wx hb => by
    have hE2 := hE.below hb
    unfold chkV rightL
    by_cases h : 32 < l.length
    · rw [if_pos h, if_pos h]; exact number_long a0 a1 a2 wx hE2
    · rw [if_neg h, if_neg h]
      by_cases h2 : l.all stepB = true
      · rw [if_pos h2, if_pos h2]; exact number_nil a0 a1 a2 wx hE2
      · rw [if_neg h2, if_neg h2]; exact number_step a0 a1 a2 wx hE2
  generalize chkV l a0 a1 = V at *
  generalize rightL l = R at *
  generalize l.length = n at *
  clear ha hT hE
  go_enter Tryd.func11, Tryd.ntmps11
  go_wp2_with fail
  refine HC.out.mono ?_
  rintro e w1 ⟨rfl, b1⟩
  have HN2 := Hid.mk' (HN.out w1 b1)
  clear HN HC
  go_wp2_with fail
  refine HN2.out.mono ?_
  rintro e _ ⟨rfl, rfl⟩
  go_wp2
  go_ret
  exact ⟨rfl, b1⟩
end Go.Proofs.YtepkanibcljdkaaDoor

