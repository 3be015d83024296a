import Derived.Test.YtdajeabhhkgibaaKPr
import Derived.Test.YtdajeabhhkgibaaVv
namespace Go.Proofs.Ytdajeabhhkgibaa.K
open Go.RowKit
set_option linter.unusedVariables false
set_option linter.unusedSimpArgs false

set_option maxHeartbeats 2000000 in
theorem clone_gen (ad : Addr) (n cap : Nat) (l : List UInt8) (w : World) (hl : l.length = n) (hn : n ≤ 140737488355328) (hb : Byt w (some ad) l) :
    Calls Try.prog 105 #[.slice (some ad) n cap] w fun e w' => ∃ v, e = .returned v ∧ OwnB w' w.heap.size v l ∧ Below w.heap.size w w' := by
  have hnil : ∀ W, (binOp .eql 53 (.slice (some ad) n cap) (.slice none 0 0)).run Try.prog W = .ok (.bool false) W := fun W => Lib.run_eql_slice_some_nil W _ _ _ Try.underlying53
  have O0 : Hid (OwnB (w.alloc (.cells #[] 5)) w.heap.size (.slice (some ⟨w.heap.size, 0, none⟩) 0 0) []) := ⟨rfl, .inr ⟨w.heap.size, 0, #[], rfl, Nat.le_refl _, heap_alloc_new _ _, by simp, by simp [maxLen], rfl, rfl⟩⟩
  have be0 : Below w.heap.size w (w.alloc (.cells #[] 5)) := (Below.refl _ _).alloc (Nat.le_refl _) _
  have B0 : Hid (Byt (w.alloc (.cells #[] 5)) (some ad) l) := byt_below hb be0
  have S0 : Hid (([] : List UInt8).length + l.length ≤ 140737488355328) := by show _ ≤ _; simp; omega
  have Z0 : Hid (w.heap.size ≤ (w.alloc (.cells #[] 5)).heap.size) := by show _ ≤ _; simp
  go_enter Try.func105, Try.ntmps105
  go_wp2_with (first | (at_builtin; refine wpList_app rfl (.tmp 5) (.tmp 6) rfl w.heap.size (.slice (some ⟨w.heap.size, 0, none⟩) 0 0) [] rfl O0.out (some ad) n cap l rfl hl B0.out S0.out Z0.out ?_) | fail)
  intro v w1 own1 grow1
  have be1 : Below w.heap.size w w1 := be0.grown grow1 Z0.out (fun k hk => (World.ownsRow.lt O0.out k hk).1)
  have OW : Hid (OwnB w1 w.heap.size v l) := by show OwnB _ _ _ _; simpa using own1
  clear own1 grow1 O0 B0 S0 Z0
  go_wp2
  go_ret
  exact ⟨v, rfl, OW.out, be1⟩
set_option maxRecDepth 100000 in
theorem clone_nil (w : World) : Calls Try.prog 105 #[.slice none 0 0] w fun e w' => ∃ v, e = .returned v ∧ OwnB w' w.heap.size v [] ∧ Below w.heap.size w w' := by
  have hnil : ∀ W, (binOp .eql 53 (.slice none 0 0) (.slice none 0 0)).run Try.prog W = .ok (.bool true) W := fun W => Lib.run_eql_slice_nil_nil W 0 0 Try.underlying53
  go_enter Try.func105, Try.ntmps105
  go_wp2
  go_ret
  exact ⟨_, rfl, ownB_nil _ _, Below.refl _ _⟩
theorem clone_all (a : Option Addr) (n cap : Nat) (l : List UInt8) (w : World) (hl : l.length = n) (hn : n ≤ 140737488355328) (ha : a = none → cap = 0) (hb : Byt w a l) :
    Calls Try.prog 105 #[.slice a n cap] w fun e w' => ∃ v, e = .returned v ∧ OwnB w' w.heap.size v l ∧ Below w.heap.size w w' := by
  cases a with
  | some ad => exact clone_gen ad n cap l w hl hn hb
  | none =>
    obtain rfl : l = [] := by
      rcases hb with rfl | ⟨b, off, e, _⟩
      · rfl
      · cases e
    rw [ha rfl, ← hl]
    exact clone_nil w
theorem rd_of_own {w : World} {T : TypeId} {v : Value} {l : List UInt8} {base : Nat} (own : OwnB w base v l) (hl : l.length ≤ 140737488351232) :
    ∃ a cap, v = .slice a l.length cap ∧ RD (w.alloc (.cells #[.slice a l.length cap, .int .i64 0, .int .i64 0, .int .i64 0] T)) T w.heap.size a cap l ⟨0, 0, 0⟩ ∧ (∀ ad, a = some ad → base ≤ ad.block ∧ ad.block < w.heap.size) := by
  have hop : ∃ a cap, v = .slice a l.length cap ∧ l.length ≤ cap ∧ Byt w a l ∧ (∀ ad, a = some ad → ad.spot = none ∧ base ≤ ad.block ∧ ad.block < w.heap.size) := by
    rcases own.2 with ⟨rfl, hn⟩ | ⟨g, cap, cur, rfl, hbg, hg, hnc, hcm, hcs, htake⟩
    · obtain rfl : l = [] := List.eq_nil_of_length_eq_zero hn
      exact ⟨none, 0, rfl, Nat.le_refl _, .inl rfl, fun _ e => by cases e⟩
    · obtain ⟨a', cap', e, hc, hb, _⟩ := own.open
      cases e
      exact ⟨_, _, rfl, hc, hb, fun ad e => by cases e; exact ⟨rfl, hbg, (Array.getElem?_eq_some_iff.1 hg).1⟩⟩
  obtain ⟨a, cap, rfl, hcap, hb, hp⟩ := hop
  refine ⟨a, cap, rfl, ⟨heap_alloc_new _ _, hcap, byt_below hb ((Below.refl _ _).alloc (Nat.le_refl _) _), fun ad e => ⟨(hp ad e).1, by have := (hp ad e).2.2; omega⟩, Nat.zero_le _, hl⟩, fun ad e => (hp ad e).2⟩
set_option maxRecDepth 100000 in
set_option maxHeartbeats 1000000 in
theorem new_gen (a0 : Option Addr) (n cap : Nat) (l : List UInt8) (w : World) (hl : l.length = n) (hn : n ≤ 140737488351232) (ha : a0 = none → cap = 0) (hb : Byt w a0 l) :
    Calls Try.prog 57 #[.slice a0 n cap] w fun e w' => ∃ r a c, e = .returned (.pointer (some ⟨r, 0, none⟩)) ∧ RD w' 139 r a c l ⟨0, 0, 0⟩ ∧ w.heap.size ≤ r ∧ Below w.heap.size w w' ∧ ∀ ad, a = some ad → ad.block < w'.heap.size := by
  have HC : Hid (Calls Try.prog 105 #[.slice a0 n cap] w fun e w' => ∃ v, e = .returned v ∧ OwnB w' w.heap.size v l ∧ Below w.heap.size w w') := clone_all a0 n cap l w hl (by omega) ha hb
  clear hb
  go_enter Try.func57, Try.ntmps57
  go_wp2_with fail
  refine HC.out.mono ?_
  rintro e w1 ⟨v, rfl, own, b1⟩
  obtain ⟨a, c, rfl, rd, hp⟩ := rd_of_own (w := w1) (T := 139) own (by omega)
  have z1 := b1.size
  have HRD : Hid (RD (w1.alloc (.cells #[.slice a l.length c, .int .i64 0, .int .i64 0, .int .i64 0] 139)) 139 w1.heap.size a c l ⟨0, 0, 0⟩) := rd
  have B2 : Hid (Below w.heap.size w (w1.alloc (.cells #[.slice a l.length c, .int .i64 0, .int .i64 0, .int .i64 0] 139))) := b1.alloc (by omega) (.cells #[.slice a l.length c, .int .i64 0, .int .i64 0, .int .i64 0] 139)
  have HP : Hid (∀ ad, a = some ad → ad.block < (w1.alloc (.cells #[.slice a l.length c, .int .i64 0, .int .i64 0, .int .i64 0] 139)).heap.size) := fun ad e => by have := (hp ad e).2; simp; omega
  rw [hl] at HRD B2 HP
  clear own rd hp b1
  go_wp2
  go_ret
  exact ⟨_, a, c, rfl, HRD.out, z1, B2.out, HP.out⟩
/-- What was read as a number is written so. -/
theorem numL_canon (len k : Nat) : ∀ (l : List UInt8) (i v : Nat), (numL len k l i v).why = 0 → ∃ u, (numL len k l i v).v = v + u * 2 ^ (7 * i) ∧ (numL len k l i v).size = i + (vint u).length ∧ l.take (vint u).length = vint u ∧ (0 < i → 0 < u)
  | [], i, v, h => by simp [numL] at h
  | b :: t, i, v, h => by
    unfold numL at h ⊢
    split at h
    · simp at h
    · rename_i h1
      rw [if_neg h1]
      split at h
      · rename_i h2
        rw [if_pos h2]
        refine ⟨b.toNat, rfl, by rw [vint_lt h2]; rfl, ?_, fun h0 => by omega⟩
        rw [vint_lt h2]
        simp
      · rename_i h2
        rw [if_neg h2]
        obtain ⟨u, q1, q2, q3, q4⟩ := numL_canon len k t (i + 1) (v + (b.toNat - 128) * 2 ^ (7 * i)) h
        have hu := q4 (by omega)
        have hb := b.toNat_lt
        have e : vint ((b.toNat - 128) + 128 * u) = b :: vint u := by
          rw [vint_ge (by omega), show ((b.toNat - 128) + 128 * u) / 128 = u by omega, show ((b.toNat - 128) + 128 * u) % 128 + 128 = b.toNat by omega]
          simp
        refine ⟨(b.toNat - 128) + 128 * u, ?_, ?_, ?_, fun _ => by omega⟩
        · rw [q1]
          have e2 : 2 ^ (7 * (i + 1)) = 128 * 2 ^ (7 * i) := by rw [Nat.mul_add, Nat.pow_add]; omega
          rw [e2, Nat.add_mul, Nat.mul_comm 128 u, Nat.mul_assoc u]
          omega
        · rw [q2, e]
          simp
          omega
        · rw [e]
          simp [q3]
theorem num_canon (L : List UInt8) (k : Nat) (h : (num L k).why = 0) : (num L k).size = (vint (num L k).v).length ∧ (L.drop k).take (num L k).size = vint (num L k).v := by
  obtain ⟨u, q1, q2, q3, _⟩ := numL_canon L.length k (L.drop k) 0 0 h
  have e1 : (num L k).v = u := by unfold num; rw [q1]; simp
  have e2 : (num L k).size = (vint u).length := by unfold num; rw [q2]; simp
  rw [e1, e2]
  exact ⟨rfl, q3⟩
theorem cut_app (L : List UInt8) (k m n : Nat) : cut L k (m + n) = cut L k m ++ cut L (k + m) n := by
  unfold cut
  rw [List.take_add, List.drop_drop]
theorem num_cut (L : List UInt8) (k n : Nat) (h : (num L k).why = 0) : cut L k ((num L k).size + n) = vint (num L k).v ++ cut L (k + (num L k).size) n := by
  rw [cut_app]
  congr 1
  exact (num_canon L k h).2
/-- A number of 64 bits is read as it was written. -/
theorem num_vint64 (len k : Nat) (t : List UInt8) : ∀ (f v i acc : Nat), v ≤ f → v * 2 ^ (7 * i) < 2 ^ 64 → (0 < i → 0 < v) → numL len k (vint v ++ t) i acc = ⟨acc + v * 2 ^ (7 * i), i + (vint v).length, 0, len⟩ := by
  intro f
  induction f with
  | zero =>
    intro v i acc hf hv h0
    obtain rfl : v = 0 := by omega
    have hi : i = 0 := by omega
    subst hi
    rw [vint_lt (by omega)]
    simp [numL]
  | succ f ih =>
    intro v i acc hf hv h0
    have h9 : i = 9 → v ≤ 1 := fun e => by
      subst e
      have : v * 2 ^ 63 < 2 * 2 ^ 63 := by simpa using hv
      have := Nat.lt_of_mul_lt_mul_right this
      omega
    by_cases h : v < 128
    · rw [vint_lt h]
      have e1 : (UInt8.ofNat v).toNat = v := by simp; omega
      simp only [List.cons_append, List.nil_append, numL, e1]
      rw [if_neg (by omega), if_pos h]
      simp
    · rw [vint_ge h]
      have e1 : (UInt8.ofNat (v % 128 + 128)).toNat = v % 128 + 128 := by simp; omega
      simp only [List.cons_append, numL, e1]
      rw [if_neg (by omega), if_neg (by omega), ih (v / 128) (i + 1) _ (by omega) ?_ (fun _ => by omega)]
      · have e2 : 2 ^ (7 * (i + 1)) = 128 * 2 ^ (7 * i) := by rw [Nat.mul_add, Nat.pow_add]; omega
        have e3 : v * 2 ^ (7 * i) = (v % 128) * 2 ^ (7 * i) + v / 128 * (128 * 2 ^ (7 * i)) := by
          rw [← Nat.mul_assoc, ← Nat.add_mul]
          congr 1
          omega
        rw [e2, e3, Nat.add_sub_cancel]
        simp only [List.length_cons, Num.mk.injEq, and_true]
        omega
      · have e2 : 2 ^ (7 * (i + 1)) = 128 * 2 ^ (7 * i) := by rw [Nat.mul_add, Nat.pow_add]; omega
        rw [e2, ← Nat.mul_assoc]
        exact Nat.lt_of_le_of_lt (Nat.mul_le_mul_right _ (by omega)) hv
variable {L : List UInt8} {k : Nat} {s : St}
theorem cut_two {A X : List UInt8} (hk : k + (A ++ X).length ≤ L.length) (hc : cut L k (A ++ X).length = A ++ X) : cut L k A.length = A ∧ cut L (k + A.length) X.length = X := by
  rw [List.length_append] at hk hc
  rw [cut_app] at hc
  exact List.append_inj hc (cut_len _ _ _ (by omega))
theorem num_at (u : Nat) (hu : u < 18446744073709551616) (hc : cut L k (vint u).length = vint u) : num L k = ⟨u, (vint u).length, 0, L.length⟩ := by
  have e : L.drop k = vint u ++ (L.drop k).drop (vint u).length := by
    conv => lhs; rw [← List.take_append_drop (vint u).length (L.drop k)]
    congr 1
  unfold num
  rw [e, num_vint64 _ _ _ u u 0 0 (Nat.le_refl _) (by simp; omega) (fun h => by omega)]
  simp
theorem at_uint {u : Nat} (hu : u < 18446744073709551616) (most : Nat) (hm : u ≤ most) (hb : s.bad = 0) (hc : cut L s.k (vint u).length = vint u) : rUint L most s = (u, ⟨s.k + (vint u).length, s.bad, s.wh⟩) := by
  unfold rUint
  rw [if_pos hb, num_at u hu hc, if_pos rfl, if_pos hm]
end Go.Proofs.Ytdajeabhhkgibaa.K
