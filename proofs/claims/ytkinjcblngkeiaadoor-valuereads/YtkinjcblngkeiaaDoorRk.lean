import Derived.Test.YtkinjcblngkeiaaDoorRr
namespace Go.Proofs.YtkinjcblngkeiaaDoor
open Go.RowKit
set_option linter.unusedVariables false
set_option linter.unusedSimpArgs false

/-- No fault has no place. -/
def St.ok (s : St) : Prop := s.bad = 0 → s.wh = 0
theorem ok_bad (k : Nat) (e p : Int) (h : e ≠ 0) : St.ok ⟨k, e, p⟩ := fun h2 => absurd h2 h
theorem ok_on {s : St} (h : s.ok) (k : Nat) : St.ok ⟨k, s.bad, s.wh⟩ := h
theorem rByte_ok (L : List UInt8) {s : St} (h : s.ok) : (rByte L s).2.ok := by
  unfold rByte
  repeat' split
  all_goals first | exact h | exact ok_bad _ _ _ (by decide)
theorem rBool_ok (L : List UInt8) {s : St} (h : s.ok) : (rBool L s).2.ok := by
  unfold rBool
  repeat' split
  all_goals first | exact h | exact ok_bad _ _ _ (by decide)
theorem rUint_ok (L : List UInt8) (most : Nat) {s : St} (h : s.ok) : (rUint L most s).2.ok := by
  unfold rUint
  repeat' split
  all_goals first | exact h | exact ok_bad _ _ _ (by decide) | (apply ok_bad; assumption)
theorem rInt_ok (L : List UInt8) {s : St} (h : s.ok) : (rInt L s).2.ok := rUint_ok L _ h
theorem rFloat_ok (L : List UInt8) {s : St} (h : s.ok) : (rFloat L s).2.ok := by
  unfold rFloat
  repeat' split
  all_goals first | exact h | exact ok_bad _ _ _ (by decide)
theorem rCnt_ok (L : List UInt8) (most : Nat) {s : St} (h : s.ok) : (rCnt L most s).2.ok := by
  unfold rCnt
  repeat' split
  all_goals first | exact h | exact ok_bad _ _ _ (by decide) | (apply ok_bad; assumption)
theorem rRaw_ok (L : List UInt8) (most : Nat) {s : St} (h : s.ok) : (rRaw L most s).2.ok := by
  have hc := rCnt_ok L most h
  unfold rRaw
  split
  · split
    · exact h
    · rename_i heq
      rw [heq] at hc
      exact hc
  · exact h
theorem rText_ok (L : List UInt8) (most : Nat) {s : St} (h : s.ok) : (rText L most s).2.ok := by
  have hc := rCnt_ok L most h
  unfold rText
  split
  · split
    · split
      · exact ok_bad _ _ _ (by decide)
      · exact h
    · rename_i heq
      rw [heq] at hc
      exact hc
  · exact h
theorem rRead_ok (L : List UInt8) {s : St} (h : s.ok) : (rRead L s).2.ok := by
  have hb := rByte_ok L h
  unfold rRead
  repeat' split
  all_goals first | exact rBool_ok L hb | exact rInt_ok L hb | exact rFloat_ok L hb | exact rText_ok L _ hb | exact rRaw_ok L _ hb | exact rUint_ok L _ hb | exact hb | exact ok_bad _ _ _ (by decide)
theorem fin4_shape (s : St) (k n : Int) (f : Nat) (t : ByteArray) : ∃ k' n' f' t', fin4 s k n f t = VV k' n' f' t' := by
  unfold fin4
  split
  · exact ⟨_, _, _, _, rfl⟩
  · exact ⟨_, _, _, _, rfl⟩
theorem rRead_shape (L : List UInt8) (s : St) : ∃ k n f t, (rRead L s).1 = VV k n f t := by
  unfold rRead
  repeat' split
  all_goals first | exact fin4_shape _ _ _ _ _ | exact ⟨_, _, _, _, rfl⟩
theorem done_e (L : List UInt8) (s : St) : doneE L s = if s.bad = 0 ∧ s.k < L.length then 22 else s.bad := by
  unfold doneE
  by_cases h1 : s.bad = 0
  · by_cases h2 : s.k < L.length
    · rw [if_pos h1, if_pos h2, if_pos ⟨h1, h2⟩]
    · rw [if_pos h1, if_neg h2, if_neg (fun h => h2 h.2), h1]
  · rw [if_neg h1, if_neg (fun h => h1 h.1)]
theorem done_p (L : List UInt8) {s : St} (h : s.ok) : doneP L s = if s.bad = 0 ∧ s.k < L.length then (s.k : Int) else s.wh := by
  unfold doneP
  by_cases h1 : s.bad = 0
  · by_cases h2 : s.k < L.length
    · rw [if_pos h1, if_pos h2, if_pos ⟨h1, h2⟩]
    · rw [if_pos h1, if_neg h2, if_neg (fun h => h2 h.2), h h1]
  · rw [if_neg h1, if_neg (fun h => h1 h.1)]
theorem bel_box2 (w : World) (c d : Array Value) (t u : TypeId) : Below w.heap.size w ((w.alloc (.cells c t)).alloc (.cells d u)) := ((Below.refl _ _).alloc (Nat.le_refl _) _).alloc (by simp) _
set_option maxRecDepth 100000 in
set_option maxHeartbeats 1000000 in
/-- A value is the same as itself. -/
theorem vsame_any (k n : Int) (f : Nat) (s : ByteArray) (w : World) :
    Calls Tryd.prog 17 #[.agg #[.int .u8 k, .int .i64 n, .float .f64 f, .string s], .agg #[.int .u8 k, .int .i64 n, .float .f64 f, .string s]] w fun e w' => e = .returned (.bool true) ∧ Below w.heap.size w w' := by
  go_enter Tryd.func17, Tryd.ntmps17
  go_wp2
  go_quiet (fail)
  go_wp2
  go_ret
  exact ⟨by simp, below_drewN (bel_box2 _ _ _ _ _) _⟩
theorem rd_of_own {w w' : World} {T : TypeId} {v : Value} {l : List UInt8} {base : Nat} (own : OwnB w base v l) (hl : l.length ≤ 140737488351232) :
    ∃ a cap, v = .slice a l.length cap ∧ RD (w.alloc (.cells #[.slice a l.length cap, .int .i64 0, .int .i64 0, .int .i64 0] T)) T w.heap.size a cap l ⟨0, 0, 0⟩ ∧ (∀ ad, a = some ad → base ≤ ad.block ∧ ad.block < w.heap.size) := by
  have hop : ∃ a cap, v = .slice a l.length cap ∧ l.length ≤ cap ∧ Byt w a l ∧ (∀ ad, a = some ad → ad.spot = none ∧ base ≤ ad.block ∧ ad.block < w.heap.size) := by
    rcases own.2 with ⟨rfl, hn⟩ | ⟨g, cap, cur, rfl, hbg, hg, hnc, hcm, hcs, htake⟩
    · obtain rfl : l = [] := List.eq_nil_of_length_eq_zero hn
      exact ⟨none, 0, rfl, Nat.le_refl _, .inl rfl, fun _ e => by cases e⟩
    · obtain ⟨a', cap', e, hc, hb, _⟩ := own.open
      cases e
      exact ⟨_, _, rfl, hc, hb, fun ad e => by cases e; exact ⟨rfl, hbg, (Array.getElem?_eq_some_iff.1 hg).1⟩⟩
  obtain ⟨a, cap, rfl, hcap, hb, hp⟩ := hop
  refine ⟨a, cap, rfl, ⟨heap_alloc_new _ _, hcap, byt_below hb (bel_box _ _ _), fun ad e => ⟨(hp ad e).1, by have := (hp ad e).2.2; omega⟩, Nat.zero_le _, hl⟩, fun ad e => (hp ad e).2⟩
set_option maxRecDepth 100000 in
set_option maxHeartbeats 1000000 in
theorem new_any (b off n cap : Nat) (l : List UInt8) (w : World) (hl : l.length = n) (hn : n ≤ 140737488351232) (hb : Byt w (some ⟨b, off, none⟩) l) :
    Calls Tryd.prog 14 #[.slice (some ⟨b, off, none⟩) n cap] w fun e w' => ∃ r a c, e = .returned (.pointer (some ⟨r, 0, none⟩)) ∧ RD w' 69 r a c l ⟨0, 0, 0⟩ ∧ w.heap.size ≤ r ∧ (∀ ad, a = some ad → w.heap.size ≤ ad.block ∧ ad.block < r) ∧ r < w'.heap.size ∧ Below w.heap.size w w' := by
  have HC := Hid.mk' (clone_any b off n cap l w hl (by omega) hb)
  clear hb
  go_enter Tryd.func14, Tryd.ntmps14
  go_wp2_with fail
  refine HC.out.mono ?_
  rintro e w1 ⟨v, rfl, own, b1⟩
  obtain ⟨a, c, rfl, rd, hp⟩ := rd_of_own (w' := w1) (T := 69) own (by omega)
  have z1 := b1.size
  have HRD := Hid.mk' rd
  have HP := Hid.mk' hp
  have B2 := Hid.mk' (b1.alloc (by omega) (.cells #[.slice a l.length c, .int .i64 0, .int .i64 0, .int .i64 0] 69))
  rw [hl] at HRD B2
  clear own rd hp b1
  go_wp2
  go_ret
  exact ⟨_, a, c, rfl, HRD.out, z1, HP.out, by simp, B2.out⟩
set_option maxRecDepth 100000 in
set_option maxHeartbeats 1000000 in
theorem qnew_any (a : Option Addr) (l : List UInt8) (n cap : Nat) (w : World) (hl : l.length = n) (hb : Byt w a l) (hn : n ≤ 140737488351232) :
    Calls Tryd.prog 15 #[.slice a n cap] w fun e w' => ∃ r a c, e = .returned (.pointer (some ⟨r, 0, none⟩)) ∧ RD w' 71 r a c l ⟨0, 0, 0⟩ ∧ w.heap.size ≤ r ∧ (∀ ad, a = some ad → w.heap.size ≤ ad.block ∧ ad.block < r) ∧ r < w'.heap.size ∧ Below w.heap.size w w' := by
  have O0 := Hid.mk' (own0 w)
  have B0 := Hid.mk' (byt_below hb (below0 w))
  have S0 : Hid (([] : List UInt8).length + l.length ≤ 140737488355328) := by show _ ≤ _; simp; omega
  have Z0 := Hid.mk' (below0 w).size
  clear hb
  go_enter Tryd.func15, Tryd.ntmps15
  go_wp2_with (first | (at_builtin; refine wpList_app rfl (.tmp 3) (.tmp 4) rfl w.heap.size (.slice (some ⟨w.heap.size, 0, none⟩) 0 0) [] rfl O0.out a n cap l rfl hl B0.out S0.out Z0.out ?_) | fail)
  intro v w1 own1 gr1
  have own1' : OwnB w1 w.heap.size v l := by simpa using own1
  have b1 : Below w.heap.size w w1 := (below0 w).grown gr1 Z0.out (fun k hk => (World.ownsRow.lt O0.out k hk).1)
  obtain ⟨a2, c2, rfl, rd, hp⟩ := rd_of_own (w' := w1) (T := 71) own1' (by omega)
  have z1 := b1.size
  have HRD := Hid.mk' rd
  have HP := Hid.mk' hp
  have B2 := Hid.mk' (b1.alloc (by omega) (.cells #[.slice a2 l.length c2, .int .i64 0, .int .i64 0, .int .i64 0] 71))
  rw [hl] at HRD B2
  clear own1 own1' rd hp b1 gr1 O0 B0 S0 Z0
  go_wp2
  go_ret
  exact ⟨_, a2, c2, rfl, HRD.out, z1, HP.out, by simp, B2.out⟩
end Go.Proofs.YtkinjcblngkeiaaDoor
