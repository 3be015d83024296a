import Derived.Test.YtgnichmemkglkaaDoorWc
namespace Go.Proofs.YtgnichmemkglkaaDoor
open Go.RowKit
set_option linter.unusedVariables false
set_option linter.unusedSimpArgs false

theorem tw_eq {f : UInt8 → Bool} : ∀ l : List UInt8, (l.takeWhile f).length = l.length → ∀ x ∈ l, f x = true
  | [], _, x, hx => by cases hx
  | a :: l, h, x, hx => by
    cases ha : f a with
    | false => simp [List.takeWhile_cons, ha] at h
    | true =>
      simp [List.takeWhile_cons, ha] at h
      rcases List.mem_cons.1 hx with rfl | hx
      · exact ha
      · exact tw_eq l h x hx
theorem plN_ne {s : ByteArray} (h : plS s = false) : plN s ≠ s.size := fun e => by
  have hz : s.data.toList.length = s.size := Array.length_toList
  have : plS s = true := by
    unfold plS
    unfold plN at e
    rw [← hz] at e
    rw [List.all_eq_true]
    have := tw_eq _ e
    exact this
  rw [this] at h
  cases h
set_option maxRecDepth 100000 in
set_option maxHeartbeats 2000000 in
theorem astep_key (base : Nat) (v : Value) (L : List UInt8) (s : ByteArray) (n : Int) (w : World) (hown : Q.OwnB w base v L) (hbase : base ≤ w.heap.size) (hlen : L.length + 1000 ≤ 140737488355328) (hs : s.size ≤ 64) (hv : Lib.validD s.data.toList = true) (hTB : ∀ wx, Below base w wx → Q.Tabs wx) :
    Calls Tryd.prog 14 #[v, .agg #[.int .u8 1, .string s, .int .i64 n]] w fun e w' => ∃ v', e = .returned v' ∧ Q.OwnB w' base v' (L ++ ([47] ++ (if plS s = true then s.data.toList else Q.quoL s.data.toList))) ∧ Below base w w' := by
  obtain ⟨W0, hW0⟩ : ∃ W, W = w.alloc (.cells #[.int .u8 1, .string s, .int .i64 n] 35) := ⟨_, rfl⟩
  obtain ⟨W1, hW1⟩ : ∃ W, W = W0.alloc (.cells #[.int .u8 47] 5) := ⟨_, rfl⟩
  have z0 : W0.heap.size = w.heap.size + 1 := by rw [hW0]; simp
  have z1 : W1.heap.size = w.heap.size + 2 := by rw [hW1]; simp [z0]
  have bw0 : Below w.heap.size w W0 := by rw [hW0]; exact (Below.refl _ _).alloc (Nat.le_refl _) _
  have bw01 : Below W0.heap.size W0 W1 := by rw [hW1]; exact (Below.refl _ _).alloc (Nat.le_refl _) _
  have bw1 : Below w.heap.size w W1 := bw0.trans (bw01.mono bw0.size)
  have g0 := heap_alloc_new w (.cells #[.int .u8 1, .string s, .int .i64 n] 35)
  rw [← hW0] at g0
  have g1 : W1.heap[w.heap.size]? = some (.cells #[.int .u8 1, .string s, .int .i64 n] 35 (0, 0)) := by rw [bw01.block _ (by omega)]; exact g0
  have ne1 : v.ownBlock ≠ some w.heap.size := own_ne hown (Nat.le_refl _)
  have O1 : Hid (Q.OwnB W1 base v L) := hown.below bw1
  have B1 : Hid (Q.Byt W1 (some ⟨w.heap.size + 1, 0, none⟩) [47]) := by
    have h := Q.byt_lit2 W0 [47] 5
    rw [z0] at h
    show Q.Byt _ _ _
    rw [hW1]
    exact h
  have S1 : Hid (L.length + ([47] : List UInt8).length ≤ 140737488355328) := by show _ ≤ _; simp; omega
  have Z1 : Hid (base ≤ W1.heap.size) := by show _ ≤ _; omega
  have BB1 : Hid (Below base w W1) := bw1.mono hbase
  have HX : Hid (∀ w2, W1.grownBy w2 v.ownBlock → w2.cell? ⟨w.heap.size, 1, none⟩ = some (.string s) ∧ w2.cell? ⟨w.heap.size, 2, none⟩ = some (.int .i64 n)) := fun w2 gr =>
    ⟨grown_cell gr ne1 ((cell_of_row _ _ 1 _ _ _ g1).trans rfl), grown_cell gr ne1 ((cell_of_row _ _ 2 _ _ _ g1).trans rfl)⟩
  have HW0 := Hid.mk' hW0
  have HW1 := Hid.mk' hW1
  obtain ⟨RS, hRS⟩ : ∃ R, R = L ++ ([47] ++ (if plS s = true then s.data.toList else Q.quoL s.data.toList)) := ⟨_, rfl⟩
  rw [← hRS]
  have HRS : Hid ((plS s = true → RS = L ++ ([47] ++ s.data.toList)) ∧ (plS s = false → RS = L ++ ([47] ++ Q.quoL s.data.toList))) := ⟨fun h => by rw [hRS, if_pos h], fun h => by rw [hRS, if_neg (by rw [h]; decide)]⟩
  clear hRS
  have HTT : Hid (∀ wx, Below base w wx → Q.Tabs wx) := fun wx hb => hTB wx hb
  have HPS : Hid (∀ wx, Calls Tryd.prog 25 #[.string s] wx fun e w' => e = .returned (.int .i64 (plN s : Int)) ∧ w' = wx) := fun wx => psize_any s wx (by omega)
  have HQ : Hid (∀ wx, Below base w wx → Calls Tryd.prog 26 #[.string s] wx fun e w' => e = .returned (.string ⟨(Q.quoL s.data.toList).toArray⟩) ∧ Below wx.heap.size wx w') := fun wx hb => Q.quote_yes s wx (by omega) (HTT.out wx hb) hv
  have HPN : Hid ((plS s = true → (plN s : Int) = (s.size : Int)) ∧ (plS s = false → ¬ (plN s : Int) = (s.size : Int))) := ⟨fun h => by rw [plN_all h], fun h => by have := plN_ne h; omega⟩
  have HQL : Hid ((Q.quoL s.data.toList).length ≤ 400) := by
    have h := Q.quoL_len s.data.toList
    have h2 : s.data.toList.length = s.size := Array.length_toList
    show _ ≤ _
    omega
  have HSL : Hid (s.data.toList.length ≤ 64) := by
    have h2 : s.data.toList.length = s.size := Array.length_toList
    show _ ≤ _
    omega
  clear hW0 hW1 bw0 bw01 bw1 g0 g1 hown z0 z1 hTB hv
  go_enter Tryd.func14, Tryd.ntmps14
  go_wp2_with (first | (at_builtin; rw [← HW0.out, ← HW1.out]; refine Q.wpList_app rfl (.tmp 28) (.tmp 29) rfl base v L rfl O1.out (some ⟨w.heap.size + 1, 0, none⟩) 1 1 [47] rfl rfl B1.out S1.out Z1.out ?_) | fail)
  intro v2 w2 own2 gr2
  obtain ⟨d1, d2⟩ := HX.out w2 gr2
  have BB2 : Hid (Below base w w2) := Q.below_own BB1.out O1.out gr2 Z1.out
  have O2 : Hid (Q.OwnB w2 base v2 (L ++ [47])) := own2
  have Z2 : Hid (base ≤ w2.heap.size) := Nat.le_trans Z1.out gr2.size
  clear own2 gr2 O1 B1 S1 Z1 BB1 HX HW0 HW1
  have O2d : Hid (Q.OwnB w2.drew base v2 (L ++ [47])) := O2.out.below ((Below.refl _ _).drew)
  have BBd : Hid (Below base w w2.drew) := BB2.out.drew
  have Zd : Hid (base ≤ w2.drew.heap.size) := Z2.out
  have S3 : Hid ((L ++ [47]).length + s.data.toList.length ≤ 140737488355328) := by show _ ≤ _; have := HSL.out; simp; omega
  have S4 : Hid ((L ++ [47]).length + (⟨(Q.quoL s.data.toList).toArray⟩ : ByteArray).data.toList.length ≤ 140737488355328) := by show _ ≤ _; have := HQL.out; simp; omega
  go_wp2_with fail
  have HPS2 := HPS.out
  clear HPS
  go_region_with (go_at_call 25; refine (HPS2 _).mono ?_; rintro e _ ⟨rfl, rfl⟩)
  all_goals clear HPS2
  all_goals by_cases hpl : plS s = true
  all_goals first
    | (have hN := HPN.out.1 hpl
       have HR2 := Hid.mk' (HRS.out.1 hpl)
       clear HPN HQ HRS hpl
       go_wp2_with (first | (at_builtin; refine Q.wpList_appS rfl (.tmp 38) (.tmp 40) rfl base v2 (L ++ [47]) rfl O2d.out s rfl S3.out Zd.out ?_) | fail)
       intro v3 w3 own3 gr3
       have BB3 : Hid (Below base w w3) := Q.below_own BBd.out O2d.out gr3 Zd.out
       have O3 : Hid (Q.OwnB w3 base v3 (L ++ ([47] ++ s.data.toList))) := by show Q.OwnB _ _ _ _; simpa using own3
       clear own3 gr3 O2d BBd Zd S3 S4
       go_wp2
       go_ret
       exact ⟨_, rfl, by rw [HR2.out]; exact O3.out, BB3.out⟩)
    | (have hN := HPN.out.2 (by simpa using hpl)
       have HR2 := Hid.mk' (HRS.out.2 (by simpa using hpl))
       have HQ2 := Hid.mk' (HQ.out _ BBd.out)
       clear HPN HQ HRS hpl
       go_wp2_with fail
       refine HQ2.out.mono ?_
       rintro e w3 ⟨rfl, b3⟩
       have O3 : Hid (Q.OwnB w3 base v2 (L ++ [47])) := O2d.out.below b3
       have BB3 : Hid (Below base w w3) := BBd.out.trans (b3.mono Zd.out)
       have Z3 : Hid (base ≤ w3.heap.size) := Nat.le_trans Zd.out b3.size
       clear HQ2 b3 O2d BBd Zd
       go_wp2_with (first | (at_builtin; refine Q.wpList_appS rfl (.tmp 42) (.tmp 45) rfl base v2 (L ++ [47]) rfl O3.out ⟨(Q.quoL s.data.toList).toArray⟩ rfl S4.out Z3.out ?_) | fail)
       intro v4 w4 own4 gr4
       have BB4 : Hid (Below base w w4) := Q.below_own BB3.out O3.out gr4 Z3.out
       have O4 : Hid (Q.OwnB w4 base v4 (L ++ ([47] ++ Q.quoL s.data.toList))) := by show Q.OwnB _ _ _ _; simpa using own4
       clear own4 gr4 O3 BB3 Z3 S3 S4
       go_wp2
       go_ret
       exact ⟨_, rfl, by rw [HR2.out]; exact O4.out, BB4.out⟩)
end Go.Proofs.YtgnichmemkglkaaDoor
