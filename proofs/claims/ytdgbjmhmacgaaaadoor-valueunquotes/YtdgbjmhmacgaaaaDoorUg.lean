import Derived.Test.YtdgbjmhmacgaaaaDoorUd
namespace Go.Proofs.YtdgbjmhmacgaaaaDoor
open Go.RowKit
set_option linter.unusedVariables false
set_option linter.unusedSimpArgs false

/-- What character tells of a text that is not empty. -/
def ChrV (s : ByteArray) (v : Int × Int × Bool) : Prop :=
  ((Lib.decodeL s.data.toList).1 = 92 ∧ EscV s v) ∨
  ((Lib.decodeL s.data.toList).1 = 65533 ∧ (Lib.decodeL s.data.toList).2 = 1 ∧ ∃ k, BegP s k ∧ v = (0, (k : Int), false)) ∨
  ((Lib.decodeL s.data.toList).1 ≠ 92 ∧ ¬ ((Lib.decodeL s.data.toList).1 = 65533 ∧ (Lib.decodeL s.data.toList).2 = 1) ∧ hidB ((Lib.decodeL s.data.toList).1 : Int) = true ∧ v = (0, 0, false)) ∨
  ((Lib.decodeL s.data.toList).1 ≠ 92 ∧ ¬ ((Lib.decodeL s.data.toList).1 = 65533 ∧ (Lib.decodeL s.data.toList).2 = 1) ∧ hidB ((Lib.decodeL s.data.toList).1 : Int) = false ∧ v = (((Lib.decodeL s.data.toList).1 : Int), ((Lib.decodeL s.data.toList).2 : Int), true))
def ChrOut (s : ByteArray) (w : World) (e : Ending) (w' : World) : Prop := (∃ v, ChrV s v ∧ e = .returned (.tuple #[.int .i32 v.1, .int .i64 v.2.1, .bool v.2.2])) ∧ Below w.heap.size w w'
theorem chr_mk {s : ByteArray} {w w' : World} {a b : Int} {c : Bool} (h : ChrV s (a, b, c)) (hw : Below w.heap.size w w') : ChrOut s w (.returned (.tuple #[.int .i32 a, .int .i64 b, .bool c])) w' :=
  ⟨⟨(a, b, c), h, rfl⟩, hw⟩
theorem res37 (tmps : Array Value) (w : World) (a b c : Value) (h1 : tmps.getD 2 undef = a) (h2 : tmps.getD 3 undef = b) (h3 : tmps.getD 4 undef = c) : (results Tryd.f37 tmps).run Tryd.prog w = .ok (.tuple #[a, b, c]) w := by
  subst h1 h2 h3
  simp [results, Tryd.results37]
set_option maxRecDepth 100000 in
set_option maxHeartbeats 2000000 in
theorem character_any (s : ByteArray) (w : World) (h0 : 0 < s.size) (hs : s.size ≤ 140737488355328) (hT : Tabs w) :
    Calls Tryd.prog 37 #[.string s] w (ChrOut s w) := by
  have HD : Hid (Calls Tryd.prog 53 #[.string s] w fun e w' => e = .returned (.tuple #[.int .i32 ((Lib.decodeL s.data.toList).1 : Nat), .int .i64 ((Lib.decodeL s.data.toList).2 : Nat)]) ∧ Below w.heap.size w w') := decode_any s w h0 hT
  have HV : Hid (∀ v, ChrV s v ↔ ChrV s v) := fun v => Iff.rfl
  unfold ChrV at HV
  generalize hr : (Lib.decodeL s.data.toList).1 = r at *
  generalize hn : (Lib.decodeL s.data.toList).2 = n at *
  have KR : Hid ((Lib.decodeL s.data.toList).1 = r ∧ (Lib.decodeL s.data.toList).2 = n) := ⟨hr, hn⟩
  clear hr hn HV
  have HT : Hid (Tabs w) := hT
  clear hT
  by_cases h1 : r = 92
  · have c1 : ((r : Int) == 92) = true := beq_iff_eq.2 (by omega)
    go_enter Tryd.func37, Tryd.ntmps37
    go_wp2_with fail
    refine HD.out.mono ?_
    rintro e w1 ⟨rfl, b1⟩
    go_wp2_with fail
    refine (escaped_any s _ hs).mono ?_
    rintro e w2 ⟨⟨v, hv, rfl⟩, b2⟩
    have hC : ChrV s v := .inl ⟨by rw [KR.out.1]; exact h1, hv⟩
    have B2 : Below w.heap.size w w2 := b1.trans (b2.mono b1.size)
    clear hv b1 b2
    obtain ⟨va, vb, vc⟩ := v
    go_wp2
    exact bodyPost_ret (res37 _ _ _ _ _ rfl rfl rfl) rfl (chr_mk hC B2)
  · have c1 : ((r : Int) == 92) = false := beq_eq_false_iff_ne.2 (by omega)
    by_cases h2 : r = 65533 ∧ n = 1
    · obtain ⟨rfl, rfl⟩ := h2
      go_enter Tryd.func37, Tryd.ntmps37
      go_wp2_with fail
      refine HD.out.mono ?_
      rintro e w1 ⟨rfl, b1⟩
      go_wp2_with fail
      refine (begun_any s _ hs (HT.out.below b1)).mono ?_
      rintro e w2 ⟨⟨k, hk, rfl⟩, b2⟩
      have hC : ChrV s (0, (k : Int), false) := .inr (.inl ⟨KR.out.1, KR.out.2, k, hk, rfl⟩)
      have B2 : Below w.heap.size w w2 := b1.trans (b2.mono b1.size)
      clear hk b1 b2
      go_wp2
      exact bodyPost_ret (res37 _ _ _ _ _ rfl rfl rfl) rfl (chr_mk hC B2)
    · have H49 := hidden_chr (r : Int)
      obtain ⟨B, hB⟩ : ∃ B, hidB (r : Int) = B := ⟨_, rfl⟩
      rw [hB] at H49
      have HB : Hid (hidB (r : Int) = B) := hB
      clear hB
      have hne : Hid ((Lib.decodeL s.data.toList).1 ≠ 92 ∧ ¬ ((Lib.decodeL s.data.toList).1 = 65533 ∧ (Lib.decodeL s.data.toList).2 = 1)) := ⟨by rw [KR.out.1]; exact h1, by rw [KR.out.1, KR.out.2]; exact h2⟩
      cases B with
      | true =>
        have hC : ChrV s (0, 0, false) := .inr (.inr (.inl ⟨hne.out.1, hne.out.2, by rw [KR.out.1]; exact HB.out, rfl⟩))
        by_cases h3 : r = 65533
        · subst h3
          have c3 : ((n : Int) == 1) = false := beq_eq_false_iff_ne.2 (by omega)
          go_enter Tryd.func37, Tryd.ntmps37
          go_wp2_with fail
          refine HD.out.mono ?_
          rintro e w1 ⟨rfl, b1⟩
          go_wp2_with fail
          refine (H49 _).mono ?_
          rintro e _ ⟨rfl, rfl⟩
          go_wp2
          exact bodyPost_ret (res37 _ _ _ _ _ rfl rfl rfl) rfl (chr_mk hC b1)
        · have c2 : ((r : Int) == 65533) = false := beq_eq_false_iff_ne.2 (by omega)
          go_enter Tryd.func37, Tryd.ntmps37
          go_wp2_with fail
          refine HD.out.mono ?_
          rintro e w1 ⟨rfl, b1⟩
          go_wp2_with fail
          refine (H49 _).mono ?_
          rintro e _ ⟨rfl, rfl⟩
          go_wp2
          exact bodyPost_ret (res37 _ _ _ _ _ rfl rfl rfl) rfl (chr_mk hC b1)
      | false =>
        have hC : ChrV s ((r : Int), (n : Int), true) := .inr (.inr (.inr ⟨hne.out.1, hne.out.2, by rw [KR.out.1]; exact HB.out, by rw [KR.out.1, KR.out.2]⟩))
        by_cases h3 : r = 65533
        · subst h3
          have c3 : ((n : Int) == 1) = false := beq_eq_false_iff_ne.2 (by omega)
          go_enter Tryd.func37, Tryd.ntmps37
          go_wp2_with fail
          refine HD.out.mono ?_
          rintro e w1 ⟨rfl, b1⟩
          go_wp2_with fail
          refine (H49 _).mono ?_
          rintro e _ ⟨rfl, rfl⟩
          go_wp2
          exact bodyPost_ret (res37 _ _ _ _ _ rfl rfl rfl) rfl (chr_mk hC b1)
        · have c2 : ((r : Int) == 65533) = false := beq_eq_false_iff_ne.2 (by omega)
          go_enter Tryd.func37, Tryd.ntmps37
          go_wp2_with fail
          refine HD.out.mono ?_
          rintro e w1 ⟨rfl, b1⟩
          go_wp2_with fail
          refine (H49 _).mono ?_
          rintro e _ ⟨rfl, rfl⟩
          go_wp2
          exact bodyPost_ret (res37 _ _ _ _ _ rfl rfl rfl) rfl (chr_mk hC b1)
end Go.Proofs.YtdgbjmhmacgaaaaDoor
