import Derived.Test.YtlejbdepoemcjaaXc
namespace Go.Proofs.Ytlejbdepoemcjaa
open Go.RowKit Sq
set_option linter.unusedVariables false
set_option linter.unusedSimpArgs false

/-- A row behind a call that changes its spots alone. -/
structure Did (w : World) (rb ro g cap : Nat) (L' : List Sp) (w' : World) : Prop where
  at' : SqAt w' rb ro g cap L'
  tch : Tch (fun j => j = g) w w'
  size : w'.heap.size = w.heap.size
theorem Did.refl {w : World} {rb ro g cap : Nat} {L : List Sp} (h : SqAt w rb ro g cap L) : Did w rb ro g cap L w := ⟨h, Tch.refl _ _, rfl⟩
theorem Did.trans {w w1 w2 : World} {rb ro g cap : Nat} {L1 L2 : List Sp} (h : Did w rb ro g cap L1 w1) (k : Did w1 rb ro g cap L2 w2) : Did w rb ro g cap L2 w2 := ⟨k.at', h.tch.trans k.tch, k.size.trans h.size⟩
theorem Did.qt {w w1 w2 : World} {rb ro g cap : Nat} {L1 : List Sp} (h : Did w rb ro g cap L1 w1) (q : Qt w1 w2) : Did w rb ro g cap L1 w2 := ⟨h.at'.qt q, h.tch.trans (q.tch _), q.size.trans h.size⟩
theorem Did.from {w w1 w2 : World} {rb ro g cap : Nat} {L1 : List Sp} (q : Qt w w1) (h : Did w1 rb ro g cap L1 w2) : Did w rb ro g cap L1 w2 := ⟨h.at', (q.tch _).trans h.tch, h.size.trans q.size⟩
section
variable {w : World} {rb ro g cap i : Nat} {L : List Sp}
theorem st_dn (h : SqAt w rb ro g cap L) {u : Nat} (hu : u < L.length) (b : Bool) (p : Nat) : ∃ w', (Instr.storeAt 3 (.pointer (some ⟨g, 73 * u + 69 + nb b, none⟩)) (.int .i64 (p : Int))).run Try.prog w = .ok () w' ∧ Did w rb ro g cap (hangD L u b p) w' := by
  obtain ⟨w', e, a, t, z⟩ := h.num (k := 2 + nb b) (t := 3) (v := .int .i64 (p : Int)) hu (setDn · b p) (setDn_up _ _ _).2.2.1 (by cases b <;> rfl) (by cases b <;> simp [nb]) (by kernel_rfl) rfl rfl
  rw [show 73 * u + (67 + (2 + nb b)) = 73 * u + 69 + nb b by omega] at e
  exact ⟨w', e, a, t, z⟩
theorem st_up (h : SqAt w rb ro g cap L) {p : Nat} (hp : p < L.length) (u : Nat) : ∃ w', (Instr.storeAt 3 (.pointer (some ⟨g, 73 * p + 68, none⟩)) (.int .i64 (u : Int))).run Try.prog w = .ok () w' ∧ Did w rb ro g cap (setUp L p u) w' := by
  obtain ⟨w', e, a, t, z⟩ := h.num (k := 1) (t := 3) (v := .int .i64 (u : Int)) hp (fun s => { s with up := u }) rfl rfl (by decide) (by kernel_rfl) rfl rfl
  exact ⟨w', e, a, t, z⟩
theorem st_ct (h : SqAt w rb ro g cap L) (hi : i < L.length) (c : Bool) : ∃ w', (Instr.storeAt 3 (.pointer (some ⟨g, 73 * i + 71 + nb c, none⟩)) (.int .i64 ((upTo L i c + under L i true c : Nat) : Int))).run Try.prog w = .ok () w' ∧ Did w rb ro g cap (tallyW L i c) w' := by
  obtain ⟨w', e, a, t, z⟩ := h.num (k := 4 + nb c) (t := 3) (v := .int .i64 ((upTo L i c + under L i true c : Nat) : Int)) hi (fun s => if c then { s with cl := upTo L i c + under L i true c } else { s with ca := upTo L i c + under L i true c }) (by cases c <;> rfl) (by cases c <;> rfl) (by cases c <;> simp [nb]) (by kernel_rfl) rfl rfl
  rw [show 73 * i + (67 + (4 + nb c)) = 73 * i + 71 + nb c by omega] at e
  exact ⟨w', e, a, t, z⟩
set_option maxRecDepth 100000 in
set_option maxHeartbeats 1000000 in
theorem hang_any {u p : Nat} {b : Bool} (h : SqAt w rb ro g cap L) (hu : u < L.length) (hp : p < L.length) : Calls Try.prog 76 #[.pointer (some ⟨rb, ro, none⟩), .int .i64 (u : Int), .int .i64 (nb b : Int), .int .i64 (p : Int)] w fun e w' => e = .returned (.tuple #[]) ∧ Did w rb ro g cap (hang L u b p) w' := by
  obtain ⟨w2, e2, d2⟩ := st_dn h hu b p
  have hl2 : (hangD L u b p).length = L.length := md_len _ _ _
  by_cases h0 : p = 0
  · have HL : Hid (hang L u b p = hangD L u b p) := by unfold hang; exact if_pos h0
    subst h0
    go_enter Try.func76, Try.ntmps76
    go_upto_region 0 with fail
    refine hang0 _ _ _ rfl rfl rfl rfl rfl h hu e2 ?_
    intro a' w1 hw ha
    subst ha
    subst hw
    simp only [Act.put, List.setIfInBounds_toArray, List.set_cons_zero, List.set_cons_succ]
    go_wp2
    go_end0
    exact ⟨rfl, by rw [HL.out]; exact d2⟩
  · have HL : Hid (hang L u b p = setUp (hangD L u b p) p u) := by unfold hang; exact if_neg h0
    obtain ⟨w3, e3, d3⟩ := st_up d2.at' (p := p) (by rw [hl2]; exact hp) u
    have hp0 : ¬ (p : Int) = 0 := by omega
    go_enter Try.func76, Try.ntmps76
    go_upto_region 0 with fail
    refine hang0 _ _ _ rfl rfl rfl rfl rfl h hu e2 ?_
    intro a' w1 hw ha
    subst ha
    subst hw
    simp only [Act.put, List.setIfInBounds_toArray, List.set_cons_zero, List.set_cons_succ]
    go_upto_region 2 with fail
    refine hang2 _ _ _ rfl rfl rfl rfl d2.at' (by rw [hl2]; exact hp) e3 ?_
    intro a' w1 hw ha
    subst ha
    subst hw
    simp only [Act.put, List.setIfInBounds_toArray, List.set_cons_zero, List.set_cons_succ]
    go_wp2
    go_end0
    exact ⟨rfl, by rw [HL.out]; exact d2.trans d3⟩
end
end Go.Proofs.Ytlejbdepoemcjaa
