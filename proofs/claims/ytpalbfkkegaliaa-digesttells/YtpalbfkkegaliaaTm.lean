import Derived.Test.YtpalbfkkegaliaaFw
namespace Go.Proofs.Ytpalbfkkegaliaa
open Go.RowKit
set_option linter.unusedVariables false
set_option linter.unusedSimpArgs false

/-- All pairs are pairs of like ones; some unlike ones share all digits but the last that tells. -/
def Tel (R : List UInt8 → List UInt8 → Prop) (m : Nat) (al sh : Bool) : Prop :=
  (al = true ↔ ∀ a b, R a b → a = b) ∧ (sh = true ↔ ∃ a b, R a b ∧ a ≠ b ∧ m ≤ cm a b + 1)
theorem Tel.zero {R : List UInt8 → List UInt8 → Prop} {m : Nat} (h : ∀ a b, ¬ R a b) : Tel R m true false :=
  ⟨⟨fun _ a b r => absurd r (h a b), fun _ => rfl⟩, ⟨fun e => (by cases e), fun ⟨a, b, r, _⟩ => absurd r (h a b)⟩⟩
theorem Tel.same {R R' : List UInt8 → List UInt8 → Prop} {m : Nat} {al sh : Bool} (h : Tel R m al sh) (e : ∀ a b, R' a b ↔ R a b) : Tel R' m al sh := by
  refine ⟨h.1.trans ⟨fun k a b r => k a b ((e a b).1 r), fun k a b r => k a b ((e a b).2 r)⟩, h.2.trans ⟨fun ⟨a, b, r, k⟩ => ⟨a, b, (e a b).2 r, k⟩, fun ⟨a, b, r, k⟩ => ⟨a, b, (e a b).1 r, k⟩⟩⟩
theorem Tel.like {R R' : List UInt8 → List UInt8 → Prop} {m : Nat} {al sh : Bool} {x y : List UInt8} (h : Tel R m al sh) (e : ∀ a b, R' a b ↔ R a b ∨ (a = x ∧ b = y)) (hxy : x = y) : Tel R' m al sh := by
  refine ⟨h.1.trans ⟨fun k a b r => ?_, fun k a b r => k a b ((e a b).2 (.inl r))⟩, h.2.trans ⟨fun ⟨a, b, r, k⟩ => ⟨a, b, (e a b).2 (.inl r), k⟩, fun ⟨a, b, r, k1, k2⟩ => ?_⟩⟩
  · rcases (e a b).1 r with r | ⟨rfl, rfl⟩
    · exact k a b r
    · exact hxy
  · rcases (e a b).1 r with r | ⟨rfl, rfl⟩
    · exact ⟨a, b, r, k1, k2⟩
    · exact absurd hxy k1
theorem Tel.unlike {R R' : List UInt8 → List UInt8 → Prop} {m : Nat} {al sh : Bool} {x y : List UInt8} (h : Tel R m al sh) (e : ∀ a b, R' a b ↔ R a b ∨ (a = x ∧ b = y)) (hxy : ¬ x = y) : Tel R' m false (sh || decide (m ≤ cm x y + 1)) := by
  refine ⟨⟨fun k => (by cases k), fun k => absurd (k x y ((e x y).2 (.inr ⟨rfl, rfl⟩))) hxy⟩, ?_⟩
  rw [Bool.or_eq_true, decide_eq_true_eq]
  constructor
  · rintro (k | k)
    · obtain ⟨a, b, r, k⟩ := h.2.1 k
      exact ⟨a, b, (e a b).2 (.inl r), k⟩
    · exact ⟨x, y, (e x y).2 (.inr ⟨rfl, rfl⟩), hxy, k⟩
  · rintro ⟨a, b, r, k1, k2⟩
    rcases (e a b).1 r with r | ⟨rfl, rfl⟩
    · exact .inl (h.2.2 ⟨a, b, r, k1, k2⟩)
    · exact .inr k2
/-- At the end. -/
theorem tel_end {L : List (List UInt8)} {m : Nat} {al sh : Bool} (h : Tel (Prs L L.length 0) m al sh) (hl : IsLead (fun x => x ∈ L) m) : (al = true ∧ m = 0) ∨ (al = false ∧ 0 < m ∧ sh = true) := by
  have pair : ∀ a b, a ∈ L → b ∈ L → a ≠ b → Prs L L.length 0 a b ∨ Prs L L.length 0 b a := by
    intro a b ha hb hab
    obtain ⟨p, hp⟩ := List.mem_iff_getElem?.1 ha
    obtain ⟨q, hq⟩ := List.mem_iff_getElem?.1 hb
    have lp := (List.getElem?_eq_some_iff.1 hp).1
    have lq := (List.getElem?_eq_some_iff.1 hq).1
    by_cases e : p = q
    · subst e; rw [hp] at hq; exact absurd (Option.some.inj hq) hab
    · by_cases h2 : q < p
      · exact .inl ⟨p, q, hp, hq, by omega⟩
      · exact .inr ⟨q, p, hq, hp, by omega⟩
  cases al with
  | true =>
    left
    refine ⟨rfl, ?_⟩
    rcases hl.2 with h0 | ⟨a, b, ha, hb, hab, _⟩
    · exact h0
    · have k := h.1.1 rfl
      rcases pair a b ha hb hab with r | r
      · exact absurd (k a b r) hab
      · exact absurd (k b a r) (fun e => hab e.symm)
  | false =>
    right
    have hne : ¬ ∀ a b, Prs L L.length 0 a b → a = b := fun k => by have := h.1.2 k; cases this
    have hpos : 0 < m := by
      by_cases h0 : 0 < m
      · exact h0
      · exfalso
        apply hne
        intro a b r
        by_cases hab : a = b
        · exact hab
        · obtain ⟨p, q, hp, hq, _⟩ := r
          have := hl.1 a b (List.mem_of_getElem? hp) (List.mem_of_getElem? hq) hab
          omega
    refine ⟨rfl, hpos, ?_⟩
    rcases hl.2 with h0 | ⟨a, b, ha, hb, hab, e⟩
    · omega
    · rcases pair a b ha hb hab with r | r
      · exact h.2.2 ⟨a, b, r, hab, by omega⟩
      · exact h.2.2 ⟨b, a, r, fun e => hab e.symm, by rw [cm_comm]; omega⟩
theorem findG_one (s : ByteArray) (x : List UInt8) : ∀ (L : List (List UInt8)) (st : Option (List UInt8)), (∀ y ∈ L, beg y s = true → y = x) → (st = some x ∨ st = none ∧ x ∈ L ∧ beg x s = true) → findG s st L = (x, 0)
  | [], st, _, h => by
    rcases h with rfl | ⟨_, h, _⟩
    · rfl
    · simp at h
  | y :: r, st, hy, h => by
    have hr : ∀ z ∈ r, beg z s = true → z = x := fun z hz => hy z (by simp [hz])
    rcases h with rfl | ⟨rfl, hm, hb⟩
    · unfold findG
      cases hb : beg y s with
      | true =>
        have e := hy y (by simp) hb
        subst e
        simp only [if_true]
        exact findG_one s y r (some y) hr (.inl rfl)
      | false => exact findG_one s x r (some x) hr (.inl rfl)
    · unfold findG
      cases hb2 : beg y s with
      | true =>
        have e := hy y (by simp) hb2
        subst e
        exact findG_one s y r (some y) hr (.inl rfl)
      | false =>
        have hne : x ≠ y := fun e => by subst e; rw [hb] at hb2; cases hb2
        exact findG_one s x r none hr (.inr ⟨rfl, (List.mem_cons.1 hm).resolve_left hne, hb⟩)
theorem beg_hexl (y x : List UInt8) (m : Nat) (hm : m ≤ 64) : beg y ⟨(hexl x m).toArray⟩ = decide (m ≤ cm y x) := by
  unfold beg
  have hsz : (⟨(hexl x m).toArray⟩ : ByteArray).size = m := by show (hexl x m).toArray.size = m; simp [hexl_len]
  rw [hsz]
  have e : (hexl y m = (⟨(hexl x m).toArray⟩ : ByteArray).data.toList) ↔ m ≤ cm y x := by
    rw [le_cm hm, ← hexl_agree]
  simp only [e]
theorem findA_lead {L : List (List UInt8)} (hL : All32 L) {m : Nat} (hm : m ≤ 64) (hl : IsLead (fun x => x ∈ L) m) {x : List UInt8} (hx : x ∈ L) : findA ⟨(hexl x m).toArray⟩ L = (x, 0) := by
  have hsz : (⟨(hexl x m).toArray⟩ : ByteArray).size = m := by show (hexl x m).toArray.size = m; simp [hexl_len]
  have hdg : AllDg ⟨(hexl x m).toArray⟩ := fun j hj => by
    rw [hsz] at hj
    show isDg (at8 (hexl x m) j) = true
    rw [at8_hexl _ _ _ hj]
    exact (hx_all _ (dig_bd x j).1 (dig_bd x j).2).1
  unfold findA
  rw [if_pos ⟨by omega, good_all (by omega) hdg⟩]
  refine findG_one _ x L none (fun y hy hb => ?_) (.inr ⟨rfl, hx, ?_⟩)
  · rw [beg_hexl y x m hm, decide_eq_true_eq] at hb
    by_cases e : y = x
    · exact e
    · have := hl.1 y x hy hx e
      omega
  · rw [beg_hexl x x m hm, decide_eq_true_eq, le_cm hm]
    intro j hj
    rfl
theorem findA_empty : findA ⟨#[]⟩ [] = (z32, 4) := by
  have h : (⟨#[]⟩ : ByteArray).size ≤ 64 ∧ good (⟨#[]⟩ : ByteArray).data.toList = (⟨#[]⟩ : ByteArray).size := ⟨by decide, by decide⟩
  unfold findA
  rw [if_pos h]
  rfl
end Go.Proofs.Ytpalbfkkegaliaa
