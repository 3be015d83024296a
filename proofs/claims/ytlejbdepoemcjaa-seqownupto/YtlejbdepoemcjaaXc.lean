import Derived.Test.YtlejbdepoemcjaaXc0
namespace Go.Proofs.Ytlejbdepoemcjaa
open Go.RowKit Sq
set_option linter.unusedVariables false
set_option linter.unusedSimpArgs false

/-- Numbers of spots, and what they count, are small. -/
structure Fits (L : List Sp) : Prop where
  l : ∀ i, i < L.length → (gt L i).l < L.length
  r : ∀ i, i < L.length → (gt L i).r < L.length
  u : ∀ i, i < L.length → (gt L i).up < L.length
  c : ∀ i, i < L.length → ∀ w, ct (gt L i) w ≤ 2800000000000
theorem Fits.dn {L : List Sp} (h : Fits L) {i : Nat} (hi : i < L.length) (b : Bool) : dn (gt L i) b < L.length := by
  cases b
  · exact h.l i hi
  · exact h.r i hi
section
variable {w : World} {rb ro g cap i : Nat} {L : List Sp}
set_option maxRecDepth 100000 in
set_option maxHeartbeats 1000000 in
theorem weight_any (h : SqAt w rb ro g cap L) (hi : i < L.length) (hc : ct (gt L i) false ≤ 5600000000000) : Calls Try.prog 99 #[.pointer (some ⟨rb, ro, none⟩), .int .i64 (i : Int)] w fun e w' => e = .returned (.int .i64 (wt L i : Int)) ∧ w' = w := by
  go_enter Try.func99, Try.ntmps99
  go_upto_region 1 with fail
  refine weight1 _ _ _ rfl rfl rfl h hi (by omega) ?_
  intro a' w1 hw ha
  subst ha
  obtain rfl : w1 = w := hw
  simp only [Act.put, List.setIfInBounds_toArray, List.set_cons_zero, List.set_cons_succ]
  go_wp2
  go_ret
  exact ⟨rfl, rfl⟩
set_option maxRecDepth 100000 in
set_option maxHeartbeats 1000000 in
theorem under_any {b c : Bool} (h : SqAt w rb ro g cap L) (hi : i < L.length) (hd : dn (gt L i) b < L.length) : Calls Try.prog 97 #[.pointer (some ⟨rb, ro, none⟩), .int .i64 (i : Int), .int .i64 (nb b : Int), .int .i64 (nb c : Int)] w fun e w' => e = .returned (.int .i64 (under L i b c : Int)) ∧ Qt w w' := by
  go_enter Try.func97, Try.ntmps97
  go_upto_region 1 with fail
  refine under1 _ _ _ rfl rfl rfl rfl rfl h hi hd ?_
  intro a' w1 hw ha
  subst ha
  simp only [Act.put, List.setIfInBounds_toArray, List.set_cons_zero, List.set_cons_succ]
  go_wp2
  go_ret
  exact ⟨rfl, by rw [hw]; exact Qt.drew w⟩
set_option maxRecDepth 100000 in
set_option maxHeartbeats 1000000 in
theorem own_any {c : Bool} (h : SqAt w rb ro g cap L) (hi : i < L.length) : Calls Try.prog 101 #[.pointer (some ⟨rb, ro, none⟩), .int .i64 (i : Int), .int .i64 (nb c : Int)] w fun e w' => e = .returned (.int .i64 (own L i c : Int)) ∧ Qt w w' := by
  cases c with
  | false =>
    have ho : own L i false = 1 := by simp [own]
    rw [ho]
    go_enter Try.func101, Try.ntmps101
    go_upto_region 1 with fail
    refine own1a (c := false) _ _ _ rfl rfl rfl rfl rfl ?_
    intro a' w1 hw ha
    subst ha
    simp only [Act.put, List.setIfInBounds_toArray, List.set_cons_zero, List.set_cons_succ]
    go_wp2
    go_ret
    exact ⟨rfl, by rw [hw]; exact Qt.refl w⟩
  | true =>
    have HO := hidMk (show own L i true = if (gt L i).sh = true then 1 else 0 from by unfold own; simp)
    go_enter Try.func101, Try.ntmps101
    go_upto_region 1 with fail
    refine own1b (c := true) _ _ _ rfl rfl rfl rfl h hi rfl ?_
    intro a' w1 hw ha
    subst ha
    replace hw : Qt w w1 := by rw [hw]; exact Qt.refl w
    simp only [Act.put, List.setIfInBounds_toArray, List.set_cons_zero, List.set_cons_succ]
    cases hs : (gt L i).sh with
    | false =>
      rw [hs] at HO
      clear hs
      go_wp2
      go_ret
      exact ⟨by rw [HO.out]; rfl, hw⟩
    | true =>
      rw [hs] at HO
      clear hs
      go_wp2
      go_ret
      exact ⟨by rw [HO.out]; rfl, hw⟩
theorem own_le (L : List Sp) (i : Nat) (c : Bool) : own L i c ≤ 1 := by unfold own; split <;> omega
set_option maxRecDepth 100000 in
set_option maxHeartbeats 1000000 in
theorem upTo_any {c : Bool} (h : SqAt w rb ro g cap L) (hi : i < L.length) (hd : (gt L i).l < L.length) (hc : under L i false c ≤ 2800000000000) : Calls Try.prog 98 #[.pointer (some ⟨rb, ro, none⟩), .int .i64 (i : Int), .int .i64 (nb c : Int)] w fun e w' => e = .returned (.int .i64 (upTo L i c : Int)) ∧ Qt w w' := by
  have ho := own_le L i c
  go_enter Try.func98, Try.ntmps98
  go_upto_region 1 with fail
  refine upTo1 (u := under L i false c) (o := own L i c) _ _ _ rfl rfl rfl rfl ?_ (by omega) ?_
  · refine (under_any (b := false) h hi hd).mono ?_
    rintro e w' ⟨rfl, q⟩
    exact ⟨rfl, q, own_any (h.qt q) hi⟩
  intro a' w1 hw ha
  subst ha
  simp only [Act.put, List.setIfInBounds_toArray, List.set_cons_zero, List.set_cons_succ]
  go_wp2
  go_ret
  exact ⟨rfl, hw⟩
set_option maxRecDepth 100000 in
set_option maxHeartbeats 1000000 in
theorem side_any (h : SqAt w rb ro g cap L) (hi : i < L.length) (hu : (gt L i).up < L.length) : Calls Try.prog 92 #[.pointer (some ⟨rb, ro, none⟩), .int .i64 (i : Int)] w fun e w' => e = .returned (.int .i64 (nb (sideOf L i) : Int)) ∧ Qt w w' := by
  have he : decide ((dn (gt L (gt L i).up) false : Int) = (i : Int)) = !(sideOf L i) := by
    unfold sideOf dn
    simp only [Bool.false_eq_true, if_false, Bool.not_not]
    rw [Bool.eq_iff_iff]
    simp
    omega
  go_enter Try.func92, Try.ntmps92
  go_upto_region 1 with fail
  refine side1 (r := !(sideOf L i)) _ _ _ rfl rfl rfl h hi hu he ?_
  intro a' w1 hw ha
  subst ha
  simp only [Act.put, List.setIfInBounds_toArray, List.set_cons_zero, List.set_cons_succ]
  replace hw : Qt w w1 := by rw [hw]; exact Qt.drew w
  clear he
  cases hs : sideOf L i
  · have HS := hidMk hs
    clear hs
    go_wp2
    go_ret
    exact ⟨by rw [HS.out]; rfl, hw⟩
  · have HS := hidMk hs
    clear hs
    go_wp2
    go_ret
    exact ⟨by rw [HS.out]; rfl, hw⟩
end
end Go.Proofs.Ytlejbdepoemcjaa
