import Derived.Test.YtlejbdepoemcjaaXy0
namespace Go.Proofs.Ytlejbdepoemcjaa
open Go.RowKit Sq
set_option linter.unusedVariables false
set_option linter.unusedSimpArgs false

/-- What is yielded: something that a spot keeps. -/
abbrev OkK : Type := { k : KpV // KpV.ok k }
def kpO {L : List Sp} (ok : OkS L) (i : Nat) : OkK := if h : i < L.length then ⟨(gt L i).kp, ok.gt h⟩ else ⟨zK, zK_ok⟩
theorem kpO_val {L : List Sp} (ok : OkS L) {i : Nat} (h : i < L.length) : (kpO ok i).1 = (gt L i).kp := by unfold kpO; rw [dif_pos h]
def visK {L : List Sp} (ok : OkS L) (c : Bool) (t : T) : List OkK := (vis L c t).map (kpO ok)
theorem visK_nd {L : List Sp} (ok : OkS L) (c : Bool) (i : Nat) (l r : T) : visK ok c (.nd i l r) = visK ok c l ++ ((if cq L c i then [kpO ok i] else []) ++ visK ok c r) := by
  unfold visK
  rw [vis_nd]
  cases cq L c i <;> simp
theorem visK_len {L : List Sp} (ok : OkS L) (c : Bool) (t : T) : (visK ok c t).length = (vis L c t).length := by simp [visK]
section
variable {rb ro g cap n N l : Nat} {L : List Sp} {c : Bool}
/-- How 'pass' ends. -/
def PassP (J Jx : List OkK → World → Prop) (rb ro g cap : Nat) (L : List Sp) (xs : List OkK) (b : Bool) (W' : World) : Prop := (b = true ∧ J xs W' ∧ SqAt W' rb ro g cap L) ∨ (b = false ∧ ∃ pre', Jx pre' W')
set_option maxRecDepth 100000 in
set_option maxHeartbeats 4000000 in
theorem pass_any (ok : OkS L) (J Jx : List OkK → World → Prop) (hz : ∀ w, ct (gt L 0) w = 0) (h0 : 0 < L.length) (hJ : ∀ pre W W', J pre W → Qt W W' → J pre W')
    (hY : ∀ pre x W1, J pre W1 → SqAt W1 rb ro g cap L → pre.length < N → YieldAt Fence.wide (n - 1) Try.prog l #[KpV.v x.1] W1 fun e W' => ∃ b, e = .returned (.bool b) ∧ PassP J Jx rb ro g cap L (pre ++ [x]) b W') :
    ∀ (t : T) (p : Nat) (pre : List OkK) (W : World), Rep L p t → Cnt L t → SqAt W rb ro g cap L → J pre W → pre.length + (vis L c t).length ≤ N →
      Calls Try.prog 96 #[.pointer (some ⟨rb, ro, none⟩), .int .i64 (t.ix : Int), .int .i64 (nb c : Int), .func (.yield l) #[] #[]] W fun e W' => ∃ b, e = .returned (.bool b) ∧ PassP J Jx rb ro g cap L (pre ++ visK ok c t) b W' := by
  intro t
  induction t with
  | nil =>
    intro p pre W hr hc h hj hN
    have HP := hidMk (show PassP J Jx rb ro g cap L (pre ++ visK ok c .nil) true W from .inl ⟨rfl, by simpa [visK, vis, T.ids] using hj, h⟩)
    have hr2 : decide ((ct (gt L T.nil.ix) c : Int) = 0) = true := by show decide ((ct (gt L 0) c : Int) = 0) = true; rw [hz c]; rfl
    have hi : T.nil.ix < L.length := h0
    go_enter Try.func96, Try.ntmps96
    go_upto_region 1 with fail
    refine pass1 _ _ _ rfl rfl rfl h hi ?_
    intro a' w1 hw ha
    subst ha
    obtain rfl : w1 = W := hw
    simp only [Act.put, List.setIfInBounds_toArray, List.set_cons_zero, List.set_cons_succ]
    go_upto_region 2 with fail
    refine pass2 (c := c) (r := true) _ _ _ rfl rfl rfl h hi hr2 ?_
    intro a' w2 hw ha
    subst ha
    obtain rfl : w2 = w1 := hw
    simp only [Act.put, List.setIfInBounds_toArray, List.set_cons_zero, List.set_cons_succ]
    go_wp2
    go_ret
    exact ⟨true, rfl, HP.out⟩
  | nd i tl tr ihl ihr =>
    intro p pre W hr hc h hj hN
    obtain ⟨r1, r2, r3, r4, r5, r6, r7⟩ := hr
    have hcc : ct (gt L i) c = (vis L c (.nd i tl tr)).length := by rw [vis_len]; exact hc.1 c
    by_cases hn0 : (vis L c (.nd i tl tr)).length = 0
    · have HP := hidMk (show PassP J Jx rb ro g cap L (pre ++ visK ok c (.nd i tl tr)) true W from .inl ⟨rfl, by
        have : visK ok c (.nd i tl tr) = [] := List.eq_nil_of_length_eq_zero (by rw [visK_len]; exact hn0)
        rw [this, List.append_nil]; exact hj, h⟩)
      have hr2 : decide ((ct (gt L i) c : Int) = 0) = true := by rw [hcc, hn0]; rfl
      show Calls Try.prog 96 #[.pointer (some ⟨rb, ro, none⟩), .int .i64 (i : Int), .int .i64 (nb c : Int), .func (.yield l) #[] #[]] W _
      clear hcc hn0 ihl ihr
      go_enter Try.func96, Try.ntmps96
      go_upto_region 1 with fail
      refine pass1 _ _ _ rfl rfl rfl h r2 ?_
      intro a' w1 hw ha
      subst ha
      obtain rfl : w1 = W := hw
      simp only [Act.put, List.setIfInBounds_toArray, List.set_cons_zero, List.set_cons_succ]
      go_upto_region 2 with fail
      refine pass2 (c := c) (r := true) _ _ _ rfl rfl rfl h r2 hr2 ?_
      intro a' w2 hw ha
      subst ha
      obtain rfl : w2 = w1 := hw
      simp only [Act.put, List.setIfInBounds_toArray, List.set_cons_zero, List.set_cons_succ]
      go_wp2
      go_ret
      exact ⟨true, rfl, HP.out⟩
    · have hr2 : decide ((ct (gt L i) c : Int) = 0) = false := by rw [hcc]; simpa using hn0
      have hvn := vis_nd L c i tl tr
      have hkn := visK_nd ok c i tl tr
      have hll : pre.length + (vis L c tl).length + (if cq L c i then 1 else 0) + (vis L c tr).length ≤ N := by
        rw [hvn] at hN
        simp only [List.length_append] at hN
        cases hq : cq L c i <;> rw [hq] at hN <;> simp at hN ⊢ <;> omega
      have HL := hidMk (ihl i pre W r6 hc.2.1 h hj (by omega))
      have HR := hidMk (fun (pre2 : List OkK) (W2 : World) (h2 : SqAt W2 rb ro g cap L) (hj2 : J pre2 W2) (hl2 : pre2.length + (vis L c tr).length ≤ N) => ihr i pre2 W2 r7 hc.2.2 h2 hj2 hl2)
      rw [← r4] at HL
      rw [← r5] at HR
      have HO := hidMk (fun (W2 : World) (h2 : SqAt W2 rb ro g cap L) => own_any (c := c) h2 r2)
      have EO := hidMk (own_cq L i c)
      have HK := hidMk hkn
      have HLL := hidMk hll
      have hkl := visK_len ok c tl
      show Calls Try.prog 96 #[.pointer (some ⟨rb, ro, none⟩), .int .i64 (i : Int), .int .i64 (nb c : Int), .func (.yield l) #[] #[]] W _
      clear hcc hn0 ihl ihr hvn hkn hll hN
      go_enter Try.func96, Try.ntmps96
      go_upto_region 1 with fail
      refine pass1 _ _ _ rfl rfl rfl h r2 ?_
      intro a' w1 hw ha
      subst ha
      obtain rfl : w1 = W := hw
      simp only [Act.put, List.setIfInBounds_toArray, List.set_cons_zero, List.set_cons_succ]
      go_upto_region 2 with fail
      refine pass2 (c := c) (r := false) _ _ _ rfl rfl rfl h r2 hr2 ?_
      intro a' w2 hw ha
      subst ha
      obtain rfl : w2 = w1 := hw
      simp only [Act.put, List.setIfInBounds_toArray, List.set_cons_zero, List.set_cons_succ]
      clear hr2
      go_upto_region 4 with fail
      refine (wpIn_wide (n := n)).1 ?_
      refine pass4a (c := c) (fun b w' => PassP J Jx rb ro g cap L (pre ++ visK ok c tl) b w') _ _ _ rfl rfl rfl rfl rfl h r2 HL.out ?_
      intro b a' w3 hP ha
      subst ha
      simp only [Act.put, List.setIfInBounds_toArray, List.set_cons_zero, List.set_cons_succ]
      clear HL
      rcases hP with ⟨rfl, hj3, h3⟩ | ⟨rfl, hx⟩
      · refine pass4b (c := c) (x := own L i c) (fun w' => Qt w3 w') _ _ _ rfl rfl rfl rfl rfl (HO.out _ h3) ?_
        intro a' w4 q4 ha
        subst ha
        simp only [Act.put, List.setIfInBounds_toArray, List.set_cons_zero, List.set_cons_succ]
        have h4 := h3.qt q4
        have hj4 := hJ _ _ _ hj3 q4
        clear hj3 h3 HO
        cases hq : cq L c i with
        | false =>
          have eo : own L i c = 0 := by rw [EO.out, hq]; rfl
          rw [eo]
          have HC := hidMk (HR.out _ _ h4 hj4 (by rw [List.length_append, hkl]; have := HLL.out; rw [hq] at this; simp at this; omega))
          have HK2 := hidMk (show visK ok c (.nd i tl tr) = visK ok c tl ++ visK ok c tr by rw [HK.out, hq]; simp)
          clear eo EO HLL hq HR
          refine pass4n (c := c) (L := L) (x := 0) (fun b w' => PassP J Jx rb ro g cap L ((pre ++ visK ok c tl) ++ visK ok c tr) b w') _ _ _ rfl rfl rfl rfl rfl rfl rfl rfl h4 r2 HC.out ?_
          intro b a' w5 hP5 ha
          subst ha
          simp only [Act.put, List.setIfInBounds_toArray, List.set_cons_zero, List.set_cons_succ]
          refine pass4z (b := b) _ _ _ rfl rfl rfl ?_
          intro a' w6 hw ha
          subst ha
          obtain rfl : w6 = w5 := hw
          rw [List.append_assoc, ← HK2.out] at hP5
          have HP5 := hidMk hP5
          clear hP5
          simp only [Act.put, List.setIfInBounds_toArray, List.set_cons_zero, List.set_cons_succ]
          go_wp2
          go_ret
          exact ⟨b, rfl, HP5.out⟩
        | true =>
          have eo : own L i c = 1 := by rw [EO.out, hq]; rfl
          rw [eo]
          have hlen := HLL.out
          rw [hq] at hlen
          simp only [if_true] at hlen
          have HYY := hidMk (hY (pre ++ visK ok c tl) (kpO ok i) w4 hj4 h4 (by rw [List.length_append, hkl]; omega))
          rw [kpO_val ok r2] at HYY
          have HK2 := hidMk (show visK ok c (.nd i tl tr) = visK ok c tl ++ ([kpO ok i] ++ visK ok c tr) by rw [HK.out, hq]; simp)
          have HLN := hidMk (show ((pre ++ visK ok c tl) ++ [kpO ok i]).length + (vis L c tr).length ≤ N by simp only [List.length_append, List.length_cons, List.length_nil, hkl]; omega)
          clear eo EO HLL hq hlen
          refine pass4y (L := L) (x := 1) (fun b w' => PassP J Jx rb ro g cap L ((pre ++ visK ok c tl) ++ [kpO ok i]) b w') _ _ _ rfl rfl rfl rfl rfl rfl h4 r2 HYY.out ?_
          intro b a' w5 hP5 ha
          subst ha
          simp only [Act.put, List.setIfInBounds_toArray, List.set_cons_zero, List.set_cons_succ]
          clear HYY hj4 h4
          rcases hP5 with ⟨rfl, hj5, h5⟩ | ⟨rfl, hx⟩
          · have HC := hidMk (HR.out _ _ h5 hj5 HLN.out)
            refine pass4t (c := c) (L := L) (fun b w' => PassP J Jx rb ro g cap L (((pre ++ visK ok c tl) ++ [kpO ok i]) ++ visK ok c tr) b w') _ _ _ rfl rfl rfl rfl rfl rfl rfl rfl h5 r2 HC.out ?_
            intro b a' w6 hP6 ha
            subst ha
            simp only [Act.put, List.setIfInBounds_toArray, List.set_cons_zero, List.set_cons_succ]
            refine pass4z (b := b) _ _ _ rfl rfl rfl ?_
            intro a' w7 hw ha
            subst ha
            obtain rfl : w7 = w6 := hw
            rw [List.append_assoc, List.append_assoc, ← HK2.out] at hP6
            have HP6 := hidMk hP6
            clear hP6
            simp only [Act.put, List.setIfInBounds_toArray, List.set_cons_zero, List.set_cons_succ]
            go_wp2
            go_ret
            exact ⟨b, rfl, HP6.out⟩
          · have HX := hidMk hx
            clear hx
            refine pass4e _ _ _ rfl rfl rfl rfl ?_
            intro a' w6 hw ha
            subst ha
            obtain rfl : w6 = w5 := hw
            simp only [Act.put, List.setIfInBounds_toArray, List.set_cons_zero, List.set_cons_succ]
            go_wp2
            go_ret
            exact ⟨false, rfl, .inr ⟨rfl, HX.out⟩⟩
      · have HX := hidMk hx
        clear hx
        refine pass4f _ _ _ rfl rfl ?_
        intro a' w4 hw ha
        subst ha
        obtain rfl : w4 = w3 := hw
        simp only [Act.put, List.setIfInBounds_toArray, List.set_cons_zero, List.set_cons_succ]
        go_wp2
        go_ret
        exact ⟨false, rfl, .inr ⟨rfl, HX.out⟩⟩
end
end Go.Proofs.Ytlejbdepoemcjaa
