import Derived.Test.YtlejbdepoemcjaaXf
namespace Go.Proofs.Ytlejbdepoemcjaa
open Go.RowKit Sq
set_option linter.unusedVariables false
set_option linter.unusedSimpArgs false

section
variable {w : World} {rb ro g cap i : Nat} {L : List Sp}
theorem SqAt.rs (h : SqAt w rb ro g cap L) (hi : i < L.length) : RS rb ro g cap i L w := ⟨R_sl h, R_up h hi⟩
set_option maxRecDepth 100000 in
set_option maxHeartbeats 1000000 in
theorem replace_any {p : Nat} (h : SqAt w rb ro g cap L) (hi : i < L.length) (hu : (gt L i).up < L.length) (hp : p < L.length) (hip : p ≠ i) : Calls Try.prog 79 #[.pointer (some ⟨rb, ro, none⟩), .int .i64 (i : Int), .int .i64 (p : Int)] w fun e w' => e = .returned (.tuple #[]) ∧ Did w rb ro g cap (repl L i p) w' := by
  go_enter Try.func79, Try.ntmps79
  go_upto_region 0 with fail
  refine replace0 (s := sideOf L i) (fun w' => Did w rb ro g cap (repl L i p) w') _ _ _ rfl rfl rfl rfl hi h.len (h.drew.rs hi) ?_ ?_
  · refine (side_any h.drew hi hu).mono ?_
    rintro e w1 ⟨rfl, q1⟩
    have h1 := h.drew.qt q1
    refine ⟨rfl, h1.rs hi, ?_⟩
    refine (hang_any h1 hu hp).mono ?_
    rintro e w2 ⟨rfl, d2⟩
    refine ⟨rfl, ⟨?_, ?_⟩, Did.from ((Qt.drew w).trans q1) d2⟩
    · have := R_sl d2.at'
      rwa [hang_len] at this
    · have := R_up d2.at' (i := i) (by rw [hang_len]; exact hi)
      rwa [hang_up, if_neg (fun q => hip q.1)] at this
  intro a' w1 hw ha
  subst ha
  simp only [Act.put, List.setIfInBounds_toArray, List.set_cons_zero, List.set_cons_succ]
  go_wp2
  go_end0
  exact ⟨rfl, hw⟩
/-- How far a spot has been counted anew. -/
def tal (L : List Sp) (i k : Nat) : List Sp := if k = 0 then L else if k = 1 then tallyW L i false else tally L i
theorem tal_len (L : List Sp) (i k : Nat) : (tal L i k).length = L.length := by
  unfold tal
  split
  · rfl
  · split
    · exact tallyW_len _ _ _
    · exact tally_len _ _
def wh (k : Nat) : Bool := decide (k = 1)
theorem tal_next (L : List Sp) (i k : Nat) (hk : k < 2) : tallyW (tal L i k) i (wh k) = tal L i (k + 1) := by
  have : k = 0 ∨ k = 1 := by omega
  rcases this with rfl | rfl <;> rfl
theorem tal_rest (L : List Sp) (i k : Nat) (hk : k < 2) (j : Nat) : (gt (tal L i k) j).l = (gt L j).l ∧ (gt (tal L i k) j).r = (gt L j).r ∧ ct (gt (tal L i k) j) (wh k) = ct (gt L j) (wh k) := by
  have : k = 0 ∨ k = 1 := by omega
  rcases this with rfl | rfl
  · exact ⟨rfl, rfl, rfl⟩
  · show (gt (tallyW L i false) j).l = _ ∧ (gt (tallyW L i false) j).r = _ ∧ ct (gt (tallyW L i false) j) true = ct (gt L j) true
    refine ⟨(tallyW_rest _ _ _ _).2.1, (tallyW_rest _ _ _ _).2.2.1, ?_⟩
    rw [tallyW_ct, if_neg (fun q => by simp at q)]
theorem SqAt.ts {c : Bool} (h : SqAt w rb ro g cap L) (hi : i < L.length) (hd : dn (gt L i) true < L.length) : TS rb ro g cap i c L w := ⟨R_sl h, R_dn h hi true, R_ct h hd c⟩
set_option maxRecDepth 100000 in
set_option maxHeartbeats 2000000 in
theorem tally_any (h : SqAt w rb ro g cap L) (hi : i < L.length) (hl : (gt L i).l < L.length) (hr : (gt L i).r < L.length) (hri : (gt L i).r ≠ i) (hcl : ∀ c, ct (gt L (gt L i).l) c ≤ 2800000000000) (hcr : ∀ c, ct (gt L (gt L i).r) c ≤ 2800000000000) :
    Calls Try.prog 90 #[.pointer (some ⟨rb, ro, none⟩), .int .i64 (i : Int)] w fun e w' => e = .returned (.tuple #[]) ∧ Did w rb ro g cap (tally L i) w' := by
  go_enter Try.func90, Try.ntmps90
  go_wp2
  go_loopw [5] (fun v5 wr => ∃ k : Nat, v5 = .int .i64 (k : Int) ∧ k ≤ 2 ∧ Did w rb ro g cap (tal L i k) wr) (fun v5 _ => 2 - (match v5 with | .int _ i => i.toNat | _ => 0))
  case atStart => exact ⟨0, rfl, by omega, Did.refl h⟩
  case round =>
    obtain ⟨k, rfl, hk2, d⟩ := hrel
    by_cases hk : k < 2
    · have hk' : (k : Int) < 2 := by omega
      have HN := hidMk (tal_next L i k hk)
      obtain ⟨M, hM⟩ : ∃ M, tal L i k = M := ⟨_, rfl⟩
      have lM : M.length = L.length := by rw [← hM]; exact tal_len _ _ _
      have rM := fun j => hM ▸ tal_rest L i k hk j
      rw [hM] at HN d
      clear hM
      have hnb : ((nb (wh k) : Nat) : Int) = (k : Int) := by
        have : k = 0 ∨ k = 1 := by omega
        rcases this with rfl | rfl <;> rfl
      have e1 : dn (gt M i) false = (gt L i).l := (rM i).1
      have e2 : dn (gt M i) true = (gt L i).r := (rM i).2.1
      have b1 : under M i false (wh k) ≤ 2800000000000 := by unfold under; rw [e1, (rM _).2.2]; exact hcl _
      have b2 : ct (gt M (dn (gt M i) true)) (wh k) ≤ 2800000000000 := by rw [e2, (rM _).2.2]; exact hcr _
      have hiM : i < M.length := by omega
      have hdM : dn (gt M i) true < M.length := by rw [e2]; omega
      have hlM : (gt M i).l < M.length := by rw [(rM i).1]; omega
      have b3 : upTo M i (wh k) ≤ 2800000000001 := by have := own_le M i (wh k); unfold upTo; omega
      have hne : (gt M i).r ≠ i := by rw [(rM i).2.1]; exact hri
      clear rM e1 e2 hcl hcr hri
      go_upto_region 3 with fail
      refine tally3 (L := M) (u := upTo M i (wh k)) (c := wh k) (fun w' => Did w rb ro g cap (tal L i (k + 1)) w') _ _ _ rfl rfl rfl ?_ hiM (by rw [lM]; exact h.len) hdM (d.at'.drew.ts hiM hdM) (by omega) ?_ ?_
      · show Value.int .i64 (k : Int) = _
        rw [hnb]
      · refine (upTo_any d.at'.drew hiM hlM b1).mono ?_
        rintro e w1 ⟨rfl, q1⟩
        have h1 := d.at'.drew.qt q1
        refine ⟨rfl, h1.ts hiM hdM, ?_⟩
        obtain ⟨w2, E2, D2⟩ := st_ct h1 hiM (wh k)
        refine ⟨w2, E2, ⟨?_, ?_, ?_⟩, ?_⟩
        · have := R_sl D2.at'
          rwa [tallyW_len] at this
        · have := R_dn D2.at' (i := i) (by rw [tallyW_len]; exact hiM) true
          simp only [dn, (tallyW_rest _ _ _ _).2.2.1] at this
          exact this
        · have := R_ct D2.at' (i := dn (gt M i) true) (by rw [tallyW_len]; exact hdM) (wh k)
          rwa [tallyW_ct, if_neg (fun q => hne q.1.symm)] at this
        · rw [← HN.out]
          exact d.trans (Did.from ((Qt.drew _).trans q1) D2)
      intro a' w1 hw ha
      subst ha
      simp only [Act.put, List.setIfInBounds_toArray, List.set_cons_zero, List.set_cons_succ]
      have HW := hidMk hw
      clear hw b1 b2 b3 hnb hk' hiM hdM hlM hne
      go_wp2
      rw [show ((k : Int) + 1) = ((k + 1 : Nat) : Int) by omega]
      refine ⟨⟨k + 1, rfl, hk, HW.out⟩, ?_⟩
      show 2 - ((k + 1 : Nat) : Int).toNat < 2 - (k : Int).toNat
      omega
    · obtain rfl : k = 2 := by omega
      clear hk hk2
      go_wp2
      go_end0
      exact ⟨rfl, d⟩
end
end Go.Proofs.Ytlejbdepoemcjaa
