import Derived.Test.YtlejbdepoemcjaaXd
namespace Go.Proofs.Ytlejbdepoemcjaa
open Go.RowKit Sq
set_option linter.unusedVariables false
set_option linter.unusedSimpArgs false

/-- The first one from a spot down. -/
def fs : T → Nat
  | .nil => 0
  | .nd i .nil _ => i
  | .nd _ (.nd j a b) _ => fs (.nd j a b)
theorem fs_up : ∀ (t : T) (c : Ctx), t ≠ .nil → upOf (lft t c) = fs t
  | .nil, c, h => absurd rfl h
  | .nd i .nil r, c, _ => rfl
  | .nd i (.nd j a b) r, c, _ => by
    rw [lft, fs_up (.nd j a b) _ (by simp)]
    rfl
section
variable {w : World} {rb ro g cap i : Nat} {L : List Sp}
set_option maxRecDepth 100000 in
set_option maxHeartbeats 1000000 in
theorem first_any {t : T} {p : Nat} (h : SqAt w rb ro g cap L) (hr : Rep L p t) (h0 : t.ix ≠ 0) (hn : lsp t ≤ L.length) : Calls Try.prog 77 #[.pointer (some ⟨rb, ro, none⟩), .int .i64 (t.ix : Int)] w fun e w' => e = .returned (.int .i64 (fs t : Int)) ∧ Qt w w' := by
  obtain ⟨N, hN⟩ : ∃ N, N = L.length := ⟨_, rfl⟩
  rw [← hN] at hn
  have HN := hidMk hN
  clear hN
  go_enter Try.func77, Try.ntmps77
  go_wp2
  go_loopw [1] (fun v1 wr => ∃ (t' : T) (p' a : Nat), v1 = .int .i64 (a : Int) ∧ a = t'.ix ∧ Rep L p' t' ∧ a ≠ 0 ∧ fs t' = fs t ∧ lsp t' ≤ N ∧ Qt w wr) (fun v1 _ => dep (fun a => (gt L a).l) N (match v1 with | .int _ i => i.toNat | _ => 0))
  case atStart => exact ⟨t, p, t.ix, rfl, rfl, hr, h0, rfl, hn, Qt.refl w⟩
  case round =>
    clear hr h0 hn
    obtain ⟨t', p', a, rfl, ha, hr, h0, hfs, hn, q⟩ := hrel
    replace h := h.qt q
    cases t' with
    | nil => exact absurd ha h0
    | nd j l r =>
      obtain rfl : a = j := ha
      have hj : a < L.length := hr.2.1
      have hl : (gt L a).l = l.ix := hr.2.2.2.1
      have hrl : Rep L a l := hr.2.2.2.2.2.1
      have hd : dn (gt L a) false = l.ix := hl
      have HD := hidMk (dep_lsp _ _ N hr hn)
      have HS := hidMk hfs
      clear hl hfs
      cases l with
      | nil =>
        go_upto_region 1 with fail
        refine first1 (r := false) _ _ _ rfl rfl rfl h hj (by rw [hd]; rfl) ?_
        intro a' w1 hw ha
        subst ha
        obtain rfl : w1 = wr := hw
        simp only [Act.put, List.setIfInBounds_toArray, List.set_cons_zero, List.set_cons_succ]
        go_wp2
        go_ret
        exact ⟨by rw [← HS.out]; rfl, q⟩
      | nd k x y =>
        have hk0 : k ≠ 0 := hrl.1
        go_upto_region 1 with fail
        refine first1 (r := true) _ _ _ rfl rfl rfl h hj (by rw [hd]; simp only [T.ix]; simp; omega) ?_
        intro a' w1 hw ha
        subst ha
        obtain rfl : w1 = wr := hw
        simp only [Act.put, List.setIfInBounds_toArray, List.set_cons_zero, List.set_cons_succ]
        go_upto_region 2 with fail
        refine first2 _ _ _ rfl rfl rfl h hj ?_
        intro a' w2 hw ha
        subst ha
        obtain rfl : w2 = w1 := hw
        rw [hd]
        simp only [Act.put, List.setIfInBounds_toArray, List.set_cons_zero, List.set_cons_succ]
        go_wp2
        refine ⟨⟨.nd k x y, a, k, rfl, rfl, hrl, hk0, HS.out, ?_, q⟩, ?_⟩
        · simp only [lsp] at hn ⊢; omega
        · show dep (fun a => (gt L a).l) N (k : Int).toNat < dep (fun a => (gt L a).l) N (a : Int).toNat
          have e1 := dep_lsp _ _ N hrl (by simp only [lsp] at hn ⊢; omega)
          have e2 := HD.out
          simp only [T.ix] at e1 e2
          rw [Int.toNat_natCast, Int.toNat_natCast, e1, e2]
          simp only [lsp]
          omega
end
end Go.Proofs.Ytlejbdepoemcjaa
