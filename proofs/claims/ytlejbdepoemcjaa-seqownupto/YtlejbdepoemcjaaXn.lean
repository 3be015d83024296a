import Derived.Test.YtlejbdepoemcjaaXn0
namespace Go.Proofs.Ytlejbdepoemcjaa
open Go.RowKit Sq
set_option linter.unusedVariables false
set_option linter.unusedSimpArgs false

section
variable {w : World} {rb ro g cap i n : Nat} {L : List Sp}
theorem szSp (W : World) : (sizeOf 113).run Try.prog W = .ok 73 W := m_sz szS W
theorem sl_3 (h : n + 1 ≤ cap) (hl : n ≤ 1400000000000) (W : World) : (Instr.sliceAt 85 (.slice (some ⟨g, 0, none⟩) (n + 1) cap) (some (.int .i64 (n : Int))) (some (.int .i64 ((n + 1 : Nat) : Int))) (some (.int .i64 ((n + 1 : Nat) : Int)))).run Try.prog W = .ok (.slice (some ⟨g, n * 73, none⟩) 1 1) W := by
  have h1 : (0 : Int) ≤ ((n + 1 : Nat) : Int) ∧ ((n + 1 : Nat) : Int) ≤ (cap : Int) := by omega
  have h2 : (0 : Int) ≤ ((n + 1 : Nat) : Int) ∧ ((n + 1 : Nat) : Int) ≤ ((n + 1 : Nat) : Int) := by omega
  have h3 : (0 : Int) ≤ (n : Int) ∧ (n : Int) ≤ ((n + 1 : Nat) : Int) := by omega
  have h4 : ¬ n + 1 = n := by omega
  simp only [Instr.sliceAt, Instr.slice, Instr.sliceBounds, Instr.sliceBound, run_underlying Try.underlying85, asIntOf, Sem.run_bind, Sem.run_pure, Result.andThen_ok, szSp]
  rw [if_pos h1]
  simp only [Sem.run_bind, Sem.run_pure, Result.andThen_ok, Int.toNat_natCast]
  rw [if_pos h2]
  simp only [Sem.run_bind, Sem.run_pure, Result.andThen_ok, Int.toNat_natCast]
  rw [if_pos h3]
  simp only [Sem.run_bind, Sem.run_pure, Result.andThen_ok, Int.toNat_natCast]
  rw [if_neg h4]
  simp [Addr.add_mid]
theorem sl_to (h : n + 1 ≤ cap) (W : World) : (Instr.sliceAt 85 (.slice (some ⟨g, 0, none⟩) (n + 1) cap) none (some (.int .i64 (n : Int))) none).run Try.prog W = .ok (.slice (some ⟨g, 0, none⟩) n cap) W := by
  have h1 : (0 : Int) ≤ (n : Int) ∧ (n : Int) ≤ (cap : Int) := by omega
  simp only [Instr.sliceAt, Instr.slice, Instr.sliceBounds, Instr.sliceBound, run_underlying Try.underlying85, asIntOf, Sem.run_bind, Sem.run_pure, Result.andThen_ok, szSp]
  rw [if_pos h1]
  simp only [Sem.run_bind, Sem.run_pure, Result.andThen_ok, Int.toNat_natCast]
  simp [Addr.add_mid]
theorem sl_from (h : n + 1 ≤ cap) (W : World) : ∃ a c, ∀ W, (Instr.sliceAt 85 (.slice (some ⟨g, 0, none⟩) (n + 1) cap) (some (.int .i64 ((n + 1 : Nat) : Int))) none none).run Try.prog W = .ok (.slice (some a) 0 c) W := by
  have h2 : (0 : Int) ≤ ((n + 1 : Nat) : Int) ∧ ((n + 1 : Nat) : Int) ≤ ((n + 1 : Nat) : Int) := by omega
  by_cases e : cap = n + 1
  · refine ⟨⟨g, 0, none⟩, cap - (n + 1), fun W => ?_⟩
    simp only [Instr.sliceAt, Instr.slice, Instr.sliceBounds, Instr.sliceBound, run_underlying Try.underlying85, asIntOf, Sem.run_bind, Sem.run_pure, Result.andThen_ok, szSp]
    rw [if_pos h2]
    simp only [Sem.run_bind, Sem.run_pure, Result.andThen_ok, Int.toNat_natCast]
    rw [if_pos e]
    simp
  · refine ⟨(⟨g, 0, none⟩ : Addr).add ((n + 1) * 73), cap - (n + 1), fun W => ?_⟩
    simp only [Instr.sliceAt, Instr.slice, Instr.sliceBounds, Instr.sliceBound, run_underlying Try.underlying85, asIntOf, Sem.run_bind, Sem.run_pure, Result.andThen_ok, szSp]
    rw [if_pos h2]
    simp only [Sem.run_bind, Sem.run_pure, Result.andThen_ok, Int.toNat_natCast]
    rw [if_neg e]
    simp
theorem sl_mid (h : n + 1 ≤ cap) (W : World) : (Instr.sliceAt 85 (.slice (some ⟨g, 0, none⟩) n cap) (some (.int .i64 (n : Int))) (some (.int .i64 ((n + 1 : Nat) : Int))) none).run Try.prog W = .ok (.slice (some ⟨g, n * 73, none⟩) 1 (cap - n)) W := by
  have h1 : (0 : Int) ≤ ((n + 1 : Nat) : Int) ∧ ((n + 1 : Nat) : Int) ≤ (cap : Int) := by omega
  have h3 : (0 : Int) ≤ (n : Int) ∧ (n : Int) ≤ ((n + 1 : Nat) : Int) := by omega
  have h4 : ¬ cap = n := by omega
  simp only [Instr.sliceAt, Instr.slice, Instr.sliceBounds, Instr.sliceBound, run_underlying Try.underlying85, asIntOf, Sem.run_bind, Sem.run_pure, Result.andThen_ok, szSp]
  rw [if_pos h1]
  simp only [Sem.run_bind, Sem.run_pure, Result.andThen_ok, Int.toNat_natCast]
  rw [if_pos h3]
  simp only [Sem.run_bind, Sem.run_pure, Result.andThen_ok, Int.toNat_natCast]
  rw [if_neg h4]
  simp [Addr.add_mid]
theorem app_no {a : Addr} {c : Nat} (h : n ≤ cap) (W : World) : (Builtin.append_ #[85, 85] 85 #[.slice (some ⟨g, 0, none⟩) n cap, .slice (some a) 0 c]).run Try.prog W = .ok (.slice (some ⟨g, 0, none⟩) n cap) W := by
  obtain ⟨ii, hi, hz, hsz, hby⟩ := info_parts infoS
  simp [Builtin.append_, run_underlying Try.underlying85, szSp, Builtin.lenOf, Builtin.firstCells, h, loadCells, loadCellsFrom, storeCells]
/-- A row without its last spot: what 'clear' does. -/
theorem clear_last (h : SqAt w rb ro g cap L) (hn : L.length = n + 1) (ty : TypeId) : ∃ w', (Builtin.clear_ #[85] ty #[.slice (some ⟨g, n * 73, none⟩) 1 (cap - n)]).run Try.prog w = .ok (.tuple #[]) w' ∧ Tch (fun j => j = g) w w' ∧ w'.heap.size = w.heap.size ∧ w'.ownsRow 0 113 73 (.slice (some ⟨g, 0, none⟩) n cap) n (flatS (L.take n)) := by
  obtain ⟨cur, hg, r1, r2, r3, r4⟩ := h.blk
  obtain ⟨ii, hi, hz, hsz, hby⟩ := info_parts infoS
  have hzv : (zeroValue 113).run Try.prog w = .ok (Sp.v zSp) w := by
    simp [zeroValue, typeInfo, hi, hz, Sp.v]
  obtain ⟨zc, hzc⟩ : ∃ zc, zc = (Builtin.zeroCells (Sp.v zSp).cells 1).toList := ⟨_, rfl⟩
  have zl : zc.length = 73 := by rw [hzc]; kernel_rfl
  have zo : ∀ v ∈ zc, v.oneCell' = true := by
    have : zc.all (fun v => v.oneCell') = true := by rw [hzc]; kernel_rfl
    exact List.all_eq_true.1 this
  have e := run_storeCells_at Try.prog g (n * 73) 113 zc 0 cur w hg (by rw [zl, r3]; omega) zo
  rw [Nat.add_zero] at e
  have tc := setRow_tch w g (cur.toList.take (n * 73) ++ zc ++ cur.toList.drop (n * 73 + zc.length)).toArray
  refine ⟨_, ?_, tc.mono (fun j _ q => by simpa using q.symm), by simp [World.setRow], ?_, .inr ⟨g, cap, _, rfl, Nat.zero_le _, setRow_heap_same _ hg, by omega, r2, ?_, ?_⟩⟩
  · simp only [Builtin.clear_, run_underlying Try.underlying85, Sem.run_bind, Result.andThen_ok, List.getElem?_toArray, List.getElem?_cons_zero, hzv, ← hzc, e, Sem.run_pure]
  · rw [flatS_len (fun s hs => h.ok s (List.mem_of_mem_take hs)), List.length_take]
    omega
  · simp; omega
  · have hfl : flatS L = flatS (L.take n) ++ flatS (L.drop n) := by rw [← flatS_app, List.take_append_drop]
    have hlt : (flatS (L.take n)).length = n * 73 := by
      rw [flatS_len (fun s hs => h.ok s (List.mem_of_mem_take hs)), List.length_take]
      omega
    have h1 : cur.toList.take (n * 73) = flatS (L.take n) := by
      have := congrArg (List.take (n * 73)) r4
      rw [List.take_take, Nat.min_eq_left (by omega), hfl, ← hlt, List.take_left] at this
      rw [← hlt]
      exact this
    simp only [List.append_assoc]
    rw [h1, ← hlt]
    exact List.take_left
set_option maxRecDepth 100000 in
set_option maxHeartbeats 1000000 in
theorem delete_any (h : SqAt w rb ro g cap L) (hn : L.length = n + 1) :
    Calls Try.prog 93 #[.slice (some ⟨g, 0, none⟩) (n + 1) cap, .int .i64 (n : Int), .int .i64 ((n + 1 : Nat) : Int)] w fun e w' => e = .returned (.slice (some ⟨g, 0, none⟩) n cap) ∧ Tch (fun j => j = g) w w' ∧ w'.heap.size = w.heap.size ∧ w'.ownsRow 0 113 73 (.slice (some ⟨g, 0, none⟩) n cap) n (flatS (L.take n)) := by
  have hl := h.len
  have hc : n + 1 ≤ cap := by obtain ⟨cur, hg, r1, _⟩ := h.blk; omega
  obtain ⟨w3, e3, t3, z3, o3⟩ := clear_last h.drew hn 0
  obtain ⟨a, c, ea⟩ := sl_from (g := g) hc w
  have hne : ¬ (n : Int) = ((n + 1 : Nat) : Int) := by omega
  go_enter Try.func93, Try.ntmps93
  go_upto_region 1 with fail
  refine del1 _ _ _ rfl rfl rfl rfl (sl_3 hc (by omega)) ?_
  intro a' w1 hw ha
  subst ha
  obtain rfl : w1 = w := hw
  simp only [Act.put, List.setIfInBounds_toArray, List.set_cons_zero, List.set_cons_succ]
  obtain ⟨N1, hN1⟩ : ∃ N1, ((n + 1 : Nat) : Int) = N1 := ⟨_, rfl⟩
  rw [hN1]
  rw [hN1] at hne
  have HN1 := hidMk hN1
  clear hN1
  go_upto_region 5 with fail
  rw [← HN1.out]
  refine del5 _ _ _ rfl rfl rfl rfl (sl_to hc) ea (app_no (by omega) _) ?_
  intro a' w2 hw ha
  subst ha
  obtain rfl : w2 = w1.drew := hw
  simp only [Act.put, List.setIfInBounds_toArray, List.set_cons_zero, List.set_cons_succ]
  clear hne
  go_upto_region 6 with fail
  refine del6 _ _ _ rfl rfl rfl (sl_mid hc) e3 ?_
  intro a' w4 hw ha
  subst ha
  obtain rfl : w4 = w3 := hw
  simp only [Act.put, List.setIfInBounds_toArray, List.set_cons_zero, List.set_cons_succ]
  go_wp2
  go_ret
  exact ⟨rfl, ((Qt.drew w1).tch _).trans t3, z3, o3⟩
end
end Go.Proofs.Ytlejbdepoemcjaa
