import Derived.Test.YtldlljobofnmmaaDoorP7
import Derived.Test.YtldlljobofnmmaaDoorTie
import Derived.Test.YtldlljobofnmmaaDoorCards
import Derived.MakeChecks
import Derived.Lay
import Derived.Stop.Joined
import Derived.SevenTiedAt
import Derived.SizedLaws
import Derived.Deep.DeepHandedRow
import Derived.JoinedCond
namespace Go.Proofs.YtldlljobofnmmaaDoor
open Go.ChangeShapes Go.WideShapes Go.ChangeAt Go.RowKit Go.Shelf
set_option linter.unusedVariables false
set_option linter.unusedSimpArgs false

theorem trod_sl {H : Type} {enc : TypeId × Value → H} {W : World} {fuel : Nat} {t e : TypeId} {c : Value} {x : DataW H × List MemPlace} (ht : Tryd.prog.underlying t = some (.slice e)) (h : DataW.trod enc Tryd.prog W 0 (fun _ => true) true fuel t [c] = some x) :
    ∃ a n cap, c = .slice a n cap ∧ DataW.Trod enc Tryd.prog W 0 (fun _ => true) true t (.slice a n cap) x.1 x.2 := by
  rcases DataW.trod_slice ht h with ⟨hcs, hx⟩ | ⟨ad, l, c', elems, rest, n, _, hcs, _⟩
  · simp at hcs
    subst hcs
    exact ⟨_, _, _, rfl, fuel, h⟩
  · simp at hcs
    subst hcs
    exact ⟨_, _, _, rfl, fuel, h⟩
theorem cl_pl : Tryd.prog.cellsOf 22 = 1 := by kernel_rfl
theorem cl_op : Tryd.prog.cellsOf 23 = 1 := by kernel_rfl
theorem cl_fo : Tryd.prog.cellsOf 49 = 4 := by kernel_rfl
/-- How long a list may be. -/
theorem sm_len {H : Type} {T e k : Nat} (hT : Tryd.prog.underlying T = some (.slice e)) (hk : Tryd.prog.bytesOf e = k) {d : DataW H} (h : Sm T d) {n : Nat} (hd : d = .nil ∧ n = 0 ∨ ∃ el sp, d = .slice el sp ∧ el.length = n) : n * k ≤ 140737488355328 := by
  rcases hd with ⟨_, rfl⟩ | ⟨el, sp, rfl, rfl⟩
  · simp
  · have := h ((el.length + sp.length) * Tryd.prog.bytesOf e) (by simp [DataW.weights, hT])
    rw [hk] at this
    have h2 : reachBytes ≤ 140737488355328 := by decide
    exact Nat.le_trans (Nat.mul_le_mul_right _ (Nat.le_add_right _ sp.length)) (Nat.le_trans this h2)
theorem fork_door_met (os : Os) (args : Array Value) : laidMetH Tryd.prog Rows.regsForkRow.laid ((World.laidAll Tryd.prog os Rows.regsForkRow.laid).forCall (fun _ _ => 0) ⟨#[], args, []⟩).memory := by
  rw [MakeChecks.laidMetH_plain _ _ _ (by kernel_rfl)]
  exact laidMet_laidAll args (by kernel_rfl) (by kernel_rfl)
theorem fork_reads (os : Os) {H : Type} (enc : TypeId × Value → H) : ∃ places, DataW.whole enc Tryd.prog ((World.laidAll Tryd.prog os Rows.regsForkRow.laid).forCall (fun _ _ => 0) ⟨#[], #[.agg #[.slice none 0 0, .slice none 0 0, .slice none 0 0, .slice none 0 0]], []⟩).memory Tryd.f5.params.toList (OpenSpec.ofChange Rows.regsForkSpec).vars false #[Value.agg #[.slice none 0 0, .slice none 0 0, .slice none 0 0, .slice none 0 0]].toList 8 = some ([.agg [.nil, .nil, .nil, .nil]], [], places) :=
  ⟨[], by kernel_rfl⟩
set_option maxRecDepth 100000 in
theorem fork_lifted (os : Os) (started : os.Started) (H : Type) (enc : TypeId × Value → H) (F : Stop.Interp) :
    ReturnsInHanded {} Tryd.checked os 5 .any ((OpenSpec.ofChange Rows.regsForkSpec).preRow enc Tryd.prog Tryd.f5 Rows.regsForkRow.domain false Rows.regsForkRow.laid) (((OpenSpec.ofChange Rows.regsForkSpec).at F).post enc Tryd.prog Tryd.f5 false true false false) := by
  obtain ⟨places, hx⟩ := fork_reads os enc
  refine returnsInHanded_of_row (C := Tryd.checked) (s := OpenSpec.ofChange Rows.regsForkSpec) own started (by kernel_rfl) Tryd.func5
    (witness_row_at (enc := enc) (C := Tryd.checked) false (World.laidAll Tryd.prog os Rows.regsForkRow.laid) #[.agg #[.slice none 0 0, .slice none 0 0, .slice none 0 0, .slice none 0 0]] rfl (by kernel_rfl) (by kernel_rfl) (by kernel_rfl)
      (OpenSpec.preRow_of_cond 8 hx (by kernel_rfl) (fun k hk => by cases hk) (by kernel_rfl) (fork_door_met os _))) ?_
  intro W base args ds gs before hval0 hW _ _ hsz0 hL _ _
  have hsz : (DataW.weightsEach Tryd.prog (Tryd.f5.params.toList ++ DataSpec.varTypes Tryd.prog (OpenSpec.ofChange Rows.regsForkSpec).bare.plain) (ds ++ gs)).all (· ≤ reachBytes) = true := hsz0
  have hval : ∀ (j : Nat) t v, Tryd.f5.params[j]? = some t → args[j]? = some v → Value.okWide Tryd.prog W .any base t v := hval0
  have hW' := hW
  obtain ⟨p, q, hA0, hV, rfl, hfz, hnd⟩ := hW
  have hA : DataW.TrodAll enc Tryd.prog W 0 (fun _ => true) true Tryd.f5.params.toList args.toList ds p := hA0
  rw [Tryd.params5] at hA hval hsz
  obtain ⟨v0, vs0, d0, ds0, p0, q0, hargs, rfl, rfl, h0, r0⟩ := trodAll_cons hA
  obtain ⟨rfl, rfl, rfl⟩ := trodAll_nil r0
  obtain rfl : args = #[v0] := by cases args; simp_all
  obtain ⟨rfl, rfl⟩ := trodVars_none hV
  have lt0 : ∀ x ∈ p0, x.block < W.heap.size := by obtain ⟨m, hm⟩ := h0; exact DataW.trod_lt m _ _ _ hm
  have sm0 : Sm 49 d0 := sm_of hsz (j := 0) rfl rfl
  obtain ⟨cs, rfl, hsz'⟩ := okWide_struct Tryd.underlying49 (hval 0 49 v0 rfl rfl)
  have hsz4 : cs.toList.length = 4 := by rw [Array.length_toList]; exact hsz'.trans cl_fo
  obtain ⟨c0, c1, c2, c3, hc⟩ : ∃ c0 c1 c2 c3, cs.toList = [c0, c1, c2, c3] := by
    match cs.toList, hsz4 with
    | [c0, c1, c2, c3], _ => exact ⟨c0, c1, c2, c3, rfl⟩
  obtain rfl : cs = #[c0, c1, c2, c3] := by rw [← Array.toArray_toList (xs := cs), hc]
  clear hc hsz4 hsz'
  have h0' := h0
  obtain ⟨fuel, hf⟩ := h0'
  obtain ⟨xs, n, _, hx2, _, hlen, hfs⟩ := DataW.trod_struct Tryd.underlying49 hf
  have hlen : xs.length = 4 := hlen
  obtain ⟨y0, y1, y2, y3, rfl⟩ : ∃ y0 y1 y2 y3, xs = [y0, y1, y2, y3] := by
    match xs, hlen with
    | [y0, y1, y2, y3], _ => exact ⟨y0, y1, y2, y3, rfl⟩
  have t0 : DataW.trod enc Tryd.prog W 0 (fun _ => true) true n 22 [c0] = some y0 := by simpa [cl_pl, Value.cells] using hfs 0 _ rfl
  have t1 : DataW.trod enc Tryd.prog W 0 (fun _ => true) true n 23 [c1] = some y1 := by simpa [cl_op, Value.cells] using hfs 1 _ rfl
  have t2 : DataW.trod enc Tryd.prog W 0 (fun _ => true) true n 23 [c2] = some y2 := by simpa [cl_op, Value.cells] using hfs 2 _ rfl
  have t3 : DataW.trod enc Tryd.prog W 0 (fun _ => true) true n 23 [c3] = some y3 := by simpa [cl_op, Value.cells] using hfs 3 _ rfl
  have hd0 : d0 = .agg [y0.1, y1.1, y2.1, y3.1] := (Prod.mk.inj hx2).1
  have smf : ∀ (j : Nat) (t : TypeId) (d : DataW H), [22, 23, 23, 23][j]? = some t → [y0.1, y1.1, y2.1, y3.1][j]? = some d → Sm t d := fun j t d ht hd m hm => sm0 m (by
    rw [hd0]
    simp only [DataW.weights, Tryd.underlying49]
    exact DataW.weights_mem_each (j := j) (t := t) ht hd _ hm)
  obtain ⟨a0, n0, k0, rfl, q0⟩ := trod_sl Tryd.underlying22 t0
  obtain ⟨a1, n1, k1, rfl, q1⟩ := trod_sl Tryd.underlying23 t1
  obtain ⟨a2, n2, k2, rfl, q2⟩ := trod_sl Tryd.underlying23 t2
  obtain ⟨a3, n3, k3, rfl, q3⟩ := trod_sl Tryd.underlying23 t3
  obtain ⟨Ps, e0, ok0, r0, z0⟩ := view_pls q0
  obtain ⟨L, e1, ok1, r1, z1⟩ := view_opsS q1 (smf 1 _ _ rfl rfl)
  obtain ⟨A, e2, ok2, r2, z2⟩ := view_opsS q2 (smf 2 _ _ rfl rfl)
  obtain ⟨B, e3, ok3, r3, z3⟩ := view_opsS q3 (smf 3 _ _ rfl rfl)
  have b0 := sm_len Tryd.underlying22 bytes_plR (smf 0 _ _ rfl rfl) z0
  have b1 := sm_len Tryd.underlying23 bytes_opR (smf 1 _ _ rfl rfl) z1
  have b2 := sm_len Tryd.underlying23 bytes_opR (smf 2 _ _ rfl rfl) z2
  have b3 := sm_len Tryd.underlying23 bytes_opR (smf 3 _ _ rfl rfl) z3
  clear hA0 hval0
  subst e0 e1 e2 e3
  refine (fork_all a0 k0 Ps a1 k1 L a2 k2 A a3 k3 B W ⟨r0, ok0, by omega, r1, ok1, by omega⟩ ⟨r0, ok0, by omega, r2, ok2, by omega⟩ ⟨r0, ok0, by omega, r3, ok3, by omega⟩ (by omega)).mono fun e W' ⟨he, bel⟩ => ?_
  subst he
  exact ⟨_, rfl, _, _, _, [], _, [], hW', trodAll_mk1 (shut_bool Tryd.underlying4 _), (trodAll_cons_mk (Below.trod laidOut (by kernel_rfl) (of_decide_eq_true (by kernel_rfl)) h0 bel lt0) trodAll_mk0), rfl, bel.frame _, fun h => by cases h⟩

theorem regsFork_row : Rows.RegsForkSaid :=
  OpenClaim.holds_of_cond 5 Tryd.f5 rfl rfl rfl rfl rfl rfl rfl ⟨rfl, rfl, rfl, rfl, rfl⟩ rfl rfl rfl rfl rfl (by kernel_rfl) Tryd.func5 (by kernel_rfl)
    (of_decide_eq_true (by kernel_rfl)) (by unfold Func.isWrapper; first | (rw [if_pos (by decide +kernel)]; kernel_rfl) | (rw [if_neg (by decide +kernel)]; exact ⟨rfl, rfl⟩))
    (fun os started H enc _ F => by rw [OpenClaim.pre_eq_preRow]; exact fork_lifted os started H enc F)

theorem regsFork_holds : Rows.RegsForkCardSaid :=
  Claim7.holds_tied_plain_at .later [] _ _ _ _
    regsFork_row (fun _ h => by cases h) (by kernel_rfl) (fun _ h => by cases h) regsFork_row_tie rfl ⟨rfl, rfl⟩ (by kernel_rfl) rfl
    (fun f fn hf hfn => by
      obtain rfl : f = 5 := Option.some.inj ((show Tryd.prog.funcNamed "estuary/estuarylaw08.RegsFork" = some 5 by kernel_rfl).symm.trans hf) |>.symm
      obtain rfl : fn = Tryd.f5 := (Option.some.inj (Tryd.func5.symm.trans hfn)).symm
      exact ⟨by kernel_rfl, fun j t ht => by
        rw [Tryd.params5] at ht
        have hm : t ∈ [49] := by
          have := Array.mem_of_getElem? ht
          simpa using this
        have hall : ([49].all fun u => !Tryd.prog.wantsStandIn u) = true := by kernel_rfl
        exact (show Tryd.prog.wantsStandIn t = false by simpa using List.all_eq_true.1 hall t hm)⟩)
    (by kernel_rfl)
#print axioms regsFork_holds
end Go.Proofs.YtldlljobofnmmaaDoor
