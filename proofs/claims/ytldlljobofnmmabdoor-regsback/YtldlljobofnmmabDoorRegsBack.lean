import Derived.Test.YtldlljobofnmmabDoorP1
import Derived.Test.YtldlljobofnmmabDoorTie
import Derived.Test.YtldlljobofnmmabDoorCards
import Derived.MakeChecks
import Derived.Lay
import Derived.Stop.Joined
import Derived.SevenTiedAt
import Derived.SizedLaws
import Derived.Deep.DeepHandedRow
import Derived.JoinedCond
namespace Go.Proofs.YtldlljobofnmmabDoor
open Go.ChangeShapes Go.WideShapes Go.ChangeAt Go.RowKit Go.Shelf
set_option linter.unusedVariables false
set_option linter.unusedSimpArgs false

theorem bulk_one {H : Type} (d : DataW H) : 1 ≤ Rows.uptoBulk d := by
  cases d with
  | lit l => cases l <;> simp [Rows.uptoBulk]
  | _ => simp [Rows.uptoBulk]
theorem bulk_len {H : Type} (l : List (DataW H)) : l.length ≤ Rows.uptoBulkAll l := by
  induction l with
  | nil => simp [Rows.uptoBulkAll]
  | cons x r ih => have := bulk_one x; simp only [Rows.uptoBulkAll, List.length_cons]; omega
theorem bulk_ops {H : Type} {d : DataW H} {n : Nat} (h : d = .nil ∧ n = 0 ∨ ∃ el sp, d = .slice el sp ∧ el.length = n) (hb : Rows.uptoBulk d ≤ 1048576) : n ≤ 1048576 := by
  rcases h with ⟨_, h2⟩ | ⟨el, sp, rfl, h2⟩
  · omega
  · have := bulk_len el
    simp only [Rows.uptoBulk] at hb
    omega
theorem trod_sl {H : Type} {enc : TypeId × Value → H} {W : World} {fuel : Nat} {t e : TypeId} {c : Value} {x : DataW H × List MemPlace} (ht : Tryd.prog.underlying t = some (.slice e)) (h : DataW.trod enc Tryd.prog W 0 (fun _ => true) true fuel t [c] = some x) :
    ∃ a n cap, c = .slice a n cap ∧ DataW.Trod enc Tryd.prog W 0 (fun _ => true) true t (.slice a n cap) x.1 x.2 := by
  rcases DataW.trod_slice ht h with ⟨hcs, hx⟩ | ⟨ad, l, c', elems, rest, n, _, hcs, _⟩
  · simp at hcs
    subst hcs
    exact ⟨_, _, _, rfl, fuel, h⟩
  · simp at hcs
    subst hcs
    exact ⟨_, _, _, rfl, fuel, h⟩
theorem cl_pl : Tryd.prog.cellsOf 22 = 1 := by kernel_rfl
theorem cl_sy : Tryd.prog.cellsOf 23 = 1 := by kernel_rfl
theorem cl_bl : Tryd.prog.cellsOf 48 = 1 := by kernel_rfl
theorem cl_b : Tryd.prog.cellsOf 4 = 1 := by kernel_rfl
theorem cl_un : Tryd.prog.cellsOf 50 = 4 := by kernel_rfl
theorem view_bools {H : Type} {enc : TypeId × Value → H} {W : World} {a : Option Addr} {len cap : Nat} {d : DataW H} {p : List MemPlace} (h : DataW.Trod enc Tryd.prog W 0 (fun _ => true) true 48 (.slice a len cap) d p) :
    ∃ L : List Bool, L.length = len ∧ (∀ x ∈ L, True) ∧ RowAt 1 (fun b => [Value.bool b]) W a L ∧ (d = .nil ∧ len = 0 ∨ ∃ el sp, d = .slice el sp ∧ el.length = len) :=
  view_rows (ok := fun _ : Bool => True) Tryd.underlying48 cl_b (by omega) (fun _ _ => rfl) (fun fuel cs y h => by
    obtain ⟨b, e, _⟩ := DataW.trod_bool Tryd.underlying4 h
    exact ⟨b, trivial, e⟩) h
theorem back_door_met (os : Os) (args : Array Value) : laidMetH Tryd.prog Rows.regsBackUptoRow.laid ((World.laidAll Tryd.prog os Rows.regsBackUptoRow.laid).forCall (fun _ _ => 0) ⟨#[], args, []⟩).memory := by
  rw [MakeChecks.laidMetH_plain _ _ _ (by kernel_rfl)]
  exact laidMet_laidAll args (by kernel_rfl) (by kernel_rfl)
theorem back_reads (os : Os) {H : Type} (enc : TypeId × Value → H) : ∃ places, DataW.whole enc Tryd.prog ((World.laidAll Tryd.prog os Rows.regsBackUptoRow.laid).forCall (fun _ _ => 0) ⟨#[], #[.agg #[.slice none 0 0, .slice none 0 0, .slice none 0 0, .slice none 0 0]], []⟩).memory Tryd.f4.params.toList (Rows.OpenSpec.upto Rows.regsBackSpec).vars false #[Value.agg #[.slice none 0 0, .slice none 0 0, .slice none 0 0, .slice none 0 0]].toList 8 = some ([.agg [.nil, .nil, .nil, .nil]], [], places) :=
  ⟨[], by kernel_rfl⟩
set_option maxRecDepth 100000 in
theorem back_lifted (os : Os) (started : os.Started) (H : Type) (enc : TypeId × Value → H) (F : Stop.Interp) :
    ReturnsInHanded {} Tryd.checked os 4 .any ((Rows.OpenSpec.upto Rows.regsBackSpec).preRow enc Tryd.prog Tryd.f4 Rows.regsBackUptoRow.domain false Rows.regsBackUptoRow.laid) (((Rows.OpenSpec.upto Rows.regsBackSpec).at F).post enc Tryd.prog Tryd.f4 false true false false) := by
  obtain ⟨places, hx⟩ := back_reads os enc
  refine returnsInHanded_of_row (C := Tryd.checked) (s := Rows.OpenSpec.upto Rows.regsBackSpec) own started (by kernel_rfl) Tryd.func4
    (witness_row_at (enc := enc) (C := Tryd.checked) false (World.laidAll Tryd.prog os Rows.regsBackUptoRow.laid) #[.agg #[.slice none 0 0, .slice none 0 0, .slice none 0 0, .slice none 0 0]] rfl (by kernel_rfl) (by kernel_rfl) (by kernel_rfl)
      (OpenSpec.preRow_of_cond 8 hx (by kernel_rfl) (fun k hk => by cases hk; kernel_rfl) (by kernel_rfl) (back_door_met os _))) ?_
  intro W base args ds gs before hval0 hW _ hcond _ hL _ _
  have hk : Rows.uptoSmall H (ds ++ gs) = true := hcond _ rfl
  have hval : ∀ (j : Nat) t v, Tryd.f4.params[j]? = some t → args[j]? = some v → Value.okWide Tryd.prog W .any base t v := hval0
  have hW' := hW
  obtain ⟨p, q, hA0, hV, rfl, hfz, hnd⟩ := hW
  have hA : DataW.TrodAll enc Tryd.prog W 0 (fun _ => true) true Tryd.f4.params.toList args.toList ds p := hA0
  rw [Tryd.params4] at hA hval
  obtain ⟨v0, vs0, d0, ds0, p0, q0, hargs, rfl, rfl, h0, r0⟩ := trodAll_cons hA
  obtain ⟨rfl, rfl, rfl⟩ := trodAll_nil r0
  obtain rfl : args = #[v0] := by cases args; simp_all
  obtain ⟨rfl, rfl⟩ := trodVars_none hV
  have lt0 : ∀ x ∈ p0, x.block < W.heap.size := by obtain ⟨m, hm⟩ := h0; exact DataW.trod_lt m _ _ _ hm
  have hbulk : Rows.uptoBulk d0 ≤ 1048576 := by
    have h : Rows.uptoBulkAll ([d0] ++ []) ≤ 1048576 := of_decide_eq_true hk
    simp [Rows.uptoBulkAll] at h
    exact h
  obtain ⟨cs, rfl, hsz⟩ := okWide_struct Tryd.underlying50 (hval 0 50 v0 rfl rfl)
  have hsz4 : cs.toList.length = 4 := by rw [Array.length_toList]; exact hsz.trans cl_un
  obtain ⟨c0, c1, c2, c3, hc⟩ : ∃ c0 c1 c2 c3, cs.toList = [c0, c1, c2, c3] := by
    match cs.toList, hsz4 with
    | [c0, c1, c2, c3], _ => exact ⟨c0, c1, c2, c3, rfl⟩
  obtain rfl : cs = #[c0, c1, c2, c3] := by rw [← Array.toArray_toList (xs := cs), hc]
  clear hc hsz4 hsz
  have h0' := h0
  obtain ⟨fuel, hf⟩ := h0'
  obtain ⟨xs, n, _, hx2, _, hlen, hfs⟩ := DataW.trod_struct Tryd.underlying50 hf
  have hlen : xs.length = 4 := hlen
  obtain ⟨y0, y1, y2, y3, rfl⟩ : ∃ y0 y1 y2 y3, xs = [y0, y1, y2, y3] := by
    match xs, hlen with
    | [y0, y1, y2, y3], _ => exact ⟨y0, y1, y2, y3, rfl⟩
  have t0 : DataW.trod enc Tryd.prog W 0 (fun _ => true) true n 22 [c0] = some y0 := by simpa [cl_pl, Value.cells] using hfs 0 _ rfl
  have t1 : DataW.trod enc Tryd.prog W 0 (fun _ => true) true n 23 [c1] = some y1 := by simpa [cl_sy, Value.cells] using hfs 1 _ rfl
  have t2 : DataW.trod enc Tryd.prog W 0 (fun _ => true) true n 23 [c2] = some y2 := by simpa [cl_sy, Value.cells] using hfs 2 _ rfl
  have t3 : DataW.trod enc Tryd.prog W 0 (fun _ => true) true n 48 [c3] = some y3 := by simpa [cl_bl, Value.cells] using hfs 3 _ rfl
  have hd0 : d0 = .agg [y0.1, y1.1, y2.1, y3.1] := (Prod.mk.inj hx2).1
  have hbs : Rows.uptoBulk y0.1 ≤ 1048576 ∧ Rows.uptoBulk y1.1 ≤ 1048576 ∧ Rows.uptoBulk y2.1 ≤ 1048576 ∧ Rows.uptoBulk y3.1 ≤ 1048576 := by
    rw [hd0] at hbulk
    simp only [Rows.uptoBulk, Rows.uptoBulkAll] at hbulk
    omega
  obtain ⟨a0, n0, k0, rfl, q0⟩ := trod_sl Tryd.underlying22 t0
  obtain ⟨a1, n1, k1, rfl, q1⟩ := trod_sl Tryd.underlying23 t1
  obtain ⟨a2, n2, k2, rfl, q2⟩ := trod_sl Tryd.underlying23 t2
  obtain ⟨a3, n3, k3, rfl, q3⟩ := trod_sl Tryd.underlying48 t3
  obtain ⟨Ps, e0, ok0, r0, z0⟩ := view_pls q0
  obtain ⟨L, e1, ok1, r1, z1⟩ := view_says q1
  obtain ⟨M, e2, ok2, r2, z2⟩ := view_says q2
  obtain ⟨U, e3, ok3, r3, z3⟩ := view_bools q3
  have b0 := bulk_ops z0 hbs.1
  have b1 := bulk_ops z1 hbs.2.1
  have b2 := bulk_ops z2 hbs.2.2.1
  have b3 := bulk_ops z3 hbs.2.2.2
  clear hA0 hval0
  subst e0 e1 e2 e3
  refine (back_all a0 k0 Ps a1 k1 L a2 k2 M a3 k3 U W ⟨r0, ok0, b0, r1, ok1, b1, r2, ok2, b2, r3, b3⟩).mono fun e W' ⟨he, bel⟩ => ?_
  subst he
  exact ⟨_, rfl, _, _, _, [], _, [], hW', trodAll_mk1 (shut_bool Tryd.underlying4 _), (trodAll_cons_mk (Below.trod laidOut (by kernel_rfl) (of_decide_eq_true (by kernel_rfl)) h0 bel lt0) trodAll_mk0), rfl, bel.frame _, fun h => by cases h⟩

theorem regsBack_row : Rows.RegsBackUptoSaid :=
  OpenClaim.holds_of_cond 4 Tryd.f4 rfl rfl rfl rfl rfl rfl rfl ⟨rfl, rfl, rfl, rfl, rfl⟩ rfl rfl rfl rfl rfl (by kernel_rfl) Tryd.func4 (by kernel_rfl)
    (of_decide_eq_true (by kernel_rfl)) (by unfold Func.isWrapper; first | (rw [if_pos (by decide +kernel)]; kernel_rfl) | (rw [if_neg (by decide +kernel)]; exact ⟨rfl, rfl⟩))
    (fun os started H enc _ F => by rw [OpenClaim.pre_eq_preRow]; exact back_lifted os started H enc F)

theorem regsBack_holds : Rows.RegsBackUptoCardSaid :=
  Claim7.holds_tied_plain_at .later [] _ _ _ _
    regsBack_row (fun _ h => by cases h) (by kernel_rfl) (fun _ h => by cases h) regsBackUpto_row_tie rfl ⟨rfl, rfl⟩ (by kernel_rfl) rfl
    (fun f fn hf hfn => by
      obtain rfl : f = 4 := Option.some.inj ((show Tryd.prog.funcNamed "estuary/estuarylaw08.RegsBack" = some 4 by kernel_rfl).symm.trans hf) |>.symm
      obtain rfl : fn = Tryd.f4 := (Option.some.inj (Tryd.func4.symm.trans hfn)).symm
      exact ⟨by kernel_rfl, fun j t ht => by
        rw [Tryd.params4] at ht
        have hm : t ∈ [50] := by
          have := Array.mem_of_getElem? ht
          simpa using this
        have hall : ([50].all fun u => !Tryd.prog.wantsStandIn u) = true := by kernel_rfl
        exact (show Tryd.prog.wantsStandIn t = false by simpa using List.all_eq_true.1 hall t hm)⟩)
    (by kernel_rfl)
#print axioms regsBack_holds
end Go.Proofs.YtldlljobofnmmabDoor
