import Derived.Test.YtpmdlhlojifoeaaDoorTabs
import Derived.Test.YtpmdlhlojifoeaaDoorHd
import Derived.Deep.Matrix
import Derived.Deep.DeepHandedRow
import Derived.JoinedCond
namespace Go.Proofs.YtpmdlhlojifoeaaDoor
open Go.ChangeShapes Go.WideShapes Go.ChangeAt Go.RowKit
set_option linter.unusedVariables false
set_option linter.unusedSimpArgs false

theorem bulk_pos {H : Type} (d : DataW H) : 1 ≤ Rows.uptoBulk d := by
  cases d with
  | lit l => cases l <;> simp [Rows.uptoBulk]
  | _ => simp [Rows.uptoBulk]
theorem bulk_len {H : Type} (l : List (DataW H)) : l.length ≤ Rows.uptoBulkAll l := by
  induction l with
  | nil => simp
  | cons x l ih => have := bulk_pos x; simp only [List.length_cons, Rows.uptoBulkAll]; omega
theorem i64_wf {z : Int} (h : (Lit.int .i64 z).wf = true) : -9223372036854775808 ≤ z ∧ z < 9223372036854775808 := by
  simp [Lit.wf, IntKind.min, IntKind.max, IntKind.signed, IntKind.bits] at h
  omega
theorem list3 {α : Type} {l : List α} (h : l.length = 3) : ∃ c0 c1 c2, l = [c0, c1, c2] := by
  match l, h with
  | [c0, c1, c2], _ => exact ⟨c0, c1, c2, rfl⟩
/-- The cell of a slice that came in. -/
theorem trod_sl {H : Type} {enc : TypeId × Value → H} {W : World} {fuel : Nat} {t e : TypeId} {c : Value} {x : DataW H × List MemPlace} (ht : Tryd.prog.underlying t = some (.slice e)) (h : DataW.trod enc Tryd.prog W 0 (fun _ => true) true fuel t [c] = some x) :
    ∃ a n cap, c = .slice a n cap ∧ DataW.Trod enc Tryd.prog W 0 (fun _ => true) true t (.slice a n cap) x.1 x.2 := by
  rcases DataW.trod_slice ht h with ⟨hcs, hx⟩ | ⟨ad, l, c', elems, rest, n, _, hcs, _⟩
  · simp at hcs
    subst hcs
    exact ⟨_, _, _, rfl, fuel, h⟩
  · simp at hcs
    subst hcs
    exact ⟨_, _, _, rfl, fuel, h⟩
theorem cells42 : Tryd.prog.cellsOf 42 = 3 := by kernel_rfl
theorem cells3 : Tryd.prog.cellsOf 3 = 1 := by kernel_rfl
theorem cells26 : Tryd.prog.cellsOf 26 = 1 := by kernel_rfl
/-- A step of a script that came in. -/
theorem step_cells {H : Type} {enc : TypeId × Value → H} {W : World} {fuel : Nat} {cs : List Value} {y : DataW H × List MemPlace} (h : DataW.trod enc Tryd.prog W 0 (fun _ => true) true fuel 42 cs = some y) :
    ∃ (k v : Int) (R : List UInt8) (a : Option Addr) (c : Nat), cs = [.int .i64 k, .int .i64 v, .slice a R.length c] ∧ -9223372036854775808 ≤ v ∧ v ≤ 9223372036854775807 ∧ R.length ≤ c ∧ Byt W a R ∧ R.length ≤ Rows.uptoBulk y.1 := by
  obtain ⟨xs, n, _, hx, hcl, hlen, hfs⟩ := DataW.trod_struct Tryd.underlying42 h
  rw [cells42] at hcl
  have hlen : xs.length = 3 := hlen
  obtain ⟨y0, y1, y2, rfl⟩ := list3 hlen
  obtain ⟨c0, c1, c2, rfl⟩ := list3 hcl
  have t0 : DataW.trod enc Tryd.prog W 0 (fun _ => true) true n 3 [c0] = some y0 := by simpa [cells3] using hfs 0 _ rfl
  have t1 : DataW.trod enc Tryd.prog W 0 (fun _ => true) true n 3 [c1] = some y1 := by simpa [cells3] using hfs 1 _ rfl
  have t2 : DataW.trod enc Tryd.prog W 0 (fun _ => true) true n 26 [c2] = some y2 := by simpa [cells26, cells3] using hfs 2 _ rfl
  obtain ⟨z0, e0, _, w0⟩ := DataW.trod_int Tryd.underlying3 t0
  obtain ⟨z1, e1, _, w1⟩ := DataW.trod_int Tryd.underlying3 t1
  obtain ⟨ra, rn, rc, e2, tr2⟩ := trod_sl Tryd.underlying26 t2
  simp at e0 e1
  subst e0 e1 e2
  obtain ⟨R, hR, hRc, hRb, hRd⟩ := view tr2
  subst hR
  have b1 := i64_wf w1
  refine ⟨z0, z1, R, ra, rc, rfl, b1.1, by omega, hRc, ?_, ?_⟩
  · by_cases h0 : 0 < R.length
    · obtain ⟨b, off, rfl, hc⟩ := hRb h0
      exact .inr ⟨b, off, rfl, hc⟩
    · exact .inl (List.eq_nil_of_length_eq_zero (by omega))
  · rw [hx]
    simp only [List.map_cons, List.map_nil, Rows.uptoBulk, Rows.uptoBulkAll]
    rcases hRd with ⟨_, h0⟩ | ⟨el, sp, hd, hel⟩
    · omega
    · have h1 := bulk_len el
      have : Rows.uptoBulk y2.1 = Rows.uptoBulkAll el + Rows.uptoBulkAll sp + 1 := by rw [hd]; simp [Rows.uptoBulk]
      omega
theorem tot_bulk {H : Type} (P : Nat → List UInt8) : ∀ (l : List (DataW H)), (∀ r (h : r < l.length), (P r).length ≤ Rows.uptoBulk l[r]) → ∀ k, k ≤ l.length → tot P k ≤ Rows.uptoBulkAll (l.take k) := by
  intro l h k hk
  induction k with
  | zero => simp [tot]
  | succ k ih =>
    have i := ih (by omega)
    have := h k (by omega)
    rw [List.take_succ_eq_append_getElem (by omega)]
    have ap : ∀ (l r : List (DataW H)), Rows.uptoBulkAll (l ++ r) = Rows.uptoBulkAll l + Rows.uptoBulkAll r := fun l r => by
      induction l with
      | nil => simp [Rows.uptoBulkAll]
      | cons x l ih => simp only [List.cons_append, Rows.uptoBulkAll, ih]; omega
    rw [ap]
    simp only [tot, Rows.uptoBulkAll]
    omega
theorem take_bulk {H : Type} : ∀ (l : List (DataW H)) (k : Nat), Rows.uptoBulkAll (l.take k) ≤ Rows.uptoBulkAll l
  | [], k => by simp
  | x :: r, 0 => by simp [Rows.uptoBulkAll]
  | x :: r, k + 1 => by
    have := take_bulk r k
    simp only [List.take_succ_cons, Rows.uptoBulkAll]
    omega

/-- What a script that came in gives a walk. -/
theorem view_script {H : Type} {enc : TypeId × Value → H} {W : World} {a : Option Addr} {len cap : Nat} {d : DataW H} {p : List MemPlace}
    (h : DataW.Trod enc Tryd.prog W 0 (fun _ => true) true 34 (.slice a len cap) d p) (hb : Rows.uptoBulk d ≤ 1048576) :
    ∃ K V P A C, (0 < len → ∃ b off, a = some ⟨b, off, none⟩ ∧ Scr W b off len K V P A C) ∧ len ≤ 1048576 ∧ ∀ k, k ≤ len → tot P k ≤ 1048576 := by
  obtain ⟨fuel, hf⟩ := h
  rcases DataW.trod_slice Tryd.underlying34 hf with ⟨hcs', hx⟩ | ⟨ad, l, c, elems, rest, n, _, hcs', hx, _, hl, hm, hel, hcell, _, _⟩
  · simp [Value.cells] at hcs'
    obtain ⟨rfl, rfl, rfl⟩ := hcs'
    refine ⟨fun _ => 0, fun _ => 0, fun _ => [], fun _ => none, fun _ => 0, fun h => by omega, by omega, fun k hk => ?_⟩
    obtain rfl : k = 0 := by omega
    simp [tot]
  · simp [Value.cells] at hcs'
    obtain ⟨rfl, rfl, rfl⟩ := hcs'
    simp only [Prod.mk.injEq] at hx
    obtain ⟨b, off, spot⟩ := ad
    rw [hx.1] at hb
    simp only [Rows.uptoBulk] at hb
    have hwd : Rows.uptoBulkAll (elems.map (·.1)) ≤ 1048576 := by omega
    have hbd : len ≤ 1048576 := by
      have := bulk_len (elems.map (·.1))
      rw [List.length_map] at this
      omega
    have raw : ∀ i, i < len → ∃ x : Int × Int × List UInt8 × Option Addr × Nat, ((-9223372036854775808 ≤ x.2.1 ∧ x.2.1 ≤ 9223372036854775807) ∧ x.2.2.1.length ≤ x.2.2.2.2 ∧ Byt W x.2.2.2.1 x.2.2.1 ∧ ∀ (h : i < elems.length), x.2.2.1.length ≤ Rows.uptoBulk elems[i].1) ∧
        ∀ j u, [.int .i64 x.1, .int .i64 x.2.1, .slice x.2.2.2.1 x.2.2.1.length x.2.2.2.2][j]? = some u → W.cell? (((⟨b, off, spot⟩ : Addr).add (i * 3)).add j) = some u := fun i hi => by
      have hi2 := hcell i hi
      have hlt : i < elems.length := by omega
      rw [List.getElem?_eq_getElem hlt, cells42, Option.bind_eq_some_iff] at hi2
      obtain ⟨cs, hc1, hc2⟩ := hi2
      obtain ⟨k, v, R, ra, rc, rfl, h1, h2, h3, h4, h5⟩ := step_cells hc2
      obtain ⟨_, _, hc3⟩ := World.cells?_some hc1
      refine ⟨(k, v, R, ra, rc), ⟨⟨h1, h2⟩, h3, h4, fun _ => h5⟩, fun j u hu => ?_⟩
      have hj := (List.getElem?_eq_some_iff.1 hu).1
      have hj : j < 3 := by simpa using hj
      rw [hc3 j hj]
      exact hu
    have hspot : 0 < len → spot = none := fun h0 => by
      obtain ⟨x, _, hc⟩ := raw 0 h0
      have q := hc 0 _ rfl
      have := World.cell?_spot q
      simpa [Addr.add] using this
    let X : Nat → Int × Int × List UInt8 × Option Addr × Nat := fun i => if h : i < len then Classical.choose (raw i h) else (0, 0, [], none, 0)
    have hX : ∀ i (h : i < len), ((-9223372036854775808 ≤ (X i).2.1 ∧ (X i).2.1 ≤ 9223372036854775807) ∧ (X i).2.2.1.length ≤ (X i).2.2.2.2 ∧ Byt W (X i).2.2.2.1 (X i).2.2.1 ∧ ∀ (h : i < elems.length), (X i).2.2.1.length ≤ Rows.uptoBulk elems[i].1) ∧
        ∀ j u, [.int .i64 (X i).1, .int .i64 (X i).2.1, .slice (X i).2.2.2.1 (X i).2.2.1.length (X i).2.2.2.2][j]? = some u → W.cell? (((⟨b, off, spot⟩ : Addr).add (i * 3)).add j) = some u := fun i h => by
      have e : X i = Classical.choose (raw i h) := dif_pos h
      rw [e]
      exact Classical.choose_spec (raw i h)
    clear_value X
    refine ⟨fun i => (X i).1, fun i => (X i).2.1, fun i => (X i).2.2.1, fun i => (X i).2.2.2.1, fun i => (X i).2.2.2.2, fun h0 => ?_, hbd, fun k hk => ?_⟩
    · have hs := hspot h0
      subst hs
      have ad3 : ∀ r j, (((⟨b, off, none⟩ : Addr).add (r * 3)).add j) = ⟨b, off + r * 3 + j, none⟩ := fun r j => by rw [Addr.add_mid, Addr.add_mid]
      refine ⟨b, off, rfl, fun r hr => ?_, fun r hr => ?_, fun r hr => ?_, fun r hr => (hX r hr).1.1.1, fun r hr => (hX r hr).1.1.2, fun r hr => (hX r hr).1.2.1, fun r hr => (hX r hr).1.2.2.1⟩
      · have := (hX r hr).2 0 _ rfl
        rw [ad3] at this
        exact this
      · have := (hX r hr).2 1 _ rfl
        rw [ad3] at this
        exact this
      · have := (hX r hr).2 2 _ rfl
        rw [ad3] at this
        exact this
    · have h1 := tot_bulk (fun i => (X i).2.2.1) (elems.map (·.1)) (fun r hr => by
        have hr' : r < elems.length := by simpa using hr
        simpa using (hX r (by omega)).1.2.2.2 hr') k (by simp; omega)
      have h2 := take_bulk (elems.map (·.1)) k
      omega

theorem hashers_door_met (os : Os) (args : Array Value) : laidMetH Tryd.prog Rows.digestHashersUptoRow.laid ((World.doorLaid Tryd.prog 4000 os).forCall (fun _ _ => 0) ⟨#[], args, []⟩).memory :=
  laidMetH_of_parts3 (fuel := 8) (laidMet_of_run' 8 (by kernel_rfl) (by kernel_rfl)) (by kernel_rfl) (by kernel_rfl)
theorem hashers_reads (os : Os) {H : Type} (enc : TypeId × Value → H) : ∃ places, DataW.whole enc Tryd.prog ((World.doorLaid Tryd.prog 4000 os).forCall (fun _ _ => 0) ⟨#[], #[.slice none 0 0], []⟩).memory Tryd.f6.params.toList (Rows.OpenSpec.upto Rows.digestHashersSpec).vars false #[Value.slice none 0 0].toList 8 = some ([.nil], [], places) :=
  ⟨[], by kernel_rfl⟩

set_option maxRecDepth 100000 in
theorem hashers_lifted (os : Os) (started : os.Started) (H : Type) (enc : TypeId × Value → H) (F : Stop.Interp) :
    ReturnsInHanded {} Tryd.checked os 6 .any ((Rows.OpenSpec.upto Rows.digestHashersSpec).preRow enc Tryd.prog Tryd.f6 Rows.digestHashersUptoRow.domain false Rows.digestHashersUptoRow.laid) (((Rows.OpenSpec.upto Rows.digestHashersSpec).at F).post enc Tryd.prog Tryd.f6 false true false false) := by
  obtain ⟨places, hx⟩ := hashers_reads os enc
  refine returnsInHanded_of_row (C := Tryd.checked) (s := Rows.OpenSpec.upto Rows.digestHashersSpec) own started (by kernel_rfl) Tryd.func6
    (witness_row_at (enc := enc) (C := Tryd.checked) false (World.doorLaid Tryd.prog 4000 os) #[.slice none 0 0] rfl (by kernel_rfl) (by kernel_rfl) (by kernel_rfl)
      (OpenSpec.preRow_of_cond 8 hx (by kernel_rfl) (fun k hk => by cases hk; kernel_rfl) (by kernel_rfl) (hashers_door_met os _))) ?_
  intro W base args ds gs before hval0 hW _ hcond _ hL _ _
  have hk : Rows.uptoSmall H (ds ++ gs) = true := hcond _ rfl
  have hval : ∀ (j : Nat) t v, Tryd.f6.params[j]? = some t → args[j]? = some v → Value.okWide Tryd.prog W .any base t v := hval0
  have hW' := hW
  obtain ⟨p, q, hA0, hV, rfl, hfz, hnd⟩ := hW
  have hA : DataW.TrodAll enc Tryd.prog W 0 (fun _ => true) true Tryd.f6.params.toList args.toList ds p := hA0
  rw [Tryd.params6] at hA hval
  obtain ⟨v0, vs0, d0, ds0, p0, q0, hargs, rfl, rfl, h0, r0⟩ := trodAll_cons hA
  obtain ⟨rfl, rfl, rfl⟩ := trodAll_nil r0
  obtain rfl : args = #[v0] := by cases args; simp_all
  obtain ⟨rfl, rfl⟩ := trodVars_none hV
  obtain ⟨a0, len0, cap0, rfl⟩ := okWide_slice Tryd.underlying34 (hval 0 34 v0 rfl rfl)
  have lt0 : ∀ x ∈ p0, x.block < W.heap.size := by obtain ⟨m, hm⟩ := h0; exact DataW.trod_lt m _ _ _ hm
  have hb : Rows.uptoBulk d0 ≤ 1048576 := by
    have h : Rows.uptoBulkAll ([d0] ++ []) ≤ 1048576 := of_decide_eq_true hk
    simp only [List.append_nil, Rows.uptoBulkAll] at h
    omega
  obtain ⟨K, V, P, A, C, hP, hlen, htot⟩ := view_script h0 hb
  have hL2 : laidMet Tryd.prog Rows.digestHashersUptoRow.laid W := by rw [← MakeChecks.laidMetH_plain _ _ _ (by kernel_rfl)]; exact hL
  have hKW := keys_of hL2 (by simp [Rows.digestHashersUptoRow])
  have h5 : 5 ≤ W.heap.size := block_lt_of_cell (hKW 0 (by omega))
  clear hA0 hval0
  refine (hashers_any a0 len0 cap0 K V P A C W hP hlen htot hKW (first_of hL2 (by simp [Rows.digestHashersUptoRow])) (rounds_of hL2 (by simp [Rows.digestHashersUptoRow])) (roots_of hL2 (by simp [Rows.digestHashersUptoRow])) h5).mono fun e W' ⟨he, bel⟩ => ?_
  subst he
  exact ⟨_, rfl, _, _, _, [], _, [], hW', trodAll_mk1 (shut_bool Tryd.underlying4 _), (trodAll_cons_mk (Below.trod laidOut (by kernel_rfl) (of_decide_eq_true (by kernel_rfl)) h0 bel lt0) trodAll_mk0), rfl, bel.frame _, fun h => by cases h⟩

theorem digestHashers_row : Rows.DigestHashersUptoSaid :=
  OpenClaim.holds_of_cond 6 Tryd.f6 rfl rfl rfl rfl rfl rfl rfl ⟨rfl, rfl, rfl, rfl, rfl⟩ rfl rfl rfl rfl rfl (by kernel_rfl) Tryd.func6 (by kernel_rfl)
    (of_decide_eq_true (by kernel_rfl)) (by unfold Func.isWrapper; first | (rw [if_pos (by decide +kernel)]; kernel_rfl) | (rw [if_neg (by decide +kernel)]; exact ⟨rfl, rfl⟩))
    (fun os started H enc _ F => by rw [OpenClaim.pre_eq_preRow]; exact hashers_lifted os started H enc F)

theorem digestHashers_holds : Rows.DigestHashersUptoCardSaid :=
  Claim7.holds_tied_plain_at .later [] _ _ _ _
    digestHashers_row (fun _ h => by cases h) (by kernel_rfl) (fun _ h => by cases h) digestHashersUpto_row_tie rfl ⟨rfl, rfl⟩ (by kernel_rfl) rfl
    (fun f fn hf hfn => by
      obtain rfl : f = 6 := Option.some.inj ((show Tryd.prog.funcNamed "estuary/estuarylaw01.DigestHashers" = some 6 by kernel_rfl).symm.trans hf) |>.symm
      obtain rfl : fn = Tryd.f6 := (Option.some.inj (Tryd.func6.symm.trans hfn)).symm
      exact ⟨by kernel_rfl, fun j t ht => by
        rw [Tryd.params6] at ht
        have hm : t ∈ [34] := by
          have := Array.mem_of_getElem? ht
          simpa using this
        have hall : ([34].all fun u => !Tryd.prog.wantsStandIn u) = true := by kernel_rfl
        exact (show Tryd.prog.wantsStandIn t = false by simpa using List.all_eq_true.1 hall t hm)⟩)
    (by kernel_rfl)
#print axioms digestHashers_holds
end Go.Proofs.YtpmdlhlojifoeaaDoor
