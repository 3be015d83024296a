import Derived.Test.YtkinjcblngkeiaaDoorView
import Derived.Test.YtkinjcblngkeiaaDoorWo
import Derived.Test.YtkinjcblngkeiaaDoorTie
import Derived.Test.YtkinjcblngkeiaaDoorCards
import Derived.Lib.LaidU8T
import Derived.SevenTiedAt
import Derived.Lay
import Derived.Lib.SmallJoins
import Derived.SizedLaws
import Derived.Deep.DeepHandedRow
import Derived.JoinedCond
import Derived.Laws.Cover2
namespace Go.Proofs.YtkinjcblngkeiaaDoor
open Go.ChangeShapes Go.WideShapes Go.ChangeAt Go.RowKit Go.Shelf
set_option linter.unusedVariables false
set_option linter.unusedSimpArgs false

def u8_ren : Go.Shelf.Ren := ⟨fun n => n, fun | 119 => 107 | 138 => 109 | 139 => 110 | n => n, fun | 3 => 2 | 4 => 3 | n => n⟩
theorem u8t : U8Types Tryd.prog u8_ren := ⟨Tryd.underlying5, Tryd.underlying107, Tryd.underlying109, Tryd.underlying110⟩
theorem u8x : U8Extra Tryd.prog u8_ren := ⟨by kernel_rfl, by kernel_rfl, by kernel_rfl, by kernel_rfl, by kernel_rfl, by kernel_rfl, by kernel_rfl⟩
theorem dF : (Rows.laid_unicode_utf8_first : DataW Unit) = Lib.firstData := by kernel_rfl
theorem dA : (Rows.laid_unicode_utf8_acceptRanges : DataW Unit) = Lib.acceptData := by kernel_rfl
theorem tabs_of {W : World} {laid : List (String × DataW Unit)} (h : laidMet Tryd.prog laid W) (h3 : ("unicode/utf8.first", (Rows.laid_unicode_utf8_first : DataW Unit)) ∈ laid) (h4 : ("unicode/utf8.acceptRanges", (Rows.laid_unicode_utf8_acceptRanges : DataW Unit)) ∈ laid) : Tabs W := by
  rw [dF] at h3
  rw [dA] at h4
  exact utf8Tabs_of_readsT u8t u8x (Lib.laidMet.reads h h3) (Lib.laidMet.reads h h4)

theorem list4 {α : Type} {l : List α} (h : l.length = 4) : ∃ c0 c1 c2 c3, l = [c0, c1, c2, c3] := by
  match l, h with
  | [c0, c1, c2, c3], _ => exact ⟨c0, c1, c2, c3, rfl⟩
theorem trod_float {H : Type} {enc : TypeId × Value → H} {P : Program} {w : World} {base : Nat} {spare : Nat → Bool} {held : Bool} {fuel : Nat} {t : TypeId} {cs : List Value} {x : DataW H × List MemPlace} {k : FloatKind} (ht : P.underlying t = some (.float k)) (h : DataW.trod enc P w base spare held fuel t cs = some x) :
    ∃ b, cs = [.float k b] ∧ (Lit.float k b).wf = true := by
  cases fuel with
  | zero => simp [DataW.trod] at h
  | succ n =>
    unfold DataW.trod at h
    rw [ht] at h
    split at h <;> simp_all
theorem cells31 : Tryd.prog.cellsOf 31 = 1 := by kernel_rfl
theorem cells2 : Tryd.prog.cellsOf 2 = 1 := by kernel_rfl
theorem cells32 : Tryd.prog.cellsOf 32 = 1 := by kernel_rfl
theorem cells9 : Tryd.prog.cellsOf 9 = 1 := by kernel_rfl
theorem cells34 : Tryd.prog.cellsOf 34 = 4 := by kernel_rfl
/-- The cells of a value that came in. -/
theorem value_cells {H : Type} {enc : TypeId × Value → H} {W : World} {fuel : Nat} {cs : List Value} {y : DataW H × List MemPlace} (h : DataW.trod enc Tryd.prog W 0 (fun _ => true) true fuel 34 cs = some y) :
    ∃ v : VR, cs = [.int .u8 v.k, .int .i64 v.n, .float .f64 v.f, .string v.s] ∧ v.ok := by
  obtain ⟨xs, n, _, hx, hcl, hlen, hfs⟩ := DataW.trod_struct Tryd.underlying34 h
  rw [cells34] at hcl
  obtain ⟨c0, c1, c2, c3, rfl⟩ := list4 hcl
  obtain ⟨y0, y1, y2, y3, rfl⟩ := list4 hlen
  have t0 : DataW.trod enc Tryd.prog W 0 (fun _ => true) true n 31 [c0] = some y0 := by simpa [cells31] using hfs 0 _ rfl
  have t1 : DataW.trod enc Tryd.prog W 0 (fun _ => true) true n 2 [c1] = some y1 := by simpa [cells2] using hfs 1 _ rfl
  have t2 : DataW.trod enc Tryd.prog W 0 (fun _ => true) true n 32 [c2] = some y2 := by simpa [cells32] using hfs 2 _ rfl
  have t3 : DataW.trod enc Tryd.prog W 0 (fun _ => true) true n 9 [c3] = some y3 := by simpa [cells9] using hfs 3 _ rfl
  obtain ⟨z0, e0, _, w0⟩ := DataW.trod_int Tryd.underlying31 t0
  obtain ⟨z1, e1, _, w1⟩ := DataW.trod_int Tryd.underlying2 t1
  obtain ⟨z2, e2, w2⟩ := trod_float Tryd.underlying32 t2
  obtain ⟨z3, e3, _, w3⟩ := DataW.trod_string Tryd.underlying9 t3
  simp at e0 e1 e2 e3
  subst e0 e1 e2 e3
  have b0 := bounds_u8 w0
  have b1 : -9223372036854775808 ≤ z1 ∧ z1 < 9223372036854775808 := by
    simp [Lit.wf, IntKind.min, IntKind.max, IntKind.signed, IntKind.bits] at w1
    omega
  have b2 : z2 < 18446744073709551616 := by simpa [Lit.wf, FloatKind.format, Ieee.Format.width, Ieee.double] using w2
  have b3 : z3.size ≤ 9223372036854775807 := w3
  exact ⟨⟨z0, z1, z2, z3⟩, rfl, by show (0 : Int) ≤ z0; omega, b1.1, b1.2, b2, b3⟩
instance : Inhabited VR := ⟨⟨0, 0, 0, ⟨#[]⟩⟩⟩
/-- What a slice of values that came in gives a walk. -/
theorem view_vals {H : Type} {enc : TypeId × Value → H} {W : World} {a : Option Addr} {len cap : Nat} {d : DataW H} {p : List MemPlace}
    (h : DataW.Trod enc Tryd.prog W 0 (fun _ => true) true 22 (.slice a len cap) d p) :
    ∃ (vs : List VR) (b off : Nat), vs.length = len ∧ (∀ v ∈ vs, v.ok) ∧ (0 < vs.length → a = some ⟨b, off, none⟩) ∧ VAt W b off vs ∧ (d = .nil ∧ len = 0 ∨ ∃ el sp, d = .slice el sp ∧ el.length = len) := by
  obtain ⟨fuel, hf⟩ := h
  rcases DataW.trod_slice Tryd.underlying22 hf with ⟨hcs, hx⟩ | ⟨ad, l, c, elems, rest, n, _, hcs, hx, _, hl, hm, hel, hcell, _, _⟩
  · simp [Value.cells] at hcs
    obtain ⟨rfl, rfl, rfl⟩ := hcs
    simp only [Prod.mk.injEq] at hx
    exact ⟨[], 0, 0, rfl, fun v hv => (by cases hv), fun h => (by simp at h), fun i v hv => (by simp at hv), .inl ⟨hx.1, rfl⟩⟩
  · simp [Value.cells] at hcs
    obtain ⟨rfl, rfl, rfl⟩ := hcs
    simp only [Prod.mk.injEq] at hx
    obtain ⟨b, off, spot⟩ := ad
    have gen : ∀ i, i < len → i = 0 → spot = none := fun i hi h0 => by
      have hi2 := hcell i hi
      rw [List.getElem?_eq_getElem (by omega), cells34, Option.bind_eq_some_iff] at hi2
      obtain ⟨cs, hc1, hc2⟩ := hi2
      obtain ⟨v, rfl, hok⟩ := value_cells hc2
      obtain ⟨_, _, hc3⟩ := World.cells?_some hc1
      have q0 := hc3 0 (by decide)
      have := World.cell?_spot (q0.trans rfl)
      subst h0
      simpa [Addr.add] using this
    have hspot : 0 < len → spot = none := fun h0 => gen 0 h0 rfl
    have each : ∀ i, i < len → ∃ v : VR, v.ok ∧ spot = none ∧ W.cell? ⟨b, off + i * 4, none⟩ = some (.int .u8 v.k) ∧ W.cell? ⟨b, off + i * 4 + 1, none⟩ = some (.int .i64 v.n) ∧ W.cell? ⟨b, off + i * 4 + 2, none⟩ = some (.float .f64 v.f) ∧ W.cell? ⟨b, off + i * 4 + 3, none⟩ = some (.string v.s) := fun i hi => by
      have hi2 := hcell i hi
      rw [List.getElem?_eq_getElem (by omega), cells34, Option.bind_eq_some_iff] at hi2
      obtain ⟨cs, hc1, hc2⟩ := hi2
      obtain ⟨v, rfl, hok⟩ := value_cells hc2
      obtain ⟨_, _, hc3⟩ := World.cells?_some hc1
      have q0 := hc3 0 (by decide)
      have hspot' := hspot (by omega)
      subst hspot'
      have ea : ∀ j, ((⟨b, off, none⟩ : Addr).add (i * 4)).add j = ⟨b, off + i * 4 + j, none⟩ := fun j => by rw [Addr.add_mid, Addr.add_mid]
      have q1 := hc3 1 (by decide)
      have q2 := hc3 2 (by decide)
      have q3 := hc3 3 (by decide)
      rw [ea] at q0 q1 q2 q3
      exact ⟨v, hok, rfl, q0.trans rfl, q1.trans rfl, q2.trans rfl, q3.trans rfl⟩
    let F : Nat → VR := fun i => if h : i < len then Classical.choose (each i h) else default
    have hF : ∀ i (h : i < len), F i = Classical.choose (each i h) := fun i h => dif_pos h
    refine ⟨(List.range len).map F, b, off, by simp, fun v hv => ?_, fun h0 => ?_, fun i v hv => ?_, .inr ⟨_, _, hx.1, by simp [hel]⟩⟩
    · rw [List.mem_map] at hv
      obtain ⟨i, hi, rfl⟩ := hv
      rw [List.mem_range] at hi
      rw [hF i hi]
      exact (Classical.choose_spec (each i hi)).1
    · have h1 : 0 < len := by simpa using h0
      rw [(Classical.choose_spec (each 0 h1)).2.1]
    · have hi : i < len := by
        have := (List.getElem?_eq_some_iff.1 hv).1
        simpa using this
      rw [List.getElem?_map, List.getElem?_range hi] at hv
      simp only [Option.map_some, Option.some.injEq] at hv
      subst hv
      rw [hF i hi]
      exact (Classical.choose_spec (each i hi)).2.2
theorem one_le {H : Type} (d : DataW H) : 1 ≤ Rows.uptoBulk d := by
  cases d with
  | lit l => cases l <;> simp [Rows.uptoBulk]
  | _ => simp [Rows.uptoBulk]
theorem length_le {H : Type} (l : List (DataW H)) : l.length ≤ Rows.uptoBulkAll l := by
  induction l with
  | nil => simp [Rows.uptoBulkAll]
  | cons x r ih => have := one_le x; simp only [Rows.uptoBulkAll, List.length_cons]; omega
theorem writes_door_met (os : Os) (args : Array Value) : laidMetH Tryd.prog Rows.valueWritesUptoRow.laid ((World.laidAll Tryd.prog os Rows.valueWritesUptoRow.laid).forCall (fun _ _ => 0) ⟨#[], args, []⟩).memory := by
  rw [MakeChecks.laidMetH_plain _ _ _ (by kernel_rfl)]
  exact laidMet_laidAll args (by kernel_rfl) (by kernel_rfl)
theorem writes_reads (os : Os) {H : Type} (enc : TypeId × Value → H) : ∃ places, DataW.whole enc Tryd.prog ((World.laidAll Tryd.prog os Rows.valueWritesUptoRow.laid).forCall (fun _ _ => 0) ⟨#[], #[.slice none 0 0], []⟩).memory Tryd.f3.params.toList (Rows.OpenSpec.upto Rows.valueWritesSpec).vars false #[Value.slice none 0 0].toList 8 = some ([.nil], [], places) :=
  ⟨[], by kernel_rfl⟩
set_option maxRecDepth 100000 in
theorem writes_lifted (os : Os) (started : os.Started) (H : Type) (enc : TypeId × Value → H) (F : Stop.Interp) :
    ReturnsInHanded {} Tryd.checked os 3 .any ((Rows.OpenSpec.upto Rows.valueWritesSpec).preRow enc Tryd.prog Tryd.f3 Rows.valueWritesUptoRow.domain false Rows.valueWritesUptoRow.laid) (((Rows.OpenSpec.upto Rows.valueWritesSpec).at F).post enc Tryd.prog Tryd.f3 false true false false) := by
  obtain ⟨places, hx⟩ := writes_reads os enc
  refine returnsInHanded_of_row (C := Tryd.checked) (s := Rows.OpenSpec.upto Rows.valueWritesSpec) own started (by kernel_rfl) Tryd.func3
    (witness_row_at (enc := enc) (C := Tryd.checked) false (World.laidAll Tryd.prog os Rows.valueWritesUptoRow.laid) #[.slice none 0 0] rfl (by kernel_rfl) (by kernel_rfl) (by kernel_rfl)
      (OpenSpec.preRow_of_cond 8 hx (by kernel_rfl) (fun k hk => by cases hk; kernel_rfl) (by kernel_rfl) (writes_door_met os _))) ?_
  intro W base args ds gs before hval0 hW _ hcond _ hL _ _
  have hk : Rows.uptoSmall H (ds ++ gs) = true := hcond _ rfl
  have hval : ∀ (j : Nat) t v, Tryd.f3.params[j]? = some t → args[j]? = some v → Value.okWide Tryd.prog W .any base t v := hval0
  have hW' := hW
  obtain ⟨p, q, hA0, hV, rfl, hfz, hnd⟩ := hW
  have hA : DataW.TrodAll enc Tryd.prog W 0 (fun _ => true) true Tryd.f3.params.toList args.toList ds p := hA0
  rw [Tryd.params3] at hA hval
  obtain ⟨v0, vs0, d0, ds0, p0, q0, hargs, rfl, rfl, h0, r0⟩ := trodAll_cons hA
  obtain ⟨rfl, rfl, rfl⟩ := trodAll_nil r0
  obtain rfl : args = #[v0] := by cases args; simp_all
  obtain ⟨rfl, rfl⟩ := trodVars_none hV
  have lt0 : ∀ x ∈ p0, x.block < W.heap.size := by obtain ⟨m, hm⟩ := h0; exact DataW.trod_lt m _ _ _ hm
  obtain ⟨a1, len1, cap1, rfl⟩ := okWide_slice Tryd.underlying22 (hval 0 22 v0 rfl rfl)
  obtain ⟨vs, b, off, hvl, hok, ha, hva, hd⟩ := view_vals h0
  have hb : vs.length ≤ 1048576 := by
    have h : Rows.uptoBulkAll ([d0] ++ []) ≤ 1048576 := of_decide_eq_true hk
    rcases hd with ⟨_, h1⟩ | ⟨el, sp, rfl, h1⟩
    · omega
    · have := length_le el
      simp only [List.append_nil, Rows.uptoBulkAll, Rows.uptoBulk] at h
      omega
  have hL2 : laidMet Tryd.prog Rows.valueWritesUptoRow.laid W := by rw [← MakeChecks.laidMetH_plain _ _ _ (by kernel_rfl)]; exact hL
  have hT : Tabs W := tabs_of hL2 (by simp [Rows.valueWritesUptoRow]) (by simp [Rows.valueWritesUptoRow])
  have hw4 : 4 ≤ W.heap.size := block_lt_of_cell (hT.2 0 (by decide)).1
  clear hA0 hval0
  subst hvl
  refine (writes_all b off vs cap1 a1 ha W hva hok hb hT hw4).mono fun e W' ⟨he, bel⟩ => ?_
  subst he
  exact ⟨_, rfl, _, _, _, [], _, [], hW', trodAll_mk1 (shut_bool Tryd.underlying4 _), (trodAll_cons_mk (Below.trod laidOut (by kernel_rfl) (of_decide_eq_true (by kernel_rfl)) h0 bel lt0) trodAll_mk0), rfl, bel.frame _, fun h => by cases h⟩

theorem valueWrites_row : Rows.ValueWritesUptoSaid :=
  OpenClaim.holds_of_cond 3 Tryd.f3 rfl rfl rfl rfl rfl rfl rfl ⟨rfl, rfl, rfl, rfl, rfl⟩ rfl rfl rfl rfl rfl (by kernel_rfl) Tryd.func3 (by kernel_rfl)
    (of_decide_eq_true (by kernel_rfl)) (by unfold Func.isWrapper; first | (rw [if_pos (by decide +kernel)]; kernel_rfl) | (rw [if_neg (by decide +kernel)]; exact ⟨rfl, rfl⟩))
    (fun os started H enc _ F => by rw [OpenClaim.pre_eq_preRow]; exact writes_lifted os started H enc F)

theorem valueWrites_holds : Rows.ValueWritesUptoCardSaid :=
  Claim7.holds_tied_plain_at .later [] _ _ _ _
    valueWrites_row (fun _ h => by cases h) (by kernel_rfl) (fun _ h => by cases h) valueWritesUpto_row_tie rfl ⟨rfl, rfl⟩ (by kernel_rfl) rfl
    (fun f fn hf hfn => by
      obtain rfl : f = 3 := Option.some.inj ((show Tryd.prog.funcNamed "estuary/estuarylaw03.ValueWrites" = some 3 by kernel_rfl).symm.trans hf) |>.symm
      obtain rfl : fn = Tryd.f3 := (Option.some.inj (Tryd.func3.symm.trans hfn)).symm
      exact ⟨by kernel_rfl, fun j t ht => by
        rw [Tryd.params3] at ht
        have hm : t ∈ [22] := by
          have := Array.mem_of_getElem? ht
          simpa using this
        have hall : ([22].all fun u => !Tryd.prog.wantsStandIn u) = true := by kernel_rfl
        exact (show Tryd.prog.wantsStandIn t = false by simpa using List.all_eq_true.1 hall t hm)⟩)
    (by kernel_rfl)
#print axioms valueWrites_holds
end Go.Proofs.YtkinjcblngkeiaaDoor
