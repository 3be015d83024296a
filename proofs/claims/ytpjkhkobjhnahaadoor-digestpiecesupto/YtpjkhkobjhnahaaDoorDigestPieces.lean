import Derived.Test.YtpjkhkobjhnahaaDoorTabK
import Derived.Test.YtpjkhkobjhnahaaDoorPiecesW
import Derived.Deep.Matrix
import Derived.Deep.DeepHandedRow
import Derived.JoinedCond
namespace Go.Proofs.YtpjkhkobjhnahaaDoor
open Go.ChangeShapes Go.WideShapes Go.ChangeAt Go.RowKit
set_option linter.unusedVariables false
set_option linter.unusedSimpArgs false

theorem bulk_pos {H : Type} (d : DataW H) : 1 ≤ Rows.uptoBulk d := by
  cases d with
  | lit l => cases l <;> simp [Rows.uptoBulk]
  | _ => simp [Rows.uptoBulk]
theorem bulk_app {H : Type} (l r : List (DataW H)) : Rows.uptoBulkAll (l ++ r) = Rows.uptoBulkAll l + Rows.uptoBulkAll r := by
  induction l with
  | nil => simp [Rows.uptoBulkAll]
  | cons x l ih => simp only [List.cons_append, Rows.uptoBulkAll, ih]; omega
theorem bulk_len {H : Type} (l : List (DataW H)) : l.length ≤ Rows.uptoBulkAll l := by
  induction l with
  | nil => simp
  | cons x l ih => have := bulk_pos x; simp only [List.length_cons, Rows.uptoBulkAll]; omega
theorem bulk_row {H : Type} (A : Option Addr) (L : Nat) (zs : List Int) (h1 : L ≤ zs.length) (h2 : A = none → L = 0) : L ≤ Rows.uptoBulk (Go.Deep.intRow (H := H) .u8 A L zs) := by
  cases A with
  | none => rw [h2 rfl]; omega
  | some a =>
    have h := bulk_len (lits (H := H) .u8 (zs.take L))
    have e : (lits (H := H) .u8 (zs.take L)).length = L := by simp [lits]; omega
    simp only [Go.Deep.intRow, Rows.uptoBulk]
    omega
theorem cat_bulk {H : Type} (P : Nat → List UInt8) (D : Nat → DataW H) (n : Nat) (h : ∀ r, r < n → (P r).length ≤ Rows.uptoBulk (D r)) : ∀ k, k ≤ n → (cat P k).length ≤ Rows.uptoBulkAll ((List.range k).map D) := by
  intro k hk
  induction k with
  | zero => simp [cat]
  | succ k ih =>
    have i := ih (by omega)
    have := h k (by omega)
    rw [List.range_succ, List.map_append, bulk_app]
    simp only [cat, List.length_append, List.map_cons, List.map_nil, Rows.uptoBulkAll]
    omega
theorem range_bulk {H : Type} (D : Nat → DataW H) (n k : Nat) (hk : k ≤ n) : Rows.uptoBulkAll ((List.range k).map D) ≤ Rows.uptoBulkAll ((List.range n).map D) := by
  induction n with
  | zero => obtain rfl : k = 0 := by omega
            exact Nat.le_refl _
  | succ n ih =>
    by_cases h : k = n + 1
    · subst h; exact Nat.le_refl _
    · have := ih (by omega)
      rw [List.range_succ, List.map_append, bulk_app]
      omega

/-- What a list of pieces that came in gives the walk. -/
theorem viewP {H : Type} {enc : TypeId × Value → H} {W : World} {a : Option Addr} {len cap : Nat} {d : DataW H} {p : List MemPlace}
    (h : DataW.Trod enc Tryd.prog W 0 (fun _ => true) true 48 (.slice a len cap) d p) :
    ∃ (P : Nat → List UInt8) (A : Nat → Option Addr) (C : Nat → Nat), (0 < len → ∃ b off, a = some ⟨b, off, none⟩ ∧ Pcs W b off len P A C) ∧ len ≤ Rows.uptoBulk d ∧ ∀ k, k ≤ len → (cat P k).length ≤ Rows.uptoBulk d := by
  obtain ⟨fuel, hf⟩ := h
  rcases Go.Deep.open_int_rows Tryd.underlying48 Tryd.underlying26 Tryd.underlying5 (by kernel_rfl) (by kernel_rfl) hf with ⟨hcs, hx⟩ | ⟨x, l, c, A, L, C, Z, hcs, _, hl, hm, hx, hrow⟩
  · simp [Value.cells] at hcs
    obtain ⟨rfl, rfl, rfl⟩ := hcs
    refine ⟨fun _ => [], fun _ => none, fun _ => 0, fun h => by omega, by omega, fun k hk => ?_⟩
    obtain rfl : k = 0 := by omega
    simp [cat]
  · simp [Value.cells] at hcs
    obtain ⟨rfl, rfl, rfl⟩ := hcs
    simp only [Prod.mk.injEq] at hx
    have hP : ∀ r, r < len → ((((Z r).take (L r)).map (fun z => UInt8.ofNat z.toNat)) : List UInt8).length = L r := fun r hr => by
      obtain ⟨_, h1, _, h2, _⟩ := hrow r (by omega)
      simp; omega
    refine ⟨fun r => ((Z r).take (L r)).map (fun z => UInt8.ofNat z.toNat), A, C, fun h0 => ?_, ?_, ?_⟩
    · obtain ⟨b, off, spot⟩ := x
      have hc := (hrow 0 (by omega)).1
      have hspot : spot = none := by simpa [Addr.add] using World.cell?_spot hc
      subst hspot
      refine ⟨b, off, rfl, fun r hr => ?_, fun r hr => ?_, fun r hr => ?_⟩
      · have h1 := (hrow r (by omega)).1
        rw [Addr.add_mid] at h1
        rw [h1, hP r hr]
      · rw [hP r hr]; exact (hrow r (by omega)).2.1
      · obtain ⟨_, h1, _, h2, hwz, hno, hcell⟩ := hrow r (by omega)
        by_cases hz : L r = 0
        · left; rw [hz]; rfl
        · cases hA : A r with
          | none => have := hno hA; omega
          | some a' =>
            obtain ⟨_, hc'⟩ := hcell a' hA
            obtain ⟨b', off', spot⟩ := a'
            have hsp : spot = none := by simpa [Addr.add] using World.cell?_spot (hc' 0 (by omega))
            subst hsp
            refine .inr ⟨b', off', rfl, fun j hj => ?_⟩
            have hjL : j < L r := by rw [← hP r hr]; exact hj
            have h3 := hc' j (by omega)
            rw [Addr.add_mid] at h3
            rw [h3]
            have hlen : j < (Z r).length := by omega
            have hb := bounds_u8 (hwz ((Z r).getD j 0) (by rw [List.getD_eq_getElem?_getD, List.getElem?_eq_getElem hlen]; exact List.getElem_mem _))
            simp only [at8, List.getD_eq_getElem?_getD, List.getElem?_map, List.getElem?_take, if_pos hjL, List.getElem?_eq_getElem hlen, Option.map_some, Option.getD_some] at hb ⊢
            rw [UInt8.toNat_ofNat']
            simp only [Option.some.injEq, Value.int.injEq, true_and]
            omega
    · rw [hx.1]
      simp only [Rows.uptoBulk]
      have := bulk_len ((List.range len).map fun r => Go.Deep.intRow (H := H) .u8 (A r) (L r) (Z r))
      simp only [List.length_map, List.length_range] at this
      omega
    · intro k hk
      have h1 := cat_bulk (H := H) (fun r => ((Z r).take (L r)).map (fun z => UInt8.ofNat z.toNat)) (fun r => Go.Deep.intRow .u8 (A r) (L r) (Z r)) len (fun r hr => by
        obtain ⟨_, h1, _, h2, _, hno, _⟩ := hrow r (by omega)
        rw [hP r hr]
        exact bulk_row _ _ _ (by omega) (fun e => by have := hno e; omega)) k hk
      have h2 := range_bulk (H := H) (fun r => Go.Deep.intRow .u8 (A r) (L r) (Z r)) len k hk
      rw [hx.1]
      simp only [Rows.uptoBulk]
      omega

theorem pieces_door_met (os : Os) (args : Array Value) : laidMetH Tryd.prog Rows.digestPiecesUptoRow.laid ((World.doorLaid Tryd.prog 4000 os).forCall (fun _ _ => 0) ⟨#[], args, []⟩).memory :=
  laidMetH_of_parts3 (fuel := 8) (laidMet_of_run' 8 (by kernel_rfl) (by kernel_rfl)) (by kernel_rfl) (by kernel_rfl)
theorem pieces_reads (os : Os) {H : Type} (enc : TypeId × Value → H) : ∃ places, DataW.whole enc Tryd.prog ((World.doorLaid Tryd.prog 4000 os).forCall (fun _ _ => 0) ⟨#[], #[.slice none 0 0], []⟩).memory Tryd.f7.params.toList (Rows.OpenSpec.upto Rows.digestPiecesSpec).vars false #[Value.slice none 0 0].toList 8 = some ([.nil], [], places) :=
  ⟨[], by kernel_rfl⟩

set_option maxRecDepth 100000 in
theorem pieces_lifted (os : Os) (started : os.Started) (H : Type) (enc : TypeId × Value → H) (F : Stop.Interp) :
    ReturnsInHanded {} Tryd.checked os 7 .any ((Rows.OpenSpec.upto Rows.digestPiecesSpec).preRow enc Tryd.prog Tryd.f7 Rows.digestPiecesUptoRow.domain false Rows.digestPiecesUptoRow.laid) (((Rows.OpenSpec.upto Rows.digestPiecesSpec).at F).post enc Tryd.prog Tryd.f7 false true false false) := by
  obtain ⟨places, hx⟩ := pieces_reads os enc
  refine returnsInHanded_of_row (C := Tryd.checked) (s := Rows.OpenSpec.upto Rows.digestPiecesSpec) own started (by kernel_rfl) Tryd.func7
    (witness_row_at (enc := enc) (C := Tryd.checked) false (World.doorLaid Tryd.prog 4000 os) #[.slice none 0 0] rfl (by kernel_rfl) (by kernel_rfl) (by kernel_rfl)
      (OpenSpec.preRow_of_cond 8 hx (by kernel_rfl) (fun k hk => by cases hk; kernel_rfl) (by kernel_rfl) (pieces_door_met os _))) ?_
  intro W base args ds gs before hval0 hW _ hcond _ hL _ _
  have hk : Rows.uptoSmall H (ds ++ gs) = true := hcond _ rfl
  have hval : ∀ (j : Nat) t v, Tryd.f7.params[j]? = some t → args[j]? = some v → Value.okWide Tryd.prog W .any base t v := hval0
  have hW' := hW
  obtain ⟨p, q, hA0, hV, rfl, hfz, hnd⟩ := hW
  have hA : DataW.TrodAll enc Tryd.prog W 0 (fun _ => true) true Tryd.f7.params.toList args.toList ds p := hA0
  rw [Tryd.params7] at hA hval
  obtain ⟨v0, vs0, d0, ds0, p0, q0, hargs, rfl, rfl, h0, r0⟩ := trodAll_cons hA
  obtain ⟨rfl, rfl, rfl⟩ := trodAll_nil r0
  obtain rfl : args = #[v0] := by cases args; simp_all
  obtain ⟨rfl, rfl⟩ := trodVars_none hV
  obtain ⟨a0, len0, cap0, rfl⟩ := okWide_slice Tryd.underlying48 (hval 0 48 v0 rfl rfl)
  have lt0 : ∀ x ∈ p0, x.block < W.heap.size := by obtain ⟨m, hm⟩ := h0; exact DataW.trod_lt m _ _ _ hm
  obtain ⟨P, A, C, hP, hlen, hcat⟩ := viewP h0
  have hb : Rows.uptoBulk d0 ≤ 1048576 := by
    have h : Rows.uptoBulkAll ([d0] ++ []) ≤ 1048576 := of_decide_eq_true hk
    simp only [List.append_nil, Rows.uptoBulkAll] at h
    omega
  have hL2 : laidMet Tryd.prog Rows.digestPiecesUptoRow.laid W := by rw [← MakeChecks.laidMetH_plain _ _ _ (by kernel_rfl)]; exact hL
  have hKW := keys_of hL2 (by simp [Rows.digestPiecesUptoRow])
  have h5 : 5 ≤ W.heap.size := block_lt_of_cell (hKW 0 (by omega))
  clear hA0 hval0
  refine (pieces_any a0 len0 cap0 P A C W hP (by omega) (fun k hk => Nat.le_trans (hcat k hk) hb) hKW (first_of hL2 (by simp [Rows.digestPiecesUptoRow])) (nibs_of hL2 (by simp [Rows.digestPiecesUptoRow])) h5).mono fun e W' ⟨he, bel⟩ => ?_
  subst he
  exact ⟨_, rfl, _, _, _, [], _, [], hW', trodAll_mk1 (shut_bool Tryd.underlying4 _), (trodAll_cons_mk (Below.trod laidOut (by kernel_rfl) (of_decide_eq_true (by kernel_rfl)) h0 bel lt0) trodAll_mk0), rfl, bel.frame _, fun h => by cases h⟩

theorem digestPieces_row : Rows.DigestPiecesUptoSaid :=
  OpenClaim.holds_of_cond 7 Tryd.f7 rfl rfl rfl rfl rfl rfl rfl ⟨rfl, rfl, rfl, rfl, rfl⟩ rfl rfl rfl rfl rfl (by kernel_rfl) Tryd.func7 (by kernel_rfl)
    (of_decide_eq_true (by kernel_rfl)) (by unfold Func.isWrapper; first | (rw [if_pos (by decide +kernel)]; kernel_rfl) | (rw [if_neg (by decide +kernel)]; exact ⟨rfl, rfl⟩))
    (fun os started H enc _ F => by rw [OpenClaim.pre_eq_preRow]; exact pieces_lifted os started H enc F)

theorem digestPieces_holds : Rows.DigestPiecesUptoCardSaid :=
  Claim7.holds_tied_plain_at .later [] _ _ _ _
    digestPieces_row (fun _ h => by cases h) (by kernel_rfl) (fun _ h => by cases h) digestPiecesUpto_row_tie rfl ⟨rfl, rfl⟩ (by kernel_rfl) rfl
    (fun f fn hf hfn => by
      obtain rfl : f = 7 := Option.some.inj ((show Tryd.prog.funcNamed "estuary/estuarylaw01.DigestPieces" = some 7 by kernel_rfl).symm.trans hf) |>.symm
      obtain rfl : fn = Tryd.f7 := (Option.some.inj (Tryd.func7.symm.trans hfn)).symm
      exact ⟨by kernel_rfl, fun j t ht => by
        rw [Tryd.params7] at ht
        have hm : t ∈ [48] := by
          have := Array.mem_of_getElem? ht
          simpa using this
        have hall : ([48].all fun u => !Tryd.prog.wantsStandIn u) = true := by kernel_rfl
        exact (show Tryd.prog.wantsStandIn t = false by simpa using List.all_eq_true.1 hall t hm)⟩)
    (by kernel_rfl)
#print axioms digestPieces_holds
end Go.Proofs.YtpjkhkobjhnahaaDoor
