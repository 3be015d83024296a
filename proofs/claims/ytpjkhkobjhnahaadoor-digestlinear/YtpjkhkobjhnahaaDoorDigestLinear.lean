import Derived.Test.YtpjkhkobjhnahaaDoorView
import Derived.Test.YtpjkhkobjhnahaaDoorLinW1
import Derived.Test.YtpjkhkobjhnahaaDoorLinW2
import Derived.Test.YtpjkhkobjhnahaaDoorLinW3
import Derived.Test.YtpjkhkobjhnahaaDoorLinW4
import Derived.Test.YtpjkhkobjhnahaaDoorLinZ1
import Derived.Test.YtpjkhkobjhnahaaDoorLinZ2
import Derived.Test.YtpjkhkobjhnahaaDoorLinZ3
import Derived.Test.YtpjkhkobjhnahaaDoorLinZ4
import Derived.Test.YtpjkhkobjhnahaaDoorTie
import Derived.Test.YtpjkhkobjhnahaaDoorCards
import Derived.SevenTiedAt
namespace Go.Proofs.YtpjkhkobjhnahaaDoor
open Go.ChangeShapes Go.WideShapes Go.ChangeAt Go.RowKit
set_option linter.unusedVariables false
set_option linter.unusedSimpArgs false

theorem take_at (L : List UInt8) (n j : Nat) (h : j < n) : at8 (L.take n) j = at8 L j := by
  simp [at8, List.getElem?_take, h]

theorem lin_all (la lb lc ca cb cc : Nat) (a1 a2 a3 : Option Addr) (A B C : List UInt8) (w : World)
    (hA : A.length = la) (hB : B.length = lb) (hC : C.length = lc) (hla : la ≤ 140737488351232) (hlb : lb ≤ 140737488351232) (hlc : lc ≤ 140737488351232) (hca : la ≤ ca) (hcb : lb ≤ cb) (hcc : lc ≤ cc)
    (v1 : 0 < la → ∃ b off, a1 = some ⟨b, off, none⟩ ∧ ∀ j, j < la → w.cell? ⟨b, off + j, none⟩ = some (.int .u8 (at8 A j)))
    (v2 : 0 < lb → ∃ b off, a2 = some ⟨b, off, none⟩ ∧ ∀ j, j < lb → w.cell? ⟨b, off + j, none⟩ = some (.int .u8 (at8 B j)))
    (v3 : 0 < lc → ∃ b off, a3 = some ⟨b, off, none⟩ ∧ ∀ j, j < lc → w.cell? ⟨b, off + j, none⟩ = some (.int .u8 (at8 C j)))
    (hn : NibsAt w) :
    Calls Tryd.prog 8 #[.slice a1 la ca, .slice a2 lb cb, .slice a3 lc cc] w fun e w' => e = .returned (.bool true) ∧ Below w.heap.size w w' := by
  by_cases h : 0 < la ∧ 0 < lb ∧ 0 < lc
  · obtain ⟨b1, o1, rfl, c1⟩ := v1 h.1
    obtain ⟨b2, o2, rfl, c2⟩ := v2 h.2.1
    obtain ⟨b3, o3, rfl, c3⟩ := v3 h.2.2
    have key : ∀ n, n ≤ la → n ≤ lb → n ≤ lc → (∀ j, j < n → w.cell? ⟨b1, o1 + j, none⟩ = some (.int .u8 (at8 (A.take n) j))) ∧ (∀ j, j < n → w.cell? ⟨b2, o2 + j, none⟩ = some (.int .u8 (at8 (B.take n) j))) ∧ (∀ j, j < n → w.cell? ⟨b3, o3 + j, none⟩ = some (.int .u8 (at8 (C.take n) j))) := fun n h1 h2 h3 =>
      ⟨fun j hj => by rw [take_at _ _ _ hj]; exact c1 j (by omega), fun j hj => by rw [take_at _ _ _ hj]; exact c2 j (by omega), fun j hj => by rw [take_at _ _ _ hj]; exact c3 j (by omega)⟩
    by_cases hb : lb < la
    · by_cases hc : lc < lb
      · obtain ⟨k1, k2, k3⟩ := key lc (by omega) (by omega) (by omega)
        exact lin_pos3 lc la lb lc ca cb cc b1 o1 b2 o2 b3 o3 (A.take lc) (B.take lc) (C.take lc) w (by simp; omega) (by simp; omega) (by simp; omega) (by omega) hla hca hcb hcc ⟨rfl, hb, hc⟩ k1 k2 k3 hn
      · obtain ⟨k1, k2, k3⟩ := key lb (by omega) (by omega) (by omega)
        exact lin_pos2 lb la lb lc ca cb cc b1 o1 b2 o2 b3 o3 (A.take lb) (B.take lb) (C.take lb) w (by simp; omega) (by simp; omega) (by simp; omega) (by omega) hla hca hcb hcc ⟨rfl, hb, by omega⟩ k1 k2 k3 hn
    · by_cases hc : lc < la
      · obtain ⟨k1, k2, k3⟩ := key lc (by omega) (by omega) (by omega)
        exact lin_pos4 lc la lb lc ca cb cc b1 o1 b2 o2 b3 o3 (A.take lc) (B.take lc) (C.take lc) w (by simp; omega) (by simp; omega) (by simp; omega) (by omega) hla hca hcb hcc ⟨rfl, hc, by omega⟩ k1 k2 k3 hn
      · obtain ⟨k1, k2, k3⟩ := key la (by omega) (by omega) (by omega)
        exact lin_pos1 la la lb lc ca cb cc b1 o1 b2 o2 b3 o3 (A.take la) (B.take la) (C.take la) w (by simp; omega) (by simp; omega) (by simp; omega) (by omega) hla hca hcb hcc ⟨rfl, by omega, by omega⟩ k1 k2 k3 hn
  · by_cases h1 : la = 0
    · exact lin_zero1 la lb lc ca cb cc a1 a2 a3 w hla hlb hlc hca hcb hcc ⟨h1, by omega, by omega⟩ hn
    · by_cases h2 : lb = 0
      · exact lin_zero2 la lb lc ca cb cc a1 a2 a3 w hla hlb hlc hca hcb hcc ⟨h2, by omega, by omega⟩ hn
      · by_cases h3 : lb < la
        · exact lin_zero3 la lb lc ca cb cc a1 a2 a3 w hla hlb hlc hca hcb hcc ⟨by omega, by omega, h3⟩ hn
        · exact lin_zero4 la lb lc ca cb cc a1 a2 a3 w hla hlb hlc hca hcb hcc ⟨by omega, by omega, by omega⟩ hn

theorem gNibs : Tryd.prog.globalNamed "estuary/digest.crcNibbles" = some 0 := by kernel_rfl
theorem nibs_datum {H : Type} : (Rows.laid_estuary_digest_crcNibbles : DataW H) = Lib.tabData .u32 (nibs.map U) := by kernel_rfl

theorem nibs_of_tab {W : World} (h : Lib.TabIs Tryd.prog W "estuary/digest.crcNibbles" .u32 (nibs.map U)) : NibsAt W := fun j hj => by
  rw [h.cell gNibs j (by simp [nibs]; omega)]
  have e : (nibs.map U).getD j 0 = U (nibs.getD j 0) := by
    have hl : j < nibs.length := by simp [nibs]; omega
    simp [List.getElem?_eq_getElem hl]
  rw [e]

theorem lin_of_laid {W : World} (h : laidMetH Tryd.prog Rows.digestLinearRow.laid W) : NibsAt W := by
  rw [MakeChecks.laidMetH_plain _ _ _ (by kernel_rfl)] at h
  have h' : laidMet Tryd.prog [("estuary/digest.crcNibbles", Lib.tabData .u32 (nibs.map U))] W := by rw [← nibs_datum]; exact h
  exact nibs_of_tab (Lib.tabIs_of_head gNibs (t := 53) (e := 27) (n := 16) (by kernel_rfl) Tryd.underlying53 Tryd.underlying27 (by kernel_rfl) (by kernel_rfl) h')

theorem lin_door_met (os : Os) (args : Array Value) : laidMetH Tryd.prog Rows.digestLinearRow.laid ((World.doorLaid Tryd.prog 4000 os).forCall (fun _ _ => 0) ⟨#[], args, []⟩).memory :=
  laidMetH_of_parts3 (fuel := 8) (laidMet_of_run' 8 (by kernel_rfl) (by kernel_rfl)) (by kernel_rfl) (by kernel_rfl)

theorem reach_of {H : Type} {ts : List TypeId} {ds : List (DataW H)} (hsz : (DataW.weightsEach Tryd.prog ts ds).all (· ≤ reachBytes) = true) (j : Nat) (ht : ts[j]? = some 26) {d : DataW H} (hd : ds[j]? = some d) {len : Nat}
    (h : d = .nil ∧ len = 0 ∨ ∃ el sp, d = .slice el sp ∧ el.length = len) : len ≤ 140737488351232 := by
  rcases h with ⟨_, rfl⟩ | ⟨el, sp, rfl, rfl⟩
  · omega
  · have := sized_slice hsz (j := j) (t := 26) (e := 5) ht hd Tryd.underlying26
    rw [bytes5] at this
    simp only [reachBytes] at this
    omega

set_option maxRecDepth 100000 in
theorem lin_lifted (os : Os) (started : os.Started) (H : Type) (enc : TypeId × Value → H) :
    ReturnsInHanded {} Tryd.checked os 8 .any (fun w args => (Rows.digestLinearSpec.pre enc Tryd.prog Tryd.f8 [] false w args ∧ laidMetH Tryd.prog Rows.digestLinearRow.laid w) ∧ sizedMet enc Tryd.prog Tryd.f8 (OpenSpec.ofChange Rows.digestLinearSpec) false w args)
      (Rows.digestLinearSpec.post enc Tryd.prog Tryd.f8 false true false false) := by
  refine returnsInHanded_of_change_and (C := Tryd.checked) (X := fun w _ => laidMetH Tryd.prog Rows.digestLinearRow.laid w) (fun _ _ _ hh h => h.of_heap hh) own started (by kernel_rfl) Tryd.func8
    (ChangeSpec.witness_shaped (enc := enc) (C := Tryd.checked) (os := os) (X := fun w _ => laidMetH Tryd.prog Rows.digestLinearRow.laid w) false (World.doorLaid Tryd.prog 4000 os) #[.slice none 0 0, .slice none 0 0, .slice none 0 0] 8 rfl (World.shaped_of_RefB (by kernel_rfl) (by kernel_rfl)) (by kernel_rfl) (by kernel_rfl) (by kernel_rfl) (lin_door_met os _)) ?_
  intro W base args ds gs before hval0 hW _ hsz0 hL _
  have hval : ∀ (j : Nat) t v, Tryd.f8.params[j]? = some t → args[j]? = some v → Value.okWide Tryd.prog W .any base t v := hval0
  have hsz : (DataW.weightsEach Tryd.prog (Tryd.f8.params.toList ++ Rows.digestLinearSpec.plain.varTypes Tryd.prog) (ds ++ gs)).all (· ≤ reachBytes) = true := hsz0
  have hW' := hW
  obtain ⟨p, q, hA0, hV, rfl, hfz, hnd⟩ := hW
  have hA : DataW.TrodAll enc Tryd.prog W 0 (fun _ => true) true Tryd.f8.params.toList args.toList ds p := hA0
  rw [Tryd.params8] at hA hval hsz
  obtain ⟨v0, vs0, d0, ds0, p0, q0, hargs, rfl, rfl, h0, r0⟩ := trodAll_cons hA
  obtain ⟨v1, vs1, d1, ds1, p1, q1, rfl, rfl, rfl, h1, r1⟩ := trodAll_cons r0
  obtain ⟨v2, vs2, d2, ds2, p2, q2, rfl, rfl, rfl, h2, r2⟩ := trodAll_cons r1
  obtain ⟨rfl, rfl, rfl⟩ := trodAll_nil r2
  obtain rfl : args = #[v0, v1, v2] := by cases args; simp_all
  obtain ⟨rfl, rfl⟩ := trodVars_none hV
  obtain ⟨a0, len0, cap0, rfl⟩ := okWide_slice Tryd.underlying26 (hval 0 26 v0 rfl rfl)
  obtain ⟨a1, len1, cap1, rfl⟩ := okWide_slice Tryd.underlying26 (hval 1 26 v1 rfl rfl)
  obtain ⟨a2, len2, cap2, rfl⟩ := okWide_slice Tryd.underlying26 (hval 2 26 v2 rfl rfl)
  have lt0 : ∀ x ∈ p0, x.block < W.heap.size := by obtain ⟨m, hm⟩ := h0; exact DataW.trod_lt m _ _ _ hm
  have lt1 : ∀ x ∈ p1, x.block < W.heap.size := by obtain ⟨m, hm⟩ := h1; exact DataW.trod_lt m _ _ _ hm
  have lt2 : ∀ x ∈ p2, x.block < W.heap.size := by obtain ⟨m, hm⟩ := h2; exact DataW.trod_lt m _ _ _ hm
  obtain ⟨A, hA1, hA2, hA3, hA4⟩ := view h0
  obtain ⟨B, hB1, hB2, hB3, hB4⟩ := view h1
  obtain ⟨C, hC1, hC2, hC3, hC4⟩ := view h2
  have e0 := reach_of hsz 0 rfl (d := d0) rfl hA4
  have e1 := reach_of hsz 1 rfl (d := d1) rfl hB4
  have e2 := reach_of hsz 2 rfl (d := d2) rfl hC4
  clear hA0 hval0
  refine (lin_all len0 len1 len2 cap0 cap1 cap2 a0 a1 a2 A B C W hA1 hB1 hC1 e0 e1 e2 hA2 hB2 hC2 hA3 hB3 hC3 (lin_of_laid hL)).mono fun e W' ⟨he, bel⟩ => ?_
  subst he
  exact ⟨_, rfl, _, _, _, [], _, [], hW', trodAll_mk1 (shut_bool Tryd.underlying4 _), (trodAll_cons_mk (Below.trod laidOut (by kernel_rfl) (of_decide_eq_true (by kernel_rfl)) h0 bel lt0) (trodAll_cons_mk (Below.trod laidOut (by kernel_rfl) (of_decide_eq_true (by kernel_rfl)) h1 bel lt1) (trodAll_cons_mk (Below.trod laidOut (by kernel_rfl) (of_decide_eq_true (by kernel_rfl)) h2 bel lt2) trodAll_mk0))), rfl, bel.frame _, fun h => by cases h⟩

theorem digestLinear_row : Rows.DigestLinearSaid :=
  OpenClaim.holds_of_wide 8 Tryd.f8 rfl rfl rfl rfl rfl rfl rfl ⟨rfl, rfl, rfl, rfl, rfl⟩ rfl rfl rfl rfl rfl (by kernel_rfl) Tryd.func8 (by kernel_rfl)
    (of_decide_eq_true (by kernel_rfl)) (by unfold Func.isWrapper; first | (rw [if_pos (by decide +kernel)]; kernel_rfl) | (rw [if_neg (by decide +kernel)]; exact ⟨rfl, rfl⟩))
    (fun os started H enc _ => lin_lifted os started H enc)

theorem digestLinear_holds : Rows.DigestLinearCardSaid :=
  Claim7.holds_tied_plain_at .later [] [.data] true (true, "37e1750e8310834bd4b0986324269044694c151c78e88f4815e09ec3803d617c") false
    digestLinear_row (fun _ h => by cases h) (by kernel_rfl) (fun _ h => by cases h) digestLinear_row_tie rfl ⟨rfl, rfl⟩ (by kernel_rfl) rfl
    (fun f fn hf hfn => by
      obtain rfl : f = 8 := Option.some.inj ((show Tryd.prog.funcNamed "estuary/estuarylaw01.DigestLinear" = some 8 by kernel_rfl).symm.trans hf) |>.symm
      obtain rfl : fn = Tryd.f8 := (Option.some.inj (Tryd.func8.symm.trans hfn)).symm
      exact ⟨by kernel_rfl, fun j t ht => by
        rw [Tryd.params8] at ht
        have hm : t ∈ [26] := by
          have := Array.mem_of_getElem? ht
          simpa using this
        have hall : ([26].all fun u => !Tryd.prog.wantsStandIn u) = true := by kernel_rfl
        exact (show Tryd.prog.wantsStandIn t = false by simpa using List.all_eq_true.1 hall t hm)⟩)
    (by kernel_rfl)
#print axioms digestLinear_holds
end Go.Proofs.YtpjkhkobjhnahaaDoor
