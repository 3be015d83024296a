import Derived.Test.YtpalbfkkegaliaaVi
import Derived.Test.YtpalbfkkegaliaaTw
namespace Go.Proofs.Ytpalbfkkegaliaa
open Go.ChangeShapes Go.WideShapes Go.ChangeAt Go.RowKit
open Go.ChangeMaps (open_string shut_string)
set_option linter.unusedVariables false

theorem lead_le {L : List (List UInt8)} (hL : All32 L) {m : Nat} (h : IsLead (fun x => x ∈ L) m) : m ≤ 64 := by
  rcases h.2 with h2 | ⟨a, b, sa, sb, h3, h4⟩
  · omega
  · have := cm_lt (hL a sa) (hL b sb) h3
    omega
/-- A call whose answer is settled by what it means. -/
theorem lead_fix {P : Program} {f : FuncId} {args : Array Value} {w : World} {L : List (List UInt8)} {m : Nat} (hm : IsLead (fun x => x ∈ L) m)
    (h : Calls P f args w fun e w' => (∃ n : Nat, e = .returned (.int .i64 n) ∧ IsLead (fun x => x ∈ L) n) ∧ Below w.heap.size w w') : Calls P f args w fun e w' => e = .returned (.int .i64 m) ∧ Below w.heap.size w w' :=
  h.mono fun e w' ⟨⟨n, he, hn⟩, hb⟩ => ⟨by rw [he, hn.unique hm], hb⟩
/-- There is such a number. -/
theorem lead_is (L : List (List UInt8)) : ∃ m, IsLead (fun x => x ∈ L) m := by
  have key : ∀ i, i ≤ L.length → ∃ m, LeadP (Prs L i 0) m := by
    intro i
    induction i with
    | zero => exact fun _ => ⟨0, LeadP.zero (prs_zero L)⟩
    | succ i ih =>
      intro hi
      obtain ⟨m0, h0⟩ := ih (by omega)
      have inner : ∀ j, j ≤ i → ∃ m, LeadP (Prs L i j) m := by
        intro j
        induction j with
        | zero => exact fun _ => ⟨m0, h0⟩
        | succ j ihj =>
          intro hj
          obtain ⟨m1, h1⟩ := ihj (by omega)
          exact ⟨_, LeadP.more h1 (prs_more (List.getElem?_eq_getElem (by omega : i < L.length)) (List.getElem?_eq_getElem (by omega : j < L.length)))⟩
      obtain ⟨m, h⟩ := inner i (by omega)
      exact ⟨m, LeadP.same h prs_next⟩
  obtain ⟨m, h⟩ := key L.length (by omega)
  exact ⟨m, lead_of_prs h⟩
theorem tells_any (a : Option Addr) (L : List (List UInt8)) (cap : Nat) (w : World) (hL : All32 L) (hb : L.length ≤ 4398046511104) (hl : Hl w a L) (hn : a = none → L.length = 0 ∧ cap = 0) :
    Calls Try.prog 4 #[.slice a L.length cap] w fun e w' => e = .returned (.bool true) ∧ Below w.heap.size w w' := by
  obtain ⟨m, hm⟩ := lead_is L
  refine pairs_any m (lead_le hL hm) a L cap w hL hb hl hm ?_
  cases a with
  | none =>
    obtain ⟨h1, rfl⟩ := hn rfl
    obtain rfl := List.eq_nil_of_length_eq_zero h1
    exact lead_fix hm (lead_none w)
  | some ad => exact lead_fix hm (lead_any ad L cap w hL hb hl)

set_option maxRecDepth 100000 in
theorem tells_lifted (os : Os) (started : os.Started) (H : Type) (enc : TypeId × Value → H) :
    ReturnsInHanded {} Try.checked os 4 .any (Rows.digestTellsSpec.pre6 enc Try.prog Try.f4 Rows.digestTellsRow.domain false) (Rows.digestTellsSpec.post enc Try.prog Try.f4 false true false false) := by
  refine returnsInHanded_of_change_sized (C := Try.checked) own started (by kernel_rfl) Try.func4
    (ChangeSpec.witness6 (enc := enc) (C := Try.checked) false ⟨#[], #[.slice none 0 0], []⟩ 8 (by kernel_rfl) (by kernel_rfl) (by kernel_rfl) (by kernel_rfl)) ?_
  intro W base args ds gs before hval0 hW hcnd hsz0 _
  have hval : ∀ (j : Nat) t v, Try.f4.params[j]? = some t → args[j]? = some v → Value.okWide Try.prog W .any base t v := hval0
  have hsz : (DataW.weightsEach Try.prog (Try.f4.params.toList ++ Rows.digestTellsSpec.plain.varTypes Try.prog) (ds ++ gs)).all (· ≤ reachBytes) = true := hsz0
  have hW' := hW
  obtain ⟨p, q, hA0, hV, rfl, hfz, hnd⟩ := hW
  have hA : DataW.TrodAll enc Try.prog W 0 (fun _ => true) true Try.f4.params.toList args.toList ds p := hA0
  rw [Try.params4] at hA hval hsz
  obtain ⟨v0, vs0, d0, ds0, p0, q0, hargs, rfl, rfl, h0, r0⟩ := trodAll_cons hA
  obtain ⟨rfl, rfl, rfl⟩ := trodAll_nil r0
  obtain rfl : args = #[v0] := by cases args; simp_all
  obtain ⟨rfl, rfl⟩ := trodVars_none hV
  obtain ⟨a1, len1, cap1, rfl⟩ := okWide_slice Try.underlying22 (hval 0 22 v0 rfl rfl)
  have lt0 : ∀ x ∈ p0, x.block < W.heap.size := by obtain ⟨m, hm⟩ := h0; exact DataW.trod_lt m _ _ _ hm
  obtain ⟨L, hlen, hL, hl, hnil, hd⟩ := view_hashes h0
  have hb := reachH hsz 0 rfl (d := d0) rfl hd
  clear hA0 hval0
  subst hlen
  refine (tells_any a1 L cap1 W hL hb hl hnil).mono fun e W' ⟨he, bel⟩ => ?_
  subst he
  exact ⟨_, rfl, _, _, _, [], _, [], hW', trodAll_mk1 (shut_bool Try.underlying4 _), (trodAll_cons_mk (Below.trod laidOut (by kernel_rfl) (of_decide_eq_true (by kernel_rfl)) h0 bel lt0) trodAll_mk0), rfl, bel.frame _, fun h => by cases h⟩

theorem digestTells_holds : Rows.DigestTellsSaid :=
  OpenClaim.holds_of_wide 4 Try.f4 rfl rfl rfl rfl rfl rfl rfl ⟨rfl, rfl, rfl, rfl, rfl⟩ rfl rfl rfl rfl rfl (by kernel_rfl) Try.func4 (by kernel_rfl)
    (of_decide_eq_true (by kernel_rfl)) (by unfold Func.isWrapper; first | (rw [if_pos (by decide +kernel)]; kernel_rfl) | (rw [if_neg (by decide +kernel)]; exact ⟨rfl, rfl⟩))
    (fun os started H enc _ => tells_lifted os started H enc)
#print axioms digestTells_holds
end Go.Proofs.Ytpalbfkkegaliaa
