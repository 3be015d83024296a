import Derived.Test.YtefoipjbbfcjhaaDoorDp
import Derived.Laws.IdiomStrings
namespace Go.Proofs.YtefoipjbbfcjhaaDoor
open Go.RowKit
set_option linter.unusedVariables false
set_option linter.unusedSimpArgs false

theorem at_cv {P : Program} {ops : Array Oper} {R : List Oper} {a : Act} {w : World} {Q : Exit → Act → World → Prop} {d : Option Tmp} {s t : TypeId} {x : Operand} {ty : TypeId} {pos : String} {af : _} {g : _}
    (h : wpList P ops Q (⟨d, .convert s t x, ty, pos, af, g⟩ :: R) a w) : wpList P ops Q (⟨d, .convert s t x, ty, pos, af, g⟩ :: R) a w := h
/-- A text's characters as a slice. -/
theorem wpList_runes {ops : Array Oper} {rest : List Oper} {o : Oper} {a : Act} {w : World} {Q : Exit → Act → World → Prop} (x : Operand) (ho : o.op = .convert 9 37 x) (hg : o.guard = none) (s : ByteArray) (hs : s.size ≤ 1048576) (hx : a.eval x = .string s)
    (h : ∀ c w', (rn s).length ≤ c → Rd w' (some ⟨w.heap.size, 0, none⟩) (rV (rn s)) → Below w.heap.size w w' → w.heap.size < w'.heap.size → wpList Tryd.prog ops Q rest (a.put o.dst (.slice (some ⟨w.heap.size, 0, none⟩) (rn s).length c)) w') : wpList Tryd.prog ops Q (o :: rest) a w := by
  have e : Conv.runesFrom s s.size 0 #[] = (rV (rn s)).toArray := runes_all s
  have hl : (rV (rn s)).toArray.size = (rn s).length := by simp [rV]
  have hrl := rn_len s
  have hr := run_runes_of_string (P := Tryd.prog) w 9 37 21 s Tryd.underlying9 Tryd.underlying37 (by kernel_rfl) (by rw [e, hl]; omega)
  rw [e, hl] at hr
  refine wpList_plain hg fun K hK => ?_
  unfold Oper.wp execOp
  simp only [ho, hx, Sem.run_bind, hr, Result.andThen_ok, Sem.run_pure]
  refine hK _ _ (h _ _ (grownCap_ge _ _ _ _) ?_ (((Below.refl _ _).drew).alloc (Nat.le_refl _) _) (by simp))
  intro j u hj
  refine ⟨_, rfl, ?_⟩
  have g := heap_alloc_new w.drew (.cells ((rV (rn s)).toArray ++ Array.replicate (grownCap w (rn s).length 0 21 - (rn s).length) (.int .i32 0)) 21)
  refine (cell_of_row _ _ j _ _ _ g).trans ?_
  have hjl : j < (rV (rn s)).length := (List.getElem?_eq_some_iff.1 hj).1
  rw [Array.getElem?_append_left (by simpa using hjl)]
  simpa using hj
set_option maxRecDepth 100000 in
set_option maxHeartbeats 4000000 in
theorem scriptP_of (s t : ByteArray) (w : World) (hs : s.size ≤ 1048576) (ht : t.size ≤ 1048576)
    (HV : Hid (∀ W, Below w.heap.size w W → Calls Tryd.prog 12 #[.string s] W fun e w' => e = .returned (.bool (Lib.validD s.data.toList)) ∧ Below W.heap.size W w'))
    (HU : Hid (∀ W, Below w.heap.size w W → Calls Tryd.prog 12 #[.string t] W fun e w' => e = .returned (.bool (Lib.validD t.data.toList)) ∧ Below W.heap.size W w')) :
    Calls Tryd.prog 6 #[.string s, .string t] w fun e w' => ∃ v, e = .returned v ∧ w'.ownsRow w.heap.size 34 7 v (scr s t).length (pV (scr s t)) ∧ Below w.heap.size w w' := by
  have HS : Hid (scr s t = if Lib.validD s.data.toList = true ∧ Lib.validD t.data.toList = true then scrL (rn s) (rn t) else []) := rfl
  generalize scr s t = SC at *
  generalize hv1 : Lib.validD s.data.toList = V1 at *
  generalize hv2 : Lib.validD t.data.toList = V2 at *
  clear hv1 hv2
  cases V1
  · have HS' : Hid (SC = []) := by show _ = _; rw [HS.out]; rfl
    go_enter Tryd.func6, Tryd.ntmps6
    go_wp2_with fail
    refine (HV.out w (Below.refl _ _)).mono ?_
    rintro e W1 ⟨rfl, b1⟩
    go_wp2
    go_ret
    exact ⟨_, rfl, by rw [HS'.out]; exact World.ownsRow_nil _ _ _ _, b1⟩
  cases V2
  · have HS' : Hid (SC = []) := by show _ = _; rw [HS.out]; rfl
    go_enter Tryd.func6, Tryd.ntmps6
    go_wp2_with fail
    refine (HV.out w (Below.refl _ _)).mono ?_
    rintro e W1 ⟨rfl, b1⟩
    go_wp2_with fail
    refine (HU.out W1 b1).mono ?_
    rintro e W2 ⟨rfl, b2⟩
    have b2' := b1.trans (b2.mono b1.size)
    go_wp2
    go_ret
    exact ⟨_, rfl, by rw [HS'.out]; exact World.ownsRow_nil _ _ _ _, b2'⟩
  have HS' : Hid (SC = scrL (rn s) (rn t)) := by show _ = _; rw [HS.out]; rfl
  have hrs := rn_len s
  have hrt := rn_len t
  go_enter Tryd.func6, Tryd.ntmps6
  go_wp2_with fail
  refine (HV.out w (Below.refl _ _)).mono ?_
  rintro e W1 ⟨rfl, b1⟩
  have B1 := Hid.mk' b1
  clear b1
  go_wp2_with fail
  refine (HU.out W1 B1.out).mono ?_
  rintro e W2 ⟨rfl, b2⟩
  have B2 := Hid.mk' (B1.out.trans (b2.mono B1.out.size))
  clear b2 B1
  go_wp2_with (first
    | (with_reducible refine at_cv ?_; refine wpList_runes (.tmp 15) rfl rfl s hs rfl ?_)
    | fail)
  intro ca W3 hca rd3 b3 l3
  have RA3 := Hid.mk' rd3
  have B3 := Hid.mk' (B2.out.trans (b3.mono B2.out.size))
  have L3 := Hid.mk' l3
  clear rd3 b3 l3 B2
  generalize W2.heap.size = ba at *
  go_wp2_with (first
    | (with_reducible refine at_cv ?_; refine wpList_runes (.tmp 17) rfl rfl t ht rfl ?_)
    | fail)
  intro cb W4 hcb rd4 b4 l4
  have RB := Hid.mk' rd4
  have RA := Hid.mk' (RA3.out.below b4)
  have B4 := Hid.mk' (B3.out.trans (b4.mono B3.out.size))
  have L4 := Hid.mk' l4
  clear rd4 b4 l4 B3 RA3 L3
  generalize W3.heap.size = bb at *
  generalize rn s = A at *
  generalize rn t = B at *
  have hla : A.length ≤ 1048576 := by omega
  have hlb : B.length ≤ 1048576 := by omega
  have HBT : Hid (∀ (K : List (Nat × Nat × Nat)) kv W5, W5.ownsRow W4.heap.size 57 3 kv K.length (kV K) → Below W4.heap.size W4 W5 → Asc A.length B.length (K ++ [(A.length, B.length, 0)]) 0 0 → K.length ≤ 1048576 →
      Calls Tryd.prog 13 #[.slice (some ⟨ba, 0, none⟩) A.length ca, .slice (some ⟨bb, 0, none⟩) B.length cb, kv] W5 fun e w' => ∃ v, e = .returned v ∧ w'.ownsRow w.heap.size 34 7 v (betw B (K ++ [(A.length, B.length, 0)]) 0 0).length (pV (betw B (K ++ [(A.length, B.length, 0)]) 0 0)) ∧ Below w.heap.size w w') := by
    intro K kv W5 own b5 hasc hK
    refine (between_any A.length B _ _ ca cb kv K W5 W4.heap.size own b5.size (fun wx hb => RB.out.below (b5.trans hb)) hcb (fun h => by cases h) hasc hla hlb hK).mono ?_
    rintro e W6 ⟨v, rfl, own6, b6⟩
    exact ⟨v, rfl, own_base own6 B4.out.size, B4.out.trans ((b5.trans b6).mono B4.out.size)⟩
  have HKE := Hid.mk' (keptE_abs A.length B.length (frN A B) (enN A B) (fun i => A.getD i 0) (fun i => B.getD i 0) (some ⟨ba, 0, none⟩) (some ⟨bb, 0, none⟩) ca cb W4 (rfl : _ = _) (rfl : _ = _) (rd_chs RA.out) (rd_chs RB.out) hla hlb)
  by_cases hbig : 2000 < A.length ∨ 2000 < B.length
  · have HSB : Hid (SC = betw B ([(0, 0, frN A B), (A.length - enN A B, B.length - enN A B, enN A B)] ++ [(A.length, B.length, 0)]) 0 0) := by show _ = _; rw [HS'.out, scrL, if_pos hbig]
    have HAS : Hid (Asc A.length B.length ([(0, 0, frN A B), (A.length - enN A B, B.length - enN A B, enN A B)] ++ [(A.length, B.length, 0)]) 0 0) := asc_ends (frN_le A B).1 (frN_le A B).2 (enN_le A B).1 (enN_le A B).2
    generalize frN A B = FR at *
    generalize enN A B = EN at *
    have hm : (2000 : Int) < max (A.length : Int) (B.length : Int) := by omega
    clear HS HS' hbig HV HU RA RB
    go_wp2_with (first
      | (go_at_call 14; refine HKE.out.mono ?_; rintro e W5 ⟨kv, rfl, own5, b5⟩; have HB2 := Hid.mk' (HBT.out _ kv W5 own5 b5 HAS.out (by simp)); clear own5 b5 HAS HBT HKE)
      | (go_at_call 13; refine HB2.out.mono ?_; rintro e W6 ⟨v, rfl, own6, b6⟩; have HO6 := Hid.mk' own6; have HB6 := Hid.mk' b6; clear own6 b6 HB2)
      | fail)
    all_goals (go_ret; exact ⟨v, rfl, by rw [HSB.out]; exact HO6.out, HB6.out⟩)
  · have HSB : Hid (SC = betw B (kept A B (A.length + B.length) 0 0 ++ [(A.length, B.length, 0)]) 0 0) := by show _ = _; rw [HS'.out, scrL, if_neg hbig]; rfl
    have HKC := Hid.mk' (keptC_any A B (some ⟨ba, 0, none⟩) (some ⟨bb, 0, none⟩) ca cb W4 RA.out RB.out (by omega) (by omega))
    have HAS : Hid (Asc A.length B.length (kept A B (A.length + B.length) 0 0 ++ [(A.length, B.length, 0)]) 0 0) := asc_kept A B _ 0 0 0 0 (Nat.zero_le _) (Nat.zero_le _) (Nat.le_refl _) (Nat.le_refl _)
    have HKL := Hid.mk' (kept_len A B (A.length + B.length) 0 0)
    generalize kept A B (A.length + B.length) 0 0 = KP at *
    have hm : ¬ (2000 : Int) < max (A.length : Int) (B.length : Int) := by omega
    clear HS HS' hbig HV HU RA RB HKE
    go_wp2_with (first
      | (go_at_call 15; refine HKC.out.mono ?_; rintro e W5 ⟨kv, rfl, own5, b5⟩; have HB2 := Hid.mk' (HBT.out _ kv W5 own5 b5 HAS.out (by have := HKL.out; omega)); clear own5 b5 HAS HBT HKC)
      | (go_at_call 13; refine HB2.out.mono ?_; rintro e W6 ⟨v, rfl, own6, b6⟩; have HO6 := Hid.mk' own6; have HB6 := Hid.mk' b6; clear own6 b6 HB2)
      | fail)
    all_goals (go_ret; exact ⟨v, rfl, by rw [HSB.out]; exact HO6.out, HB6.out⟩)
end Go.Proofs.YtefoipjbbfcjhaaDoor
