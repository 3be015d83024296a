import Derived.Test.YtphpaaajfcbafaaDoorQm
namespace Go.Proofs.YtphpaaajfcbafaaDoor.K
open Go.RowKit
set_option linter.unusedVariables false
set_option linter.unusedSimpArgs false

variable {w : World} {r cap : Nat} {a : Option Addr} {L : List UInt8} {s : St}
theorem PI.app' {wr W1 : World} {s' : St} {X : List Nat} {la : Option Addr} {lc j : Nat} (h : PI w wr r a cap L s X la lc) (hX : X.length = j) (hr : r < w.heap.size) (hon : On wr W1 79 r a cap L s') (u : Nat) :
    OwnV (W1.alloc (.cells #[.int .u64 (u : Int)] 35)) w.heap.size 35 (.slice la j lc) (uC X) ∧ Vals (W1.alloc (.cells #[.int .u64 (u : Int)] 35)) (some ⟨W1.heap.size, 0, none⟩) [.int .u64 (u : Int)] ∧ w.heap.size ≤ (W1.alloc (.cells #[.int .u64 (u : Int)] 35)).heap.size := by
  subst hX
  exact h.app hr hon u
theorem PI.next' {wr W1 W2 : World} {s' : St} {X : List Nat} {la : Option Addr} {lc j : Nat} (h : PI w wr r a cap L s X la lc) (hX : X.length = j) (hr : r < w.heap.size) (ha : ∀ ad, a = some ad → ad.block < w.heap.size) (hon : On wr W1 79 r a cap L s') {u : Nat} {v2 : Value} (own2 : OwnV W2 w.heap.size 35 v2 (uC X ++ [.int .u64 (u : Int)])) (gr : (W1.alloc (.cells #[.int .u64 (u : Int)] 35)).grownBy W2 (Value.slice la j lc).ownBlock) :
    ∃ la2 lc2, v2 = .slice la2 (j + 1) lc2 ∧ PI w W2 r a cap L s' (X ++ [u]) la2 lc2 := by
  subst hX
  exact h.next hr ha hon own2 gr
theorem pq_of {w' : World} {left : Nat} {X : List Nat} {s' : St} {b : Bool} {la : Option Addr} {lc j : Nat} (hj : X.length = j) (h1 : pcL L left s = X) (h2 : pcS L left s = s') (h3 : pcR L s = b) (h : PI w w' r a cap L s' X la lc) : PQ w w' r a cap L left s (.returned (.tuple #[.slice la j lc, .bool b])) := by
  subst h1 h2 h3 hj
  exact ⟨la, lc, rfl, h⟩
set_option maxRecDepth 100000 in
set_option maxHeartbeats 4000000 in
theorem piece_0 (left : Nat) (w : World) (h : RD w 79 r a cap L s) (ha : ∀ ad, a = some ad → ad.block < w.heap.size) (hl : left ≤ 2147483647) (hc : (rInt L s).1 = 0) :
    Calls Tryd.prog 20 #[.pointer (some ⟨r, 0, none⟩), .int .i64 (left : Int)] w fun e w' => PQ w w' r a cap L left s e := by
  have HAt := Hid.mk' (qat_any w h)
  have HInt := Hid.mk' (qint_any w h)
  have HR := Hid.mk' h.lt
  have HA := Hid.mk' ha
  have hk := h.at_le
  have e2 : pc2 L s = (rInt L s).2.fl 21 s.k := by unfold pc2; rw [if_pos (.inl hc)]
  have hO : ¬ pcO L left s = true := by rw [pcO_iff]; omega
  have HL : Hid (pcL L left s = []) := by show _ = _; unfold pcL; rw [if_neg hO, if_neg (by omega), hc]; rfl
  have HS : Hid (pcS L left s = (rInt L s).2.fl 21 s.k) := by show _ = _; unfold pcS; rw [if_neg hO, if_neg (by omega), hc, e2]; rfl
  have HRn : Hid (pcR L s = false) := by show _ = _; unfold pcR; simp; omega
  rw [hc] at HInt
  have HRD := Hid.mk' h
  clear hO e2
  clear h ha hk
  go_enter Tryd.func20, Tryd.ntmps20
  go_wp2_with (first
    | (go_at_call 19; refine HAt.out.mono ?_; rintro e W0 ⟨rfl, hw⟩; obtain rfl := hw.symm)
    | (go_at_call 40; refine HInt.out.mono ?_; rintro e W1 ⟨rfl, on1⟩; have ON1 := Hid.mk' on1; have HF1 := Hid.mk' (qfail_any 21 (s.k : Int) W1 on1.1); clear on1)
    | (go_at_call 41; refine HF1.out.mono ?_; rintro e W2 ⟨rfl, on2⟩; have ON2 := Hid.mk' (ON1.out.trans on2); clear on2 HF1)
    | fail)
  go_loopw [7, 9] (fun x l wr => x = .int .i64 0 ∧ l = .slice none 0 0 ∧ wr = W2) (fun _ _ _ => 0)
  case atStart => exact ⟨rfl, rfl, rfl⟩
  case round =>
    obtain ⟨rfl, rfl, rfl⟩ := hrel
    go_wp2
    go_ret2
    exact pq_of rfl HL.out HS.out HRn.out (pi_nil HRD.out ON2.out)
set_option maxRecDepth 100000 in
set_option maxHeartbeats 4000000 in
theorem piece_O1 (left : Nat) (w : World) (h : RD w 79 r a cap L s) (ha : ∀ ad, a = some ad → ad.block < w.heap.size) (hl : left ≤ 2147483647) (hc : (rInt L s).1 = 1) (hc2 : left = 0) :
    Calls Tryd.prog 20 #[.pointer (some ⟨r, 0, none⟩), .int .i64 (left : Int)] w fun e w' => PQ w w' r a cap L left s e := by
  have HAt := Hid.mk' (qat_any w h)
  have HInt := Hid.mk' (qint_any w h)
  have HR := Hid.mk' h.lt
  have HA := Hid.mk' ha
  have hk := h.at_le
  have hO : pcO L left s = true := by rw [pcO_iff]; omega
  have HL : Hid (pcL L left s = []) := by show _ = _; unfold pcL; rw [if_pos hO]
  have HS : Hid (pcS L left s = (pc2 L s).fl 231 s.k) := by show _ = _; unfold pcS; rw [if_pos hO]
  have HRD := Hid.mk' h
  have e2 : pc2 L s = (rInt L s).2.fl 21 s.k := by unfold pc2; rw [if_pos (.inr hc)]
  rw [e2] at HS
  have HRn : Hid (pcR L s = true) := by show _ = _; unfold pcR; simp; omega
  rw [hc] at HInt
  subst hc2
  clear hO e2
  clear h ha hk
  go_enter Tryd.func20, Tryd.ntmps20
  go_wp2_with (first
    | (go_at_call 19; refine HAt.out.mono ?_; rintro e W0 ⟨rfl, hw⟩; obtain rfl := hw.symm)
    | (go_at_call 40; refine HInt.out.mono ?_; rintro e W1 ⟨rfl, on1⟩; have ON1 := Hid.mk' on1; have HF1 := Hid.mk' (qfail_any 21 (s.k : Int) W1 on1.1); clear on1)
    | (go_at_call 41; refine HF1.out.mono ?_; rintro e W2 ⟨rfl, on2⟩; have ON2 := Hid.mk' (ON1.out.trans on2); have HF2 := Hid.mk' (qfail_any 231 (s.k : Int) W2 on2.1); clear on2 HF1)
    | (go_at_call 41; refine HF2.out.mono ?_; rintro e W3 ⟨rfl, on2⟩; have ON3 := Hid.mk' (ON2.out.trans on2); clear on2 HF2)
    | fail)
  go_ret2
  exact pq_of rfl HL.out HS.out HRn.out (pi_nil HRD.out ON3.out)
set_option maxRecDepth 100000 in
set_option maxHeartbeats 4000000 in
theorem piece_O2 (left : Nat) (w : World) (h : RD w 79 r a cap L s) (ha : ∀ ad, a = some ad → ad.block < w.heap.size) (hl : left ≤ 2147483647) (hc : (left : Int) < (rInt L s).1) (hc2 : 2 ≤ (rInt L s).1) :
    Calls Tryd.prog 20 #[.pointer (some ⟨r, 0, none⟩), .int .i64 (left : Int)] w fun e w' => PQ w w' r a cap L left s e := by
  have HAt := Hid.mk' (qat_any w h)
  have HInt := Hid.mk' (qint_any w h)
  have HR := Hid.mk' h.lt
  have HA := Hid.mk' ha
  have hk := h.at_le
  have hO : pcO L left s = true := by rw [pcO_iff]; omega
  have HL : Hid (pcL L left s = []) := by show _ = _; unfold pcL; rw [if_pos hO]
  have HS : Hid (pcS L left s = (pc2 L s).fl 231 s.k) := by show _ = _; unfold pcS; rw [if_pos hO]
  have HRD := Hid.mk' h
  have e2 : pc2 L s = (rInt L s).2 := by unfold pc2; rw [if_neg (by omega)]
  rw [e2] at HS
  have HRn : Hid (pcR L s = true) := by show _ = _; unfold pcR; simp; omega
  have hrng := rInt_rng L s hk
  clear hO e2
  generalize hcc : (rInt L s).1 = c at *
  clear hcc
  have k0 : (c == 0) = false := by simp; omega
  have k1 : (c == 1) = false := by simp; omega
  have kp : decide (0 < c) = true := by simp; omega
  clear h ha hk
  go_enter Tryd.func20, Tryd.ntmps20
  go_wp2_with (first
    | (go_at_call 19; refine HAt.out.mono ?_; rintro e W0 ⟨rfl, hw⟩; obtain rfl := hw.symm)
    | (go_at_call 40; refine HInt.out.mono ?_; rintro e W1 ⟨rfl, on1⟩; have ON1 := Hid.mk' on1; have HF1 := Hid.mk' (qfail_any 231 (s.k : Int) W1 on1.1); clear on1)
    | (go_at_call 41; refine HF1.out.mono ?_; rintro e W2 ⟨rfl, on2⟩; have ON2 := Hid.mk' (ON1.out.trans on2); clear on2 HF1)
    | fail)
  go_ret2
  exact pq_of rfl HL.out HS.out HRn.out (pi_nil HRD.out ON2.out)
set_option maxRecDepth 100000 in
set_option maxHeartbeats 4000000 in
theorem piece_O3 (left : Nat) (w : World) (h : RD w 79 r a cap L s) (ha : ∀ ad, a = some ad → ad.block < w.heap.size) (hl : left ≤ 2147483647) (hc : (rInt L s).1 < -(left : Int)) :
    Calls Tryd.prog 20 #[.pointer (some ⟨r, 0, none⟩), .int .i64 (left : Int)] w fun e w' => PQ w w' r a cap L left s e := by
  have HAt := Hid.mk' (qat_any w h)
  have HInt := Hid.mk' (qint_any w h)
  have HR := Hid.mk' h.lt
  have HA := Hid.mk' ha
  have hk := h.at_le
  have hO : pcO L left s = true := by rw [pcO_iff]; omega
  have HL : Hid (pcL L left s = []) := by show _ = _; unfold pcL; rw [if_pos hO]
  have HS : Hid (pcS L left s = (pc2 L s).fl 231 s.k) := by show _ = _; unfold pcS; rw [if_pos hO]
  have HRD := Hid.mk' h
  have e2 : pc2 L s = (rInt L s).2 := by unfold pc2; rw [if_neg (by omega)]
  rw [e2] at HS
  have HRn : Hid (pcR L s = false) := by show _ = _; unfold pcR; simp; omega
  have hrng := rInt_rng L s hk
  clear hO e2
  generalize hcc : (rInt L s).1 = c at *
  clear hcc
  have k0 : (c == 0) = false := by simp; omega
  have k1 : (c == 1) = false := by simp; omega
  have kp : decide (0 < c) = false := by simp; omega
  have ko : ¬ (left : Int) < c := by omega
  clear h ha hk
  go_enter Tryd.func20, Tryd.ntmps20
  go_wp2_with (first
    | (go_at_call 19; refine HAt.out.mono ?_; rintro e W0 ⟨rfl, hw⟩; obtain rfl := hw.symm)
    | (go_at_call 40; refine HInt.out.mono ?_; rintro e W1 ⟨rfl, on1⟩; have ON1 := Hid.mk' on1; have HF1 := Hid.mk' (qfail_any 231 (s.k : Int) W1 on1.1); clear on1)
    | (go_at_call 41; refine HF1.out.mono ?_; rintro e W2 ⟨rfl, on2⟩; have ON2 := Hid.mk' (ON1.out.trans on2); clear on2 HF1)
    | fail)
  go_ret2
  exact pq_of rfl HL.out HS.out HRn.out (pi_nil HRD.out ON2.out)
set_option maxRecDepth 100000 in
set_option maxHeartbeats 4000000 in
theorem piece_R1 (left : Nat) (w : World) (h : RD w 79 r a cap L s) (ha : ∀ ad, a = some ad → ad.block < w.heap.size) (hl : left ≤ 2147483647) (hc : (rInt L s).1 = 1) (hc2 : 1 ≤ left) :
    Calls Tryd.prog 20 #[.pointer (some ⟨r, 0, none⟩), .int .i64 (left : Int)] w fun e w' => PQ w w' r a cap L left s e := by
  have HAt := Hid.mk' (qat_any w h)
  have HInt := Hid.mk' (qint_any w h)
  have HR := Hid.mk' h.lt
  have HA := Hid.mk' ha
  have hk := h.at_le
  have hO : ¬ pcO L left s = true := by rw [pcO_iff]; omega
  have e2 : pc2 L s = (rInt L s).2.fl 21 s.k := by unfold pc2; rw [if_pos (.inr hc)]
  have HS : Hid (pcS L left s = (rU L ((rInt L s).2.fl 21 s.k)).2) := by show _ = _; unfold pcS; rw [if_neg hO, if_pos (by omega), e2]
  have HRn : Hid (pcR L s = true) := by show _ = _; unfold pcR; simp; omega
  have HRD := Hid.mk' h
  have hLL : pcL L left s = List.replicate (rInt L s).1.toNat (rU L ((rInt L s).2.fl 21 s.k)).1 := by unfold pcL; rw [if_neg hO, if_pos (by omega), e2]
  obtain ⟨cn, hcn⟩ : ∃ cn : Nat, (rInt L s).1 = (cn : Int) := ⟨(rInt L s).1.toNat, by omega⟩
  rw [hcn] at HInt hLL hc
  have HL : Hid (pcL L left s = List.replicate cn (rU L ((rInt L s).2.fl 21 s.k)).1) := by show _ = _; rw [hLL]; rfl
  have hcl : cn ≤ left := by omega
  have hc1 : 1 ≤ cn := by omega
  clear hO e2 hLL
  clear h ha hk
  go_enter Tryd.func20, Tryd.ntmps20
  have k0 : ((cn : Int) == 0) = false := by simp; omega
  have k1 : ((cn : Int) == 1) = true := by simp; omega
  have kp : decide (0 < (cn : Int)) = true := by simp; omega
  have ko : ¬ (left : Int) < (cn : Int) := by omega
  have kq : ¬ (cn : Int) < -(left : Int) := by omega
  clear hcn hc hc2
  go_wp2_with (first
    | (go_at_call 19; refine HAt.out.mono ?_; rintro e W0 ⟨rfl, hw⟩; obtain rfl := hw.symm)
    | (go_at_call 40; refine HInt.out.mono ?_; rintro e W1 ⟨rfl, on1⟩; have ON1 := Hid.mk' on1; have HF1 := Hid.mk' (qfail_any 21 (s.k : Int) W1 on1.1); clear on1)
    | (go_at_call 41; refine HF1.out.mono ?_; rintro e W2 ⟨rfl, on2⟩; have ONX := Hid.mk' (ON1.out.trans on2); have HU : Hid (Calls Tryd.prog 42 #[.pointer (some ⟨r, 0, none⟩), .int .u64 18446744073709551615] W2 fun e w' => e = .returned (.int .u64 ((rU L ((rInt L s).2.fl 21 s.k)).1 : Int)) ∧ On W2 w' 79 r a cap L (rU L ((rInt L s).2.fl 21 s.k)).2) := quint_any 18446744073709551615 (by decide) W2 on2.1; clear on2 HF1)
    | fail)
  clear k1
  refine HU.out.mono ?_
  rintro e W3 ⟨rfl, on3⟩
  have HP0 : Hid (PI w W3 r a cap L (rU L ((rInt L s).2.fl 21 s.k)).2 (List.replicate 0 (rU L ((rInt L s).2.fl 21 s.k)).1) none 0) := pi_nil HRD.out (ONX.out.trans on3)
  clear on3 HU
  generalize hu : (rU L ((rInt L s).2.fl 21 s.k)).1 = u at *
  have HUE := Hid.mk' hu
  clear hu
  go_wp2
  go_loopw [9, 11] (fun l i wr => ∃ (j : Nat) (la : Option Addr) (lc : Nat), i = .int .i64 (j : Int) ∧ j ≤ cn ∧ l = .slice la j lc ∧ Hid (PI w wr r a cap L (rU L ((rInt L s).2.fl 21 s.k)).2 (List.replicate j u) la lc)) (fun _ i _ => cn - (intOf i).toNat)
  case atStart => exact ⟨0, none, 0, rfl, by omega, rfl, HP0⟩
  case round =>
    obtain ⟨j, la, lc, rfl, hj, rfl, HPj⟩ := hrel
    clear HP0
    by_cases hjc : j < cn
    · have hjc' : (j : Int) < (cn : Int) := by omega
      obtain ⟨o1, o2, o3⟩ := HPj.out.app' (j := j) (by simp) HR.out HPj.out.rd.on u
      have O1 := Hid.mk' o1
      have O2 := Hid.mk' o2
      have O3 := Hid.mk' o3
      have hL : Hid ((uC (List.replicate j u)).length + [Value.int .u64 (u : Int)].length ≤ 28000000000000) := by show _ ≤ _; rw [uC_len]; simp; omega
      clear o1 o2 o3
      go_wp2_with (first | (at_builtin; refine wpList_appV rfl (.tmp 48) (.tmp 50) 24 35 (.int .u64 0) Tryd.underlying24 info24 rfl rfl w.heap.size (.slice la j lc) (uC (List.replicate j u)) rfl O1.out (some ⟨wr.heap.size, 0, none⟩) 1 1 [.int .u64 (u : Int)] rfl rfl O2.out (by intro u hu; simp at hu; rw [hu]; rfl) hL.out O3.out ?_) | fail)
      intro v2 W4 own2 gr2 _
      obtain ⟨la2, lc2, rfl, hp2⟩ := HPj.out.next' (j := j) (by simp) HR.out HA.out HPj.out.rd.on own2 gr2
      rw [← List.replicate_succ'] at hp2
      have HP2 := Hid.mk' hp2
      clear own2 gr2 hp2 O1 O2 O3 hL HPj
      go_wp2
      exact ⟨⟨j + 1, la2, lc2, by go_num, by omega, rfl, HP2⟩, by simp [intOf]; omega⟩
    · obtain rfl : j = cn := by omega
      have hjc' : ¬ (j : Int) < (j : Int) := by omega
      go_wp2
      go_ret2
      exact pq_of (by simp) HL.out HS.out HRn.out HPj.out
set_option maxRecDepth 100000 in
set_option maxHeartbeats 4000000 in
theorem piece_R2 (left : Nat) (w : World) (h : RD w 79 r a cap L s) (ha : ∀ ad, a = some ad → ad.block < w.heap.size) (hl : left ≤ 2147483647) (hc : 2 ≤ (rInt L s).1) (hc2 : (rInt L s).1 ≤ (left : Int)) :
    Calls Tryd.prog 20 #[.pointer (some ⟨r, 0, none⟩), .int .i64 (left : Int)] w fun e w' => PQ w w' r a cap L left s e := by
  have HAt := Hid.mk' (qat_any w h)
  have HInt := Hid.mk' (qint_any w h)
  have HR := Hid.mk' h.lt
  have HA := Hid.mk' ha
  have hk := h.at_le
  have hO : ¬ pcO L left s = true := by rw [pcO_iff]; omega
  have e2 : pc2 L s = (rInt L s).2 := by unfold pc2; rw [if_neg (by omega)]
  have HS : Hid (pcS L left s = (rU L ((rInt L s).2)).2) := by show _ = _; unfold pcS; rw [if_neg hO, if_pos (by omega), e2]
  have HRn : Hid (pcR L s = true) := by show _ = _; unfold pcR; simp; omega
  have HRD := Hid.mk' h
  have hLL : pcL L left s = List.replicate (rInt L s).1.toNat (rU L ((rInt L s).2)).1 := by unfold pcL; rw [if_neg hO, if_pos (by omega), e2]
  obtain ⟨cn, hcn⟩ : ∃ cn : Nat, (rInt L s).1 = (cn : Int) := ⟨(rInt L s).1.toNat, by omega⟩
  rw [hcn] at HInt hLL hc
  have HL : Hid (pcL L left s = List.replicate cn (rU L ((rInt L s).2)).1) := by show _ = _; rw [hLL]; rfl
  have hcl : cn ≤ left := by omega
  have hc1 : 1 ≤ cn := by omega
  clear hO e2 hLL
  clear h ha hk
  go_enter Tryd.func20, Tryd.ntmps20
  have k0 : ((cn : Int) == 0) = false := by simp; omega
  have k1 : ((cn : Int) == 1) = false := by simp; omega
  have kp : decide (0 < (cn : Int)) = true := by simp; omega
  have ko : ¬ (left : Int) < (cn : Int) := by omega
  have kq : ¬ (cn : Int) < -(left : Int) := by omega
  clear hcn hc hc2
  go_wp2_with (first
    | (go_at_call 19; refine HAt.out.mono ?_; rintro e W0 ⟨rfl, hw⟩; obtain rfl := hw.symm)
    | (go_at_call 40; refine HInt.out.mono ?_; rintro e W1 ⟨rfl, on1⟩; have ONX := Hid.mk' on1; have HU : Hid (Calls Tryd.prog 42 #[.pointer (some ⟨r, 0, none⟩), .int .u64 18446744073709551615] W1 fun e w' => e = .returned (.int .u64 ((rU L (rInt L s).2).1 : Int)) ∧ On W1 w' 79 r a cap L (rU L (rInt L s).2).2) := quint_any 18446744073709551615 (by decide) W1 on1.1; clear on1)
    | fail)
  refine HU.out.mono ?_
  rintro e W3 ⟨rfl, on3⟩
  have HP0 : Hid (PI w W3 r a cap L (rU L ((rInt L s).2)).2 (List.replicate 0 (rU L ((rInt L s).2)).1) none 0) := pi_nil HRD.out (ONX.out.trans on3)
  clear on3 HU
  generalize hu : (rU L ((rInt L s).2)).1 = u at *
  have HUE := Hid.mk' hu
  clear hu
  go_wp2
  go_loopw [9, 11] (fun l i wr => ∃ (j : Nat) (la : Option Addr) (lc : Nat), i = .int .i64 (j : Int) ∧ j ≤ cn ∧ l = .slice la j lc ∧ Hid (PI w wr r a cap L (rU L ((rInt L s).2)).2 (List.replicate j u) la lc)) (fun _ i _ => cn - (intOf i).toNat)
  case atStart => exact ⟨0, none, 0, rfl, by omega, rfl, HP0⟩
  case round =>
    obtain ⟨j, la, lc, rfl, hj, rfl, HPj⟩ := hrel
    clear HP0
    by_cases hjc : j < cn
    · have hjc' : (j : Int) < (cn : Int) := by omega
      obtain ⟨o1, o2, o3⟩ := HPj.out.app' (j := j) (by simp) HR.out HPj.out.rd.on u
      have O1 := Hid.mk' o1
      have O2 := Hid.mk' o2
      have O3 := Hid.mk' o3
      have hL : Hid ((uC (List.replicate j u)).length + [Value.int .u64 (u : Int)].length ≤ 28000000000000) := by show _ ≤ _; rw [uC_len]; simp; omega
      clear o1 o2 o3
      go_wp2_with (first | (at_builtin; refine wpList_appV rfl (.tmp 48) (.tmp 50) 24 35 (.int .u64 0) Tryd.underlying24 info24 rfl rfl w.heap.size (.slice la j lc) (uC (List.replicate j u)) rfl O1.out (some ⟨wr.heap.size, 0, none⟩) 1 1 [.int .u64 (u : Int)] rfl rfl O2.out (by intro u hu; simp at hu; rw [hu]; rfl) hL.out O3.out ?_) | fail)
      intro v2 W4 own2 gr2 _
      obtain ⟨la2, lc2, rfl, hp2⟩ := HPj.out.next' (j := j) (by simp) HR.out HA.out HPj.out.rd.on own2 gr2
      rw [← List.replicate_succ'] at hp2
      have HP2 := Hid.mk' hp2
      clear own2 gr2 hp2 O1 O2 O3 hL HPj
      go_wp2
      exact ⟨⟨j + 1, la2, lc2, by go_num, by omega, rfl, HP2⟩, by simp [intOf]; omega⟩
    · obtain rfl : j = cn := by omega
      have hjc' : ¬ (j : Int) < (j : Int) := by omega
      go_wp2
      go_ret2
      exact pq_of (by simp) HL.out HS.out HRn.out HPj.out
set_option maxRecDepth 100000 in
set_option maxHeartbeats 4000000 in
theorem piece_W (left : Nat) (w : World) (h : RD w 79 r a cap L s) (ha : ∀ ad, a = some ad → ad.block < w.heap.size) (hl : left ≤ 2147483647) (hc : (rInt L s).1 < 0) (hc2 : -(left : Int) ≤ (rInt L s).1) :
    Calls Tryd.prog 20 #[.pointer (some ⟨r, 0, none⟩), .int .i64 (left : Int)] w fun e w' => PQ w w' r a cap L left s e := by
  have HAt := Hid.mk' (qat_any w h)
  have HInt := Hid.mk' (qint_any w h)
  have HR := Hid.mk' h.lt
  have HA := Hid.mk' ha
  have hk := h.at_le
  have hO : ¬ pcO L left s = true := by rw [pcO_iff]; omega
  have e2 : pc2 L s = (rInt L s).2 := by unfold pc2; rw [if_neg (by omega)]
  obtain ⟨cn, hcn⟩ : ∃ cn : Nat, (rInt L s).1 = -(cn : Int) := ⟨(-(rInt L s).1).toNat, by omega⟩
  have hct : (-(rInt L s).1).toNat = cn := by omega
  have HS : Hid (pcS L left s = (rds L (rInt L s).2 cn).2) := by show _ = _; unfold pcS; rw [if_neg hO, if_neg (by omega), e2, hct]
  have HL : Hid (pcL L left s = (rds L (rInt L s).2 cn).1) := by show _ = _; unfold pcL; rw [if_neg hO, if_neg (by omega), e2, hct]
  have HRn : Hid (pcR L s = false) := by show _ = _; unfold pcR; simp; omega
  have HRD := Hid.mk' h
  have hcl : cn ≤ left := by omega
  have hc1 : 1 ≤ cn := by omega
  have HU : Hid (∀ W s1, RD W 79 r a cap L s1 → Calls Tryd.prog 42 #[.pointer (some ⟨r, 0, none⟩), .int .u64 18446744073709551615] W fun e w' => e = .returned (.int .u64 ((rU L s1).1 : Int)) ∧ On W w' 79 r a cap L (rU L s1).2) := fun W s1 h1 => quint_any 18446744073709551615 (by decide) W h1
  have hrng := rInt_rng L s hk
  generalize hcc : (rInt L s).1 = c at *
  have HCN : Hid (c = -(cn : Int)) := hcn
  have hcb : -2147483647 ≤ c := by omega
  clear hO e2 hct hcn hcc hc2 hrng
  have k0 : (c == 0) = false := by simp; omega
  have k1 : (c == 1) = false := by simp; omega
  have kp : decide (0 < c) = false := by rw [decide_eq_false_iff_not]; omega
  have ko : ¬ (left : Int) < c := by omega
  have kq : ¬ c < -(left : Int) := by have := HCN.out; omega
  clear h ha hk
  go_enter Tryd.func20, Tryd.ntmps20
  go_wp2_with (first
    | (go_at_call 19; refine HAt.out.mono ?_; rintro e W0 ⟨rfl, hw⟩; obtain rfl := hw.symm)
    | (go_at_call 40; refine HInt.out.mono ?_; rintro e W1 ⟨rfl, on1⟩; have ON1 := Hid.mk' on1; clear on1)
    | fail)
  have HP0 : Hid (PI w W1 r a cap L (rds L (rInt L s).2 0).2 (rds L (rInt L s).2 0).1 none 0) := pi_nil HRD.out ON1.out
  generalize (rInt L s).2 = s1 at *
  go_loopw [7, 9] (fun x l wr => ∃ (j : Nat) (la : Option Addr) (lc : Nat), x = .int .i64 ((j : Int) + c) ∧ j ≤ cn ∧ l = .slice la j lc ∧ Hid (PI w wr r a cap L (rds L s1 j).2 (rds L s1 j).1 la lc)) (fun x _ _ => (-(intOf x)).toNat)
  case atStart => exact ⟨0, none, 0, by first | rfl | simp, by omega, rfl, HP0⟩
  case round =>
    obtain ⟨j, la, lc, rfl, hj, rfl, HPj⟩ := hrel
    clear HP0
    have hcn := HCN.out
    by_cases hjc : j < cn
    · have hjc' : (j : Int) + c < 0 := by omega
      have hjb : (j : Int) ≤ 2147483647 := by omega
      clear hcn
      have HUj := Hid.mk' (HU.out wr _ HPj.out.rd)
      have HLn : Hid ((rds L s1 j).1.length = j) := rds_len _ _ _
      generalize hu : (rU L (rds L s1 j).2).1 = u at *
      have HUE := Hid.mk' hu
      clear hu
      go_wp2_with (first
        | (go_at_call 42; refine HUj.out.mono ?_)
        | fail)
      rintro e W3 ⟨rfl, on3⟩
      obtain ⟨o1, o2, o3⟩ := HPj.out.app' (j := j) HLn.out HR.out on3 u
      have O1 := Hid.mk' o1
      have O2 := Hid.mk' o2
      have O3 := Hid.mk' o3
      have ON3 := Hid.mk' on3
      have hL : Hid ((uC (rds L s1 j).1).length + [Value.int .u64 (u : Int)].length ≤ 28000000000000) := by show _ ≤ _; rw [uC_len, HLn.out]; simp; omega
      clear o1 o2 o3 on3
      go_wp2_with (first | (at_builtin; refine wpList_appV rfl (.tmp 57) (.tmp 60) 24 35 (.int .u64 0) Tryd.underlying24 info24 rfl rfl w.heap.size (.slice la j lc) (uC (rds L s1 j).1) rfl O1.out (some ⟨W3.heap.size, 0, none⟩) 1 1 [.int .u64 (u : Int)] rfl rfl O2.out (by intro u hu; simp at hu; rw [hu]; rfl) hL.out O3.out ?_) | fail)
      intro v2 W4 own2 gr2 _
      obtain ⟨la2, lc2, rfl, hp2⟩ := HPj.out.next' (j := j) HLn.out HR.out HA.out ON3.out own2 gr2
      have HP2 : Hid (PI w W4 r a cap L (rds L s1 (j + 1)).2 (rds L s1 (j + 1)).1 la2 lc2) := by
        have e : (rds L s1 (j + 1)).1 = (rds L s1 j).1 ++ [u] := by rw [← HUE.out]; rfl
        rw [e]
        exact hp2
      clear own2 gr2 hp2 O1 O2 O3 hL HPj ON3 HUj
      go_wp2
      go_roundw
      case rel => exact ⟨j + 1, la2, lc2, by first | go_num | (congr 1; omega) | (congr 1; push_cast; omega), by omega, rfl, HP2⟩
      case measure => have hcn := HCN.out; simp [intOf]; omega
    · obtain rfl : j = cn := by omega
      have hjc' : ¬ (j : Int) + c < 0 := by omega
      clear hcn
      have HLn : Hid ((rds L s1 j).1.length = j) := rds_len _ _ _
      go_wp2
      go_ret2
      exact pq_of HLn.out HL.out HS.out HRn.out HPj.out
theorem piece_any (left : Nat) (w : World) (h : RD w 79 r a cap L s) (ha : ∀ ad, a = some ad → ad.block < w.heap.size) (hl : left ≤ 2147483647) :
    Calls Tryd.prog 20 #[.pointer (some ⟨r, 0, none⟩), .int .i64 (left : Int)] w fun e w' => PQ w w' r a cap L left s e := by
  by_cases h0 : (rInt L s).1 = 0
  · exact piece_0 left w h ha hl h0
  by_cases h1 : (rInt L s).1 = 1
  · by_cases h2 : left = 0
    · exact piece_O1 left w h ha hl h1 h2
    · exact piece_R1 left w h ha hl h1 (by omega)
  by_cases h2 : (left : Int) < (rInt L s).1
  · exact piece_O2 left w h ha hl h2 (by omega)
  by_cases h3 : (rInt L s).1 < -(left : Int)
  · exact piece_O3 left w h ha hl h3
  by_cases h4 : (rInt L s).1 < 0
  · exact piece_W left w h ha hl h4 (by omega)
  · exact piece_R2 left w h ha hl (by omega) (by omega)
end Go.Proofs.YtphpaaajfcbafaaDoor.K
