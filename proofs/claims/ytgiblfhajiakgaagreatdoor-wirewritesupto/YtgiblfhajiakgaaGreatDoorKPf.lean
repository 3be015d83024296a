import Derived.Test.YtgiblfhajiakgaaGreatDoorKWf
namespace Go.Proofs.YtgiblfhajiakgaaGreatDoor.K
open Go.RowKit
set_option linter.unusedVariables false
set_option linter.unusedSimpArgs false

/-- Bytes as a number, the highest first. -/
def be (L : List UInt8) (k : Nat) : Nat → Nat
  | 0 => 0
  | i + 1 => be L k i * 256 + (L.getD (k + i) 0).toNat
theorem or32_nat (a b : Nat) (ha : a < 4294967296) (hb : b < 4294967296) : bits .or .u32 (a : Int) (b : Int) = ((a ||| b : Nat) : Int) := by
  have hx : a ||| b < 2 ^ 32 := Nat.or_lt_two_pow (by omega) (by omega)
  have o : ∀ x : Nat, x < 4294967296 → (BitVec.ofInt 32 (x : Int)).toNat = x := fun x h => by
    rw [BitVec.toNat_ofInt]; omega
  show IntKind.u32.wrap ((BitVec.ofInt 32 (a : Int) ||| BitVec.ofInt 32 (b : Int)).toNat : Int) = _
  rw [BitVec.toNat_or, o a ha, o b hb]
  simp [IntKind.wrap, IntKind.bits, IntKind.signed]
  omega
theorem or_add (a b k : Nat) (h : b < 2 ^ k) : a * 2 ^ k ||| b = a * 2 ^ k + b := by
  rw [← Nat.shiftLeft_eq]
  exact (Nat.shiftLeft_add_eq_or_of_lt h a).symm
theorem word32 (b0 b1 b2 b3 : Nat) (h0 : b0 < 256) (h1 : b1 < 256) (h2 : b2 < 256) (h3 : b3 < 256) : bits .or .u32 (bits .or .u32 (bits .or .u32 ((b0 : Int) * 16777216) ((b1 : Int) * 65536)) ((b2 : Int) * 256)) (b3 : Int) = ((((b0 * 256 + b1) * 256 + b2) * 256 + b3 : Nat) : Int) := by
  rw [show (b0 : Int) * 16777216 = ((b0 * 2 ^ 24 : Nat) : Int) by omega, show (b1 : Int) * 65536 = ((b1 * 2 ^ 16 : Nat) : Int) by omega, show (b2 : Int) * 256 = ((b2 * 2 ^ 8 : Nat) : Int) by omega]
  rw [or32_nat _ _ (by omega) (by omega), or_add b0 (b1 * 2 ^ 16) 24 (by omega)]
  rw [or32_nat _ _ (by omega) (by omega), show b0 * 2 ^ 24 + b1 * 2 ^ 16 = (b0 * 2 ^ 8 + b1) * 2 ^ 16 by omega, or_add _ (b2 * 2 ^ 8) 16 (by omega)]
  rw [or32_nat _ _ (by omega) (by omega), show (b0 * 2 ^ 8 + b1) * 2 ^ 16 + b2 * 2 ^ 8 = ((b0 * 2 ^ 8 + b1) * 2 ^ 8 + b2) * 2 ^ 8 by omega, or_add _ b3 8 (by omega)]
theorem word64 (a b : Nat) (ha : a < 4294967296) (hb : b < 4294967296) : bits .or .u64 ((a : Int) * 4294967296) (b : Int) = ((a * 4294967296 + b : Nat) : Int) := by
  rw [show (a : Int) * 4294967296 = ((a * 2 ^ 32 : Nat) : Int) by omega, or64_nat _ _ (by omega) (by omega), or_add a b 32 (by omega)]
theorem be_lt (L : List UInt8) (k : Nat) : ∀ i, be L k i < 256 ^ i
  | 0 => by show 0 < 1; decide
  | i + 1 => by
    have := be_lt L k i
    have := (L.getD (k + i) 0).toNat_lt
    rw [Nat.pow_succ]
    show be L k i * 256 + _ < _
    omega
theorem be_8 (L : List UInt8) (k : Nat) : be L k 8 = be L k 4 * 4294967296 + be L (k + 4) 4 := by
  simp only [be, Nat.add_zero, Nat.zero_mul, Nat.zero_add, Nat.add_assoc, Nat.reduceAdd]
  omega
set_option maxRecDepth 100000 in
set_option maxHeartbeats 1000000 in
theorem fix_any (b off n cap : Nat) (L : List UInt8) (k : Nat) (w : World) (hn : 4 ≤ n) (hc : ∀ j, j < 4 → w.cell? ⟨b, off + j, none⟩ = some (.int .u8 (at8 L (k + j)))) :
    Calls Tryz.prog 111 #[.slice (some ⟨b, off, none⟩) n cap] w fun e w' => e = .returned (.int .u32 (be L k 4 : Int)) ∧ ∃ m, w' = w.drewN m := by
  have c0 := hc 0 (by omega)
  have c1 := hc 1 (by omega)
  have c2 := hc 2 (by omega)
  have c3 := hc 3 (by omega)
  rw [Nat.add_zero] at c0
  rw [Nat.add_zero] at c0
  unfold at8 at c0 c1 c2 c3
  have E : be L k 4 = (((L.getD k 0).toNat * 256 + (L.getD (k + 1) 0).toNat) * 256 + (L.getD (k + 2) 0).toNat) * 256 + (L.getD (k + 3) 0).toNat := by
    simp only [be, Nat.add_zero, Nat.zero_mul, Nat.zero_add]
  rw [E]
  have h0 := (L.getD k 0).toNat_lt
  have h1 := (L.getD (k + 1) 0).toNat_lt
  have h2 := (L.getD (k + 2) 0).toNat_lt
  have h3 := (L.getD (k + 3) 0).toNat_lt
  generalize (L.getD k 0).toNat = b0 at *
  generalize (L.getD (k + 1) 0).toNat = b1 at *
  generalize (L.getD (k + 2) 0).toNat = b2 at *
  generalize (L.getD (k + 3) 0).toNat = b3 at *
  clear E hc
  go_enter Tryz.func111, Tryz.ntmps111
  go_wp2
  go_quiet (fail)
  go_wp2
  go_ret
  exact ⟨ret_int (word32 b0 b1 b2 b3 h0 h1 h2 h3), _, rfl⟩

def finB (f : Nat) : Bool := finN f && decide (f ≠ 9223372036854775808)
def rFloat (L : List UInt8) (s : St) : Nat × St := if s.bad = 0 then (if s.k + 8 ≤ L.length then (if finB (be L s.k 8) = true then (be L s.k 8, ⟨s.k + 8, s.bad, s.wh⟩) else (0, ⟨s.k, 21, s.k⟩)) else (0, ⟨s.k, 20, L.length⟩)) else (0, s)
variable {T : TypeId} {r cap : Nat} {a : Option Addr} {L : List UInt8} {s : St}
set_option maxRecDepth 100000 in
set_option maxHeartbeats 2000000 in
theorem float_any (w : World) (h : RD w T r a cap L s) :
    Calls Tryz.prog 33 #[.pointer (some ⟨r, 0, none⟩)] w fun e w' => e = .returned (.float .f64 (rFloat L s).1) ∧ On w w' T r a cap L (rFloat L s).2 := by
  have HS : Hid (Calls Tryz.prog 104 #[.pointer (some ⟨r, 0, none⟩)] w fun e w' => e = .returned (.bool (decide (s.bad ≠ 0))) ∧ w' = w) := stopped_any w h
  by_cases hb : s.bad = 0
  · have HS' : Hid (Calls Tryz.prog 104 #[.pointer (some ⟨r, 0, none⟩)] w fun e w' => e = .returned (.bool false) ∧ w' = w) := by have := HS.out; rw [show decide (s.bad ≠ 0) = false by simp [hb]] at this; exact this
    clear HS
    by_cases hk : s.k + 8 ≤ L.length
    · have HNx : Hid (Calls Tryz.prog 109 #[.pointer (some ⟨r, 0, none⟩), .int .i64 8] w fun e w' => e = .returned (.tuple #[.slice (from23 a cap s.k) 8 (cap - s.k), .bool true]) ∧ ∃ m, w' = w.drewN m) := next_ok 8 w h hk
      have HK := Hid.mk' (keep_on (a := a) (cap := cap) (L := L) (T := T) (r := r) w hb 21 (s.k : Int) (by decide))
      have HR := Hid.mk' h.on
      have hf := h.few
      have hrm := h.room
      rcases h.cells with hz | ⟨b, off, eA, hlt, hbr, hc⟩
      · omega
      rw [eA] at HNx
      have hE : rFloat L s = (if finB (be L s.k 8) = true then (be L s.k 8, ⟨s.k + 8, s.bad, s.wh⟩) else (0, ⟨s.k, 21, s.k⟩)) := by unfold rFloat; rw [if_pos hb, if_pos hk]
      rw [hE]
      have hB8 := be_8 L s.k
      have hA4 := be_lt L s.k 4
      have hB4 := be_lt L (s.k + 4) 4
      have FX : Hid (∀ wx, Fr r w wx → ∀ off' n c v, (off' = off ∧ n = 8 ∧ v = be L s.k 4 ∨ off' = off + 4 ∧ n = 4 ∧ v = be L (s.k + 4) 4) → Calls Tryz.prog 111 #[.slice (some ⟨b, off', none⟩) n c] wx fun e w' => e = .returned (.int .u32 (v : Int)) ∧ ∃ m, w' = wx.drewN m) := fun wx hx off' n c v ho => by
        rcases ho with ⟨rfl, rfl, rfl⟩ | ⟨rfl, rfl, rfl⟩
        · exact fix_any b off' 8 c L s.k wx (by decide) (fun j hj => hx.cell (p := ⟨b, off' + j, none⟩) hbr (hc j (by omega)))
        · exact fix_any b (off + 4) 4 c L (s.k + 4) wx (by decide) (fun j hj => by
            rw [Nat.add_assoc, Nat.add_assoc]
            exact hx.cell (p := ⟨b, off + (4 + j), none⟩) hbr (hc (4 + j) (by omega)))
      have s1 : ∀ wx, (Instr.sliceAt 25 (.slice (some ⟨b, off, none⟩) 8 (cap - s.k)) (some (.int .i64 4)) none none).run Tryz.prog wx = .ok (.slice (some ⟨b, off + 4, none⟩) 4 (cap - s.k - 4)) wx := fun wx => slice_from b off 8 (cap - s.k) 4 (by decide) (by omega) (by omega) wx
      have s2 : ∀ wx, (Instr.slice 25 (.slice (some ⟨b, off, none⟩) 8 (cap - s.k)) (some (.int .i64 4)) none none).run Tryz.prog wx = .ok (.slice (some ⟨b, off + 4, none⟩) 4 (cap - s.k - 4)) wx := fun wx => (run_sliceAt_slice wx _ _ _ _ _ hu27).symm.trans (s1 wx)
      clear h hc eA hE
      generalize be L s.k 8 = F at *
      generalize be L s.k 4 = A at *
      generalize be L (s.k + 4) 4 = B at *
      have hOR : bits .or .u64 ((A : Int) * 4294967296) (B : Int) = (F : Int) := by rw [word64 A B (by omega) (by omega), ← hB8]
      have hF : F < 18446744073709551616 := by omega
      have HFN := Hid.mk' (fin_any F · hF)
      have HSG := Hid.mk' (sign_any F · hF)
      generalize cap - s.k - 4 = c5 at *
      generalize cap - s.k = c4 at *
      clear hB8
      rcases (show ¬ F % 9223372036854775808 < 9218868437227405312 ∨ (F % 9223372036854775808 < 9218868437227405312 ∧ F % 9223372036854775808 ≠ 0) ∨ F = 0 ∨ F = 9223372036854775808 by omega) with hq | hq | hq | hq
      · have e1 : finN F = false := by unfold finN; rw [decide_eq_false hq]
        have e2 : finB F = false := by unfold finB; rw [e1]; rfl
        rw [e1] at HFN
        rw [e2, if_neg (by decide)]
        clear HSG hq e1 e2 hF
        go_enter Tryz.func33, Tryz.ntmps33
        go_wp2_with fail
        refine HS'.out.mono ?_
        rintro e w1 ⟨rfl, hw1⟩
        subst hw1
        go_wp2_with fail
        refine HNx.out.mono ?_
        rintro e w2 ⟨rfl, m, hw2⟩
        have HON : Hid (On w1 w2 T r a cap L s) := by show On _ _ _ _ _ _ _ _; rw [hw2]; exact HR.out.drew m
        clear hw2
        go_wp2
        go_quiet (first | (go_at_call 111; exact Calls.quiet_of (FX.out _ (HON.out.drew _).2 _ _ _ _ (by first | exact .inl ⟨rfl, rfl, rfl⟩ | exact .inr ⟨rfl, rfl, rfl⟩))) | fail)
        have HON2 := Hid.mk' (HON.out.drew nq)
        generalize w2.drewN nq = W at *
        have c1' := HON2.out.1.c1
        have f1' := HON2.out.1.fz 1
        clear FX HON
        go_wp2_with (first | (go_at_call 102; refine (HFN.out _).mono ?_; rintro e _ ⟨rfl, rfl⟩) | (go_at_call 112; refine (HSG.out _).mono ?_; rintro e _ ⟨rfl, rfl⟩) | fail)
        go_region_held3 (fun w' => w'.cell? ⟨r, 1, none⟩ = some (.int .i64 (s.k : Int))) (first | assumption | go_keep) (first
          | (go_at_call 106; refine (HK.out _ ?_).mono ?_; (first | exact HON2.out | exact HON2.out.drew _ | exact (HON2.out.drew _).drew 1); rintro e w3 ⟨rfl, ho⟩; have s1 := ho.1.c1; have HO2 := Hid.mk' ho; clear ho)
          | fail)
        go_wp2
        go_ret
        exact ⟨rfl, HO2.out⟩
      · have e1 : finN F = true := by unfold finN; rw [decide_eq_true hq.1]
        have e2 : finB F = true := by unfold finB; rw [e1, decide_eq_true (by omega)]; rfl
        rw [e1] at HFN
        rw [e2, if_pos rfl]
        have hfin : ffin F := by unfold ffin; omega
        have z : (FloatKind.f64.format.order F 0 == some .eq) = false := by
          have : (FloatKind.f64.format.order F 0 != some .eq) = true := ford_zero F hfin hq.2
          simpa [bne] using this
        clear HSG hq e1 e2 hF hfin
        go_enter Tryz.func33, Tryz.ntmps33
        go_wp2_with fail
        refine HS'.out.mono ?_
        rintro e w1 ⟨rfl, hw1⟩
        subst hw1
        go_wp2_with fail
        refine HNx.out.mono ?_
        rintro e w2 ⟨rfl, m, hw2⟩
        have HON : Hid (On w1 w2 T r a cap L s) := by show On _ _ _ _ _ _ _ _; rw [hw2]; exact HR.out.drew m
        clear hw2
        go_wp2
        go_quiet (first | (go_at_call 111; exact Calls.quiet_of (FX.out _ (HON.out.drew _).2 _ _ _ _ (by first | exact .inl ⟨rfl, rfl, rfl⟩ | exact .inr ⟨rfl, rfl, rfl⟩))) | fail)
        have HON2 := Hid.mk' (HON.out.drew nq)
        generalize w2.drewN nq = W at *
        have c1' := HON2.out.1.c1
        have f1' := HON2.out.1.fz 1
        clear FX HON
        have HO2 := Hid.mk' (HON2.out.set1 (s.k + 8) ((s.k : Int) + 8) (by omega) hk)
        go_wp2_with (first | (go_at_call 102; refine (HFN.out _).mono ?_; rintro e _ ⟨rfl, rfl⟩) | (go_at_call 112; refine (HSG.out _).mono ?_; rintro e _ ⟨rfl, rfl⟩) | fail)
        go_ret
        exact ⟨rfl, HO2.out⟩
      · have e1 : finN F = true := by subst hq; decide
        have e2 : finB F = true := by subst hq; decide
        rw [e1] at HFN
        rw [e2, if_pos rfl]
        have z : (FloatKind.f64.format.order F 0 == some .eq) = true := by subst hq; decide +kernel
        have e3 : decide (9223372036854775808 ≤ F) = false := by subst hq; decide
        rw [e3] at HSG
        clear hq e1 e2 hF e3
        go_enter Tryz.func33, Tryz.ntmps33
        go_wp2_with fail
        refine HS'.out.mono ?_
        rintro e w1 ⟨rfl, hw1⟩
        subst hw1
        go_wp2_with fail
        refine HNx.out.mono ?_
        rintro e w2 ⟨rfl, m, hw2⟩
        have HON : Hid (On w1 w2 T r a cap L s) := by show On _ _ _ _ _ _ _ _; rw [hw2]; exact HR.out.drew m
        clear hw2
        go_wp2
        go_quiet (first | (go_at_call 111; exact Calls.quiet_of (FX.out _ (HON.out.drew _).2 _ _ _ _ (by first | exact .inl ⟨rfl, rfl, rfl⟩ | exact .inr ⟨rfl, rfl, rfl⟩))) | fail)
        have HON2 := Hid.mk' (HON.out.drew nq)
        generalize w2.drewN nq = W at *
        have c1' := HON2.out.1.c1
        have f1' := HON2.out.1.fz 1
        clear FX HON
        have HO2 := Hid.mk' (HON2.out.set1 (s.k + 8) ((s.k : Int) + 8) (by omega) hk)
        go_wp2_with (first | (go_at_call 102; refine (HFN.out _).mono ?_; rintro e _ ⟨rfl, rfl⟩) | (go_at_call 112; refine (HSG.out _).mono ?_; rintro e _ ⟨rfl, rfl⟩) | fail)
        go_ret
        exact ⟨rfl, HO2.out⟩
      · have e1 : finN F = true := by subst hq; decide
        have e2 : finB F = false := by subst hq; decide
        rw [e1] at HFN
        rw [e2, if_neg (by decide)]
        have z : (FloatKind.f64.format.order F 0 == some .eq) = true := by subst hq; decide +kernel
        have e3 : decide (9223372036854775808 ≤ F) = true := by subst hq; decide
        rw [e3] at HSG
        clear hq e1 e2 hF e3
        go_enter Tryz.func33, Tryz.ntmps33
        go_wp2_with fail
        refine HS'.out.mono ?_
        rintro e w1 ⟨rfl, hw1⟩
        subst hw1
        go_wp2_with fail
        refine HNx.out.mono ?_
        rintro e w2 ⟨rfl, m, hw2⟩
        have HON : Hid (On w1 w2 T r a cap L s) := by show On _ _ _ _ _ _ _ _; rw [hw2]; exact HR.out.drew m
        clear hw2
        go_wp2
        go_quiet (first | (go_at_call 111; exact Calls.quiet_of (FX.out _ (HON.out.drew _).2 _ _ _ _ (by first | exact .inl ⟨rfl, rfl, rfl⟩ | exact .inr ⟨rfl, rfl, rfl⟩))) | fail)
        have HON2 := Hid.mk' (HON.out.drew nq)
        generalize w2.drewN nq = W at *
        have c1' := HON2.out.1.c1
        have f1' := HON2.out.1.fz 1
        clear FX HON
        go_wp2_with (first | (go_at_call 102; refine (HFN.out _).mono ?_; rintro e _ ⟨rfl, rfl⟩) | (go_at_call 112; refine (HSG.out _).mono ?_; rintro e _ ⟨rfl, rfl⟩) | fail)
        go_region_held3 (fun w' => w'.cell? ⟨r, 1, none⟩ = some (.int .i64 (s.k : Int))) (first | assumption | go_keep) (first
          | (go_at_call 106; refine (HK.out _ ?_).mono ?_; (first | exact HON2.out | exact HON2.out.drew _ | exact (HON2.out.drew _).drew 1); rintro e w3 ⟨rfl, ho⟩; have s1 := ho.1.c1; have HO2 := Hid.mk' ho; clear ho)
          | fail)
        go_wp2
        go_ret
        exact ⟨rfl, HO2.out⟩
    · have e0 : rFloat L s = (0, ⟨s.k, 20, L.length⟩) := by unfold rFloat; rw [if_pos hb, if_neg hk]
      rw [e0]
      clear e0
      have HNx : Hid (Calls Tryz.prog 109 #[.pointer (some ⟨r, 0, none⟩), .int .i64 8] w fun e w' => e = .returned (.tuple #[.slice none 0 0, .bool false]) ∧ On w w' T r a cap L ⟨s.k, 20, L.length⟩) := next_no 8 w h hb hk (by decide)
      clear h
      go_enter Tryz.func33, Tryz.ntmps33
      go_wp2_with fail
      refine HS'.out.mono ?_
      rintro e w1 ⟨rfl, hw1⟩
      subst hw1
      go_wp2_with fail
      refine HNx.out.mono ?_
      rintro e w2 ⟨rfl, ho⟩
      have HO := Hid.mk' ho
      clear ho
      go_wp2
      go_ret
      exact ⟨rfl, HO.out⟩
  · have HS' : Hid (Calls Tryz.prog 104 #[.pointer (some ⟨r, 0, none⟩)] w fun e w' => e = .returned (.bool true) ∧ w' = w) := by have := HS.out; rw [show decide (s.bad ≠ 0) = true by simp [hb]] at this; exact this
    have e0 : rFloat L s = (0, s) := by unfold rFloat; rw [if_neg hb]
    rw [e0]
    have HO := Hid.mk' h.on
    clear HS h e0
    go_enter Tryz.func33, Tryz.ntmps33
    go_wp2_with fail
    refine HS'.out.mono ?_
    rintro e w1 ⟨rfl, hw1⟩
    subst hw1
    go_wp2
    go_ret
    exact ⟨rfl, HO.out⟩
end Go.Proofs.YtgiblfhajiakgaaGreatDoor.K
