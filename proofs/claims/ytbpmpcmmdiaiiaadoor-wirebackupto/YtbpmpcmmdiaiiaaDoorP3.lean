import Derived.Test.YtbpmpcmmdiaiiaaDoorP2
import Derived.Test.YtbpmpcmmdiaiiaaDoorP0
import Derived.Test.YtbpmpcmmdiaiiaaDoorP1
import Derived.Deep.Cut
namespace Go.Proofs.YtbpmpcmmdiaiiaaDoor.K
open Go.RowKit
set_option linter.unusedVariables false
set_option linter.unusedSimpArgs false

/-- Bytes as a number, the highest first. -/
def be (L : List UInt8) (k : Nat) : Nat → Nat
  | 0 => 0
  | i + 1 => be L k i * 256 + (L.getD (k + i) 0).toNat
theorem or32_nat (a b : Nat) (ha : a < 4294967296) (hb : b < 4294967296) : bits .or .u32 (a : Int) (b : Int) = ((a ||| b : Nat) : Int) := by
  have hx : a ||| b < 2 ^ 32 := Nat.or_lt_two_pow (by omega) (by omega)
  have o : ∀ x : Nat, x < 4294967296 → (BitVec.ofInt 32 (x : Int)).toNat = x := fun x h => by
    rw [BitVec.toNat_ofInt]; omega
  show IntKind.u32.wrap ((BitVec.ofInt 32 (a : Int) ||| BitVec.ofInt 32 (b : Int)).toNat : Int) = _
  rw [BitVec.toNat_or, o a ha, o b hb]
  simp [IntKind.wrap, IntKind.bits, IntKind.signed]
  omega
theorem or_add (a b k : Nat) (h : b < 2 ^ k) : a * 2 ^ k ||| b = a * 2 ^ k + b := by
  rw [← Nat.shiftLeft_eq]
  exact (Nat.shiftLeft_add_eq_or_of_lt h a).symm
theorem word32 (b0 b1 b2 b3 : Nat) (h0 : b0 < 256) (h1 : b1 < 256) (h2 : b2 < 256) (h3 : b3 < 256) : bits .or .u32 (bits .or .u32 (bits .or .u32 ((b0 : Int) * 16777216) ((b1 : Int) * 65536)) ((b2 : Int) * 256)) (b3 : Int) = ((((b0 * 256 + b1) * 256 + b2) * 256 + b3 : Nat) : Int) := by
  rw [show (b0 : Int) * 16777216 = ((b0 * 2 ^ 24 : Nat) : Int) by omega, show (b1 : Int) * 65536 = ((b1 * 2 ^ 16 : Nat) : Int) by omega, show (b2 : Int) * 256 = ((b2 * 2 ^ 8 : Nat) : Int) by omega]
  rw [or32_nat _ _ (by omega) (by omega), or_add b0 (b1 * 2 ^ 16) 24 (by omega)]
  rw [or32_nat _ _ (by omega) (by omega), show b0 * 2 ^ 24 + b1 * 2 ^ 16 = (b0 * 2 ^ 8 + b1) * 2 ^ 16 by omega, or_add _ (b2 * 2 ^ 8) 16 (by omega)]
  rw [or32_nat _ _ (by omega) (by omega), show (b0 * 2 ^ 8 + b1) * 2 ^ 16 + b2 * 2 ^ 8 = ((b0 * 2 ^ 8 + b1) * 2 ^ 8 + b2) * 2 ^ 8 by omega, or_add _ b3 8 (by omega)]
theorem word64 (a b : Nat) (ha : a < 4294967296) (hb : b < 4294967296) : bits .or .u64 ((a : Int) * 4294967296) (b : Int) = ((a * 4294967296 + b : Nat) : Int) := by
  rw [show (a : Int) * 4294967296 = ((a * 2 ^ 32 : Nat) : Int) by omega, or64_nat _ _ (by omega) (by omega), or_add a b 32 (by omega)]
theorem be_lt (L : List UInt8) (k : Nat) : ∀ i, be L k i < 256 ^ i
  | 0 => by show 0 < 1; decide
  | i + 1 => by
    have := be_lt L k i
    have := (L.getD (k + i) 0).toNat_lt
    rw [Nat.pow_succ]
    show be L k i * 256 + _ < _
    omega
theorem be_8 (L : List UInt8) (k : Nat) : be L k 8 = be L k 4 * 4294967296 + be L (k + 4) 4 := by
  simp only [be, Nat.add_zero, Nat.zero_mul, Nat.zero_add, Nat.add_assoc, Nat.reduceAdd]
  omega
set_option maxRecDepth 100000 in
set_option maxHeartbeats 1000000 in
theorem fix_any (b off n cap : Nat) (L : List UInt8) (k : Nat) (w : World) (hn : 4 ≤ n) (hc : ∀ j, j < 4 → w.cell? ⟨b, off + j, none⟩ = some (.int .u8 (at8 L (k + j)))) :
    Calls Tryd.prog 65 #[.slice (some ⟨b, off, none⟩) n cap] w fun e w' => e = .returned (.int .u32 (be L k 4 : Int)) ∧ ∃ m, w' = w.drewN m := by
  have c0 := hc 0 (by omega)
  have c1 := hc 1 (by omega)
  have c2 := hc 2 (by omega)
  have c3 := hc 3 (by omega)
  rw [Nat.add_zero] at c0
  rw [Nat.add_zero] at c0
  unfold at8 at c0 c1 c2 c3
  have E : be L k 4 = (((L.getD k 0).toNat * 256 + (L.getD (k + 1) 0).toNat) * 256 + (L.getD (k + 2) 0).toNat) * 256 + (L.getD (k + 3) 0).toNat := by
    simp only [be, Nat.add_zero, Nat.zero_mul, Nat.zero_add]
  rw [E]
  have h0 := (L.getD k 0).toNat_lt
  have h1 := (L.getD (k + 1) 0).toNat_lt
  have h2 := (L.getD (k + 2) 0).toNat_lt
  have h3 := (L.getD (k + 3) 0).toNat_lt
  generalize (L.getD k 0).toNat = b0 at *
  generalize (L.getD (k + 1) 0).toNat = b1 at *
  generalize (L.getD (k + 2) 0).toNat = b2 at *
  generalize (L.getD (k + 3) 0).toNat = b3 at *
  clear E hc
  go_enter Tryd.func65, Tryd.ntmps65
  go_wp2
  go_quiet (fail)
  go_wp2
  go_ret
  exact ⟨ret_int (word32 b0 b1 b2 b3 h0 h1 h2 h3), _, rfl⟩

def finB (f : Nat) : Bool := finN f && decide (f ≠ 9223372036854775808)
def rFloat (L : List UInt8) (s : St) : Nat × St := if s.bad = 0 then (if s.k + 8 ≤ L.length then (if finB (be L s.k 8) = true then (be L s.k 8, ⟨s.k + 8, s.bad, s.wh⟩) else (0, ⟨s.k, 21, s.k⟩)) else (0, ⟨s.k, 20, L.length⟩)) else (0, s)
variable {T : TypeId} {r cap : Nat} {a : Option Addr} {L : List UInt8} {s : St}
set_option maxRecDepth 100000 in
set_option maxHeartbeats 2000000 in
theorem float_any (w : World) (h : RD w T r a cap L s) :
    Calls Tryd.prog 27 #[.pointer (some ⟨r, 0, none⟩)] w fun e w' => e = .returned (.float .f64 (rFloat L s).1) ∧ On w w' T r a cap L (rFloat L s).2 := by
  have HS : Hid (Calls Tryd.prog 58 #[.pointer (some ⟨r, 0, none⟩)] w fun e w' => e = .returned (.bool (decide (s.bad ≠ 0))) ∧ w' = w) := stopped_any w h
  by_cases hb : s.bad = 0
  · have HS' : Hid (Calls Tryd.prog 58 #[.pointer (some ⟨r, 0, none⟩)] w fun e w' => e = .returned (.bool false) ∧ w' = w) := by have := HS.out; rw [show decide (s.bad ≠ 0) = false by simp [hb]] at this; exact this
    clear HS
    by_cases hk : s.k + 8 ≤ L.length
    · have HNx : Hid (Calls Tryd.prog 63 #[.pointer (some ⟨r, 0, none⟩), .int .i64 8] w fun e w' => e = .returned (.tuple #[.slice (from23 a cap s.k) 8 (cap - s.k), .bool true]) ∧ ∃ m, w' = w.drewN m) := next_ok 8 w h hk
      have HK := Hid.mk' (keep_on (a := a) (cap := cap) (L := L) (T := T) (r := r) w hb 21 (s.k : Int) (by decide))
      have HR := Hid.mk' h.on
      have hf := h.few
      have hrm := h.room
      rcases h.cells with hz | ⟨b, off, eA, hlt, hbr, hc⟩
      · omega
      rw [eA] at HNx
      have hE : rFloat L s = (if finB (be L s.k 8) = true then (be L s.k 8, ⟨s.k + 8, s.bad, s.wh⟩) else (0, ⟨s.k, 21, s.k⟩)) := by unfold rFloat; rw [if_pos hb, if_pos hk]
      rw [hE]
      have hB8 := be_8 L s.k
      have hA4 := be_lt L s.k 4
      have hB4 := be_lt L (s.k + 4) 4
      have FX : Hid (∀ wx, Fr r w wx → ∀ off' n c v, (off' = off ∧ n = 8 ∧ v = be L s.k 4 ∨ off' = off + 4 ∧ n = 4 ∧ v = be L (s.k + 4) 4) → Calls Tryd.prog 65 #[.slice (some ⟨b, off', none⟩) n c] wx fun e w' => e = .returned (.int .u32 (v : Int)) ∧ ∃ m, w' = wx.drewN m) := fun wx hx off' n c v ho => by
        rcases ho with ⟨rfl, rfl, rfl⟩ | ⟨rfl, rfl, rfl⟩
        · exact fix_any b off' 8 c L s.k wx (by decide) (fun j hj => hx.cell (p := ⟨b, off' + j, none⟩) hbr (hc j (by omega)))
        · exact fix_any b (off + 4) 4 c L (s.k + 4) wx (by decide) (fun j hj => by
            rw [Nat.add_assoc, Nat.add_assoc]
            exact hx.cell (p := ⟨b, off + (4 + j), none⟩) hbr (hc (4 + j) (by omega)))
      have s1 : ∀ wx, (Instr.sliceAt 29 (.slice (some ⟨b, off, none⟩) 8 (cap - s.k)) (some (.int .i64 4)) none none).run Tryd.prog wx = .ok (.slice (some ⟨b, off + 4, none⟩) 4 (cap - s.k - 4)) wx := fun wx => slice_from b off 8 (cap - s.k) 4 (by decide) (by omega) (by omega) wx
      have s2 : ∀ wx, (Instr.slice 29 (.slice (some ⟨b, off, none⟩) 8 (cap - s.k)) (some (.int .i64 4)) none none).run Tryd.prog wx = .ok (.slice (some ⟨b, off + 4, none⟩) 4 (cap - s.k - 4)) wx := fun wx => (run_sliceAt_slice wx _ _ _ _ _ hu27).symm.trans (s1 wx)
      clear h hc eA hE
      generalize be L s.k 8 = F at *
      generalize be L s.k 4 = A at *
      generalize be L (s.k + 4) 4 = B at *
      have hOR : bits .or .u64 ((A : Int) * 4294967296) (B : Int) = (F : Int) := by rw [word64 A B (by omega) (by omega), ← hB8]
      have hF : F < 18446744073709551616 := by omega
      have HFN := Hid.mk' (fin_any F · hF)
      have HSG := Hid.mk' (sign_any F · hF)
      generalize cap - s.k - 4 = c5 at *
      generalize cap - s.k = c4 at *
      clear hB8
      rcases (show ¬ F % 9223372036854775808 < 9218868437227405312 ∨ (F % 9223372036854775808 < 9218868437227405312 ∧ F % 9223372036854775808 ≠ 0) ∨ F = 0 ∨ F = 9223372036854775808 by omega) with hq | hq | hq | hq
      · have e1 : finN F = false := by unfold finN; rw [decide_eq_false hq]
        have e2 : finB F = false := by unfold finB; rw [e1]; rfl
        rw [e1] at HFN
        rw [e2, if_neg (by decide)]
        clear HSG hq e1 e2 hF
        go_enter Tryd.func27, Tryd.ntmps27
        go_wp2_with fail
        refine HS'.out.mono ?_
        rintro e w1 ⟨rfl, hw1⟩
        subst hw1
        go_wp2_with fail
        refine HNx.out.mono ?_
        rintro e w2 ⟨rfl, m, hw2⟩
        have HON : Hid (On w1 w2 T r a cap L s) := by show On _ _ _ _ _ _ _ _; rw [hw2]; exact HR.out.drew m
        clear hw2
        go_wp2
        go_quiet (first | (go_at_call 65; exact Calls.quiet_of (FX.out _ (HON.out.drew _).2 _ _ _ _ (by first | exact .inl ⟨rfl, rfl, rfl⟩ | exact .inr ⟨rfl, rfl, rfl⟩))) | fail)
        have HON2 := Hid.mk' (HON.out.drew nq)
        generalize w2.drewN nq = W at *
        have c1' := HON2.out.1.c1
        have f1' := HON2.out.1.fz 1
        clear FX HON
        go_wp2_with (first | (go_at_call 56; refine (HFN.out _).mono ?_; rintro e _ ⟨rfl, rfl⟩) | (go_at_call 66; refine (HSG.out _).mono ?_; rintro e _ ⟨rfl, rfl⟩) | fail)
        go_region_held3 (fun w' => w'.cell? ⟨r, 1, none⟩ = some (.int .i64 (s.k : Int))) (first | assumption | go_keep) (first
          | (go_at_call 60; refine (HK.out _ ?_).mono ?_; (first | exact HON2.out | exact HON2.out.drew _ | exact (HON2.out.drew _).drew 1); rintro e w3 ⟨rfl, ho⟩; have s1 := ho.1.c1; have HO2 := Hid.mk' ho; clear ho)
          | fail)
        go_wp2
        go_ret
        exact ⟨rfl, HO2.out⟩
      · have e1 : finN F = true := by unfold finN; rw [decide_eq_true hq.1]
        have e2 : finB F = true := by unfold finB; rw [e1, decide_eq_true (by omega)]; rfl
        rw [e1] at HFN
        rw [e2, if_pos rfl]
        have hfin : ffin F := by unfold ffin; omega
        have z : (FloatKind.f64.format.order F 0 == some .eq) = false := by
          have : (FloatKind.f64.format.order F 0 != some .eq) = true := ford_zero F hfin hq.2
          simpa [bne] using this
        clear HSG hq e1 e2 hF hfin
        go_enter Tryd.func27, Tryd.ntmps27
        go_wp2_with fail
        refine HS'.out.mono ?_
        rintro e w1 ⟨rfl, hw1⟩
        subst hw1
        go_wp2_with fail
        refine HNx.out.mono ?_
        rintro e w2 ⟨rfl, m, hw2⟩
        have HON : Hid (On w1 w2 T r a cap L s) := by show On _ _ _ _ _ _ _ _; rw [hw2]; exact HR.out.drew m
        clear hw2
        go_wp2
        go_quiet (first | (go_at_call 65; exact Calls.quiet_of (FX.out _ (HON.out.drew _).2 _ _ _ _ (by first | exact .inl ⟨rfl, rfl, rfl⟩ | exact .inr ⟨rfl, rfl, rfl⟩))) | fail)
        have HON2 := Hid.mk' (HON.out.drew nq)
        generalize w2.drewN nq = W at *
        have c1' := HON2.out.1.c1
        have f1' := HON2.out.1.fz 1
        clear FX HON
        have HO2 := Hid.mk' (HON2.out.set1 (s.k + 8) ((s.k : Int) + 8) (by omega) hk)
        go_wp2_with (first | (go_at_call 56; refine (HFN.out _).mono ?_; rintro e _ ⟨rfl, rfl⟩) | (go_at_call 66; refine (HSG.out _).mono ?_; rintro e _ ⟨rfl, rfl⟩) | fail)
        go_ret
        exact ⟨rfl, HO2.out⟩
      · have e1 : finN F = true := by subst hq; decide
        have e2 : finB F = true := by subst hq; decide
        rw [e1] at HFN
        rw [e2, if_pos rfl]
        have z : (FloatKind.f64.format.order F 0 == some .eq) = true := by subst hq; decide +kernel
        have e3 : decide (9223372036854775808 ≤ F) = false := by subst hq; decide
        rw [e3] at HSG
        clear hq e1 e2 hF e3
        go_enter Tryd.func27, Tryd.ntmps27
        go_wp2_with fail
        refine HS'.out.mono ?_
        rintro e w1 ⟨rfl, hw1⟩
        subst hw1
        go_wp2_with fail
        refine HNx.out.mono ?_
        rintro e w2 ⟨rfl, m, hw2⟩
        have HON : Hid (On w1 w2 T r a cap L s) := by show On _ _ _ _ _ _ _ _; rw [hw2]; exact HR.out.drew m
        clear hw2
        go_wp2
        go_quiet (first | (go_at_call 65; exact Calls.quiet_of (FX.out _ (HON.out.drew _).2 _ _ _ _ (by first | exact .inl ⟨rfl, rfl, rfl⟩ | exact .inr ⟨rfl, rfl, rfl⟩))) | fail)
        have HON2 := Hid.mk' (HON.out.drew nq)
        generalize w2.drewN nq = W at *
        have c1' := HON2.out.1.c1
        have f1' := HON2.out.1.fz 1
        clear FX HON
        have HO2 := Hid.mk' (HON2.out.set1 (s.k + 8) ((s.k : Int) + 8) (by omega) hk)
        go_wp2_with (first | (go_at_call 56; refine (HFN.out _).mono ?_; rintro e _ ⟨rfl, rfl⟩) | (go_at_call 66; refine (HSG.out _).mono ?_; rintro e _ ⟨rfl, rfl⟩) | fail)
        go_ret
        exact ⟨rfl, HO2.out⟩
      · have e1 : finN F = true := by subst hq; decide
        have e2 : finB F = false := by subst hq; decide
        rw [e1] at HFN
        rw [e2, if_neg (by decide)]
        have z : (FloatKind.f64.format.order F 0 == some .eq) = true := by subst hq; decide +kernel
        have e3 : decide (9223372036854775808 ≤ F) = true := by subst hq; decide
        rw [e3] at HSG
        clear hq e1 e2 hF e3
        go_enter Tryd.func27, Tryd.ntmps27
        go_wp2_with fail
        refine HS'.out.mono ?_
        rintro e w1 ⟨rfl, hw1⟩
        subst hw1
        go_wp2_with fail
        refine HNx.out.mono ?_
        rintro e w2 ⟨rfl, m, hw2⟩
        have HON : Hid (On w1 w2 T r a cap L s) := by show On _ _ _ _ _ _ _ _; rw [hw2]; exact HR.out.drew m
        clear hw2
        go_wp2
        go_quiet (first | (go_at_call 65; exact Calls.quiet_of (FX.out _ (HON.out.drew _).2 _ _ _ _ (by first | exact .inl ⟨rfl, rfl, rfl⟩ | exact .inr ⟨rfl, rfl, rfl⟩))) | fail)
        have HON2 := Hid.mk' (HON.out.drew nq)
        generalize w2.drewN nq = W at *
        have c1' := HON2.out.1.c1
        have f1' := HON2.out.1.fz 1
        clear FX HON
        go_wp2_with (first | (go_at_call 56; refine (HFN.out _).mono ?_; rintro e _ ⟨rfl, rfl⟩) | (go_at_call 66; refine (HSG.out _).mono ?_; rintro e _ ⟨rfl, rfl⟩) | fail)
        go_region_held3 (fun w' => w'.cell? ⟨r, 1, none⟩ = some (.int .i64 (s.k : Int))) (first | assumption | go_keep) (first
          | (go_at_call 60; refine (HK.out _ ?_).mono ?_; (first | exact HON2.out | exact HON2.out.drew _ | exact (HON2.out.drew _).drew 1); rintro e w3 ⟨rfl, ho⟩; have s1 := ho.1.c1; have HO2 := Hid.mk' ho; clear ho)
          | fail)
        go_wp2
        go_ret
        exact ⟨rfl, HO2.out⟩
    · have e0 : rFloat L s = (0, ⟨s.k, 20, L.length⟩) := by unfold rFloat; rw [if_pos hb, if_neg hk]
      rw [e0]
      clear e0
      have HNx : Hid (Calls Tryd.prog 63 #[.pointer (some ⟨r, 0, none⟩), .int .i64 8] w fun e w' => e = .returned (.tuple #[.slice none 0 0, .bool false]) ∧ On w w' T r a cap L ⟨s.k, 20, L.length⟩) := next_no 8 w h hb hk (by decide)
      clear h
      go_enter Tryd.func27, Tryd.ntmps27
      go_wp2_with fail
      refine HS'.out.mono ?_
      rintro e w1 ⟨rfl, hw1⟩
      subst hw1
      go_wp2_with fail
      refine HNx.out.mono ?_
      rintro e w2 ⟨rfl, ho⟩
      have HO := Hid.mk' ho
      clear ho
      go_wp2
      go_ret
      exact ⟨rfl, HO.out⟩
  · have HS' : Hid (Calls Tryd.prog 58 #[.pointer (some ⟨r, 0, none⟩)] w fun e w' => e = .returned (.bool true) ∧ w' = w) := by have := HS.out; rw [show decide (s.bad ≠ 0) = true by simp [hb]] at this; exact this
    have e0 : rFloat L s = (0, s) := by unfold rFloat; rw [if_neg hb]
    rw [e0]
    have HO := Hid.mk' h.on
    clear HS h e0
    go_enter Tryd.func27, Tryd.ntmps27
    go_wp2_with fail
    refine HS'.out.mono ?_
    rintro e w1 ⟨rfl, hw1⟩
    subst hw1
    go_wp2
    go_ret
    exact ⟨rfl, HO.out⟩
end Go.Proofs.YtbpmpcmmdiaiiaaDoor.K

namespace Go.Proofs.YtbpmpcmmdiaiiaaDoor.K
open Go.RowKit
set_option linter.unusedVariables false
set_option linter.unusedSimpArgs false

def b8 (f : Nat) : List UInt8 := b4 (f / 4294967296) ++ b4 (f % 4294967296)
variable {p : Nat} {g : Option Nat} {M : List UInt8} {e : Int}
theorem WS.glt {w : World} {T : TypeId} (h : WS w T p g M e) {k : Nat} (hk : g = some k) : k < w.heap.size := by
  obtain ⟨v, h1, h2, h3⟩ := h.ex
  exact (World.ownsRow.lt h2 k (h3.trans hk)).2
theorem wfix_wr (w : World) (hsum : M.length + 64 ≤ 140737488355328) (n : Nat) (hn : n < 4294967296) (v : Int) (hv : v = (n : Int)) (P : List UInt8) (hP : P.length ≤ 50) (wx : World) (hx : Wr w wx 50 p g (wA M e P) e) : Calls Tryd.prog 30 #[.pointer (some ⟨p, 0, none⟩), .int .u32 v] wx fun x w' => x = .returned (.tuple #[]) ∧ Wr w w' 50 p g (wA M e (P ++ b4 n)) e := by
  subst hv
  obtain ⟨g1, ws, fr, nw⟩ := hx
  refine (wfix_any n hn wx ws (by have := wA_len M e P; omega)).mono fun x w' h => ?_
  rw [wA_wA] at h
  exact ⟨h.1, Wr.step fr nw h.2⟩
set_option maxRecDepth 100000 in
set_option maxHeartbeats 1000000 in
theorem wfloat_any (f : Nat) (hf : f < 18446744073709551616) (hfin : finB f = true) (w : World) (hw : WS w 50 p g M e) (hsum : M.length + 64 ≤ 140737488355328) :
    Calls Tryd.prog 23 #[.pointer (some ⟨p, 0, none⟩), .float .f64 f] w fun x w' => x = .returned (.tuple #[]) ∧ Wr w w' 50 p g (wA M e (b8 f)) e := by
  have HFX := Hid.mk' (fun (n : Nat) (hn : n < 4294967296) (v : Int) (hv : v = (n : Int)) (P : List UInt8) (hP : P.length ≤ 50) (wx : World) hx => wfix_wr (p := p) (g := g) (M := M) (e := e) w hsum n hn v hv P hP wx hx)
  have h0 : Hid (Wr w w 50 p g (wA M e []) e) := by show Wr _ _ _ _ _ _ _; rw [wA_nil]; exact hw.wr
  have h1 : finN f = true := by unfold finB at hfin; simp at hfin; exact hfin.1
  have h2 : f ≠ 9223372036854775808 := by unfold finB at hfin; simp at hfin; exact hfin.2
  have HF := Hid.mk' (fun (wx : World) => fin_any f wx hf)
  rw [h1] at HF
  have hff : ffin f := by unfold finN at h1; unfold ffin; simp at h1; omega
  clear hw hsum hfin h1
  by_cases hz : f = 0
  · subst hz
    have z : (FloatKind.f64.format.order 0 0 == some .eq) = true := by decide +kernel
    go_enter Tryd.func23, Tryd.ntmps23
    go_wp2_with fail
    refine (HF.out _).mono ?_
    rintro x w1 ⟨rfl, hw1⟩
    subst hw1
    go_wp2_with fail
    refine (HFX.out 0 (by decide) _ (by first | rfl | omega) [] (by decide) _ h0.out).mono ?_
    rintro x w2 ⟨rfl, a2⟩
    have A2 := Hid.mk' a2
    clear a2
    go_wp2_with fail
    refine (HFX.out 0 (by decide) _ (by first | rfl | omega) _ (by simp [b4]) _ A2.out).mono ?_
    rintro x w3 ⟨rfl, a3⟩
    have A3 := Hid.mk' a3
    clear a3
    go_wp2
    go_end0
    exact ⟨rfl, A3.out⟩
  · have z : (FloatKind.f64.format.order f 0 == some .eq) = false := by
      have : (FloatKind.f64.format.order f 0 != some .eq) = true := ford_zero f hff (by omega)
      simpa [bne] using this
    go_enter Tryd.func23, Tryd.ntmps23
    go_wp2_with fail
    refine (HF.out _).mono ?_
    rintro x w1 ⟨rfl, hw1⟩
    subst hw1
    go_wp2_with fail
    refine (HFX.out (f / 4294967296) (by omega) _ (by first | rfl | omega | (simp only [IntKind.wrap_u32]; omega)) [] (by decide) _ h0.out).mono ?_
    rintro x w2 ⟨rfl, a2⟩
    have A2 := Hid.mk' a2
    clear a2
    go_wp2_with fail
    refine (HFX.out (f % 4294967296) (by omega) _ (by first | rfl | omega | (simp only [IntKind.wrap_u32]; omega)) _ (by simp [b4]) _ A2.out).mono ?_
    rintro x w3 ⟨rfl, a3⟩
    have A3 := Hid.mk' a3
    clear a3
    go_wp2
    go_end0
    exact ⟨rfl, A3.out⟩
end Go.Proofs.YtbpmpcmmdiaiiaaDoor.K

namespace Go.Proofs.YtbpmpcmmdiaiiaaDoor.K
open Go.RowKit
set_option linter.unusedVariables false
set_option linter.unusedSimpArgs false

/-! A nil Writer. -/
set_option maxRecDepth 100000 in
theorem nadd (a : Option Addr) (len cap : Nat) (w : World) :
    Calls Tryd.prog 54 #[.pointer none, .slice a len cap] w fun x w' => x = .returned (.tuple #[]) ∧ w' = w := by
  go_enter Tryd.func54, Tryd.ntmps54
  go_wp2
  exact bodyPost_ret (results_none Tryd.results54 _ _ _) rfl ⟨rfl, rfl⟩
set_option maxRecDepth 100000 in
theorem nbyte (v : Int) (w : World) :
    Calls Tryd.prog 28 #[.pointer none, .int .u8 v] w fun x w' => x = .returned (.tuple #[]) ∧ Below w.heap.size w w' := by
  have be : Below w.heap.size w (w.alloc (.cells #[.int .u8 v] 5)) := (Below.refl _ _).alloc (Nat.le_refl _) _
  go_enter Tryd.func28, Tryd.ntmps28
  go_wp2_with fail
  refine (nadd _ _ _ _).mono ?_
  rintro x w1 ⟨rfl, h1⟩
  rw [← h1] at be
  clear h1
  go_wp2
  go_end0
  exact ⟨rfl, be⟩
set_option maxRecDepth 100000 in
theorem nbool (b : Bool) (w : World) :
    Calls Tryd.prog 29 #[.pointer none, .bool b] w fun x w' => x = .returned (.tuple #[]) ∧ Below w.heap.size w w' := by
  have be : ∀ v, Below w.heap.size w (w.alloc (.cells #[.int .u8 v] 5)) := fun v => (Below.refl _ _).alloc (Nat.le_refl _) _
  cases b
  · go_enter Tryd.func29, Tryd.ntmps29
    go_wp2_with fail
    refine (nadd _ _ _ _).mono ?_
    rintro x w1 ⟨rfl, h1⟩
    have be := be 0
    rw [← h1] at be
    clear h1
    go_wp2
    go_end0
    exact ⟨rfl, be⟩
  · go_enter Tryd.func29, Tryd.ntmps29
    go_wp2_with fail
    refine (nadd _ _ _ _).mono ?_
    rintro x w1 ⟨rfl, h1⟩
    have be := be 1
    rw [← h1] at be
    clear h1
    go_wp2
    go_end0
    exact ⟨rfl, be⟩
set_option maxRecDepth 100000 in
theorem nfix (v : Int) (h0 : 0 ≤ v) (h1 : v < 4294967296) (w : World) :
    Calls Tryd.prog 30 #[.pointer none, .int .u32 v] w fun x w' => x = .returned (.tuple #[]) ∧ Below w.heap.size w w' := by
  have be : Hid (∀ c : Array Value, Below w.heap.size w (w.alloc (.cells c 5))) := fun c => (Below.refl _ _).alloc (Nat.le_refl _) _
  go_enter Tryd.func30, Tryd.ntmps30
  go_wp2_with fail
  refine (nadd _ _ _ _).mono ?_
  rintro x w1 ⟨rfl, h1⟩
  have be : Below w.heap.size w w1 := by rw [h1]; exact be.out _
  clear h1
  go_wp2
  go_end0
  exact ⟨rfl, be⟩
set_option maxRecDepth 100000 in
set_option maxHeartbeats 1000000 in
theorem nuint (v : Nat) (hv : v < 18446744073709551616) (w : World) :
    Calls Tryd.prog 20 #[.pointer none, .int .u64 (v : Int)] w fun x w' => x = .returned (.tuple #[]) ∧ Below w.heap.size w w' := by
  go_enter Tryd.func20, Tryd.ntmps20
  go_wp2_with fail
  go_loopw [1] (fun x wr => ∃ (n : Nat), x = .int .u64 (n : Int) ∧ n < 18446744073709551616 ∧ Hid (Below w.heap.size w wr)) (fun x _ => (intOf x).toNat)
  case atStart => exact ⟨v, rfl, hv, Hid.mk' (Below.refl _ _)⟩
  case round =>
    obtain ⟨n, rfl, hn, HW⟩ := hrel
    have be : Hid (∀ c : Array Value, Below w.heap.size w (wr.alloc (.cells c 5))) := fun c => HW.out.alloc HW.out.size _
    by_cases hlt : n < 128
    · have hlt' : (n : Int) < 128 := by omega
      go_wp2_with fail
      refine (nadd _ _ _ _).mono ?_
      rintro x w1 ⟨rfl, h1⟩
      have be : Below w.heap.size w w1 := by rw [h1]; exact be.out _
      clear h1
      go_wp2
      go_end0
      exact ⟨rfl, be⟩
    · have hlt' : ¬ (n : Int) < 128 := by omega
      go_wp2_with fail
      refine (nadd _ _ _ _).mono ?_
      rintro x w1 ⟨rfl, h1⟩
      have be : Below w.heap.size w w1 := by rw [h1]; exact be.out _
      clear h1
      go_wp2
      exact ⟨⟨n / 128, by first | rfl | (congr 1; omega), by omega, Hid.mk' be⟩, by simp [intOf]; omega⟩
set_option maxRecDepth 100000 in
set_option maxHeartbeats 1000000 in
theorem nint (n : Int) (h0 : -9223372036854775808 ≤ n) (h1 : n < 9223372036854775808) (w : World) :
    Calls Tryd.prog 21 #[.pointer none, .int .i64 n] w fun x w' => x = .returned (.tuple #[]) ∧ Below w.heap.size w w' := by
  have hz : zig n < 18446744073709551616 := by unfold zig; split <;> omega
  have H : Hid (∀ v : Int, v = (zig n : Int) → Calls Tryd.prog 20 #[.pointer none, .int .u64 v] w fun x w' => x = .returned (.tuple #[]) ∧ Below w.heap.size w w') := fun v hv => by rw [hv]; exact nuint (zig n) hz w
  by_cases hn : n < 0
  · go_enter Tryd.func21, Tryd.ntmps21
    go_wp2_with fail
    refine (H.out _ ?_).mono ?_
    · have hw : IntKind.u64.wrap (IntKind.u64.wrap n * 2) = ((18446744073709551615 - zig n : Nat) : Int) := by
        rw [IntKind.wrap_u64, IntKind.wrap_u64]
        unfold zig
        rw [if_pos hn]
        omega
      rw [hw, not64n _ (by omega)]
      omega
    rintro x w1 ⟨rfl, ho⟩
    go_wp2
    go_end0
    exact ⟨rfl, ho⟩
  · go_enter Tryd.func21, Tryd.ntmps21
    go_wp2_with fail
    refine (H.out _ ?_).mono ?_
    · unfold zig
      rw [if_neg (by omega)]
      omega
    rintro x w1 ⟨rfl, ho⟩
    go_wp2
    go_end0
    exact ⟨rfl, ho⟩
set_option maxRecDepth 100000 in
theorem nfail (c : Int) (w : World) :
    Calls Tryd.prog 38 #[.pointer none, .int .i64 c] w fun x w' => x = .returned (.tuple #[]) ∧ w' = w := by
  go_enter Tryd.func38, Tryd.ntmps38
  go_wp2
  go_end0
  exact ⟨rfl, rfl⟩
set_option maxRecDepth 100000 in
theorem nlen (w : World) :
    Calls Tryd.prog 8 #[.pointer none] w fun x w' => x = .returned (.int .i64 0) ∧ w' = w := by
  go_enter Tryd.func8, Tryd.ntmps8
  go_wp2
  go_ret
  exact ⟨rfl, rfl⟩
set_option maxRecDepth 100000 in
theorem ndone (w : World) :
    Calls Tryd.prog 9 #[.pointer none] w fun x w' => x = .returned (.tuple #[.slice none 0 0, .int .i64 1]) ∧ w' = w := by
  go_enter Tryd.func9, Tryd.ntmps9
  go_wp2
  go_ret2
  exact ⟨rfl, rfl⟩
set_option maxRecDepth 100000 in
set_option maxHeartbeats 1000000 in
theorem nfloat (f : Nat) (hf : f < 18446744073709551616) (w : World) :
    Calls Tryd.prog 23 #[.pointer none, .float .f64 f] w fun x w' => x = .returned (.tuple #[]) ∧ Below w.heap.size w w' := by
  have HF := Hid.mk' (fun (wx : World) => fin_any f wx hf)
  have HX := Hid.mk' (fun (v : Int) (h0 : 0 ≤ v) (h1 : v < 4294967296) (w : World) => nfix v h0 h1 w)
  by_cases h1 : finN f = true
  · rw [h1] at HF
    by_cases z : (FloatKind.f64.format.order f 0 == some .eq) = true
    · go_enter Tryd.func23, Tryd.ntmps23
      go_wp2_with fail
      refine (HF.out _).mono ?_
      rintro x w1 ⟨rfl, hw1⟩
      subst hw1
      go_wp2_with fail
      refine (HX.out _ (by decide) (by decide) _).mono ?_
      rintro x w2 ⟨rfl, a2⟩
      go_wp2_with fail
      refine (HX.out _ (by decide) (by decide) _).mono ?_
      rintro x w3 ⟨rfl, a3⟩
      have A3 := Hid.mk' (a2.trans (a3.mono a2.size))
      clear a2 a3
      go_wp2
      go_end0
      exact ⟨rfl, A3.out⟩
    · have z : (FloatKind.f64.format.order f 0 == some .eq) = false := by simpa using z
      go_enter Tryd.func23, Tryd.ntmps23
      go_wp2_with fail
      refine (HF.out _).mono ?_
      rintro x w1 ⟨rfl, hw1⟩
      subst hw1
      go_wp2_with fail
      refine (HX.out _ (by first | omega | (simp only [IntKind.wrap_u32]; omega)) (by first | omega | (simp only [IntKind.wrap_u32]; omega)) _).mono ?_
      rintro x w2 ⟨rfl, a2⟩
      go_wp2_with fail
      refine (HX.out _ (by first | omega | (simp only [IntKind.wrap_u32]; omega)) (by first | omega | (simp only [IntKind.wrap_u32]; omega)) _).mono ?_
      rintro x w3 ⟨rfl, a3⟩
      have A3 := Hid.mk' (a2.trans (a3.mono a2.size))
      clear a2 a3
      go_wp2
      go_end0
      exact ⟨rfl, A3.out⟩
  · have h1 : finN f = false := by simpa using h1
    rw [h1] at HF
    go_enter Tryd.func23, Tryd.ntmps23
    go_wp2_with fail
    refine (HF.out _).mono ?_
    rintro x w1 ⟨rfl, hw1⟩
    subst hw1
    go_wp2_with fail
    refine (nfail _ _).mono ?_
    rintro x w2 ⟨rfl, hw2⟩
    subst hw2
    go_wp2
    exact bodyPost_ret (results_none Tryd.results23 _ _ _) rfl ⟨rfl, Below.refl _ _⟩
set_option maxRecDepth 100000 in
theorem nraw (a : Option Addr) (len cap : Nat) (hl : len < 18446744073709551616) (w : World) :
    Calls Tryd.prog 32 #[.pointer none, .slice a len cap] w fun x w' => x = .returned (.tuple #[]) ∧ Below w.heap.size w w' := by
  have H := Hid.mk' (nuint len hl)
  have hl2 : (len : Int) < 18446744073709551616 := by omega
  go_enter Tryd.func32, Tryd.ntmps32
  go_wp2_with fail
  refine (H.out _).mono ?_
  rintro x w1 ⟨rfl, a1⟩
  have A1 := Hid.mk' a1
  clear a1
  go_wp2_with fail
  refine (nadd _ _ _ _).mono ?_
  rintro x w2 ⟨rfl, h2⟩
  subst h2
  go_wp2
  go_end0
  exact ⟨rfl, A1.out⟩
end Go.Proofs.YtbpmpcmmdiaiiaaDoor.K

namespace Go.Proofs.YtbpmpcmmdiaiiaaDoor
open Go.RowKit
set_option linter.unusedVariables false
set_option linter.unusedSimpArgs false

/-! A nil Reader. -/
set_option maxRecDepth 100000 in
theorem nstop (w : World) : Calls Tryd.prog 58 #[.pointer none] w fun x w' => x = .returned (.bool true) ∧ w' = w := by
  go_enter Tryd.func58, Tryd.ntmps58
  go_wp2
  go_ret
  exact ⟨rfl, rfl⟩
set_option maxRecDepth 100000 in
theorem nrbyte (w : World) : Calls Tryd.prog 42 #[.pointer none] w fun x w' => x = .returned (.int .u8 0) ∧ w' = w := by
  go_enter Tryd.func42, Tryd.ntmps42
  go_wp2_with fail
  refine (nstop _).mono ?_
  rintro x w1 ⟨rfl, h1⟩
  subst h1
  go_wp2
  go_ret
  exact ⟨rfl, rfl⟩
set_option maxRecDepth 100000 in
theorem nrbool (w : World) : Calls Tryd.prog 43 #[.pointer none] w fun x w' => x = .returned (.bool false) ∧ w' = w := by
  go_enter Tryd.func43, Tryd.ntmps43
  go_wp2_with fail
  refine (nstop _).mono ?_
  rintro x w1 ⟨rfl, h1⟩
  subst h1
  go_wp2
  go_ret
  exact ⟨rfl, rfl⟩
set_option maxRecDepth 100000 in
theorem nrfix (w : World) : Calls Tryd.prog 44 #[.pointer none] w fun x w' => x = .returned (.int .u32 0) ∧ w' = w := by
  go_enter Tryd.func44, Tryd.ntmps44
  go_wp2_with fail
  refine (nstop _).mono ?_
  rintro x w1 ⟨rfl, h1⟩
  subst h1
  go_wp2
  go_ret
  exact ⟨rfl, rfl⟩
set_option maxRecDepth 100000 in
theorem nruint (m : Int) (w : World) : Calls Tryd.prog 24 #[.pointer none, .int .u64 m] w fun x w' => x = .returned (.int .u64 0) ∧ w' = w := by
  go_enter Tryd.func24, Tryd.ntmps24
  go_wp2_with fail
  refine (nstop _).mono ?_
  rintro x w1 ⟨rfl, h1⟩
  subst h1
  go_wp2
  go_ret
  exact ⟨rfl, rfl⟩
set_option maxRecDepth 100000 in
theorem nrfloat (w : World) : Calls Tryd.prog 27 #[.pointer none] w fun x w' => x = .returned (.float .f64 0) ∧ w' = w := by
  go_enter Tryd.func27, Tryd.ntmps27
  go_wp2_with fail
  refine (nstop _).mono ?_
  rintro x w1 ⟨rfl, h1⟩
  subst h1
  go_wp2
  go_ret
  exact ⟨rfl, rfl⟩
set_option maxRecDepth 100000 in
theorem nrtext (m : Int) (w : World) : Calls Tryd.prog 26 #[.pointer none, .int .i64 m] w fun x w' => x = .returned (.string ⟨#[]⟩) ∧ w' = w := by
  go_enter Tryd.func26, Tryd.ntmps26
  go_wp2_with fail
  refine (nstop _).mono ?_
  rintro x w1 ⟨rfl, h1⟩
  subst h1
  go_wp2
  go_ret
  exact ⟨rfl, rfl⟩
set_option maxRecDepth 100000 in
theorem nrraw (m : Int) (w : World) : Calls Tryd.prog 45 #[.pointer none, .int .i64 m] w fun x w' => x = .returned (.slice none 0 0) ∧ w' = w := by
  go_enter Tryd.func45, Tryd.ntmps45
  go_wp2_with fail
  refine (nstop _).mono ?_
  rintro x w1 ⟨rfl, h1⟩
  subst h1
  go_wp2
  go_ret
  exact ⟨rfl, rfl⟩
set_option maxRecDepth 100000 in
theorem nrhashes (m : Int) (w : World) : Calls Tryd.prog 47 #[.pointer none, .int .i64 m] w fun x w' => x = .returned (.slice none 0 0) ∧ w' = w := by
  go_enter Tryd.func47, Tryd.ntmps47
  go_wp2_with fail
  refine (nstop _).mono ?_
  rintro x w1 ⟨rfl, h1⟩
  subst h1
  go_wp2
  go_ret
  exact ⟨rfl, rfl⟩
set_option maxRecDepth 100000 in
theorem nrint (w : World) : Calls Tryd.prog 25 #[.pointer none] w fun x w' => x = .returned (.int .i64 0) ∧ w' = w := by
  go_enter Tryd.func25, Tryd.ntmps25
  go_wp2_with fail
  refine (nruint _ _).mono ?_
  rintro x w1 ⟨rfl, h1⟩
  subst h1
  go_wp2
  go_ret
  exact ⟨rfl, rfl⟩
set_option maxRecDepth 100000 in
theorem nrfail (e p : Int) (w : World) : Calls Tryd.prog 48 #[.pointer none, .int .i64 e, .int .i64 p] w fun x w' => x = .returned (.tuple #[]) ∧ w' = w := by
  go_enter Tryd.func48, Tryd.ntmps48
  go_wp2
  go_end0
  exact ⟨rfl, rfl⟩
set_option maxRecDepth 100000 in
theorem nrat (w : World) : Calls Tryd.prog 14 #[.pointer none] w fun x w' => x = .returned (.int .i64 0) ∧ w' = w := by
  go_enter Tryd.func14, Tryd.ntmps14
  go_wp2
  go_ret
  exact ⟨rfl, rfl⟩
set_option maxRecDepth 100000 in
theorem nrleft (w : World) : Calls Tryd.prog 15 #[.pointer none] w fun x w' => x = .returned (.int .i64 0) ∧ w' = w := by
  go_enter Tryd.func15, Tryd.ntmps15
  go_wp2
  go_ret
  exact ⟨rfl, rfl⟩
set_option maxRecDepth 100000 in
theorem nrfault (w : World) : Calls Tryd.prog 12 #[.pointer none] w fun x w' => x = .returned (.tuple #[.int .i64 1, .int .i64 0]) ∧ w' = w := by
  go_enter Tryd.func12, Tryd.ntmps12
  go_wp2
  go_ret2
  exact ⟨rfl, rfl⟩
set_option maxRecDepth 100000 in
theorem nrdone (w : World) : Calls Tryd.prog 13 #[.pointer none] w fun x w' => x = .returned (.tuple #[.int .i64 1, .int .i64 0]) ∧ ∃ m, w' = w.drewN m := by
  go_enter Tryd.func13, Tryd.ntmps13
  go_wp2_with fail
  refine (nrfault _).mono ?_
  rintro x w1 ⟨rfl, h1⟩
  subst h1
  go_wp2
  go_ret2
  exact ⟨rfl, 0, rfl⟩
theorem resRHashN (tmps : Array Value) (w : World) (g : Nat) (t : TypeId) (l : List UInt8) (hl : l.length = 32) (fr : Nat × Nat) (j : Nat) (hj : j = 2) (hp : tmps.getD j undef = .pointer (some ⟨g, 0, none⟩)) (hg : w.heap[g]? = some (.cells (bs l) t fr)) :
    (results Tryd.f46 tmps).run Tryd.prog w = .ok (.agg (bs l)) w := by
  subst hj
  exact results_cell_row Tryd.results46 tmps w g t (bs l) fr _ hp hg Tryd.underlying31 rfl (by rw [bs_size, hl]; exact hsH)
theorem below_setRowN (B : Nat) (w : World) (g : Nat) (cs : Array Value) (h : B ≤ g) : Below B w (w.setRow g cs) :=
  ⟨rfl, rfl, rfl, by simp, fun k hk => setRow_other w g k cs (by omega)⟩
theorem hbzN : Tryd.prog.built 31 [] = some (bs z32) := by kernel_rfl
set_option maxRecDepth 100000 in
set_option maxHeartbeats 1000000 in
theorem nrhash (w : World) : Calls Tryd.prog 46 #[.pointer none] w fun x w' => x = .returned (.agg (bs z32)) ∧ Below w.heap.size w w' := by
  have hzs : (bs z32).size = 32 := by rw [bs_size]; rfl
  have be0 : Below w.heap.size w (w.alloc (.cells (bs z32) 31)) := (Below.refl _ _).alloc (Nat.le_refl _) _
  have g0 : (w.alloc (.cells (bs z32) 31)).heap[w.heap.size]? = some (.cells (bs z32) 31 (0, 0)) := heap_alloc_new _ _
  generalize hW : w.alloc (.cells (bs z32) 31) = W at *
  go_enter Tryd.func46, Tryd.ntmps46
  go_wp2_with (first | (refine wpList_alloc_row rfl 31 rfl (bs z32) (hzH _) ?_; rw [hW]) | fail)
  refine (nstop _).mono ?_
  rintro e w1 ⟨rfl, hw1⟩
  subst hw1
  go_wp2_with (first
    | (refine wpList_build_row rfl 31 rfl (bs z32) hbzN ?_)
    | (refine wpList_store_row rfl 31 _ _ rfl w.heap.size (bs z32) rfl rfl 31 (bs z32) g0 (by rw [hzs]; exact hsH) rfl (bs_one _) ?_)
    | fail)
  exact bodyPost_ret (resRHashN _ _ w.heap.size 31 z32 z32_len (0, 0) 2 rfl rfl (setRow_heap _ _ _ _ _ _ g0)) rfl ⟨rfl, be0.trans (below_setRowN _ _ _ _ (Nat.le_refl _))⟩
end Go.Proofs.YtbpmpcmmdiaiiaaDoor

namespace Go.Proofs.YtbpmpcmmdiaiiaaDoor
open Go.RowKit
set_option linter.unusedVariables false
set_option linter.unusedSimpArgs false

section
variable {P : Program}
/-- A whole row out of the middle of a block, guarded or not. -/
theorem wpList_load_midG {ops : Array Oper} {rest : List Oper} {o : Oper} {a : Act} {w : World} {Q : Exit → Act → World → Prop} (hw : Region.wanted o (yielded ops a.tmps) = true) (ty : TypeId) (x : Operand) (ho : o.op = .load ty x)
    (b j : Nat) (hx : a.eval x = .pointer (some ⟨b, j, none⟩)) (cs : List Value) (d : TypeDesc) (hS : w.rangeAt b j cs)
    (hu : P.underlying ty = some d) (hd : d.isRow = true) (hi : (P.info? ty).map (·.size) = some cs.length)
    (h : wpList P ops Q rest (a.put o.dst (.agg cs.toArray)) w) : wpList P ops Q (o :: rest) a w :=
  wpList_wanted hw fun _ hK => by
    unfold Oper.wp execOp
    simp only [ho, hx, Instr.loadAt, Instr.sureAddr, Sem.run_bind, Sem.run_pure, Result.andThen_ok, run_loadVar_mid w b j ty cs d hS hu hd hi]
    exact hK _ _ h
end

/-- What a read has answered, as cells. -/
def gL (b v u n f s r : Value) (h : List UInt8) (l : Value) : List Value := b :: v :: u :: n :: f :: s :: r :: (hcs h ++ [l])
def gC (b v u n f s r : Value) (h : List UInt8) (l : Value) : Array Value := (gL b v u n f s r h l).toArray
section
variable {b v u n f s r l : Value} {h : List UInt8}
theorem gL_len (hh : h.length = 32) : (gL b v u n f s r h l).length = 40 := by simp [gL, hcs_len, hh]
theorem gC_size (hh : h.length = 32) : (gC b v u n f s r h l).size = 40 := by simp [gC, gL, hcs_len, hh]
theorem gC_39 (hh : h.length = 32) : (gC b v u n f s r h l)[39]? = some l := by
  simp [gC, gL]
  rw [List.getElem?_append_right (by rw [hcs_len, hh]; omega), hcs_len, hh]
  rfl
theorem gC_hash (hh : h.length = 32) (j : Nat) (x : Value) (hx : (hcs h)[j]? = some x) : (gC b v u n f s r h l)[7 + j]? = some x := by
  have hj : j < (hcs h).length := (List.getElem?_eq_some_iff.1 hx).1
  unfold gC gL
  rw [show 7 + j = j + 1 + 1 + 1 + 1 + 1 + 1 + 1 by omega]
  simp only [List.getElem?_toArray, List.getElem?_cons_succ]
  rw [List.getElem?_append_left hj]
  exact hx
end
theorem sizeGot : (Tryd.prog.info? 42).map (·.size) = some 40 := by kernel_rfl
/-- A block of such cells: its fields. -/
structure GotAt (w : World) (g : Nat) (b v u n f s r : Value) (h : List UInt8) (l : Value) : Prop where
  c0 : w.cell? ⟨g, 0, none⟩ = some b
  c1 : w.cell? ⟨g, 1, none⟩ = some v
  c2 : w.cell? ⟨g, 2, none⟩ = some u
  c3 : w.cell? ⟨g, 3, none⟩ = some n
  c4 : w.cell? ⟨g, 4, none⟩ = some f
  c5 : w.cell? ⟨g, 5, none⟩ = some s
  c6 : w.cell? ⟨g, 6, none⟩ = some r
  ch : w.rangeAt g 7 (hcs h)
  c39 : w.cell? ⟨g, 39, none⟩ = some l
theorem gotAt_row {w : World} {g : Nat} {b v u n f s r l : Value} {h : List UInt8} {C : Array Value} {t : TypeId} {fr : Nat × Nat} (hh : h.length = 32) (hg : w.heap[g]? = some (.cells C t fr)) (hC : C = gC b v u n f s r h l) : GotAt w g b v u n f s r h l := by
  subst hC
  have key : ∀ i x, (gC b v u n f s r h l)[i]? = some x → w.cell? ⟨g, i, none⟩ = some x := fun i x hx => (cell_of_row w g i _ _ _ hg).trans hx
  exact ⟨key 0 _ rfl, key 1 _ rfl, key 2 _ rfl, key 3 _ rfl, key 4 _ rfl, key 5 _ rfl, key 6 _ rfl, fun j x hx => key (7 + j) x (gC_hash hh j x hx), key 39 _ (gC_39 hh)⟩
theorem GotAt.below {w w' : World} {B g : Nat} {b v u n f s r l : Value} {h : List UInt8} (k : GotAt w g b v u n f s r h l) (hb : Below B w w') (hg : g < B) : GotAt w' g b v u n f s r h l := by
  have key : ∀ i x, w.cell? ⟨g, i, none⟩ = some x → w'.cell? ⟨g, i, none⟩ = some x := fun i x hx => (hb.cell (p := ⟨g, i, none⟩) hg).trans hx
  exact ⟨key _ _ k.c0, key _ _ k.c1, key _ _ k.c2, key _ _ k.c3, key _ _ k.c4, key _ _ k.c5, key _ _ k.c6, rangeAt_below k.ch hb hg, key _ _ k.c39⟩

set_option maxRecDepth 100000 in
set_option maxHeartbeats 4000000 in
/-- Two answers that are alike are the same. -/
theorem same_true (b u n : Int) (v : Bool) (f : Nat) (s : ByteArray) (a1 a2 : Option Addr) (m c1 c2 : Nat) (R h : List UInt8) (l1 l2 : Option Addr) (k d1 d2 : Nat) (L : List (List UInt8)) (w : World)
    (hR : R.length = m) (hm : m ≤ 140737488351232) (hr1 : K.Byt w a1 R) (hr2 : K.Byt w a2 R) (hh : h.length = 32) (hL : All32 L) (hk : L.length = k) (hkb : k ≤ 4398046511104) (hl1 : Hl w l1 L) (hl2 : Hl w l2 L)
    (HV : Hid (∀ wx, Calls Tryd.prog 40 #[K.VV 0 0 f ⟨#[]⟩, K.VV 0 0 f ⟨#[]⟩] wx fun e w' => e = .returned (.bool true) ∧ Below wx.heap.size wx w')) :
    Calls Tryd.prog 10 #[.agg (gC (.int .u8 b) (.bool v) (.int .u64 u) (.int .i64 n) (.float .f64 f) (.string s) (.slice a1 m c1) h (.slice l1 k d1)), .agg (gC (.int .u8 b) (.bool v) (.int .u64 u) (.int .i64 n) (.float .f64 f) (.string s) (.slice a2 m c2) h (.slice l2 k d2))] w fun e w' => e = .returned (.bool true) ∧ Below w.heap.size w w' := by
  obtain ⟨CA, hCA⟩ : ∃ C, C = gC (.int .u8 b) (.bool v) (.int .u64 u) (.int .i64 n) (.float .f64 f) (.string s) (.slice a1 m c1) h (.slice l1 k d1) := ⟨_, rfl⟩
  obtain ⟨CB, hCB⟩ : ∃ C, C = gC (.int .u8 b) (.bool v) (.int .u64 u) (.int .i64 n) (.float .f64 f) (.string s) (.slice a2 m c2) h (.slice l2 k d2) := ⟨_, rfl⟩
  rw [← hCA, ← hCB]
  have be0 : Below w.heap.size w ((w.alloc (.cells CA 42)).alloc (.cells CB 42)) := ((Below.refl _ _).alloc (Nat.le_refl _) _).alloc (by simp) _
  have g0 : ((w.alloc (.cells CA 42)).alloc (.cells CB 42)).heap[w.heap.size]? = some (.cells CA 42 (0, 0)) := heap_alloc2_old _ _ _
  have g1 : ((w.alloc (.cells CA 42)).alloc (.cells CB 42)).heap[w.heap.size + 1]? = some (.cells CB 42 (0, 0)) := heap_alloc2_new _ _ _
  have zz : ((w.alloc (.cells CA 42)).alloc (.cells CB 42)).heap.size = w.heap.size + 2 := by simp
  have GA := K.Hid.mk' (gotAt_row hh g0 hCA)
  have GB := K.Hid.mk' (gotAt_row hh g1 hCB)
  clear g0 g1 hCA hCB
  have HE : Hid (∀ wx, (Op.equalIn 10000 31 (.agg (bs h)) (.agg (bs h))).run Tryd.prog wx = .ok true wx) := fun wx => by
    have := eq23 h h hh hh wx
    simpa using this
  have BW : Hid (Below w.heap.size w ((w.alloc (.cells CA 42)).alloc (.cells CB 42))) := be0
  have ZZ : Hid (w.heap.size + 1 < ((w.alloc (.cells CA 42)).alloc (.cells CB 42)).heap.size) := by show _ < _; omega
  have HR := K.Hid.mk' hR
  have HR1 := K.Hid.mk' hr1
  have HR2 := K.Hid.mk' hr2
  have HK := K.Hid.mk' hk
  have HL1 := K.Hid.mk' hl1
  have HL2 := K.Hid.mk' hl2
  clear be0 zz hR hr1 hr2 hk hl1 hl2
  go_enter Tryd.func10, Tryd.ntmps10
  go_upto_region 1 with fail
  generalize ((w.alloc (.cells CA 42)).alloc (.cells CB 42)) = W at *
  obtain ⟨p0, p1, p2, p3, p4, p5, p6, ph, p39⟩ := GA.out
  obtain ⟨q0, q1, q2, q3, q4, q5, q6, qh, q39⟩ := GB.out
  go_wp2_with fail
  refine (HV.out _).mono ?_
  rintro e w1 ⟨rfl, b1⟩
  clear p0 p1 p2 p3 p4 p5 p6 ph p39 q0 q1 q2 q3 q4 q5 q6 qh q39
  obtain ⟨_, _, _, _, _, p5, p6, ph, p39⟩ := GA.out.below b1 (by have := ZZ.out; omega)
  obtain ⟨_, _, _, _, _, q5, q6, qh, q39⟩ := GB.out.below b1 ZZ.out
  have BX : Hid (Below W.heap.size W w1) := b1
  have B1 : Hid (Below w.heap.size w w1) := BW.out.trans (b1.mono BW.out.size)
  have HS := K.Hid.mk' (K.same_any a1 a2 R m c1 c2 w1 HR.out (K.byt_below HR1.out B1.out) (K.byt_below HR2.out B1.out) hm)
  clear b1
  go_wp2_with fail
  refine HS.out.mono ?_
  rintro e w2 ⟨rfl, m2, hm2⟩
  have b2 : Below w1.heap.size w1 w2 := by rw [hm2]; exact below_drewN' (Below.refl _ _) _
  have BY : Hid (Below W.heap.size W w2) := BX.out.trans (b2.mono BX.out.size)
  have B2 : Hid (Below w.heap.size w w2) := B1.out.trans (b2.mono B1.out.size)
  clear p5 p6 ph p39 q5 q6 qh q39 hm2 b2 BX HS
  obtain ⟨_, _, _, _, _, _, _, ph, p39⟩ := GA.out.below BY.out (by have := ZZ.out; omega)
  obtain ⟨_, _, _, _, _, _, _, qh, q39⟩ := GB.out.below BY.out ZZ.out
  have PH := K.Hid.mk' ph
  have QH := K.Hid.mk' qh
  have HS := K.Hid.mk' (sameH_any l1 l2 L L d1 d2 w2 hL hL (by rw [HK.out]; exact hkb) (HL1.out.below hL B2.out) (HL2.out.below hL B2.out))
  simp only [HK.out, decide_true] at HS
  have eqq := HE.out
  clear ph qh
  go_wp2_with (first
    | (refine wpList_load_midG rfl 31 _ rfl w.heap.size 7 rfl (hcs h) _ PH.out Tryd.underlying31 rfl (by rw [hcs_len, hh]; exact hsH) ?_; rw [hcs_arr])
    | (refine wpList_load_midG rfl 31 _ rfl (w.heap.size + 1) 7 rfl (hcs h) _ QH.out Tryd.underlying31 rfl (by rw [hcs_len, hh]; exact hsH) ?_; rw [hcs_arr])
    | fail)
  refine HS.out.mono ?_
  rintro e w3 ⟨rfl, m3, hm3⟩
  have b3 : Hid (Below w.heap.size w w3) := by show Below _ _ _; rw [hm3]; exact below_drewN' B2.out _
  clear hm3 p39 q39 HS eqq
  go_wp2
  go_ret
  exact ⟨rfl, b3.out⟩
end Go.Proofs.YtbpmpcmmdiaiiaaDoor

