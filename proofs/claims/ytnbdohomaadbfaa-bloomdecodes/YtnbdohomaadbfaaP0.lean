import Derived.Test.YtnbdohomaadbfaaKXr
import Derived.Test.YtnbdohomaadbfaaKKs
import Derived.Test.YtnbdohomaadbfaaZa
import Derived.Test.YtnbdohomaadbfaaVv
import Derived.Test.YtnbdohomaadbfaaKPr
namespace Go.Proofs.Ytnbdohomaadbfaa.K
open Go.RowKit
set_option linter.unusedVariables false
set_option linter.unusedSimpArgs false

theorem belowN (W : World) : Below W.heap.size W (W.alloc (.cells #[] 5)) := (Below.refl _ _).alloc (Nat.le_refl _) _
/-- What Done tells. -/
def dM (M : List UInt8) (e : Int) : List UInt8 := if e = 0 then M else []
variable {p : Nat} {g : Option Nat} {M : List UInt8} {e : Int}
theorem WS.see {w : World} {T : TypeId} (h : WS w T p g M e) : ∃ a cv, w.cell? ⟨p, 0, none⟩ = some (.slice a M.length cv) ∧ w.cell? ⟨p, 1, none⟩ = some (.int .i64 e) ∧ Byt w a M ∧ (a = none ∧ M = [] ∧ cv = 0 ∨ ∃ b, a = some ⟨b, 0, none⟩) := by
  obtain ⟨v, hq, own, hg⟩ := h.ex
  have c0 := (cell_of_row w p 0 _ _ _ hq).trans (show (#[v, .int .i64 e] : Array Value)[0]? = some v from rfl)
  have c1 := (cell_of_row w p 1 _ _ _ hq).trans (show (#[v, .int .i64 e] : Array Value)[1]? = some (.int .i64 e) from rfl)
  obtain ⟨a, cv, rfl, h1, h2, h3⟩ := own.open
  refine ⟨a, cv, c0, c1, h2, ?_⟩
  rcases own.2 with ⟨hv, hn⟩ | ⟨gg, cap, cur, hv, _⟩
  · simp only [Value.slice.injEq] at hv
    exact .inl ⟨hv.1, List.eq_nil_of_length_eq_zero hn, hv.2.2⟩
  · simp only [Value.slice.injEq] at hv
    exact .inr ⟨_, hv.1⟩
set_option maxRecDepth 100000 in
set_option maxHeartbeats 1000000 in
theorem clone_nil0 (w : World) : Calls Try.prog 105 #[.slice none 0 0] w fun x w' => x = .returned (.slice none 0 0) ∧ w' = w := by
  have hnil : ∀ W, (binOp .eql 53 (.slice none 0 0) (.slice none 0 0)).run Try.prog W = .ok (.bool true) W := fun W => Lib.run_eql_slice_nil_nil W 0 0 Try.underlying53
  go_enter Try.func105, Try.ntmps105
  go_wp2
  go_ret
  exact ⟨rfl, rfl⟩
set_option maxRecDepth 100000 in
set_option maxHeartbeats 1000000 in
theorem wdone_own (w : World) (hw : WS w 119 p g M e) (hl : M.length ≤ 140737488355328) :
    Calls Try.prog 77 #[.pointer (some ⟨p, 0, none⟩)] w fun x w' => ∃ v, x = .returned (.tuple #[v, .int .i64 e]) ∧ OwnB w' w.heap.size v (dM M e) ∧ Below w.heap.size w w' := by
  obtain ⟨a, cv, c0, c1, hb, ha⟩ := hw.see
  clear hw
  by_cases he : e = 0
  · subst he
    have eD : dM M 0 = M := by simp [dM]
    rw [eD]
    clear eD
    rcases ha with ⟨rfl, rfl, rfl⟩ | ⟨b, rfl⟩
    · have HC := Hid.mk' (clone_nil0 w)
      clear hb hl
      go_enter Try.func77, Try.ntmps77
      go_wp2_with fail
      refine HC.out.mono ?_
      rintro x w1 ⟨rfl, hw1⟩
      subst hw1
      go_wp2
      go_ret2
      exact ⟨_, rfl, ownB_nil _ _, Below.refl _ _⟩
    · have HC : Hid (Calls Try.prog 105 #[.slice (some ⟨b, 0, none⟩) M.length cv] w fun x w' => ∃ v, x = .returned v ∧ OwnB w' w.heap.size v M ∧ Below w.heap.size w w') := clone_any b 0 M.length cv M w rfl hl hb
      clear hb hl
      go_enter Try.func77, Try.ntmps77
      go_wp2_with fail
      refine HC.out.mono ?_
      rintro x w1 ⟨v, rfl, h2, h3⟩
      have H2 := Hid.mk' h2
      have H3 := Hid.mk' h3
      clear h2 h3
      go_wp2
      go_ret2
      exact ⟨_, rfl, H2.out, H3.out⟩
  · have eD : dM M e = [] := by simp [dM, he]
    rw [eD]
    clear hb ha eD
    go_enter Try.func77, Try.ntmps77
    go_wp2
    go_quiet (fail)
    go_wp2
    go_ret2
    exact ⟨_, rfl, ownB_nil _ _, below_drewN (Below.refl _ _) _⟩
set_option maxRecDepth 100000 in
set_option maxHeartbeats 1000000 in
theorem xdone_own (w : World) (hw : WS w 133 p g M e) (hl : M.length ≤ 140737488355328) :
    Calls Try.prog 104 #[.pointer (some ⟨p, 0, none⟩)] w fun x w' => ∃ v, x = .returned (.tuple #[v, .int .i64 e]) ∧ OwnB w' w.heap.size v (dM M e) ∧ Below w.heap.size w w' := by
  have hws0 := hw.below (belowN w)
  obtain ⟨a, cv, c0, c1, hb, ha⟩ := hw.see
  have d0 : (w.alloc (.cells #[] 5)).cell? ⟨p, 0, none⟩ = some (.slice a M.length cv) := ((belowN w).cell (p := ⟨p, 0, none⟩) hw.lt).trans c0
  clear hw hws0
  by_cases he : e = 0
  · subst he
    have eD : dM M 0 = M := by simp [dM]
    rw [eD]
    clear eD
    have O0 : Hid (OwnB (w.alloc (.cells #[] 5)) w.heap.size (.slice (some ⟨w.heap.size, 0, none⟩) 0 0) []) := ⟨rfl, .inr ⟨w.heap.size, 0, #[], rfl, Nat.le_refl _, heap_alloc_new _ _, by simp, by simp [maxLen], rfl, rfl⟩⟩
    have B0 := Hid.mk' (byt_below hb (belowN w))
    have S0 : Hid (([] : List UInt8).length + M.length ≤ 140737488355328) := by show _ ≤ _; simpa using hl
    have Z0 := Hid.mk' (belowN w)
    have Z1 : Hid (w.heap.size ≤ (w.alloc (.cells #[] 5)).heap.size) := Z0.out.size
    clear hb hl ha
    go_enter Try.func104, Try.ntmps104
    go_wp2_with (first | (at_builtin; refine wpList_app2 rfl (.tmp 15) (.tmp 19) rfl w.heap.size (.slice (some ⟨w.heap.size, 0, none⟩) 0 0) [] rfl O0.out a M.length cv M rfl rfl B0.out S0.out Z1.out ?_) | fail)
    intro v w1 own1 gr1 hblk
    have own1' : Hid (OwnB w1 w.heap.size v M) := by show OwnB _ _ _ _; simpa using own1
    have b1 : Hid (Below w.heap.size w w1) := Z0.out.grown gr1 Z0.out.size (fun k hk => by simp [Value.ownBlock] at hk; omega)
    clear own1 gr1 hblk O0 B0 S0 Z0 Z1
    go_wp2
    go_ret2
    exact ⟨_, rfl, own1'.out, b1.out⟩
  · have eD : dM M e = [] := by simp [dM, he]
    rw [eD]
    clear hb ha eD
    go_enter Try.func104, Try.ntmps104
    go_wp2
    go_quiet (fail)
    go_wp2
    go_ret2
    exact ⟨_, rfl, ownB_nil _ _, below_drewN (Below.refl _ _) _⟩
theorem ws_zero (w : World) (T : TypeId) : WS (w.alloc (.cells #[.slice none 0 0, .int .i64 0] T)) T w.heap.size none [] 0 := ⟨⟨_, heap_alloc_new _ _, ownB_nil _ _, rfl⟩, by simp⟩
end Go.Proofs.Ytnbdohomaadbfaa.K

namespace Go.Proofs.Ytnbdohomaadbfaa
open Go.RowKit
set_option linter.unusedVariables false
set_option linter.unusedSimpArgs false

theorem S2_snoc (n x : Nat) : PC.S 2 (n + 1) x = PC.S 2 n x + (if x.testBit n = true then 1 else 0) := by
  induction n generalizing x with
  | zero =>
    rw [PC.S, PC.S, PC.S, Nat.testBit_zero]
    by_cases h : x % 2 = 1
    · rw [if_pos (decide_eq_true h)]; omega
    · rw [if_neg (by simpa using h)]; omega
  | succ n ih =>
    rw [PC.S, ih, Nat.testBit_succ]
    rw [show PC.S 2 (n + 1) x = x % 2 + PC.S 2 n (x / 2) from rfl]
    omega
theorem cntB_word (ws : Nat → Nat) (m j : Nat) (hj : j ≤ 64) : cntB (bitAt ws) (64 * m + j) = cntB (bitAt ws) (64 * m) + PC.S 2 j (ws m) := by
  induction j with
  | zero => rfl
  | succ j ih =>
    have e : bitAt ws (64 * m + j) = (ws m).testBit j := by
      unfold bitAt
      rw [show (64 * m + j) / 64 = m by omega, show (64 * m + j) % 64 = j by omega]
    rw [show 64 * m + (j + 1) = (64 * m + j) + 1 by omega, cntB, ih (by omega), S2_snoc, e]
    omega
theorem cntB_words (ws : Nat → Nat) (m : Nat) : cntB (bitAt ws) (64 * m) = cntW ws m := by
  induction m with
  | zero => rfl
  | succ m ih => rw [show 64 * (m + 1) = 64 * m + 64 by omega, cntB_word ws m 64 (Nat.le_refl _), ih, cntW]
theorem cntB_more {f : Nat → Bool} {n : Nat} (h : ∀ x, f x = true → x < n) (d : Nat) : cntB f (n + d) = cntB f n := by
  induction d with
  | zero => rfl
  | succ d ih =>
    rw [show n + (d + 1) = (n + d) + 1 by omega, cntB, ih]
    cases hf : f (n + d) with
    | false => rfl
    | true => have := h _ hf; omega
theorem cntB_bits {ws : Nat → Nat} {bits : Nat} (h : Within ws bits) : cntB (bitAt ws) bits = cntW ws ((bits + 63) / 64) := by
  rw [← cntB_words, ← cntB_more h (64 * ((bits + 63) / 64) - bits), show bits + (64 * ((bits + 63) / 64) - bits) = 64 * ((bits + 63) / 64) by omega]
/-- The bytes behind k bits. -/
def pB (ws : Nat → Nat) (k j : Nat) : Nat := if 8 * j + 8 ≤ k then (byW ws j).toNat else if 8 * j < k then (byW ws j).toNat % 2 ^ (k - 8 * j) else 0
theorem mod_pow_succ (x t : Nat) : x % 2 ^ (t + 1) = x % 2 ^ t + (if x.testBit t = true then 2 ^ t else 0) := by
  rw [Nat.pow_succ, Nat.mod_mul, Nat.testBit_eq_decide_div_mod_eq]
  by_cases h : x / 2 ^ t % 2 = 1
  · rw [if_pos (decide_eq_true h), h, Nat.mul_one]
  · rw [if_neg (by simpa using h), show x / 2 ^ t % 2 = 0 by omega, Nat.mul_zero]
theorem pB_zero (ws : Nat → Nat) (j : Nat) : pB ws 0 j = 0 := by unfold pB; rw [if_neg (by omega), if_neg (by omega)]
theorem pB_all (ws : Nat → Nat) (n j : Nat) (hj : j < n) : pB ws (8 * n) j = (byW ws j).toNat := by unfold pB; rw [if_pos (by omega)]
theorem pB_other (ws : Nat → Nat) (k j : Nat) (h : j ≠ k / 8) : pB ws (k + 1) j = pB ws k j := by
  unfold pB
  by_cases h1 : 8 * j + 8 ≤ k
  · rw [if_pos (by omega), if_pos h1]
  · have : ¬ 8 * j < k + 1 := by omega
    rw [if_neg (by omega), if_neg this, if_neg h1, if_neg (by omega)]
theorem pB_full (ws : Nat → Nat) (j : Nat) : (byW ws j).toNat % 2 ^ 8 = (byW ws j).toNat := Nat.mod_eq_of_lt (UInt8.toNat_lt _)
theorem pB_step (ws : Nat → Nat) (k : Nat) : pB ws (k + 1) (k / 8) = pB ws k (k / 8) + (if bitAt ws k = true then 2 ^ (k % 8) else 0) ∧ pB ws k (k / 8) < 2 ^ (k % 8) := by
  have hr : k % 8 < 8 := Nat.mod_lt _ (by omega)
  have e0 : pB ws k (k / 8) = (byW ws (k / 8)).toNat % 2 ^ (k % 8) := by
    unfold pB
    rw [if_neg (by omega)]
    by_cases h : 8 * (k / 8) < k
    · rw [if_pos h, show k - 8 * (k / 8) = k % 8 by omega]
    · rw [if_neg h, show k % 8 = 0 by omega, Nat.pow_zero, Nat.mod_one]
  have e1 : pB ws (k + 1) (k / 8) = (byW ws (k / 8)).toNat % 2 ^ (k % 8 + 1) := by
    unfold pB
    by_cases h : 8 * (k / 8) + 8 ≤ k + 1
    · rw [if_pos h, show k % 8 + 1 = 8 by omega, pB_full]
    · rw [if_neg h, if_pos (by omega), show k + 1 - 8 * (k / 8) = k % 8 + 1 by omega]
  have e2 : (byW ws (k / 8)).toNat.testBit (k % 8) = bitAt ws k := by rw [bit_byW ws _ _ hr, show 8 * (k / 8) + k % 8 = k by omega]
  rw [e0, e1, mod_pow_succ, e2]
  exact ⟨rfl, Nat.mod_lt _ (Nat.two_pow_pos _)⟩
end Go.Proofs.Ytnbdohomaadbfaa

namespace Go.Proofs.Ytnbdohomaadbfaa
open Go.RowKit
set_option linter.unusedVariables false
set_option linter.unusedSimpArgs false

/-- The document's Writer that was made since. -/
def WH (w W : World) (M : List UInt8) : Prop := K.Wr (w.alloc (.cells #[.slice none 0 0, .int .i64 0] 133)) W 133 w.heap.size none M 0
theorem WH.start (w : World) : WH w (w.alloc (.cells #[.slice none 0 0, .int .i64 0] 133)) [] :=
  K.WS.wr ⟨⟨_, heap_alloc_new _ _, K.ownB_nil _ _, rfl⟩, by simp⟩
theorem WH.below {w W : World} {M : List UInt8} (h : WH w W M) : Below w.heap.size w W := by
  obtain ⟨g', ws, fr, nw⟩ := h
  have b : Below w.heap.size w (w.alloc (.cells #[.slice none 0 0, .int .i64 0] 133)) := (Below.refl _ _).alloc (Nat.le_refl _) _
  exact b.trans ⟨fr.os, fr.tape, fr.output, fr.size, fun k hk => fr.block k (by simp; omega) (by omega) (by simp)⟩
theorem WH.uint {w W : World} {M : List UInt8} (h : WH w W M) (v : Nat) (hv : v < 18446744073709551616) (hM : M.length ≤ 1000000) :
    Calls Try.prog 101 #[.pointer (some ⟨w.heap.size, 0, none⟩), .int .u64 (v : Int)] W fun x w' => x = .returned (.tuple #[]) ∧ WH w w' (M ++ K.vint v) := by
  obtain ⟨g', ws, fr, nw⟩ := h
  refine (K.xuint_any v hv W ws (by omega)).mono ?_
  rintro e W' ⟨rfl, hr⟩
  rw [K.wA_0] at hr
  exact ⟨rfl, K.Wr.step fr nw hr⟩
theorem WH.byte {w W : World} {M : List UInt8} (h : WH w W M) (k : UInt8) (kv : Int) (hk : kv = (k.toNat : Int)) (hM : M.length ≤ 1000000) :
    Calls Try.prog 102 #[.pointer (some ⟨w.heap.size, 0, none⟩), .int .u8 kv] W fun x w' => x = .returned (.tuple #[]) ∧ WH w w' (M ++ [k]) := by
  obtain ⟨g', ws, fr, nw⟩ := h
  refine (K.xbyte_any k kv hk W ws (by omega)).mono ?_
  rintro e W' ⟨rfl, hr⟩
  rw [K.wA_0] at hr
  exact ⟨rfl, K.Wr.step fr nw hr⟩
theorem WH.raw {w W : World} {M B : List UInt8} (h : WH w W M) (b n c : Nat) (hn : B.length = n) (hB : K.Byt W (some ⟨b, 0, none⟩) B) (h1 : b < w.heap.size) (hM : M.length ≤ 1000000) (hBl : B.length ≤ 1000000) :
    Calls Try.prog 103 #[.pointer (some ⟨w.heap.size, 0, none⟩), .slice (some ⟨b, 0, none⟩) n c] W fun x w' => x = .returned (.tuple #[]) ∧ WH w w' (M ++ (K.vint n ++ B)) := by
  obtain ⟨g', ws, fr, nw⟩ := h
  have hlt := fr.size
  rw [World.size_alloc] at hlt
  refine (K.xraw_any B b 0 n c W ws hn hB ⟨by omega, fun e => ?_⟩ (by omega) (by omega)).mono ?_
  · rcases nw with rfl | ⟨k, rfl, hk⟩
    · cases e
    · cases e
      rw [World.size_alloc] at hk
      omega
  · rintro e W' ⟨rfl, hr⟩
    rw [K.wA_0] at hr
    exact ⟨rfl, K.Wr.step fr nw hr⟩
end Go.Proofs.Ytnbdohomaadbfaa

namespace Go.Proofs.Ytnbdohomaadbfaa
open Go.RowKit
set_option linter.unusedVariables false
set_option linter.unusedSimpArgs false

/-- What New tells. -/
def NwPost (bits p : Nat) (W : World) (e : Ending) (w' : World) : Prop := ∃ q g, e = .returned (.tuple #[.pointer (some ⟨q, 0, none⟩), .int .i64 0]) ∧ FAt W.heap.size w' q g bits p (fun _ => 0) ∧ Below W.heap.size W w'
theorem new_post (bits probes : Nat) (w : World) (h1 : 8 ≤ bits) (h2 : bits ≤ 65536) (h3 : bits % 8 = 0) (h4 : 1 ≤ probes) (h5 : probes ≤ 16) : Calls Try.prog 18 #[.int .i64 (bits : Int), .int .i64 (probes : Int)] w (NwPost bits probes w) :=
  (new_ok bits probes w h1 h2 h3 h4 h5).mono (by
    rintro e w' ⟨rfl, fc, wr, be, lt⟩
    exact ⟨_, _, rfl, ⟨⟨fc, wr⟩, by omega, by omega⟩, be⟩)
/-- What Encode tells. -/
def EnPost (E : List UInt8) (W : World) (e : Ending) (w' : World) : Prop := ∃ b cv, e = .returned (.slice (some ⟨b, 0, none⟩) E.length cv) ∧ (∀ W2, Below w'.heap.size w' W2 → K.Byt W2 (some ⟨b, 0, none⟩) E) ∧ Below W.heap.size W w'
theorem enc_post (q g bits probes : Nat) (ws : Nat → Nat) (w : World) (hF : FW w q g bits probes ws) (hw : ∀ i, ws i < 18446744073709551616) (hb0 : 8 ≤ bits) (hb1 : bits ≤ 65536) (hp : probes ≤ 16) :
    Calls Try.prog 34 #[.pointer (some ⟨q, 0, none⟩)] w (EnPost (encF bits probes ws) w) :=
  (enc_any q g bits probes ws w hF hw hb0 hb1 hp).mono (by
    rintro e w' ⟨b, cv, rfl, ow, be⟩
    refine ⟨b, cv, rfl, fun W2 h2 => ?_, be⟩
    obtain ⟨a, c, e, k1, k2, k3⟩ := (ow.below h2).open
    cases e
    exact k2)
theorem same_post (a1 a2 : Option Addr) (E : List UInt8) (c1 c2 : Nat) (w : World) (h1 : K.Byt w a1 E) (h2 : K.Byt w a2 E) (hl : E.length ≤ 10000) : Calls Try.prog 35 #[.slice a1 E.length c1, .slice a2 E.length c2] w fun e w' => e = .returned (.bool true) ∧ Below w.heap.size w w' :=
  (K.same_any a1 a2 E E.length c1 c2 w rfl h1 h2 (by omega)).mono (by
    rintro e w' ⟨rfl, m, rfl⟩
    exact ⟨rfl, K.below_drewN (Below.refl _ _) m⟩)
theorem ThreeF.mk0 {w W1 W2 W3 : World} {qa ga qb gb qc gc bits p : Nat} {z : Nat → Nat} (f1 : FAt w.heap.size W1 qa ga bits p z) (b1 : Below w.heap.size w W1) (f2 : FAt W1.heap.size W2 qb gb bits p z) (b2 : Below W1.heap.size W1 W2) (f3 : FAt W2.heap.size W3 qc gc bits p z) (b3 : Below W2.heap.size W2 W3) : ThreeF w.heap.size w W3 qa ga qb gb qc gc bits p z z z := by
  have k1 := f1.fw.wr.lt
  have k2 := f1.fw.fc.lt
  have k3 := f2.fw.wr.lt
  have k4 := f2.fw.fc.lt
  have k5 := f1.lg
  have k6 := f2.lg
  have k7 := f3.lg
  have k8 := f2.lq
  have k9 := f3.lq
  have s1 := b1.size
  have s2 := b2.size
  have bb := b1.trans (b2.mono s1)
  exact ⟨(f1.fw.below b2).below b3, f2.fw.below b3, f3.fw, bb.trans (b3.mono (by omega)), by omega, by omega, by omega, by omega, by omega, by omega, by omega, by omega, by omega, by omega, by omega, by omega⟩
/-- How far the loop is. -/
structure OI (w W : World) (qa ga qb gb qc gc bits p : Nat) (AA : List (List UInt8) → Nat → Nat) (L : List (List UInt8)) (k : Nat) (XB XC : List (List UInt8)) : Prop where
  t : ThreeF w.heap.size w W qa ga qb gb qc gc bits p (AA (L.take k)) (AA XB) (AA XC)
  b1 : ∀ x ∈ XB, x ∈ L
  b2 : ∀ x ∈ L.take k, x ∈ XB
  c1 : ∀ x ∈ XC, x ∈ L
theorem OI.next {w W W' : World} {qa ga qb gb qc gc bits p : Nat} {AA : List (List UInt8) → Nat → Nat} {L : List (List UInt8)} {k : Nat} {XB XC : List (List UInt8)} (h : OI w W qa ga qb gb qc gc bits p AA L k XB XC) {x y : List UInt8} {d : Nat} (hx : L[k]? = some x) (hy : L[d]? = some y) (D : List (List UInt8)) (hD : ∀ z ∈ D, z = x)
    (t : ThreeF w.heap.size w W' qa ga qb gb qc gc bits p (AA (L.take k ++ [x])) (AA (XB ++ [y] ++ [x])) (AA (XC ++ D))) : OI w W' qa ga qb gb qc gc bits p AA L (k + 1) (XB ++ [y] ++ [x]) (XC ++ D) := by
  have e : L.take (k + 1) = L.take k ++ [x] := by rw [List.take_add_one, hx, Option.toList]
  have mx := List.mem_of_getElem? hx
  have my := List.mem_of_getElem? hy
  refine ⟨by rw [e]; exact t, fun z hz => ?_, fun z hz => ?_, fun z hz => ?_⟩
  · simp only [List.mem_append, List.mem_singleton] at hz
    rcases hz with (hz | rfl) | rfl
    · exact h.b1 z hz
    · exact my
    · exact mx
  · rw [e] at hz
    simp only [List.mem_append, List.mem_singleton] at hz ⊢
    rcases hz with hz | rfl
    · exact .inl (.inl (h.b2 z hz))
    · exact .inr rfl
  · rcases List.mem_append.1 hz with hz | hz
    · exact h.c1 z hz
    · rw [hD z hz]; exact mx
set_option maxRecDepth 100000 in
set_option maxHeartbeats 8000000 in
theorem order_all (a1 : Option Addr) (L : List (List UInt8)) (c1 : Nat) (x y : Int) (w : World) (hL : All32 L) (hn : L.length ≤ 4398046511104) (hl1 : Hl w a1 L) :
    Calls Try.prog 7 #[.slice a1 L.length c1, .int .i64 x, .int .i64 y] w fun e w' => e = .returned (.bool true) ∧ Below w.heap.size w w' := by
  obtain ⟨m, hm⟩ : ∃ m : Nat, x % 64 = (m : Int) := ⟨(x % 64).toNat, by omega⟩
  obtain ⟨r, hr⟩ : ∃ r : Nat, y % 16 = (r : Int) := ⟨(y % 16).toNat, by omega⟩
  have hm1 : m < 64 := by omega
  have hr1 : r < 16 := by omega
  have H11a : Hid (∀ W, Calls Try.prog 11 #[.int .i64 x, .int .i64 64] W fun e w' => e = .returned (.int .i64 (m : Int)) ∧ w' = W) := fun W => by have := which_any x 64 W (by omega) (by omega); rw [show ((64 : Nat) : Int) = 64 from rfl, hm] at this; exact this
  have H11b : Hid (∀ W, Calls Try.prog 11 #[.int .i64 y, .int .i64 16] W fun e w' => e = .returned (.int .i64 (r : Int)) ∧ w' = W) := fun W => by have := which_any y 16 W (by omega) (by omega); rw [show ((16 : Nat) : Int) = 16 from rfl, hr] at this; exact this
  clear hm hr
  obtain ⟨bits, hbits⟩ : ∃ b : Nat, 8 * (1 + m) = b := ⟨_, rfl⟩
  obtain ⟨p, hp⟩ : ∃ b : Nat, 1 + r = b := ⟨_, rfl⟩
  have eb : 8 * (1 + (m : Int)) = (bits : Int) := by omega
  have ep : 1 + (r : Int) = (p : Int) := by omega
  have hb8 : 8 ≤ bits := by omega
  have hbm : bits ≤ 512 := by omega
  have hb0 : 0 < bits := by omega
  have hp1 : 1 ≤ p := by omega
  have hp2 : p ≤ 16 := by omega
  have H18a : Hid (∀ W, Calls Try.prog 18 #[.int .i64 (bits : Int), .int .i64 (p : Int)] W (NwPost bits p W)) := fun W => new_post bits p W hb8 (by omega) (by omega) hp1 hp2
  have H18b := Hid.mk' H18a.out
  have H18c := Hid.mk' H18a.out
  have HLT : Hid (∀ X i, addL bits hb0 p (fun _ => 0) X i < 18446744073709551616) := fun X i => addL_lt hb0 p (fun i => by omega) X i
  have HSN : Hid (∀ X h, addL bits hb0 p (fun _ => 0) (X ++ [h]) = setAll (addL bits hb0 p (fun _ => 0) X) (spotL h bits hb0 p)) := fun X h => addL_snoc _ hb0 p _ X h
  have HSM : Hid (∀ X, (∀ x ∈ X, x ∈ L) → (∀ x ∈ L, x ∈ X) → addL bits hb0 p (fun _ => 0) X = addL bits hb0 p (fun _ => 0) L) := fun X h1 h2 => addL_same bits hb0 p h1 h2
  have HOR : Hid (∀ X, (∀ x ∈ X, x ∈ L) → orW (addL bits hb0 p (fun _ => 0) X) (addL bits hb0 p (fun _ => 0) L) ((bits + 63) / 64) = addL bits hb0 p (fun _ => 0) L) := fun X h1 => orW_sub bits hb0 p h1
  have HNIL : Hid (addL bits hb0 p (fun _ => 0) [] = fun _ => 0) := rfl
  have HCN : Hid (∃ c : Nat, c ≤ 1000000 ∧ cntW (addL bits hb0 p (fun _ => 0) L) ((bits + 63) / 64) = c ∧ (0 < L.length → 0 < c) ∧ (L.length = 0 → c = 0)) := by
    refine ⟨_, ?_, rfl, fun h => cnt_added hb0 hp1 h, fun h => ?_⟩
    · have := cntW_le (addL bits hb0 p (fun _ => 0) L) ((bits + 63) / 64)
      omega
    · rw [List.eq_nil_of_length_eq_zero h]
      exact cntW_zero _
  generalize addL bits hb0 p (fun _ => 0) = AA at *
  have HADA : Hid (∀ W qa ga qb gb qc gc X XB XC h, h.length = 32 → ThreeF w.heap.size w W qa ga qb gb qc gc bits p (AA X) (AA XB) (AA XC) → Calls Try.prog 12 #[.pointer (some ⟨qa, 0, none⟩), .agg (bs h)] W fun e w' => e = .returned (.tuple #[]) ∧ ThreeF w.heap.size w w' qa ga qb gb qc gc bits p (AA (X ++ [h])) (AA XB) (AA XC)) := fun W qa ga qb gb qc gc X XB XC h hh hT =>
    (add_any qa ga bits p (AA X) h W hh hb0 (by omega) hp2 hT.a (HLT.out X)).mono (by
      rintro e w' ⟨rfl, hf, hk⟩
      refine ⟨rfl, ?_⟩
      rw [HSN.out]
      exact hT.addA hf hk)
  have HADB : Hid (∀ W qa ga qb gb qc gc X XB XC h, h.length = 32 → ThreeF w.heap.size w W qa ga qb gb qc gc bits p (AA X) (AA XB) (AA XC) → Calls Try.prog 12 #[.pointer (some ⟨qb, 0, none⟩), .agg (bs h)] W fun e w' => e = .returned (.tuple #[]) ∧ ThreeF w.heap.size w w' qa ga qb gb qc gc bits p (AA X) (AA (XB ++ [h])) (AA XC)) := fun W qa ga qb gb qc gc X XB XC h hh hT =>
    (add_any qb gb bits p (AA XB) h W hh hb0 (by omega) hp2 hT.b (HLT.out XB)).mono (by
      rintro e w' ⟨rfl, hf, hk⟩
      refine ⟨rfl, ?_⟩
      rw [HSN.out]
      exact hT.addB hf hk)
  have HADC : Hid (∀ W qa ga qb gb qc gc X XB XC h, h.length = 32 → ThreeF w.heap.size w W qa ga qb gb qc gc bits p (AA X) (AA XB) (AA XC) → Calls Try.prog 12 #[.pointer (some ⟨qc, 0, none⟩), .agg (bs h)] W fun e w' => e = .returned (.tuple #[]) ∧ ThreeF w.heap.size w w' qa ga qb gb qc gc bits p (AA X) (AA XB) (AA (XC ++ [h]))) := fun W qa ga qb gb qc gc X XB XC h hh hT =>
    (add_any qc gc bits p (AA XC) h W hh hb0 (by omega) hp2 hT.c (HLT.out XC)).mono (by
      rintro e w' ⟨rfl, hf, hk⟩
      refine ⟨rfl, ?_⟩
      rw [HSN.out]
      exact hT.addC hf hk)
  have HJN : Hid (∀ W qa ga qb gb qc gc XC, (∀ x ∈ XC, x ∈ L) → ThreeF w.heap.size w W qa ga qb gb qc gc bits p (AA L) (AA L) (AA XC) → Calls Try.prog 14 #[.pointer (some ⟨qc, 0, none⟩), .pointer (some ⟨qa, 0, none⟩)] W fun e w' => e = .returned (.int .i64 0) ∧ ThreeF w.heap.size w w' qa ga qb gb qc gc bits p (AA L) (AA L) (AA L)) := fun W qa ga qb gb qc gc XC hX hT =>
    (join_any qc gc qa ga bits p (AA XC) (AA L) W hT.c hT.a hT.d.2.1.symm (fun e => hT.c.fc.ne e.symm) hT.d.2.2.2.2.1 (HLT.out XC) (HLT.out L) (by omega)).mono (by
      rintro e w' ⟨rfl, hf, hk⟩
      rw [HOR.out XC hX] at hf
      exact ⟨rfl, hT.joinC hf hk⟩)
  have HEA : Hid (∀ W qa ga qb gb qc gc wb wc, ThreeF w.heap.size w W qa ga qb gb qc gc bits p (AA L) wb wc → Calls Try.prog 34 #[.pointer (some ⟨qa, 0, none⟩)] W (EnPost (encF bits p (AA L)) W)) := fun W qa ga qb gb qc gc wb wc hT => enc_post qa ga bits p (AA L) W hT.a (HLT.out L) hb8 (by omega) hp2
  have HEB : Hid (∀ W qa ga qb gb qc gc wa wc, ThreeF w.heap.size w W qa ga qb gb qc gc bits p wa (AA L) wc → Calls Try.prog 34 #[.pointer (some ⟨qb, 0, none⟩)] W (EnPost (encF bits p (AA L)) W)) := fun W qa ga qb gb qc gc wa wc hT => enc_post qb gb bits p (AA L) W hT.b (HLT.out L) hb8 (by omega) hp2
  have HEC : Hid (∀ W qa ga qb gb qc gc wa wb, ThreeF w.heap.size w W qa ga qb gb qc gc bits p wa wb (AA L) → Calls Try.prog 34 #[.pointer (some ⟨qc, 0, none⟩)] W (EnPost (encF bits p (AA L)) W)) := fun W qa ga qb gb qc gc wa wb hT => enc_post qc gc bits p (AA L) W hT.c (HLT.out L) hb8 (by omega) hp2
  have HSA : Hid (∀ W b1 b2 c1 c2, K.Byt W (some ⟨b1, 0, none⟩) (encF bits p (AA L)) → K.Byt W (some ⟨b2, 0, none⟩) (encF bits p (AA L)) → Calls Try.prog 35 #[.slice (some ⟨b1, 0, none⟩) (encF bits p (AA L)).length c1, .slice (some ⟨b2, 0, none⟩) (encF bits p (AA L)).length c2] W fun e w' => e = .returned (.bool true) ∧ Below W.heap.size W w') := fun W b1 b2 c1 c2 h1 h2 => same_post _ _ _ c1 c2 W h1 h2 (encF_len bits p (AA L) (by omega))
  obtain ⟨c, hc0, hc1, hc2, hc3⟩ := HCN.out
  have HST : Hid (∀ W qa ga qb gb qc gc wb wc, ThreeF w.heap.size w W qa ga qb gb qc gc bits p (AA L) wb wc → (Calls Try.prog 33 #[.pointer (some ⟨qa, 0, none⟩)] W fun e w' => e = .returned (.int .i64 (c : Int)) ∧ w' = W) ∧ (Calls Try.prog 32 #[.pointer (some ⟨qa, 0, none⟩)] W fun e w' => e = .returned (.int .i64 (bits : Int)) ∧ w' = W)) := fun W qa ga qb gb qc gc wb wc hT => by
    have := set_any qa ga bits p (AA L) W hT.a (HLT.out L) (by omega)
    rw [hc1] at this
    exact ⟨this, bits_any qa ga bits p W hT.a.fc⟩
  have HMK : Hid (∀ W1 W2 W3 qa ga qb gb qc gc, FAt w.heap.size W1 qa ga bits p (fun _ => 0) → Below w.heap.size w W1 → FAt W1.heap.size W2 qb gb bits p (fun _ => 0) → Below W1.heap.size W1 W2 → FAt W2.heap.size W3 qc gc bits p (fun _ => 0) → Below W2.heap.size W2 W3 → OI w W3 qa ga qb gb qc gc bits p AA L 0 [] []) := fun W1 W2 W3 qa ga qb gb qc gc f1 b1 f2 b2 f3 b3 =>
    ⟨by rw [List.take_zero, HNIL.out]; exact ThreeF.mk0 f1 b1 f2 b2 f3 b3, fun z hz => (by cases hz), fun z hz => (by rw [List.take_zero] at hz; cases hz), fun z hz => (by cases hz)⟩
  generalize encF bits p (AA L) = EN at *
  have HL1 := Hid.mk' (fun W (h : Below w.heap.size w W) => hl1.below hL h)
  have HA1 := Hid.mk' hL
  have HCN2 := Hid.mk' (And.intro hc0 (And.intro hc2 hc3))
  clear hl1 hL HLT HSN HOR HNIL HCN hc0 hc1 hc2 hc3 hbits hp
  generalize hnL : L.length = n at *
  have HNL := Hid.mk' hnL
  clear hnL
  go_enter Try.func7, Try.ntmps7
  go_wp2_with (first
    | (go_at_call 11; refine (H11a.out _).mono ?_; rintro e W0 ⟨rfl, hw⟩; obtain rfl := hw.symm; clear hw H11a)
    | (go_at_call 11; refine (H11b.out _).mono ?_; rintro e W0 ⟨rfl, hw⟩; obtain rfl := hw.symm; clear hw H11b)
    | (go_at_call 18; refine (H18a.out _).mono ?_; rintro e W1 ⟨qa, ga, rfl, f1, b1⟩; have F1 := Hid.mk' f1; have B1 := Hid.mk' b1; clear f1 b1 H18a)
    | (go_at_call 18; refine (H18b.out _).mono ?_; rintro e W2 ⟨qb, gb, rfl, f2, b2⟩; have F2 := Hid.mk' f2; have B2 := Hid.mk' b2; clear f2 b2 H18b)
    | (go_at_call 18; refine (H18c.out _).mono ?_; rintro e W3 ⟨qc, gc, rfl, f3, b3⟩; have T0 := Hid.mk' (HMK.out _ _ _ _ _ _ _ _ _ F1.out B1.out F2.out B2.out f3 b3); clear f3 b3 H18c F1 B1 F2 B2 HMK)
    | fail)
  clear eb ep
  go_loopw [13] (fun i wr => ∃ k : Nat, k ≤ n ∧ i = .int .i64 (k : Int) ∧ Hid (∃ XB XC, OI w wr qa ga qb gb qc gc bits p AA L k XB XC)) (fun i _ => n - (intOf i).toNat)
  case atStart => exact ⟨0, by omega, rfl, ⟨_, _, T0.out⟩⟩
  case round =>
    obtain ⟨k, hk, rfl, HT⟩ := hrel
    obtain ⟨XB, XC, ht⟩ := HT.out
    have HO := Hid.mk' ht
    clear T0 ht HT
    by_cases hkn : k < n
    · have hkn' : (k : Int) < (n : Int) := by omega
      obtain ⟨d, hd⟩ : ∃ d : Nat, n = d + k + 1 := ⟨n - 1 - k, by omega⟩
      have hds : (n : Int) - 1 - (k : Int) = (d : Int) := by omega
      have hdn : d < n := by omega
      clear hd
      obtain ⟨b, off, rfl, hs⟩ := (HL1.out wr HO.out.t.be).at (i := k) (by rw [HNL.out]; exact hkn)
      obtain ⟨h, hh⟩ : ∃ h, L[k]? = some h := ⟨L[k]'(by rw [HNL.out]; exact hkn), List.getElem?_eq_getElem _⟩
      obtain ⟨h2, hh2⟩ : ∃ h, L[d]? = some h := ⟨L[d]'(by rw [HNL.out]; exact hdn), List.getElem?_eq_getElem _⟩
      have HRB : Hid (∀ W, Below w.heap.size w W → W.rangeAt b (off + 32 * k) (hcs h) ∧ W.rangeAt b (off + 32 * d) (hcs h2)) := fun W hb => by
        obtain ⟨b', off', e, hs'⟩ := (HL1.out W hb).at (i := k) (by rw [HNL.out]; exact hkn)
        cases e
        exact ⟨hs' k h hh, hs' d h2 hh2⟩
      have HH := Hid.mk' (HA1.out.get hh)
      have HH2 := Hid.mk' (HA1.out.get hh2)
      have ix := fun wx => indexH b off n c1 k wx hkn
      have ix2 := fun wx => indexH b off n c1 d wx hdn
      have HNX := Hid.mk' (fun W' D hD => HO.out.next (W' := W') hh hh2 D hD)
      have R1 := Hid.mk' (HRB.out _ HO.out.t.be).1
      have C1 := Hid.mk' (HADA.out wr qa ga qb gb qc gc _ _ _ h HH.out HO.out.t)
      clear hs hh hh2 HL1 HA1 HJN HEA HEB HEC HSA HST HCN2 HSM HO
      rcases Nat.mod_two_eq_zero_or_one k with hk2 | hk2
      · have hr2 : (k : Int).tmod 2 = 0 := by rw [Int.tmod_eq_emod_of_nonneg (by omega)]; omega
        clear hk2
        go_wp2_with (first
          | (with_reducible refine at_ld ?_; refine wpList_ld (.tmp 66) rfl rfl b (off + 32 * k) rfl h HH.out R1.out ?_)
          | (go_at_call 12; refine C1.out.mono ?_; clear C1; rintro e W4 ⟨rfl, t4⟩; have R2 := Hid.mk' (HRB.out _ t4.be).2; have C2 := Hid.mk' (HADB.out _ _ _ _ _ _ _ _ _ _ h2 HH2.out t4); clear t4)
          | (with_reducible refine at_ld ?_; refine wpList_ld (.tmp 76) rfl rfl b (off + 32 * d) rfl h2 HH2.out R2.out ?_)
          | (go_at_call 12; refine C2.out.mono ?_; clear C2; rintro e W5 ⟨rfl, t5⟩; have R3 := Hid.mk' (HRB.out _ t5.be).1; have C3 := Hid.mk' (HADB.out _ _ _ _ _ _ _ _ _ _ h HH.out t5); clear t5)
          | (with_reducible refine at_ld ?_; refine wpList_ld (.tmp 82) rfl rfl b (off + 32 * k) rfl h HH.out R3.out ?_)
          | (go_at_call 12; refine C3.out.mono ?_; clear C3; rintro e W6 ⟨rfl, t6⟩; have R4 := Hid.mk' (HRB.out _ t6.be).1; have C4 := Hid.mk' (HADC.out _ _ _ _ _ _ _ _ _ _ h HH.out t6); clear t6)
          | (with_reducible refine at_ld ?_; refine wpList_ld (.tmp 91) rfl rfl b (off + 32 * k) rfl h HH.out R4.out ?_)
          | (go_at_call 12; refine C4.out.mono ?_; clear C4; rintro e W7 ⟨rfl, t7⟩; have T7 := Hid.mk' (HNX.out _ [h] (fun z hz => List.mem_singleton.1 hz) t7); clear t7)
          | fail)
        exact ⟨⟨k + 1, by omega, by go_num, ⟨_, _, T7.out⟩⟩, by simp [intOf]; omega⟩
      · have hr2 : (k : Int).tmod 2 = 1 := by rw [Int.tmod_eq_emod_of_nonneg (by omega)]; omega
        clear hk2
        go_wp2_with (first
          | (with_reducible refine at_ld ?_; refine wpList_ld (.tmp 66) rfl rfl b (off + 32 * k) rfl h HH.out R1.out ?_)
          | (go_at_call 12; refine C1.out.mono ?_; clear C1; rintro e W4 ⟨rfl, t4⟩; have R2 := Hid.mk' (HRB.out _ t4.be).2; have C2 := Hid.mk' (HADB.out _ _ _ _ _ _ _ _ _ _ h2 HH2.out t4); clear t4)
          | (with_reducible refine at_ld ?_; refine wpList_ld (.tmp 76) rfl rfl b (off + 32 * d) rfl h2 HH2.out R2.out ?_)
          | (go_at_call 12; refine C2.out.mono ?_; clear C2; rintro e W5 ⟨rfl, t5⟩; have R3 := Hid.mk' (HRB.out _ t5.be).1; have C3 := Hid.mk' (HADB.out _ _ _ _ _ _ _ _ _ _ h HH.out t5); clear t5)
          | (with_reducible refine at_ld ?_; refine wpList_ld (.tmp 82) rfl rfl b (off + 32 * k) rfl h HH.out R3.out ?_)
          | (go_at_call 12; refine C3.out.mono ?_; clear C3; rintro e W6 ⟨rfl, t6⟩; have T7 := Hid.mk' (HNX.out _ [] (fun z hz => by cases hz) (by rw [List.append_nil]; exact t6)); clear t6)
          | fail)
        exact ⟨⟨k + 1, by omega, by go_num, ⟨_, _, T7.out⟩⟩, by simp [intOf]; omega⟩
    · obtain rfl : k = n := by omega
      have hkn' : ¬ (k : Int) < (k : Int) := by omega
      have hTM : L.take k = L := by rw [← HNL.out, List.take_length]
      have T1 : Hid (ThreeF w.heap.size w wr qa ga qb gb qc gc bits p (AA L) (AA L) (AA XC)) := by
        have t := HO.out.t
        have b2 := HO.out.b2
        rw [hTM] at t b2
        rw [HSM.out XB HO.out.b1 b2] at t
        exact t
      have HXC := Hid.mk' HO.out.c1
      have HJ := Hid.mk' (fun W => HJN.out W qa ga qb gb qc gc XC HXC.out)
      clear hTM HADA HADB HADC HJN HSM HO HL1 HA1
      have E1 := Hid.mk' (HEA.out _ _ _ _ _ _ _ _ _ T1.out)
      obtain ⟨hc0, hc2, hc3⟩ := HCN2.out
      clear HCN2
      rcases Nat.eq_zero_or_pos k with hz | hz
      · have cz := hc3 hz
        subst hz cz
        clear hc2 hc3
        go_wp2_with (first
          | (go_at_call 34; refine E1.out.mono ?_; clear E1; rintro e W4 ⟨b4, c4, rfl, y4, l4⟩; have Y4 := Hid.mk' y4; have T4 := Hid.mk' (T1.out.below l4); have E2 := Hid.mk' (HEB.out _ _ _ _ _ _ _ _ _ T4.out); clear y4 l4 T1)
          | (go_at_call 34; refine E2.out.mono ?_; clear E2; rintro e W5 ⟨b5, c5, rfl, y5, l5⟩; have T5 := Hid.mk' (T4.out.below l5); have S1 := Hid.mk' (HSA.out _ _ _ c4 c5 (Y4.out _ l5) (y5 _ (Below.refl _ _))); clear y5 l5 T4 Y4)
          | (go_at_call 35; refine S1.out.mono ?_; clear S1; rintro e W6 ⟨rfl, l6⟩; have J6 := Hid.mk' (HJ.out _ (T5.out.below l6)); clear l6 T5)
          | (go_at_call 14; refine J6.out.mono ?_; clear J6; rintro e W7 ⟨rfl, t7⟩; have T7 := Hid.mk' t7; clear t7; have E4 := Hid.mk' (HEA.out _ _ _ _ _ _ _ _ _ T7.out))
          | (go_at_call 34; refine E4.out.mono ?_; clear E4; rintro e W8 ⟨b8, c8, rfl, y8, l8⟩; have Y8 := Hid.mk' y8; have T8 := Hid.mk' (T7.out.below l8); have E5 := Hid.mk' (HEC.out _ _ _ _ _ _ _ _ _ T8.out); clear y8 l8 T7)
          | (go_at_call 34; refine E5.out.mono ?_; clear E5; rintro e W9 ⟨b9, c9, rfl, y9, l9⟩; have T9 := Hid.mk' (T8.out.below l9); have S2 := Hid.mk' (HSA.out _ _ _ c8 c9 (Y8.out _ l9) (y9 _ (Below.refl _ _))); clear y9 l9 T8 Y8)
          | (go_at_call 35; refine S2.out.mono ?_; clear S2; rintro e W10 ⟨rfl, l10⟩; have T10 := Hid.mk' (T9.out.below l10); have Q1 := Hid.mk' (HST.out _ _ _ _ _ _ _ _ _ T10.out); clear l10 T9)
          | (go_at_call 33; refine Q1.out.1.mono ?_; rintro e W11 ⟨rfl, hw⟩; obtain rfl := hw.symm; clear hw)
          | (go_at_call 32; refine Q1.out.2.mono ?_; rintro e W11 ⟨rfl, hw⟩; obtain rfl := hw.symm; clear hw)
          | fail)
        go_ret
        exact ⟨rfl, T10.out.be⟩
      · have cz := hc2 hz
        have cz' : (0 : Int) < (c : Int) := by omega
        have hz' : (0 : Int) < (k : Int) := by omega
        clear hc2 hc3
        go_wp2_with (first
          | (go_at_call 34; refine E1.out.mono ?_; clear E1; rintro e W4 ⟨b4, c4, rfl, y4, l4⟩; have Y4 := Hid.mk' y4; have T4 := Hid.mk' (T1.out.below l4); have E2 := Hid.mk' (HEB.out _ _ _ _ _ _ _ _ _ T4.out); clear y4 l4 T1)
          | (go_at_call 34; refine E2.out.mono ?_; clear E2; rintro e W5 ⟨b5, c5, rfl, y5, l5⟩; have T5 := Hid.mk' (T4.out.below l5); have S1 := Hid.mk' (HSA.out _ _ _ c4 c5 (Y4.out _ l5) (y5 _ (Below.refl _ _))); clear y5 l5 T4 Y4)
          | (go_at_call 35; refine S1.out.mono ?_; clear S1; rintro e W6 ⟨rfl, l6⟩; have J6 := Hid.mk' (HJ.out _ (T5.out.below l6)); clear l6 T5)
          | (go_at_call 14; refine J6.out.mono ?_; clear J6; rintro e W7 ⟨rfl, t7⟩; have T7 := Hid.mk' t7; clear t7; have E4 := Hid.mk' (HEA.out _ _ _ _ _ _ _ _ _ T7.out))
          | (go_at_call 34; refine E4.out.mono ?_; clear E4; rintro e W8 ⟨b8, c8, rfl, y8, l8⟩; have Y8 := Hid.mk' y8; have T8 := Hid.mk' (T7.out.below l8); have E5 := Hid.mk' (HEC.out _ _ _ _ _ _ _ _ _ T8.out); clear y8 l8 T7)
          | (go_at_call 34; refine E5.out.mono ?_; clear E5; rintro e W9 ⟨b9, c9, rfl, y9, l9⟩; have T9 := Hid.mk' (T8.out.below l9); have S2 := Hid.mk' (HSA.out _ _ _ c8 c9 (Y8.out _ l9) (y9 _ (Below.refl _ _))); clear y9 l9 T8 Y8)
          | (go_at_call 35; refine S2.out.mono ?_; clear S2; rintro e W10 ⟨rfl, l10⟩; have T10 := Hid.mk' (T9.out.below l10); have Q1 := Hid.mk' (HST.out _ _ _ _ _ _ _ _ _ T10.out); clear l10 T9)
          | (go_at_call 33; refine Q1.out.1.mono ?_; rintro e W11 ⟨rfl, hw⟩; obtain rfl := hw.symm; clear hw)
          | (go_at_call 32; refine Q1.out.2.mono ?_; rintro e W11 ⟨rfl, hw⟩; obtain rfl := hw.symm; clear hw)
          | fail)
        go_ret
        exact ⟨rfl, T10.out.be⟩
end Go.Proofs.Ytnbdohomaadbfaa

namespace Go.Proofs.Ytnbdohomaadbfaa
open Go.RowKit
set_option linter.unusedVariables false
set_option linter.unusedSimpArgs false

theorem WH.done {w W : World} {M : List UInt8} (h : WH w W M) (h0 : 0 < M.length) (hM : M.length ≤ 1000000) : Calls Try.prog 104 #[.pointer (some ⟨w.heap.size, 0, none⟩)] W fun x w' => ∃ b cv, x = .returned (.tuple #[.slice (some ⟨b, 0, none⟩) M.length cv, .int .i64 0]) ∧ (∀ W2, Below w'.heap.size w' W2 → K.Byt W2 (some ⟨b, 0, none⟩) M) ∧ Below W.heap.size W w' := by
  obtain ⟨g', ws, fr, nw⟩ := h
  refine (K.xdone_own W ws (by omega)).mono ?_
  rintro e W' ⟨v, rfl, ow, be⟩
  have e0 : K.dM M 0 = M := if_pos rfl
  rw [e0] at ow
  obtain ⟨b, cv, rfl, _⟩ := ow.open1 h0
  refine ⟨b, cv, rfl, fun W2 h2 => ?_, be⟩
  obtain ⟨a, c, e, k1, k2, k3⟩ := (ow.below h2).open
  cases e
  exact k2
theorem wrap8_pow (r : Nat) (hr : r < 8) : IntKind.u8.wrap (2 ^ r) = ((2 ^ r : Nat) : Int) ∧ 2 ^ r ≤ 128 := by
  have h1 : 2 ^ r ≤ 2 ^ 7 := Nat.pow_le_pow_right (by omega) (by omega)
  have h2 : (2 : Int) ^ r = ((2 ^ r : Nat) : Int) := by simp
  have h3 : (2 : Nat) ^ 7 = 128 := by decide
  refine ⟨?_, by omega⟩
  rw [IntKind.wrap_u8, h2]
  generalize (2 ^ r : Nat) = z at *
  omega
set_option maxRecDepth 100000 in
set_option maxHeartbeats 8000000 in
theorem renc_any (q g bits probes : Nat) (ws : Nat → Nat) (w : World) (hF : RW w q g bits probes (bitAt ws)) (hb0 : 8 ≤ bits) (hb1 : bits ≤ 65536) (hb2 : bits % 8 = 0) (hp : probes ≤ 16) :
    Calls Try.prog 56 #[.pointer (some ⟨q, 0, none⟩)] w (EnPost (encF bits probes ws) w) := by
  have HFW : Hid (∀ W, Below w.heap.size w W → RW W q g bits probes (bitAt ws)) := fun W hb => hF.below hb
  have v1 := K.vint_10 bits (by omega)
  have hpb : (probes : Int) = ((UInt8.ofNat probes).toNat : Int) := by rw [UInt8.toNat_ofNat']; omega
  have HPB := Hid.mk' hpb
  clear hpb
  have HE : Hid ([] ++ K.vint bits ++ [UInt8.ofNat probes] ++ (K.vint (bits / 8) ++ bytesW ws (bits / 8)) = encF bits probes ws) := by show _ = _; unfold encF; simp
  have HPos := Hid.mk' (encF_pos bits probes ws)
  have HLen := Hid.mk' (encF_len bits probes ws hb1)
  have c0 := hF.rc.c0
  have c1 := hF.rc.c1
  have HC0 : Hid (∀ W, Below w.heap.size w W → W.cell? ⟨q, 0, none⟩ = some (.slice (some ⟨g, 0, none⟩) bits bits)) := fun W h => (HFW.out W h).rc.c0
  have HC1 : Hid (∀ W, Below w.heap.size w W → W.cell? ⟨q, 1, none⟩ = some (.int .i64 (probes : Int))) := fun W h => (HFW.out W h).rc.c1
  have HCG : Hid (∀ W, Below w.heap.size w W → ∀ k, k < bits → W.cell? ⟨g, k, none⟩ = some (.bool (bitAt ws k))) := fun W h k hk => (HFW.out W h).rb.cell hk
  have e8 : (bits : Int).tdiv 8 = ((bits / 8 : Nat) : Int) := by rw [Int.tdiv_eq_ediv_of_nonneg (by omega)]; omega
  have e9 : (bits : Int) / 8 = ((bits / 8 : Nat) : Int) := by omega
  have HL8 : Hid ((bytesW ws (bits / 8)).length = bits / 8) := bytesW_len _ _
  have HG8 : Hid (∀ j, j < bits / 8 → (bytesW ws (bits / 8)).getD j 0 = byW ws j) := fun j hj => bytesW_get ws _ j hj
  have h8 : bits / 8 ≤ 8192 := by omega
  have H8B : Hid (bits = 8 * (bits / 8)) := by show _ = _; omega
  have mk2 := run_make_row' (P := Try.prog) 53 5 (.int .u8 0) 1 Try.underlying53 info5x rfl .i64 .i64 (bits / 8) (by omega) (by omega)
  have H0 : Hid ((w.alloc (.cells (madeCells #[.int .u8 0] (bits / 8)) 5)).rowIs w.heap.size 5 (bits / 8) (fun j => .int .u8 (pB ws 0 j : Int))) := (World.rowIs_made w (.int .u8 0) (bits / 8) 5).congr (fun j _ => by rw [pB_zero]; rfl)
  have HB0 : Hid (Below w.heap.size w (w.alloc (.cells (madeCells #[.int .u8 0] (bits / 8)) 5))) := (Below.refl _ _).alloc (Nat.le_refl _) _
  clear hF hb2
  generalize hwid : bytesW ws (bits / 8) = BB at *
  generalize encF bits probes ws = EN at *
  generalize bits / 8 = n8 at *
  clear hwid
  go_enter Try.func56, Try.ntmps56
  go_wp2
  clear mk2
  generalize hB : w.heap.size = B at *
  have HBB := Hid.mk' hB
  clear hB
  go_loopw [4] (fun i wr => ∃ k : Nat, k ≤ bits ∧ i = .int .i64 (k : Int) ∧ Hid (wr.rowIs B 5 n8 (fun j => .int .u8 (pB ws k j : Int))) ∧ Hid (Below B w wr)) (fun i _ => bits - (intOf i).toNat)
  case atStart => exact ⟨0, by omega, rfl, H0, HB0⟩
  case round =>
    obtain ⟨k, hk, rfl, HR, HBe⟩ := hrel
    clear H0 HB0 c0 c1
    have a0 := HC0.out wr HBe.out
    by_cases hkb : k < bits
    · have hkb' : (k : Int) < (bits : Int) := by omega
      have ag := HCG.out wr HBe.out k hkb
      have ix := fun wx => index99 g bits bits k wx hkb
      have hd : k / 8 < n8 := by have := H8B.out; omega
      obtain ⟨hst, hlt⟩ := pB_step ws k
      have hr8 : k % 8 < 8 := Nat.mod_lt _ (by omega)
      cases hbit : bitAt ws k with
      | false =>
        rw [hbit] at ag hst
        have HN : Hid (wr.rowIs B 5 n8 (fun j => .int .u8 (pB ws (k + 1) j : Int))) := HR.out.congr fun j _ => by
          by_cases e : j = k / 8
          · rw [e, hst]; rfl
          · rw [pB_other ws k j e]
        clear hst hlt
        go_wp2
        exact ⟨⟨k + 1, by omega, by go_num, HN, HBe⟩, by simp [intOf]; omega⟩
      | true =>
        rw [hbit] at ag hst
        rw [if_pos rfl] at hst
        obtain ⟨hw1, hw2⟩ := wrap8_pow (k % 8) hr8
        have hsum : pB ws k (k / 8) + 2 ^ (k % 8) ≤ 255 := by
          have h7 : 2 ^ (k % 8) ≤ 128 := hw2
          omega
        have ix2 := fun wx => index53 B n8 n8 (k / 8) wx hd
        have e1 : (k : Int).tdiv 8 = ((k / 8 : Nat) : Int) := by rw [Int.tdiv_eq_ediv_of_nonneg (by omega)]; omega
        have e2 : (k : Int).tmod 8 = ((k % 8 : Nat) : Int) := by rw [Int.tmod_eq_emod_of_nonneg (by omega)]; omega
        have cb : wr.cell? ⟨B, k / 8, none⟩ = some (.int .u8 (pB ws k (k / 8) : Int)) := HR.out.cell hd
        have fb : wr.frozen? ⟨B, k / 8, none⟩ = false := HR.out.frozen _
        have HN : Hid ((wr.setCell ⟨B, k / 8, none⟩ (.int .u8 ((pB ws k (k / 8) : Int) + ((2 ^ (k % 8) : Nat) : Int)))).drew.rowIs B 5 n8 (fun j => .int .u8 (pB ws (k + 1) j : Int))) := (HR.out.set (k / 8) _).congr fun j _ => by
          by_cases e : j = k / 8
          · rw [if_pos e, e, hst]; rfl
          · rw [if_neg e, pB_other ws k j e]
        have HBN : Hid (Below B w (wr.setCell ⟨B, k / 8, none⟩ (.int .u8 ((pB ws k (k / 8) : Int) + ((2 ^ (k % 8) : Nat) : Int)))).drew) := (HBe.out.setCell (p := ⟨B, k / 8, none⟩) (Nat.le_refl _) _).drew
        clear hst hlt
        generalize pB ws k (k / 8) = x at *
        generalize k / 8 = d at *
        generalize k % 8 = r at *
        generalize hy : (2 ^ r : Nat) = y at *
        have hy1 : 0 ≤ y := by omega
        clear hy
        go_wp2
        go_region
        go_wp2
        exact ⟨⟨k + 1, by omega, by go_num, HN, HBN⟩, by simp [intOf]; omega⟩
    · obtain rfl : k = bits := by omega
      have hkb' : ¬ (k : Int) < (k : Int) := by omega
      have a1 := HC1.out wr HBe.out
      have HBY : Hid (∀ W, Below wr.heap.size wr W → K.Byt W (some ⟨B, 0, none⟩) BB) := fun W hW => by
        have hr : wr.rowIs B 5 n8 (fun j => .int .u8 ((BB.getD j 0).toNat : Int)) := HR.out.congr fun j hj => by
          rw [HG8.out j hj]
          have := pB_all ws n8 j hj
          rw [← H8B.out] at this
          rw [this]
        exact K.byt_below (byt_row HL8.out hr) hW
      have hBlt : Hid (B < wr.heap.size) := HR.out.lt
      have HSZ : Hid (B ≤ wr.heap.size) := Nat.le_of_lt HR.out.lt
      have HG0 := Hid.mk' (WH.start wr)
      have HCC0 : Hid (∀ W, Below wr.heap.size wr W → W.cell? ⟨q, 0, none⟩ = some (.slice (some ⟨g, 0, none⟩) k k)) := fun W hW => HC0.out W (HBe.out.trans (hW.mono HSZ.out))
      have HCC1 : Hid (∀ W, Below wr.heap.size wr W → W.cell? ⟨q, 1, none⟩ = some (.int .i64 (probes : Int))) := fun W hW => HC1.out W (HBe.out.trans (hW.mono HSZ.out))
      have b0 := HCC0.out _ HG0.out.below
      clear HC0 HC1 HCG HFW HG8 HR
      go_wp2_with (first
        | (go_at_call 101; refine (HG0.out.uint k (by omega) (by simp)).mono ?_; rintro e W1 ⟨rfl, g1⟩; have G1 := Hid.mk' g1; clear g1; have b1 := HCC1.out _ G1.out.below)
        | (go_at_call 102; refine (G1.out.byte (UInt8.ofNat probes) _ HPB.out (by simp; omega)).mono ?_; rintro e W2 ⟨rfl, g2⟩; have G2 := Hid.mk' g2; clear g2)
        | (go_at_call 103; refine (G2.out.raw (B := BB) B n8 n8 HL8.out (HBY.out _ G2.out.below) hBlt.out (by simp; omega) (by rw [HL8.out]; omega)).mono ?_; rintro e W3 ⟨rfl, g3⟩; rw [HE.out] at g3; have G3 := Hid.mk' g3; clear g3)
        | (go_at_call 104; refine (G3.out.done HPos.out (by have := HLen.out; omega)).mono ?_; rintro e W4 ⟨b4, c4, rfl, y4, l4⟩; have Y4 := Hid.mk' y4; have B4 := Hid.mk' (HBe.out.trans ((G3.out.below.trans (l4.mono G3.out.below.size)).mono HSZ.out)); clear y4 l4)
        | fail)
      go_ret
      refine ⟨b4, c4, rfl, Y4.out, ?_⟩
      rw [HBB.out]
      exact B4.out
end Go.Proofs.Ytnbdohomaadbfaa

namespace Go.Proofs.Ytnbdohomaadbfaa
open Go.RowKit
set_option linter.unusedVariables false
set_option linter.unusedSimpArgs false

set_option maxRecDepth 100000 in
set_option maxHeartbeats 4000000 in
theorem alike_ok (qf gf qg gg bits p : Nat) (ws : Nat → Nat) (w : World) (hf : FW w qf gf bits p ws) (hg : RW w qg gg bits p (bitAt ws)) (hW : Within ws bits) (hlt : ∀ i, ws i < 18446744073709551616) (hob : okB bits = true) (hp : p ≤ 16) :
    Calls Try.prog 27 #[.pointer (some ⟨qf, 0, none⟩), .pointer (some ⟨qg, 0, none⟩)] w fun e w' => e = .returned (.bool true) ∧ Below w.heap.size w w' := by
  have hb := of_decide_eq_true hob
  have C32 := Hid.mk' (bits_any qf gf bits p w hf.fc)
  have C52 := Hid.mk' (rbits_x qg gg bits p w hg.rc)
  have C53 := Hid.mk' (probes_any qf gf bits p w hf.fc)
  have C54 := Hid.mk' (rprobes_x qg gg bits p w hg.rc)
  have C33 := Hid.mk' (set_any qf gf bits p ws w hf hlt hb.2.1)
  have C55 := Hid.mk' (rset_any qg gg bits p _ w hg hb.2.1)
  rw [cntB_bits hW] at C55
  have C34 := Hid.mk' (enc_post qf gf bits p ws w hf hlt hb.1 hb.2.1 hp)
  have C56 : Hid (∀ W, Below w.heap.size w W → Calls Try.prog 56 #[.pointer (some ⟨qg, 0, none⟩)] W (EnPost (encF bits p ws) W)) := fun W h => renc_any qg gg bits p ws W (hg.below h) hb.1 hb.2.1 hb.2.2 hp
  have C35 : Hid (∀ W b1 b2 c1 c2, K.Byt W (some ⟨b1, 0, none⟩) (encF bits p ws) → K.Byt W (some ⟨b2, 0, none⟩) (encF bits p ws) → Calls Try.prog 35 #[.slice (some ⟨b1, 0, none⟩) (encF bits p ws).length c1, .slice (some ⟨b2, 0, none⟩) (encF bits p ws).length c2] W fun e w' => e = .returned (.bool true) ∧ Below W.heap.size W w') := fun W b1 b2 c1 c2 h1 h2 => same_post _ _ _ c1 c2 W h1 h2 (encF_len bits p ws hb.2.1)
  clear hf hg hW hlt hob hb
  generalize encF bits p ws = EN at *
  generalize cntW ws ((bits + 63) / 64) = C at *
  go_enter Try.func27, Try.ntmps27
  go_wp2_with (first
    | (go_at_call 32; refine C32.out.mono ?_; clear C32; rintro e W ⟨rfl, hw⟩; obtain rfl := hw.symm; clear hw)
    | (go_at_call 52; refine C52.out.mono ?_; clear C52; rintro e W ⟨rfl, hw⟩; obtain rfl := hw.symm; clear hw)
    | (go_at_call 53; refine C53.out.mono ?_; clear C53; rintro e W ⟨rfl, hw⟩; obtain rfl := hw.symm; clear hw)
    | (go_at_call 54; refine C54.out.mono ?_; clear C54; rintro e W ⟨rfl, hw⟩; obtain rfl := hw.symm; clear hw)
    | (go_at_call 33; refine C33.out.mono ?_; clear C33; rintro e W ⟨rfl, hw⟩; obtain rfl := hw.symm; clear hw)
    | (go_at_call 55; refine C55.out.mono ?_; clear C55; rintro e W ⟨rfl, hw⟩; obtain rfl := hw.symm; clear hw)
    | (go_at_call 34; refine C34.out.mono ?_; clear C34; rintro e W1 ⟨b1, c1, rfl, y1, l1⟩; have Y1 := Hid.mk' y1; have L1 := Hid.mk' l1; clear y1 l1)
    | (go_at_call 56; refine (C56.out _ L1.out).mono ?_; rintro e W2 ⟨b2, c2, rfl, y2, l2⟩; have D35 := Hid.mk' (C35.out _ b1 b2 c1 c2 (Y1.out _ l2) (y2 _ (Below.refl _ _))); have L2 := Hid.mk' (L1.out.trans (l2.mono L1.out.size)); clear y2 l2)
    | (go_at_call 35; refine D35.out.mono ?_; rintro e W3 ⟨rfl, l3⟩; have L3 := Hid.mk' (L2.out.trans (l3.mono L2.out.size)); clear l3)
    | fail)
  go_ret
  exact ⟨rfl, L3.out⟩
set_option maxRecDepth 100000 in
theorem nil_32 (w : World) : Calls Try.prog 32 #[.pointer none] w fun e w' => e = .returned (.int .i64 0) ∧ w' = w := by
  go_enter Try.func32, Try.ntmps32
  go_wp2
  go_ret
  exact ⟨rfl, rfl⟩
set_option maxRecDepth 100000 in
theorem nil_52 (w : World) : Calls Try.prog 52 #[.pointer none] w fun e w' => e = .returned (.int .i64 0) ∧ w' = w := by
  go_enter Try.func52, Try.ntmps52
  go_wp2
  go_ret
  exact ⟨rfl, rfl⟩
set_option maxRecDepth 100000 in
theorem nil_53 (w : World) : Calls Try.prog 53 #[.pointer none] w fun e w' => e = .returned (.int .i64 0) ∧ w' = w := by
  go_enter Try.func53, Try.ntmps53
  go_wp2
  go_ret
  exact ⟨rfl, rfl⟩
set_option maxRecDepth 100000 in
theorem nil_54 (w : World) : Calls Try.prog 54 #[.pointer none] w fun e w' => e = .returned (.int .i64 0) ∧ w' = w := by
  go_enter Try.func54, Try.ntmps54
  go_wp2
  go_ret
  exact ⟨rfl, rfl⟩
set_option maxRecDepth 100000 in
theorem nil_33 (w : World) : Calls Try.prog 33 #[.pointer none] w fun e w' => e = .returned (.int .i64 0) ∧ w' = w := by
  go_enter Try.func33, Try.ntmps33
  go_wp2
  go_ret
  exact ⟨rfl, rfl⟩
set_option maxRecDepth 100000 in
theorem nil_34 (w : World) : Calls Try.prog 34 #[.pointer none] w fun e w' => e = .returned (.slice none 0 0) ∧ w' = w := by
  go_enter Try.func34, Try.ntmps34
  go_wp2
  go_ret
  exact ⟨rfl, rfl⟩
set_option maxRecDepth 100000 in
theorem nil_56 (w : World) : Calls Try.prog 56 #[.pointer none] w fun e w' => e = .returned (.slice none 0 0) ∧ w' = w := by
  go_enter Try.func56, Try.ntmps56
  go_wp2
  go_ret
  exact ⟨rfl, rfl⟩
set_option maxRecDepth 100000 in
theorem rset_nil (w : World) : Calls Try.prog 55 #[.pointer none] w fun e w' => e = .returned (.int .i64 0) ∧ w' = w := by
  go_enter Try.func55, Try.ntmps55
  go_wp2
  go_loopw [3, 4] (fun n i wr => wr = w ∧ n = .int .i64 0 ∧ i = .int .i64 0) (fun _ i _ => 0)
  case atStart => exact ⟨rfl, rfl, rfl⟩
  case round =>
    obtain ⟨rfl, rfl, rfl⟩ := hrel
    go_wp2
    go_ret
    exact ⟨rfl, rfl⟩
set_option maxRecDepth 100000 in
set_option maxHeartbeats 2000000 in
theorem alike_nil (w : World) : Calls Try.prog 27 #[.pointer none, .pointer none] w fun e w' => e = .returned (.bool true) ∧ Below w.heap.size w w' := by
  have C55 := Hid.mk' (rset_nil w)
  have C35 := Hid.mk' (K.same_any none none [] 0 0 0 w rfl (.inl rfl) (.inl rfl) (by omega))
  go_enter Try.func27, Try.ntmps27
  go_wp2_with (first
    | (go_at_call 32; refine (nil_32 w).mono ?_; rintro e W ⟨rfl, hw⟩; obtain rfl := hw.symm; clear hw)
    | (go_at_call 52; refine (nil_52 w).mono ?_; rintro e W ⟨rfl, hw⟩; obtain rfl := hw.symm; clear hw)
    | (go_at_call 53; refine (nil_53 w).mono ?_; rintro e W ⟨rfl, hw⟩; obtain rfl := hw.symm; clear hw)
    | (go_at_call 54; refine (nil_54 w).mono ?_; rintro e W ⟨rfl, hw⟩; obtain rfl := hw.symm; clear hw)
    | (go_at_call 33; refine (nil_33 w).mono ?_; rintro e W ⟨rfl, hw⟩; obtain rfl := hw.symm; clear hw)
    | (go_at_call 34; refine (nil_34 w).mono ?_; rintro e W ⟨rfl, hw⟩; obtain rfl := hw.symm; clear hw)
    | (go_at_call 56; refine (nil_56 w).mono ?_; rintro e W ⟨rfl, hw⟩; obtain rfl := hw.symm; clear hw)
    | (go_at_call 55; refine C55.out.mono ?_; clear C55; rintro e W ⟨rfl, hw⟩; obtain rfl := hw.symm; clear hw)
    | (go_at_call 35; refine C35.out.mono ?_; clear C35; rintro e W ⟨rfl, m, hw⟩; obtain rfl := hw.symm; clear hw)
    | fail)
  go_ret
  exact ⟨rfl, K.below_drewN (Below.refl _ _) m⟩
end Go.Proofs.Ytnbdohomaadbfaa

namespace Go.Proofs.Ytnbdohomaadbfaa.K
open Go.RowKit
set_option linter.unusedVariables false
set_option linter.unusedSimpArgs false

variable {T : TypeId} {r cap : Nat} {a : Option Addr} {L : List UInt8} {s : St}
set_option maxRecDepth 100000 in
set_option maxHeartbeats 400000 in
theorem qfail_any (e p : Int) (w : World) (h : RD w T r a cap L s) :
    Calls Try.prog 68 #[.pointer (some ⟨r, 0, none⟩), .int .i64 e, .int .i64 p] w fun x w' => x = .returned (.tuple #[]) ∧ On w w' T r a cap L (s.fl e p) := by
  by_cases hb : s.bad = 0
  · by_cases he : e = 0
    · subst he
      rw [St.fl_ok]
      have HR : Hid (On w w T r a cap L s) := h.on
      have c2 := h.c2
      rw [hb] at c2
      clear h
      go_enter Try.func68, Try.ntmps68
      go_wp2
      go_end0
      exact ⟨rfl, HR.out⟩
    · rw [St.fl_new s e p hb he]
      have HR : Hid (On w (((w.setCell ⟨r, 2, none⟩ (.int .i64 e)).setCell ⟨r, 3, none⟩ (.int .i64 p))) T r a cap L ⟨s.k, e, p⟩) := h.on.set23 e p
      have c2 := h.c2
      rw [hb] at c2
      have f2 := h.fz 2
      have f3 := h.fz 3
      have hlt := h.lt
      have c3 := h.c3
      clear h
      go_enter Try.func68, Try.ntmps68
      go_wp2
      go_end0
      exact ⟨rfl, HR.out⟩
  · rw [St.fl_bad s e p hb]
    have HR : Hid (On w w T r a cap L s) := h.on
    have c2 := h.c2
    clear h
    go_enter Try.func68, Try.ntmps68
    go_wp2
    go_end0
    exact ⟨rfl, HR.out⟩
theorem qfail_on (w : World) (hb : s.bad = 0) (e p : Int) (he : e ≠ 0) (wx : World) (h : On w wx T r a cap L s) : Calls Try.prog 68 #[.pointer (some ⟨r, 0, none⟩), .int .i64 e, .int .i64 p] wx fun x w' => x = .returned (.tuple #[]) ∧ On w w' T r a cap L ⟨s.k, e, p⟩ := (qfail_any e p wx h.1).mono fun x w' hx => by
  rw [St.fl_new s _ _ hb he] at hx
  exact ⟨hx.1, h.trans hx.2⟩
set_option maxRecDepth 100000 in
set_option maxHeartbeats 400000 in
theorem qat_any (w : World) (h : RD w T r a cap L s) :
    Calls Try.prog 66 #[.pointer (some ⟨r, 0, none⟩)] w fun e w' => e = .returned (.int .i64 (s.k : Int)) ∧ w' = w := by
  have c1 := h.c1
  clear h
  go_enter Try.func66, Try.ntmps66
  go_wp2
  go_ret
  exact ⟨rfl, rfl⟩
set_option maxRecDepth 100000 in
set_option maxHeartbeats 400000 in
theorem qfault_any (w : World) (h : RD w T r a cap L s) :
    Calls Try.prog 117 #[.pointer (some ⟨r, 0, none⟩)] w fun e w' => e = .returned (.tuple #[.int .i64 s.bad, .int .i64 s.wh]) ∧ ∃ m, w' = w.drewN m := by
  have c2 := h.c2
  have c3 := h.c3
  clear h
  go_enter Try.func117, Try.ntmps117
  go_wp2
  go_quiet (fail)
  go_wp2
  go_ret2
  exact ⟨rfl, _, rfl⟩
/-- What ends leaves. -/
def sEnds (L : List UInt8) (n : Nat) (s : St) : St := if s.bad = 0 then (if s.k + n ≤ L.length then s else ⟨s.k, 20, L.length⟩) else s
set_option maxRecDepth 100000 in
set_option maxHeartbeats 400000 in
theorem qends_any (n : Nat) (hn : n < 1000) (w : World) (h : RD w T r a cap L s) :
    Calls Try.prog 115 #[.pointer (some ⟨r, 0, none⟩), .int .i64 (n : Int)] w fun e w' => e = .returned (.bool (decide ((sEnds L n s).bad ≠ 0))) ∧ On w w' T r a cap L (sEnds L n s) := by
  by_cases hb : s.bad = 0
  · have HK := Hid.mk' (qfail_on (a := a) (cap := cap) (L := L) (T := T) (r := r) w hb 20 (L.length : Int) (by decide))
    have HR := Hid.mk' h.on
    have c0 := h.c0
    have c1 := h.c1
    have c2 := h.c2
    have hk := h.at_le
    have hf := h.few
    rw [hb] at c2
    clear h
    by_cases hk2 : s.k + n ≤ L.length
    · have e0 : sEnds L n s = s := by unfold sEnds; rw [if_pos hb, if_pos hk2]
      rw [e0, hb]
      have hlt : ¬ (L.length : Int) - (s.k : Int) < (n : Int) := by omega
      go_enter Try.func115, Try.ntmps115
      go_wp2
      try (go_quiet (fail); go_wp2)
      go_ret
      exact ⟨rfl, by first | exact HR.out | exact HR.out.drew _⟩
    · have e0 : sEnds L n s = ⟨s.k, 20, L.length⟩ := by unfold sEnds; rw [if_pos hb, if_neg hk2]
      rw [e0]
      have hlt : (L.length : Int) - (s.k : Int) < (n : Int) := by omega
      go_enter Try.func115, Try.ntmps115
      go_wp2
      go_quiet (fail)
      go_wp2_with fail
      refine (HK.out _ (HR.out.drew _)).mono ?_
      rintro e w2 ⟨rfl, ho⟩
      have HO := Hid.mk' ho
      have c2' := ho.1.c2
      clear ho
      go_wp2
      go_ret
      exact ⟨rfl, HO.out⟩
  · have e0 : sEnds L n s = s := by unfold sEnds; rw [if_neg hb]
    rw [e0]
    have HR := Hid.mk' h.on
    have c2 := h.c2
    clear h
    go_enter Try.func115, Try.ntmps115
    go_wp2
    try (go_quiet (fail); go_wp2)
    go_ret
    exact ⟨ret_bool (by simp [hb]), by first | exact HR.out | exact HR.out.drew _⟩

theorem sEnds_ok {n : Nat} (hb : s.bad = 0) (hk : s.k + n ≤ L.length) : sEnds L n s = s := by unfold sEnds; rw [if_pos hb, if_pos hk]
theorem sEnds_no {n : Nat} (hb : s.bad = 0) (hk : ¬ s.k + n ≤ L.length) : sEnds L n s = ⟨s.k, 20, L.length⟩ := by unfold sEnds; rw [if_pos hb, if_neg hk]
theorem sEnds_bad {n : Nat} (hb : ¬ s.bad = 0) : sEnds L n s = s := by unfold sEnds; rw [if_neg hb]
theorem qends_ok (n : Nat) (hn : n < 1000) (w : World) (h : RD w T r a cap L s) (hb : s.bad = 0) (hk : s.k + n ≤ L.length) :
    Calls Try.prog 115 #[.pointer (some ⟨r, 0, none⟩), .int .i64 (n : Int)] w fun e w' => e = .returned (.bool false) ∧ On w w' T r a cap L s := by
  have := qends_any n hn w h
  rw [sEnds_ok hb hk, hb] at this
  exact this
theorem qends_no (n : Nat) (hn : n < 1000) (w : World) (h : RD w T r a cap L s) (hb : s.bad = 0) (hk : ¬ s.k + n ≤ L.length) :
    Calls Try.prog 115 #[.pointer (some ⟨r, 0, none⟩), .int .i64 (n : Int)] w fun e w' => e = .returned (.bool true) ∧ On w w' T r a cap L ⟨s.k, 20, L.length⟩ := by
  have := qends_any n hn w h
  rw [sEnds_no hb hk] at this
  exact this
theorem qends_bad (n : Nat) (hn : n < 1000) (w : World) (h : RD w T r a cap L s) (hb : ¬ s.bad = 0) :
    Calls Try.prog 115 #[.pointer (some ⟨r, 0, none⟩), .int .i64 (n : Int)] w fun e w' => e = .returned (.bool true) ∧ On w w' T r a cap L s := by
  have := qends_any n hn w h
  rw [sEnds_bad hb, show decide (s.bad ≠ 0) = true by simp [hb]] at this
  exact this
theorem rd_cell {w : World} (h : RD w T r a cap L s) : ∃ b off, (0 < L.length → a = some ⟨b, off, none⟩ ∧ b ≠ r) ∧ ∀ j, j < L.length → w.cell? ⟨b, off + j, none⟩ = some (.int .u8 (at8 L j)) := by
  rcases h.byt with e | ⟨b, off, rfl, hc⟩
  · refine ⟨0, 0, fun h0 => ?_, fun j hj => ?_⟩
    · rw [e] at h0; simp at h0
    · rw [e] at hj; simp at hj
  · exact ⟨b, off, fun _ => ⟨rfl, (h.plain _ rfl).2⟩, hc⟩
set_option maxRecDepth 100000 in
set_option maxHeartbeats 1000000 in
theorem qbyte_any (w : World) (h : RD w T r a cap L s) :
    Calls Try.prog 69 #[.pointer (some ⟨r, 0, none⟩)] w fun e w' => e = .returned (.int .u8 (rByte L s).1) ∧ On w w' T r a cap L (rByte L s).2 := by
  by_cases hb : s.bad = 0
  · by_cases hk : s.k + 1 ≤ L.length
    · have e0 : rByte L s = (at8 L s.k, ⟨s.k + 1, s.bad, s.wh⟩) := by unfold rByte; rw [if_pos hb, if_pos hk]
      rw [e0]
      clear e0
      have HE := Hid.mk' (qends_ok 1 (by decide) w h hb hk)
      obtain ⟨b, off, ea, hc⟩ := rd_cell h
      obtain ⟨rfl, hbr⟩ := ea (by omega)
      have cb0 := hc s.k (by omega)
      have hf := h.few
      clear h hc ea
      go_enter Try.func69, Try.ntmps69
      go_wp2_with fail
      refine HE.out.mono ?_
      rintro e w1 ⟨rfl, ho⟩
      have c0 := ho.1.c0
      have c1 := ho.1.c1
      have f1 := ho.1.fz 1
      have HO := Hid.mk' (ho.set1 (s.k + 1) ((s.k : Int) + 1) (by omega) hk)
      go_wp2
      have d0 := HO.out.1.c0
      have d1 : (w1.setCell ⟨r, 1, none⟩ (.int .i64 ((s.k : Int) + 1))).cell? ⟨r, 1, none⟩ = some (.int .i64 ((s.k : Int) + 1)) := HO.out.1.c1
      have d2 := HO.out.2.cell (p := ⟨b, off + s.k, none⟩) hbr cb0
      clear ho cb0
      generalize w1.setCell ⟨r, 1, none⟩ (.int .i64 ((s.k : Int) + 1)) = W at *
      go_quiet (fail)
      go_wp2
      go_ret
      exact ⟨rfl, HO.out.drew _⟩
    · have e0 : rByte L s = (0, ⟨s.k, 20, L.length⟩) := by unfold rByte; rw [if_pos hb, if_neg hk]
      rw [e0]
      clear e0
      have HE := Hid.mk' (qends_no 1 (by decide) w h hb hk)
      clear h
      go_enter Try.func69, Try.ntmps69
      go_wp2_with fail
      refine HE.out.mono ?_
      rintro e w1 ⟨rfl, ho⟩
      have HO := Hid.mk' ho
      clear ho
      go_wp2
      go_ret
      exact ⟨rfl, HO.out⟩
  · have e0 : rByte L s = (0, s) := by unfold rByte; rw [if_neg hb]
    rw [e0]
    have HE := Hid.mk' (qends_bad 1 (by decide) w h hb)
    clear h e0
    go_enter Try.func69, Try.ntmps69
    go_wp2_with fail
    refine HE.out.mono ?_
    rintro e w1 ⟨rfl, ho⟩
    have HO := Hid.mk' ho
    clear ho
    go_wp2
    go_ret
    exact ⟨rfl, HO.out⟩

set_option maxRecDepth 100000 in
set_option maxHeartbeats 400000 in
theorem qdone_any (w : World) (h : RD w T r a cap L s) :
    Calls Try.prog 71 #[.pointer (some ⟨r, 0, none⟩)] w fun e w' => e = .returned (.tuple #[.int .i64 (if s.bad = 0 ∧ s.k < L.length then 22 else s.bad), .int .i64 (if s.bad = 0 ∧ s.k < L.length then (s.k : Int) else s.wh)]) ∧ On w w' T r a cap L s := by
  have HF := Hid.mk' (fun (wx : World) (hx : On w wx T r a cap L s) => qfault_any wx hx.1)
  have HR := Hid.mk' h.on
  have c0 := h.c0
  have c1 := h.c1
  have c2 := h.c2
  have hk := h.at_le
  clear h
  by_cases hb : s.bad = 0
  · by_cases hl : s.k < L.length
    · rw [if_pos ⟨hb, hl⟩, if_pos ⟨hb, hl⟩]
      have hl' : (s.k : Int) < (L.length : Int) := by omega
      rw [hb] at c2
      go_enter Try.func71, Try.ntmps71
      go_wp2
      go_quiet (fail)
      have HON2 := Hid.mk' (HR.out.drew nq)
      generalize w.drewN nq = W at *
      have d1 := HON2.out.1.c1
      go_wp2
      try (go_quiet (fail); go_wp2)
      go_ret2
      exact ⟨rfl, by first | exact HON2.out | exact HON2.out.drew _⟩
    · rw [if_neg (fun h => hl h.2), if_neg (fun h => hl h.2)]
      have hl' : ¬ (s.k : Int) < (L.length : Int) := by omega
      rw [hb] at c2
      go_enter Try.func71, Try.ntmps71
      go_wp2
      go_quiet (fail)
      go_wp2_with fail
      refine (HF.out _ (HR.out.drew _)).mono ?_
      rintro e w1 ⟨rfl, m, rfl⟩
      go_wp2
      go_ret2
      exact ⟨by first | rfl | (rw [hb]; rfl) | rw [hb], HR.out.drew _⟩
  · rw [if_neg (fun h => hb h.1), if_neg (fun h => hb h.1)]
    go_enter Try.func71, Try.ntmps71
    go_wp2
    go_quiet (fail)
    go_wp2_with fail
    refine (HF.out _ (HR.out.drew _)).mono ?_
    rintro e w1 ⟨rfl, m, rfl⟩
    go_wp2
    go_ret2
    exact ⟨by first | rfl | (rw [hb]; rfl) | rw [hb], HR.out.drew _⟩
end Go.Proofs.Ytnbdohomaadbfaa.K

namespace Go.Proofs.Ytnbdohomaadbfaa.K
open Go.RowKit
set_option linter.unusedVariables false
set_option linter.unusedSimpArgs false

theorem ad_j (vv b j : Nat) (h : vv + b * 2 ^ (7 * j) < 18446744073709551616) : IntKind.u64.wrap ((vv : Int) + IntKind.u64.wrap ((b : Int) * 2 ^ (7 * j))) = (vv : Int) + (b : Int) * 2 ^ (7 * j) := by
  have e2 : (b : Int) * 2 ^ (7 * j) = ((b * 2 ^ (7 * j) : Nat) : Int) := by push_cast; rfl
  rw [e2, IntKind.wrap_u64, IntKind.wrap_u64]
  generalize b * 2 ^ (7 * j) = p at *
  omega
theorem tup2 {a b : Int} {c d : Value} (h : a = b) (h2 : c = d) : Ending.returned (.tuple #[.int .u64 a, c]) = .returned (.tuple #[.int .u64 b, d]) := by rw [h, h2]
theorem sm_j (vv b j : Nat) (hv : vv < 2 ^ (7 * j)) (hj : j ≤ 8) (hb : b < 128) : vv + b * 2 ^ (7 * j) < 18446744073709551616 := by
  have := pow7 j hj
  have : b * 2 ^ (7 * j) ≤ 127 * 2 ^ (7 * j) := Nat.mul_le_mul_right _ (by omega)
  omega
variable {T : TypeId} {r cap : Nat} {a : Option Addr} {L : List UInt8} {s : St}
set_option maxRecDepth 100000 in
set_option maxHeartbeats 1000000 in
theorem qnumber_any (w : World) (h : RD w T r a cap L s) (hb : s.bad = 0) :
    Calls Try.prog 114 #[.pointer (some ⟨r, 0, none⟩)] w fun e w' => e = .returned (.tuple #[.int .u64 (if (num L s.k).why = 0 then ((num L s.k).v : Int) else 0), .int .i64 (if (num L s.k).why = 0 then ((num L s.k).size : Int) else 0)]) ∧ On w w' T r a cap L (s.fl (num L s.k).why (num L s.k).place) := by
  obtain ⟨N, hN⟩ : ∃ N, num L s.k = N := ⟨_, rfl⟩
  rw [hN]
  have HN : Hid (numL L.length s.k (L.drop (s.k + 0)) 0 0 = N) := hN
  have HK := Hid.mk' (qfail_on (a := a) (cap := cap) (L := L) (T := T) (r := r) w hb)
  clear hN
  have hk := h.at_le
  have hf := h.few
  obtain ⟨b, off, ea, hc⟩ := rd_cell h
  have HR := Hid.mk' h.on
  have HC : Hid (∀ wx, On w wx T r a cap L s → ∀ j, j < L.length → a = some ⟨b, off, none⟩ ∧ wx.cell? ⟨b, off + j, none⟩ = some (.int .u8 (at8 L j))) := fun wx hx j hj => ⟨(ea (by omega)).1, hx.2.cell (p := ⟨b, off + j, none⟩) (ea (by omega)).2 (hc j hj)⟩
  clear h ea hc
  go_enter Try.func114, Try.ntmps114
  go_wp2
  go_loopw [4, 5] (fun v i wr => ∃ j vv : Nat, v = .int .u64 (vv : Int) ∧ i = .int .i64 (j : Int) ∧ j ≤ 9 ∧ Hid (vv < 2 ^ (7 * j)) ∧ Hid (numL L.length s.k (L.drop (s.k + j)) j vv = N) ∧ Hid (On w wr T r a cap L s)) (fun _ i _ => 10 - (intOf i).toNat)
  case atStart => exact ⟨0, 0, rfl, rfl, by omega, by show 0 < 2 ^ (7 * 0); decide, HN, HR⟩
  case round =>
    clear HN HR
    obtain ⟨j, vv, rfl, rfl, hj, HV, HN, HON⟩ := hrel
    have c0 := HON.out.1.c0
    have c1 := HON.out.1.c1
    have hj10 : (j : Int) < 10 := by omega
    by_cases hend : s.k + j < L.length
    · have hend' : ¬ (L.length : Int) ≤ (s.k : Int) + (j : Int) := by omega
      obtain ⟨rfl, -⟩ := HC.out wr HON.out (s.k + j) hend
      obtain ⟨bn, hbn⟩ : ∃ bn : Nat, at8 L (s.k + j) = (bn : Int) := ⟨_, rfl⟩
      have hb255 : bn ≤ 255 := by have := at8_hi L (s.k + j); omega
      have hst := num_step L s.k j vv bn (by omega) hbn
      rw [HN.out] at hst
      have HC' : Hid (∀ wx, On w wx T r (some ⟨b, off, none⟩) cap L s → wx.cell? ⟨b, off + (s.k + j), none⟩ = some (.int .u8 (bn : Int))) := fun wx hx => by
        rw [← hbn]
        exact (HC.out wx hx (s.k + j) hend).2
      have htn : ((s.k : Int) + (j : Int)).toNat = s.k + j := by omega
      clear hbn HN HC
      go_wp2
      go_quiet (fail)
      have HON1 := Hid.mk' (HON.out.drew nq)
      generalize wr.drewN nq = W1 at *
      clear HON c0 c1
      have c0 := HON1.out.1.c0
      have c1 := HON1.out.1.c1
      have cc := HC'.out _ HON1.out
      go_wp2
      go_quiet (fail)
      have HON2 := Hid.mk' (HON1.out.drew nq)
      generalize W1.drewN nq = W2 at *
      clear HON1 c0 c1 cc HC'
      have c1 := HON2.out.1.c1
      by_cases hbad : (j = 9 ∧ 1 < bn) ∨ (0 < j ∧ bn = 0)
      · rw [if_pos hbad] at hst
        subst hst
        rcases hbad with ⟨h9, h1⟩ | ⟨h9, h1⟩
        · subst h9
          have h1' : (1 : Int) < (bn : Int) := by omega
          go_wp2_with fail
          refine (HK.out 21 _ (by decide) _ HON2.out).mono ?_
          rintro e w1 ⟨rfl, ho⟩
          have HO := Hid.mk' ho
          clear ho
          go_wp2
          go_ret2
          exact ⟨rfl, by rw [St.fl_new _ _ _ hb (by decide)]; exact HO.out⟩
        · subst h1
          have h9' : (0 : Int) < (j : Int) := by omega
          by_cases h99 : j = 9
          · subst h99
            go_wp2_with fail
            refine (HK.out 21 _ (by decide) _ HON2.out).mono ?_
            rintro e w1 ⟨rfl, ho⟩
            have HO := Hid.mk' ho
            clear ho
            go_wp2
            go_ret2
            exact ⟨rfl, by rw [St.fl_new _ _ _ hb (by decide)]; exact HO.out⟩
          · have h99' : ¬ (j : Int) = 9 := by omega
            go_wp2_with fail
            refine (HK.out 21 _ (by decide) _ HON2.out).mono ?_
            rintro e w1 ⟨rfl, ho⟩
            have HO := Hid.mk' ho
            clear ho
            go_wp2
            go_ret2
            exact ⟨rfl, by rw [St.fl_new _ _ _ hb (by decide)]; exact HO.out⟩
      · rw [if_neg hbad] at hst
        by_cases hsm : bn < 128
        · rw [if_pos hsm] at hst
          have hsm' : (bn : Int) < 128 := by omega
          have hmod : (bn : Int) % 128 = (bn : Int) := by omega
          by_cases h99 : j = 9
          · subst h99
            have hb1 : ¬ (1 : Int) < (bn : Int) := by omega
            have hb0 : ¬ (bn : Int) = 0 := by omega
            subst hst
            clear hbad
            go_wp2_with fail
            go_ret2
            exact ⟨tup2 (by rw [IntKind.wrap_u64]; have := HV.out; omega) rfl, by rw [St.fl_ok]; exact HON2.out⟩
          · have h99' : ¬ (j : Int) = 9 := by omega
            by_cases h00 : j = 0
            · subst h00
              subst hst
              clear hbad
              go_wp2_with fail
              go_ret2
              exact ⟨tup2 (by rw [IntKind.wrap_u64]; have := HV.out; omega) rfl, by rw [St.fl_ok]; exact HON2.out⟩
            · have h00' : (0 : Int) < (j : Int) := by omega
              have hb0 : ¬ (bn : Int) = 0 := by omega
              have h7 : (7 : Int) * (j : Int) ≤ 64 := by omega
              subst hst
              clear hbad
              go_wp2_with fail
              go_ret2
              exact ⟨tup2 (ad_j vv bn j (sm_j vv bn j HV.out (by omega) hsm)) rfl, by rw [St.fl_ok]; exact HON2.out⟩
        · rw [if_neg hsm] at hst
          have hsm' : ¬ (bn : Int) < 128 := by omega
          have hmod : (bn : Int) % 128 = ((bn - 128 : Nat) : Int) := by omega
          have hb0 : ¬ (bn : Int) = 0 := by omega
          have h99 : j ≠ 9 := fun h => hbad (.inl ⟨h, by omega⟩)
          have h99' : ¬ (j : Int) = 9 := by omega
          have HST := Hid.mk' hst.symm
          have hV2 : Hid (vv + (bn - 128) * 2 ^ (7 * j) < 2 ^ (7 * (j + 1))) := by
            show _ < _
            have hV := HV.out
            rw [pow7s]
            have : (bn - 128) * 2 ^ (7 * j) ≤ 127 * 2 ^ (7 * j) := Nat.mul_le_mul_right _ (by omega)
            omega
          clear hst hbad
          by_cases h00 : j = 0
          · subst h00
            go_wp2_with fail
            exact ⟨⟨0 + 1, vv + (bn - 128) * 2 ^ (7 * 0), congrArg _ (by rw [IntKind.wrap_u64]; have := HV.out; omega), rfl, by omega, hV2, HST, HON2⟩, by simp [intOf]⟩
          · have h00' : (0 : Int) < (j : Int) := by omega
            have h7 : (7 : Int) * (j : Int) ≤ 64 := by omega
            go_wp2_with fail
            exact ⟨⟨j + 1, vv + (bn - 128) * 2 ^ (7 * j), congrArg _ (by rw [ad_j vv (bn - 128) j (sm_j vv (bn - 128) j HV.out (by omega) (by omega))]; push_cast; rfl), by go_num, by omega, hV2, HST, HON2⟩, by simp [intOf]; omega⟩
    · have eN : N = ⟨vv, 0, 20, L.length⟩ := by rw [← HN.out]; exact num_end L s.k j vv hend
      subst eN
      have hend' : (L.length : Int) ≤ (s.k : Int) + (j : Int) := by omega
      clear HN HC
      go_wp2
      go_quiet (fail)
      have HON1 := Hid.mk' (HON.out.drew nq)
      generalize wr.drewN nq = W1 at *
      clear HON c0 c1
      have c0 := HON1.out.1.c0
      go_wp2_with fail
      refine (HK.out 20 _ (by decide) _ HON1.out).mono ?_
      rintro e w1 ⟨rfl, ho⟩
      have HO := Hid.mk' ho
      clear ho
      go_wp2
      go_ret2
      exact ⟨rfl, by rw [St.fl_new _ _ _ hb (by decide)]; exact HO.out⟩
end Go.Proofs.Ytnbdohomaadbfaa.K

namespace Go.Proofs.Ytnbdohomaadbfaa.K
open Go.RowKit
set_option linter.unusedVariables false
set_option linter.unusedSimpArgs false

variable {T : TypeId} {r cap : Nat} {a : Option Addr} {L : List UInt8} {s : St}
theorem qnum_ok (w : World) (h : RD w T r a cap L s) (hb : s.bad = 0) (v sz : Nat) (pl : Int) (hN : num L s.k = ⟨v, sz, 0, pl⟩) :
    Calls Try.prog 114 #[.pointer (some ⟨r, 0, none⟩)] w fun e w' => e = .returned (.tuple #[.int .u64 (v : Int), .int .i64 (sz : Int)]) ∧ On w w' T r a cap L s := by
  have := qnumber_any w h hb
  rw [hN] at this
  simp only [if_true, St.fl_ok] at this
  exact this
theorem qnum_no (w : World) (h : RD w T r a cap L s) (hb : s.bad = 0) (v sz : Nat) (why pl : Int) (hN : num L s.k = ⟨v, sz, why, pl⟩) (hy : why ≠ 0) :
    Calls Try.prog 114 #[.pointer (some ⟨r, 0, none⟩)] w fun e w' => e = .returned (.tuple #[.int .u64 0, .int .i64 0]) ∧ On w w' T r a cap L ⟨s.k, why, pl⟩ := by
  have := qnumber_any w h hb
  rw [hN] at this
  simp only [if_neg hy, St.fl_new s why pl hb hy] at this
  exact this
set_option maxRecDepth 100000 in
set_option maxHeartbeats 1000000 in
theorem quint_any (most : Nat) (hm : most < 18446744073709551616) (w : World) (h : RD w T r a cap L s) :
    Calls Try.prog 67 #[.pointer (some ⟨r, 0, none⟩), .int .u64 (most : Int)] w fun e w' => e = .returned (.int .u64 ((rUint L most s).1 : Int)) ∧ On w w' T r a cap L (rUint L most s).2 := by
  by_cases hb : s.bad = 0
  · have c2 := h.c2
    rw [hb] at c2
    have HU : rUint L most s = (if (num L s.k).why = 0 then (if (num L s.k).v ≤ most then ((num L s.k).v, ⟨s.k + (num L s.k).size, s.bad, s.wh⟩) else (0, ⟨s.k, 2, s.k⟩)) else (0, ⟨s.k, (num L s.k).why, (num L s.k).place⟩)) := by unfold rUint; rw [if_pos hb]
    rw [HU]
    have hok := num_ok L s.k h.at_le
    rcases hN : num L s.k with ⟨v, sz, why, pl⟩
    rw [hN] at hok
    simp only at hok ⊢
    by_cases hy : why = 0
    · subst hy
      rw [if_pos rfl]
      have HN' := Hid.mk' (qnum_ok w h hb v sz pl hN)
      obtain ⟨hs0, hs1, hv64⟩ := hok.1 rfl
      have hf := h.few
      have hs0' : ¬ (sz : Int) = 0 := by omega
      clear HU h hN hok
      by_cases hv : v ≤ most
      · rw [if_pos hv]
        have hv' : ¬ (most : Int) < (v : Int) := by omega
        go_enter Try.func67, Try.ntmps67
        go_wp2_with fail
        refine HN'.out.mono ?_
        rintro e w2 ⟨rfl, ho⟩
        have c1 := ho.1.c1
        have f1 := ho.1.fz 1
        have HO := Hid.mk' (ho.set1 (s.k + sz) ((s.k : Int) + (sz : Int)) (by omega) hs1)
        have HO' := Hid.mk' (fun m => (ho.drew m).set1 (s.k + sz) ((s.k : Int) + (sz : Int)) (by omega) hs1)
        clear ho
        go_wp2
        try (go_quiet (fail); go_wp2)
        go_ret
        exact ⟨rfl, by first | exact HO.out | exact HO'.out _⟩
      · rw [if_neg hv]
        have hv' : (most : Int) < (v : Int) := by omega
        have HK := Hid.mk' (qfail_on (a := a) (cap := cap) (L := L) (T := T) (r := r) w hb 2 (s.k : Int) (by decide))
        go_enter Try.func67, Try.ntmps67
        go_wp2_with fail
        refine HN'.out.mono ?_
        rintro e w2 ⟨rfl, ho⟩
        have c1 := ho.1.c1
        have HON := Hid.mk' ho
        clear ho
        go_wp2_with fail
        refine (HK.out _ HON.out).mono ?_
        rintro e w3 ⟨rfl, ho⟩
        have HO := Hid.mk' ho
        clear ho
        go_wp2
        go_ret
        exact ⟨rfl, HO.out⟩
    · rw [if_neg hy]
      have HN' := Hid.mk' (qnum_no w h hb v sz why pl hN hy)
      clear HU h hN hok
      go_enter Try.func67, Try.ntmps67
      go_wp2_with fail
      refine HN'.out.mono ?_
      rintro e w2 ⟨rfl, ho⟩
      have HO := Hid.mk' ho
      clear ho
      go_wp2
      go_ret
      exact ⟨rfl, HO.out⟩
  · have e0 : rUint L most s = (0, s) := by unfold rUint; rw [if_neg hb]
    rw [e0]
    have HO := Hid.mk' h.on
    have c2 := h.c2
    clear h e0
    go_enter Try.func67, Try.ntmps67
    go_wp2
    go_ret
    exact ⟨rfl, HO.out⟩
end Go.Proofs.Ytnbdohomaadbfaa.K

namespace Go.Proofs.Ytnbdohomaadbfaa.K
open Go.RowKit
set_option linter.unusedVariables false
set_option linter.unusedSimpArgs false

variable {T : TypeId} {r cap : Nat} {a : Option Addr} {L : List UInt8} {s : St}
theorem rCnt_num {L : List UInt8} {most : Nat} {s : St} {n hd : Nat} (h : rCnt L most s = (some (n, hd), s)) : ∃ pl, num L s.k = ⟨n, hd, 0, pl⟩ ∧ n ≤ most ∧ n + (s.k + hd) ≤ L.length := by
  unfold rCnt at h
  generalize num L s.k = N at *
  obtain ⟨v, sz, why, pl⟩ := N
  simp only at h
  split at h
  · split at h
    · split at h
      · simp only [Prod.mk.injEq, Option.some.injEq, and_true] at h
        obtain ⟨rfl, rfl⟩ := h
        rename_i h0 h1 h2
        subst h0
        exact ⟨pl, rfl, h1, h2⟩
      · simp at h
    · simp at h
  · simp at h
set_option maxRecDepth 100000 in
set_option maxHeartbeats 2000000 in
theorem qlen_some (most : Nat) (hm : most ≤ 1000000) (w : World) (h : RD w T r a cap L s) (hb : s.bad = 0) (n hd : Nat) (hc : rCnt L most s = (some (n, hd), s)) :
    Calls Try.prog 116 #[.pointer (some ⟨r, 0, none⟩), .int .i64 (most : Int), .int .i64 1] w fun e w' => e = .returned (.tuple #[.int .i64 (n : Int), .int .i64 ((s.k : Int) + (hd : Int)), .bool true]) ∧ On w w' T r a cap L s := by
  obtain ⟨pl, hN, h2, h3⟩ := rCnt_num hc
  have hok := num_ok L s.k h.at_le
  rw [hN] at hok
  obtain ⟨k1, k2, k3⟩ := hok.1 rfl
  simp only at k1 k2 k3
  have HN' := Hid.mk' (qnum_ok w h hb n hd pl hN)
  have hf := h.few
  have c2 := h.c2
  rw [hb] at c2
  clear h hN hok hc
  have g0 : ¬ (hd : Int) = 0 := by omega
  have g1 : ¬ (most : Int) < 0 := by omega
  have g2 : ¬ (most : Int) < (n : Int) := by omega
  have g3 : ¬ ((L.length : Int) - ((s.k : Int) + (hd : Int))) < (n : Int) := by omega
  go_enter Try.func116, Try.ntmps116
  go_wp2_with fail
  refine HN'.out.mono ?_
  rintro e w1 ⟨rfl, ho⟩
  have HON := Hid.mk' ho
  have c0 := ho.1.c0
  have c1 := ho.1.c1
  clear ho
  go_wp2
  try (go_quiet (fail); go_wp2)
  try (go_quiet (fail); go_wp2)
  go_ret3
  exact ⟨rfl, by first | exact HON.out | exact HON.out.drew _ | exact (HON.out.drew _).drew _⟩
set_option maxRecDepth 100000 in
set_option maxHeartbeats 2000000 in
theorem qlen_none (most : Nat) (hm : most ≤ 1000000) (w : World) (h : RD w T r a cap L s) (hb : s.bad = 0) (s' : St) (hc : rCnt L most s = (none, s')) :
    Calls Try.prog 116 #[.pointer (some ⟨r, 0, none⟩), .int .i64 (most : Int), .int .i64 1] w fun e w' => e = .returned (.tuple #[.int .i64 0, .int .i64 0, .bool false]) ∧ On w w' T r a cap L s' := by
  have hok := num_ok L s.k h.at_le
  have hf := h.few
  have c2 := h.c2
  rw [hb] at c2
  unfold rCnt at hc
  rcases hN : num L s.k with ⟨v, sz, why, pl⟩
  rw [hN] at hok hc
  simp only at hok hc
  by_cases h1 : why = 0
  · subst h1
    rw [if_pos rfl] at hc
    have HN' := Hid.mk' (qnum_ok w h hb v sz pl hN)
    obtain ⟨k1, k2, k3⟩ := hok.1 rfl
    have g0 : ¬ (sz : Int) = 0 := by omega
    clear h hok hN
    by_cases h2 : v ≤ most
    · rw [if_pos h2] at hc
      by_cases h3 : v + (s.k + sz) ≤ L.length
      · rw [if_pos h3] at hc
        simp at hc
      · rw [if_neg h3] at hc
        simp only [Prod.mk.injEq, true_and] at hc
        subst hc
        have HK := Hid.mk' (qfail_on (a := a) (cap := cap) (L := L) (T := T) (r := r) w hb 20 (L.length : Int) (by decide))
        have g1 : ¬ (most : Int) < 0 := by omega
        have g2 : ¬ (most : Int) < (v : Int) := by omega
        have g3 : ((L.length : Int) - ((s.k : Int) + (sz : Int))) < (v : Int) := by omega
        go_enter Try.func116, Try.ntmps116
        go_wp2_with fail
        refine HN'.out.mono ?_
        rintro e w1 ⟨rfl, ho⟩
        have HON := Hid.mk' ho
        have c0 := ho.1.c0
        have c1 := ho.1.c1
        clear ho
        go_wp2_with fail
        refine (HK.out _ HON.out).mono ?_
        rintro e w3 ⟨rfl, ho⟩
        have HO2 := Hid.mk' ho
        clear ho
        go_wp2
        go_ret3
        exact ⟨rfl, HO2.out⟩
    · rw [if_neg h2] at hc
      simp only [Prod.mk.injEq, true_and] at hc
      subst hc
      have HK := Hid.mk' (qfail_on (a := a) (cap := cap) (L := L) (T := T) (r := r) w hb 6 (s.k : Int) (by decide))
      have g1 : ¬ (most : Int) < 0 := by omega
      have g2 : (most : Int) < (v : Int) := by omega
      go_enter Try.func116, Try.ntmps116
      go_wp2_with fail
      refine HN'.out.mono ?_
      rintro e w1 ⟨rfl, ho⟩
      have HON := Hid.mk' ho
      have c1 := ho.1.c1
      clear ho
      go_wp2_with fail
      refine (HK.out _ HON.out).mono ?_
      rintro e w3 ⟨rfl, ho⟩
      have HO2 := Hid.mk' ho
      clear ho
      go_wp2
      go_ret3
      exact ⟨rfl, HO2.out⟩
  · rw [if_neg h1] at hc
    simp only [Prod.mk.injEq, true_and] at hc
    subst hc
    have HN' := Hid.mk' (qnum_no w h hb v sz why pl hN h1)
    clear h hN hok
    go_enter Try.func116, Try.ntmps116
    go_wp2_with fail
    refine HN'.out.mono ?_
    rintro e w1 ⟨rfl, ho⟩
    have HO2 := Hid.mk' ho
    clear ho
    go_wp2
    go_ret3
    exact ⟨rfl, HO2.out⟩
set_option maxRecDepth 100000 in
set_option maxHeartbeats 2000000 in
theorem qlen_bad (most : Nat) (w : World) (h : RD w T r a cap L s) (hb : ¬ s.bad = 0) :
    Calls Try.prog 116 #[.pointer (some ⟨r, 0, none⟩), .int .i64 (most : Int), .int .i64 1] w fun e w' => e = .returned (.tuple #[.int .i64 0, .int .i64 0, .bool false]) ∧ On w w' T r a cap L s := by
  have HO := Hid.mk' h.on
  have c2 := h.c2
  clear h
  go_enter Try.func116, Try.ntmps116
  go_wp2
  go_ret3
  exact ⟨rfl, HO.out⟩
end Go.Proofs.Ytnbdohomaadbfaa.K

namespace Go.Proofs.Ytnbdohomaadbfaa.K
open Go.RowKit
set_option linter.unusedVariables false
set_option linter.unusedSimpArgs false

variable {T : TypeId} {r cap : Nat} {a : Option Addr} {L : List UInt8} {s : St}
theorem own0 (W : World) : OwnB (W.alloc (.cells #[] 5)) W.heap.size (.slice (some ⟨W.heap.size, 0, none⟩) 0 0) [] := ⟨rfl, .inr ⟨W.heap.size, 0, #[], rfl, Nat.le_refl _, heap_alloc_new _ _, by simp, by simp [maxLen], rfl, rfl⟩⟩
theorem below0 (W : World) : Below W.heap.size W (W.alloc (.cells #[] 5)) := (Below.refl _ _).alloc (Nat.le_refl _) _
set_option maxRecDepth 100000 in
set_option maxHeartbeats 2000000 in
theorem qraw_any (most : Nat) (hm : most ≤ 1000000) (w : World) (h : RD w T r a cap L s) :
    Calls Try.prog 70 #[.pointer (some ⟨r, 0, none⟩), .int .i64 (most : Int)] w fun e w' => ∃ v base, e = .returned v ∧ OwnB w' base v (rRaw L most s).1 ∧ On w w' T r a cap L (rRaw L most s).2 := by
  by_cases hb : s.bad = 0
  · rcases hq : rCnt L most s with ⟨_ | ⟨n, hd⟩, s'⟩
    · have hE : rRaw L most s = ([], s') := by unfold rRaw; rw [if_pos hb, hq]
      rw [hE]
      have HC := Hid.mk' (qlen_none most hm w h hb s' hq)
      clear h hE hq
      go_enter Try.func70, Try.ntmps70
      go_wp2_with fail
      refine HC.out.mono ?_
      rintro e w2 ⟨rfl, ho⟩
      have HO := Hid.mk' ho
      clear ho
      go_wp2
      go_ret
      exact ⟨_, 0, rfl, ownB_nil _ _, HO.out⟩
    · have hE : rRaw L most s = (cut L (s.k + hd) n, ⟨s.k + hd + n, s.bad, s.wh⟩) := by unfold rRaw; rw [if_pos hb, hq]
      rw [hE]
      obtain ⟨rfl, h1, h2, h3⟩ := rCnt_some hq h.at_le
      have HC := Hid.mk' (qlen_some most hm w h hb n hd hq)
      have hf := h.few
      have hr := h.room
      have HCut := Hid.mk' (fun (wx : World) (s2 : St) (hx : On w wx T r a cap L s2) => hx.1.cut (s'.k + hd) n)
      have hlen := cut_len L (s'.k + hd) n (by omega)
      have s1 := sl_mid a L.length cap (s'.k + hd) (s'.k + hd + n) ((s'.k : Int) + (hd : Int)) ((s'.k : Int) + (hd : Int) + (n : Int)) (by omega) (by omega) (by omega) (by omega)
      have s2 := sl_mid' a L.length cap (s'.k + hd) (s'.k + hd + n) ((s'.k : Int) + (hd : Int)) ((s'.k : Int) + (hd : Int) + (n : Int)) (by omega) (by omega) (by omega) (by omega)
      rw [Nat.add_sub_cancel_left] at s1 s2
      clear h hE hq
      generalize from23 a cap (s'.k + hd) = a4 at *
      generalize cap - (s'.k + hd) = c4 at *
      generalize cut L (s'.k + hd) n = tx at *
      go_enter Try.func70, Try.ntmps70
      go_wp2_with fail
      refine HC.out.mono ?_
      rintro e w2 ⟨rfl, ho⟩
      have f1 := ho.1.fz 1
      have c1 := ho.1.c1
      have HO2 := Hid.mk' (ho.set1 (s'.k + hd + n) ((s'.k : Int) + (hd : Int) + (n : Int)) (by omega) (by omega))
      clear ho
      have hz2 : (w2.setCell ⟨r, 1, none⟩ (.int .i64 ((s'.k : Int) + (hd : Int) + (n : Int)))).heap.size = w2.heap.size := by simp
      have O0 := Hid.mk' (own0 (w2.setCell ⟨r, 1, none⟩ (.int .i64 ((s'.k : Int) + (hd : Int) + (n : Int)))))
      have hbe := below0 (w2.setCell ⟨r, 1, none⟩ (.int .i64 ((s'.k : Int) + (hd : Int) + (n : Int))))
      have B0 := Hid.mk' (byt_below (HCut.out _ _ HO2.out) hbe)
      have S0 : Hid (([] : List UInt8).length + tx.length ≤ 140737488355328) := by show _ ≤ _; simp; omega
      have Z0 := Hid.mk' hbe.size
      have d0 := HO2.out.1.c0
      have d0' := (HO2.out.below hbe).1.c0
      rw [hz2] at O0 Z0
      clear hbe hz2
      go_wp2_with (first | (at_builtin; refine wpList_app rfl (.tmp 23) (.tmp 32) rfl w2.heap.size (.slice (some ⟨w2.heap.size, 0, none⟩) 0 0) [] rfl O0.out a4 n c4 tx rfl hlen B0.out S0.out Z0.out ?_) | fail)
      intro v w3 own3 gr3
      have own3' : OwnB w3 w2.heap.size v tx := by simpa using own3
      have be3 : Below w2.heap.size (w2.setCell ⟨r, 1, none⟩ (.int .i64 ((s'.k : Int) + (hd : Int) + (n : Int)))) w3 := ((below0 (w2.setCell ⟨r, 1, none⟩ (.int .i64 ((s'.k : Int) + (hd : Int) + (n : Int))))).mono (by simp)).grown gr3 Z0.out (fun k hk => (World.ownsRow.lt O0.out k hk).1)
      have hz2 : (w2.setCell ⟨r, 1, none⟩ (.int .i64 ((s'.k : Int) + (hd : Int) + (n : Int)))).heap.size = w2.heap.size := by simp
      rw [← hz2] at be3
      have HO3 := Hid.mk' (HO2.out.below be3)
      have HOW := Hid.mk' own3'
      clear own3 own3' gr3 be3 O0 B0 S0 Z0
      go_wp2
      go_ret
      exact ⟨_, _, rfl, HOW.out, HO3.out⟩
  · have e0 : rRaw L most s = ([], s) := by unfold rRaw; rw [if_neg hb]
    rw [e0]
    have HC := Hid.mk' (qlen_bad most w h hb)
    clear h e0
    go_enter Try.func70, Try.ntmps70
    go_wp2_with fail
    refine HC.out.mono ?_
    rintro e w2 ⟨rfl, ho⟩
    have HO := Hid.mk' ho
    clear ho
    go_wp2
    go_ret
    exact ⟨_, 0, rfl, ownB_nil _ _, HO.out⟩
theorem byt_str {w : World} {ad : Option Addr} {n cap : Nat} {l : List UInt8} (hn : l.length = n) (hp : ∀ x, ad = some x → x.spot = none) (h : Byt w ad l) : (convert 53 9 (.slice ad n cap)).run Try.prog w = .ok (.string ⟨l.toArray⟩) w := by
  cases ad with
  | none =>
    rcases h with rfl | ⟨b, off, e, _⟩
    · subst hn
      rw [run_convert_bytes_string w 53 9 5 none _ cap Try.underlying53 Try.underlying5 Try.underlying9]
      rfl
    · cases e
  | some x =>
    obtain ⟨b, off, p⟩ := x
    have := hp _ rfl
    simp only at this
    subst this
    exact byt_string hn h
end Go.Proofs.Ytnbdohomaadbfaa.K

