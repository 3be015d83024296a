import Derived.Test.YtdajeabhhkgibaaKXr
import Derived.Test.YtdajeabhhkgibaaKKs
import Derived.Test.YtdajeabhhkgibaaZa
import Derived.Test.YtdajeabhhkgibaaVv
import Derived.RangeFuncBox
import Derived.Maps.AppendAt
import Derived.Test.YtdajeabhhkgibaaVh0
import Derived.Test.YtdajeabhhkgibaaYd
import Derived.Laws.CopyRow
import Derived.Deep.RegionLaw
import Derived.Test.YtdajeabhhkgibaaVh
import Derived.Below
import Derived.Deep.MidRow
import Derived.BigQuiet
import Derived.WalkKit
import Derived.Test.YtdajeabhhkgibaaF
import Derived.OwnWalk
import Derived.Deep.OwnRows
import Derived.Deep.RegionWith
import Derived.Deep.RegionHeld3
import Derived.Deep.QuietTactic
import Derived.Laws.Externs
import Derived.WalkLawsBesides
import Derived.Lib.BytesEntry
import Derived.Test.YtdajeabhhkgibaaHj
import Derived.Lib.SliceRun
import Derived.Test.YtdajeabhhkgibaaHl
import Derived.Test.YtdajeabhhkgibaaHh
import Derived.Deep.DeepAppendWide
import Derived.Lib.BufferMore
namespace Go.Proofs.Ytdajeabhhkgibaa.K
open Go.RowKit
set_option linter.unusedVariables false
set_option linter.unusedSimpArgs false

theorem belowN (W : World) : Below W.heap.size W (W.alloc (.cells #[] 5)) := (Below.refl _ _).alloc (Nat.le_refl _) _
/-- What Done tells. -/
def dM (M : List UInt8) (e : Int) : List UInt8 := if e = 0 then M else []
variable {p : Nat} {g : Option Nat} {M : List UInt8} {e : Int}
theorem WS.see {w : World} {T : TypeId} (h : WS w T p g M e) : ∃ a cv, w.cell? ⟨p, 0, none⟩ = some (.slice a M.length cv) ∧ w.cell? ⟨p, 1, none⟩ = some (.int .i64 e) ∧ Byt w a M ∧ (a = none ∧ M = [] ∧ cv = 0 ∨ ∃ b, a = some ⟨b, 0, none⟩) := by
  obtain ⟨v, hq, own, hg⟩ := h.ex
  have c0 := (cell_of_row w p 0 _ _ _ hq).trans (show (#[v, .int .i64 e] : Array Value)[0]? = some v from rfl)
  have c1 := (cell_of_row w p 1 _ _ _ hq).trans (show (#[v, .int .i64 e] : Array Value)[1]? = some (.int .i64 e) from rfl)
  obtain ⟨a, cv, rfl, h1, h2, h3⟩ := own.open
  refine ⟨a, cv, c0, c1, h2, ?_⟩
  rcases own.2 with ⟨hv, hn⟩ | ⟨gg, cap, cur, hv, _⟩
  · simp only [Value.slice.injEq] at hv
    exact .inl ⟨hv.1, List.eq_nil_of_length_eq_zero hn, hv.2.2⟩
  · simp only [Value.slice.injEq] at hv
    exact .inr ⟨_, hv.1⟩
set_option maxRecDepth 100000 in
set_option maxHeartbeats 1000000 in
theorem clone_nil0 (w : World) : Calls Try.prog 105 #[.slice none 0 0] w fun x w' => x = .returned (.slice none 0 0) ∧ w' = w := by
  have hnil : ∀ W, (binOp .eql 53 (.slice none 0 0) (.slice none 0 0)).run Try.prog W = .ok (.bool true) W := fun W => Lib.run_eql_slice_nil_nil W 0 0 Try.underlying53
  go_enter Try.func105, Try.ntmps105
  go_wp2
  go_ret
  exact ⟨rfl, rfl⟩
set_option maxRecDepth 100000 in
set_option maxHeartbeats 1000000 in
theorem wdone_own (w : World) (hw : WS w 119 p g M e) (hl : M.length ≤ 140737488355328) :
    Calls Try.prog 77 #[.pointer (some ⟨p, 0, none⟩)] w fun x w' => ∃ v, x = .returned (.tuple #[v, .int .i64 e]) ∧ OwnB w' w.heap.size v (dM M e) ∧ Below w.heap.size w w' := by
  obtain ⟨a, cv, c0, c1, hb, ha⟩ := hw.see
  clear hw
  by_cases he : e = 0
  · subst he
    have eD : dM M 0 = M := by simp [dM]
    rw [eD]
    clear eD
    rcases ha with ⟨rfl, rfl, rfl⟩ | ⟨b, rfl⟩
    · have HC := Hid.mk' (clone_nil0 w)
      clear hb hl
      go_enter Try.func77, Try.ntmps77
      go_wp2_with fail
      refine HC.out.mono ?_
      rintro x w1 ⟨rfl, hw1⟩
      subst hw1
      go_wp2
      go_ret2
      exact ⟨_, rfl, ownB_nil _ _, Below.refl _ _⟩
    · have HC : Hid (Calls Try.prog 105 #[.slice (some ⟨b, 0, none⟩) M.length cv] w fun x w' => ∃ v, x = .returned v ∧ OwnB w' w.heap.size v M ∧ Below w.heap.size w w') := clone_any b 0 M.length cv M w rfl hl hb
      clear hb hl
      go_enter Try.func77, Try.ntmps77
      go_wp2_with fail
      refine HC.out.mono ?_
      rintro x w1 ⟨v, rfl, h2, h3⟩
      have H2 := Hid.mk' h2
      have H3 := Hid.mk' h3
      clear h2 h3
      go_wp2
      go_ret2
      exact ⟨_, rfl, H2.out, H3.out⟩
  · have eD : dM M e = [] := by simp [dM, he]
    rw [eD]
    clear hb ha eD
    go_enter Try.func77, Try.ntmps77
    go_wp2
    go_quiet (fail)
    go_wp2
    go_ret2
    exact ⟨_, rfl, ownB_nil _ _, below_drewN (Below.refl _ _) _⟩
set_option maxRecDepth 100000 in
set_option maxHeartbeats 1000000 in
theorem xdone_own (w : World) (hw : WS w 133 p g M e) (hl : M.length ≤ 140737488355328) :
    Calls Try.prog 104 #[.pointer (some ⟨p, 0, none⟩)] w fun x w' => ∃ v, x = .returned (.tuple #[v, .int .i64 e]) ∧ OwnB w' w.heap.size v (dM M e) ∧ Below w.heap.size w w' := by
  have hws0 := hw.below (belowN w)
  obtain ⟨a, cv, c0, c1, hb, ha⟩ := hw.see
  have d0 : (w.alloc (.cells #[] 5)).cell? ⟨p, 0, none⟩ = some (.slice a M.length cv) := ((belowN w).cell (p := ⟨p, 0, none⟩) hw.lt).trans c0
  clear hw hws0
  by_cases he : e = 0
  · subst he
    have eD : dM M 0 = M := by simp [dM]
    rw [eD]
    clear eD
    have O0 : Hid (OwnB (w.alloc (.cells #[] 5)) w.heap.size (.slice (some ⟨w.heap.size, 0, none⟩) 0 0) []) := ⟨rfl, .inr ⟨w.heap.size, 0, #[], rfl, Nat.le_refl _, heap_alloc_new _ _, by simp, by simp [maxLen], rfl, rfl⟩⟩
    have B0 := Hid.mk' (byt_below hb (belowN w))
    have S0 : Hid (([] : List UInt8).length + M.length ≤ 140737488355328) := by show _ ≤ _; simpa using hl
    have Z0 := Hid.mk' (belowN w)
    have Z1 : Hid (w.heap.size ≤ (w.alloc (.cells #[] 5)).heap.size) := Z0.out.size
    clear hb hl ha
    go_enter Try.func104, Try.ntmps104
    go_wp2_with (first | (at_builtin; refine wpList_app2 rfl (.tmp 15) (.tmp 19) rfl w.heap.size (.slice (some ⟨w.heap.size, 0, none⟩) 0 0) [] rfl O0.out a M.length cv M rfl rfl B0.out S0.out Z1.out ?_) | fail)
    intro v w1 own1 gr1 hblk
    have own1' : Hid (OwnB w1 w.heap.size v M) := by show OwnB _ _ _ _; simpa using own1
    have b1 : Hid (Below w.heap.size w w1) := Z0.out.grown gr1 Z0.out.size (fun k hk => by simp [Value.ownBlock] at hk; omega)
    clear own1 gr1 hblk O0 B0 S0 Z0 Z1
    go_wp2
    go_ret2
    exact ⟨_, rfl, own1'.out, b1.out⟩
  · have eD : dM M e = [] := by simp [dM, he]
    rw [eD]
    clear hb ha eD
    go_enter Try.func104, Try.ntmps104
    go_wp2
    go_quiet (fail)
    go_wp2
    go_ret2
    exact ⟨_, rfl, ownB_nil _ _, below_drewN (Below.refl _ _) _⟩
theorem ws_zero (w : World) (T : TypeId) : WS (w.alloc (.cells #[.slice none 0 0, .int .i64 0] T)) T w.heap.size none [] 0 := ⟨⟨_, heap_alloc_new _ _, ownB_nil _ _, rfl⟩, by simp⟩
end Go.Proofs.Ytdajeabhhkgibaa.K

namespace Go.Proofs.Ytdajeabhhkgibaa
open Go.RowKit
set_option linter.unusedVariables false
set_option linter.unusedSimpArgs false

theorem S2_snoc (n x : Nat) : PC.S 2 (n + 1) x = PC.S 2 n x + (if x.testBit n = true then 1 else 0) := by
  induction n generalizing x with
  | zero =>
    rw [PC.S, PC.S, PC.S, Nat.testBit_zero]
    by_cases h : x % 2 = 1
    · rw [if_pos (decide_eq_true h)]; omega
    · rw [if_neg (by simpa using h)]; omega
  | succ n ih =>
    rw [PC.S, ih, Nat.testBit_succ]
    rw [show PC.S 2 (n + 1) x = x % 2 + PC.S 2 n (x / 2) from rfl]
    omega
theorem cntB_word (ws : Nat → Nat) (m j : Nat) (hj : j ≤ 64) : cntB (bitAt ws) (64 * m + j) = cntB (bitAt ws) (64 * m) + PC.S 2 j (ws m) := by
  induction j with
  | zero => rfl
  | succ j ih =>
    have e : bitAt ws (64 * m + j) = (ws m).testBit j := by
      unfold bitAt
      rw [show (64 * m + j) / 64 = m by omega, show (64 * m + j) % 64 = j by omega]
    rw [show 64 * m + (j + 1) = (64 * m + j) + 1 by omega, cntB, ih (by omega), S2_snoc, e]
    omega
theorem cntB_words (ws : Nat → Nat) (m : Nat) : cntB (bitAt ws) (64 * m) = cntW ws m := by
  induction m with
  | zero => rfl
  | succ m ih => rw [show 64 * (m + 1) = 64 * m + 64 by omega, cntB_word ws m 64 (Nat.le_refl _), ih, cntW]
theorem cntB_more {f : Nat → Bool} {n : Nat} (h : ∀ x, f x = true → x < n) (d : Nat) : cntB f (n + d) = cntB f n := by
  induction d with
  | zero => rfl
  | succ d ih =>
    rw [show n + (d + 1) = (n + d) + 1 by omega, cntB, ih]
    cases hf : f (n + d) with
    | false => rfl
    | true => have := h _ hf; omega
theorem cntB_bits {ws : Nat → Nat} {bits : Nat} (h : Within ws bits) : cntB (bitAt ws) bits = cntW ws ((bits + 63) / 64) := by
  rw [← cntB_words, ← cntB_more h (64 * ((bits + 63) / 64) - bits), show bits + (64 * ((bits + 63) / 64) - bits) = 64 * ((bits + 63) / 64) by omega]
/-- The bytes behind k bits. -/
def pB (ws : Nat → Nat) (k j : Nat) : Nat := if 8 * j + 8 ≤ k then (byW ws j).toNat else if 8 * j < k then (byW ws j).toNat % 2 ^ (k - 8 * j) else 0
theorem mod_pow_succ (x t : Nat) : x % 2 ^ (t + 1) = x % 2 ^ t + (if x.testBit t = true then 2 ^ t else 0) := by
  rw [Nat.pow_succ, Nat.mod_mul, Nat.testBit_eq_decide_div_mod_eq]
  by_cases h : x / 2 ^ t % 2 = 1
  · rw [if_pos (decide_eq_true h), h, Nat.mul_one]
  · rw [if_neg (by simpa using h), show x / 2 ^ t % 2 = 0 by omega, Nat.mul_zero]
theorem pB_zero (ws : Nat → Nat) (j : Nat) : pB ws 0 j = 0 := by unfold pB; rw [if_neg (by omega), if_neg (by omega)]
theorem pB_all (ws : Nat → Nat) (n j : Nat) (hj : j < n) : pB ws (8 * n) j = (byW ws j).toNat := by unfold pB; rw [if_pos (by omega)]
theorem pB_other (ws : Nat → Nat) (k j : Nat) (h : j ≠ k / 8) : pB ws (k + 1) j = pB ws k j := by
  unfold pB
  by_cases h1 : 8 * j + 8 ≤ k
  · rw [if_pos (by omega), if_pos h1]
  · have : ¬ 8 * j < k + 1 := by omega
    rw [if_neg (by omega), if_neg this, if_neg h1, if_neg (by omega)]
theorem pB_full (ws : Nat → Nat) (j : Nat) : (byW ws j).toNat % 2 ^ 8 = (byW ws j).toNat := Nat.mod_eq_of_lt (UInt8.toNat_lt _)
theorem pB_step (ws : Nat → Nat) (k : Nat) : pB ws (k + 1) (k / 8) = pB ws k (k / 8) + (if bitAt ws k = true then 2 ^ (k % 8) else 0) ∧ pB ws k (k / 8) < 2 ^ (k % 8) := by
  have hr : k % 8 < 8 := Nat.mod_lt _ (by omega)
  have e0 : pB ws k (k / 8) = (byW ws (k / 8)).toNat % 2 ^ (k % 8) := by
    unfold pB
    rw [if_neg (by omega)]
    by_cases h : 8 * (k / 8) < k
    · rw [if_pos h, show k - 8 * (k / 8) = k % 8 by omega]
    · rw [if_neg h, show k % 8 = 0 by omega, Nat.pow_zero, Nat.mod_one]
  have e1 : pB ws (k + 1) (k / 8) = (byW ws (k / 8)).toNat % 2 ^ (k % 8 + 1) := by
    unfold pB
    by_cases h : 8 * (k / 8) + 8 ≤ k + 1
    · rw [if_pos h, show k % 8 + 1 = 8 by omega, pB_full]
    · rw [if_neg h, if_pos (by omega), show k + 1 - 8 * (k / 8) = k % 8 + 1 by omega]
  have e2 : (byW ws (k / 8)).toNat.testBit (k % 8) = bitAt ws k := by rw [bit_byW ws _ _ hr, show 8 * (k / 8) + k % 8 = k by omega]
  rw [e0, e1, mod_pow_succ, e2]
  exact ⟨rfl, Nat.mod_lt _ (Nat.two_pow_pos _)⟩
end Go.Proofs.Ytdajeabhhkgibaa

namespace Go.Proofs.Ytdajeabhhkgibaa
open Go.RowKit
set_option linter.unusedVariables false
set_option linter.unusedSimpArgs false

/-- The document's Writer that was made since. -/
def WH (w W : World) (M : List UInt8) : Prop := K.Wr (w.alloc (.cells #[.slice none 0 0, .int .i64 0] 133)) W 133 w.heap.size none M 0
theorem WH.start (w : World) : WH w (w.alloc (.cells #[.slice none 0 0, .int .i64 0] 133)) [] :=
  K.WS.wr ⟨⟨_, heap_alloc_new _ _, K.ownB_nil _ _, rfl⟩, by simp⟩
theorem WH.below {w W : World} {M : List UInt8} (h : WH w W M) : Below w.heap.size w W := by
  obtain ⟨g', ws, fr, nw⟩ := h
  have b : Below w.heap.size w (w.alloc (.cells #[.slice none 0 0, .int .i64 0] 133)) := (Below.refl _ _).alloc (Nat.le_refl _) _
  exact b.trans ⟨fr.os, fr.tape, fr.output, fr.size, fun k hk => fr.block k (by simp; omega) (by omega) (by simp)⟩
theorem WH.uint {w W : World} {M : List UInt8} (h : WH w W M) (v : Nat) (hv : v < 18446744073709551616) (hM : M.length ≤ 1000000) :
    Calls Try.prog 101 #[.pointer (some ⟨w.heap.size, 0, none⟩), .int .u64 (v : Int)] W fun x w' => x = .returned (.tuple #[]) ∧ WH w w' (M ++ K.vint v) := by
  obtain ⟨g', ws, fr, nw⟩ := h
  refine (K.xuint_any v hv W ws (by omega)).mono ?_
  rintro e W' ⟨rfl, hr⟩
  rw [K.wA_0] at hr
  exact ⟨rfl, K.Wr.step fr nw hr⟩
theorem WH.byte {w W : World} {M : List UInt8} (h : WH w W M) (k : UInt8) (kv : Int) (hk : kv = (k.toNat : Int)) (hM : M.length ≤ 1000000) :
    Calls Try.prog 102 #[.pointer (some ⟨w.heap.size, 0, none⟩), .int .u8 kv] W fun x w' => x = .returned (.tuple #[]) ∧ WH w w' (M ++ [k]) := by
  obtain ⟨g', ws, fr, nw⟩ := h
  refine (K.xbyte_any k kv hk W ws (by omega)).mono ?_
  rintro e W' ⟨rfl, hr⟩
  rw [K.wA_0] at hr
  exact ⟨rfl, K.Wr.step fr nw hr⟩
theorem WH.raw {w W : World} {M B : List UInt8} (h : WH w W M) (b n c : Nat) (hn : B.length = n) (hB : K.Byt W (some ⟨b, 0, none⟩) B) (h1 : b < w.heap.size) (hM : M.length ≤ 1000000) (hBl : B.length ≤ 1000000) :
    Calls Try.prog 103 #[.pointer (some ⟨w.heap.size, 0, none⟩), .slice (some ⟨b, 0, none⟩) n c] W fun x w' => x = .returned (.tuple #[]) ∧ WH w w' (M ++ (K.vint n ++ B)) := by
  obtain ⟨g', ws, fr, nw⟩ := h
  have hlt := fr.size
  rw [World.size_alloc] at hlt
  refine (K.xraw_any B b 0 n c W ws hn hB ⟨by omega, fun e => ?_⟩ (by omega) (by omega)).mono ?_
  · rcases nw with rfl | ⟨k, rfl, hk⟩
    · cases e
    · cases e
      rw [World.size_alloc] at hk
      omega
  · rintro e W' ⟨rfl, hr⟩
    rw [K.wA_0] at hr
    exact ⟨rfl, K.Wr.step fr nw hr⟩
end Go.Proofs.Ytdajeabhhkgibaa

namespace Go.Proofs.Ytdajeabhhkgibaa
open Go.RowKit
set_option linter.unusedVariables false
set_option linter.unusedSimpArgs false

/-- What New tells. -/
def NwPost (bits p : Nat) (W : World) (e : Ending) (w' : World) : Prop := ∃ q g, e = .returned (.tuple #[.pointer (some ⟨q, 0, none⟩), .int .i64 0]) ∧ FAt W.heap.size w' q g bits p (fun _ => 0) ∧ Below W.heap.size W w'
theorem new_post (bits probes : Nat) (w : World) (h1 : 8 ≤ bits) (h2 : bits ≤ 65536) (h3 : bits % 8 = 0) (h4 : 1 ≤ probes) (h5 : probes ≤ 16) : Calls Try.prog 18 #[.int .i64 (bits : Int), .int .i64 (probes : Int)] w (NwPost bits probes w) :=
  (new_ok bits probes w h1 h2 h3 h4 h5).mono (by
    rintro e w' ⟨rfl, fc, wr, be, lt⟩
    exact ⟨_, _, rfl, ⟨⟨fc, wr⟩, by omega, by omega⟩, be⟩)
/-- What Encode tells. -/
def EnPost (E : List UInt8) (W : World) (e : Ending) (w' : World) : Prop := ∃ b cv, e = .returned (.slice (some ⟨b, 0, none⟩) E.length cv) ∧ (∀ W2, Below w'.heap.size w' W2 → K.Byt W2 (some ⟨b, 0, none⟩) E) ∧ Below W.heap.size W w'
theorem enc_post (q g bits probes : Nat) (ws : Nat → Nat) (w : World) (hF : FW w q g bits probes ws) (hw : ∀ i, ws i < 18446744073709551616) (hb0 : 8 ≤ bits) (hb1 : bits ≤ 65536) (hp : probes ≤ 16) :
    Calls Try.prog 34 #[.pointer (some ⟨q, 0, none⟩)] w (EnPost (encF bits probes ws) w) :=
  (enc_any q g bits probes ws w hF hw hb0 hb1 hp).mono (by
    rintro e w' ⟨b, cv, rfl, ow, be⟩
    refine ⟨b, cv, rfl, fun W2 h2 => ?_, be⟩
    obtain ⟨a, c, e, k1, k2, k3⟩ := (ow.below h2).open
    cases e
    exact k2)
theorem same_post (a1 a2 : Option Addr) (E : List UInt8) (c1 c2 : Nat) (w : World) (h1 : K.Byt w a1 E) (h2 : K.Byt w a2 E) (hl : E.length ≤ 10000) : Calls Try.prog 35 #[.slice a1 E.length c1, .slice a2 E.length c2] w fun e w' => e = .returned (.bool true) ∧ Below w.heap.size w w' :=
  (K.same_any a1 a2 E E.length c1 c2 w rfl h1 h2 (by omega)).mono (by
    rintro e w' ⟨rfl, m, rfl⟩
    exact ⟨rfl, K.below_drewN (Below.refl _ _) m⟩)
theorem ThreeF.mk0 {w W1 W2 W3 : World} {qa ga qb gb qc gc bits p : Nat} {z : Nat → Nat} (f1 : FAt w.heap.size W1 qa ga bits p z) (b1 : Below w.heap.size w W1) (f2 : FAt W1.heap.size W2 qb gb bits p z) (b2 : Below W1.heap.size W1 W2) (f3 : FAt W2.heap.size W3 qc gc bits p z) (b3 : Below W2.heap.size W2 W3) : ThreeF w.heap.size w W3 qa ga qb gb qc gc bits p z z z := by
  have k1 := f1.fw.wr.lt
  have k2 := f1.fw.fc.lt
  have k3 := f2.fw.wr.lt
  have k4 := f2.fw.fc.lt
  have k5 := f1.lg
  have k6 := f2.lg
  have k7 := f3.lg
  have k8 := f2.lq
  have k9 := f3.lq
  have s1 := b1.size
  have s2 := b2.size
  have bb := b1.trans (b2.mono s1)
  exact ⟨(f1.fw.below b2).below b3, f2.fw.below b3, f3.fw, bb.trans (b3.mono (by omega)), by omega, by omega, by omega, by omega, by omega, by omega, by omega, by omega, by omega, by omega, by omega, by omega⟩
/-- How far the loop is. -/
structure OI (w W : World) (qa ga qb gb qc gc bits p : Nat) (AA : List (List UInt8) → Nat → Nat) (L : List (List UInt8)) (k : Nat) (XB XC : List (List UInt8)) : Prop where
  t : ThreeF w.heap.size w W qa ga qb gb qc gc bits p (AA (L.take k)) (AA XB) (AA XC)
  b1 : ∀ x ∈ XB, x ∈ L
  b2 : ∀ x ∈ L.take k, x ∈ XB
  c1 : ∀ x ∈ XC, x ∈ L
theorem OI.next {w W W' : World} {qa ga qb gb qc gc bits p : Nat} {AA : List (List UInt8) → Nat → Nat} {L : List (List UInt8)} {k : Nat} {XB XC : List (List UInt8)} (h : OI w W qa ga qb gb qc gc bits p AA L k XB XC) {x y : List UInt8} {d : Nat} (hx : L[k]? = some x) (hy : L[d]? = some y) (D : List (List UInt8)) (hD : ∀ z ∈ D, z = x)
    (t : ThreeF w.heap.size w W' qa ga qb gb qc gc bits p (AA (L.take k ++ [x])) (AA (XB ++ [y] ++ [x])) (AA (XC ++ D))) : OI w W' qa ga qb gb qc gc bits p AA L (k + 1) (XB ++ [y] ++ [x]) (XC ++ D) := by
  have e : L.take (k + 1) = L.take k ++ [x] := by rw [List.take_add_one, hx, Option.toList]
  have mx := List.mem_of_getElem? hx
  have my := List.mem_of_getElem? hy
  refine ⟨by rw [e]; exact t, fun z hz => ?_, fun z hz => ?_, fun z hz => ?_⟩
  · simp only [List.mem_append, List.mem_singleton] at hz
    rcases hz with (hz | rfl) | rfl
    · exact h.b1 z hz
    · exact my
    · exact mx
  · rw [e] at hz
    simp only [List.mem_append, List.mem_singleton] at hz ⊢
    rcases hz with hz | rfl
    · exact .inl (.inl (h.b2 z hz))
    · exact .inr rfl
  · rcases List.mem_append.1 hz with hz | hz
    · exact h.c1 z hz
    · rw [hD z hz]; exact mx
set_option maxRecDepth 100000 in
set_option maxHeartbeats 8000000 in
theorem order_all (a1 : Option Addr) (L : List (List UInt8)) (c1 : Nat) (x y : Int) (w : World) (hL : All32 L) (hn : L.length ≤ 4398046511104) (hl1 : Hl w a1 L) :
    Calls Try.prog 7 #[.slice a1 L.length c1, .int .i64 x, .int .i64 y] w fun e w' => e = .returned (.bool true) ∧ Below w.heap.size w w' := by
  obtain ⟨m, hm⟩ : ∃ m : Nat, x % 64 = (m : Int) := ⟨(x % 64).toNat, by omega⟩
  obtain ⟨r, hr⟩ : ∃ r : Nat, y % 16 = (r : Int) := ⟨(y % 16).toNat, by omega⟩
  have hm1 : m < 64 := by omega
  have hr1 : r < 16 := by omega
  have H11a : Hid (∀ W, Calls Try.prog 11 #[.int .i64 x, .int .i64 64] W fun e w' => e = .returned (.int .i64 (m : Int)) ∧ w' = W) := fun W => by have := which_any x 64 W (by omega) (by omega); rw [show ((64 : Nat) : Int) = 64 from rfl, hm] at this; exact this
  have H11b : Hid (∀ W, Calls Try.prog 11 #[.int .i64 y, .int .i64 16] W fun e w' => e = .returned (.int .i64 (r : Int)) ∧ w' = W) := fun W => by have := which_any y 16 W (by omega) (by omega); rw [show ((16 : Nat) : Int) = 16 from rfl, hr] at this; exact this
  clear hm hr
  obtain ⟨bits, hbits⟩ : ∃ b : Nat, 8 * (1 + m) = b := ⟨_, rfl⟩
  obtain ⟨p, hp⟩ : ∃ b : Nat, 1 + r = b := ⟨_, rfl⟩
  have eb : 8 * (1 + (m : Int)) = (bits : Int) := by omega
  have ep : 1 + (r : Int) = (p : Int) := by omega
  have hb8 : 8 ≤ bits := by omega
  have hbm : bits ≤ 512 := by omega
  have hb0 : 0 < bits := by omega
  have hp1 : 1 ≤ p := by omega
  have hp2 : p ≤ 16 := by omega
  have H18a : Hid (∀ W, Calls Try.prog 18 #[.int .i64 (bits : Int), .int .i64 (p : Int)] W (NwPost bits p W)) := fun W => new_post bits p W hb8 (by omega) (by omega) hp1 hp2
  have H18b := Hid.mk' H18a.out
  have H18c := Hid.mk' H18a.out
  have HLT : Hid (∀ X i, addL bits hb0 p (fun _ => 0) X i < 18446744073709551616) := fun X i => addL_lt hb0 p (fun i => by omega) X i
  have HSN : Hid (∀ X h, addL bits hb0 p (fun _ => 0) (X ++ [h]) = setAll (addL bits hb0 p (fun _ => 0) X) (spotL h bits hb0 p)) := fun X h => addL_snoc _ hb0 p _ X h
  have HSM : Hid (∀ X, (∀ x ∈ X, x ∈ L) → (∀ x ∈ L, x ∈ X) → addL bits hb0 p (fun _ => 0) X = addL bits hb0 p (fun _ => 0) L) := fun X h1 h2 => addL_same bits hb0 p h1 h2
  have HOR : Hid (∀ X, (∀ x ∈ X, x ∈ L) → orW (addL bits hb0 p (fun _ => 0) X) (addL bits hb0 p (fun _ => 0) L) ((bits + 63) / 64) = addL bits hb0 p (fun _ => 0) L) := fun X h1 => orW_sub bits hb0 p h1
  have HNIL : Hid (addL bits hb0 p (fun _ => 0) [] = fun _ => 0) := rfl
  have HCN : Hid (∃ c : Nat, c ≤ 1000000 ∧ cntW (addL bits hb0 p (fun _ => 0) L) ((bits + 63) / 64) = c ∧ (0 < L.length → 0 < c) ∧ (L.length = 0 → c = 0)) := by
    refine ⟨_, ?_, rfl, fun h => cnt_added hb0 hp1 h, fun h => ?_⟩
    · have := cntW_le (addL bits hb0 p (fun _ => 0) L) ((bits + 63) / 64)
      omega
    · rw [List.eq_nil_of_length_eq_zero h]
      exact cntW_zero _
  generalize addL bits hb0 p (fun _ => 0) = AA at *
  have HADA : Hid (∀ W qa ga qb gb qc gc X XB XC h, h.length = 32 → ThreeF w.heap.size w W qa ga qb gb qc gc bits p (AA X) (AA XB) (AA XC) → Calls Try.prog 12 #[.pointer (some ⟨qa, 0, none⟩), .agg (bs h)] W fun e w' => e = .returned (.tuple #[]) ∧ ThreeF w.heap.size w w' qa ga qb gb qc gc bits p (AA (X ++ [h])) (AA XB) (AA XC)) := fun W qa ga qb gb qc gc X XB XC h hh hT =>
    (add_any qa ga bits p (AA X) h W hh hb0 (by omega) hp2 hT.a (HLT.out X)).mono (by
      rintro e w' ⟨rfl, hf, hk⟩
      refine ⟨rfl, ?_⟩
      rw [HSN.out]
      exact hT.addA hf hk)
  have HADB : Hid (∀ W qa ga qb gb qc gc X XB XC h, h.length = 32 → ThreeF w.heap.size w W qa ga qb gb qc gc bits p (AA X) (AA XB) (AA XC) → Calls Try.prog 12 #[.pointer (some ⟨qb, 0, none⟩), .agg (bs h)] W fun e w' => e = .returned (.tuple #[]) ∧ ThreeF w.heap.size w w' qa ga qb gb qc gc bits p (AA X) (AA (XB ++ [h])) (AA XC)) := fun W qa ga qb gb qc gc X XB XC h hh hT =>
    (add_any qb gb bits p (AA XB) h W hh hb0 (by omega) hp2 hT.b (HLT.out XB)).mono (by
      rintro e w' ⟨rfl, hf, hk⟩
      refine ⟨rfl, ?_⟩
      rw [HSN.out]
      exact hT.addB hf hk)
  have HADC : Hid (∀ W qa ga qb gb qc gc X XB XC h, h.length = 32 → ThreeF w.heap.size w W qa ga qb gb qc gc bits p (AA X) (AA XB) (AA XC) → Calls Try.prog 12 #[.pointer (some ⟨qc, 0, none⟩), .agg (bs h)] W fun e w' => e = .returned (.tuple #[]) ∧ ThreeF w.heap.size w w' qa ga qb gb qc gc bits p (AA X) (AA XB) (AA (XC ++ [h]))) := fun W qa ga qb gb qc gc X XB XC h hh hT =>
    (add_any qc gc bits p (AA XC) h W hh hb0 (by omega) hp2 hT.c (HLT.out XC)).mono (by
      rintro e w' ⟨rfl, hf, hk⟩
      refine ⟨rfl, ?_⟩
      rw [HSN.out]
      exact hT.addC hf hk)
  have HJN : Hid (∀ W qa ga qb gb qc gc XC, (∀ x ∈ XC, x ∈ L) → ThreeF w.heap.size w W qa ga qb gb qc gc bits p (AA L) (AA L) (AA XC) → Calls Try.prog 14 #[.pointer (some ⟨qc, 0, none⟩), .pointer (some ⟨qa, 0, none⟩)] W fun e w' => e = .returned (.int .i64 0) ∧ ThreeF w.heap.size w w' qa ga qb gb qc gc bits p (AA L) (AA L) (AA L)) := fun W qa ga qb gb qc gc XC hX hT =>
    (join_any qc gc qa ga bits p (AA XC) (AA L) W hT.c hT.a hT.d.2.1.symm (fun e => hT.c.fc.ne e.symm) hT.d.2.2.2.2.1 (HLT.out XC) (HLT.out L) (by omega)).mono (by
      rintro e w' ⟨rfl, hf, hk⟩
      rw [HOR.out XC hX] at hf
      exact ⟨rfl, hT.joinC hf hk⟩)
  have HEA : Hid (∀ W qa ga qb gb qc gc wb wc, ThreeF w.heap.size w W qa ga qb gb qc gc bits p (AA L) wb wc → Calls Try.prog 34 #[.pointer (some ⟨qa, 0, none⟩)] W (EnPost (encF bits p (AA L)) W)) := fun W qa ga qb gb qc gc wb wc hT => enc_post qa ga bits p (AA L) W hT.a (HLT.out L) hb8 (by omega) hp2
  have HEB : Hid (∀ W qa ga qb gb qc gc wa wc, ThreeF w.heap.size w W qa ga qb gb qc gc bits p wa (AA L) wc → Calls Try.prog 34 #[.pointer (some ⟨qb, 0, none⟩)] W (EnPost (encF bits p (AA L)) W)) := fun W qa ga qb gb qc gc wa wc hT => enc_post qb gb bits p (AA L) W hT.b (HLT.out L) hb8 (by omega) hp2
  have HEC : Hid (∀ W qa ga qb gb qc gc wa wb, ThreeF w.heap.size w W qa ga qb gb qc gc bits p wa wb (AA L) → Calls Try.prog 34 #[.pointer (some ⟨qc, 0, none⟩)] W (EnPost (encF bits p (AA L)) W)) := fun W qa ga qb gb qc gc wa wb hT => enc_post qc gc bits p (AA L) W hT.c (HLT.out L) hb8 (by omega) hp2
  have HSA : Hid (∀ W b1 b2 c1 c2, K.Byt W (some ⟨b1, 0, none⟩) (encF bits p (AA L)) → K.Byt W (some ⟨b2, 0, none⟩) (encF bits p (AA L)) → Calls Try.prog 35 #[.slice (some ⟨b1, 0, none⟩) (encF bits p (AA L)).length c1, .slice (some ⟨b2, 0, none⟩) (encF bits p (AA L)).length c2] W fun e w' => e = .returned (.bool true) ∧ Below W.heap.size W w') := fun W b1 b2 c1 c2 h1 h2 => same_post _ _ _ c1 c2 W h1 h2 (encF_len bits p (AA L) (by omega))
  obtain ⟨c, hc0, hc1, hc2, hc3⟩ := HCN.out
  have HST : Hid (∀ W qa ga qb gb qc gc wb wc, ThreeF w.heap.size w W qa ga qb gb qc gc bits p (AA L) wb wc → (Calls Try.prog 33 #[.pointer (some ⟨qa, 0, none⟩)] W fun e w' => e = .returned (.int .i64 (c : Int)) ∧ w' = W) ∧ (Calls Try.prog 32 #[.pointer (some ⟨qa, 0, none⟩)] W fun e w' => e = .returned (.int .i64 (bits : Int)) ∧ w' = W)) := fun W qa ga qb gb qc gc wb wc hT => by
    have := set_any qa ga bits p (AA L) W hT.a (HLT.out L) (by omega)
    rw [hc1] at this
    exact ⟨this, bits_any qa ga bits p W hT.a.fc⟩
  have HMK : Hid (∀ W1 W2 W3 qa ga qb gb qc gc, FAt w.heap.size W1 qa ga bits p (fun _ => 0) → Below w.heap.size w W1 → FAt W1.heap.size W2 qb gb bits p (fun _ => 0) → Below W1.heap.size W1 W2 → FAt W2.heap.size W3 qc gc bits p (fun _ => 0) → Below W2.heap.size W2 W3 → OI w W3 qa ga qb gb qc gc bits p AA L 0 [] []) := fun W1 W2 W3 qa ga qb gb qc gc f1 b1 f2 b2 f3 b3 =>
    ⟨by rw [List.take_zero, HNIL.out]; exact ThreeF.mk0 f1 b1 f2 b2 f3 b3, fun z hz => (by cases hz), fun z hz => (by rw [List.take_zero] at hz; cases hz), fun z hz => (by cases hz)⟩
  generalize encF bits p (AA L) = EN at *
  have HL1 := Hid.mk' (fun W (h : Below w.heap.size w W) => hl1.below hL h)
  have HA1 := Hid.mk' hL
  have HCN2 := Hid.mk' (And.intro hc0 (And.intro hc2 hc3))
  clear hl1 hL HLT HSN HOR HNIL HCN hc0 hc1 hc2 hc3 hbits hp
  generalize hnL : L.length = n at *
  have HNL := Hid.mk' hnL
  clear hnL
  go_enter Try.func7, Try.ntmps7
  go_wp2_with (first
    | (go_at_call 11; refine (H11a.out _).mono ?_; rintro e W0 ⟨rfl, hw⟩; obtain rfl := hw.symm; clear hw H11a)
    | (go_at_call 11; refine (H11b.out _).mono ?_; rintro e W0 ⟨rfl, hw⟩; obtain rfl := hw.symm; clear hw H11b)
    | (go_at_call 18; refine (H18a.out _).mono ?_; rintro e W1 ⟨qa, ga, rfl, f1, b1⟩; have F1 := Hid.mk' f1; have B1 := Hid.mk' b1; clear f1 b1 H18a)
    | (go_at_call 18; refine (H18b.out _).mono ?_; rintro e W2 ⟨qb, gb, rfl, f2, b2⟩; have F2 := Hid.mk' f2; have B2 := Hid.mk' b2; clear f2 b2 H18b)
    | (go_at_call 18; refine (H18c.out _).mono ?_; rintro e W3 ⟨qc, gc, rfl, f3, b3⟩; have T0 := Hid.mk' (HMK.out _ _ _ _ _ _ _ _ _ F1.out B1.out F2.out B2.out f3 b3); clear f3 b3 H18c F1 B1 F2 B2 HMK)
    | fail)
  clear eb ep
  go_loopw [13] (fun i wr => ∃ k : Nat, k ≤ n ∧ i = .int .i64 (k : Int) ∧ Hid (∃ XB XC, OI w wr qa ga qb gb qc gc bits p AA L k XB XC)) (fun i _ => n - (intOf i).toNat)
  case atStart => exact ⟨0, by omega, rfl, ⟨_, _, T0.out⟩⟩
  case round =>
    obtain ⟨k, hk, rfl, HT⟩ := hrel
    obtain ⟨XB, XC, ht⟩ := HT.out
    have HO := Hid.mk' ht
    clear T0 ht HT
    by_cases hkn : k < n
    · have hkn' : (k : Int) < (n : Int) := by omega
      obtain ⟨d, hd⟩ : ∃ d : Nat, n = d + k + 1 := ⟨n - 1 - k, by omega⟩
      have hds : (n : Int) - 1 - (k : Int) = (d : Int) := by omega
      have hdn : d < n := by omega
      clear hd
      obtain ⟨b, off, rfl, hs⟩ := (HL1.out wr HO.out.t.be).at (i := k) (by rw [HNL.out]; exact hkn)
      obtain ⟨h, hh⟩ : ∃ h, L[k]? = some h := ⟨L[k]'(by rw [HNL.out]; exact hkn), List.getElem?_eq_getElem _⟩
      obtain ⟨h2, hh2⟩ : ∃ h, L[d]? = some h := ⟨L[d]'(by rw [HNL.out]; exact hdn), List.getElem?_eq_getElem _⟩
      have HRB : Hid (∀ W, Below w.heap.size w W → W.rangeAt b (off + 32 * k) (hcs h) ∧ W.rangeAt b (off + 32 * d) (hcs h2)) := fun W hb => by
        obtain ⟨b', off', e, hs'⟩ := (HL1.out W hb).at (i := k) (by rw [HNL.out]; exact hkn)
        cases e
        exact ⟨hs' k h hh, hs' d h2 hh2⟩
      have HH := Hid.mk' (HA1.out.get hh)
      have HH2 := Hid.mk' (HA1.out.get hh2)
      have ix := fun wx => indexH b off n c1 k wx hkn
      have ix2 := fun wx => indexH b off n c1 d wx hdn
      have HNX := Hid.mk' (fun W' D hD => HO.out.next (W' := W') hh hh2 D hD)
      have R1 := Hid.mk' (HRB.out _ HO.out.t.be).1
      have C1 := Hid.mk' (HADA.out wr qa ga qb gb qc gc _ _ _ h HH.out HO.out.t)
      clear hs hh hh2 HL1 HA1 HJN HEA HEB HEC HSA HST HCN2 HSM HO
      rcases Nat.mod_two_eq_zero_or_one k with hk2 | hk2
      · have hr2 : (k : Int).tmod 2 = 0 := by rw [Int.tmod_eq_emod_of_nonneg (by omega)]; omega
        clear hk2
        go_wp2_with (first
          | (with_reducible refine at_ld ?_; refine wpList_ld (.tmp 66) rfl rfl b (off + 32 * k) rfl h HH.out R1.out ?_)
          | (go_at_call 12; refine C1.out.mono ?_; clear C1; rintro e W4 ⟨rfl, t4⟩; have R2 := Hid.mk' (HRB.out _ t4.be).2; have C2 := Hid.mk' (HADB.out _ _ _ _ _ _ _ _ _ _ h2 HH2.out t4); clear t4)
          | (with_reducible refine at_ld ?_; refine wpList_ld (.tmp 76) rfl rfl b (off + 32 * d) rfl h2 HH2.out R2.out ?_)
          | (go_at_call 12; refine C2.out.mono ?_; clear C2; rintro e W5 ⟨rfl, t5⟩; have R3 := Hid.mk' (HRB.out _ t5.be).1; have C3 := Hid.mk' (HADB.out _ _ _ _ _ _ _ _ _ _ h HH.out t5); clear t5)
          | (with_reducible refine at_ld ?_; refine wpList_ld (.tmp 82) rfl rfl b (off + 32 * k) rfl h HH.out R3.out ?_)
          | (go_at_call 12; refine C3.out.mono ?_; clear C3; rintro e W6 ⟨rfl, t6⟩; have R4 := Hid.mk' (HRB.out _ t6.be).1; have C4 := Hid.mk' (HADC.out _ _ _ _ _ _ _ _ _ _ h HH.out t6); clear t6)
          | (with_reducible refine at_ld ?_; refine wpList_ld (.tmp 91) rfl rfl b (off + 32 * k) rfl h HH.out R4.out ?_)
          | (go_at_call 12; refine C4.out.mono ?_; clear C4; rintro e W7 ⟨rfl, t7⟩; have T7 := Hid.mk' (HNX.out _ [h] (fun z hz => List.mem_singleton.1 hz) t7); clear t7)
          | fail)
        exact ⟨⟨k + 1, by omega, by go_num, ⟨_, _, T7.out⟩⟩, by simp [intOf]; omega⟩
      · have hr2 : (k : Int).tmod 2 = 1 := by rw [Int.tmod_eq_emod_of_nonneg (by omega)]; omega
        clear hk2
        go_wp2_with (first
          | (with_reducible refine at_ld ?_; refine wpList_ld (.tmp 66) rfl rfl b (off + 32 * k) rfl h HH.out R1.out ?_)
          | (go_at_call 12; refine C1.out.mono ?_; clear C1; rintro e W4 ⟨rfl, t4⟩; have R2 := Hid.mk' (HRB.out _ t4.be).2; have C2 := Hid.mk' (HADB.out _ _ _ _ _ _ _ _ _ _ h2 HH2.out t4); clear t4)
          | (with_reducible refine at_ld ?_; refine wpList_ld (.tmp 76) rfl rfl b (off + 32 * d) rfl h2 HH2.out R2.out ?_)
          | (go_at_call 12; refine C2.out.mono ?_; clear C2; rintro e W5 ⟨rfl, t5⟩; have R3 := Hid.mk' (HRB.out _ t5.be).1; have C3 := Hid.mk' (HADB.out _ _ _ _ _ _ _ _ _ _ h HH.out t5); clear t5)
          | (with_reducible refine at_ld ?_; refine wpList_ld (.tmp 82) rfl rfl b (off + 32 * k) rfl h HH.out R3.out ?_)
          | (go_at_call 12; refine C3.out.mono ?_; clear C3; rintro e W6 ⟨rfl, t6⟩; have T7 := Hid.mk' (HNX.out _ [] (fun z hz => by cases hz) (by rw [List.append_nil]; exact t6)); clear t6)
          | fail)
        exact ⟨⟨k + 1, by omega, by go_num, ⟨_, _, T7.out⟩⟩, by simp [intOf]; omega⟩
    · obtain rfl : k = n := by omega
      have hkn' : ¬ (k : Int) < (k : Int) := by omega
      have hTM : L.take k = L := by rw [← HNL.out, List.take_length]
      have T1 : Hid (ThreeF w.heap.size w wr qa ga qb gb qc gc bits p (AA L) (AA L) (AA XC)) := by
        have t := HO.out.t
        have b2 := HO.out.b2
        rw [hTM] at t b2
        rw [HSM.out XB HO.out.b1 b2] at t
        exact t
      have HXC := Hid.mk' HO.out.c1
      have HJ := Hid.mk' (fun W => HJN.out W qa ga qb gb qc gc XC HXC.out)
      clear hTM HADA HADB HADC HJN HSM HO HL1 HA1
      have E1 := Hid.mk' (HEA.out _ _ _ _ _ _ _ _ _ T1.out)
      obtain ⟨hc0, hc2, hc3⟩ := HCN2.out
      clear HCN2
      rcases Nat.eq_zero_or_pos k with hz | hz
      · have cz := hc3 hz
        subst hz cz
        clear hc2 hc3
        go_wp2_with (first
          | (go_at_call 34; refine E1.out.mono ?_; clear E1; rintro e W4 ⟨b4, c4, rfl, y4, l4⟩; have Y4 := Hid.mk' y4; have T4 := Hid.mk' (T1.out.below l4); have E2 := Hid.mk' (HEB.out _ _ _ _ _ _ _ _ _ T4.out); clear y4 l4 T1)
          | (go_at_call 34; refine E2.out.mono ?_; clear E2; rintro e W5 ⟨b5, c5, rfl, y5, l5⟩; have T5 := Hid.mk' (T4.out.below l5); have S1 := Hid.mk' (HSA.out _ _ _ c4 c5 (Y4.out _ l5) (y5 _ (Below.refl _ _))); clear y5 l5 T4 Y4)
          | (go_at_call 35; refine S1.out.mono ?_; clear S1; rintro e W6 ⟨rfl, l6⟩; have J6 := Hid.mk' (HJ.out _ (T5.out.below l6)); clear l6 T5)
          | (go_at_call 14; refine J6.out.mono ?_; clear J6; rintro e W7 ⟨rfl, t7⟩; have T7 := Hid.mk' t7; clear t7; have E4 := Hid.mk' (HEA.out _ _ _ _ _ _ _ _ _ T7.out))
          | (go_at_call 34; refine E4.out.mono ?_; clear E4; rintro e W8 ⟨b8, c8, rfl, y8, l8⟩; have Y8 := Hid.mk' y8; have T8 := Hid.mk' (T7.out.below l8); have E5 := Hid.mk' (HEC.out _ _ _ _ _ _ _ _ _ T8.out); clear y8 l8 T7)
          | (go_at_call 34; refine E5.out.mono ?_; clear E5; rintro e W9 ⟨b9, c9, rfl, y9, l9⟩; have T9 := Hid.mk' (T8.out.below l9); have S2 := Hid.mk' (HSA.out _ _ _ c8 c9 (Y8.out _ l9) (y9 _ (Below.refl _ _))); clear y9 l9 T8 Y8)
          | (go_at_call 35; refine S2.out.mono ?_; clear S2; rintro e W10 ⟨rfl, l10⟩; have T10 := Hid.mk' (T9.out.below l10); have Q1 := Hid.mk' (HST.out _ _ _ _ _ _ _ _ _ T10.out); clear l10 T9)
          | (go_at_call 33; refine Q1.out.1.mono ?_; rintro e W11 ⟨rfl, hw⟩; obtain rfl := hw.symm; clear hw)
          | (go_at_call 32; refine Q1.out.2.mono ?_; rintro e W11 ⟨rfl, hw⟩; obtain rfl := hw.symm; clear hw)
          | fail)
        go_ret
        exact ⟨rfl, T10.out.be⟩
      · have cz := hc2 hz
        have cz' : (0 : Int) < (c : Int) := by omega
        have hz' : (0 : Int) < (k : Int) := by omega
        clear hc2 hc3
        go_wp2_with (first
          | (go_at_call 34; refine E1.out.mono ?_; clear E1; rintro e W4 ⟨b4, c4, rfl, y4, l4⟩; have Y4 := Hid.mk' y4; have T4 := Hid.mk' (T1.out.below l4); have E2 := Hid.mk' (HEB.out _ _ _ _ _ _ _ _ _ T4.out); clear y4 l4 T1)
          | (go_at_call 34; refine E2.out.mono ?_; clear E2; rintro e W5 ⟨b5, c5, rfl, y5, l5⟩; have T5 := Hid.mk' (T4.out.below l5); have S1 := Hid.mk' (HSA.out _ _ _ c4 c5 (Y4.out _ l5) (y5 _ (Below.refl _ _))); clear y5 l5 T4 Y4)
          | (go_at_call 35; refine S1.out.mono ?_; clear S1; rintro e W6 ⟨rfl, l6⟩; have J6 := Hid.mk' (HJ.out _ (T5.out.below l6)); clear l6 T5)
          | (go_at_call 14; refine J6.out.mono ?_; clear J6; rintro e W7 ⟨rfl, t7⟩; have T7 := Hid.mk' t7; clear t7; have E4 := Hid.mk' (HEA.out _ _ _ _ _ _ _ _ _ T7.out))
          | (go_at_call 34; refine E4.out.mono ?_; clear E4; rintro e W8 ⟨b8, c8, rfl, y8, l8⟩; have Y8 := Hid.mk' y8; have T8 := Hid.mk' (T7.out.below l8); have E5 := Hid.mk' (HEC.out _ _ _ _ _ _ _ _ _ T8.out); clear y8 l8 T7)
          | (go_at_call 34; refine E5.out.mono ?_; clear E5; rintro e W9 ⟨b9, c9, rfl, y9, l9⟩; have T9 := Hid.mk' (T8.out.below l9); have S2 := Hid.mk' (HSA.out _ _ _ c8 c9 (Y8.out _ l9) (y9 _ (Below.refl _ _))); clear y9 l9 T8 Y8)
          | (go_at_call 35; refine S2.out.mono ?_; clear S2; rintro e W10 ⟨rfl, l10⟩; have T10 := Hid.mk' (T9.out.below l10); have Q1 := Hid.mk' (HST.out _ _ _ _ _ _ _ _ _ T10.out); clear l10 T9)
          | (go_at_call 33; refine Q1.out.1.mono ?_; rintro e W11 ⟨rfl, hw⟩; obtain rfl := hw.symm; clear hw)
          | (go_at_call 32; refine Q1.out.2.mono ?_; rintro e W11 ⟨rfl, hw⟩; obtain rfl := hw.symm; clear hw)
          | fail)
        go_ret
        exact ⟨rfl, T10.out.be⟩
end Go.Proofs.Ytdajeabhhkgibaa

namespace Go.Proofs.Ytdajeabhhkgibaa
open Go.RowKit
set_option linter.unusedVariables false
set_option linter.unusedSimpArgs false

theorem WH.done {w W : World} {M : List UInt8} (h : WH w W M) (h0 : 0 < M.length) (hM : M.length ≤ 1000000) : Calls Try.prog 104 #[.pointer (some ⟨w.heap.size, 0, none⟩)] W fun x w' => ∃ b cv, x = .returned (.tuple #[.slice (some ⟨b, 0, none⟩) M.length cv, .int .i64 0]) ∧ (∀ W2, Below w'.heap.size w' W2 → K.Byt W2 (some ⟨b, 0, none⟩) M) ∧ Below W.heap.size W w' := by
  obtain ⟨g', ws, fr, nw⟩ := h
  refine (K.xdone_own W ws (by omega)).mono ?_
  rintro e W' ⟨v, rfl, ow, be⟩
  have e0 : K.dM M 0 = M := if_pos rfl
  rw [e0] at ow
  obtain ⟨b, cv, rfl, _⟩ := ow.open1 h0
  refine ⟨b, cv, rfl, fun W2 h2 => ?_, be⟩
  obtain ⟨a, c, e, k1, k2, k3⟩ := (ow.below h2).open
  cases e
  exact k2
theorem wrap8_pow (r : Nat) (hr : r < 8) : IntKind.u8.wrap (2 ^ r) = ((2 ^ r : Nat) : Int) ∧ 2 ^ r ≤ 128 := by
  have h1 : 2 ^ r ≤ 2 ^ 7 := Nat.pow_le_pow_right (by omega) (by omega)
  have h2 : (2 : Int) ^ r = ((2 ^ r : Nat) : Int) := by simp
  have h3 : (2 : Nat) ^ 7 = 128 := by decide
  refine ⟨?_, by omega⟩
  rw [IntKind.wrap_u8, h2]
  generalize (2 ^ r : Nat) = z at *
  omega
set_option maxRecDepth 100000 in
set_option maxHeartbeats 8000000 in
theorem renc_any (q g bits probes : Nat) (ws : Nat → Nat) (w : World) (hF : RW w q g bits probes (bitAt ws)) (hb0 : 8 ≤ bits) (hb1 : bits ≤ 65536) (hb2 : bits % 8 = 0) (hp : probes ≤ 16) :
    Calls Try.prog 56 #[.pointer (some ⟨q, 0, none⟩)] w (EnPost (encF bits probes ws) w) := by
  have HFW : Hid (∀ W, Below w.heap.size w W → RW W q g bits probes (bitAt ws)) := fun W hb => hF.below hb
  have v1 := K.vint_10 bits (by omega)
  have hpb : (probes : Int) = ((UInt8.ofNat probes).toNat : Int) := by rw [UInt8.toNat_ofNat']; omega
  have HPB := Hid.mk' hpb
  clear hpb
  have HE : Hid ([] ++ K.vint bits ++ [UInt8.ofNat probes] ++ (K.vint (bits / 8) ++ bytesW ws (bits / 8)) = encF bits probes ws) := by show _ = _; unfold encF; simp
  have HPos := Hid.mk' (encF_pos bits probes ws)
  have HLen := Hid.mk' (encF_len bits probes ws hb1)
  have c0 := hF.rc.c0
  have c1 := hF.rc.c1
  have HC0 : Hid (∀ W, Below w.heap.size w W → W.cell? ⟨q, 0, none⟩ = some (.slice (some ⟨g, 0, none⟩) bits bits)) := fun W h => (HFW.out W h).rc.c0
  have HC1 : Hid (∀ W, Below w.heap.size w W → W.cell? ⟨q, 1, none⟩ = some (.int .i64 (probes : Int))) := fun W h => (HFW.out W h).rc.c1
  have HCG : Hid (∀ W, Below w.heap.size w W → ∀ k, k < bits → W.cell? ⟨g, k, none⟩ = some (.bool (bitAt ws k))) := fun W h k hk => (HFW.out W h).rb.cell hk
  have e8 : (bits : Int).tdiv 8 = ((bits / 8 : Nat) : Int) := by rw [Int.tdiv_eq_ediv_of_nonneg (by omega)]; omega
  have e9 : (bits : Int) / 8 = ((bits / 8 : Nat) : Int) := by omega
  have HL8 : Hid ((bytesW ws (bits / 8)).length = bits / 8) := bytesW_len _ _
  have HG8 : Hid (∀ j, j < bits / 8 → (bytesW ws (bits / 8)).getD j 0 = byW ws j) := fun j hj => bytesW_get ws _ j hj
  have h8 : bits / 8 ≤ 8192 := by omega
  have H8B : Hid (bits = 8 * (bits / 8)) := by show _ = _; omega
  have mk2 := run_make_row' (P := Try.prog) 53 5 (.int .u8 0) 1 Try.underlying53 info5x rfl .i64 .i64 (bits / 8) (by omega) (by omega)
  have H0 : Hid ((w.alloc (.cells (madeCells #[.int .u8 0] (bits / 8)) 5)).rowIs w.heap.size 5 (bits / 8) (fun j => .int .u8 (pB ws 0 j : Int))) := (World.rowIs_made w (.int .u8 0) (bits / 8) 5).congr (fun j _ => by rw [pB_zero]; rfl)
  have HB0 : Hid (Below w.heap.size w (w.alloc (.cells (madeCells #[.int .u8 0] (bits / 8)) 5))) := (Below.refl _ _).alloc (Nat.le_refl _) _
  clear hF hb2
  generalize hwid : bytesW ws (bits / 8) = BB at *
  generalize encF bits probes ws = EN at *
  generalize bits / 8 = n8 at *
  clear hwid
  go_enter Try.func56, Try.ntmps56
  go_wp2
  clear mk2
  generalize hB : w.heap.size = B at *
  have HBB := Hid.mk' hB
  clear hB
  go_loopw [4] (fun i wr => ∃ k : Nat, k ≤ bits ∧ i = .int .i64 (k : Int) ∧ Hid (wr.rowIs B 5 n8 (fun j => .int .u8 (pB ws k j : Int))) ∧ Hid (Below B w wr)) (fun i _ => bits - (intOf i).toNat)
  case atStart => exact ⟨0, by omega, rfl, H0, HB0⟩
  case round =>
    obtain ⟨k, hk, rfl, HR, HBe⟩ := hrel
    clear H0 HB0 c0 c1
    have a0 := HC0.out wr HBe.out
    by_cases hkb : k < bits
    · have hkb' : (k : Int) < (bits : Int) := by omega
      have ag := HCG.out wr HBe.out k hkb
      have ix := fun wx => index99 g bits bits k wx hkb
      have hd : k / 8 < n8 := by have := H8B.out; omega
      obtain ⟨hst, hlt⟩ := pB_step ws k
      have hr8 : k % 8 < 8 := Nat.mod_lt _ (by omega)
      cases hbit : bitAt ws k with
      | false =>
        rw [hbit] at ag hst
        have HN : Hid (wr.rowIs B 5 n8 (fun j => .int .u8 (pB ws (k + 1) j : Int))) := HR.out.congr fun j _ => by
          by_cases e : j = k / 8
          · rw [e, hst]; rfl
          · rw [pB_other ws k j e]
        clear hst hlt
        go_wp2
        exact ⟨⟨k + 1, by omega, by go_num, HN, HBe⟩, by simp [intOf]; omega⟩
      | true =>
        rw [hbit] at ag hst
        rw [if_pos rfl] at hst
        obtain ⟨hw1, hw2⟩ := wrap8_pow (k % 8) hr8
        have hsum : pB ws k (k / 8) + 2 ^ (k % 8) ≤ 255 := by
          have h7 : 2 ^ (k % 8) ≤ 128 := hw2
          omega
        have ix2 := fun wx => index53 B n8 n8 (k / 8) wx hd
        have e1 : (k : Int).tdiv 8 = ((k / 8 : Nat) : Int) := by rw [Int.tdiv_eq_ediv_of_nonneg (by omega)]; omega
        have e2 : (k : Int).tmod 8 = ((k % 8 : Nat) : Int) := by rw [Int.tmod_eq_emod_of_nonneg (by omega)]; omega
        have cb : wr.cell? ⟨B, k / 8, none⟩ = some (.int .u8 (pB ws k (k / 8) : Int)) := HR.out.cell hd
        have fb : wr.frozen? ⟨B, k / 8, none⟩ = false := HR.out.frozen _
        have HN : Hid ((wr.setCell ⟨B, k / 8, none⟩ (.int .u8 ((pB ws k (k / 8) : Int) + ((2 ^ (k % 8) : Nat) : Int)))).drew.rowIs B 5 n8 (fun j => .int .u8 (pB ws (k + 1) j : Int))) := (HR.out.set (k / 8) _).congr fun j _ => by
          by_cases e : j = k / 8
          · rw [if_pos e, e, hst]; rfl
          · rw [if_neg e, pB_other ws k j e]
        have HBN : Hid (Below B w (wr.setCell ⟨B, k / 8, none⟩ (.int .u8 ((pB ws k (k / 8) : Int) + ((2 ^ (k % 8) : Nat) : Int)))).drew) := (HBe.out.setCell (p := ⟨B, k / 8, none⟩) (Nat.le_refl _) _).drew
        clear hst hlt
        generalize pB ws k (k / 8) = x at *
        generalize k / 8 = d at *
        generalize k % 8 = r at *
        generalize hy : (2 ^ r : Nat) = y at *
        have hy1 : 0 ≤ y := by omega
        clear hy
        go_wp2
        go_region
        go_wp2
        exact ⟨⟨k + 1, by omega, by go_num, HN, HBN⟩, by simp [intOf]; omega⟩
    · obtain rfl : k = bits := by omega
      have hkb' : ¬ (k : Int) < (k : Int) := by omega
      have a1 := HC1.out wr HBe.out
      have HBY : Hid (∀ W, Below wr.heap.size wr W → K.Byt W (some ⟨B, 0, none⟩) BB) := fun W hW => by
        have hr : wr.rowIs B 5 n8 (fun j => .int .u8 ((BB.getD j 0).toNat : Int)) := HR.out.congr fun j hj => by
          rw [HG8.out j hj]
          have := pB_all ws n8 j hj
          rw [← H8B.out] at this
          rw [this]
        exact K.byt_below (byt_row HL8.out hr) hW
      have hBlt : Hid (B < wr.heap.size) := HR.out.lt
      have HSZ : Hid (B ≤ wr.heap.size) := Nat.le_of_lt HR.out.lt
      have HG0 := Hid.mk' (WH.start wr)
      have HCC0 : Hid (∀ W, Below wr.heap.size wr W → W.cell? ⟨q, 0, none⟩ = some (.slice (some ⟨g, 0, none⟩) k k)) := fun W hW => HC0.out W (HBe.out.trans (hW.mono HSZ.out))
      have HCC1 : Hid (∀ W, Below wr.heap.size wr W → W.cell? ⟨q, 1, none⟩ = some (.int .i64 (probes : Int))) := fun W hW => HC1.out W (HBe.out.trans (hW.mono HSZ.out))
      have b0 := HCC0.out _ HG0.out.below
      clear HC0 HC1 HCG HFW HG8 HR
      go_wp2_with (first
        | (go_at_call 101; refine (HG0.out.uint k (by omega) (by simp)).mono ?_; rintro e W1 ⟨rfl, g1⟩; have G1 := Hid.mk' g1; clear g1; have b1 := HCC1.out _ G1.out.below)
        | (go_at_call 102; refine (G1.out.byte (UInt8.ofNat probes) _ HPB.out (by simp; omega)).mono ?_; rintro e W2 ⟨rfl, g2⟩; have G2 := Hid.mk' g2; clear g2)
        | (go_at_call 103; refine (G2.out.raw (B := BB) B n8 n8 HL8.out (HBY.out _ G2.out.below) hBlt.out (by simp; omega) (by rw [HL8.out]; omega)).mono ?_; rintro e W3 ⟨rfl, g3⟩; rw [HE.out] at g3; have G3 := Hid.mk' g3; clear g3)
        | (go_at_call 104; refine (G3.out.done HPos.out (by have := HLen.out; omega)).mono ?_; rintro e W4 ⟨b4, c4, rfl, y4, l4⟩; have Y4 := Hid.mk' y4; have B4 := Hid.mk' (HBe.out.trans ((G3.out.below.trans (l4.mono G3.out.below.size)).mono HSZ.out)); clear y4 l4)
        | fail)
      go_ret
      refine ⟨b4, c4, rfl, Y4.out, ?_⟩
      rw [HBB.out]
      exact B4.out
end Go.Proofs.Ytdajeabhhkgibaa

namespace Go.Proofs.Ytdajeabhhkgibaa
open Go.RowKit
set_option linter.unusedVariables false
set_option linter.unusedSimpArgs false

set_option maxRecDepth 100000 in
set_option maxHeartbeats 4000000 in
theorem alike_ok (qf gf qg gg bits p : Nat) (ws : Nat → Nat) (w : World) (hf : FW w qf gf bits p ws) (hg : RW w qg gg bits p (bitAt ws)) (hW : Within ws bits) (hlt : ∀ i, ws i < 18446744073709551616) (hob : okB bits = true) (hp : p ≤ 16) :
    Calls Try.prog 27 #[.pointer (some ⟨qf, 0, none⟩), .pointer (some ⟨qg, 0, none⟩)] w fun e w' => e = .returned (.bool true) ∧ Below w.heap.size w w' := by
  have hb := of_decide_eq_true hob
  have C32 := Hid.mk' (bits_any qf gf bits p w hf.fc)
  have C52 := Hid.mk' (rbits_x qg gg bits p w hg.rc)
  have C53 := Hid.mk' (probes_any qf gf bits p w hf.fc)
  have C54 := Hid.mk' (rprobes_x qg gg bits p w hg.rc)
  have C33 := Hid.mk' (set_any qf gf bits p ws w hf hlt hb.2.1)
  have C55 := Hid.mk' (rset_any qg gg bits p _ w hg hb.2.1)
  rw [cntB_bits hW] at C55
  have C34 := Hid.mk' (enc_post qf gf bits p ws w hf hlt hb.1 hb.2.1 hp)
  have C56 : Hid (∀ W, Below w.heap.size w W → Calls Try.prog 56 #[.pointer (some ⟨qg, 0, none⟩)] W (EnPost (encF bits p ws) W)) := fun W h => renc_any qg gg bits p ws W (hg.below h) hb.1 hb.2.1 hb.2.2 hp
  have C35 : Hid (∀ W b1 b2 c1 c2, K.Byt W (some ⟨b1, 0, none⟩) (encF bits p ws) → K.Byt W (some ⟨b2, 0, none⟩) (encF bits p ws) → Calls Try.prog 35 #[.slice (some ⟨b1, 0, none⟩) (encF bits p ws).length c1, .slice (some ⟨b2, 0, none⟩) (encF bits p ws).length c2] W fun e w' => e = .returned (.bool true) ∧ Below W.heap.size W w') := fun W b1 b2 c1 c2 h1 h2 => same_post _ _ _ c1 c2 W h1 h2 (encF_len bits p ws hb.2.1)
  clear hf hg hW hlt hob hb
  generalize encF bits p ws = EN at *
  generalize cntW ws ((bits + 63) / 64) = C at *
  go_enter Try.func27, Try.ntmps27
  go_wp2_with (first
    | (go_at_call 32; refine C32.out.mono ?_; clear C32; rintro e W ⟨rfl, hw⟩; obtain rfl := hw.symm; clear hw)
    | (go_at_call 52; refine C52.out.mono ?_; clear C52; rintro e W ⟨rfl, hw⟩; obtain rfl := hw.symm; clear hw)
    | (go_at_call 53; refine C53.out.mono ?_; clear C53; rintro e W ⟨rfl, hw⟩; obtain rfl := hw.symm; clear hw)
    | (go_at_call 54; refine C54.out.mono ?_; clear C54; rintro e W ⟨rfl, hw⟩; obtain rfl := hw.symm; clear hw)
    | (go_at_call 33; refine C33.out.mono ?_; clear C33; rintro e W ⟨rfl, hw⟩; obtain rfl := hw.symm; clear hw)
    | (go_at_call 55; refine C55.out.mono ?_; clear C55; rintro e W ⟨rfl, hw⟩; obtain rfl := hw.symm; clear hw)
    | (go_at_call 34; refine C34.out.mono ?_; clear C34; rintro e W1 ⟨b1, c1, rfl, y1, l1⟩; have Y1 := Hid.mk' y1; have L1 := Hid.mk' l1; clear y1 l1)
    | (go_at_call 56; refine (C56.out _ L1.out).mono ?_; rintro e W2 ⟨b2, c2, rfl, y2, l2⟩; have D35 := Hid.mk' (C35.out _ b1 b2 c1 c2 (Y1.out _ l2) (y2 _ (Below.refl _ _))); have L2 := Hid.mk' (L1.out.trans (l2.mono L1.out.size)); clear y2 l2)
    | (go_at_call 35; refine D35.out.mono ?_; rintro e W3 ⟨rfl, l3⟩; have L3 := Hid.mk' (L2.out.trans (l3.mono L2.out.size)); clear l3)
    | fail)
  go_ret
  exact ⟨rfl, L3.out⟩
set_option maxRecDepth 100000 in
theorem nil_32 (w : World) : Calls Try.prog 32 #[.pointer none] w fun e w' => e = .returned (.int .i64 0) ∧ w' = w := by
  go_enter Try.func32, Try.ntmps32
  go_wp2
  go_ret
  exact ⟨rfl, rfl⟩
set_option maxRecDepth 100000 in
theorem nil_52 (w : World) : Calls Try.prog 52 #[.pointer none] w fun e w' => e = .returned (.int .i64 0) ∧ w' = w := by
  go_enter Try.func52, Try.ntmps52
  go_wp2
  go_ret
  exact ⟨rfl, rfl⟩
set_option maxRecDepth 100000 in
theorem nil_53 (w : World) : Calls Try.prog 53 #[.pointer none] w fun e w' => e = .returned (.int .i64 0) ∧ w' = w := by
  go_enter Try.func53, Try.ntmps53
  go_wp2
  go_ret
  exact ⟨rfl, rfl⟩
set_option maxRecDepth 100000 in
theorem nil_54 (w : World) : Calls Try.prog 54 #[.pointer none] w fun e w' => e = .returned (.int .i64 0) ∧ w' = w := by
  go_enter Try.func54, Try.ntmps54
  go_wp2
  go_ret
  exact ⟨rfl, rfl⟩
set_option maxRecDepth 100000 in
theorem nil_33 (w : World) : Calls Try.prog 33 #[.pointer none] w fun e w' => e = .returned (.int .i64 0) ∧ w' = w := by
  go_enter Try.func33, Try.ntmps33
  go_wp2
  go_ret
  exact ⟨rfl, rfl⟩
set_option maxRecDepth 100000 in
theorem nil_34 (w : World) : Calls Try.prog 34 #[.pointer none] w fun e w' => e = .returned (.slice none 0 0) ∧ w' = w := by
  go_enter Try.func34, Try.ntmps34
  go_wp2
  go_ret
  exact ⟨rfl, rfl⟩
set_option maxRecDepth 100000 in
theorem nil_56 (w : World) : Calls Try.prog 56 #[.pointer none] w fun e w' => e = .returned (.slice none 0 0) ∧ w' = w := by
  go_enter Try.func56, Try.ntmps56
  go_wp2
  go_ret
  exact ⟨rfl, rfl⟩
set_option maxRecDepth 100000 in
theorem rset_nil (w : World) : Calls Try.prog 55 #[.pointer none] w fun e w' => e = .returned (.int .i64 0) ∧ w' = w := by
  go_enter Try.func55, Try.ntmps55
  go_wp2
  go_loopw [3, 4] (fun n i wr => wr = w ∧ n = .int .i64 0 ∧ i = .int .i64 0) (fun _ i _ => 0)
  case atStart => exact ⟨rfl, rfl, rfl⟩
  case round =>
    obtain ⟨rfl, rfl, rfl⟩ := hrel
    go_wp2
    go_ret
    exact ⟨rfl, rfl⟩
set_option maxRecDepth 100000 in
set_option maxHeartbeats 2000000 in
theorem alike_nil (w : World) : Calls Try.prog 27 #[.pointer none, .pointer none] w fun e w' => e = .returned (.bool true) ∧ Below w.heap.size w w' := by
  have C55 := Hid.mk' (rset_nil w)
  have C35 := Hid.mk' (K.same_any none none [] 0 0 0 w rfl (.inl rfl) (.inl rfl) (by omega))
  go_enter Try.func27, Try.ntmps27
  go_wp2_with (first
    | (go_at_call 32; refine (nil_32 w).mono ?_; rintro e W ⟨rfl, hw⟩; obtain rfl := hw.symm; clear hw)
    | (go_at_call 52; refine (nil_52 w).mono ?_; rintro e W ⟨rfl, hw⟩; obtain rfl := hw.symm; clear hw)
    | (go_at_call 53; refine (nil_53 w).mono ?_; rintro e W ⟨rfl, hw⟩; obtain rfl := hw.symm; clear hw)
    | (go_at_call 54; refine (nil_54 w).mono ?_; rintro e W ⟨rfl, hw⟩; obtain rfl := hw.symm; clear hw)
    | (go_at_call 33; refine (nil_33 w).mono ?_; rintro e W ⟨rfl, hw⟩; obtain rfl := hw.symm; clear hw)
    | (go_at_call 34; refine (nil_34 w).mono ?_; rintro e W ⟨rfl, hw⟩; obtain rfl := hw.symm; clear hw)
    | (go_at_call 56; refine (nil_56 w).mono ?_; rintro e W ⟨rfl, hw⟩; obtain rfl := hw.symm; clear hw)
    | (go_at_call 55; refine C55.out.mono ?_; clear C55; rintro e W ⟨rfl, hw⟩; obtain rfl := hw.symm; clear hw)
    | (go_at_call 35; refine C35.out.mono ?_; clear C35; rintro e W ⟨rfl, m, hw⟩; obtain rfl := hw.symm; clear hw)
    | fail)
  go_ret
  exact ⟨rfl, K.below_drewN (Below.refl _ _) m⟩
end Go.Proofs.Ytdajeabhhkgibaa

namespace Go.Proofs.Ytdajeabhhkgibaa
open Go.RowKit Go.Shelf Go.Maps
set_option linter.unusedVariables false
set_option linter.unusedSimpArgs false
attribute [local go_sem] Oper.semAt_some

def spV {b : Nat} (x : Fin b) : Value := .int .i64 (x.val : Int)
theorem info3x : (Try.prog.info? 3).map (fun i => (i.zero, i.size, i.bytes)) = some (some (.int .i64 0), 1, 8) := by kernel_rfl
set_option maxRecDepth 100000 in
set_option maxHeartbeats 4000000 in
theorem appseq_any (q g bits probes bh bf : Nat) (h : List UInt8) (w : World) (hb0 : 0 < bits) (hb1 : bits ≤ 65536) (hp : probes ≤ 16) (hH : HB w bh h) (hF : w.cell? ⟨bf, 0, none⟩ = some (.pointer (some ⟨q, 0, none⟩))) (hFC : FC w q g bits probes) (l1 : bh < w.heap.size) (n2 : bf ≠ g) :
    Calls Try.prog 100 #[.slice none 0 0, .func (.func 98) #[] #[.pointer (some ⟨bh, 0, none⟩), .pointer (some ⟨bf, 0, none⟩)]] w fun e w' => ∃ v, e = .returned v ∧ w'.ownsRow w.heap.size 3 1 v (spotL h bits hb0 probes).length ((spotL h bits hb0 probes).map spV) ∧ Below w.heap.size w w' := by
  refine (callsIn_wide (n := 4)).1 ?_
  refine callsIn_of_wp_marks Try.func100 rfl trivial ?_ rfl
  simp only [Try.ntmps100, List.size_toArray, List.length_cons, List.length_nil, Nat.reduceAdd, Nat.reduceSub, Array.replicate_succ, Array.replicate_zero, List.push_toArray, List.append_toArray, List.nil_append, List.cons_append]
  refine wpIn_wide.2 ?_
  obtain ⟨i0, hi, hz0, hz1, hz2⟩ := info_parts info3x
  have l2 : bf < w.heap.size := World.block_lt_of_cell? _ _ hF
  have l3 : q < w.heap.size := hFC.lt
  go_wp2_with fail
  obtain ⟨W1, hW1⟩ : ∃ W1, w.alloc (.cells #[.slice none 0 0] 49) = W1 := ⟨_, rfl⟩
  have be1 : Below w.heap.size w W1 := by rw [← hW1]; exact (Below.refl _ _).alloc (Nat.le_refl _) _
  have bx1 : Boxed W1 w.heap.size 49 (.slice none 0 0) := by rw [← hW1]; exact Boxed.new w 49 _
  have sz1 : W1.heap.size = w.heap.size + 1 := by rw [← hW1]; simp
  rw [hW1]
  clear hW1
  have hH1 : HB W1 bh h := fun k hk => (be1.cell (p := ⟨bh, k, none⟩) l1).trans (hH k hk)
  have hF1 : W1.cell? ⟨bf, 0, none⟩ = some (.pointer (some ⟨q, 0, none⟩)) := (be1.cell (p := ⟨bf, 0, none⟩) l2).trans hF
  have hFC1 : FC W1 q g bits probes := hFC.of (be1.block q l3)
  refine (wpIn_wide (n := 4)).1 ?_
  refine wpIn_rangeFunc_ownF (F := Fence.wide) rfl (by omega) (gf := 98) (lb := #[.pointer (some ⟨bh, 0, none⟩), .pointer (some ⟨bf, 0, none⟩)]) rfl trivial (enters_of Try.func98 (by kernel_rfl) rfl)
    (spots1_stops (4 - 1) bits probes q g bh bf w.heap.size h W1 hb0 hb1 hp hH1 hF1 hFC1 l1 l2 l3 n2 (by omega)) (fun h k => h.trans k) (Kb.put (by omega)) (Below.refl _ _) (fun _ => rfl)
    (fun pre W => (∃ v, Boxed W w.heap.size 49 v ∧ W.ownsRow w.heap.size 3 1 v pre.length (pre.map spV) ∧ True) ∧ Below w.heap.size w W)
    (fun _ _ _ => False)
    (OwnFrom.and ((holdsRow_own w.heap.size w.heap.size 49 3 1 (fun pre : List (Fin bits) => pre.length) (fun pre : List (Fin bits) => pre.map spV) (fun _ _ => True)).from _) (ownFrom_below (Nat.le_refl _) (by omega)))
    (fun _ _ _ _ _ hs _ _ => hs)
    ⟨⟨_, bx1, World.ownsRow_nil _ _ _ _, trivial⟩, be1⟩
    (fun x => { tmps := #[.slice none 0 0, .func (.func 98) #[] #[.pointer (some ⟨bh, 0, none⟩), .pointer (some ⟨bf, 0, none⟩)], .pointer (some ⟨w.heap.size, 0, none⟩), undef, .slice none 0 0, .int .i64 (x.val : Int), .func (.func 98) #[] #[.pointer (some ⟨bh, 0, none⟩), .pointer (some ⟨bf, 0, none⟩)], .int .i64 (x.val : Int), undef, undef, undef, undef, undef], defers := [] }) ?assign ?body ?done ?stop
  case assign =>
    intro l x W K hK
    gi_wp2
    exact hK
  case body =>
    rintro l pre x W ⟨⟨v, hv, hrow, _⟩, hB⟩ hlen
    have hc := hv.cell
    have hxb := x.isLt
    gi_wp2_with (gi_at_builtin; refine wpListIn_append_own _ rfl _ _ 49 rfl w.heap.size 3 i0 (.int .i64 0) 1 8 Try.underlying49 hi hz0 hz1 hz2 rfl (by decide) _ _ _ rfl (hrow.alloc _) ⟨W.heap.size, 0, none⟩ 1 1 [spV x] rfl rfl (cell_one_new _ _ _) (by simp [spV, Value.oneCell']) (by simp [maxLen]; omega) (by omega) (by have := hB.size; simp; omega) ?_; intro v' w1 hown' hgrow _; obtain ⟨g', cap', rfl⟩ := ownsRow_succ hown'; obtain ⟨hv1, hv2, hr2, hk2, hb2⟩ := hv.appended (by decide) hrow hB.size (Nat.le_refl _) hown' hgrow; have hc1 := hv1.cell; have hf1 := hv1.frozen)
    refine ⟨hk2, Kb.below hb2, ⟨_, hv2, ?_, trivial⟩, hB.trans hb2⟩
    rw [List.length_append, List.map_append]
    exact hr2
  case done =>
    rintro D ys W hD rfl ⟨⟨v, hv, hrow, _⟩, hB⟩ hK
    have hc := hv.cell
    have HR := Hid.mk' hrow
    go_wp2
    refine ⟨by simp, .inl ⟨_, _, rfl, run_takeDeferred hK, ?_⟩⟩
    refine ⟨v, ?_, v, rfl, ownsRow_putObj HR.out _ hK rfl, hB.trans (belowK_b (w := w) (Nat.le_refl _) W D _ _ (by omega) hK rfl rfl)⟩
    simp [results, Try.f100, go_sem]
  case stop =>
    rintro D c pre W _ _ h _
    exact h.elim
/-- What Spots tells. -/
def SpPost (N : Nat) (l : List Value) (w : World) (e : Ending) (w' : World) : Prop := ∃ a c, e = .returned (.slice a N c) ∧ (∀ W, Below w'.heap.size w' W → ∀ k v, l[k]? = some v → ∃ b, a = some ⟨b, 0, none⟩ ∧ W.cell? ⟨b, k, none⟩ = some v) ∧ Below w.heap.size w w'
theorem own_cells {w : World} {base e : Nat} {v : Value} {n : Nat} {xs : List Value} (h : w.ownsRow base e 1 v n xs) (hx : xs.length = n) : ∃ a c, v = .slice a n c ∧ ∀ W, Below w.heap.size w W → ∀ k u, xs[k]? = some u → ∃ b, a = some ⟨b, 0, none⟩ ∧ W.cell? ⟨b, k, none⟩ = some u := by
  rcases h.2 with ⟨rfl, hn⟩ | ⟨g, cap, cur, rfl, hbg, hg, hnc, hcm, hcs, htake⟩
  · subst hn
    refine ⟨none, 0, rfl, fun W hW k u hk => ?_⟩
    rw [List.eq_nil_of_length_eq_zero hx] at hk
    cases hk
  · refine ⟨_, _, rfl, fun W hW k u hk => ⟨g, rfl, ?_⟩⟩
    have hlt : g < w.heap.size := (Array.getElem?_eq_some_iff.1 hg).1
    refine (hW.cell (p := ⟨g, k, none⟩) hlt).trans ?_
    rw [cell_of_row w g k cur _ _ hg]
    rw [← htake, List.getElem?_take] at hk
    split at hk
    · simpa using hk
    · cases hk
set_option maxRecDepth 100000 in
theorem spotsF_any (q g bits probes : Nat) (ws : Nat → Nat) (h : List UInt8) (w : World) (hl : h.length = 32) (hb0 : 0 < bits) (hb1 : bits ≤ 65536) (hp : probes ≤ 16) (hF : FW w q g bits probes ws) :
    Calls Try.prog 25 #[.pointer (some ⟨q, 0, none⟩), .agg (bs h)] w (SpPost probes ((spotL h bits hb0 probes).map spV) w) := by
  have HR : Hid ((w.alloc (.cells (bs h) 30)).rangeAt w.heap.size 0 (hcs h)) := range_box w h 30
  obtain ⟨W0, hW0⟩ : ∃ W0, ((w.alloc (.cells (bs h) 30)).alloc (.cells #[.pointer (some ⟨q, 0, none⟩)] 23)).alloc (.cells (bs h) 30) = W0 := ⟨_, rfl⟩
  have hA : W0.heap.size = w.heap.size + 3 ∧ W0.cell? ⟨w.heap.size + 1, 0, none⟩ = some (.pointer (some ⟨q, 0, none⟩)) ∧ HB W0 (w.heap.size + 2) h ∧ Below w.heap.size w W0 := by
    obtain ⟨w1, e1⟩ : ∃ x, w.alloc (.cells (bs h) 30) = x := ⟨_, rfl⟩
    rw [e1] at hW0
    obtain ⟨w2, e2⟩ : ∃ x, w1.alloc (.cells #[.pointer (some ⟨q, 0, none⟩)] 23) = x := ⟨_, rfl⟩
    rw [e2] at hW0
    have s1 : w1.heap.size = w.heap.size + 1 := by rw [← e1]; simp
    have s2 : w2.heap.size = w1.heap.size + 1 := by rw [← e2]; simp
    have s3 : W0.heap.size = w2.heap.size + 1 := by rw [← hW0]; simp
    have b1 : Below w.heap.size w w1 := by rw [← e1]; exact (Below.refl _ _).alloc (Nat.le_refl _) _
    have b2 : Below w1.heap.size w1 w2 := by rw [← e2]; exact (Below.refl _ _).alloc (Nat.le_refl _) _
    have b3 : Below w2.heap.size w2 W0 := by rw [← hW0]; exact (Below.refl _ _).alloc (Nat.le_refl _) _
    have c2 : w2.cell? ⟨w1.heap.size, 0, none⟩ = some (.pointer (some ⟨q, 0, none⟩)) := by rw [← e2]; exact (cell_of_row _ _ 0 _ _ _ (heap_alloc_new w1 _)).trans rfl
    refine ⟨by omega, ?_, ?_, b1.trans ((b2.trans (b3.mono (by omega))).mono (by omega))⟩
    · rw [show w.heap.size + 1 = w1.heap.size by omega]
      exact (b3.cell (p := ⟨w1.heap.size, 0, none⟩) (by show w1.heap.size < _; omega)).trans c2
    · rw [show w.heap.size + 2 = w2.heap.size by omega, ← hW0]
      exact hb_box w2 h hl 30
  obtain ⟨s0, k1, k2, k3⟩ := hA
  have lq := hF.fc.lt
  have lg := hF.wr.lt
  have HAP := Hid.mk' (appseq_any q g bits probes (w.heap.size + 2) (w.heap.size + 1) h W0 hb0 hb1 hp k2 k1 (hF.fc.of (k3.block q lq)) (by omega) (by omega))
  have HC : Hid (Calls Try.prog 50 #[.func (.func 98) #[] #[.pointer (some ⟨w.heap.size + 2, 0, none⟩), .pointer (some ⟨w.heap.size + 1, 0, none⟩)]] W0 (SpPost probes ((spotL h bits hb0 probes).map spV) w)) := by
    clear hF
    go_enter Try.func50, Try.ntmps50
    go_wp2_with (first
      | (go_at_call 100; refine HAP.out.mono ?_; rintro e W5 ⟨v, rfl, ow, be⟩; have OW := Hid.mk' ow; have BE := Hid.mk' be; clear ow be)
      | fail)
    go_ret
    obtain ⟨a, c, rfl, hc⟩ := own_cells OW.out (by rw [List.length_map])
    rw [spotL_len]
    exact ⟨a, c, rfl, hc, k3.trans (BE.out.mono k3.size)⟩
  clear HAP hF
  have HW0 := Hid.mk' hW0
  clear hW0
  go_enter Try.func25, Try.ntmps25
  go_wp2_with (first
    | (with_reducible refine at_ld ?_; refine wpList_ld (.tmp 3) rfl rfl w.heap.size 0 rfl h hl HR.out ?_)
    | (go_at_call 42; refine (spots_any _ h _ hl).mono ?_; rintro e w' ⟨rfl, hw⟩; have hw2 := hw.trans HW0.out; clear hw; obtain rfl := hw2.symm; clear hw2)
    | (go_at_call 50; refine HC.out.mono ?_; rintro e W5 ⟨a, c, rfl, hc, be⟩; have HCC := Hid.mk' hc; have BE := Hid.mk' be; clear hc be)
    | fail)
  go_ret
  exact ⟨a, c, rfl, HCC.out, BE.out⟩
set_option maxRecDepth 100000 in
theorem index49 (b n cap k : Nat) (w : World) (hk : k < n) : (Instr.indexAt 49 (.slice (some ⟨b, 0, none⟩) n cap) (.int .i64 (k : Int))).run Try.prog w = .ok (.pointer (some ⟨b, k, none⟩)) w := by
  rw [run_indexAt_slice (P := Try.prog) _ _ _ _ _ _ _ Try.underlying49]
  have hsz : (sizeOf (Try.prog.elem 49)).run Try.prog w = .ok 1 w := by kernel_rfl
  simp [hk, hsz, Addr.add_mid]
set_option maxRecDepth 100000 in
/-- Two rows of the same ints. -/
theorem sameI_any (a1 a2 : Option Addr) (n c1 c2 : Nat) (f : Nat → Int) (w : World) (hn : n ≤ 1000) (h1 : ∀ W, Below w.heap.size w W → ∀ k, k < n → ∃ b, a1 = some ⟨b, 0, none⟩ ∧ W.cell? ⟨b, k, none⟩ = some (.int .i64 (f k))) (h2 : ∀ W, Below w.heap.size w W → ∀ k, k < n → ∃ b, a2 = some ⟨b, 0, none⟩ ∧ W.cell? ⟨b, k, none⟩ = some (.int .i64 (f k))) :
    Calls Try.prog 24 #[.slice a1 n c1, .slice a2 n c2] w fun e w' => e = .returned (.bool true) ∧ Below w.heap.size w w' := by
  have H1 := Hid.mk' h1
  have H2 := Hid.mk' h2
  clear h1 h2
  go_enter Try.func24, Try.ntmps24
  go_wp2
  go_loopw [5] (fun i wr => ∃ k : Nat, k ≤ n ∧ i = .int .i64 (k : Int) ∧ Hid (Below w.heap.size w wr)) (fun i _ => n - (intOf i).toNat)
  case atStart => exact ⟨0, by omega, rfl, Below.refl _ _⟩
  case round =>
    obtain ⟨k, hk, rfl, HB⟩ := hrel
    by_cases hkn : k < n
    · have hkn' : (k : Int) < (n : Int) := by omega
      obtain ⟨b1, rfl, q1⟩ := H1.out wr HB.out k hkn
      obtain ⟨b2, rfl, q2⟩ := H2.out wr HB.out k hkn
      have ix := fun wx => index49 b1 n c1 k wx hkn
      have ix2 := fun wx => index49 b2 n c2 k wx hkn
      generalize f k = z at *
      go_wp2
      go_region
      go_wp2
      exact ⟨⟨k + 1, by omega, by go_num, HB.out.drew⟩, by simp [intOf]; omega⟩
    · obtain rfl : k = n := by omega
      have hkn' : ¬ (k : Int) < (k : Int) := by omega
      go_wp2
      go_ret
      exact ⟨rfl, HB.out⟩
end Go.Proofs.Ytdajeabhhkgibaa

namespace Go.Proofs.Ytdajeabhhkgibaa
open Go.RowKit Go.Maps
set_option linter.unusedVariables false
set_option linter.unusedSimpArgs false

set_option maxRecDepth 100000 in
theorem rnumber_any (b o c : Nat) (h : List UInt8) (w : World) (hr : ∀ k, k < 8 → w.cell? ⟨b, o + k, none⟩ = some (.int .u8 ((h.getD (o + k) 0).toNat : Int))) :
    Calls Try.prog 51 #[.slice (some ⟨b, o, none⟩) 8 c] w fun e w' => e = .returned (.int .u64 (numB h o 8 : Int)) ∧ w' = w := by
  have HR := Hid.mk' hr
  have HL := Hid.mk' (numB_lt h o)
  clear hr
  go_enter Try.func51, Try.ntmps51
  go_wp2
  go_loopw [3, 4] (fun n i wr => ∃ k : Nat, k ≤ 8 ∧ i = .int .i64 (k : Int) ∧ n = .int .u64 (numB h o k : Int) ∧ wr = w) (fun _ i _ => 8 - (intOf i).toNat)
  case atStart => exact ⟨0, by omega, rfl, rfl, rfl⟩
  case round =>
    obtain ⟨k, hk, rfl, rfl, rfl⟩ := hrel
    by_cases hk8 : k < 8
    · have hk8' : (k : Int) < 8 := by omega
      have hc := HR.out k hk8
      have hb := (h.getD (o + k) 0).toNat_lt
      have hn : numB h o k < 72057594037927936 := Nat.lt_of_lt_of_le (HL.out k) (Nat.le_trans (Nat.pow_le_pow_right (by omega) (show k ≤ 7 by omega)) (by decide))
      have hs : Hid (numB h o (k + 1) = numB h o k * 256 + (h.getD (o + k) 0).toNat) := rfl
      generalize hN : numB h o k = n at *
      generalize (h.getD (o + k) 0).toNat = x at *
      clear hN
      go_wp2
      exact ⟨⟨k + 1, by omega, by go_num, by rw [hs.out]; go_num, trivial⟩, by simp [intOf]; omega⟩
    · obtain rfl : k = 8 := by omega
      go_wp2
      go_ret
      exact ⟨rfl, rfl⟩
set_option maxRecDepth 100000 in
set_option maxHeartbeats 4000000 in
theorem rspots_any (q g bits probes : Nat) (h : List UInt8) (w : World) (hl : h.length = 32) (hb0 : 0 < bits) (hb1 : bits ≤ 65536) (hp : probes ≤ 16) (hF : RC w q g bits probes) :
    Calls Try.prog 26 #[.pointer (some ⟨q, 0, none⟩), .agg (bs h)] w (SpPost probes ((spotL h bits hb0 probes).map spV) w) := by
  obtain ⟨i0, hi, hz0, hz1, hz2⟩ := info_parts info3x
  have HBX : Hid (∀ k, HB ((w.alloc (.cells (bs h) 30)).drewN k) w.heap.size h) := fun k => hb_box w h hl 30
  have HN : Hid (∀ k o c, (o = 0 ∧ c = 32) ∨ (o = 8 ∧ c = 24) → Calls Try.prog 51 #[.slice (some ⟨w.heap.size, o, none⟩) 8 c] ((w.alloc (.cells (bs h) 30)).drewN k) fun e w' => e = .returned (.int .u64 (numB h o 8 : Int)) ∧ w' = (w.alloc (.cells (bs h) 30)).drewN k) := fun k o c hc =>
    rnumber_any w.heap.size o c h _ (fun i hi => HBX.out k (o + i) (by omega))
  have HC0 : Hid (∀ W, Below w.heap.size w W → W.cell? ⟨q, 0, none⟩ = some (.slice (some ⟨g, 0, none⟩) bits bits)) := fun W hb => (hF.of (hb.block q hF.lt)).c0
  have HC1 : Hid (∀ W, Below w.heap.size w W → W.cell? ⟨q, 1, none⟩ = some (.int .i64 (probes : Int))) := fun W hb => (hF.of (hb.block q hF.lt)).c1
  have B0 : Hid (∀ k, Below w.heap.size w ((w.alloc (.cells (bs h) 30)).drewN k)) := fun k => K.below_drewN ((Below.refl _ _).alloc (Nat.le_refl _) _) k
  have hx0 := numB_lt h 0 8
  have hy0 := numB_lt h 8 8
  have HXA : Hid (∀ k : Nat, k ≤ 16 → IntKind.u64.wrap ((numB h 0 8 : Int) + IntKind.u64.wrap ((k : Int) * (numB h 8 8 : Int))) = (xAt h k : Int)) := fun k hk => by
    rw [IntKind.wrap_u64, IntKind.wrap_u64]
    unfold xAt
    have e : (k : Int) * (numB h 8 8 : Int) = ((k * numB h 8 8 : Nat) : Int) := by simp
    rw [e]
    generalize k * numB h 8 8 = z
    omega
  have HSP : Hid (∀ k, xAt h k < 18446744073709551616 ∧ spot h bits k = xAt h k % bits ∧ spot h bits k < bits) := fun k => ⟨Nat.mod_lt _ (by omega), rfl, Nat.mod_lt _ hb0⟩
  clear hF
  go_enter Try.func26, Try.ntmps26
  go_upto_region 4 with fail
  go_quiet (first | (go_at_call 51; exact Calls.quiet_of_same (HN.out _ _ _ (by first | exact .inl ⟨rfl, rfl⟩ | exact .inr ⟨rfl, rfl⟩))) | fail)
  rename_i hK
  refine hK _ _ ?_
  have b1 := B0.out nq
  generalize (w.alloc (.cells (bs h) 30)).drewN nq = W1 at *
  have B1 := Hid.mk' b1
  clear hK HN HBX b1 B0
  have hx : numB h 0 8 < 18446744073709551616 := by simpa using hx0
  have hy : numB h 8 8 < 18446744073709551616 := by simpa using hy0
  clear hx0 hy0
  generalize numB h 0 8 = X at *
  generalize numB h 8 8 = Y at *
  go_wp2
  go_loopw [5, 8] (fun v i wr => ∃ k : Nat, k ≤ probes ∧ i = .int .i64 (k : Int) ∧ Hid (wr.ownsRow w.heap.size 3 1 v k ((spotL h bits hb0 k).map spV)) ∧ Hid (Below w.heap.size w wr)) (fun _ i _ => probes - (intOf i).toNat)
  case atStart => exact ⟨0, by omega, rfl, World.ownsRow_nil _ _ _ _, B1⟩
  case round =>
    obtain ⟨k, hk, rfl, HR, HBe⟩ := hrel
    clear B1
    have c0 := HC0.out wr HBe.out
    have c1 := HC1.out wr HBe.out
    by_cases hkp : k < probes
    · have hkp' : (k : Int) < (probes : Int) := by omega
      have hxa := HXA.out k (by omega)
      obtain ⟨s1, s2, s3⟩ := HSP.out k
      have e2 : (xAt h k : Int).tmod (bits : Int) = (spot h bits k : Int) := by rw [Int.tmod_eq_emod_of_nonneg (by omega), s2]; omega
      have HS : Hid ((spotL h bits hb0 (k + 1)).map spV = (spotL h bits hb0 k).map spV ++ [.int .i64 (spot h bits k : Int)]) := by show _ = _; rw [spotL_succ, List.map_append]; rfl
      clear s2
      generalize xAt h k = xk at *
      generalize spot h bits k = sp at *
      generalize (spotL h bits hb0 k).map spV = xs at *
      have HA := Hid.mk' (HBe.out.alloc (o := .cells #[.int .i64 (sp : Int)] 3) HBe.out.size)
      go_wp2_with (first
        | (at_builtin; refine wpList_append_own _ rfl _ _ 49 rfl w.heap.size 3 i0 (.int .i64 0) 1 8 Try.underlying49 hi hz0 hz1 hz2 rfl (by decide) _ k xs rfl (HR.out.alloc _) ⟨wr.heap.size, 0, none⟩ 1 1 [.int .i64 (sp : Int)] rfl rfl (cell_one_new _ _ _) (by simp [Value.oneCell']) (by simp [maxLen]; omega) (by omega) (by have := HBe.out.size; simp; omega) ?_; intro v' w1 hown hgr _; have HOW := Hid.mk' hown; have HGR := Hid.mk' hgr; clear hown hgr)
        | fail)
      have HBN : Hid (Below w.heap.size w w1) := HA.out.grown HGR.out (by have := HBe.out.size; simp; omega) (fun kk hk => (World.ownsRow.lt HR.out kk hk).1)
      exact ⟨⟨k + 1, by omega, by go_num, by rw [HS.out]; exact HOW, HBN⟩, by simp [intOf]; omega⟩
    · obtain rfl : k = probes := by omega
      have hkp' : ¬ (k : Int) < (k : Int) := by omega
      go_wp2
      go_ret
      obtain ⟨a, c, rfl, hc⟩ := own_cells HR.out (by rw [List.length_map, spotL_len])
      exact ⟨a, c, rfl, hc, HBe.out⟩
/-- Bits set one behind the other. -/
def onAll {b : Nat} (f : Nat → Bool) (l : List (Fin b)) (i : Nat) : Bool := l.any (fun x => decide (i = x.val)) || f i
theorem onAll_bits {b : Nat} (ws : Nat → Nat) (l : List (Fin b)) : onAll (bitAt ws) l = bitAt (setAll ws l) := by
  funext i
  rw [bit_setAll]
  rfl
set_option maxRecDepth 100000 in
set_option maxHeartbeats 4000000 in
theorem radd_any (q g bits probes : Nat) (f : Nat → Bool) (h : List UInt8) (w : World) (hl : h.length = 32) (hb0 : 0 < bits) (hb1 : bits ≤ 65536) (hp : probes ≤ 16) (hF : RW w q g bits probes f) :
    Calls Try.prog 13 #[.pointer (some ⟨q, 0, none⟩), .agg (bs h)] w fun e w' => e = .returned (.tuple #[]) ∧ RW w' q g bits probes (onAll f (spotL h bits hb0 probes)) ∧ Kb w.heap.size g w w' := by
  have HR : Hid ((w.alloc (.cells (bs h) 30)).rangeAt w.heap.size 0 (hcs h)) := range_box w h 30
  have B0 : Hid (Below w.heap.size w (w.alloc (.cells (bs h) 30))) := (Below.refl _ _).alloc (Nat.le_refl _) _
  have C26 := Hid.mk' (rspots_any q g bits probes h (w.alloc (.cells (bs h) 30)) hl hb0 hb1 hp (hF.below B0.out).rc)
  have HFW : Hid (∀ W, Below w.heap.size w W → RW W q g bits probes f) := fun W hb => hF.below hb
  have lq := hF.rc.lt
  have lg := hF.rb.lt
  have HL : Hid (∀ k, k < probes → ((spotL h bits hb0 probes).map spV)[k]? = some (.int .i64 ((spotF h bits hb0 k).val : Int))) := fun k hk => by
    unfold spotL
    rw [List.getElem?_map, List.getElem?_map, List.getElem?_range hk]
    rfl
  have HP : Hid (∀ k i, onAll f (spotL h bits hb0 (k + 1)) i = (decide (i = (spotF h bits hb0 k).val) || onAll f (spotL h bits hb0 k) i)) := fun k i => by
    unfold onAll
    rw [spotL_succ, List.any_append]
    simp only [List.any_cons, List.any_nil, Bool.or_false]
    cases (spotL h bits hb0 k).any (fun x => decide (i = x.val)) <;> cases decide (i = (spotF h bits hb0 k).val) <;> rfl
  clear hF
  go_enter Try.func13, Try.ntmps13
  go_wp2_with (first
    | (with_reducible refine at_ld ?_; refine wpList_ld (.tmp 3) rfl rfl w.heap.size 0 rfl h hl HR.out ?_)
    | (go_at_call 26; refine C26.out.mono ?_; clear C26; rintro e W1 ⟨a, c, rfl, y1, l1⟩; have Y1 := Hid.mk' y1; have B1 := Hid.mk' (B0.out.trans (l1.mono B0.out.size)); have L1 := Hid.mk' l1; clear y1 l1)
    | fail)
  have F1 := Hid.mk' (HFW.out _ B1.out)
  have HC : Hid (∀ W, K.Fr g W1 W → ∀ k, k < probes → ∃ b, a = some ⟨b, 0, none⟩ ∧ W.cell? ⟨b, k, none⟩ = some (.int .i64 ((spotF h bits hb0 k).val : Int))) := fun W hW k hk => by
    obtain ⟨b, e1, e2⟩ := Y1.out W1 (Below.refl _ _) k _ (HL.out k hk)
    refine ⟨b, e1, hW.cell (p := ⟨b, k, none⟩) (fun e => ?_) e2⟩
    obtain ⟨x, hx, hn, hc⟩ := F1.out.rb
    have e' : b = g := e
    subst e'
    have := F1.out.rb
    simp only [World.cell?, hx] at e2
    by_cases hkb : k < x.size
    · have h3 := hc k (by omega)
      rw [h3] at e2
      simp at e2
    · rw [Array.getElem?_eq_none (by omega)] at e2
      simp at e2
  have H0 : Hid (RB W1 g bits (onAll f (spotL h bits hb0 0))) := F1.out.rb
  have HRC := Hid.mk' F1.out.rc
  clear F1 HFW HR B0 L1 Y1 HL
  go_loopw [5] (fun i wr => ∃ k : Nat, k ≤ probes ∧ i = .int .i64 (k : Int) ∧ Hid (RB wr g bits (onAll f (spotL h bits hb0 k))) ∧ Hid (K.Fr g W1 wr)) (fun i _ => probes - (intOf i).toNat)
  case atStart => exact ⟨0, by omega, rfl, H0, K.Fr.refl _ _⟩
  case round =>
    obtain ⟨k, hk, rfl, HB, HG⟩ := hrel
    clear H0
    by_cases hkp : k < probes
    · have hkp' : (k : Int) < (probes : Int) := by omega
      obtain ⟨b, rfl, cb⟩ := HC.out wr HG.out k hkp
      have c0 : wr.cell? ⟨q, 0, none⟩ = some (.slice (some ⟨g, 0, none⟩) bits bits) := HG.out.cell (p := ⟨q, 0, none⟩) (fun e => HRC.out.ne e.symm) HRC.out.c0
      have hsp := (spotF h bits hb0 k).isLt
      have hPk := HP.out k
      generalize (spotF h bits hb0 k).val = sp at *
      have cg : wr.cell? ⟨g, sp, none⟩ = some (.bool (onAll f (spotL h bits hb0 k) sp)) := HB.out.cell hsp
      have fg : wr.frozen? ⟨g, sp, none⟩ = false := HB.out.frozen _
      have ix := fun wx => index49 b probes c k wx hkp
      have ix2 := fun wx => index99 g bits bits sp wx hsp
      have HN : Hid (RB (wr.setCell ⟨g, sp, none⟩ (.bool true)).drew g bits (onAll f (spotL h bits hb0 (k + 1)))) := (HB.out.set sp _).congr fun i _ => by
        by_cases e : i = sp
        · rw [if_pos e, hPk i, decide_eq_true e, Bool.true_or]
        · rw [if_neg e, hPk i, decide_eq_false e, Bool.false_or]
      have HF : Hid (K.Fr g W1 (wr.setCell ⟨g, sp, none⟩ (.bool true)).drew) := (HG.out.trans (K.Fr.set g wr ⟨g, sp, none⟩ rfl _)).trans (K.Fr.drew g _ 1)
      clear hPk
      generalize onAll f (spotL h bits hb0 k) sp = ob at *
      go_wp2
      go_region
      go_wp2
      exact ⟨⟨k + 1, by omega, by go_num, HN, HF⟩, by simp [intOf]; omega⟩
    · obtain rfl : k = probes := by omega
      have hkp' : ¬ (k : Int) < (k : Int) := by omega
      go_wp2
      go_end0
      refine ⟨rfl, ⟨HRC.out.of (HG.out.block q HRC.out.lt (fun e => HRC.out.ne e.symm)), HB.out⟩, (Kb.below B1.out).trans ⟨HG.out.os, HG.out.tape, HG.out.output, HG.out.size, fun j hj hg => HG.out.block j (by have := B1.out.size; omega) hg⟩⟩
end Go.Proofs.Ytdajeabhhkgibaa

namespace Go.Proofs.Ytdajeabhhkgibaa
open Go.RowKit Go.Maps
set_option linter.unusedVariables false
set_option linter.unusedSimpArgs false

def onL {b : Nat} (f : Nat → Bool) (l : List (Fin b)) : Bool := l.all fun x => f x.val
set_option maxRecDepth 100000 in
set_option maxHeartbeats 4000000 in
theorem rhas_any (q g bits probes : Nat) (f : Nat → Bool) (h : List UInt8) (w : World) (hl : h.length = 32) (hb0 : 0 < bits) (hb1 : bits ≤ 65536) (hp : probes ≤ 16) (hF : RW w q g bits probes f) :
    Calls Try.prog 23 #[.pointer (some ⟨q, 0, none⟩), .agg (bs h)] w fun e w' => e = .returned (.bool (onL f (spotL h bits hb0 probes))) ∧ Below w.heap.size w w' := by
  have HR : Hid ((w.alloc (.cells (bs h) 30)).rangeAt w.heap.size 0 (hcs h)) := range_box w h 30
  have B0 : Hid (Below w.heap.size w (w.alloc (.cells (bs h) 30))) := (Below.refl _ _).alloc (Nat.le_refl _) _
  have C26 := Hid.mk' (rspots_any q g bits probes h (w.alloc (.cells (bs h) 30)) hl hb0 hb1 hp (hF.below B0.out).rc)
  have HFW : Hid (∀ W, Below w.heap.size w W → RW W q g bits probes f) := fun W hb => hF.below hb
  have HL : Hid (∀ k, k < probes → ((spotL h bits hb0 probes).map spV)[k]? = some (.int .i64 ((spotF h bits hb0 k).val : Int))) := fun k hk => by
    unfold spotL
    rw [List.getElem?_map, List.getElem?_map, List.getElem?_range hk]
    rfl
  have HP : Hid (∀ k, onL f (spotL h bits hb0 (k + 1)) = (onL f (spotL h bits hb0 k) && f (spotF h bits hb0 k).val)) := fun k => by
    unfold onL
    rw [spotL_succ, List.all_append]
    simp
  have HNO : Hid (∀ k, k < probes → f (spotF h bits hb0 k).val = false → onL f (spotL h bits hb0 probes) = false) := fun k hk hf => by
    have hm : spotF h bits hb0 k ∈ spotL h bits hb0 probes := by unfold spotL; exact List.mem_map.2 ⟨k, List.mem_range.2 hk, rfl⟩
    cases e : onL f (spotL h bits hb0 probes) with
    | false => rfl
    | true =>
      unfold onL at e
      have := List.all_eq_true.1 e _ hm
      rw [hf] at this
      cases this
  clear hF
  go_enter Try.func23, Try.ntmps23
  go_wp2_with (first
    | (with_reducible refine at_ld ?_; refine wpList_ld (.tmp 3) rfl rfl w.heap.size 0 rfl h hl HR.out ?_)
    | (go_at_call 26; refine C26.out.mono ?_; clear C26; rintro e W1 ⟨a, c, rfl, y1, l1⟩; have Y1 := Hid.mk' y1; have B1 := Hid.mk' (B0.out.trans (l1.mono B0.out.size)); clear y1 l1)
    | fail)
  clear HR B0
  go_loopw [6] (fun i wr => ∃ k : Nat, k ≤ probes ∧ i = .int .i64 (k : Int) ∧ Hid (onL f (spotL h bits hb0 k) = true) ∧ Hid (Below W1.heap.size W1 wr)) (fun i _ => probes - (intOf i).toNat)
  case atStart => exact ⟨0, by omega, rfl, rfl, Below.refl _ _⟩
  case round =>
    obtain ⟨k, hk, rfl, HO, HB⟩ := hrel
    have HBW : Hid (Below w.heap.size w wr) := B1.out.trans (HB.out.mono B1.out.size)
    by_cases hkp : k < probes
    · have hkp' : (k : Int) < (probes : Int) := by omega
      obtain ⟨b, rfl, cb⟩ := Y1.out wr HB.out k _ (HL.out k hkp)
      have hRW := HFW.out wr HBW.out
      have c0 := hRW.rc.c0
      have hsp := (spotF h bits hb0 k).isLt
      have cg : wr.cell? ⟨g, (spotF h bits hb0 k).val, none⟩ = some (.bool (f (spotF h bits hb0 k).val)) := hRW.rb.cell hsp
      have ix := fun wx => index49 b probes c k wx hkp
      have ix2 := fun wx => index99 g bits bits (spotF h bits hb0 k).val wx hsp
      clear hRW
      cases hf : f (spotF h bits hb0 k).val with
      | true =>
        rw [hf] at cg
        have HS : Hid (onL f (spotL h bits hb0 (k + 1)) = true) := by show _ = _; rw [HP.out, HO.out, hf]; rfl
        clear hf
        generalize (spotF h bits hb0 k).val = sp at *
        go_wp2
        go_region
        go_wp2
        exact ⟨⟨k + 1, by omega, by go_num, HS, HB.out.drew⟩, by simp [intOf]; omega⟩
      | false =>
        rw [hf] at cg
        have HS := Hid.mk' (HNO.out k hkp hf)
        clear hf
        generalize (spotF h bits hb0 k).val = sp at *
        go_wp2
        go_region
        go_wp2
        go_ret
        exact ⟨by rw [HS.out]; rfl, HBW.out.drew⟩
    · obtain rfl : k = probes := by omega
      have hkp' : ¬ (k : Int) < (k : Int) := by omega
      go_wp2
      go_ret
      exact ⟨by rw [HO.out]; rfl, HBW.out⟩
theorem onL_bits {b : Nat} (ws : Nat → Nat) (l : List (Fin b)) : onL (bitAt ws) l = allBits ws l := rfl
end Go.Proofs.Ytdajeabhhkgibaa

namespace Go.Proofs.Ytdajeabhhkgibaa
open Go.RowKit Go.Maps
set_option linter.unusedVariables false
set_option linter.unusedSimpArgs false

/-- The bits behind k of a join. -/
def jB (f f2 : Nat → Bool) (k i : Nat) : Bool := if i < k then (f i || f2 i) else f i
set_option maxRecDepth 100000 in
set_option maxHeartbeats 4000000 in
theorem rjoin_any (q g q2 g2 bits probes : Nat) (f f2 : Nat → Bool) (w : World) (h : RW w q g bits probes f) (h2 : RW w q2 g2 bits probes f2) (hb : bits ≤ 65536) (hq2 : q2 ≠ g) (hs : g2 ≠ g ∨ (g2 = g ∧ f2 = f)) :
    Calls Try.prog 15 #[.pointer (some ⟨q, 0, none⟩), .pointer (some ⟨q2, 0, none⟩)] w fun e w' => e = .returned (.int .i64 0) ∧ RB w' g bits (jB f f2 bits) ∧ K.Fr g w w' := by
  have a0 := h.rc.c0
  have a1 := h.rc.c1
  have b0 := h2.rc.c0
  have b1 := h2.rc.c1
  have HA0 : Hid (∀ W, K.Fr g w W → W.cell? ⟨q, 0, none⟩ = some (.slice (some ⟨g, 0, none⟩) bits bits)) := fun W hW => hW.cell (p := ⟨q, 0, none⟩) (fun e => h.rc.ne e.symm) a0
  have HB0 : Hid (∀ W, K.Fr g w W → W.cell? ⟨q2, 0, none⟩ = some (.slice (some ⟨g2, 0, none⟩) bits bits)) := fun W hW => hW.cell (p := ⟨q2, 0, none⟩) hq2 b0
  have HG2 : Hid (∀ W k, K.Fr g w W → RB W g bits (jB f f2 k) → k < bits → W.cell? ⟨g2, k, none⟩ = some (.bool (f2 k))) := fun W k hW hr hk => by
    rcases hs with hs | ⟨e1, e2⟩
    · exact hW.cell (p := ⟨g2, k, none⟩) hs (h2.rb.cell hk)
    · rw [e1, hr.cell hk, e2]
      unfold jB
      rw [if_neg (by omega)]
  have H0 : Hid (RB w g bits (jB f f2 0)) := h.rb.congr fun i _ => by unfold jB; rw [if_neg (by omega)]
  clear h h2 hs
  go_enter Try.func15, Try.ntmps15
  go_upto_region 3 with fail
  go_quiet (fail)
  rename_i hK
  refine hK _ _ ?_
  have H1 : Hid (RB (w.drewN nq) g bits (jB f f2 0)) := H0.out
  have G1 : Hid (K.Fr g w (w.drewN nq)) := K.Fr.drew g w nq
  generalize w.drewN nq = W1 at *
  clear hK H0 a0 a1 b0 b1
  go_wp2
  go_loopw [5] (fun i wr => ∃ k : Nat, k ≤ bits ∧ i = .int .i64 (k : Int) ∧ Hid (RB wr g bits (jB f f2 k)) ∧ Hid (K.Fr g w wr)) (fun i _ => bits - (intOf i).toNat)
  case atStart => exact ⟨0, by omega, rfl, H1, G1⟩
  case round =>
    obtain ⟨k, hk, rfl, HR, HG⟩ := hrel
    clear H1 G1
    have a0 := HA0.out wr HG.out
    have b0 := HB0.out wr HG.out
    by_cases hkb : k < bits
    · have hkb' : (k : Int) < (bits : Int) := by omega
      have cg : wr.cell? ⟨g, k, none⟩ = some (.bool (f k)) := by
        have := HR.out.cell hkb
        rw [this]
        unfold jB
        rw [if_neg (by omega)]
      have cg2 := HG2.out wr k HG.out HR.out hkb
      have fg : wr.frozen? ⟨g, k, none⟩ = false := HR.out.frozen _
      have ix := fun wx => index99 g bits bits k wx hkb
      have ix2 := fun wx => index99 g2 bits bits k wx hkb
      have HN : Hid (RB (wr.setCell ⟨g, k, none⟩ (.bool (f k || f2 k))).drew g bits (jB f f2 (k + 1))) := (HR.out.set k _).congr fun i _ => by
        unfold jB
        by_cases e : i = k
        · rw [if_pos e, if_pos (by omega), e]
        · rw [if_neg e]
          by_cases e2 : i < k
          · rw [if_pos e2, if_pos (by omega)]
          · rw [if_neg e2, if_neg (by omega)]
      have HF : Hid (K.Fr g w (wr.setCell ⟨g, k, none⟩ (.bool (f k || f2 k))).drew) := (HG.out.trans (K.Fr.set g wr ⟨g, k, none⟩ rfl _)).trans (K.Fr.drew g _ 1)
      cases hf : f k with
      | true =>
        rw [hf] at cg HN HF
        rw [Bool.true_or] at HN HF
        clear hf
        go_wp2
        go_region
        go_wp2
        exact ⟨⟨k + 1, by omega, by go_num, HN, HF⟩, by simp [intOf]; omega⟩
      | false =>
        rw [hf] at cg HN HF
        rw [Bool.false_or] at HN HF
        clear hf
        generalize f2 k = z at *
        go_wp2
        go_region
        go_wp2
        exact ⟨⟨k + 1, by omega, by go_num, HN, HF⟩, by simp [intOf]; omega⟩
    · obtain rfl : k = bits := by omega
      have hkb' : ¬ (k : Int) < (k : Int) := by omega
      go_wp2
      go_ret
      exact ⟨rfl, HR.out, HG.out⟩
theorem jB_bits (a b : Nat → Nat) (bits m : Nat) (i : Nat) (hi : i < bits) (hm : bits ≤ 64 * m) : jB (bitAt a) (bitAt b) bits i = bitAt (orW a b m) i := by
  unfold jB
  rw [if_pos hi, bit_orW a b m i (by omega)]
end Go.Proofs.Ytdajeabhhkgibaa

namespace Go.Proofs.Ytdajeabhhkgibaa
open Go.RowKit
set_option linter.unusedVariables false
set_option linter.unusedSimpArgs false

set_option maxRecDepth 100000 in
theorem fork_nil (w : World) : Calls Try.prog 16 #[.pointer none] w fun e w' => e = .returned (.pointer none) ∧ w' = w := by
  go_enter Try.func16, Try.ntmps16
  go_wp2
  go_ret
  exact ⟨rfl, rfl⟩
set_option maxRecDepth 100000 in
theorem rfork_nil (w : World) : Calls Try.prog 17 #[.pointer none] w fun e w' => e = .returned (.pointer none) ∧ w' = w := by
  go_enter Try.func17, Try.ntmps17
  go_wp2
  go_ret
  exact ⟨rfl, rfl⟩
set_option maxRecDepth 100000 in
theorem join_nil1 (x : Option Addr) (w : World) : Calls Try.prog 14 #[.pointer none, .pointer x] w fun e w' => e = .returned (.int .i64 1) ∧ w' = w := by
  go_enter Try.func14, Try.ntmps14
  go_wp2
  go_ret
  exact ⟨rfl, rfl⟩
set_option maxRecDepth 100000 in
theorem join_nil2 (q : Nat) (w : World) : Calls Try.prog 14 #[.pointer (some ⟨q, 0, none⟩), .pointer none] w fun e w' => e = .returned (.int .i64 1) ∧ w' = w := by
  go_enter Try.func14, Try.ntmps14
  go_wp2
  go_ret
  exact ⟨rfl, rfl⟩
set_option maxRecDepth 100000 in
theorem rjoin_nil1 (x : Option Addr) (w : World) : Calls Try.prog 15 #[.pointer none, .pointer x] w fun e w' => e = .returned (.int .i64 1) ∧ w' = w := by
  go_enter Try.func15, Try.ntmps15
  go_wp2
  go_ret
  exact ⟨rfl, rfl⟩
set_option maxRecDepth 100000 in
theorem rjoin_nil2 (q : Nat) (w : World) : Calls Try.prog 15 #[.pointer (some ⟨q, 0, none⟩), .pointer none] w fun e w' => e = .returned (.int .i64 1) ∧ w' = w := by
  go_enter Try.func15, Try.ntmps15
  go_wp2
  go_ret
  exact ⟨rfl, rfl⟩
set_option maxRecDepth 100000 in
set_option maxHeartbeats 1000000 in
/-- Join of two of unlike shapes. -/
theorem join_no (q g b1 p1 q2 g2 b2 p2 : Nat) (w : World) (h : FC w q g b1 p1) (h2 : FC w q2 g2 b2 p2) (hne : ¬ (b1 = b2 ∧ p1 = p2)) :
    Calls Try.prog 14 #[.pointer (some ⟨q, 0, none⟩), .pointer (some ⟨q2, 0, none⟩)] w fun e w' => e = .returned (.int .i64 210) ∧ w' = w := by
  have HS := Hid.mk' (shape_any q g b1 p1 q2 g2 b2 p2 w h h2)
  have hdd : decide (b1 = b2 ∧ p1 = p2) = false := decide_eq_false hne
  rw [hdd] at HS
  clear h h2 hne hdd
  go_enter Try.func14, Try.ntmps14
  go_wp2_with (first
    | (go_at_call 44; refine HS.out.mono ?_; rintro e W ⟨rfl, hw⟩; obtain rfl := hw.symm)
    | fail)
  go_ret
  exact ⟨rfl, rfl⟩
set_option maxRecDepth 100000 in
set_option maxHeartbeats 1000000 in
theorem rjoin_no (q g b1 p1 q2 g2 b2 p2 : Nat) (w : World) (h : RC w q g b1 p1) (h2 : RC w q2 g2 b2 p2) (hne : ¬ (b1 = b2 ∧ p1 = p2)) :
    Calls Try.prog 15 #[.pointer (some ⟨q, 0, none⟩), .pointer (some ⟨q2, 0, none⟩)] w fun e w' => e = .returned (.int .i64 210) ∧ ∃ m, w' = w.drewN m := by
  have a0 := h.c0
  have a1 := h.c1
  have b0 := h2.c0
  have c1 := h2.c1
  clear h h2
  by_cases hb : b1 = b2
  · subst hb
    have hp : ((p1 : Int) == (p2 : Int)) = false := by simp; omega
    clear hne
    go_enter Try.func15, Try.ntmps15
    go_upto_region 3 with fail
    go_quiet (fail)
    go_wp2
    go_ret
    exact ⟨rfl, _, rfl⟩
  · have hp : ((b1 : Int) == (b2 : Int)) = false := by simp; omega
    have hp2 : ((b1 : Int) != (b2 : Int)) = true := by simp; omega
    clear hne hb
    go_enter Try.func15, Try.ntmps15
    go_upto_region 3 with fail
    go_quiet (fail)
    go_wp2
    go_ret
    exact ⟨rfl, _, rfl⟩
/-- What a number of bits, of probes is right. -/
def okBi (n : Int) : Bool := decide (8 ≤ n ∧ n ≤ 65536 ∧ n % 8 = 0)
set_option maxRecDepth 100000 in
theorem rbits_int (n : Int) (w : World) (h0 : -9223372036854775808 ≤ n) (h1 : n ≤ 9223372036854775807) : Calls Try.prog 46 #[.int .i64 n] w fun e w' => e = .returned (.bool (okBi n)) ∧ w' = w := by
  by_cases k1 : 8 ≤ n
  · by_cases k2 : n ≤ 65536
    · have hm : n.tmod 8 = n % 8 := Int.tmod_eq_emod_of_nonneg (by omega)
      by_cases k3 : n % 8 = 0
      · have hk : okBi n = true := decide_eq_true ⟨k1, k2, k3⟩
        rw [hk]
        clear hk
        go_enter Try.func46, Try.ntmps46
        go_wp2
        go_ret
        exact ⟨rfl, rfl⟩
      · have hk : okBi n = false := decide_eq_false (fun h => k3 h.2.2)
        rw [hk]
        have k3' : (n % 8 == 0) = false := by simp [k3]
        clear hk k3
        go_enter Try.func46, Try.ntmps46
        go_wp2
        go_ret
        exact ⟨rfl, rfl⟩
    · have hk : okBi n = false := decide_eq_false (fun h => k2 h.2.1)
      rw [hk]
      clear hk
      go_enter Try.func46, Try.ntmps46
      go_wp2
      go_ret
      exact ⟨rfl, rfl⟩
  · have hk : okBi n = false := decide_eq_false (fun h => k1 h.1)
    rw [hk]
    clear hk
    go_enter Try.func46, Try.ntmps46
    go_wp2
    go_ret
    exact ⟨rfl, rfl⟩
set_option maxRecDepth 100000 in
theorem rprobes_int (n : Int) (w : World) (h0 : -9223372036854775808 ≤ n) (h1 : n ≤ 9223372036854775807) : Calls Try.prog 47 #[.int .i64 n] w fun e w' => e = .returned (.bool (okP n)) ∧ w' = w := by
  by_cases k1 : 1 ≤ n
  · by_cases k2 : n ≤ 16
    · have hk : okP n = true := decide_eq_true ⟨k1, k2⟩
      rw [hk]
      clear hk
      go_enter Try.func47, Try.ntmps47
      go_wp2
      go_ret
      exact ⟨rfl, rfl⟩
    · have hk : okP n = false := decide_eq_false (fun h => k2 h.2)
      rw [hk]
      clear hk
      go_enter Try.func47, Try.ntmps47
      go_wp2
      go_ret
      exact ⟨rfl, rfl⟩
  · have hk : okP n = false := decide_eq_false (fun h => k1 h.1)
    rw [hk]
    clear hk
    go_enter Try.func47, Try.ntmps47
    go_wp2
    go_ret
    exact ⟨rfl, rfl⟩
set_option maxRecDepth 100000 in
/-- New that refuses. -/
theorem new_no (b p : Int) (w : World) (hb0 : -9223372036854775808 ≤ b) (hb1 : b ≤ 9223372036854775807) (hp0 : -9223372036854775808 ≤ p) (hp1 : p ≤ 9223372036854775807) (h : ¬ (okBi b = true ∧ okP p = true)) :
    Calls Try.prog 18 #[.int .i64 b, .int .i64 p] w fun e w' => e = .returned (.tuple #[.pointer none, .int .i64 2]) ∧ w' = w := by
  have H1 := Hid.mk' (rbits_int b w hb0 hb1)
  have H2 := Hid.mk' (rprobes_int p w hp0 hp1)
  cases hx : okBi b with
  | false =>
    rw [hx] at H1
    clear hx h
    go_enter Try.func18, Try.ntmps18
    go_wp2_with (first
      | (go_at_call 46; refine H1.out.mono ?_; rintro e W ⟨rfl, hw⟩; obtain rfl := hw.symm)
      | (go_at_call 47; refine H2.out.mono ?_; rintro e W ⟨rfl, hw⟩; obtain rfl := hw.symm)
      | fail)
    go_ret2
    exact ⟨rfl, rfl⟩
  | true =>
    have hy : okP p = false := by
      cases hy : okP p with
      | false => rfl
      | true => exact absurd ⟨hx, hy⟩ h
    rw [hx] at H1
    rw [hy] at H2
    clear hx hy h
    go_enter Try.func18, Try.ntmps18
    go_wp2_with (first
      | (go_at_call 46; refine H1.out.mono ?_; rintro e W ⟨rfl, hw⟩; obtain rfl := hw.symm)
      | (go_at_call 47; refine H2.out.mono ?_; rintro e W ⟨rfl, hw⟩; obtain rfl := hw.symm)
      | fail)
    go_ret2
    exact ⟨rfl, rfl⟩
end Go.Proofs.Ytdajeabhhkgibaa

namespace Go.Proofs.Ytdajeabhhkgibaa
open Go.RowKit
set_option linter.unusedVariables false
set_option linter.unusedSimpArgs false

/-- One row copied onto another of its length. -/
theorem run_copyR (T e : TypeId) (hu : Try.prog.underlying T = some (.slice e)) (hs : (Try.prog.info? e).map (·.size) = some 1) (ty : TypeId) (w : World) (g g2 m : Nat) (t t2 : TypeId) (f1 f2 : Nat → Value) (h1 : w.rowIs g t m f1) (h2 : w.rowIs g2 t2 m f2) (hone : ∀ i, (f2 i).oneCell' = true) :
    ∃ w', (Builtin.copy_ #[T, T] ty #[.slice (some ⟨g, 0, none⟩) m m, .slice (some ⟨g2, 0, none⟩) m m]).run Try.prog w = .ok (goInt m) w' ∧ w'.rowIs g t m f2 ∧ w.grownBy w' (some g) := by
  obtain ⟨c1, k1, s1, _⟩ := h1
  obtain ⟨c2, k2, s2, d2⟩ := h2
  have hlen : c2.toList.length = m := by simpa using s2
  have hsrc : ∀ j v, c2.toList[j]? = some v → w.cell? ((⟨g2, 0, none⟩ : Addr).add j) = some v := fun j v hj => by
    rw [Addr.add_mid, Nat.zero_add, cell_of_row w g2 j c2 t2 (0, 0) k2]
    simpa using hj
  have h1c : ∀ v ∈ c2.toList, v.oneCell' = true := fun v hv => by
    obtain ⟨i, hi, e⟩ := List.getElem_of_mem hv
    have hi' : i < m := by omega
    have := d2 i hi'
    have e2 : c2[i]? = some v := by rw [← e]; simp at hi; simp [hi]
    rw [e2] at this
    rw [Option.some.inj this]
    exact hone i
  have hr := run_copy_row Try.prog w T T ty e g 0 m m ⟨g2, 0, none⟩ m m c1 t c2.toList hu hs k1 (by rw [hlen]; exact (Nat.min_self m).symm) hsrc (by rw [hlen]; omega) h1c
  have hd : c1.toList.drop (0 + c2.toList.length) = [] := List.drop_of_length_le (by rw [hlen]; simp; omega)
  rw [hd, hlen, List.take_zero, List.nil_append, List.append_nil] at hr
  refine ⟨_, hr, ⟨c2, ?_, s2, d2⟩, ?_⟩
  · rw [setRow_heap w g c1 _ t _ k1]
  · exact ⟨rfl, rfl, rfl, by simp, fun k _ hk => setRow_other w g k _ (fun e => hk (by rw [e]))⟩
theorem step_copyR {ops : Array Oper} {o : Oper} {a : Act} {w : World} {K : Act → World → Prop} {Q : Exit → Act → World → Prop} {E : Prop} (hgd : o.guard = none) (s x : Operand) (T e : TypeId) (hu : Try.prog.underlying T = some (.slice e)) (hs : (Try.prog.info? e).map (·.size) = some 1)
    (ho : o.op = .call { callee := .builtin .copy, args := #[s, x], argTypes := #[T, T] }) (g g2 m : Nat) (t t2 : TypeId) (f1 f2 : Nat → Value) (e1 : a.eval s = .slice (some ⟨g, 0, none⟩) m m) (e2 : a.eval x = .slice (some ⟨g2, 0, none⟩) m m) (h1 : w.rowIs g t m f1) (h2 : w.rowIs g2 t2 m f2) (hone : ∀ i, (f2 i).oneCell' = true)
    (h : ∀ w', w'.rowIs g t m f2 → w.grownBy w' (some g) → K (a.put o.dst (goInt m)) w') : if Region.wanted o (yielded ops a.tmps) = true then Oper.wp Try.prog o a w K Q else E := by
  have hw : Region.wanted o (yielded ops a.tmps) = true := by simp [Region.wanted, hgd]
  rw [if_pos hw]
  obtain ⟨w', hr, h3, h4⟩ := run_copyR T e hu hs o.type w g g2 m t t2 f1 f2 h1 h2 hone
  unfold Oper.wp execOp
  simp only [ho, resolve, invoke, builtin, Sem.run_bind, Sem.run_pure, Result.andThen_ok, List.map_toArray, List.map_cons, List.map_nil, e1, e2, hr]
  exact h w' h3 h4
theorem size106 : (Try.prog.info? 106).map (·.size) = some 1 := by kernel_rfl
set_option maxRecDepth 100000 in
set_option maxHeartbeats 4000000 in
/-- Fork. -/
theorem fork_any (q g bits p : Nat) (ws : Nat → Nat) (w : World) (h : FW w q g bits p ws) (hb0 : 0 < bits) (hb : bits ≤ 65536) (hp : p ≤ 16) :
    Calls Try.prog 16 #[.pointer (some ⟨q, 0, none⟩)] w fun e w' => ∃ q2 g2, e = .returned (.pointer (some ⟨q2, 0, none⟩)) ∧ FW w' q2 g2 bits p ws ∧ Below w.heap.size w w' ∧ w.heap.size ≤ g2 ∧ w.heap.size ≤ q2 := by
  have HE : Hid (∀ W, Calls Try.prog 40 #[.int .i64 (bits : Int), .int .i64 (p : Int)] W fun e w' => e = .returned (.pointer (some ⟨W.heap.size + 1, 0, none⟩)) ∧ FC w' (W.heap.size + 1) W.heap.size bits p ∧ WR w' W.heap.size ((bits + 63) / 64) (fun _ => 0) ∧ Below W.heap.size W w' ∧ W.heap.size + 1 < w'.heap.size) := fun W => empty_any bits p W hb hb0 hp
  have HW := Hid.mk' h
  have c0 := h.fc.c0
  have c1 := h.fc.c1
  clear h
  go_enter Try.func16, Try.ntmps16
  go_upto_region 3 with fail
  go_region_law (first
    | (rw [if_pos (by rfl)]
       go_simp
       go_at_call 40
       refine (HE.out _).mono ?_
       rintro e W1 ⟨rfl, fc1, wr1, bel1, sz1⟩
       have FC1 := Hid.mk' fc1
       have WR1 := Hid.mk' wr1
       have B1 := Hid.mk' bel1
       have SZ1 := Hid.mk' sz1
       clear fc1 wr1 bel1 sz1)
    | fail)
  all_goals
    have bw : Below w.heap.size w W1 := ⟨B1.out.os, B1.out.tape, B1.out.output, B1.out.size, B1.out.block⟩
    have BW := Hid.mk' bw
    have FW1 : Hid (FW W1 q g bits p ws) := HW.out.below bw
    have lq := HW.out.fc.lt
    have lg := HW.out.wr.lt
    have d2 := FW1.out.fc.c2
    have d3 : W1.cell? ⟨w.heap.size + 1, 2, none⟩ = some (.slice (some ⟨w.heap.size, 0, none⟩) ((bits + 63) / 64) ((bits + 63) / 64)) := FC1.out.c2
    have R1 : Hid (∀ m, (W1.drewN m).rowIs w.heap.size 106 ((bits + 63) / 64) (fun _ => .int .u64 ((0 : Nat) : Int))) := fun m => WR1.out
    have R2 : Hid (∀ m, (W1.drewN m).rowIs g 106 ((bits + 63) / 64) (fun i => .int .u64 (ws i : Int))) := fun m => FW1.out.wr
    have HFin : Hid (∀ m W2, W2.rowIs w.heap.size 106 ((bits + 63) / 64) (fun i => .int .u64 (ws i : Int)) → (W1.drewN m).grownBy W2 (some w.heap.size) → FW W2 (w.heap.size + 1) w.heap.size bits p ws ∧ Below w.heap.size w W2) := fun m W2 hr hgr => by
      have hs : w.heap.size + 1 < W1.heap.size := SZ1.out
      have e1 : W2.heap[w.heap.size + 1]? = W1.heap[w.heap.size + 1]? := hgr.block _ (by show w.heap.size + 1 < W1.heap.size; exact hs) (fun e => by simp at e)
      have fcx : FC W1 (w.heap.size + 1) w.heap.size bits p := FC1.out
      refine ⟨⟨fcx.of e1, hr⟩, BW.out.trans ⟨hgr.os, hgr.tape, hgr.output, hgr.size, fun k hk => hgr.block k (by show k < W1.heap.size; omega) (fun e => by simp at e; omega)⟩⟩
    clear bw FC1 WR1 B1 SZ1 c0 c1 HE FW1
    generalize hnw : (bits + 63) / 64 = nw at *
    clear hnw
    go_wp2
    go_upto_region 4 with fail
    go_region_law (first
      | (refine step_copyR rfl (.tmp 18) (.tmp 22) 95 106 Try.underlying95 size106 rfl w.heap.size g nw 106 106 (fun _ => .int .u64 ((0 : Nat) : Int)) (fun i => .int .u64 (ws i : Int)) (by first | rfl | simp [Act.eval, Act.put]) (by first | rfl | simp [Act.eval, Act.put]) (R1.out 1) (R2.out 1) (fun _ => rfl) ?_
         intro W2 hr2 hg2
         have HR2 := Hid.mk' (HFin.out 1 W2 hr2 hg2)
         clear hr2 hg2)
      | fail)
  all_goals
    go_wp2
    go_ret
    exact ⟨_, _, rfl, HR2.out.1, HR2.out.2, Nat.le_refl _, Nat.le_succ _⟩
theorem size4 : (Try.prog.info? 4).map (·.size) = some 1 := by kernel_rfl
set_option maxRecDepth 100000 in
set_option maxHeartbeats 4000000 in
/-- The document's Fork. -/
theorem rfork_any (q g bits p : Nat) (f : Nat → Bool) (w : World) (h : RW w q g bits p f) (h1 : 8 ≤ bits) (h2 : bits ≤ 65536) (h3 : bits % 8 = 0) (h4 : 1 ≤ p) (h5 : p ≤ 16) :
    Calls Try.prog 17 #[.pointer (some ⟨q, 0, none⟩)] w fun e w' => ∃ q2 g2, e = .returned (.pointer (some ⟨q2, 0, none⟩)) ∧ RW w' q2 g2 bits p f ∧ Below w.heap.size w w' ∧ w.heap.size ≤ g2 ∧ w.heap.size ≤ q2 := by
  have HE : Hid (∀ W, Calls Try.prog 19 #[.int .i64 (bits : Int), .int .i64 (p : Int)] W fun e w' => e = .returned (.tuple #[.pointer (some ⟨W.heap.size + 1, 0, none⟩), .int .i64 0]) ∧ RW w' (W.heap.size + 1) W.heap.size bits p (fun _ => false) ∧ Below W.heap.size W w' ∧ W.heap.size + 1 < w'.heap.size) := fun W => rnew_ok bits p W h1 h2 h3 h4 h5
  have HW := Hid.mk' h
  have c0 := h.rc.c0
  have c1 := h.rc.c1
  clear h h3
  go_enter Try.func17, Try.ntmps17
  go_upto_region 3 with fail
  go_region_law (first
    | (rw [if_pos (by rfl)]
       go_simp
       go_at_call 19
       refine (HE.out _).mono ?_
       rintro e W1 ⟨rfl, rw1, bel1, sz1⟩
       have RW1 := Hid.mk' rw1
       have B1 := Hid.mk' bel1
       have SZ1 := Hid.mk' sz1
       clear rw1 bel1 sz1)
    | fail)
  all_goals
    have bw : Below w.heap.size w W1 := ⟨B1.out.os, B1.out.tape, B1.out.output, B1.out.size, B1.out.block⟩
    have BW := Hid.mk' bw
    have FW1 : Hid (RW W1 q g bits p f) := HW.out.below bw
    have lq := HW.out.rc.lt
    have lg := HW.out.rb.lt
    have d2 := FW1.out.rc.c0
    have d3 : W1.cell? ⟨w.heap.size + 1, 0, none⟩ = some (.slice (some ⟨w.heap.size, 0, none⟩) bits bits) := RW1.out.rc.c0
    have R1 : Hid (∀ m, (W1.drewN m).rowIs w.heap.size 4 bits (fun _ => .bool false)) := fun m => RW1.out.rb
    have R2 : Hid (∀ m, (W1.drewN m).rowIs g 4 bits (fun i => .bool (f i))) := fun m => FW1.out.rb
    have HFin : Hid (∀ m W2, W2.rowIs w.heap.size 4 bits (fun i => .bool (f i)) → (W1.drewN m).grownBy W2 (some w.heap.size) → RW W2 (w.heap.size + 1) w.heap.size bits p f ∧ Below w.heap.size w W2) := fun m W2 hr hgr => by
      have hs : w.heap.size + 1 < W1.heap.size := SZ1.out
      have e1 : W2.heap[w.heap.size + 1]? = W1.heap[w.heap.size + 1]? := hgr.block _ (by show w.heap.size + 1 < W1.heap.size; exact hs) (fun e => by simp at e)
      have fcx : RC W1 (w.heap.size + 1) w.heap.size bits p := RW1.out.rc
      refine ⟨⟨fcx.of e1, hr⟩, BW.out.trans ⟨hgr.os, hgr.tape, hgr.output, hgr.size, fun k hk => hgr.block k (by show k < W1.heap.size; omega) (fun e => by simp at e; omega)⟩⟩
    clear bw RW1 B1 SZ1 c0 c1 HE FW1
    go_wp2
    go_upto_region 4 with fail
    go_region_law (first
      | (refine step_copyR rfl (.tmp 23) (.tmp 27) 99 4 Try.underlying99 size4 rfl w.heap.size g bits 4 4 (fun _ => .bool false) (fun i => .bool (f i)) (by first | rfl | simp [Act.eval, Act.put]) (by first | rfl | simp [Act.eval, Act.put]) (R1.out 1) (R2.out 1) (fun _ => rfl) ?_
         intro W2 hr2 hg2
         have HR2 := Hid.mk' (HFin.out 1 W2 hr2 hg2)
         clear hr2 hg2)
      | fail)
  all_goals
    go_wp2
    go_ret
    exact ⟨_, _, rfl, HR2.out.1, HR2.out.2, Nat.le_refl _, Nat.le_succ _⟩
end Go.Proofs.Ytdajeabhhkgibaa

namespace Go.Proofs.Ytdajeabhhkgibaa
open Go.RowKit Go.Shelf
set_option linter.unusedVariables false
set_option linter.unusedSimpArgs false
attribute [local go_sem] Oper.semAt_some

set_option maxRecDepth 100000 in
set_option maxHeartbeats 4000000 in
/-- The spots of a filter that is nil. -/
theorem spots0_stops (n bh bf n₀ : Nat) (h : List UInt8) (w : World) (hH : HB w bh h) (hF : w.cell? ⟨bf, 0, none⟩ = some (.pointer none)) (l1 : bh < n₀) (l2 : bf < n₀) (hn : n₀ ≤ w.heap.size) :
    SeqStopsK Fence.wide n Try.prog 98 #[.pointer (some ⟨bh, 0, none⟩), .pointer (some ⟨bf, 0, none⟩)] (fun x : Fin 2 => #[.int .i64 (x.val : Int)]) (Kb n₀ n₀) (fun xs => xs = []) (fun pre => False) 0 w := by
  intro l J Jx W hW hJ hJx hY h0
  have HHW : Hid (HB W bh h) := fun k hk => (hW.cell (p := ⟨bh, k, none⟩) (by show bh < _; omega)).trans (hH k hk)
  have HN : Hid (∀ k o c, (o = 0 ∧ c = 32) ∨ (o = 8 ∧ c = 24) → Calls Try.prog 99 #[.slice (some ⟨bh, o, none⟩) 8 c] (W.drewN k) fun e w' => e = .returned (.int .u64 (numB h o 8 : Int)) ∧ w' = W.drewN k) := fun k o c hc =>
    number_any bh o o c h _ (fun i hi => HHW.out (o + i) (by omega))
  refine callsIn_of_wp Try.func98 rfl trivial ?_ rfl
  simp only [Try.ntmps98, List.size_toArray, List.length_cons, List.length_nil, Nat.reduceAdd, Nat.reduceSub, Array.replicate_succ, Array.replicate_zero, List.push_toArray, List.append_toArray, List.nil_append, List.cons_append]
  refine wpIn_wide.2 ?_
  go_upto_region 0 with fail
  go_quiet (first | (go_at_call 99; exact Calls.quiet_of_same (HN.out _ _ _ (by first | exact .inl ⟨rfl, rfl⟩ | exact .inr ⟨rfl, rfl⟩))) | fail)
  rename_i hK
  refine hK _ _ ?_
  have h01 : J [] (W.drewN nq) := hJ [] W (W.drewN nq) none h0 ⟨rfl, rfl, rfl, Nat.le_refl _, fun _ _ _ => rfl⟩ (fun r e => by cases e)
  have hF1 : (W.drewN nq).cell? ⟨bf, 0, none⟩ = some (.pointer none) := (hW.cell (p := ⟨bf, 0, none⟩) (by show bf < _; omega)).trans hF
  clear hK HN HHW h0 hH hF hY
  generalize W.drewN nq = W1 at *
  have HJ0 := Hid.mk' h01
  clear h01
  go_wp2_with (first | (go_at_call 53; refine (nil_53 _).mono ?_; rintro e w' ⟨rfl, hw⟩; obtain rfl := hw.symm) | fail)
  refine (wpIn_wide (n := n)).1 ?_
  gi_loopw [4, 12] (fun x i wr => i = .int .i64 0 ∧ Hid (J [] wr)) (fun _ i _ => 0)
  case atStart => exact ⟨rfl, HJ0⟩
  case round =>
    obtain ⟨rfl, HJk⟩ := hrel
    gi_wp2
    go_end0
    exact ⟨⟨_, rfl⟩, .inl ⟨[], rfl, HJk.out⟩⟩
theorem belowB_own (m : Nat) (w : World) (hB : w.heap.size ≤ m) : OwnFrom m (fun (_ : List (Fin 2)) W => Below w.heap.size w W) := ownFrom_below (Nat.le_refl _) hB
set_option maxRecDepth 100000 in
set_option maxHeartbeats 4000000 in
theorem add_nil (h : List UInt8) (w : World) (hl : h.length = 32) : Calls Try.prog 12 #[.pointer none, .agg (bs h)] w fun e w' => e = .returned (.tuple #[]) ∧ Below w.heap.size w w' := by
  refine (callsIn_wide (n := 4)).1 ?_
  refine callsIn_of_wp_marks Try.func12 rfl trivial ?_ rfl
  simp only [Try.ntmps12, List.size_toArray, List.length_cons, List.length_nil, Nat.reduceAdd, Nat.reduceSub, Array.replicate_succ, Array.replicate_zero, List.push_toArray, List.append_toArray, List.nil_append, List.cons_append]
  refine wpIn_wide.2 ?_
  have HR : Hid (((w.alloc (.cells #[.pointer none] 23)).alloc (.cells (bs h) 30)).rangeAt (w.heap.size + 1) 0 (hcs h)) := by have := range_box (w.alloc (.cells #[.pointer none] 23)) h 30; rwa [World.size_alloc] at this
  go_wp2_with (first
    | (with_reducible refine at_ld ?_; refine wpList_ld (.tmp 3) rfl rfl (w.heap.size + 1) 0 rfl h hl HR.out ?_)
    | (go_at_call 42; refine (spots_any _ h _ hl).mono ?_; rintro e w' ⟨rfl, hw⟩; subst hw)
    | fail)
  obtain ⟨W0, hW0⟩ : ∃ W0, (((w.alloc (.cells #[.pointer none] 23)).alloc (.cells (bs h) 30)).alloc (.cells #[.pointer none] 23)).alloc (.cells (bs h) 30) = W0 := ⟨_, rfl⟩
  obtain ⟨s0, k1, k2, k3, k4⟩ := boxes4 w _ h hl hW0
  rw [hW0]
  clear hW0 HR
  refine (wpIn_wide (n := 4)).1 ?_
  refine wpIn_rangeFunc_ownF (F := Fence.wide) rfl (by omega) (gf := 98) (lb := #[.pointer (some ⟨w.heap.size + 1 + 1 + 1, 0, none⟩), .pointer (some ⟨w.heap.size + 1 + 1, 0, none⟩)]) rfl trivial (enters_of Try.func98 (by kernel_rfl) rfl)
    (spots0_stops (4 - 1) (w.heap.size + 1 + 1 + 1) (w.heap.size + 1 + 1) W0.heap.size h W0 k3 k2 (by omega) (by omega) (Nat.le_refl _)) (fun h k => h.trans k) (Kb.put (Nat.le_refl _)) (Below.refl _ _) (fun _ => rfl)
    (fun pre W => Below w.heap.size w W)
    (fun _ _ _ => False)
    (belowB_own W0.heap.size w (by omega))
    (fun _ _ _ _ _ hs _ _ => hs)
    k4
    (fun x => { tmps := #[.pointer none, .agg (bs h), .pointer (some ⟨w.heap.size, 0, none⟩), .pointer (some ⟨w.heap.size + 1, 0, none⟩), .int .i64 (x.val : Int), .pointer none, .agg (bs h), .func (.func 98) #[] #[.pointer (some ⟨w.heap.size + 1 + 1 + 1, 0, none⟩), .pointer (some ⟨w.heap.size + 1 + 1, 0, none⟩)], .int .i64 (x.val : Int), undef, undef, undef, undef, undef, undef], defers := [] }) ?assign ?body ?done ?stop
  case assign =>
    intro l x W K hK
    gi_wp2
    exact hK
  case body =>
    rintro l pre x W hI hlt
    exact absurd hlt (Nat.not_lt_zero _)
  case done =>
    rintro D ys W hD rfl hI hK
    gi_wp2
    refine ⟨by simp, .inl ⟨_, _, rfl, run_takeDeferred hK, ?_⟩⟩
    exact ⟨_, results_none rfl _ _ _, rfl, hI.trans (belowK_b (w := w) (Nat.le_refl _) W D _ _ (by omega) hK rfl rfl)⟩
  case stop =>
    rintro D c pre W _ _ h _
    exact h.elim
/-- What Has of a nil one keeps. -/
structure HN0 (w : World) (W : World) : Prop where
  bx : W.cell? ⟨w.heap.size, 0, none⟩ = some (.pointer none)
  rc : W.cell? ⟨w.heap.size + 2, 0, none⟩ = some (.bool false)
  rf : W.frozen? ⟨w.heap.size + 2, 0, none⟩ = false
  be : Below w.heap.size w W
  sz : w.heap.size + 5 ≤ W.heap.size
theorem HN0.own (w : World) (m : Nat) (hm : m = w.heap.size + 5) : OwnFrom m (fun (_ : List (Fin 2)) W => HN0 w W) := by
  intro s W W' row hs hg hr
  have keep : ∀ k, k < w.heap.size + 5 → W'.heap[k]? = W.heap[k]? := fun k hk => hg.block k (by have := hs.sz; omega) (fun e => by have := (hr k e.symm).1; omega)
  exact ⟨(World.cell?_of_block (w := W) (a := ⟨w.heap.size, 0, none⟩) (keep w.heap.size (by omega))).trans hs.bx, (World.cell?_of_block (w := W) (a := ⟨w.heap.size + 2, 0, none⟩) (keep (w.heap.size + 2) (by omega))).trans hs.rc, (World.frozen?_of_block (w := W) (a := ⟨w.heap.size + 2, 0, none⟩) (keep (w.heap.size + 2) (by omega))).trans hs.rf, hs.be.trans ⟨hg.os, hg.tape, hg.output, hg.size, fun k hk => keep k (by omega)⟩, Nat.le_trans hs.sz hg.size⟩
set_option maxRecDepth 100000 in
set_option maxHeartbeats 4000000 in
theorem has_nil (h : List UInt8) (w : World) (hl : h.length = 32) : Calls Try.prog 22 #[.pointer none, .agg (bs h)] w fun e w' => e = .returned (.bool false) ∧ Below w.heap.size w w' := by
  refine (callsIn_wide (n := 4)).1 ?_
  refine callsIn_of_wp_marks Try.func22 rfl trivial ?_ rfl
  simp only [Try.ntmps22, List.size_toArray, List.length_cons, List.length_nil, Nat.reduceAdd, Nat.reduceSub, Array.replicate_succ, Array.replicate_zero, List.push_toArray, List.append_toArray, List.nil_append, List.cons_append]
  refine wpIn_wide.2 ?_
  have HR : Hid ((((w.alloc (.cells #[.pointer none] 23)).alloc (.cells (bs h) 30)).alloc (.cells #[.bool false] 4)).rangeAt (w.heap.size + 1) 0 (hcs h)) := by
    have := range_box (w.alloc (.cells #[.pointer none] 23)) h 30
    rw [World.size_alloc] at this
    exact rangeAt_below this ((Below.refl _ _).alloc (Nat.le_refl _) _) (by simp)
  go_wp2_with (first
    | (with_reducible refine at_ld ?_; refine wpList_ld (.tmp 3) rfl rfl (w.heap.size + 1) 0 rfl h hl HR.out ?_)
    | (go_at_call 42; refine (spots_any _ h _ hl).mono ?_; rintro e w' ⟨rfl, hw⟩; subst hw)
    | fail)
  obtain ⟨W0, hW0⟩ : ∃ W0, ((((w.alloc (.cells #[.pointer none] 23)).alloc (.cells (bs h) 30)).alloc (.cells #[.bool false] 4)).alloc (.cells #[.pointer none] 23)).alloc (.cells (bs h) 30) = W0 := ⟨_, rfl⟩
  obtain ⟨s0, k1, k2, k3, k4, k5, k6⟩ := boxes5 w _ h hl hW0
  rw [hW0]
  clear hW0 HR
  refine (wpIn_wide (n := 4)).1 ?_
  refine wpIn_rangeFunc_ownF (F := Fence.wide) rfl (by omega) (gf := 98) (lb := #[.pointer (some ⟨w.heap.size + 1 + 1 + 1 + 1, 0, none⟩), .pointer (some ⟨w.heap.size + 1 + 1 + 1, 0, none⟩)]) rfl trivial (enters_of Try.func98 (by kernel_rfl) rfl)
    (spots0_stops (4 - 1) (w.heap.size + 1 + 1 + 1 + 1) (w.heap.size + 1 + 1 + 1) W0.heap.size h W0 k3 k2 (by omega) (by omega) (Nat.le_refl _)) (fun h k => h.trans k) (Kb.put (Nat.le_refl _)) (Below.refl _ _) (fun _ => rfl)
    (fun pre W => HN0 w W)
    (fun _ _ _ => False)
    (HN0.own w W0.heap.size s0)
    (fun _ _ _ _ _ hs _ _ => hs)
    ⟨k1, k5, k6, k4, by omega⟩
    (fun x => { tmps := #[.pointer none, .agg (bs h), .pointer (some ⟨w.heap.size, 0, none⟩), .pointer (some ⟨w.heap.size + 1, 0, none⟩), .pointer (some ⟨w.heap.size + 1 + 1, 0, none⟩), .int .i64 (x.val : Int), .pointer none, .agg (bs h), .func (.func 98) #[] #[.pointer (some ⟨w.heap.size + 1 + 1 + 1 + 1, 0, none⟩), .pointer (some ⟨w.heap.size + 1 + 1 + 1, 0, none⟩)], .int .i64 (x.val : Int), undef, undef, undef, undef, undef, undef, undef, undef, undef], defers := [] }) ?assign ?body ?done ?stop
  case assign =>
    intro l x W K hK
    gi_wp2
    exact hK
  case body =>
    rintro l pre x W hI hlt
    exact absurd hlt (Nat.not_lt_zero _)
  case done =>
    rintro D ys W hD rfl hI hK
    have bx := hI.bx
    have rc := hI.rc
    have rf := hI.rf
    go_wp2
    have hK' := (KeepsOthers.setCell W ⟨w.heap.size + 2, 0, none⟩ (.bool false)).same D _ hK rfl
    refine ⟨by simp, .inl ⟨_, _, rfl, run_takeDeferred hK', ?_⟩⟩
    have hc5 := cell_kept (World.cell?_setCell_same' W ⟨w.heap.size + 2, 0, none⟩ (.bool false) (by rw [rc]; rfl)) (grownBy_putObj' _ D (.deferred none)) (fun r e => by cases e; exact ⟨_, hK', rfl⟩)
    refine ⟨.bool false, ?_, rfl, (hI.be.setCell (p := ⟨w.heap.size + 2, 0, none⟩) (by show w.heap.size ≤ w.heap.size + 2; omega) _).trans (belowK_b (w := w) (Nat.le_refl _) _ D _ _ (by omega) hK' rfl rfl)⟩
    simp [results, Try.f22, go_sem, hc5]
  case stop =>
    rintro D c pre W _ _ h _
    exact h.elim
end Go.Proofs.Ytdajeabhhkgibaa

namespace Go.Proofs.Ytdajeabhhkgibaa
open Go.RowKit Go.Shelf
set_option linter.unusedVariables false
set_option linter.unusedSimpArgs false
attribute [local go_sem] Oper.semAt_some

set_option maxRecDepth 100000 in
set_option maxHeartbeats 4000000 in
theorem appseq_nil (bh bf : Nat) (h : List UInt8) (w : World) (hH : HB w bh h) (hF : w.cell? ⟨bf, 0, none⟩ = some (.pointer none)) (l1 : bh < w.heap.size) :
    Calls Try.prog 100 #[.slice none 0 0, .func (.func 98) #[] #[.pointer (some ⟨bh, 0, none⟩), .pointer (some ⟨bf, 0, none⟩)]] w fun e w' => ∃ v, e = .returned v ∧ w'.ownsRow w.heap.size 3 1 v 0 [] ∧ Below w.heap.size w w' := by
  refine (callsIn_wide (n := 4)).1 ?_
  refine callsIn_of_wp_marks Try.func100 rfl trivial ?_ rfl
  simp only [Try.ntmps100, List.size_toArray, List.length_cons, List.length_nil, Nat.reduceAdd, Nat.reduceSub, Array.replicate_succ, Array.replicate_zero, List.push_toArray, List.append_toArray, List.nil_append, List.cons_append]
  refine wpIn_wide.2 ?_
  obtain ⟨i0, hi, hz0, hz1, hz2⟩ := info_parts info3x
  have l2 : bf < w.heap.size := World.block_lt_of_cell? _ _ hF
  go_wp2_with fail
  obtain ⟨W1, hW1⟩ : ∃ W1, w.alloc (.cells #[.slice none 0 0] 49) = W1 := ⟨_, rfl⟩
  have be1 : Below w.heap.size w W1 := by rw [← hW1]; exact (Below.refl _ _).alloc (Nat.le_refl _) _
  have bx1 : Boxed W1 w.heap.size 49 (.slice none 0 0) := by rw [← hW1]; exact Boxed.new w 49 _
  have sz1 : W1.heap.size = w.heap.size + 1 := by rw [← hW1]; simp
  rw [hW1]
  clear hW1
  have hH1 : HB W1 bh h := fun k hk => (be1.cell (p := ⟨bh, k, none⟩) l1).trans (hH k hk)
  have hF1 : W1.cell? ⟨bf, 0, none⟩ = some (.pointer none) := (be1.cell (p := ⟨bf, 0, none⟩) l2).trans hF
  refine (wpIn_wide (n := 4)).1 ?_
  refine wpIn_rangeFunc_ownF (F := Fence.wide) rfl (by omega) (gf := 98) (lb := #[.pointer (some ⟨bh, 0, none⟩), .pointer (some ⟨bf, 0, none⟩)]) rfl trivial (enters_of Try.func98 (by kernel_rfl) rfl)
    (spots0_stops (4 - 1) bh bf w.heap.size h W1 hH1 hF1 l1 l2 (by omega)) (fun h k => h.trans k) (Kb.put (by omega)) (Below.refl _ _) (fun _ => rfl)
    (fun pre W => (∃ v, Boxed W w.heap.size 49 v ∧ W.ownsRow w.heap.size 3 1 v pre.length (pre.map spV) ∧ True) ∧ Below w.heap.size w W)
    (fun _ _ _ => False)
    (OwnFrom.and ((holdsRow_own w.heap.size w.heap.size 49 3 1 (fun pre : List (Fin 2) => pre.length) (fun pre : List (Fin 2) => pre.map spV) (fun _ _ => True)).from _) (ownFrom_below (Nat.le_refl _) (by omega)))
    (fun _ _ _ _ _ hs _ _ => hs)
    ⟨⟨_, bx1, World.ownsRow_nil _ _ _ _, trivial⟩, be1⟩
    (fun x => { tmps := #[.slice none 0 0, .func (.func 98) #[] #[.pointer (some ⟨bh, 0, none⟩), .pointer (some ⟨bf, 0, none⟩)], .pointer (some ⟨w.heap.size, 0, none⟩), undef, .slice none 0 0, .int .i64 (x.val : Int), .func (.func 98) #[] #[.pointer (some ⟨bh, 0, none⟩), .pointer (some ⟨bf, 0, none⟩)], .int .i64 (x.val : Int), undef, undef, undef, undef, undef], defers := [] }) ?assign ?body ?done ?stop
  case assign =>
    intro l x W K hK
    gi_wp2
    exact hK
  case body =>
    rintro l pre x W _ hlt
    exact absurd hlt (Nat.not_lt_zero _)
  case done =>
    rintro D ys W hD rfl ⟨⟨v, hv, hrow, _⟩, hB⟩ hK
    have hc := hv.cell
    have HR := Hid.mk' hrow
    go_wp2
    refine ⟨by simp, .inl ⟨_, _, rfl, run_takeDeferred hK, ?_⟩⟩
    refine ⟨v, ?_, v, rfl, ownsRow_putObj HR.out _ hK rfl, hB.trans (belowK_b (w := w) (Nat.le_refl _) W D _ _ (by omega) hK rfl rfl)⟩
    simp [results, Try.f100, go_sem]
  case stop =>
    rintro D c pre W _ _ h _
    exact h.elim
set_option maxRecDepth 100000 in
theorem spotsF_nil (h : List UInt8) (w : World) (hl : h.length = 32) :
    Calls Try.prog 25 #[.pointer none, .agg (bs h)] w (SpPost 0 [] w) := by
  have HR : Hid ((w.alloc (.cells (bs h) 30)).rangeAt w.heap.size 0 (hcs h)) := range_box w h 30
  obtain ⟨W0, hW0⟩ : ∃ W0, ((w.alloc (.cells (bs h) 30)).alloc (.cells #[.pointer none] 23)).alloc (.cells (bs h) 30) = W0 := ⟨_, rfl⟩
  have hA : W0.heap.size = w.heap.size + 3 ∧ W0.cell? ⟨w.heap.size + 1, 0, none⟩ = some (.pointer none) ∧ HB W0 (w.heap.size + 2) h ∧ Below w.heap.size w W0 := by
    obtain ⟨w1, e1⟩ : ∃ x, w.alloc (.cells (bs h) 30) = x := ⟨_, rfl⟩
    rw [e1] at hW0
    obtain ⟨w2, e2⟩ : ∃ x, w1.alloc (.cells #[.pointer none] 23) = x := ⟨_, rfl⟩
    rw [e2] at hW0
    have s1 : w1.heap.size = w.heap.size + 1 := by rw [← e1]; simp
    have s2 : w2.heap.size = w1.heap.size + 1 := by rw [← e2]; simp
    have s3 : W0.heap.size = w2.heap.size + 1 := by rw [← hW0]; simp
    have b1 : Below w.heap.size w w1 := by rw [← e1]; exact (Below.refl _ _).alloc (Nat.le_refl _) _
    have b2 : Below w1.heap.size w1 w2 := by rw [← e2]; exact (Below.refl _ _).alloc (Nat.le_refl _) _
    have b3 : Below w2.heap.size w2 W0 := by rw [← hW0]; exact (Below.refl _ _).alloc (Nat.le_refl _) _
    have c2 : w2.cell? ⟨w1.heap.size, 0, none⟩ = some (.pointer none) := by rw [← e2]; exact (cell_of_row _ _ 0 _ _ _ (heap_alloc_new w1 _)).trans rfl
    refine ⟨by omega, ?_, ?_, b1.trans ((b2.trans (b3.mono (by omega))).mono (by omega))⟩
    · rw [show w.heap.size + 1 = w1.heap.size by omega]
      exact (b3.cell (p := ⟨w1.heap.size, 0, none⟩) (by show w1.heap.size < _; omega)).trans c2
    · rw [show w.heap.size + 2 = w2.heap.size by omega, ← hW0]
      exact hb_box w2 h hl 30
  obtain ⟨s0, k1, k2, k3⟩ := hA
  have HAP := Hid.mk' (appseq_nil (w.heap.size + 2) (w.heap.size + 1) h W0 k2 k1 (by omega))
  have HC : Hid (Calls Try.prog 50 #[.func (.func 98) #[] #[.pointer (some ⟨w.heap.size + 2, 0, none⟩), .pointer (some ⟨w.heap.size + 1, 0, none⟩)]] W0 (SpPost 0 [] w)) := by
    go_enter Try.func50, Try.ntmps50
    go_wp2_with (first
      | (go_at_call 100; refine HAP.out.mono ?_; rintro e W5 ⟨v, rfl, ow, be⟩; have OW := Hid.mk' ow; have BE := Hid.mk' be; clear ow be)
      | fail)
    go_ret
    obtain ⟨a, c, rfl, hc⟩ := own_cells OW.out rfl
    exact ⟨a, c, rfl, hc, k3.trans (BE.out.mono k3.size)⟩
  clear HAP
  have HW0 := Hid.mk' hW0
  clear hW0
  go_enter Try.func25, Try.ntmps25
  go_wp2_with (first
    | (with_reducible refine at_ld ?_; refine wpList_ld (.tmp 3) rfl rfl w.heap.size 0 rfl h hl HR.out ?_)
    | (go_at_call 42; refine (spots_any _ h _ hl).mono ?_; rintro e w' ⟨rfl, hw⟩; have hw2 := hw.trans HW0.out; clear hw; obtain rfl := hw2.symm; clear hw2)
    | (go_at_call 50; refine HC.out.mono ?_; rintro e W5 ⟨a, c, rfl, hc, be⟩; have HCC := Hid.mk' hc; have BE := Hid.mk' be; clear hc be)
    | fail)
  go_ret
  exact ⟨a, c, rfl, HCC.out, BE.out⟩
end Go.Proofs.Ytdajeabhhkgibaa

namespace Go.Proofs.Ytdajeabhhkgibaa
open Go.RowKit
set_option linter.unusedVariables false
set_option linter.unusedSimpArgs false

set_option maxRecDepth 100000 in
theorem rspots_nil (h : List UInt8) (w : World) (hl : h.length = 32) : Calls Try.prog 26 #[.pointer none, .agg (bs h)] w fun e w' => e = .returned (.slice none 0 0) ∧ Below w.heap.size w w' := by
  have B0 : Hid (Below w.heap.size w (w.alloc (.cells (bs h) 30))) := (Below.refl _ _).alloc (Nat.le_refl _) _
  go_enter Try.func26, Try.ntmps26
  go_wp2
  go_ret
  exact ⟨rfl, B0.out⟩
set_option maxRecDepth 100000 in
theorem radd_nil (h : List UInt8) (w : World) (hl : h.length = 32) : Calls Try.prog 13 #[.pointer none, .agg (bs h)] w fun e w' => e = .returned (.tuple #[]) ∧ Below w.heap.size w w' := by
  have HR : Hid ((w.alloc (.cells (bs h) 30)).rangeAt w.heap.size 0 (hcs h)) := range_box w h 30
  have B0 : Hid (Below w.heap.size w (w.alloc (.cells (bs h) 30))) := (Below.refl _ _).alloc (Nat.le_refl _) _
  have C26 := Hid.mk' (rspots_nil h (w.alloc (.cells (bs h) 30)) hl)
  go_enter Try.func13, Try.ntmps13
  go_wp2_with (first
    | (with_reducible refine at_ld ?_; refine wpList_ld (.tmp 3) rfl rfl w.heap.size 0 rfl h hl HR.out ?_)
    | (go_at_call 26; refine C26.out.mono ?_; rintro e W1 ⟨rfl, be⟩; have BE := Hid.mk' be; clear be)
    | fail)
  have BW : Hid (Below w.heap.size w W1) := B0.out.trans (BE.out.mono B0.out.size)
  clear BE B0 C26 HR
  go_loopw [5] (fun i wr => i = .int .i64 0 ∧ Hid (Below w.heap.size w wr)) (fun _ _ => 0)
  case atStart => exact ⟨rfl, BW⟩
  case round =>
    obtain ⟨rfl, HB⟩ := hrel
    go_wp2
    go_end0
    exact ⟨rfl, HB.out⟩
set_option maxRecDepth 100000 in
theorem rhas_nil (h : List UInt8) (w : World) (hl : h.length = 32) : Calls Try.prog 23 #[.pointer none, .agg (bs h)] w fun e w' => e = .returned (.bool false) ∧ Below w.heap.size w w' := by
  have HR : Hid ((w.alloc (.cells (bs h) 30)).rangeAt w.heap.size 0 (hcs h)) := range_box w h 30
  have B0 : Hid (Below w.heap.size w (w.alloc (.cells (bs h) 30))) := (Below.refl _ _).alloc (Nat.le_refl _) _
  have C26 := Hid.mk' (rspots_nil h (w.alloc (.cells (bs h) 30)) hl)
  go_enter Try.func23, Try.ntmps23
  go_wp2_with (first
    | (with_reducible refine at_ld ?_; refine wpList_ld (.tmp 3) rfl rfl w.heap.size 0 rfl h hl HR.out ?_)
    | (go_at_call 26; refine C26.out.mono ?_; rintro e W1 ⟨rfl, be⟩; have BE := Hid.mk' be; clear be)
    | fail)
  have BW : Hid (Below w.heap.size w W1) := B0.out.trans (BE.out.mono B0.out.size)
  clear BE B0 C26 HR
  go_loopw [6] (fun i wr => i = .int .i64 0 ∧ Hid (Below w.heap.size w wr)) (fun _ _ => 0)
  case atStart => exact ⟨rfl, BW⟩
  case round =>
    obtain ⟨rfl, HB⟩ := hrel
    go_wp2
    go_ret
    exact ⟨rfl, HB.out⟩
end Go.Proofs.Ytdajeabhhkgibaa

namespace Go.Proofs.Ytdajeabhhkgibaa
open Go.RowKit
set_option linter.unusedVariables false
set_option linter.unusedSimpArgs false

set_option maxRecDepth 100000 in
set_option maxHeartbeats 4000000 in
theorem joinW_self (g m : Nat) (ws : Nat → Nat) (w : World) (h : WR w g m ws) (hw : ∀ i, ws i < 18446744073709551616) (hm : m ≤ 1024) :
    Calls Try.prog 45 #[.slice (some ⟨g, 0, none⟩) m m, .slice (some ⟨g, 0, none⟩) m m] w fun e w' => e = .returned (.tuple #[]) ∧ WR w' g m ws ∧ w.grownBy w' (some g) := by
  have H0 := Hid.mk' h
  have HW1 := Hid.mk' hw
  clear h hw
  go_enter Try.func45, Try.ntmps45
  go_wp2
  go_loopw [8] (fun i wr => ∃ k : Nat, k ≤ m ∧ i = .int .i64 (k : Int) ∧ Hid (WR wr g m ws) ∧ Hid (w.grownBy wr (some g))) (fun i _ => m - (intOf i).toNat)
  case atStart => exact ⟨0, by omega, rfl, H0, grown_refl _ _⟩
  case round =>
    obtain ⟨k, hk, rfl, HR, HG⟩ := hrel
    clear H0
    by_cases hkm : k < m
    · have hkm' : (k : Int) < (m : Int) := by omega
      have ix := fun wx => index95 g m m k wx hkm
      have c1 : wr.cell? ⟨g, k, none⟩ = some (.int .u64 (ws k : Int)) := HR.out.cell hkm
      have f1 : wr.frozen? ⟨g, k, none⟩ = false := HR.out.frozen k
      have ho : bits .or .u64 (ws k : Int) (ws k : Int) = (ws k : Int) := by have := bits_or_u64_nat (ws k) (ws k) (HW1.out k) (HW1.out k); rw [Nat.or_self] at this; exact this
      have hor := HW1.out k
      have HN : Hid (WR (wr.setCell ⟨g, k, none⟩ (.int .u64 (ws k : Int))) g m ws) := (HR.out.set k _).congr (fun i _ => by
        by_cases e : i = k
        · subst e
          rw [if_pos rfl]
        · rw [if_neg e])
      have HGN : Hid (w.grownBy (wr.setCell ⟨g, k, none⟩ (.int .u64 (ws k : Int))) (some g)) := grown_trans HG.out (grown_set' _ _ _ _)
      have HO := Hid.mk' ho
      rw [← ho] at HN HGN
      clear ho
      generalize ws k = x at *
      go_wp2
      exact ⟨⟨k + 1, by omega, by go_num, HN, HGN⟩, by simp [intOf]; omega⟩
    · obtain rfl : k = m := by omega
      have hkm' : ¬ (k : Int) < (k : Int) := by omega
      go_wp2
      go_end0
      exact ⟨rfl, HR.out, HG.out⟩
set_option maxRecDepth 100000 in
set_option maxHeartbeats 4000000 in
/-- Join with itself. -/
theorem join_self (q g bits probes : Nat) (ws : Nat → Nat) (w : World) (h : FW w q g bits probes ws) (hw : ∀ i, ws i < 18446744073709551616) (hb : bits ≤ 65536) :
    Calls Try.prog 14 #[.pointer (some ⟨q, 0, none⟩), .pointer (some ⟨q, 0, none⟩)] w fun e w' => e = .returned (.int .i64 0) ∧ FW w' q g bits probes ws ∧ w.grownBy w' (some g) := by
  have HS := Hid.mk' (shape_any q g bits probes q g bits probes w h.fc h.fc)
  have hdd : decide (bits = bits ∧ probes = probes) = true := by simp
  rw [hdd] at HS
  have hq : q ≠ g := fun e => h.fc.ne e.symm
  have HJ := Hid.mk' (joinW_self g ((bits + 63) / 64) ws w.drew h.wr hw (by omega))
  have HF : Hid (∀ w', w.drew.grownBy w' (some g) → WR w' g ((bits + 63) / 64) ws → FW w' q g bits probes ws ∧ w.grownBy w' (some g)) := fun w' hg hr => ⟨⟨h.fc.of (hg.block q h.fc.lt (fun e => hq (by cases e; rfl))), hr⟩, ⟨hg.os, hg.tape, hg.output, hg.size, hg.block⟩⟩
  have HC : Hid (∀ w', w.drew.grownBy w' (some g) → w'.cell? ⟨q, 2, none⟩ = some (.slice (some ⟨g, 0, none⟩) ((bits + 63) / 64) ((bits + 63) / 64))) := fun w' hg => (World.cell?_of_block (w := w) (a := ⟨q, 2, none⟩) (hg.block q h.fc.lt (fun e => hq (by cases e; rfl)))).trans h.fc.c2
  have c1 := h.fc.c2
  clear h hw hdd
  generalize (bits + 63) / 64 = m at *
  go_enter Try.func14, Try.ntmps14
  go_wp2_with (first
    | (go_at_call 44; refine HS.out.mono ?_; rintro e W ⟨rfl, hw⟩; obtain rfl := hw.symm)
    | fail)
  go_region_held3 (fun w' => w'.cell? ⟨q, 2, none⟩ = some (.slice (some ⟨g, 0, none⟩) m m)) (first | assumption | go_keep) (first
    | (go_at_call 45; refine HJ.out.mono ?_; rintro e W3 ⟨rfl, wr3, gr3⟩; have HF3 := Hid.mk' (HF.out _ gr3 wr3); have s1 := HC.out _ gr3; clear wr3 gr3)
    | fail)
  all_goals go_wp2
  all_goals (go_ret; exact ⟨rfl, HF3.out.1, HF3.out.2⟩)
set_option maxRecDepth 100000 in
set_option maxHeartbeats 2000000 in
/-- The document's New that refuses, of any numbers. -/
theorem rnew_noI (b p : Int) (w : World) (hb0 : -9223372036854775808 ≤ b) (hb1 : b ≤ 9223372036854775807) (hp0 : -9223372036854775808 ≤ p) (hp1 : p ≤ 9223372036854775807) (hk : ¬ (okBi b = true ∧ okP p = true)) :
    Calls Try.prog 19 #[.int .i64 b, .int .i64 p] w fun e w' => e = .returned (.tuple #[.pointer none, .int .i64 2]) ∧ w' = w := by
  have hk' : ¬ ((8 ≤ b ∧ b ≤ 65536 ∧ b % 8 = 0) ∧ (1 ≤ p ∧ p ≤ 16)) := fun h => hk ⟨decide_eq_true h.1, decide_eq_true h.2⟩
  clear hk
  by_cases h8 : b < 8
  · clear hk'
    go_enter Try.func19, Try.ntmps19
    go_wp2
    go_ret2
    exact ⟨rfl, rfl⟩
  · by_cases h9 : 65536 < b
    · clear hk'
      go_enter Try.func19, Try.ntmps19
      go_wp2
      go_ret2
      exact ⟨rfl, rfl⟩
    · have e3 : b.tmod 8 = b % 8 := Int.tmod_eq_emod_of_nonneg (by omega)
      by_cases hm : b % 8 = 0
      · rw [hm] at e3
        by_cases hp : p < 1
        · clear hk'
          go_enter Try.func19, Try.ntmps19
          go_wp2
          go_ret2
          exact ⟨rfl, rfl⟩
        · have e5 : 16 < p := by omega
          clear hk'
          go_enter Try.func19, Try.ntmps19
          go_wp2
          go_ret2
          exact ⟨rfl, rfl⟩
      · have e5 : (b % 8 == 0) = false := by simp [hm]
        have e6 : (b % 8 != 0) = true := by simp [hm]
        clear hk' hm
        go_enter Try.func19, Try.ntmps19
        go_wp2
        go_ret2
        exact ⟨rfl, rfl⟩
end Go.Proofs.Ytdajeabhhkgibaa

namespace Go.Proofs.Ytdajeabhhkgibaa
open Go.RowKit
set_option linter.unusedVariables false

/-- A world in which all that was there in 'w' is as it was. -/
structure ExtT (w : World) where
  wd : World
  ok : Below w.heap.size w wd

theorem ExtT.some (w : World) : Nonempty (ExtT w) := ⟨⟨w, Below.refl _ _⟩⟩
section
variable {P : Program}
/-- A region that draws, whose operations and callees turn nothing that was there: one walk. -/
theorem wp_region_ext {id : Nat} {Q : Exit → Act → World → Prop} {a : Act} {w : World} {l : List Oper} (hm : P.follows .mixedOrders = true) (hB : Region.lexB .any l.toArray = true)
    (h : wpQuiet P l.toArray (fun w' => ∃ e : ExtT w, w' = e.wd) (fun a' => ∀ w', (∃ e : ExtT w, w' = e.wd) → Q .normal a' w') l a) : (Code.region id l.toArray true).wp P Q a w :=
  wp_region_quiet (C := fun w' => ∃ e : ExtT w, w' = e.wd) hm hB ⟨⟨{ w with drawn := w.drawn + 1 }, (Below.refl _ _).drew⟩, rfl⟩ (by simpa using h)

theorem ext_of {f : FuncId} {args : Array Value} {w : World} {e : ExtT w} {v : Value}
    (h : Calls P f args e.wd fun x w' => x = .returned v ∧ Below e.wd.heap.size e.wd w') : Calls P f args e.wd fun x w'' => x = .returned v ∧ ∃ e2 : ExtT w, w'' = e2.wd :=
  h.mono fun _ w'' ⟨he, hb⟩ => ⟨he, ⟨w'', e.ok.trans (hb.mono e.ok.size)⟩, rfl⟩
theorem ext_of_drew {f : FuncId} {args : Array Value} {w : World} {e : ExtT w} {v : Value}
    (h : Calls P f args e.wd fun x w' => x = .returned v ∧ ∃ m, w' = e.wd.drewN m) : Calls P f args e.wd fun x w'' => x = .returned v ∧ ∃ e2 : ExtT w, w'' = e2.wd :=
  h.mono fun _ w'' ⟨he, m, hm⟩ => ⟨he, ⟨w'', by rw [hm]; exact ⟨e.ok.os, e.ok.tape, e.ok.output, e.ok.size, e.ok.block⟩⟩, rfl⟩
theorem ext_of_same {f : FuncId} {args : Array Value} {w : World} {e : ExtT w} {v : Value}
    (h : Calls P f args e.wd fun x w' => x = .returned v ∧ w' = e.wd) : Calls P f args e.wd fun x w'' => x = .returned v ∧ ∃ e2 : ExtT w, w'' = e2.wd :=
  h.mono fun _ w'' ⟨he, hm⟩ => ⟨he, e, hm⟩
theorem ExtT.range {w : World} (e : ExtT w) {b o : Nat} {cs : List Value} (h : w.rangeAt b o cs) (h0 : 0 < cs.length) : e.wd.rangeAt b o cs := fun j v hv => by
  rw [e.ok.cell (p := ⟨b, o + j, none⟩) (World.block_lt_of_cell? w ⟨b, o + 0, none⟩ (h 0 _ (List.getElem?_eq_getElem h0)))]
  exact h j v hv
end
end Go.Proofs.Ytdajeabhhkgibaa

namespace Go.Proofs.Ytdajeabhhkgibaa
open Go.RowKit
set_option linter.unusedVariables false
set_option linter.unusedSimpArgs false

/-- A slice of bytes that lies in memory. -/
def Byt (w : World) (a : Option Addr) (l : List UInt8) : Prop :=
  l = [] ∨ ∃ b off, a = some ⟨b, off, none⟩ ∧ ∀ j, j < l.length → w.cell? ⟨b, off + j, none⟩ = some (.int .u8 (at8 l j))
def byC (x : List UInt8) : List Value := x.map (fun b => Value.int .u8 (b.toNat : Int))
theorem byC_len (x : List UInt8) : (byC x).length = x.length := by simp [byC]
theorem byC_get (x : List UInt8) (j : Nat) (v : Value) (h : (byC x)[j]? = some v) : j < x.length ∧ v = .int .u8 (at8 x j) := by
  have hj : j < x.length := by have := (List.getElem?_eq_some_iff.1 h).1; simpa [byC] using this
  refine ⟨hj, ?_⟩
  simp [byC, List.getElem?_eq_getElem hj] at h
  simp [at8, List.getElem?_eq_getElem hj, h]
theorem byC_one (x : List UInt8) : ∀ v ∈ byC x, v.oneCell' = true := by
  intro v hv
  simp [byC] at hv
  obtain ⟨b, _, rfl⟩ := hv
  rfl
theorem hsz5 : (Try.prog.info? 5).map (·.size) = some 1 := by kernel_rfl
def lenOf : Value → Nat | .slice _ n _ => n | _ => 0
theorem byt_below {w w' : World} {a : Option Addr} {l : List UInt8} (h : Byt w a l) (hb : Below w.heap.size w w') : Byt w' a l := by
  rcases h with rfl | ⟨b, off, rfl, hc⟩
  · exact .inl rfl
  · exact .inr ⟨b, off, rfl, fun j hj => (hb.cell (p := ⟨b, off + j, none⟩) (block_lt_of_cell (hc j hj))).trans (hc j hj)⟩
theorem byt_lt {w : World} {a : Option Addr} {l : List UInt8} (h : Byt w a l) (hl : 0 < l.length) {b off : Nat} (e : a = some ⟨b, off, none⟩) : b < w.heap.size := by
  rcases h with rfl | ⟨b', off', rfl, hc⟩
  · simp at hl
  · cases e; exact block_lt_of_cell (hc 0 hl)

/-- A slice of the call's own that holds bytes. -/
def OwnB (w : World) (base : Nat) (v : Value) (L : List UInt8) : Prop := w.ownsRow base 5 1 v L.length (byC L)

theorem ownB_nil (w : World) (base : Nat) : OwnB w base (.slice none 0 0) [] := World.ownsRow_nil w base 5 1

theorem OwnB.open {w : World} {base : Nat} {v : Value} {L : List UInt8} (h : OwnB w base v L) :
    ∃ a cap, v = .slice a L.length cap ∧ L.length ≤ cap ∧ Byt w a L ∧ (∀ b off, a = some ⟨b, off, none⟩ → base ≤ b ∧ b < w.heap.size) := by
  rcases h.2 with ⟨rfl, hn⟩ | ⟨g, cap, cur, rfl, hbg, hg, hnc, hcm, hcs, htake⟩
  · obtain rfl : L = [] := List.eq_nil_of_length_eq_zero hn
    exact ⟨none, 0, rfl, Nat.le_refl _, .inl rfl, fun _ _ e => by cases e⟩
  · refine ⟨some ⟨g, 0, none⟩, cap, rfl, hnc, .inr ⟨g, 0, rfl, fun j hj => ?_⟩, fun b off e => by cases e; exact ⟨hbg, (Array.getElem?_eq_some_iff.1 hg).1⟩⟩
    rw [Nat.zero_add, cell_of_row w g j cur 5 (0, 0) hg]
    have e : (byC L)[j]? = some (.int .u8 (at8 L j)) := by simp [byC, at8, List.getElem?_eq_getElem hj]
    rw [← htake, List.getElem?_take] at e
    split at e
    · simpa using e
    · cases e
/-- .. that is not empty. -/
theorem OwnB.open1 {w : World} {base : Nat} {v : Value} {L : List UInt8} (h : OwnB w base v L) (h0 : 0 < L.length) :
    ∃ g cap, v = .slice (some ⟨g, 0, none⟩) L.length cap ∧ L.length ≤ cap ∧ (∀ j, j < L.length → w.cell? ⟨g, j, none⟩ = some (.int .u8 (at8 L j))) ∧ base ≤ g ∧ g < w.heap.size := by
  rcases h.2 with ⟨rfl, hn⟩ | ⟨g, cap, cur, rfl, hbg, hg, hnc, hcm, hcs, htake⟩
  · omega
  · refine ⟨g, cap, rfl, hnc, fun j hj => ?_, hbg, (Array.getElem?_eq_some_iff.1 hg).1⟩
    rw [cell_of_row w g j cur 5 (0, 0) hg]
    have e : (byC L)[j]? = some (.int .u8 (at8 L j)) := by simp [byC, at8, List.getElem?_eq_getElem hj]
    rw [← htake, List.getElem?_take] at e
    split at e
    · simpa using e
    · cases e
theorem OwnB.below {w w' : World} {base : Nat} {v : Value} {L : List UInt8} (h : OwnB w base v L) (hb : Below w.heap.size w w') : OwnB w' base v L := by
  refine ⟨h.1, ?_⟩
  rcases h.2 with hn | ⟨g, cap, cur, rfl, hbg, hg, rest⟩
  · exact .inl hn
  · exact .inr ⟨g, cap, cur, rfl, hbg, by rw [hb.block g (Array.getElem?_eq_some_iff.1 hg).1]; exact hg, rest⟩
theorem info5' : ∃ i, Try.prog.info? 5 = some i ∧ i.zero = some (.int .u8 0) ∧ i.size = 1 ∧ i.bytes = 1 := by
  obtain ⟨i, h1, h2, h3, h4⟩ := info_parts Try.info5
  exact ⟨i, h1, h2, h3, h4⟩

theorem run_app (w : World) (base : Nat) (ty : TypeId) (v : Value) (L : List UInt8) (a : Option Addr) (M : List UInt8) (c : Nat) (hown : OwnB w base v L) (hb : Byt w a M)
    (h : L.length + M.length ≤ 140737488355328) (hbase : base ≤ w.heap.size) :
    ∃ v' w', (Builtin.append_ #[53, 53] ty #[v, .slice a M.length c]).run Try.prog w = .ok v' w' ∧ OwnB w' base v' (L ++ M) ∧ w.grownBy w' v.ownBlock := by
  obtain ⟨i, hi, hz, hs, hby⟩ := info5'
  cases a with
  | some ad =>
    have hnews : ∀ j u, (byC M)[j]? = some u → w.cell? (ad.add j) = some u := fun j u hj => by
      obtain ⟨h1, rfl⟩ := byC_get _ j u hj
      rcases hb with rfl | ⟨b, off, e, hc⟩
      · simp at h1
      · cases e
        rw [Addr.add_mid]
        exact hc j h1
    obtain ⟨v', w', hr, h2, h3, _⟩ := run_append_own (P := Try.prog) w base 53 ty 5 i (.int .u8 0) 1 1 Try.underlying53 hi hz hs hby rfl (by decide) v L.length (byC L) hown ad M.length c (byC M) (by rw [byC_len]; omega) hnews (byC_one _) (by unfold maxLen; omega) (by omega) hbase
    refine ⟨v', w', hr, ?_, h3⟩
    unfold OwnB
    rw [List.length_append, show byC (L ++ M) = byC L ++ byC M by simp [byC]]
    exact h2
  | none =>
    obtain rfl : M = [] := by
      rcases hb with rfl | ⟨b, off, e, _⟩
      · rfl
      · cases e
    rcases hown.2 with ⟨rfl, hn⟩ | ⟨g, cap, cur, rfl, hbg, hg, hnc, rest⟩
    · refine ⟨.slice none 0 0, w, ?_, by rw [List.append_nil]; exact hown, ⟨rfl, rfl, rfl, Nat.le_refl _, fun _ _ _ => rfl⟩⟩
      simp [Builtin.append_, run_underlying Try.underlying53, sizeOf, typeInfo, hi, Builtin.lenOf, Builtin.firstCells, loadCells, loadCellsFrom]
    · refine ⟨.slice (some ⟨g, 0, none⟩) L.length cap, w, ?_, by rw [List.append_nil]; exact hown, ⟨rfl, rfl, rfl, Nat.le_refl _, fun _ _ _ => rfl⟩⟩
      simp [Builtin.append_, run_underlying Try.underlying53, sizeOf, typeInfo, hi, Builtin.lenOf, Builtin.firstCells, hnc, storeCells]

theorem wpList_app {ops : Array Oper} {rest : List Oper} {o : Oper} {a : Act} {w : World} {Q : Exit → Act → World → Prop} (hgd : o.guard = none) (s x : Operand)
    (ho : o.op = .call { callee := .builtin .append, args := #[s, x], argTypes := #[53, 53] }) (base : Nat) (v : Value) (L : List UInt8) (hs : a.eval s = v) (hown : OwnB w base v L)
    (aa : Option Addr) (m c : Nat) (M : List UInt8) (hx : a.eval x = .slice aa m c) (hm : M.length = m) (hb : Byt w aa M) (hlen : L.length + M.length ≤ 140737488355328) (hbase : base ≤ w.heap.size)
    (h : ∀ v' w', OwnB w' base v' (L ++ M) → w.grownBy w' v.ownBlock → wpList Try.prog ops Q rest (a.put o.dst v') w') : wpList Try.prog ops Q (o :: rest) a w :=
  wpList_plain hgd fun _ hK => by
    subst hm
    obtain ⟨v', w', hr, h2, h3⟩ := run_app w base o.type v L aa M c hown hb hlen hbase
    unfold Oper.wp execOp
    simp only [ho, resolve, invoke, builtin, Sem.run_bind, Sem.run_pure, Result.andThen_ok, List.map_toArray, List.map_cons, List.map_nil, hs, hx, hr]
    exact hK _ _ (h v' w' h2 h3)
theorem byt_one (w : World) (b : UInt8) (t : TypeId) : Byt (w.alloc (.cells #[.int .u8 (b.toNat : Int)] t)) (some ⟨w.heap.size, 0, none⟩) [b] :=
  .inr ⟨w.heap.size, 0, rfl, fun j hj => by
    obtain rfl : j = 0 := by simp at hj; omega
    rw [cell_of_row _ w.heap.size 0 _ _ _ (heap_alloc_new _ _)]
    rfl⟩

/-- append onto an owned row, as one step of a region that draws. -/
theorem step_app {ops : Array Oper} {o : Oper} {a : Act} {w : World} {K : Act → World → Prop} {Q : Exit → Act → World → Prop} {E : Prop} (hgd : o.guard = none) (s x : Operand)
    (ho : o.op = .call { callee := .builtin .append, args := #[s, x], argTypes := #[53, 53] }) (base : Nat) (v : Value) (L : List UInt8) (hs : a.eval s = v) (hown : OwnB w base v L)
    (aa : Option Addr) (m c : Nat) (M : List UInt8) (hx : a.eval x = .slice aa m c) (hm : M.length = m) (hb : Byt w aa M) (hlen : L.length + M.length ≤ 140737488355328) (hbase : base ≤ w.heap.size)
    (h : ∀ v' w', OwnB w' base v' (L ++ M) → w.grownBy w' v.ownBlock → K (a.put o.dst v') w') : if Region.wanted o (yielded ops a.tmps) = true then Oper.wp Try.prog o a w K Q else E := by
  have hw : Region.wanted o (yielded ops a.tmps) = true := by simp [Region.wanted, hgd]
  rw [if_pos hw]
  subst hm
  obtain ⟨v', w', hr, h2, h3⟩ := run_app w base o.type v L aa M c hown hb hlen hbase
  unfold Oper.wp execOp
  simp only [ho, resolve, invoke, builtin, Sem.run_bind, Sem.run_pure, Result.andThen_ok, List.map_toArray, List.map_cons, List.map_nil, hs, hx, hr]
  exact h v' w' h2 h3

end Go.Proofs.Ytdajeabhhkgibaa

namespace Go.Proofs.Ytdajeabhhkgibaa
open Go.RowKit
set_option linter.unusedVariables false
set_option linter.unusedSimpArgs false

/-- Which of two rows of bytes comes first. -/
def cmpL : List UInt8 → List UInt8 → Int
  | x :: a, y :: b => if x.toNat < y.toNat then -1 else if y.toNat < x.toNat then 1 else cmpL a b
  | _, _ => 0
theorem cmpL_at : ∀ (a b : List UInt8) (k : Nat), k < a.length → k < b.length → (∀ j, j < k → at8 a j = at8 b j) → (at8 a k < at8 b k → cmpL a b = -1) ∧ (at8 b k < at8 a k → cmpL a b = 1)
  | x :: a, y :: b, 0, _, _, _ => by
    simp only [at8_zero, cmpL]
    constructor
    · intro h; rw [if_pos (by omega)]
    · intro h; rw [if_neg (by omega), if_pos (by omega)]
  | x :: a, y :: b, k + 1, h1, h2, h3 => by
    have e := h3 0 (by omega)
    simp only [at8_zero] at e
    simp only [at8_succ, cmpL]
    rw [if_neg (by omega), if_neg (by omega)]
    exact cmpL_at a b k (by simpa using h1) (by simpa using h2) (fun j hj => by have := h3 (j + 1) (by omega); simpa [at8_succ] using this)
  | [], _, k, h1, _, _ => by simp at h1
  | _ :: _, [], k, _, h2, _ => by simp at h2
theorem cmpL_same (a : List UInt8) : cmpL a a = 0 := by
  induction a with
  | nil => rfl
  | cons x a ih => simp only [cmpL]; rw [if_neg (by omega), if_neg (by omega)]; exact ih

theorem cmpL_lib : ∀ (a b : List UInt8), a.length = b.length → cmpL a b = Lib.compareBytes a b
  | [], [], _ => rfl
  | [], _ :: _, h => by simp at h
  | _ :: _, [], h => by simp at h
  | x :: a, y :: b, h => by
    simp only [cmpL, Lib.compareBytes, UInt8.lt_iff_toNat_lt]
    rw [cmpL_lib a b (by simpa using h)]
theorem load_row (w : World) (g : Nat) (a : List UInt8) (fr : Nat × Nat) (hg : w.heap[g]? = some (.cells (bs a) 30 fr)) : (Extern.Bytes.bytesOf (.slice (some ⟨g, 0, none⟩) a.length 32)).run Try.prog w = .ok ⟨a.toArray⟩ w := by
  show (Extern.Bytes.loadBytes ⟨g, 0, none⟩ a.length .empty).run Try.prog w = _
  have h := Lib.run_loadBytesX (P := Try.prog) w (a.map (fun b => (b.toNat : Int))) ⟨g, 0, none⟩ .empty (fun j x hx => by
    have hj : j < a.length := by have := (List.getElem?_eq_some_iff.1 hx).1; simpa using this
    have e : (⟨g, 0, none⟩ : Addr).add j = ⟨g, j, none⟩ := by simpa using Addr.add_mid g 0 j
    rw [e, cell_of_row w g j _ _ _ hg, bs_get a j hj]
    simp [List.getElem?_eq_getElem hj] at hx
    simp [at8, List.getElem?_eq_getElem hj, hx])
  rw [List.length_map] at h
  rw [h]
  congr 1
  apply ByteArray.ext
  have e2 : Lib.bytesOf (a.map fun b => (b.toNat : Int)) = a := by
    simp only [Lib.bytesOf, List.map_map]
    exact (List.map_congr_left (fun b _ => by simp)).trans (List.map_id a)
  rw [e2]
  simp
end Go.Proofs.Ytdajeabhhkgibaa

namespace Go.Proofs.Ytdajeabhhkgibaa
open Go.RowKit
set_option linter.unusedVariables false
set_option linter.unusedSimpArgs false

/-- Two rows of 32 bytes have the same digits up to number n. -/
def Agree (a b : List UInt8) (n : Nat) : Prop := ∀ j, j < n → dig a j = dig b j
theorem Agree.mono {a b : List UInt8} {n m : Nat} (h : Agree a b n) (hm : m ≤ n) : Agree a b m := fun j hj => h j (by omega)
theorem Agree.symm {a b : List UInt8} {n : Nat} (h : Agree a b n) : Agree b a n := fun j hj => (h j hj).symm
theorem Agree.trans {a b c : List UInt8} {n : Nat} (h : Agree a b n) (k : Agree b c n) : Agree a c n := fun j hj => (h j hj).trans (k j hj)
theorem agree_zero (a b : List UInt8) : Agree a b 0 := fun j hj => by omega

theorem dig_even (h : List UInt8) (i : Nat) : dig h (2 * i) = at8 h i / 16 := by unfold dig; rw [if_pos (by omega), show 2 * i / 2 = i by omega]
theorem dig_odd (h : List UInt8) (i : Nat) : dig h (2 * i + 1) = at8 h i % 16 := by unfold dig; rw [if_neg (by omega), show (2 * i + 1) / 2 = i by omega]
theorem at8_dig (h : List UInt8) (i : Nat) : at8 h i = dig h (2 * i) * 16 + dig h (2 * i + 1) := by rw [dig_even, dig_odd]; have := at8_lo h i; omega

theorem agree_all {a b : List UInt8} (ha : a.length = 32) (hb : b.length = 32) (h : Agree a b 64) : a = b :=
  at8_ext 32 ha hb fun i hi => by rw [at8_dig, at8_dig, h (2 * i) (by omega), h (2 * i + 1) (by omega)]

/-- How many of the first n digits, counted from number k on, agree till one parts. -/
def cmF (a b : List UInt8) : Nat → Nat → Nat
  | 0, k => k
  | n + 1, k => if dig a k = dig b k then cmF a b n (k + 1) else k
/-- With how many digits both begin. -/
def cm (a b : List UInt8) : Nat := cmF a b 64 0
theorem cmF_spec (a b : List UInt8) : ∀ n k, Agree a b k → k ≤ cmF a b n k ∧ cmF a b n k ≤ k + n ∧ Agree a b (cmF a b n k) ∧ (cmF a b n k < k + n → dig a (cmF a b n k) ≠ dig b (cmF a b n k))
  | 0, k, h => ⟨Nat.le_refl _, by simp [cmF], h, by simp [cmF]⟩
  | n + 1, k, h => by
    unfold cmF
    split
    · rename_i e
      have h' : Agree a b (k + 1) := fun j hj => by
        by_cases ej : j = k
        · subst ej; exact e
        · exact h j (by omega)
      obtain ⟨h1, h2, h3, h4⟩ := cmF_spec a b n (k + 1) h'
      exact ⟨by omega, by omega, h3, fun hh => h4 (by omega)⟩
    · rename_i e
      exact ⟨Nat.le_refl _, by omega, h, fun _ => e⟩
theorem cm_le (a b : List UInt8) : cm a b ≤ 64 := by have := (cmF_spec a b 64 0 (agree_zero a b)).2.1; unfold cm; omega
theorem cm_agree (a b : List UInt8) : Agree a b (cm a b) := (cmF_spec a b 64 0 (agree_zero a b)).2.2.1
theorem cm_parts (a b : List UInt8) (h : cm a b < 64) : dig a (cm a b) ≠ dig b (cm a b) := (cmF_spec a b 64 0 (agree_zero a b)).2.2.2 (by unfold cm at h; omega)
theorem cm_eq {a b : List UInt8} {n : Nat} (hn : n ≤ 64) (h : Agree a b n) (hp : n < 64 → dig a n ≠ dig b n) : cm a b = n := by
  by_cases h1 : cm a b < n
  · exact absurd (h _ h1) (cm_parts a b (by omega))
  · by_cases h2 : n < cm a b
    · exact absurd (cm_agree a b n h2) (hp (by have := cm_le a b; omega))
    · omega
theorem le_cm {a b : List UInt8} {n : Nat} (hn : n ≤ 64) : n ≤ cm a b ↔ Agree a b n := by
  constructor
  · intro h; exact (cm_agree a b).mono h
  · intro h
    by_cases h1 : cm a b < n
    · exact absurd (h _ h1) (cm_parts a b (by omega))
    · omega
theorem cm_lt {a b : List UInt8} (ha : a.length = 32) (hb : b.length = 32) (h : a ≠ b) : cm a b < 64 := by
  by_cases h1 : cm a b < 64
  · exact h1
  · have := cm_le a b
    exact absurd (agree_all ha hb ((cm_agree a b).mono (by omega))) h
theorem cm_comm (a b : List UInt8) : cm a b = cm b a :=
  cm_eq (cm_le b a) (cm_agree b a).symm (fun h => fun e => cm_parts b a h e.symm)

/-- The first place at which two rows part. -/
theorem first_part {a b : List UInt8} (ha : a.length = 32) (hb : b.length = 32) (h : a ≠ b) : ∃ k, k < 32 ∧ (∀ j, j < k → at8 a j = at8 b j) ∧ at8 a k ≠ at8 b k := by
  have hc := cm_lt ha hb h
  have hg := cm_agree a b
  have hp := cm_parts a b hc
  refine ⟨cm a b / 2, by omega, fun j hj => ?_, fun e => hp ?_⟩
  · rw [at8_dig, at8_dig, hg (2 * j) (by omega), hg (2 * j + 1) (by omega)]
  · by_cases h2 : cm a b % 2 = 0
    · have e1 : cm a b = 2 * (cm a b / 2) := by omega
      rw [e1, dig_even, dig_even, e]
    · have e1 : cm a b = 2 * (cm a b / 2) + 1 := by omega
      rw [e1, dig_odd, dig_odd, e]

/-- Not behind: by digits. -/
theorem cmpL_digits {a b : List UInt8} (ha : a.length = 32) (hb : b.length = 32) (n : Nat) (hn : n < 64) (hg : Agree a b n) (h : dig a n < dig b n) : cmpL a b = -1 := by
  have hk : ∀ j, j < n / 2 → at8 a j = at8 b j := fun j hj => by rw [at8_dig, at8_dig, hg (2 * j) (by omega), hg (2 * j + 1) (by omega)]
  refine (cmpL_at a b (n / 2) (by omega) (by omega) hk).1 ?_
  by_cases h2 : n % 2 = 0
  · have e1 : n = 2 * (n / 2) := by omega
    rw [e1, dig_even, dig_even] at h
    omega
  · have e1 : n = 2 * (n / 2) + 1 := by omega
    have h3 := hg (2 * (n / 2)) (by omega)
    rw [dig_even, dig_even] at h3
    rw [e1, dig_odd, dig_odd] at h
    omega
theorem cmpL_neg {a b : List UInt8} (ha : a.length = 32) (hb : b.length = 32) : cmpL b a = - cmpL a b := by
  by_cases e : a = b
  · subst e; rw [cmpL_same]; rfl
  · obtain ⟨k, hk, h1, h2⟩ := first_part ha hb e
    have p := cmpL_at a b k (by omega) (by omega) h1
    have q := cmpL_at b a k (by omega) (by omega) (fun j hj => (h1 j hj).symm)
    by_cases h3 : at8 a k < at8 b k
    · rw [p.1 h3, q.2 h3]; rfl
    · have h4 : at8 b k < at8 a k := by omega
      rw [p.2 h4, q.1 h4]
theorem cmpL_zero {a b : List UInt8} (ha : a.length = 32) (hb : b.length = 32) : cmpL a b = 0 ↔ a = b := by
  constructor
  · intro h
    by_cases e : a = b
    · exact e
    · obtain ⟨k, hk, h1, h2⟩ := first_part ha hb e
      have p := cmpL_at a b k (by omega) (by omega) h1
      by_cases h3 : at8 a k < at8 b k
      · rw [p.1 h3] at h; cases h
      · rw [p.2 (by omega)] at h; cases h
  · intro h; subst h; exact cmpL_same a
/-- Less: at the first parting digit. -/
theorem cmpL_lt_iff {a b : List UInt8} (ha : a.length = 32) (hb : b.length = 32) : cmpL a b < 0 ↔ ∃ n, n < 64 ∧ Agree a b n ∧ dig a n < dig b n := by
  constructor
  · intro h
    have hne : a ≠ b := fun e => by subst e; rw [cmpL_same] at h; omega
    have hc := cm_lt ha hb hne
    refine ⟨cm a b, hc, cm_agree a b, ?_⟩
    have hp := cm_parts a b hc
    by_cases h3 : dig a (cm a b) < dig b (cm a b)
    · exact h3
    · have := cmpL_digits hb ha (cm a b) hc (cm_agree a b).symm (by omega)
      rw [cmpL_neg ha hb] at this
      omega
  · rintro ⟨n, h1, h2, h3⟩
    rw [cmpL_digits ha hb n h1 h2 h3]; omega
theorem lt_trans {a b c : List UInt8} (ha : a.length = 32) (hb : b.length = 32) (hc : c.length = 32) (h1 : cmpL a b < 0) (h2 : cmpL b c < 0) : cmpL a c < 0 := by
  rw [cmpL_lt_iff ha hb] at h1
  rw [cmpL_lt_iff hb hc] at h2
  rw [cmpL_lt_iff ha hc]
  obtain ⟨n, n1, n2, n3⟩ := h1
  obtain ⟨m, m1, m2, m3⟩ := h2
  by_cases h : n < m
  · exact ⟨n, n1, n2.trans (m2.mono (by omega)), by rw [← m2 n h]; exact n3⟩
  · by_cases h' : m < n
    · exact ⟨m, m1, (n2.mono (by omega)).trans m2, by rw [n2 m h']; exact m3⟩
    · obtain rfl : n = m := by omega
      exact ⟨n, n1, n2.trans m2, by omega⟩
/-- a, p, x in their order: what a and x have in common p and x have too. -/
theorem cm_between {a p x : List UInt8} (ha : a.length = 32) (hp : p.length = 32) (hx : x.length = 32) (h1 : ¬ cmpL p a < 0) (h2 : ¬ cmpL x p < 0) : cm a x ≤ cm p x := by
  by_cases h : cm p x < cm a x
  · exfalso
    have hl := cm_le a x
    have hg := (cm_agree p x)
    have hax : dig a (cm p x) = dig x (cm p x) := cm_agree a x _ h
    have hne := cm_parts p x (by omega)
    by_cases h3 : dig p (cm p x) < dig x (cm p x)
    · apply h1
      rw [cmpL_digits hp ha (cm p x) (by omega) (hg.trans ((cm_agree a x).mono (by omega)).symm) (by omega)]
      omega
    · apply h2
      rw [cmpL_digits hx hp (cm p x) (by omega) hg.symm (by omega)]
      omega
  · omega

/-- How many digits tell hashes apart: by who is among them alone. -/
def IsLead (S : List UInt8 → Prop) (n : Nat) : Prop :=
  (∀ a b, S a → S b → a ≠ b → cm a b < n) ∧ (n = 0 ∨ ∃ a b, S a ∧ S b ∧ a ≠ b ∧ cm a b + 1 = n)
theorem IsLead.unique {S : List UInt8 → Prop} {n m : Nat} (h : IsLead S n) (k : IsLead S m) : n = m := by
  have key : ∀ n m, IsLead S n → IsLead S m → ¬ n < m := by
    intro n m h k hlt
    rcases k.2 with k2 | ⟨a, b, sa, sb, hab, e⟩
    · omega
    · have := h.1 a b sa sb hab; omega
  have := key n m h k
  have := key m n k h
  omega
end Go.Proofs.Ytdajeabhhkgibaa

namespace Go.Proofs.Ytdajeabhhkgibaa
open Go.RowKit
set_option linter.unusedVariables false
set_option linter.unusedSimpArgs false

theorem range_row {w : World} {g : Nat} {l : List UInt8} {t : TypeId} {fr : Nat × Nat} (h : w.heap[g]? = some (.cells (bs l) t fr)) : w.rangeAt g 0 (hcs l) := fun j v hv => by
  rw [Nat.zero_add, cell_of_row w g j _ _ _ h]
  simpa [hcs] using hv
theorem hcs_pos {l : List UInt8} (h : l.length = 32) : 0 < (hcs l).length := by rw [hcs_len, h]; omega
theorem sizeH {l : List UInt8} (h : l.length = 32) : (Try.prog.info? 30).map (·.size) = some (bs l).toList.length := by
  rw [show (bs l).toList = hcs l from rfl, hcs_len, h]; exact hsH
end Go.Proofs.Ytdajeabhhkgibaa

namespace Go.Proofs.Ytdajeabhhkgibaa
open Go.RowKit
set_option linter.unusedVariables false
set_option linter.unusedSimpArgs false

theorem slice_fromH (g off n cap i : Nat) (w : World) (hi : i < n) (hc : n ≤ cap) : (Instr.slice 31 (.slice (some ⟨g, off, none⟩) n cap) (some (.int .i64 (i : Int))) none none).run Try.prog w = .ok (.slice (some ⟨g, off + 32 * i, none⟩) (n - i) (cap - i)) w := by
  obtain ⟨inf, hi', hz, hs, hb⟩ := infoH
  have h1 : i ≤ n := by omega
  have h2 : ¬ cap = i := by omega
  simp [Instr.slice, Instr.sliceBounds, Instr.sliceBound, asIntOf, run_underlying Try.underlying31, Go.sizeOf, typeInfo, hi', hs, h1, h2, hc, Addr.add_mid]
theorem slice_toH (g off n cap i : Nat) (w : World) (hi : i ≤ cap) : (Instr.slice 31 (.slice (some ⟨g, off, none⟩) n cap) none (some (.int .i64 (i : Int))) none).run Try.prog w = .ok (.slice (some ⟨g, off, none⟩) i cap) w := by
  obtain ⟨inf, hi', hz, hs, hb⟩ := infoH
  simp [Instr.slice, Instr.sliceBounds, Instr.sliceBound, asIntOf, run_underlying Try.underlying31, Go.sizeOf, typeInfo, hi', hs, hi, Addr.add_mid]
theorem zeroCells_one (n : Nat) : ∀ v ∈ (Builtin.zeroCells (bs z32) n).toList, v.oneCell' = true := by
  intro v hv
  have hz : (bs z32).size = 32 := by rw [bs_size]; rfl
  simp only [Builtin.zeroCells, hz, Array.toList_map, List.mem_map] at hv
  obtain ⟨i, _, rfl⟩ := hv
  have hlt : i % 32 < (bs z32).size := by rw [hz]; omega
  rw [getElem!_pos (bs z32) (i % 32) hlt]
  exact hcs_one z32 _ (by simp [hcs])
theorem run_clear_gen (w : World) (ty : TypeId) (g o n c : Nat) (Z : Array Value) (hn : 0 < n) (hv : ∀ w, (zeroValue 30).run Try.prog w = .ok (.agg Z) w)
    (hst : (storeCells ⟨g, o, none⟩ (Builtin.zeroCells Z n).toList).run Try.prog w = .ok () (w.setCells g o (Builtin.zeroCells Z n).toList)) :
    (Builtin.clear_ #[31] ty #[.slice (some ⟨g, o, none⟩) n c]).run Try.prog w = .ok (.tuple #[]) (w.setCells g o (Builtin.zeroCells Z n).toList) := by
  obtain ⟨m, rfl⟩ : ∃ m, n = m + 1 := ⟨n - 1, by omega⟩
  simp only [Builtin.clear_, List.getElem?_toArray, List.getElem?_cons_zero, Sem.run_bind, run_underlying Try.underlying31, Result.andThen_ok, hv, Value.cells, hst, Sem.run_pure]
theorem run_clearH (w : World) (ty : TypeId) (g o n c : Nat) (hn : 0 < n) (ht : w.there g o (32 * n)) :
    (Builtin.clear_ #[31] ty #[.slice (some ⟨g, o, none⟩) n c]).run Try.prog w = .ok (.tuple #[]) (w.setCells g o (Builtin.zeroCells (bs z32) n).toList) := by
  have hz : (bs z32).size = 32 := by rw [bs_size]; rfl
  have hlen : (Builtin.zeroCells (bs z32) n).toList.length = n * 32 := by rw [Array.length_toList, size_zeroCells, hz]
  have hst := run_storeCells_cells (P := Try.prog) g o (Builtin.zeroCells (bs z32) n).toList 0 w (fun j hj => by rw [hlen] at hj; exact (ht j (by omega)).1) (fun j hj => by rw [hlen] at hj; exact (ht j (by omega)).2) (zeroCells_one n)
  simp only [Nat.add_zero] at hst
  exact run_clear_gen w ty g o n c (bs z32) hn hzH hst
theorem zeroCells_len (n : Nat) : (Builtin.zeroCells (bs z32) n).toList.length = 32 * n := by
  have hz : (bs z32).size = 32 := by rw [bs_size]; rfl
  rw [Array.length_toList, size_zeroCells, hz]; omega
/-- Hashes ahead of what is written over stay. -/
theorem hs_clear {w : World} {g i n : Nat} {M : List (List UInt8)} (h : Hs w g 0 M) (hM : All32 M) (hi : i ≤ M.length) : Hs (w.setCells g (32 * i) (Builtin.zeroCells (bs z32) n).toList) g 0 (M.take i) := fun j x e => by
  rw [List.getElem?_take] at e
  split at e
  · rename_i hj
    refine World.rangeAt_setCells_apart (h j x e) _ _ _ ?_
    rw [hcs_len, hM.get e]
    omega
  · cases e

/-- Of neighbours that are alike the first alone, what stood ahead being told. -/
def ddF (p : List UInt8) : List (List UInt8) → List (List UInt8)
  | [] => []
  | x :: r => if x = p then ddF p r else x :: ddF x r
def dd : List (List UInt8) → List (List UInt8)
  | [] => []
  | x :: r => x :: ddF x r
theorem ddF_snoc (p : List UInt8) (l : List (List UInt8)) (x : List UInt8) : ddF p (l ++ [x]) = if x = (l.getLast?).getD p then ddF p l else ddF p l ++ [x] := by
  induction l generalizing p with
  | nil =>
    simp only [List.nil_append, ddF, List.getLast?_nil, Option.getD_none]
    by_cases h : x = p <;> simp [h]
  | cons y r ih =>
    simp only [List.cons_append, ddF]
    have hl : ((y :: r).getLast?).getD p = (r.getLast?).getD y := by
      cases r with
      | nil => simp
      | cons z s => simp [List.getLast?_cons_cons, List.getLast?_cons]
    rw [hl]
    by_cases hy : y = p
    · subst hy
      rw [if_pos rfl, if_pos rfl, ih y]
    · rw [if_neg hy, if_neg hy, ih y]
      split <;> simp
theorem dd_snoc (L : List (List UInt8)) (k : Nat) (p x : List UInt8) (hk : 1 ≤ k) (hp : L[k - 1]? = some p) (hx : L[k]? = some x) : dd (L.take (k + 1)) = if x = p then dd (L.take k) else dd (L.take k) ++ [x] := by
  have ht : L.take (k + 1) = L.take k ++ [x] := by rw [List.take_add_one, hx]; rfl
  rw [ht]
  have hkl : k ≤ L.length := by have := (List.getElem?_eq_some_iff.1 hx).1; omega
  cases hq : L.take k with
  | nil =>
    have := congrArg List.length hq
    rw [List.length_take, List.length_nil] at this
    omega
  | cons y r =>
    have hlast : (r.getLast?).getD y = p := by
      have h1 : (L.take k).getLast? = some p := by
        rw [List.getLast?_eq_getElem?, List.length_take, show min k L.length = k by omega, List.getElem?_take, if_pos (by omega), hp]
      rw [hq] at h1
      cases r with
      | nil => simpa using h1
      | cons z s => simpa [List.getLast?_cons_cons] using congrArg (fun o => o.getD y) h1
    simp only [List.cons_append, dd]
    rw [ddF_snoc, hlast]
    split <;> simp
theorem dd_take_one (L : List (List UInt8)) : dd (L.take 1) = L.take 1 := by
  cases L with
  | nil => rfl
  | cons x r => simp [dd, ddF]
theorem dd_short {L : List (List UInt8)} (h : L.length < 2) : dd L = L := by
  have := dd_take_one L
  rwa [List.take_of_length_le (by omega)] at this
theorem ddF_mem (p : List UInt8) (l : List (List UInt8)) (x : List UInt8) : x ∈ ddF p l → x ∈ l := by
  induction l generalizing p with
  | nil => simp [ddF]
  | cons y r ih =>
    simp only [ddF]
    split
    · intro h; exact List.mem_cons_of_mem _ (ih p h)
    · intro h
      rcases List.mem_cons.1 h with rfl | h
      · simp
      · exact List.mem_cons_of_mem _ (ih y h)
theorem dd_mem {L : List (List UInt8)} {x : List UInt8} : x ∈ dd L → x ∈ L := by
  cases L with
  | nil => simp [dd]
  | cons y r =>
    simp only [dd]
    intro h
    rcases List.mem_cons.1 h with rfl | h
    · simp
    · exact List.mem_cons_of_mem _ (ddF_mem y r x h)
theorem all32_dd {L : List (List UInt8)} (h : All32 L) : All32 (dd L) := fun x hx => h x (dd_mem hx)
end Go.Proofs.Ytdajeabhhkgibaa

namespace Go.Proofs.Ytdajeabhhkgibaa
open Go.RowKit
set_option linter.unusedVariables false
set_option linter.unusedSimpArgs false

/-- How the first ones lie, and that the others are as they were. -/
def Cpt (L M : List (List UInt8)) (i k : Nat) : Prop := M.length = L.length ∧ All32 M ∧ M.take i = dd (L.take k) ∧ (dd (L.take k)).length = i ∧ i < k ∧ ∀ p, k - 1 ≤ p → M[p]? = L[p]?

end Go.Proofs.Ytdajeabhhkgibaa

namespace Go.Proofs.Ytdajeabhhkgibaa
open Go.RowKit
set_option linter.unusedVariables false
set_option linter.unusedSimpArgs false

def Rises (L : List (List UInt8)) : Prop := ∀ (i j : Nat) (x y : List UInt8), L[i]? = some x → L[j]? = some y → i < j → ¬ cmpL y x < 0
end Go.Proofs.Ytdajeabhhkgibaa

namespace Go.Proofs.Ytdajeabhhkgibaa
open Go.RowKit
set_option linter.unusedVariables false
set_option linter.unusedSimpArgs false

/-- The cells of a list of hashes. -/
def flat (L : List (List UInt8)) : List Value := L.flatMap hcs
theorem flat_len {L : List (List UInt8)} (h : All32 L) : (flat L).length = L.length * 32 := by
  induction L with
  | nil => rfl
  | cons x r ih =>
    have h1 := h x (by simp)
    have h2 := ih (fun y hy => h y (by simp [hy]))
    simp only [flat, List.flatMap_cons, List.length_append, List.length_cons] at h2 ⊢
    rw [h2, hcs_len, h1]
    omega
theorem flat_get {L : List (List UInt8)} (h : All32 L) (i j : Nat) (x : List UInt8) (hx : L[i]? = some x) (hj : j < 32) : (flat L)[i * 32 + j]? = (hcs x)[j]? := by
  induction L generalizing i with
  | nil => simp at hx
  | cons y r ih =>
    have h1 := h y (by simp)
    have hl : (hcs y).length = 32 := by rw [hcs_len, h1]
    simp only [flat, List.flatMap_cons]
    cases i with
    | zero =>
      simp at hx
      subst hx
      rw [List.getElem?_append_left (by omega)]
      simp
    | succ i =>
      rw [List.getElem?_append_right (by omega), hl, show (i + 1) * 32 + j - 32 = i * 32 + j by omega]
      exact ih (fun z hz => h z (by simp [hz])) i (by simpa using hx)
theorem flat_app (L M : List (List UInt8)) : flat (L ++ M) = flat L ++ flat M := by simp [flat]
theorem flat_one (L : List (List UInt8)) : ∀ v ∈ flat L, v.oneCell' = true := by
  intro v hv
  simp only [flat, List.mem_flatMap] at hv
  obtain ⟨x, _, hx⟩ := hv
  exact hcs_one x v hx
/-- A slice of the call's own that holds hashes. -/
def OwnH (w : World) (base : Nat) (v : Value) (L : List (List UInt8)) : Prop := All32 L ∧ w.ownsRow base 30 32 v L.length (flat L)
theorem OwnH.nil (w : World) (base : Nat) : OwnH w base (.slice none 0 0) [] := ⟨fun _ h => by simp at h, World.ownsRow_nil w base 30 32⟩
theorem OwnH.open {w : World} {base : Nat} {v : Value} {L : List (List UInt8)} (h : OwnH w base v L) :
    (v = .slice none 0 0 ∧ L = []) ∨ ∃ g cap, v = .slice (some ⟨g, 0, none⟩) L.length cap ∧ L.length ≤ cap ∧ base ≤ g ∧ g < w.heap.size ∧ Hs w g 0 L ∧ w.there g 0 (32 * L.length) := by
  obtain ⟨hL, hlen, ⟨rfl, hn⟩ | ⟨g, cap, cur, rfl, hbg, hg, hnc, hcm, hcs', htake⟩⟩ := h
  · exact .inl ⟨rfl, List.eq_nil_of_length_eq_zero hn⟩
  · have hcell : ∀ j, j < 32 * L.length → w.cell? ⟨g, 0 + j, none⟩ = (flat L)[j]? := fun j hj => by
      rw [Nat.zero_add, cell_of_row w g j cur _ (0, 0) hg, ← htake, List.getElem?_take, if_pos (by omega)]
      simp
    refine .inr ⟨g, cap, rfl, hnc, hbg, (Array.getElem?_eq_some_iff.1 hg).1, ?_, ?_⟩
    · intro i x hx j v hv
      have hi := (List.getElem?_eq_some_iff.1 hx).1
      have hj : j < 32 := by have := (List.getElem?_eq_some_iff.1 hv).1; rwa [hcs_len, hL.get hx] at this
      have := hcell (i * 32 + j) (by omega)
      rw [flat_get hL i j x hx hj, hv] at this
      rw [show 0 + 32 * i + j = 0 + (i * 32 + j) by omega]
      exact this
    · intro j hj
      refine ⟨?_, ?_⟩
      · rw [hcell j hj, List.getElem?_eq_getElem (by rw [flat_len hL]; omega)]; rfl
      · rw [Nat.zero_add]; exact frozen_of_row w g j cur _ hg
theorem OwnH.below {w w' : World} {base : Nat} {v : Value} {L : List (List UInt8)} (h : OwnH w base v L) (hb : Below w.heap.size w w') : OwnH w' base v L := by
  refine ⟨h.1, h.2.1, ?_⟩
  rcases h.2.2 with hn | ⟨g, cap, cur, rfl, hbg, hg, rest⟩
  · exact .inl hn
  · exact .inr ⟨g, cap, cur, rfl, hbg, by rw [hb.block g (Array.getElem?_eq_some_iff.1 hg).1]; exact hg, rest⟩
theorem zsize : (Value.agg (bs z32)).cells.size = 32 := by show (bs z32).size = 32; rw [bs_size]; rfl

theorem run_appH (w : World) (base : Nat) (ty : TypeId) (v : Value) (L : List (List UInt8)) (a : Addr) (M : List (List UInt8)) (c : Nat) (hown : OwnH w base v L) (hM : All32 M) (hb : Hl w (some a) M)
    (h : L.length + M.length ≤ 4398046511104 + 4096) (hbase : base ≤ w.heap.size) :
    ∃ v' w', (Builtin.append_ #[31, 31] ty #[v, .slice (some a) M.length c]).run Try.prog w = .ok v' w' ∧ OwnH w' base v' (L ++ M) ∧ w.grownBy w' v.ownBlock ∧ (v' = .slice none 0 0 ↔ v = .slice none 0 0 ∧ M.length = 0) := by
  obtain ⟨i, hi, hz, hs, hby⟩ := infoH
  have hnews : ∀ j u, (flat M)[j]? = some u → w.cell? (a.add j) = some u := fun j u hj => by
    have hlt : j < M.length * 32 := by have := (List.getElem?_eq_some_iff.1 hj).1; rwa [flat_len hM] at this
    rcases hb with rfl | ⟨b, off, e, hc⟩
    · simp at hlt
    · cases e
      have hx : M[j / 32]? = some M[j / 32] := List.getElem?_eq_getElem (by omega)
      have h1 := flat_get hM (j / 32) (j % 32) _ hx (by omega)
      rw [show j / 32 * 32 + j % 32 = j by omega, hj] at h1
      have h2 := hc (j / 32) _ hx (j % 32) u h1.symm
      rw [Addr.add_mid]
      rwa [show off + 32 * (j / 32) + j % 32 = off + j by omega] at h2
  obtain ⟨v', w', hr, h2, h3, h4⟩ := run_append_own_wide (P := Try.prog) w base 31 ty 30 i (.agg (bs z32)) 32 32 Try.underlying31 hi hz hs hby zsize (by omega) v L.length (flat L) hown.2 a M.length c (flat M) (flat_len hM) hnews (flat_one M) (by unfold maxLen; omega) (by omega) hbase
  refine ⟨v', w', hr, ⟨?_, ?_⟩, h3, h4⟩
  · intro x hx
    rcases List.mem_append.1 hx with hx | hx
    · exact hown.1 x hx
    · exact hM x hx
  · rw [List.length_append, flat_app]; exact h2
theorem wpList_appH {ops : Array Oper} {rest : List Oper} {o : Oper} {a : Act} {w : World} {Q : Exit → Act → World → Prop} (hgd : o.guard = none) (s x : Operand)
    (ho : o.op = .call { callee := .builtin .append, args := #[s, x], argTypes := #[31, 31] }) (base : Nat) (v : Value) (L : List (List UInt8)) (hs : a.eval s = v) (hown : OwnH w base v L)
    (aa : Addr) (m c : Nat) (M : List (List UInt8)) (hx : a.eval x = .slice (some aa) m c) (hm : M.length = m) (hM : All32 M) (hb : Hl w (some aa) M) (hlen : L.length + M.length ≤ 4398046511104 + 4096) (hbase : base ≤ w.heap.size)
    (h : ∀ v' w', OwnH w' base v' (L ++ M) → w.grownBy w' v.ownBlock → (v' = .slice none 0 0 ↔ v = .slice none 0 0 ∧ M.length = 0) → wpList Try.prog ops Q rest (a.put o.dst v') w') : wpList Try.prog ops Q (o :: rest) a w :=
  wpList_plain hgd fun _ hK => by
    subst hm
    obtain ⟨v', w', hr, h2, h3, h4⟩ := run_appH w base o.type v L aa M c hown hM hb hlen hbase
    unfold Oper.wp execOp
    simp only [ho, resolve, invoke, builtin, Sem.run_bind, Sem.run_pure, Result.andThen_ok, List.map_toArray, List.map_cons, List.map_nil, hs, hx, hr]
    exact hK _ _ (h v' w' h2 h3 h4)

end Go.Proofs.Ytdajeabhhkgibaa

