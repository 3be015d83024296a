import Derived.Test.YtpjkhkobjhnahaaDoorHs
import Derived.Test.YtpjkhkobjhnahaaDoorEq
import Derived.Test.YtpjkhkobjhnahaaDoorKnW
namespace Go.Proofs.YtpjkhkobjhnahaaDoor
open Go.RowKit
set_option linter.unusedVariables false
set_option linter.unusedSimpArgs false

theorem eq24 (a b : List UInt8) (ha : a.length = 32) (hb : b.length = 32) (w : World) :
    (Op.equalIn 10000 24 (.agg (bs a)) (.agg (bs b))).run Tryd.prog w = .ok (decide (a = b)) w := by
  obtain ⟨i, hi, _⟩ := info5'
  exact eq_bytes 9998 Tryd.underlying24 hi (by kernel_rfl) Tryd.underlying5 a b ha hb w
/-- The first k pieces, one behind the other. -/
def cat (P : Nat → List UInt8) : Nat → List UInt8
  | 0 => []
  | k + 1 => cat P k ++ P k
/-- A list of pieces that came in. -/
structure Pcs (w : World) (b off n : Nat) (P : Nat → List UInt8) (A : Nat → Option Addr) (C : Nat → Nat) : Prop where
  cell : ∀ r, r < n → w.cell? ⟨b, off + r, none⟩ = some (.slice (A r) (P r).length (C r))
  cap : ∀ r, r < n → (P r).length ≤ C r
  byt : ∀ r, r < n → Byt w (A r) (P r)

set_option maxRecDepth 100000 in
set_option maxHeartbeats 4000000 in
theorem pieces_any (a : Option Addr) (n cap : Nat) (P : Nat → List UInt8) (A : Nat → Option Addr) (C : Nat → Nat) (w : World) (hp : 0 < n → ∃ b off, a = some ⟨b, off, none⟩ ∧ Pcs w b off n P A C)
    (hn : n ≤ 1048576) (hcat : ∀ k, k ≤ n → (cat P k).length ≤ 1048576) (hK : KeysAt w) (hF : FirstAt w) (hN : NibsAt w) (h5 : 5 ≤ w.heap.size) :
    Calls Tryd.prog 7 #[.slice a n cap] w fun e w' => e = .returned (.bool true) ∧ Below w.heap.size w w' := by
  go_enter Tryd.func7, Tryd.ntmps7
  go_wp2_with fail
  refine (new_any w hF).mono ?_
  rintro e w1 ⟨rfl, rfl⟩
  have r1 := rep_new w
  have be1 : Below w.heap.size w (w.alloc (.cells (hc first z64 0) 62)) := (Below.refl _ _).alloc (Nat.le_refl _) _
  generalize (w.alloc (.cells (hc first z64 0) 62)) = W1 at *
  obtain ⟨g, hg⟩ : ∃ g, g = w.heap.size := ⟨_, rfl⟩
  rw [← hg] at r1 ⊢
  have HG : Hid (g = w.heap.size) := hg
  clear hg
  go_wp2
  go_loopw [4, 5, 6] (fun v i _ wr => ∃ k : Nat, k ≤ n ∧ i = .int .i64 k ∧ Rep wr g (cat P k) ∧ OwnB wr (g + 1) v (cat P k) ∧ Below g w wr) (fun _ i _ _ => n - (intOf i).toNat)
  case atStart => exact ⟨0, by omega, rfl, r1, ownB_nil _ _, by rw [HG.out]; exact be1⟩
  case round =>
    clear r1 be1
    obtain ⟨k, hk, rfl, r0, own0, be0⟩ := hrel
    have hgz1 : w.heap.size ≤ g := by rw [HG.out]; exact Nat.le_refl _
    have hgz2 : g ≤ w.heap.size := by rw [HG.out]; exact Nat.le_refl _
    have zr : g < wr.heap.size := rep_lt r0
    by_cases h1 : k < n
    · obtain ⟨b, off, rfl, hP⟩ := hp (by omega)
      have hPc := hP.cell k h1
      have hPb := hP.byt k h1
      have hPk := hP.cap k h1
      have hbl : b < g := by rw [HG.out]; exact block_lt_of_cell hPc
      have hCk := hcat k hk
      have hCk1 := hcat (k + 1) (by omega)
      have EC : Hid (cat P (k + 1) = cat P k ++ P k) := rfl
      rw [EC.out] at hCk1
      have hCC := hCk1
      rw [List.length_append] at hCC
      have hAb : 0 < (P k).length → ∀ b' off', A k = some ⟨b', off', none⟩ → b' < g := fun h0 b' off' e => by
        rw [HG.out]
        rcases hPb with h | ⟨b'', off'', e', hc⟩
        · rw [h] at h0; simp at h0
        · rw [e'] at e; cases e; exact block_lt_of_cell (hc 0 h0)
      obtain ⟨av, cv, rfl, hcv, byv, hav⟩ := own0.open
      obtain ⟨Q, hQ⟩ : ∃ Q, Q = cat P k := ⟨_, rfl⟩
      obtain ⟨R, hR⟩ : ∃ R, R = P k := ⟨_, rfl⟩
      rw [← hQ, ← hR] at hCk1 hCC
      rw [← hQ] at r0 own0 hcv byv hCk ⊢
      rw [← hR] at hPc hPb hPk hAb
      have EC2 : Hid (cat P (k + 1) = Q ++ R) := by show _ = _; rw [EC.out, hQ, hR]
      clear hQ hR EC
      go_wp2_with fail
      refine (fork_any g Q wr r0).mono ?_
      rintro e w2 ⟨rfl, rf2, be2, z2⟩
      have bw2 : Below g w w2 := be0.trans (be2.mono (by omega))
      have C1 : Hid ((#[.int .u8 120] : Array Value) = bs [120]) := rfl
      have kc := kc_at w2 #[.int .u8 120] 1 1 w2.heap.size rfl
      clear be0 byv hav
      go_wp2_with fail
      clear kc
      rw [C1.out]
      have by3 := lit_bs [120] w2 (1, 2)
      have be3 : Below w2.heap.size w2 (w2.alloc (.cells (bs [120]) 5 (1, 2))) := (Below.refl _ _).alloc (Nat.le_refl _) _
      have z3 : w2.heap.size < (w2.alloc (.cells (bs [120]) 5 (1, 2))).heap.size := by simp
      generalize (w2.alloc (.cells (bs [120]) 5 (1, 2))) = W3 at *
      have bw3 : Below g w W3 := bw2.trans (be3.mono (by omega))
      refine (write_any wr.heap.size Q [120] (some ⟨w2.heap.size, 0, none⟩) 1 1 W3 rfl (rep_below rf2 be3) by3 (fun b off e => by cases e; omega) (keysAt_below hK (bw3.mono hgz1)) (by omega) (by omega) (by simp) (by simp)).mono ?_
      rintro e w4 ⟨rfl, _, bu4⟩
      have z4 := bu4.size
      have be04 : Below wr.heap.size wr w4 := (be2.trans (be3.mono (by omega))).trans (bu4.below (by omega) (Nat.le_refl _))
      have r4 := rep_below r0 be04
      have own4 := own0.below be04
      have bw4 : Below g w w4 := bw3.trans (bu4.below (by omega) (by omega))
      have hc4 := (bw4.cell (p := ⟨b, off + k, none⟩) hbl).trans hPc
      have bR4 := byt_below hPb (bw4.mono hgz1)
      clear r0 own0 be04 be3 by3 rf2 be2 bw2 bw3 bu4 C1
      go_wp2_with fail
      refine (write_free g Q R (A k) R.length (C k) w4 rfl r4 bR4 (fun h0 b' off' e => by have := hAb h0 b' off' e; omega) (keysAt_below hK (bw4.mono hgz1)) (by omega) (by omega) (by omega) hPk).mono ?_
      rintro e w5 ⟨rfl, r5, bu5⟩
      have z5 := bu5.size
      have own5 := own4.but bu5 (by omega)
      have bw5 : Below g w w5 := bw4.trans (bu5.below (by omega) (by omega))
      have hc5 := (bw5.cell (p := ⟨b, off + k, none⟩) hbl).trans hPc
      have bR5 := byt_below hPb (bw5.mono hgz1)
      clear r4 own4 bw4 bu5 hc4 bR4
      have HO5 : Hid (OwnB w5 (g + 1) (.slice av Q.length cv) Q) := own5
      have HB5 : Hid (Byt w5 (A k) R) := bR5
      have HS5 : Hid (Q.length + R.length ≤ 140737488355328) := by show _ ≤ _; omega
      have HZ5 : Hid (g + 1 ≤ w5.heap.size) := by show _ ≤ _; omega
      clear own5 bR5
      go_wp2_with (first | (at_builtin; refine wpList_app rfl (.tmp 30) (.tmp 34) rfl (g + 1) (.slice av Q.length cv) Q rfl HO5.out (A k) R.length (C k) R rfl rfl HB5.out HS5.out HZ5.out ?_) | fail)
      intro v6 w6 own6 grow6
      have z6 := grow6.size
      have r6 : Rep w6 g (Q ++ R) := by
        obtain ⟨bl, hg, h1, h2⟩ := r5
        refine ⟨bl, ?_, h1, h2⟩
        rw [grow6.block g (Array.getElem?_eq_some_iff.1 hg).1 (fun e => by have := (World.ownsRow.lt HO5.out g e.symm).1; omega)]
        exact hg
      have bw6 : Below g w w6 := bw5.grown grow6 (by omega) (fun k' hk' => by have := (World.ownsRow.lt HO5.out k' hk').1; omega)
      obtain ⟨a6, c6, hv6, hc6, by6, ha6⟩ := own6.open
      obtain ⟨M, hM⟩ : ∃ M, M = Q ++ R := ⟨_, rfl⟩
      rw [← hM] at EC2 own6 r6 hv6 hc6 by6 hCk1
      subst hv6
      clear HO5 HB5 HS5 HZ5 grow6 r5 bw5 hc5 hM
      go_wp2_with fail
      refine (hsum_any g M w6 r6 (keysAt_below hK (bw6.mono hgz1)) (by omega)).mono ?_
      rintro e w7 ⟨rfl, be7⟩
      have z7 := be7.size
      have bw7 : Below g w w7 := bw6.trans (be7.mono (by omega))
      go_wp2_with fail
      refine (sum_any a6 M M.length c6 w7 rfl (byt_below by6 be7) (fun b off e => by have := (ha6 b off e).2; omega) (by omega) hc6 (keysAt_below hK (bw7.mono hgz1)) (firstAt_below hF (bw7.mono hgz1))).mono ?_
      rintro e w8 ⟨rfl, be8⟩
      have z8 := be8.size
      have bw8 : Below g w w8 := bw7.trans (be8.mono (by omega))
      have be68 : Below w6.heap.size w6 w8 := be7.trans (be8.mono (by omega))
      have r8 := rep_below r6 be68
      have own8 := own6.below be68
      have heq := fun wx => eq24 (sha M) (sha M) (sha_len M) (sha_len M) wx
      clear be7 be8 be68 bw7 bw6 r6 own6 by6 ha6
      go_wp2_with fail
      refine (len_any g M w8 r8).mono ?_
      rintro e w8 ⟨rfl, rfl⟩
      go_wp2
      go_roundw
      case rel => exact ⟨k + 1, by omega, by go_num, by rw [EC2.out]; exact r8, by rw [EC2.out]; exact own8, bw8⟩
      case measure => simp [intOf]; omega
    · obtain rfl : k = n := by omega
      clear h1 hk hp
      have hCk := hcat k (Nat.le_refl _)
      obtain ⟨av, cv, rfl, hcv, byv, hav⟩ := own0.open
      clear hcat
      generalize cat P k = M at *
      go_wp2_with fail
      refine (hsum_any g M wr r0 (keysAt_below hK (be0.mono hgz1)) (by omega)).mono ?_
      rintro e w7 ⟨rfl, be7⟩
      have z7 := be7.size
      have bw7 : Below g w w7 := be0.trans (be7.mono (by omega))
      go_wp2_with fail
      refine (sum_any av M M.length cv w7 rfl (byt_below byv be7) (fun b off e => by have := (hav b off e).2; omega) (by omega) hcv (keysAt_below hK (bw7.mono hgz1)) (firstAt_below hF (bw7.mono hgz1))).mono ?_
      rintro e w8 ⟨rfl, be8⟩
      have z8 := be8.size
      have bw8 : Below g w w8 := bw7.trans (be8.mono (by omega))
      have heq := fun wx => eq24 (sha M) (sha M) (sha_len M) (sha_len M) wx
      clear be7 be8 bw7 be0 byv hav own0 r0
      go_wp2_with fail
      refine (known_any w8 (keysAt_below hK (bw8.mono hgz1)) (firstAt_below hF (bw8.mono hgz1)) (nibsAt_below hN (bw8.mono hgz1))).mono ?_
      rintro e w9 ⟨rfl, be9⟩
      have FIN : Hid (Below w.heap.size w w9) := (bw8.mono hgz1).trans (be9.mono (by omega))
      clear bw8 be9
      go_wp2
      go_ret
      exact ⟨rfl, FIN.out⟩
end Go.Proofs.YtpjkhkobjhnahaaDoor
