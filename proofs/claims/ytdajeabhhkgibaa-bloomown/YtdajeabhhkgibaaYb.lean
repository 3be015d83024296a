import Derived.Test.YtdajeabhhkgibaaVv
import Derived.Lib.LazyBuf
import Derived.Lib.SliceRun
namespace Go.Proofs.Ytdajeabhhkgibaa
open Go.RowKit
set_option linter.unusedVariables false
set_option linter.unusedSimpArgs false

/-- The words behind k bytes of B. -/
def ldF (B : List UInt8) : Nat → Nat → Nat
  | 0 => fun _ => 0
  | k + 1 => fun i => if i = k / 8 then ldF B k i ||| (B.getD k 0).toNat * 2 ^ (k % 8 * 8) else ldF B k i
theorem ldF_succ (B : List UInt8) (k i : Nat) : ldF B (k + 1) i = if i = k / 8 then ldF B k i ||| (B.getD k 0).toNat * 2 ^ (k % 8 * 8) else ldF B k i := rfl
theorem byte_shift (b r : Nat) (hb : b < 256) (hr : r < 8) : b * 2 ^ (r * 8) < 18446744073709551616 := by
  have h1 : b * 2 ^ (r * 8) < 2 ^ 8 * 2 ^ (r * 8) := Nat.mul_lt_mul_of_pos_right (by omega) (Nat.two_pow_pos _)
  rw [← Nat.pow_add] at h1
  have h2 : 2 ^ (8 + r * 8) ≤ 2 ^ 64 := Nat.pow_le_pow_right (by omega) (by omega)
  have h3 : (2 : Nat) ^ 64 = 18446744073709551616 := by decide
  omega
theorem ldF_lt (B : List UInt8) (k : Nat) : ∀ i, ldF B k i < 18446744073709551616 := by
  induction k with
  | zero => intro i; show 0 < _; omega
  | succ k ih =>
    intro i
    rw [ldF_succ]
    split
    · exact or_lt (ih i) (byte_shift _ _ (UInt8.toNat_lt _) (Nat.mod_lt _ (by omega)))
    · exact ih i
theorem bit_ldF (B : List UInt8) (k x : Nat) : bitAt (ldF B k) x = (decide (x / 8 < k) && (B.getD (x / 8) 0).toNat.testBit (x % 8)) := by
  induction k with
  | zero => rw [ldF, bit_zero]; simp
  | succ k ih =>
    unfold bitAt at ih ⊢
    rw [ldF_succ]
    split
    · rename_i e
      rw [Nat.testBit_or, ih, ← Nat.shiftLeft_eq, Nat.testBit_shiftLeft]
      by_cases h : x / 8 = k
      · have e1 : x % 64 - k % 8 * 8 = x % 8 := by omega
        have e2 : k % 8 * 8 ≤ x % 64 := by omega
        rw [e1, h, decide_eq_false (Nat.lt_irrefl k), decide_eq_true e2, decide_eq_true (Nat.lt_succ_self k)]
        simp
      · have e3 : (decide (x % 64 ≥ k % 8 * 8) && (B.getD k 0).toNat.testBit (x % 64 - k % 8 * 8)) = false := by
          by_cases h2 : k % 8 * 8 ≤ x % 64
          · have h3 : 8 ≤ x % 64 - k % 8 * 8 := by omega
            have h4 : (B.getD k 0).toNat < 2 ^ (x % 64 - k % 8 * 8) := Nat.lt_of_lt_of_le (UInt8.toNat_lt _) (Nat.pow_le_pow_right (by omega) h3)
            rw [Nat.testBit_lt_two_pow h4, Bool.and_false]
          · rw [decide_eq_false h2, Bool.false_and]
        rw [e3, Bool.or_false]
        congr 1
        rw [decide_eq_decide]
        omega
    · rename_i e
      rw [ih]
      congr 1
      rw [decide_eq_decide]
      omega
theorem bit_byW (ws : Nat → Nat) (i t : Nat) (ht : t < 8) : (byW ws i).toNat.testBit t = bitAt ws (8 * i + t) := by
  unfold byW bitAt
  rw [UInt8.toNat_ofNat', Nat.testBit_mod_two_pow, decide_eq_true ht, Bool.true_and, Nat.testBit_div_two_pow, show (8 * i + t) / 64 = i / 8 by omega, show (8 * i + t) % 64 = t + i % 8 * 8 by omega]
theorem ldF_bytesW {ws : Nat → Nat} {n : Nat} (h : Within ws (8 * n)) (hw : ∀ i, ws i < 18446744073709551616) : ldF (bytesW ws n) n = ws := by
  refine words_ext (fun x => ?_) (ldF_lt _ _) hw
  rw [bit_ldF]
  by_cases hx : x / 8 < n
  · rw [decide_eq_true hx, Bool.true_and, bytesW_get ws n _ hx, bit_byW ws _ _ (Nat.mod_lt _ (by omega)), show 8 * (x / 8) + x % 8 = x by omega]
  · rw [decide_eq_false hx, Bool.false_and]
    cases hb : bitAt ws x with
    | false => rfl
    | true => have := h x hb; omega
theorem within_ldF (B : List UInt8) (n : Nat) : Within (ldF B n) (8 * n) := fun x hx => by
  rw [bit_ldF, Bool.and_eq_true, decide_eq_true_eq] at hx
  omega
theorem byte_ext {a b : UInt8} (h : ∀ t, t < 8 → a.toNat.testBit t = b.toNat.testBit t) : a = b := by
  apply UInt8.toNat_inj.1
  refine Nat.eq_of_testBit_eq fun t => ?_
  by_cases ht : t < 8
  · exact h t ht
  · have k : 2 ^ 8 ≤ 2 ^ t := Nat.pow_le_pow_right (by omega) (by omega)
    rw [Nat.testBit_lt_two_pow (Nat.lt_of_lt_of_le a.toNat_lt k), Nat.testBit_lt_two_pow (Nat.lt_of_lt_of_le b.toNat_lt k)]
theorem bytesW_ldF (B : List UInt8) (n : Nat) (hn : B.length = n) : bytesW (ldF B n) n = B := by
  refine List.ext_getElem (by rw [bytesW_len, hn]) fun i h1 h2 => ?_
  have hi : i < n := by rw [bytesW_len] at h1; exact h1
  have e1 := bytesW_get (ldF B n) n i hi
  rw [List.getD_eq_getElem?_getD, List.getElem?_eq_getElem h1] at e1
  simp only [Option.getD_some] at e1
  rw [e1]
  refine byte_ext fun t ht => ?_
  rw [bit_byW _ _ _ ht, bit_ldF, show (8 * i + t) / 8 = i by omega, show (8 * i + t) % 8 = t by omega, decide_eq_true hi, Bool.true_and, List.getD_eq_getElem?_getD, List.getElem?_eq_getElem h2]
  rfl
theorem fr_setCells (g : Nat) : ∀ (vs : List Value) (o : Nat) (w : World), K.Fr g w (w.setCells g o vs)
  | [], _, w => K.Fr.refl g w
  | v :: r, o, w => (K.Fr.set g w ⟨g, o, none⟩ rfl v).trans (fr_setCells g r (o + 1) _)
theorem WR.cleared {w : World} {g m : Nat} {ws : Nat → Nat} (h : WR w g m ws) : WR (w.setCells g 0 (List.replicate m (.int .u64 0))) g m (fun _ => 0) := by
  refine (rowIs_setCells (List.replicate m (.int .u64 0)) 0 w _ h).congr fun j hj => ?_
  have : 0 ≤ j ∧ j < 0 + (List.replicate m (Value.int .u64 0)).length := by rw [List.length_replicate]; omega
  rw [if_pos this]
  simp [hj]
theorem zero106 (w : World) : (zeroValue 106).run Try.prog w = .ok (.int .u64 0) w := by kernel_rfl
set_option maxRecDepth 100000 in
set_option maxHeartbeats 4000000 in
theorem load_any (g m b n c : Nat) (ws : Nat → Nat) (B : List UInt8) (w : World) (h : WR w g m ws) (hB : K.Byt w (some ⟨b, 0, none⟩) B) (hl : B.length = n) (hn : n ≤ 8 * m) (hm : m ≤ 1024) (h0 : 0 < n) (hbg : b ≠ g) :
    Calls Try.prog 64 #[.slice (some ⟨g, 0, none⟩) m m, .slice (some ⟨b, 0, none⟩) n c] w fun e w' => e = .returned (.tuple #[]) ∧ WR w' g m (ldF B n) ∧ K.Fr g w w' := by
  have hcl : ∀ ty, (Builtin.clear_ #[95] ty #[.slice (some ⟨g, 0, none⟩) m m]).run Try.prog w = .ok (.tuple #[]) (w.setCells g 0 (List.replicate m (.int .u64 0))) := fun ty =>
    Lib.run_clear_slice w _ _ ty _ Try.underlying95 zero106 rfl rfl g 0 m m (by omega) (fun j hj => by rw [Nat.zero_add, h.cell hj]; rfl) (fun j hj => by rw [Nat.zero_add]; exact h.frozen j)
  have H0 := Hid.mk' h.cleared
  have F0 := Hid.mk' (fr_setCells g (List.replicate m (.int .u64 0)) 0 w)
  have HBy : Hid (∀ W, K.Fr g w W → ∀ j, j < n → W.cell? ⟨b, j, none⟩ = some (.int .u8 ((B.getD j 0).toNat : Int))) := fun W hf j hj => by
    rcases hf.byt (fun ad e => by cases e; exact ⟨rfl, hbg⟩) hB with e | ⟨b', off', e, hc⟩
    · rw [e] at hl; simp at hl; omega
    · cases e
      have := hc j (by omega)
      rw [Nat.zero_add] at this
      exact this
  clear h hB
  go_enter Try.func64, Try.ntmps64
  go_wp2
  generalize w.setCells g 0 (List.replicate m (.int .u64 0)) = W1 at *
  clear hcl
  go_loopw [9] (fun i wr => ∃ k : Nat, k ≤ n ∧ i = .int .i64 (k : Int) ∧ Hid (WR wr g m (ldF B k)) ∧ Hid (K.Fr g w wr)) (fun i _ => n - (intOf i).toNat)
  case atStart => exact ⟨0, by omega, rfl, H0, F0⟩
  case round =>
    obtain ⟨k, hk, rfl, HR, HG⟩ := hrel
    clear H0 F0
    by_cases hkn : k < n
    · have hkn' : (k : Int) < (n : Int) := by omega
      have hd : k / 8 < m := by omega
      have c1 := HBy.out wr HG.out k hkn
      have c2 : wr.cell? ⟨g, k / 8, none⟩ = some (.int .u64 (ldF B k (k / 8) : Int)) := HR.out.cell hd
      have f2 : wr.frozen? ⟨g, k / 8, none⟩ = false := HR.out.frozen _
      have ix := fun wx => index53 b n c k wx hkn
      have ix2 := fun wx => index95 g m m (k / 8) wx hd
      have e1 : (k : Int).tdiv 8 = ((k / 8 : Nat) : Int) := by rw [Int.tdiv_eq_ediv_of_nonneg (by omega)]; omega
      have e2 : (k : Int).tmod 8 = ((k % 8 : Nat) : Int) := by rw [Int.tmod_eq_emod_of_nonneg (by omega)]; omega
      have hlt := ldF_lt B k (k / 8)
      have hq : k % 8 < 8 := Nat.mod_lt _ (by omega)
      have hx := UInt8.toNat_lt (B.getD k 0)
      have hsh := byte_shift (B.getD k 0).toNat (k % 8) hx hq
      have HO := Hid.mk' (bits_or_u64_nat (ldF B k (k / 8)) ((B.getD k 0).toNat * 2 ^ (k % 8 * 8)) hlt hsh)
      have HN : Hid (WR (wr.setCell ⟨g, k / 8, none⟩ (.int .u64 ((ldF B k (k / 8) ||| (B.getD k 0).toNat * 2 ^ (k % 8 * 8) : Nat) : Int))).drew g m (ldF B (k + 1))) := (HR.out.set (k / 8) _).congr fun i hi => by
        rw [ldF_succ]
        by_cases e : i = k / 8
        · rw [if_pos e, if_pos e, e]
        · rw [if_neg e, if_neg e]
      have HF : Hid (K.Fr g w (wr.setCell ⟨g, k / 8, none⟩ (.int .u64 ((ldF B k (k / 8) ||| (B.getD k 0).toNat * 2 ^ (k % 8 * 8) : Nat) : Int))).drew) := (HG.out.trans (K.Fr.set g wr ⟨g, k / 8, none⟩ rfl _)).trans (K.Fr.drew g _ 1)
      rw [← HO.out] at HN HF
      clear HO
      generalize ldF B k (k / 8) = x at *
      generalize (B.getD k 0).toNat = y at *
      generalize k / 8 = d at *
      generalize k % 8 = r at *
      have hwr : IntKind.u64.wrap ((y : Int) * 2 ^ (r * 8)) = ((y * 2 ^ (r * 8) : Nat) : Int) := by
        have e : (y : Int) * 2 ^ (r * 8) = ((y * 2 ^ (r * 8) : Nat) : Int) := by simp
        rw [IntKind.wrap_u64, e]
        generalize y * 2 ^ (r * 8) = z at *
        omega
      go_wp2
      go_region
      go_wp2
      exact ⟨⟨k + 1, by omega, by go_num, HN, HF⟩, by simp [intOf]; omega⟩
    · obtain rfl : k = n := by omega
      have hkn' : ¬ (k : Int) < (k : Int) := by omega
      go_wp2
      go_end0
      exact ⟨rfl, HR.out, HG.out⟩
end Go.Proofs.Ytdajeabhhkgibaa
