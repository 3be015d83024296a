import Derived.Test.YtdgbjmhmacgaaaaDoorUg
namespace Go.Proofs.YtdgbjmhmacgaaaaDoor
open Go.RowKit
set_option linter.unusedVariables false
set_option linter.unusedSimpArgs false

theorem mp_one {s : ByteArray} {k m : Nat} (h : MP s k) (g : MP s m) : k = m := by
  have aux : ∀ {k m : Nat}, MP s k → MP s m → ¬ k < m := fun {k m} h g hlt =>
    h.stop (by have := g.le4; omega) (by have := g.le; omega) (g.all k hlt)
  have h1 := aux h g
  have h2 := aux g h
  omega
theorem beg_one {s : ByteArray} {k m : Nat} (h : BegP s k) (g : BegP s m) : k = m := by
  have aux : ∀ {k m : Nat}, BegP s k → BegP s m → ¬ k < m := fun {k m} h g hlt => by
    have h1 := h.yes (by have := g.le; omega)
    rw [g.no k hlt] at h1
    cases h1
  have h1 := aux h g
  have h2 := aux g h
  omega
theorem sign_one {c d : Int} (h : InC c) (g : InC d) (e : signN c = signN d) : c = d := by
  unfold signN at e
  rcases h with rfl | rfl | rfl | rfl | rfl <;> rcases g with rfl | rfl | rfl | rfl | rfl <;> first | rfl | (simp at e)
theorem esc_one {s : ByteArray} {v u : Int × Int × Bool} (h : EscV s v) (g : EscV s u) : v = u := by
  rcases h with ⟨h1, rfl⟩ | ⟨h1, c, hc, h2, rfl⟩ | ⟨h1, h2, k, hk, rfl⟩ <;> rcases g with ⟨g1, rfl⟩ | ⟨g1, d, gd, g2, rfl⟩ | ⟨g1, g2, m, gm, rfl⟩
  · rfl
  · omega
  · omega
  · omega
  · rw [sign_one hc gd (h2.trans g2.symm)]
  · exact absurd h2 (g2 c hc)
  · omega
  · exact absurd g2 (h2 d gd)
  · rw [mp_one hk gm]
theorem chr_one {s : ByteArray} {v u : Int × Int × Bool} (h : ChrV s v) (g : ChrV s u) : v = u := by
  unfold ChrV at h g
  generalize (Lib.decodeL s.data.toList).1 = r at *
  generalize (Lib.decodeL s.data.toList).2 = n at *
  rcases h with ⟨h1, h2⟩ | ⟨h1, h2, k, hk, rfl⟩ | ⟨h1, h2, h3, rfl⟩ | ⟨h1, h2, h3, rfl⟩ <;> rcases g with ⟨g1, g2⟩ | ⟨g1, g2, m, gm, rfl⟩ | ⟨g1, g2, g3, rfl⟩ | ⟨g1, g2, g3, rfl⟩
  · exact esc_one h2 g2
  · omega
  · exact absurd h1 g1
  · exact absurd h1 g1
  · omega
  · rw [beg_one hk gm]
  · exact absurd ⟨h1, h2⟩ g2
  · exact absurd ⟨h1, h2⟩ g2
  · exact absurd g1 h1
  · exact absurd ⟨g1, g2⟩ h2
  · rfl
  · rw [h3] at g3; cases g3
  · exact absurd g1 h1
  · exact absurd ⟨g1, g2⟩ h2
  · rw [h3] at g3; cases g3
  · rfl
theorem enc_asc {c : Int} (h0 : 0 ≤ c) (h1 : c < 128) : Lib.encodeRune c = [UInt8.ofNat c.toNat] := by
  unfold Lib.encodeRune
  rw [Lib.encodeRuneZ_one (by omega) (by omega)]
  simp [Nat.toUInt8]
theorem coded_ok {s : ByteArray} {k : Nat} {c n : Int} {b : Bool} (hM : MP s k) (h : codedV s k = (c, n, b)) : 0 ≤ n ∧ n ≤ s.size ∧ (b = true → 1 ≤ n ∧ 0 ≤ c ∧ c < 128) := by
  have i4 := ixD_bd (by8 s 4)
  have i5 := ixD_bd (by8 s 5)
  have l4 := hM.le4
  have l5 := hM.le
  unfold codedV at h
  split at h
  · cases h; exact ⟨by omega, by omega, fun e => by cases e⟩
  · rename_i a1
    split at h
    · cases h; exact ⟨by omega, by omega, fun e => by cases e⟩
    · rename_i a2
      split at h
      · cases h; exact ⟨by omega, by omega, fun e => by cases e⟩
      · rename_i a3
        split at h
        · cases h; exact ⟨by omega, by omega, fun e => by cases e⟩
        · rename_i a4
          cases h
          exact ⟨by omega, by omega, fun _ => ⟨by omega, by omega, by omega⟩⟩
theorem chr_ok {t : ByteArray} {c n : Int} {b : Bool} (h0 : 0 < t.size) (h : ChrV t (c, n, b)) : 0 ≤ n ∧ n ≤ t.size ∧ (b = true → 1 ≤ n ∧ 0 ≤ c ∧ c ≤ 1114111 ∧ ((Lib.encodeRune c).length : Int) ≤ n) := by
  have hl : t.data.toList.length = t.size := by simp
  have hne := ne_nil h0
  have asc : ∀ {n c : Int}, 1 ≤ n → 0 ≤ c → c < 128 → 1 ≤ n ∧ 0 ≤ c ∧ c ≤ 1114111 ∧ ((Lib.encodeRune c).length : Int) ≤ n := fun {n c} a1 a2 a3 => ⟨a1, a2, by omega, by rw [enc_asc a2 a3]; simpa using a1⟩
  rcases h with ⟨_, h2⟩ | ⟨h1, h2, k, hk, hv⟩ | ⟨h1, h2, h3, hv⟩ | ⟨h1, h2, h3, hv⟩
  · rcases h2 with ⟨g1, hv⟩ | ⟨g1, d, hd, g2, hv⟩ | ⟨g1, g2, k, hk, hv⟩
    · cases hv; exact ⟨by omega, by omega, fun e => by cases e⟩
    · cases hv
      refine ⟨by omega, by omega, fun _ => asc (by omega) ?_ ?_⟩
      · rcases hd with rfl | rfl | rfl | rfl | rfl <;> omega
      · rcases hd with rfl | rfl | rfl | rfl | rfl <;> omega
    · obtain ⟨a, b', d⟩ := coded_ok hk hv.symm
      exact ⟨a, b', fun e => asc (d e).1 (d e).2.1 (d e).2.2⟩
  · cases hv
    have := hk.le
    exact ⟨by omega, by omega, fun e => by cases e⟩
  · cases hv; exact ⟨by omega, by omega, fun e => by cases e⟩
  · cases hv
    have a1 := decode_pos t.data.toList
    have a2 := decode_len _ hne h2
    have a3 := decode_le t.data.toList
    have a4 := Lib.encode_decode _ hne h2
    refine ⟨by omega, by omega, fun _ => ⟨by omega, by omega, by omega, ?_⟩⟩
    rw [a4, List.length_take]
    omega
theorem chr_any {t : ByteArray} (v : Int × Int × Bool) (h : ChrV t v) : ∃ c n b, v = (c, n, b) ∧ ChrV t (c, n, b) := ⟨v.1, v.2.1, v.2.2, rfl, h⟩
/-- What stands at the front of a text, by what character tells. -/
noncomputable def chrF (t : ByteArray) : Int × Int × Bool := @dite _ (∃ v, ChrV t v) (Classical.propDecidable _) (fun h => Classical.choose h) (fun _ => (0, 0, false))
theorem chrF_of {t : ByteArray} {v : Int × Int × Bool} (h : ChrV t v) : chrF t = v := by
  unfold chrF
  rw [dif_pos ⟨v, h⟩]
  exact chr_one (Classical.choose_spec (⟨v, h⟩ : ∃ v, ChrV t v)) h
/-- A quoted text from a place on. -/
noncomputable def unqF (s : ByteArray) : Nat → Nat → List UInt8 → List UInt8 × Int × Int
  | 0, _, _ => ([], 0, 0)
  | f + 1, i, acc =>
    if i < s.size ∧ by8 s i ≠ 34 then
      (if (chrF (s.extract i s.size)).2.2 = true then unqF s f (i + (chrF (s.extract i s.size)).2.1.toNat) (acc ++ Lib.encodeRune (chrF (s.extract i s.size)).1)
       else ([], (i : Int) + (chrF (s.extract i s.size)).2.1, 31))
    else if i = s.size then ([], (i : Int), 31) else (acc, (i : Int) + 1, 0)
noncomputable def unqA (s : ByteArray) : List UInt8 × Int × Int := if s.size = 0 ∨ by8 s 0 ≠ 34 then ([], 0, 31) else unqF s s.size 1 []
theorem unqF_step {s : ByteArray} {f i : Nat} {acc : List UInt8} {c n : Int} (h1 : i < s.size) (h2 : by8 s i ≠ 34) (hc : ChrV (s.extract i s.size) (c, n, true)) :
    unqF s (f + 1) i acc = unqF s f (i + n.toNat) (acc ++ Lib.encodeRune c) := by
  rw [unqF, if_pos ⟨h1, h2⟩, chrF_of hc, if_pos rfl]
theorem unqF_bad {s : ByteArray} {f i : Nat} {acc : List UInt8} {c n : Int} (h1 : i < s.size) (h2 : by8 s i ≠ 34) (hc : ChrV (s.extract i s.size) (c, n, false)) :
    unqF s (f + 1) i acc = ([], (i : Int) + n, 31) := by
  rw [unqF, if_pos ⟨h1, h2⟩, chrF_of hc, if_neg (by simp)]
theorem unqF_end {s : ByteArray} {f i : Nat} {acc : List UInt8} (h1 : i = s.size) : unqF s (f + 1) i acc = ([], (i : Int), 31) := by
  rw [unqF, if_neg (by omega), if_pos h1]
theorem unqF_shut {s : ByteArray} {f i : Nat} {acc : List UInt8} (h1 : i < s.size) (h2 : by8 s i = 34) : unqF s (f + 1) i acc = (acc, (i : Int) + 1, 0) := by
  rw [unqF, if_neg (by omega), if_neg (by omega)]
end Go.Proofs.YtdgbjmhmacgaaaaDoor
