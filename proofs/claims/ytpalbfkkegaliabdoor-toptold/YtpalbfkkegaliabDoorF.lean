import Derived.Test.YtpalbfkkegaliabDoorD
import Derived.Test.YtpalbfkkegaliabDoorE
namespace Go.Proofs.YtpalbfkkegaliabDoor
open Go.RowKit
set_option linter.unusedVariables false
set_option linter.unusedSimpArgs false

theorem hx_all (d : Int) (h0 : 0 ≤ d) (h1 : d < 16) : isDg ((hx d).toNat : Int) = true ∧ dgVal ((hx d).toNat : Int) = d := by
  have : d = 0 ∨ d = 1 ∨ d = 2 ∨ d = 3 ∨ d = 4 ∨ d = 5 ∨ d = 6 ∨ d = 7 ∨ d = 8 ∨ d = 9 ∨ d = 10 ∨ d = 11 ∨ d = 12 ∨ d = 13 ∨ d = 14 ∨ d = 15 := by omega
  rcases this with h | h | h | h | h | h | h | h | h | h | h | h | h | h | h | h <;> subst h <;> decide

theorem hx_back (c : UInt8) (h : isDg (c.toNat : Int) = true) : hx (dgVal (c.toNat : Int)) = c := by
  have hd := isDg_digit h
  apply UInt8.toNat_inj.1
  unfold dgVal hx
  split
  · rw [if_neg (by omega), UInt8.toNat_ofNat']; omega
  · rw [if_pos (by omega), UInt8.toNat_ofNat']; omega

theorem at8_hexl (h : List UInt8) (m j : Nat) (hj : j < m) : at8 (hexl h m) j = ((hx (dig h j)).toNat : Int) := by
  simp [at8, hexl, hj]

theorem good_hexl (h : List UInt8) : good (hexl h 64) = 64 :=
  goodOf_eq 64 _ 64 (by omega) (by rw [hexl_len]; omega) (fun j hj => by rw [at8_hexl _ _ _ hj]; exact (hx_all _ (dig_bd h j).1 (dig_bd h j).2).1) (.inl rfl)

theorem at8_unTo (l : List UInt8) (k : Nat) (hk : k < 32) : at8 (unTo l 32) k = ((two l k).toNat : Int) := by
  simp [at8, unTo, hk]

theorem un_hexl (h : List UInt8) (hl : h.length = 32) : unTo (hexl h 64) 32 = h := by
  apply at8_ext 32 (unTo_len _ _) hl
  intro k hk
  rw [at8_unTo _ _ hk]
  unfold two
  rw [at8_hexl _ _ _ (by omega), at8_hexl _ _ _ (by omega), (hx_all _ (dig_bd h _).1 (dig_bd h _).2).2, (hx_all _ (dig_bd h _).1 (dig_bd h _).2).2]
  have e1 : dig h (2 * k) = at8 h k / 16 := by unfold dig; rw [if_pos (by omega), show 2 * k / 2 = k by omega]
  have e2 : dig h (2 * k + 1) = at8 h k % 16 := by unfold dig; rw [if_neg (by omega), show (2 * k + 1) / 2 = k by omega]
  rw [e1, e2, UInt8.toNat_ofNat']
  have := at8_lo h k
  have := at8_hi h k
  omega

theorem hexl_un (l : List UInt8) (hl : l.length = 64) (hg : good l = 64) : hexl (unTo l 32) 64 = l := by
  apply at8_ext 64 (hexl_len _ _) hl
  intro j hj
  rw [at8_hexl _ _ _ hj]
  have hall := goodOf_all 64 l hg
  have d1 := dgVal_digit (hall (2 * (j / 2)) (by omega))
  have d2 := dgVal_digit (hall (2 * (j / 2) + 1) (by omega))
  have ht : ((two l (j / 2)).toNat : Int) = dgVal (at8 l (2 * (j / 2))) * 16 + dgVal (at8 l (2 * (j / 2) + 1)) := by
    unfold two; rw [UInt8.toNat_ofNat']; omega
  have key : dig (unTo l 32) j = dgVal (at8 l j) := by
    unfold dig
    rw [at8_unTo _ _ (by omega), ht]
    split
    · have e : 2 * (j / 2) = j := by omega
      rw [e] at d1 d2 ⊢; omega
    · have e : 2 * (j / 2) + 1 = j := by omega
      rw [e] at d2 ⊢; omega
  rw [key]
  have hj2 := hall j hj
  unfold at8 at hj2 ⊢
  rw [hx_back _ hj2]

theorem hz_i5 : ∃ i, Tryd.prog.info? 5 = some i := by
  have h := Tryd.info5
  cases hq : Tryd.prog.info? 5 with
  | none => rw [hq] at h; simp at h
  | some i => exact ⟨i, rfl⟩
theorem eq23 (a b : List UInt8) (ha : a.length = 32) (hb : b.length = 32) (w : World) :
    (Op.equalIn 10000 36 (.agg (bs a)) (.agg (bs b))).run Tryd.prog w = .ok (decide (a = b)) w := by
  obtain ⟨i, hi⟩ := hz_i5
  exact eq_bytes 9998 Tryd.underlying36 hi (by kernel_rfl) Tryd.underlying5 a b ha hb w

end Go.Proofs.YtpalbfkkegaliabDoor
