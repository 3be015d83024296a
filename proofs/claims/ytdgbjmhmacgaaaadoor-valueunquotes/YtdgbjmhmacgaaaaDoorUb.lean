import Derived.Test.YtdgbjmhmacgaaaaDoorUf
import Derived.Lib.ValidLaws
namespace Go.Proofs.YtdgbjmhmacgaaaaDoor
open Go.RowKit
set_option linter.unusedVariables false
set_option linter.unusedSimpArgs false

def fullAt (s : ByteArray) (n : Nat) : Bool := fullB n (by8 s 0) (by8 s 1) (by8 s 2)
/-- n bytes of a text begin a character that is not whole. -/
structure BegP (s : ByteArray) (n : Nat) : Prop where
  le : n ≤ s.size
  no : ∀ j, j < n → fullAt s (j + 1) = false
  yes : n < s.size → fullAt s (n + 1) = true
theorem ext_by8 (s : ByteArray) (m j : Nat) (hj : j < m) : by8 (s.extract 0 m) j = by8 s j := by
  unfold by8
  have e : (s.extract 0 m).data.toList = s.data.toList.take m := by simp [ByteArray.data_extract]
  rw [e, List.getD_eq_getElem?_getD, List.getD_eq_getElem?_getD, List.getElem?_take, if_pos hj]
theorem fullB_1 (n b0 b1 b2 c1 c2 : Nat) (h : n ≤ 1) : fullB n b0 b1 b2 = fullB n b0 c1 c2 := by
  unfold fullB
  rw [if_neg (show ¬ (1 < n ∧ _) by omega), if_neg (show ¬ (1 < n ∧ _) by omega), decide_eq_false (show ¬ (2 < n ∧ _) by omega), decide_eq_false (show ¬ (2 < n ∧ _) by omega)]
theorem fullB_2 (n b0 b1 b2 c2 : Nat) (h : n ≤ 2) : fullB n b0 b1 b2 = fullB n b0 b1 c2 := by
  unfold fullB
  rw [decide_eq_false (show ¬ (2 < n ∧ (b2 < 128 ∨ 191 < b2)) by omega), decide_eq_false (show ¬ (2 < n ∧ (c2 < 128 ∨ 191 < c2)) by omega)]
theorem full_ext (s : ByteArray) (m : Nat) (h1 : 1 ≤ m) : fullB m (by8 (s.extract 0 m) 0) (by8 (s.extract 0 m) 1) (by8 (s.extract 0 m) 2) = fullAt s m := by
  unfold fullAt
  rw [ext_by8 s m 0 (by omega)]
  by_cases h2 : m ≤ 1
  · exact fullB_1 _ _ _ _ _ _ h2
  rw [ext_by8 s m 1 (by omega)]
  by_cases h3 : m ≤ 2
  · exact fullB_2 _ _ _ _ _ h3
  rw [ext_by8 s m 2 (by omega)]
set_option maxRecDepth 100000 in
set_option maxHeartbeats 1000000 in
theorem begun_any (s : ByteArray) (w : World) (hs : s.size ≤ 140737488355328) (hT : Tabs w) :
    Calls Tryd.prog 55 #[.string s] w fun e w' => (∃ n : Nat, BegP s n ∧ e = .returned (.int .i64 n)) ∧ Below w.heap.size w w' := by
  go_enter Tryd.func55, Tryd.ntmps55
  go_wp2
  go_loopw [3] (fun i wr => ∃ k : Nat, k ≤ s.size ∧ i = .int .i64 k ∧ Hid (Below w.heap.size w wr) ∧ Hid (∀ j, j < k → fullAt s (j + 1) = false)) (fun i _ => s.size - (intOf i).toNat)
  case atStart => exact ⟨0, by omega, rfl, Below.refl _ _, fun j hj => by omega⟩
  case round =>
    obtain ⟨k, hk, rfl, bel, hall⟩ := hrel
    by_cases h1 : k < s.size
    · have h1' : (k : Int) < (s.size : Int) := by omega
      have h1'' : (k : Int) + 1 ≤ (s.size : Int) := by omega
      obtain ⟨t, ht⟩ : ∃ t, s.extract 0 (k + 1) = t := ⟨_, rfl⟩
      have zt : t.size = k + 1 := by rw [← ht, ByteArray.size_extract]; omega
      have fe := full_ext s (k + 1) (by omega)
      rw [ht] at fe
      have HF : Hid (Calls Tryd.prog 66 #[.string t] wr fun e w' => e = .returned (.bool (fullAt s (k + 1))) ∧ Below wr.heap.size wr w') := (full_any t wr (hT.below bel.out) (by omega)).mono fun e w' h => ⟨by rw [h.1, zt, fe], h.2⟩
      have ht' : s.extract 0 (k + 1) = t := ht
      clear fe zt hT
      have e1 : ((k : Int) + 1).toNat = k + 1 := by omega
      by_cases hF : fullAt s (k + 1) = true
      · have HP : Hid (BegP s k) := ⟨hk, hall.out, fun _ => hF⟩
        rw [hF] at HF
        go_wp2_with fail
        refine HF.out.mono ?_
        rintro e w5 ⟨rfl, b5⟩
        go_wp2
        go_ret
        exact ⟨⟨k, HP.out, rfl⟩, bel.out.trans (b5.mono bel.out.size)⟩
      · have hF' : fullAt s (k + 1) = false := by simpa using hF
        have HA : Hid (∀ j, j < k + 1 → fullAt s (j + 1) = false) := fun j hj => by
          rcases Nat.lt_or_ge j k with h | h
          · exact hall.out j h
          · have : j = k := by omega
            subst this; exact hF'
        rw [hF'] at HF
        go_wp2_with fail
        refine HF.out.mono ?_
        rintro e w5 ⟨rfl, b5⟩
        go_wp2
        go_roundw
        case rel => exact ⟨k + 1, by omega, by go_num, bel.out.trans (b5.mono bel.out.size), HA⟩
        case measure => simp [intOf]; omega
    · have h1' : ¬ (k : Int) < (s.size : Int) := by omega
      have HP : Hid (BegP s k) := ⟨hk, hall.out, fun h => absurd h h1⟩
      clear hT hall
      go_wp2
      go_ret
      exact ⟨⟨k, HP.out, rfl⟩, bel.out⟩
end Go.Proofs.YtdgbjmhmacgaaaaDoor
