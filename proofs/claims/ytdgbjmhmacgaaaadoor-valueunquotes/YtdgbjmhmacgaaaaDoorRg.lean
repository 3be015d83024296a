import Derived.Test.YtdgbjmhmacgaaaaDoorUt
import Derived.Deep.Cut
namespace Go.Proofs.YtdgbjmhmacgaaaaDoor
open Go.RowKit
set_option linter.unusedVariables false
set_option linter.unusedSimpArgs false

/-- A text and c bytes x behind it. -/
def padB (t : ByteArray) (x : UInt8) : Nat → ByteArray
  | 0 => t
  | k + 1 => padB t x k ++ ⟨#[x]⟩
theorem padB_list (t : ByteArray) (x : UInt8) (k : Nat) : (padB t x k).data.toList = t.data.toList ++ List.replicate k x := by
  induction k with
  | zero => simp [padB]
  | succ k ih =>
    rw [padB, ByteArray.data_append, Array.toList_append, ih, List.replicate_succ']
    simp
theorem padB_size (t : ByteArray) (x : UInt8) (k : Nat) : (padB t x k).size = t.size + k := by
  have h := congrArg List.length (padB_list t x k)
  simpa using h
def fullOk (t : ByteArray) (c : Nat) : Bool := decide (wideN (padB t 128 c) = t.size + c) || decide (wideN (padB t 191 c) = t.size + c)
/-- n bytes and one more may begin a character. -/
def OkAt (s : ByteArray) (n : Nat) : Prop := ∃ c, c < 4 ∧ fullOk (s.extract 0 (n + 1)) c = true
structure GoP (s : ByteArray) (n : Nat) : Prop where
  le : n ≤ s.size
  le4 : n ≤ 4
  ok : ∀ j, j < n → OkAt s j
  no : ∀ j, 1 ≤ j → j < n → wideN (s.extract 0 j) ≠ j
  fin : (n < s.size ∧ n < 4 ∧ ¬ OkAt s n) ∨ (1 ≤ n ∧ wideN (s.extract 0 n) = n) ∨ n = s.size ∨ n = 4
set_option maxRecDepth 100000 in
set_option maxHeartbeats 4000000 in
theorem goes_any (s : ByteArray) (w : World) (hs : s.size ≤ 140737488355328) :
    Calls Tryd.prog 58 #[.string s] w fun e w' => (∃ n : Nat, GoP s n ∧ e = .returned (.int .i64 n)) ∧ w' = w := by
  go_enter Tryd.func58, Tryd.ntmps58
  go_wp2
  go_loopw [3] (fun i wr => ∃ n : Nat, i = .int .i64 n ∧ n ≤ 4 ∧ n ≤ s.size ∧ wr = w ∧ Hid (∀ j, j < n → OkAt s j) ∧ Hid (∀ j, 1 ≤ j → j ≤ n → wideN (s.extract 0 j) ≠ j)) (fun i _ => 4 - (intOf i).toNat)
  case atStart => exact ⟨0, rfl, by omega, by omega, rfl, fun j hj => by omega, fun j h1 h2 => by omega⟩
  case round =>
    obtain ⟨n, rfl, h4, hn, rfl, hok, hno⟩ := hrel
    by_cases h1 : n < s.size
    · have h1' : (n : Int) < (s.size : Int) := by omega
      by_cases h2 : n < 4
      · have h2' : (n : Int) < 4 := by omega
        obtain ⟨t, ht⟩ : ∃ t, s.extract 0 (n + 1) = t := ⟨_, rfl⟩
        have zt : t.size = n + 1 := by rw [← ht, ByteArray.size_extract]; omega
        have HT : Hid (s.extract 0 (n + 1) = t) := ht
        have ZT : Hid (t.size = n + 1) := zt
        have l1 : (n : Int) + 1 ≤ (s.size : Int) := by omega
        have e1 : ((n : Int) + 1).toNat = n + 1 := by omega
        have HS : Hid (s.size ≤ 140737488355328) := hs
        clear zt
        go_wp2
        go_loopw [4, 5] (fun x y wq => ∃ (ok : Bool) (c : Nat), x = .bool ok ∧ y = .int .i64 c ∧ c ≤ 4 ∧ wq = wr ∧ Hid (ok = true ↔ ∃ d, d < c ∧ fullOk t d = true)) (fun _ y _ => 4 - (intOf y).toNat)
        case atStart => exact ⟨false, 0, rfl, rfl, by omega, rfl, ⟨(fun h => (by cases h)), (fun ⟨d, hd, _⟩ => (by omega))⟩⟩
        case round =>
          obtain ⟨ok, c, rfl, rfl, hc4, rfl, hiff⟩ := hrel
          cases ok with
          | false =>
            by_cases hc : c < 4
            · have hc' : (c : Int) < 4 := by omega
              have hnone : Hid (∀ d, d < c → fullOk t d = false) := fun d hd => by
                cases hq : fullOk t d with
                | false => rfl
                | true => exact absurd (hiff.out.2 ⟨d, hd, hq⟩) (by decide)
              have NX : Hid (∀ b, fullOk t c = b → (b = true ↔ ∃ d, d < c + 1 ∧ fullOk t d = true)) := fun b hb => by
                constructor
                · intro e
                  exact ⟨c, by omega, by rw [hb, e]⟩
                · rintro ⟨d, hd, hq⟩
                  rcases Nat.lt_or_ge d c with h | h
                  · rw [hnone.out d h] at hq; cases hq
                  · have : d = c := by omega
                    subst this
                    rw [← hb, hq]
              clear hiff hnone
              go_wp2
              go_loopw [6, 7] (fun f i wq => ∃ k : Nat, f = .string (padB t 128 k) ∧ i = .int .i64 k ∧ k ≤ c ∧ wq = wr) (fun _ i _ => c - (intOf i).toNat)
              case atStart => exact ⟨0, rfl, rfl, by omega, rfl⟩
              case round =>
                obtain ⟨k, rfl, rfl, hk, rfl⟩ := hrel
                by_cases hkc : k < c
                · have hkc' : (k : Int) < (c : Int) := by omega
                  have ha : padB t 128 k ++ ⟨#[128]⟩ = padB t 128 (k + 1) := rfl
                  have hz : ¬ 9223372036854775807 < (padB t 128 k).size + 1 := by rw [padB_size, ZT.out]; omega
                  go_wp2
                  go_roundw
                  case rel => exact ⟨k + 1, rfl, by go_num, by omega, by trivial⟩
                  case measure => simp [intOf]; omega
                · obtain rfl : k = c := by omega
                  have hkc' : ¬ (k : Int) < (k : Int) := by omega
                  go_wp2
                  go_loopw [8, 9] (fun f i wq => ∃ j : Nat, f = .string (padB t 191 j) ∧ i = .int .i64 j ∧ j ≤ k ∧ wq = wr) (fun _ i _ => k - (intOf i).toNat)
                  case atStart => exact ⟨0, rfl, rfl, by omega, rfl⟩
                  case round =>
                    obtain ⟨j, rfl, rfl, hj, rfl⟩ := hrel
                    by_cases hjc : j < k
                    · have hjc' : (j : Int) < (k : Int) := by omega
                      have ha : padB t 191 j ++ ⟨#[191]⟩ = padB t 191 (j + 1) := rfl
                      have hz : ¬ 9223372036854775807 < (padB t 191 j).size + 1 := by rw [padB_size, ZT.out]; omega
                      go_wp2
                      go_roundw
                      case rel => exact ⟨j + 1, rfl, by go_num, by omega, by trivial⟩
                      case measure => simp [intOf]; omega
                    · obtain rfl : j = k := by omega
                      have hjc' : ¬ (j : Int) < (j : Int) := by omega
                      have z1 := padB_size t 128 j
                      have z2 := padB_size t 191 j
                      have W1 := fun wx => wide_any (padB t 128 j) wx (by have := ZT.out; omega)
                      have W2 := fun wx => wide_any (padB t 191 j) wx (by have := ZT.out; omega)
                      have FO : Hid (fullOk t j = (decide (wideN (padB t 128 j) = t.size + j) || decide (wideN (padB t 191 j) = t.size + j))) := rfl
                      rw [← z1] at FO
                      have z12 : (padB t 128 j).size = (padB t 191 j).size := by rw [z1, z2]
                      generalize padB t 128 j = P1 at *
                      generalize padB t 191 j = P2 at *
                      generalize wideN P1 = a1 at *
                      generalize wideN P2 = a2 at *
                      have Z12 : Hid (P1.size = P2.size) := z12
                      clear z1 z2 z12
                      by_cases q1 : a1 = P1.size
                      · have c1 : ((a1 : Int) == (P1.size : Int)) = true := beq_iff_eq.2 (by omega)
                        have NX2 := NX.out true (by rw [FO.out, decide_eq_true q1]; rfl)
                        have HNX : Hid (∃ d, d < j + 1 ∧ fullOk t d = true) := NX2.1 rfl
                        clear NX NX2 FO q1
                        go_wp2_with fail
                        refine (W1 _).mono ?_
                        rintro e wx ⟨rfl, rfl⟩
                        go_wp2
                        go_roundw
                        case rel => exact ⟨true, j + 1, rfl, by go_num, by omega, by trivial, ⟨fun _ => HNX.out, fun _ => rfl⟩⟩
                        case measure => simp [intOf]; omega
                      · have c1 : ((a1 : Int) == (P1.size : Int)) = false := beq_eq_false_iff_ne.2 (by omega)
                        by_cases q2 : a2 = P2.size
                        · have c2 : ((a2 : Int) == (P2.size : Int)) = true := beq_iff_eq.2 (by omega)
                          have NX2 := NX.out true (by rw [FO.out, decide_eq_false q1, Z12.out, decide_eq_true q2]; rfl)
                          have HNX : Hid (∃ d, d < j + 1 ∧ fullOk t d = true) := NX2.1 rfl
                          clear NX NX2 FO q1 q2
                          go_wp2_with fail
                          refine (W1 _).mono ?_
                          rintro e wx ⟨rfl, rfl⟩
                          go_wp2_with fail
                          refine (W2 _).mono ?_
                          rintro e wx ⟨rfl, rfl⟩
                          go_wp2
                          go_roundw
                          case rel => exact ⟨true, j + 1, rfl, by go_num, by omega, by trivial, ⟨fun _ => HNX.out, fun _ => rfl⟩⟩
                          case measure => simp [intOf]; omega
                        · have c2 : ((a2 : Int) == (P2.size : Int)) = false := beq_eq_false_iff_ne.2 (by omega)
                          have NX2 := NX.out false (by rw [FO.out, decide_eq_false q1, Z12.out, decide_eq_false q2]; rfl)
                          have HNX : Hid (false = true ↔ ∃ d, d < j + 1 ∧ fullOk t d = true) := NX2
                          clear NX NX2 FO q1 q2
                          go_wp2_with fail
                          refine (W1 _).mono ?_
                          rintro e wx ⟨rfl, rfl⟩
                          go_wp2_with fail
                          refine (W2 _).mono ?_
                          rintro e wx ⟨rfl, rfl⟩
                          go_wp2
                          go_roundw
                          case rel => exact ⟨false, j + 1, rfl, by go_num, by omega, by trivial, HNX⟩
                          case measure => simp [intOf]; omega
            · obtain rfl : c = 4 := by omega
              have hN : GoP s n := ⟨hn, h4, hok.out, fun j a b => hno.out j a (by omega), .inl ⟨h1, h2, by
                rintro ⟨d, hd, hq⟩
                rw [HT.out] at hq
                exact absurd (hiff.out.2 ⟨d, hd, hq⟩) (by decide)⟩⟩
              clear hiff hok hno
              go_wp2
              go_ret
              exact ⟨⟨n, hN, rfl⟩, rfl⟩
          | true =>
            have hOK : Hid (∀ j, j < n + 1 → OkAt s j) := fun j hj => by
              rcases Nat.lt_or_ge j n with h | h
              · exact hok.out j h
              · have : j = n := by omega
                subst this
                obtain ⟨d, hd, hq⟩ := hiff.out.1 rfl
                exact ⟨d, by omega, by rw [HT.out]; exact hq⟩
            have W1 := fun wx => wide_any t wx (by have := ZT.out; omega)
            have HW : Hid (wideN (s.extract 0 (n + 1)) = wideN t) := by show _ = _; rw [HT.out]
            generalize wideN t = a1 at *
            by_cases q1 : a1 = n + 1
            · have c1 : ((a1 : Int) == (n : Int) + 1) = true := beq_iff_eq.2 (by omega)
              have hN : GoP s (n + 1) := ⟨by omega, by omega, hOK.out, fun j a b => hno.out j a (by omega), .inr (.inl ⟨by omega, by rw [HW.out, q1]⟩)⟩
              clear hiff hok hno hOK q1
              by_cases hc : c < 4
              · have hc' : (c : Int) < 4 := by omega
                go_wp2_with fail
                refine (W1 _).mono ?_
                rintro e wx ⟨rfl, rfl⟩
                go_wp2
                go_ret
                exact ⟨⟨n + 1, hN, by go_num⟩, rfl⟩
              · have hc' : ¬ (c : Int) < 4 := by omega
                go_wp2_with fail
                refine (W1 _).mono ?_
                rintro e wx ⟨rfl, rfl⟩
                go_wp2
                go_ret
                exact ⟨⟨n + 1, hN, by go_num⟩, rfl⟩
            · have c1 : ((a1 : Int) == (n : Int) + 1) = false := beq_eq_false_iff_ne.2 (by omega)
              have hNO : Hid (∀ j, 1 ≤ j → j ≤ n + 1 → wideN (s.extract 0 j) ≠ j) := fun j a b => by
                rcases Nat.lt_or_ge n j with h | h
                · have : j = n + 1 := by omega
                  subst this
                  rw [HW.out]
                  exact q1
                · exact hno.out j a h
              clear hiff hok hno q1
              by_cases hc : c < 4
              · have hc' : (c : Int) < 4 := by omega
                go_wp2_with fail
                refine (W1 _).mono ?_
                rintro e wx ⟨rfl, rfl⟩
                go_wp2
                go_roundw
                case rel => exact ⟨n + 1, by go_num, by omega, by omega, by trivial, hOK, hNO⟩
                case measure => simp [intOf]; omega
              · have hc' : ¬ (c : Int) < 4 := by omega
                go_wp2_with fail
                refine (W1 _).mono ?_
                rintro e wx ⟨rfl, rfl⟩
                go_wp2
                go_roundw
                case rel => exact ⟨n + 1, by go_num, by omega, by omega, by trivial, hOK, hNO⟩
                case measure => simp [intOf]; omega
      · obtain rfl : n = 4 := by omega
        have hN : GoP s 4 := ⟨hn, h4, hok.out, fun j a b => hno.out j a (by omega), .inr (.inr (.inr rfl))⟩
        clear hok hno
        go_wp2
        go_ret
        exact ⟨⟨4, hN, rfl⟩, rfl⟩
    · have h1' : ¬ (n : Int) < (s.size : Int) := by omega
      have hN : GoP s n := ⟨hn, h4, hok.out, fun j a b => hno.out j a (by omega), .inr (.inr (.inl (by omega)))⟩
      clear hok hno
      go_wp2
      go_ret
      exact ⟨⟨n, hN, rfl⟩, rfl⟩
end Go.Proofs.YtdgbjmhmacgaaaaDoor
