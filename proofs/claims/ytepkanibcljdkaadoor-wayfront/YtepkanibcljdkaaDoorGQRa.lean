import Derived.Test.YtepkanibcljdkaaDoorGQUx
import Derived.Test.YtepkanibcljdkaaDoorQQh
import Derived.Test.YtepkanibcljdkaaDoorGQUt
import Derived.Deep.Cut
namespace Go.Proofs.YtepkanibcljdkaaDoor.Q
open Go.RowKit
set_option linter.unusedVariables false
set_option linter.unusedSimpArgs false

/-- The digits behind u of a character that is written by its code. -/
def wdC (c : Nat) : ByteArray := { data := #[117, 48, 48] } ++ ⟨#[hx ((c : Int) / 16), hx ((c : Int) % 16)]⟩
theorem wdC_list (c : Nat) : (wdC c).data.toList = [117, 48, 48, hx ((c : Int) / 16), hx ((c : Int) % 16)] := by
  unfold wdC
  rw [ByteArray.data_append]
  rfl
theorem wdC_size (c : Nat) : (wdC c).size = 5 := by
  have h := congrArg List.length (wdC_list c)
  simpa using h
/-- k bytes of a text stand as in another, and the next one does not. -/
structure MQ (s t : ByteArray) (k : Nat) : Prop where
  le4 : k ≤ t.size
  le : k ≤ s.size
  all : ∀ j, j < k → by8 s j = by8 t j
  stop : k < t.size → k < s.size → by8 s k ≠ by8 t k
def Elig (c : Nat) : Prop := (c < 32 ∨ c = 127) ∧ c ≠ 10 ∧ c ≠ 13 ∧ c ≠ 9
structure BestP (s : ByteArray) (c best : Nat) : Prop where
  all : ∀ d, d < c → Elig d → ∃ k, MQ s (wdC d) k ∧ k < 5 ∧ k ≤ best
  some : best = 0 ∨ ∃ d, d < c ∧ Elig d ∧ MQ s (wdC d) best
/-- What the reference's escape tells. -/
def EscRV (s : ByteArray) (v : Int × Int × Int) : Prop :=
  (s.size = 0 ∧ v = (0, 0, 0)) ∨
  (0 < s.size ∧ (by8 s 0 = 34 ∨ by8 s 0 = 92) ∧ v = ((by8 s 0 : Int), 1, 0)) ∨
  (0 < s.size ∧ by8 s 0 = 110 ∧ v = (10, 1, 0)) ∨
  (0 < s.size ∧ by8 s 0 = 114 ∧ v = (13, 1, 0)) ∨
  (0 < s.size ∧ by8 s 0 = 116 ∧ v = (9, 1, 0)) ∨
  (0 < s.size ∧ (by8 s 0 ≠ 34 ∧ by8 s 0 ≠ 92 ∧ by8 s 0 ≠ 110 ∧ by8 s 0 ≠ 114 ∧ by8 s 0 ≠ 116) ∧ ((∃ c : Nat, c < 128 ∧ Elig c ∧ MQ s (wdC c) 5 ∧ v = ((c : Int), 5, 0)) ∨ ∃ best : Nat, BestP s 128 best ∧ v = (0, 0, (best : Int))))
def EscROut (s : ByteArray) (w : World) (e : Ending) (w' : World) : Prop := (∃ v, EscRV s v ∧ e = .returned (.tuple #[.int .u8 v.1, .int .i64 v.2.1, .int .i64 v.2.2])) ∧ Below w.heap.size w w'
theorem escR_mk {s : ByteArray} {w w' : World} {a b c : Int} (h : EscRV s (a, b, c)) (hw : Below w.heap.size w w') : EscROut s w (.returned (.tuple #[.int .u8 a, .int .i64 b, .int .i64 c])) w' :=
  ⟨⟨(a, b, c), h, rfl⟩, hw⟩
theorem res57 (tmps : Array Value) (w : World) (a b c : Value) (h1 : tmps.getD 4 undef = a) (h2 : tmps.getD 5 undef = b) (h3 : tmps.getD 6 undef = c) : (results Tryd.f77 tmps).run Tryd.prog w = .ok (.tuple #[a, b, c]) w := by
  subst h1 h2 h3
  simp [results, Tryd.results77]
theorem empty_list0 {s : ByteArray} (h : s.size = 0) : s.toList.isEmpty = true := by
  rw [Lib.toList_data]
  have : s.data.toList = [] := List.eq_nil_of_length_eq_zero (by rw [← Lib.size_eq]; exact h)
  rw [this]; rfl
theorem not_empty0 (s : ByteArray) (h : 0 < s.size) : s.toList.isEmpty = false := by
  rw [Lib.toList_data]
  cases hl : s.data.toList with
  | nil => exact absurd (by rw [Lib.size_eq, hl]; rfl) (Nat.ne_of_gt h)
  | cons _ _ => rfl
set_option maxRecDepth 100000 in
set_option maxHeartbeats 4000000 in
theorem rescape_few (s : ByteArray) (w : World) (hs : s.size ≤ 140737488355328) (h : s.size = 0 ∨ by8 s 0 = 34 ∨ by8 s 0 = 92 ∨ by8 s 0 = 110 ∨ by8 s 0 = 114 ∨ by8 s 0 = 116) :
    Calls Tryd.prog 77 #[.string s, .int .u8 34] w (EscROut s w) := by
  by_cases h0 : s.size = 0
  · have hE := empty_list0 h0
    have hV : EscRV s (0, 0, 0) := .inl ⟨h0, rfl⟩
    go_enter Tryd.func77, Tryd.ntmps77
    go_wp2
    exact bodyPost_ret (res57 _ _ _ _ _ rfl rfl rfl) rfl (escR_mk hV (Below.refl _ _))
  have h0s : 0 < s.size := by omega
  have h0' : (0 : Int) < (s.size : Int) := by omega
  have hE := not_empty0 s h0s
  obtain ⟨b, hb⟩ : ∃ b, (s[0]'h0s).toNat = b := ⟨_, rfl⟩
  have g : by8 s 0 = b := by rw [by8_get s 0 h0s, hb]
  rw [g] at h
  have hV : Hid (∃ v, EscRV s v ∧ (b = 34 → v = (34, 1, 0)) ∧ (b = 92 → v = (92, 1, 0)) ∧ (b = 110 → v = (10, 1, 0)) ∧ (b = 114 → v = (13, 1, 0)) ∧ (b = 116 → v = (9, 1, 0))) := by
    rcases h with h | h | h | h | h | h
    · omega
    · exact ⟨(34, 1, 0), .inr (.inl ⟨h0s, by omega, by rw [g, h]; rfl⟩), by first | (intro _; rfl) | omega, by first | (intro _; rfl) | omega, by first | (intro _; rfl) | omega, by first | (intro _; rfl) | omega, by first | (intro _; rfl) | omega⟩
    · exact ⟨(92, 1, 0), .inr (.inl ⟨h0s, by omega, by rw [g, h]; rfl⟩), by first | (intro _; rfl) | omega, by first | (intro _; rfl) | omega, by first | (intro _; rfl) | omega, by first | (intro _; rfl) | omega, by first | (intro _; rfl) | omega⟩
    · exact ⟨(10, 1, 0), .inr (.inr (.inl ⟨h0s, by omega, rfl⟩)), by first | (intro _; rfl) | omega, by first | (intro _; rfl) | omega, by first | (intro _; rfl) | omega, by first | (intro _; rfl) | omega, by first | (intro _; rfl) | omega⟩
    · exact ⟨(13, 1, 0), .inr (.inr (.inr (.inl ⟨h0s, by omega, rfl⟩))), by first | (intro _; rfl) | omega, by first | (intro _; rfl) | omega, by first | (intro _; rfl) | omega, by first | (intro _; rfl) | omega, by first | (intro _; rfl) | omega⟩
    · exact ⟨(9, 1, 0), .inr (.inr (.inr (.inr (.inl ⟨h0s, by omega, rfl⟩)))), by first | (intro _; rfl) | omega, by first | (intro _; rfl) | omega, by first | (intro _; rfl) | omega, by first | (intro _; rfl) | omega, by first | (intro _; rfl) | omega⟩
  clear g
  rcases h with h | h | h | h | h | h
  · omega
  all_goals (
    subst h
    obtain ⟨v, hv, e1, e2, e3, e4, e5⟩ := hV.out
    first | (obtain rfl := e1 rfl) | (obtain rfl := e2 rfl) | (obtain rfl := e3 rfl) | (obtain rfl := e4 rfl) | (obtain rfl := e5 rfl)
    clear e1 e2 e3 e4 e5 hV
    go_enter Tryd.func77, Tryd.ntmps77
    go_wp2
    exact bodyPost_ret (res57 _ _ _ _ _ rfl rfl rfl) rfl (escR_mk hv (Below.refl _ _)))
end Go.Proofs.YtepkanibcljdkaaDoor.Q

namespace Go.Proofs.YtepkanibcljdkaaDoor.Q
open Go.RowKit
set_option linter.unusedVariables false
set_option linter.unusedSimpArgs false
set_option maxRecDepth 100000 in
set_option maxHeartbeats 4000000 in
theorem rescape_many (s : ByteArray) (w : World) (hs : s.size ≤ 140737488355328) (h0s : 0 < s.size) (hn : by8 s 0 ≠ 34 ∧ by8 s 0 ≠ 92 ∧ by8 s 0 ≠ 110 ∧ by8 s 0 ≠ 114 ∧ by8 s 0 ≠ 116) :
    Calls Tryd.prog 77 #[.string s, .int .u8 34] w (EscROut s w) := by
  have HN : Hid (by8 s 0 ≠ 34 ∧ by8 s 0 ≠ 92 ∧ by8 s 0 ≠ 110 ∧ by8 s 0 ≠ 114 ∧ by8 s 0 ≠ 116) := hn
  have h0' : (0 : Int) < (s.size : Int) := by omega
  have hE := not_empty0 s h0s
  obtain ⟨b, hb⟩ : ∃ b, (s[0]'h0s).toNat = b := ⟨_, rfl⟩
  have g : by8 s 0 = b := by rw [by8_get s 0 h0s, hb]
  rw [g] at hn
  have i1 : ((b : Int) == 34) = false := beq_eq_false_iff_ne.2 (by omega)
  have i2 : ((b : Int) == 92) = false := beq_eq_false_iff_ne.2 (by omega)
  have i3 : ((b : Int) == 110) = false := beq_eq_false_iff_ne.2 (by omega)
  have i4 : ((b : Int) == 114) = false := beq_eq_false_iff_ne.2 (by omega)
  have i5 : ((b : Int) == 116) = false := beq_eq_false_iff_ne.2 (by omega)
  clear g hn
  go_enter Tryd.func77, Tryd.ntmps77
  go_wp2
  go_loopw [7, 8] (fun x y wr => ∃ best c : Nat, x = .int .i64 best ∧ y = .int .i64 c ∧ c ≤ 128 ∧ best ≤ 5 ∧ Hid (Below w.heap.size w wr) ∧ Hid (BestP s c best)) (fun _ y _ => 128 - (intOf y).toNat)
  case atStart => exact ⟨0, 0, rfl, rfl, by omega, by omega, Below.refl _ _, ⟨fun d hd => by omega, .inl rfl⟩⟩
  case round =>
    obtain ⟨best, c, rfl, rfl, hc, hb5, bel, hB⟩ := hrel
    clear i1 i2 i3 i4 i5 hb hE
    by_cases h1 : c < 128
    · have h1' : (c : Int) < 128 := by omega
      by_cases hel : Elig c
      · have HEL : Hid (Elig c) := hel
        have hcase : (c < 32 ∧ c ≠ 10 ∧ c ≠ 13 ∧ c ≠ 9) ∨ c = 127 := by unfold Elig at hel; omega
        have C0 : (UInt8.ofNat c).toNat = c := by rw [UInt8.toNat_ofNat']; omega
        have wr8 : IntKind.u8.wrap (c : Int) = (c : Int) := by rw [IntKind.wrap_u8]; omega
        have HH : Hid (Calls Tryd.prog 48 #[.slice (some ⟨wr.heap.size, 0, none⟩) 1 1] (wr.alloc (.cells #[.int .u8 (c : Int)] 5)) fun e w' => e = .returned (.string ⟨#[hx ((c : Int) / 16), hx ((c : Int) % 16)]⟩) ∧ Below (wr.alloc (.cells #[.int .u8 (c : Int)] 5)).heap.size (wr.alloc (.cells #[.int .u8 (c : Int)] 5)) w') := by
          have h := hex_one wr.heap.size (UInt8.ofNat c) (wr.alloc (.cells #[.int .u8 (c : Int)] 5)) (c : Int) (by rw [C0]) (heap_alloc_new _ _)
          rw [C0] at h
          exact h
        have hW : { data := #[117, 48, 48] } ++ (⟨#[hx ((c : Int) / 16), hx ((c : Int) % 16)]⟩ : ByteArray) = wdC c := rfl
        have zW := wdC_size c
        have hM0 : Hid (∀ k, MQ s (wdC c) k → k < 5 → BestP s (c + 1) (if best < k then k else best)) := fun k hk hk5 => by
          refine ⟨fun d hd he => ?_, ?_⟩
          · rcases Nat.lt_or_ge d c with h | h
            · obtain ⟨m, a, b, e⟩ := hB.out.all d h he
              refine ⟨m, a, b, ?_⟩
              split <;> omega
            · have : d = c := by omega
              subst this
              refine ⟨k, hk, hk5, ?_⟩
              split <;> omega
          · split
            · exact .inr ⟨c, by omega, hel, hk⟩
            · rcases hB.out.some with h | ⟨d, hd, he, hm⟩
              · exact .inl h
              · exact .inr ⟨d, by omega, he, hm⟩
        have hM5 : Hid (MQ s (wdC c) 5 → EscRV s ((c : Int), 5, 0)) := fun h => .inr (.inr (.inr (.inr (.inr ⟨h0s, HN.out, .inl ⟨c, h1, hel, h, rfl⟩⟩))))
        have bA : Hid (Below w.heap.size w (wr.alloc (.cells #[.int .u8 (c : Int)] 5))) := bel.out.alloc bel.out.size _
        clear hB hel C0
        generalize wdC c = W at *
        have HW : Hid (wdC c = W ∨ True) := .inr trivial
        have k2 : ((c : Int) == 10) = false := beq_eq_false_iff_ne.2 (by omega)
        have k3 : ((c : Int) == 13) = false := beq_eq_false_iff_ne.2 (by omega)
        have k4 : ((c : Int) == 9) = false := beq_eq_false_iff_ne.2 (by omega)
        have zWi : (W.size : Int) = 5 := by rw [zW]; rfl
        have ZW : Hid (W.size = 5) := zW
        clear zW HW
        have hcase' : ((c : Int) < 32) ∨ ((32 : Int) ≤ (c : Int) ∧ ((c : Int) != 127) = false) := by
          rcases hcase with h | h
          · exact .inl (by omega)
          · exact .inr ⟨by omega, by rw [h]; rfl⟩
        clear hcase
        rcases hcase' with k1 | ⟨k1, k5⟩
        all_goals (
          go_wp2_with fail
          refine HH.out.mono ?_
          rintro e w2 ⟨rfl, b2⟩
          have B2 : Hid (Below w.heap.size w w2) := bA.out.trans (b2.mono bA.out.size)
          clear b2 HH bA bel
          go_wp2
          clear k1 k2 k3 k4
          go_loopw [10] (fun i wq => ∃ k : Nat, i = .int .i64 k ∧ k ≤ 5 ∧ k ≤ s.size ∧ Hid (∀ j, j < k → by8 s j = by8 W j) ∧ Hid (∃ m, wq = w2.drewN m)) (fun i _ => 5 - (intOf i).toNat)
          case atStart => exact ⟨0, rfl, by omega, by omega, fun j hj => by omega, 0, rfl⟩
          case round =>
            obtain ⟨k, rfl, h4, hk, hall, hw⟩ := hrel
            obtain ⟨mm, hw⟩ := hw.out
            have HE : Hid (∀ m2, ∃ m3, wr.drewN m2 = w2.drewN m3) := fun m2 => ⟨mm + m2, by rw [hw, World.drewN_drewN]⟩
            clear hw
            have HBel : Hid (∀ m2, Below w.heap.size w (wr.drewN m2)) := fun m2 => by
              obtain ⟨m3, e3⟩ := HE.out m2
              rw [e3]
              exact below_drewN B2.out m3
            have FIN : Hid (MQ s W k → k < 5 → BestP s (c + 1) (if best < k then k else best)) := hM0.out k
            by_cases h5 : k < 5
            · have h5' : (k : Int) < 5 := by omega
              have h5e : ((k : Int) == 5) = false := beq_eq_false_iff_ne.2 (by omega)
              by_cases h2 : k < s.size
              · have h2' : (k : Int) < (s.size : Int) := by omega
                have hkW : k < W.size := by have := ZW.out; omega
                have g1 := by8_get s k h2
                have g2 := by8_get W k hkW
                by_cases h3 : by8 s k = by8 W k
                · have HA : Hid (∀ j, j < k + 1 → by8 s j = by8 W j) := fun j hj => by
                    rcases Nat.lt_or_ge j k with h | h
                    · exact hall.out j h
                    · have : j = k := by omega
                      subst this; exact h3
                  have hq : (((s[k]'h2).toNat : Int) == ((W[k]'hkW).toNat : Int)) = true := by rw [← g1, ← g2, h3]; simp
                  clear g1 g2 h3 hall
                  go_upto_region 20 with fail
                  go_quiet (fail)
                  go_wp2
                  exact ⟨⟨k + 1, by rw [Int.natCast_add]; rfl, by omega, by omega, HA, HE.out _⟩, by simp [intOf]; omega⟩
                · have hq : (((s[k]'h2).toNat : Int) == ((W[k]'hkW).toNat : Int)) = false := by rw [← g1, ← g2]; exact beq_eq_false_iff_ne.2 (by omega)
                  have hBB := FIN.out ⟨by have := ZW.out; omega, hk, hall.out, fun _ _ => h3⟩ h5
                  clear g1 g2 h3 hall
                  by_cases hlt : best < k
                  · have hlt' : (best : Int) < (k : Int) := by omega
                    rw [if_pos hlt] at hBB
                    have HBB : Hid (BestP s (c + 1) k) := hBB
                    clear hBB FIN hM0 hM5 hlt
                    go_upto_region 20 with fail
                    go_quiet (fail)
                    go_wp2
                    go_roundw
                    case rel => exact ⟨k, c + 1, rfl, by go_num, by omega, by omega, HBel.out nq, HBB⟩
                    case measure => simp [intOf]; omega
                  · have hlt' : ¬ (best : Int) < (k : Int) := by omega
                    rw [if_neg hlt] at hBB
                    have HBB : Hid (BestP s (c + 1) best) := hBB
                    clear hBB FIN hM0 hM5 hlt
                    go_upto_region 20 with fail
                    go_quiet (fail)
                    go_wp2
                    go_roundw
                    case rel => exact ⟨best, c + 1, rfl, by go_num, by omega, by omega, HBel.out nq, HBB⟩
                    case measure => simp [intOf]; omega
              · have h2' : ¬ (k : Int) < (s.size : Int) := by omega
                have hBB := FIN.out ⟨by have := ZW.out; omega, hk, hall.out, fun _ h => absurd h h2⟩ h5
                clear hall
                by_cases hlt : best < k
                · have hlt' : (best : Int) < (k : Int) := by omega
                  rw [if_pos hlt] at hBB
                  have HBB : Hid (BestP s (c + 1) k) := hBB
                  clear hBB FIN hM0 hM5 hlt
                  go_upto_region 20 with fail
                  go_quiet (fail)
                  go_wp2
                  go_roundw
                  case rel => exact ⟨k, c + 1, rfl, by go_num, by omega, by omega, HBel.out nq, HBB⟩
                  case measure => simp [intOf]; omega
                · have hlt' : ¬ (best : Int) < (k : Int) := by omega
                  rw [if_neg hlt] at hBB
                  have HBB : Hid (BestP s (c + 1) best) := hBB
                  clear hBB FIN hM0 hM5 hlt
                  go_upto_region 20 with fail
                  go_quiet (fail)
                  go_wp2
                  go_roundw
                  case rel => exact ⟨best, c + 1, rfl, by go_num, by omega, by omega, HBel.out nq, HBB⟩
                  case measure => simp [intOf]; omega
            · obtain rfl : k = 5 := by omega
              have hV := hM5.out ⟨by have := ZW.out; omega, hk, hall.out, fun h => absurd h (by have := ZW.out; omega)⟩
              clear hall FIN hM0 hM5
              go_upto_region 20 with fail
              go_quiet (fail)
              go_wp2
              exact bodyPost_ret (res57 _ _ _ _ _ rfl rfl rfl) rfl (escR_mk hV (HBel.out nq)))
      · have HB : Hid (BestP s (c + 1) best) := by
          refine ⟨fun d hd he => ?_, ?_⟩
          · rcases Nat.lt_or_ge d c with h | h
            · exact hB.out.all d h he
            · have : d = c := by omega
              subst this
              exact absurd he hel
          · rcases hB.out.some with h | ⟨d, hd, he, hm⟩
            · exact .inl h
            · exact .inr ⟨d, by omega, he, hm⟩
        have hcase : (32 ≤ c ∧ c ≠ 127) ∨ c = 10 ∨ c = 13 ∨ c = 9 := by unfold Elig at hel; omega
        clear hel hB
        rcases hcase with ⟨a1, a2⟩ | rfl | rfl | rfl
        · have a1' : (32 : Int) ≤ (c : Int) := by omega
          have a2' : ((c : Int) != 127) = true := bne_iff_ne.2 (by omega)
          go_wp2
          go_roundw
          case rel => exact ⟨best, c + 1, rfl, by go_num, by omega, by omega, bel, HB⟩
          case measure => simp [intOf]; omega
        all_goals (
          go_wp2
          go_roundw
          case rel => exact ⟨best, _, rfl, by rfl, by omega, by omega, bel, HB⟩
          case measure => simp [intOf])
    · obtain rfl : c = 128 := by omega
      have hV : EscRV s (0, 0, (best : Int)) := .inr (.inr (.inr (.inr (.inr ⟨h0s, HN.out, .inr ⟨best, hB.out, rfl⟩⟩))))
      clear hB
      go_wp2
      exact bodyPost_ret (res57 _ _ _ _ _ rfl rfl rfl) rfl (escR_mk hV bel.out)
end Go.Proofs.YtepkanibcljdkaaDoor.Q

namespace Go.Proofs.YtepkanibcljdkaaDoor.Q
open Go.RowKit
set_option linter.unusedVariables false
set_option linter.unusedSimpArgs false

/-- A text and c bytes x behind it. -/
def padB (t : ByteArray) (x : UInt8) : Nat → ByteArray
  | 0 => t
  | k + 1 => padB t x k ++ ⟨#[x]⟩
theorem padB_list (t : ByteArray) (x : UInt8) (k : Nat) : (padB t x k).data.toList = t.data.toList ++ List.replicate k x := by
  induction k with
  | zero => simp [padB]
  | succ k ih =>
    rw [padB, ByteArray.data_append, Array.toList_append, ih, List.replicate_succ']
    simp
theorem padB_size (t : ByteArray) (x : UInt8) (k : Nat) : (padB t x k).size = t.size + k := by
  have h := congrArg List.length (padB_list t x k)
  simpa using h
def fullOk (t : ByteArray) (c : Nat) : Bool := decide (wideN (padB t 128 c) = t.size + c) || decide (wideN (padB t 191 c) = t.size + c)
/-- n bytes and one more may begin a character. -/
def OkAt (s : ByteArray) (n : Nat) : Prop := ∃ c, c < 4 ∧ fullOk (s.extract 0 (n + 1)) c = true
structure GoP (s : ByteArray) (n : Nat) : Prop where
  le : n ≤ s.size
  le4 : n ≤ 4
  ok : ∀ j, j < n → OkAt s j
  no : ∀ j, 1 ≤ j → j < n → wideN (s.extract 0 j) ≠ j
  fin : (n < s.size ∧ n < 4 ∧ ¬ OkAt s n) ∨ (1 ≤ n ∧ wideN (s.extract 0 n) = n) ∨ n = s.size ∨ n = 4
set_option maxRecDepth 100000 in
set_option maxHeartbeats 4000000 in
theorem goes_any (s : ByteArray) (w : World) (hs : s.size ≤ 140737488355328) :
    Calls Tryd.prog 78 #[.string s] w fun e w' => (∃ n : Nat, GoP s n ∧ e = .returned (.int .i64 n)) ∧ w' = w := by
  go_enter Tryd.func78, Tryd.ntmps78
  go_wp2
  go_loopw [3] (fun i wr => ∃ n : Nat, i = .int .i64 n ∧ n ≤ 4 ∧ n ≤ s.size ∧ wr = w ∧ Hid (∀ j, j < n → OkAt s j) ∧ Hid (∀ j, 1 ≤ j → j ≤ n → wideN (s.extract 0 j) ≠ j)) (fun i _ => 4 - (intOf i).toNat)
  case atStart => exact ⟨0, rfl, by omega, by omega, rfl, fun j hj => by omega, fun j h1 h2 => by omega⟩
  case round =>
    obtain ⟨n, rfl, h4, hn, rfl, hok, hno⟩ := hrel
    by_cases h1 : n < s.size
    · have h1' : (n : Int) < (s.size : Int) := by omega
      by_cases h2 : n < 4
      · have h2' : (n : Int) < 4 := by omega
        obtain ⟨t, ht⟩ : ∃ t, s.extract 0 (n + 1) = t := ⟨_, rfl⟩
        have zt : t.size = n + 1 := by rw [← ht, ByteArray.size_extract]; omega
        have HT : Hid (s.extract 0 (n + 1) = t) := ht
        have ZT : Hid (t.size = n + 1) := zt
        have l1 : (n : Int) + 1 ≤ (s.size : Int) := by omega
        have e1 : ((n : Int) + 1).toNat = n + 1 := by omega
        have HS : Hid (s.size ≤ 140737488355328) := hs
        clear zt
        go_wp2
        go_loopw [4, 5] (fun x y wq => ∃ (ok : Bool) (c : Nat), x = .bool ok ∧ y = .int .i64 c ∧ c ≤ 4 ∧ wq = wr ∧ Hid (ok = true ↔ ∃ d, d < c ∧ fullOk t d = true)) (fun _ y _ => 4 - (intOf y).toNat)
        case atStart => exact ⟨false, 0, rfl, rfl, by omega, rfl, ⟨(fun h => (by cases h)), (fun ⟨d, hd, _⟩ => (by omega))⟩⟩
        case round =>
          obtain ⟨ok, c, rfl, rfl, hc4, rfl, hiff⟩ := hrel
          cases ok with
          | false =>
            by_cases hc : c < 4
            · have hc' : (c : Int) < 4 := by omega
              have hnone : Hid (∀ d, d < c → fullOk t d = false) := fun d hd => by
                cases hq : fullOk t d with
                | false => rfl
                | true => exact absurd (hiff.out.2 ⟨d, hd, hq⟩) (by decide)
              have NX : Hid (∀ b, fullOk t c = b → (b = true ↔ ∃ d, d < c + 1 ∧ fullOk t d = true)) := fun b hb => by
                constructor
                · intro e
                  exact ⟨c, by omega, by rw [hb, e]⟩
                · rintro ⟨d, hd, hq⟩
                  rcases Nat.lt_or_ge d c with h | h
                  · rw [hnone.out d h] at hq; cases hq
                  · have : d = c := by omega
                    subst this
                    rw [← hb, hq]
              clear hiff hnone
              go_wp2
              go_loopw [6, 7] (fun f i wq => ∃ k : Nat, f = .string (padB t 128 k) ∧ i = .int .i64 k ∧ k ≤ c ∧ wq = wr) (fun _ i _ => c - (intOf i).toNat)
              case atStart => exact ⟨0, rfl, rfl, by omega, rfl⟩
              case round =>
                obtain ⟨k, rfl, rfl, hk, rfl⟩ := hrel
                by_cases hkc : k < c
                · have hkc' : (k : Int) < (c : Int) := by omega
                  have ha : padB t 128 k ++ ⟨#[128]⟩ = padB t 128 (k + 1) := rfl
                  have hz : ¬ 9223372036854775807 < (padB t 128 k).size + 1 := by rw [padB_size, ZT.out]; omega
                  go_wp2
                  go_roundw
                  case rel => exact ⟨k + 1, rfl, by go_num, by omega, by trivial⟩
                  case measure => simp [intOf]; omega
                · obtain rfl : k = c := by omega
                  have hkc' : ¬ (k : Int) < (k : Int) := by omega
                  go_wp2
                  go_loopw [8, 9] (fun f i wq => ∃ j : Nat, f = .string (padB t 191 j) ∧ i = .int .i64 j ∧ j ≤ k ∧ wq = wr) (fun _ i _ => k - (intOf i).toNat)
                  case atStart => exact ⟨0, rfl, rfl, by omega, rfl⟩
                  case round =>
                    obtain ⟨j, rfl, rfl, hj, rfl⟩ := hrel
                    by_cases hjc : j < k
                    · have hjc' : (j : Int) < (k : Int) := by omega
                      have ha : padB t 191 j ++ ⟨#[191]⟩ = padB t 191 (j + 1) := rfl
                      have hz : ¬ 9223372036854775807 < (padB t 191 j).size + 1 := by rw [padB_size, ZT.out]; omega
                      go_wp2
                      go_roundw
                      case rel => exact ⟨j + 1, rfl, by go_num, by omega, by trivial⟩
                      case measure => simp [intOf]; omega
                    · obtain rfl : j = k := by omega
                      have hjc' : ¬ (j : Int) < (j : Int) := by omega
                      have z1 := padB_size t 128 j
                      have z2 := padB_size t 191 j
                      have W1 := fun wx => wide_any (padB t 128 j) wx (by have := ZT.out; omega)
                      have W2 := fun wx => wide_any (padB t 191 j) wx (by have := ZT.out; omega)
                      have FO : Hid (fullOk t j = (decide (wideN (padB t 128 j) = t.size + j) || decide (wideN (padB t 191 j) = t.size + j))) := rfl
                      rw [← z1] at FO
                      have z12 : (padB t 128 j).size = (padB t 191 j).size := by rw [z1, z2]
                      generalize padB t 128 j = P1 at *
                      generalize padB t 191 j = P2 at *
                      generalize wideN P1 = a1 at *
                      generalize wideN P2 = a2 at *
                      have Z12 : Hid (P1.size = P2.size) := z12
                      clear z1 z2 z12
                      by_cases q1 : a1 = P1.size
                      · have c1 : ((a1 : Int) == (P1.size : Int)) = true := beq_iff_eq.2 (by omega)
                        have NX2 := NX.out true (by rw [FO.out, decide_eq_true q1]; rfl)
                        have HNX : Hid (∃ d, d < j + 1 ∧ fullOk t d = true) := NX2.1 rfl
                        clear NX NX2 FO q1
                        go_wp2_with fail
                        refine (W1 _).mono ?_
                        rintro e wx ⟨rfl, rfl⟩
                        go_wp2
                        go_roundw
                        case rel => exact ⟨true, j + 1, rfl, by go_num, by omega, by trivial, ⟨fun _ => HNX.out, fun _ => rfl⟩⟩
                        case measure => simp [intOf]; omega
                      · have c1 : ((a1 : Int) == (P1.size : Int)) = false := beq_eq_false_iff_ne.2 (by omega)
                        by_cases q2 : a2 = P2.size
                        · have c2 : ((a2 : Int) == (P2.size : Int)) = true := beq_iff_eq.2 (by omega)
                          have NX2 := NX.out true (by rw [FO.out, decide_eq_false q1, Z12.out, decide_eq_true q2]; rfl)
                          have HNX : Hid (∃ d, d < j + 1 ∧ fullOk t d = true) := NX2.1 rfl
                          clear NX NX2 FO q1 q2
                          go_wp2_with fail
                          refine (W1 _).mono ?_
                          rintro e wx ⟨rfl, rfl⟩
                          go_wp2_with fail
                          refine (W2 _).mono ?_
                          rintro e wx ⟨rfl, rfl⟩
                          go_wp2
                          go_roundw
                          case rel => exact ⟨true, j + 1, rfl, by go_num, by omega, by trivial, ⟨fun _ => HNX.out, fun _ => rfl⟩⟩
                          case measure => simp [intOf]; omega
                        · have c2 : ((a2 : Int) == (P2.size : Int)) = false := beq_eq_false_iff_ne.2 (by omega)
                          have NX2 := NX.out false (by rw [FO.out, decide_eq_false q1, Z12.out, decide_eq_false q2]; rfl)
                          have HNX : Hid (false = true ↔ ∃ d, d < j + 1 ∧ fullOk t d = true) := NX2
                          clear NX NX2 FO q1 q2
                          go_wp2_with fail
                          refine (W1 _).mono ?_
                          rintro e wx ⟨rfl, rfl⟩
                          go_wp2_with fail
                          refine (W2 _).mono ?_
                          rintro e wx ⟨rfl, rfl⟩
                          go_wp2
                          go_roundw
                          case rel => exact ⟨false, j + 1, rfl, by go_num, by omega, by trivial, HNX⟩
                          case measure => simp [intOf]; omega
            · obtain rfl : c = 4 := by omega
              have hN : GoP s n := ⟨hn, h4, hok.out, fun j a b => hno.out j a (by omega), .inl ⟨h1, h2, by
                rintro ⟨d, hd, hq⟩
                rw [HT.out] at hq
                exact absurd (hiff.out.2 ⟨d, hd, hq⟩) (by decide)⟩⟩
              clear hiff hok hno
              go_wp2
              go_ret
              exact ⟨⟨n, hN, rfl⟩, rfl⟩
          | true =>
            have hOK : Hid (∀ j, j < n + 1 → OkAt s j) := fun j hj => by
              rcases Nat.lt_or_ge j n with h | h
              · exact hok.out j h
              · have : j = n := by omega
                subst this
                obtain ⟨d, hd, hq⟩ := hiff.out.1 rfl
                exact ⟨d, by omega, by rw [HT.out]; exact hq⟩
            have W1 := fun wx => wide_any t wx (by have := ZT.out; omega)
            have HW : Hid (wideN (s.extract 0 (n + 1)) = wideN t) := by show _ = _; rw [HT.out]
            generalize wideN t = a1 at *
            by_cases q1 : a1 = n + 1
            · have c1 : ((a1 : Int) == (n : Int) + 1) = true := beq_iff_eq.2 (by omega)
              have hN : GoP s (n + 1) := ⟨by omega, by omega, hOK.out, fun j a b => hno.out j a (by omega), .inr (.inl ⟨by omega, by rw [HW.out, q1]⟩)⟩
              clear hiff hok hno hOK q1
              by_cases hc : c < 4
              · have hc' : (c : Int) < 4 := by omega
                go_wp2_with fail
                refine (W1 _).mono ?_
                rintro e wx ⟨rfl, rfl⟩
                go_wp2
                go_ret
                exact ⟨⟨n + 1, hN, by go_num⟩, rfl⟩
              · have hc' : ¬ (c : Int) < 4 := by omega
                go_wp2_with fail
                refine (W1 _).mono ?_
                rintro e wx ⟨rfl, rfl⟩
                go_wp2
                go_ret
                exact ⟨⟨n + 1, hN, by go_num⟩, rfl⟩
            · have c1 : ((a1 : Int) == (n : Int) + 1) = false := beq_eq_false_iff_ne.2 (by omega)
              have hNO : Hid (∀ j, 1 ≤ j → j ≤ n + 1 → wideN (s.extract 0 j) ≠ j) := fun j a b => by
                rcases Nat.lt_or_ge n j with h | h
                · have : j = n + 1 := by omega
                  subst this
                  rw [HW.out]
                  exact q1
                · exact hno.out j a h
              clear hiff hok hno q1
              by_cases hc : c < 4
              · have hc' : (c : Int) < 4 := by omega
                go_wp2_with fail
                refine (W1 _).mono ?_
                rintro e wx ⟨rfl, rfl⟩
                go_wp2
                go_roundw
                case rel => exact ⟨n + 1, by go_num, by omega, by omega, by trivial, hOK, hNO⟩
                case measure => simp [intOf]; omega
              · have hc' : ¬ (c : Int) < 4 := by omega
                go_wp2_with fail
                refine (W1 _).mono ?_
                rintro e wx ⟨rfl, rfl⟩
                go_wp2
                go_roundw
                case rel => exact ⟨n + 1, by go_num, by omega, by omega, by trivial, hOK, hNO⟩
                case measure => simp [intOf]; omega
      · obtain rfl : n = 4 := by omega
        have hN : GoP s 4 := ⟨hn, h4, hok.out, fun j a b => hno.out j a (by omega), .inr (.inr (.inr rfl))⟩
        clear hok hno
        go_wp2
        go_ret
        exact ⟨⟨4, hN, rfl⟩, rfl⟩
    · have h1' : ¬ (n : Int) < (s.size : Int) := by omega
      have hN : GoP s n := ⟨hn, h4, hok.out, fun j a b => hno.out j a (by omega), .inr (.inr (.inl (by omega)))⟩
      clear hok hno
      go_wp2
      go_ret
      exact ⟨⟨n, hN, rfl⟩, rfl⟩
end Go.Proofs.YtepkanibcljdkaaDoor.Q

