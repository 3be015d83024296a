import Derived.Test.YthffcdahjcpdfaaGreatDoorGPb
import Derived.Laws.Externs
import Derived.Lib.Bytealg
import Derived.Deep.QuietTactic
import Derived.BigQuiet
import Derived.Deep.Cut
import Derived.Ground.NamesProg
import Derived.Shelf.Utf8.AppendRunePlain
namespace Go.Proofs.YthffcdahjcpdfaaGreatDoor.Q
open Go.RowKit
set_option linter.unusedVariables false
set_option linter.unusedSimpArgs false

/-- The number of a digit; -1: it is none. -/
def ixD (c : Nat) : Int := if 48 ≤ c ∧ c ≤ 57 then (c : Int) - 48 else if 97 ≤ c ∧ c ≤ 102 then (c : Int) - 87 else -1
def digL : List UInt8 := [48, 49, 50, 51, 52, 53, 54, 55, 56, 57, 97, 98, 99, 100, 101, 102]
theorem find_ix : ∀ x : Fin 256, Lib.indexByte digL (UInt8.ofNat x.val) = ixD x.val := by decide +kernel
theorem ix72 (c : Nat) (w : World) (hc : c < 256) : (callFunc 89 #[.string { data := #[48, 49, 50, 51, 52, 53, 54, 55, 56, 57, 97, 98, 99, 100, 101, 102] }, .int .u8 (c : Int)]).run Tryz.prog w = .ok (.value (.int .i64 (ixD c))) w := by
  rw [run_callFunc_extern Tryz.func89 (by kernel_rfl) (by kernel_rfl) (by kernel_rfl) (e := Extern.BytealgIndexByte.indexByte) (by kernel_rfl), Lib.run_indexByteString]
  have h := find_ix ⟨c, hc⟩
  simp only [] at h
  rw [← h]
  rfl
set_option maxRecDepth 100000 in
set_option maxHeartbeats 400000 in
theorem ix71 (c : Nat) (w : World) (hc : c < 256) :
    Calls Tryz.prog 88 #[.string { data := #[48, 49, 50, 51, 52, 53, 54, 55, 56, 57, 97, 98, 99, 100, 101, 102] }, .int .u8 (c : Int)] w fun e w' => e = .returned (.int .i64 (ixD c)) ∧ w' = w := by
  have h := ix72 c w hc
  go_enter Tryz.func88, Tryz.ntmps88
  go_wp2
  go_ret
  exact ⟨rfl, rfl⟩
set_option maxRecDepth 100000 in
set_option maxHeartbeats 400000 in
theorem ix69 (c : Nat) (w : World) (hc : c < 256) :
    Calls Tryz.prog 87 #[.string { data := #[48, 49, 50, 51, 52, 53, 54, 55, 56, 57, 97, 98, 99, 100, 101, 102] }, .int .u8 (c : Int)] w fun e w' => e = .returned (.int .i64 (ixD c)) ∧ w' = w := by
  have h := ix71 c w hc
  go_enter Tryz.func87, Tryz.ntmps87
  go_wp2_with fail
  refine h.mono ?_
  rintro e _ ⟨rfl, rfl⟩
  go_wp2
  go_ret
  exact ⟨rfl, rfl⟩
end Go.Proofs.YthffcdahjcpdfaaGreatDoor.Q

namespace Go.Proofs.YthffcdahjcpdfaaGreatDoor.Q
open Go.RowKit
set_option linter.unusedVariables false
set_option linter.unusedSimpArgs false

def codeB (j : Nat) : Nat := by8 { data := #[92, 117, 48, 48] } j
/-- k bytes of a text stand as in \u00, and the next one does not. -/
structure MP (s : ByteArray) (k : Nat) : Prop where
  le4 : k ≤ 4
  le : k ≤ s.size
  all : ∀ j, j < k → by8 s j = codeB j
  stop : k < 4 → k < s.size → by8 s k ≠ codeB k
/-- What coded tells, where k bytes stand so. -/
def codedV (s : ByteArray) (k : Nat) : Int × Int × Bool :=
  if k < 4 ∨ k = s.size then (0, k, false)
  else if ¬ (ixD (by8 s 4) = 0 ∨ ixD (by8 s 4) = 1 ∨ ixD (by8 s 4) = 7) then (0, 4, false)
  else if s.size = 5 then (0, 5, false)
  else if ixD (by8 s 5) < 0 ∨ hidB (ixD (by8 s 4) * 16 + ixD (by8 s 5)) = false ∨ signN (ixD (by8 s 4) * 16 + ixD (by8 s 5)) ≠ 0 then (0, 5, false)
  else (ixD (by8 s 4) * 16 + ixD (by8 s 5), 6, true)
def CodedOut (s : ByteArray) (w : World) (e : Ending) (w' : World) : Prop := (∃ k, MP s k ∧ e = .returned (.tuple #[.int .i32 (codedV s k).1, .int .i64 (codedV s k).2.1, .bool (codedV s k).2.2])) ∧ ∃ m, w' = w.drewN m
theorem coded_mk {s : ByteArray} {w w' : World} {k m : Nat} {a b : Int} {c : Bool} (h : MP s k) (hv : codedV s k = (a, b, c)) (hw : w' = w.drewN m) : CodedOut s w (.returned (.tuple #[.int .i32 a, .int .i64 b, .bool c])) w' :=
  ⟨⟨k, h, by rw [hv]⟩, m, hw⟩
theorem res65 (tmps : Array Value) (w : World) (a b c : Value) (h1 : tmps.getD 2 undef = a) (h2 : tmps.getD 3 undef = b) (h3 : tmps.getD 4 undef = c) : (results Tryz.f82 tmps).run Tryz.prog w = .ok (.tuple #[a, b, c]) w := by
  subst h1 h2 h3
  simp [results, Tryz.results82]
theorem by8_get (s : ByteArray) (k : Nat) (h : k < s.size) : by8 s k = (s[k]'h).toNat := by
  unfold by8
  have hd : s.data.toList[k]? = some (s[k]'h) := by simp [h]; rfl
  rw [List.getD_eq_getElem?_getD, hd]
  rfl
theorem ixD_bd (c : Nat) : -1 ≤ ixD c ∧ ixD c ≤ 15 := by
  unfold ixD
  split
  · omega
  · split
    · omega
    · omega
theorem or_low0 : ∀ d : Fin 16, bits .or .i32 0 (d.val : Int) = (d.val : Int) := by decide +kernel
theorem or_low1 : ∀ d : Fin 16, bits .or .i32 16 (d.val : Int) = 16 + (d.val : Int) := by decide +kernel
theorem or_low7 : ∀ d : Fin 16, bits .or .i32 112 (d.val : Int) = 112 + (d.val : Int) := by decide +kernel
theorem or_low {h d : Int} (hh : h = 0 ∨ h = 1 ∨ h = 7) (h0 : 0 ≤ d) (h1 : d ≤ 15) : bits .or .i32 (h * 16) d = h * 16 + d := by
  obtain ⟨n, rfl⟩ := Int.eq_ofNat_of_zero_le h0
  have hn : n < 16 := by omega
  rcases hh with rfl | rfl | rfl
  · simpa using or_low0 ⟨n, hn⟩
  · simpa using or_low1 ⟨n, hn⟩
  · simpa using or_low7 ⟨n, hn⟩
theorem code_size : ({ data := #[92, 117, 48, 48] } : ByteArray).size = 4 := rfl
set_option maxRecDepth 100000 in
set_option maxHeartbeats 4000000 in
theorem coded_any (s : ByteArray) (w : World) (hs : s.size ≤ 140737488355328) :
    Calls Tryz.prog 82 #[.string s] w (CodedOut s w) := by
  go_enter Tryz.func82, Tryz.ntmps82
  go_wp2
  go_loopw [5] (fun i wr => ∃ k : Nat, i = .int .i64 k ∧ k ≤ 4 ∧ k ≤ s.size ∧ Hid (∀ j, j < k → by8 s j = codeB j) ∧ Hid (∃ m, wr = w.drewN m)) (fun i _ => 4 - (intOf i).toNat)
  case atStart => exact ⟨0, rfl, by omega, by omega, fun j hj => by omega, 0, rfl⟩
  case round =>
    obtain ⟨k, rfl, h4, hk, hall, hw⟩ := hrel
    obtain ⟨mm, hw⟩ := hw.out
    have HE : Hid (∀ m2, ∃ m3, wr.drewN m2 = w.drewN m3) := fun m2 => ⟨mm + m2, by rw [hw, World.drewN_drewN]⟩
    have HE0 : Hid (wr = w.drewN mm) := hw
    clear hw
    by_cases h1 : k < 4
    · have h1' : (k : Int) < 4 := by omega
      by_cases h2 : k < s.size
      · have h2' : (k : Int) < (s.size : Int) := by omega
        have hk4 : k < ({ data := #[92, 117, 48, 48] } : ByteArray).size := by rw [code_size]; exact h1
        have g1 := by8_get s k h2
        have g2 : codeB k = (({ data := #[92, 117, 48, 48] } : ByteArray)[k]'hk4).toNat := by8_get _ k hk4
        by_cases h3 : by8 s k = codeB k
        · have HA : Hid (∀ j, j < k + 1 → by8 s j = codeB j) := fun j hj => by
            rcases Nat.lt_or_ge j k with h | h
            · exact hall.out j h
            · have : j = k := by omega
              subst this; exact h3
          have hq : (((s[k]'h2).toNat : Int) == ((({ data := #[92, 117, 48, 48] } : ByteArray)[k]'hk4).toNat : Int)) = true := by rw [← g1, ← g2, h3]; simp
          clear g1 g2 h3 hall
          go_upto_region 2 with fail
          go_quiet (fail)
          go_wp2
          exact ⟨⟨k + 1, by rw [Int.natCast_add]; rfl, by omega, by omega, HA, HE.out _⟩, by simp [intOf]; omega⟩
        · have hq : (((s[k]'h2).toNat : Int) == ((({ data := #[92, 117, 48, 48] } : ByteArray)[k]'hk4).toNat : Int)) = false := by rw [← g1, ← g2]; exact beq_eq_false_iff_ne.2 (by omega)
          have hM : MP s k := ⟨h4, hk, hall.out, fun _ _ => h3⟩
          have hV : codedV s k = (0, (k : Int), false) := by unfold codedV; rw [if_pos (.inl h1)]
          clear g1 g2 h3 hall
          go_upto_region 2 with fail
          go_quiet (fail)
          go_wp2
          obtain ⟨m3, e3⟩ := HE.out nq
          exact bodyPost_ret (res65 _ _ _ _ _ rfl rfl rfl) rfl (coded_mk hM hV e3)
      · have h2' : ¬ (k : Int) < (s.size : Int) := by omega
        have hM : MP s k := ⟨h4, hk, hall.out, fun _ h => absurd h h2⟩
        have hV : codedV s k = (0, (k : Int), false) := by unfold codedV; rw [if_pos (.inl h1)]
        clear hall
        go_upto_region 2 with fail
        go_quiet (fail)
        go_wp2
        obtain ⟨m3, e3⟩ := HE.out nq
        exact bodyPost_ret (res65 _ _ _ _ _ rfl rfl rfl) rfl (coded_mk hM hV e3)
    · obtain rfl : k = 4 := by omega
      have hM : MP s 4 := ⟨h4, hk, hall.out, fun h => by omega⟩
      clear hall
      by_cases h5 : s.size = 4
      · have hV : codedV s 4 = (0, 4, false) := by unfold codedV; rw [if_pos (.inr h5.symm)]; rfl
        have h5' : ((4 : Int) == (s.size : Int)) = true := by rw [h5]; rfl
        clear h5
        go_upto_region 2 with fail
        go_quiet (fail)
        go_wp2
        obtain ⟨m3, e3⟩ := HE.out nq
        exact bodyPost_ret (res65 _ _ _ _ _ rfl rfl rfl) rfl (coded_mk hM hV e3)
      · have h4s : 4 < s.size := by omega
        have h5' : ((4 : Int) == (s.size : Int)) = false := beq_eq_false_iff_ne.2 (by omega)
        have h4s' : (4 : Int) < (s.size : Int) := by omega
        obtain ⟨b4, hb4⟩ : ∃ b, (s[4]'h4s).toNat = b := ⟨_, rfl⟩
        have l4 : b4 < 256 := by rw [← hb4]; exact (s[4]'h4s).toNat_lt
        have g4 : by8 s 4 = b4 := by rw [by8_get s 4 h4s, hb4]
        obtain ⟨d4, hd4⟩ : ∃ d, ixD b4 = d := ⟨_, rfl⟩
        have bd4 := ixD_bd b4
        rw [hd4] at bd4
        obtain ⟨m4, M4⟩ := bd4
        have C4 := fun w1 => (ix69 b4 w1 l4)
        rw [hd4] at C4
        have D4 : Hid (ixD (by8 s 4) = d4) := by show _ = _; rw [g4, hd4]
        by_cases hh : d4 = 0 ∨ d4 = 1 ∨ d4 = 7
        · by_cases h6 : s.size = 5
          · have hV : codedV s 4 = (0, 5, false) := by
              unfold codedV
              rw [if_neg (by omega), D4.out, if_neg (not_not_intro hh), if_pos h6]
            have h6' : ((5 : Int) == (s.size : Int)) = true := by rw [h6]; rfl
            clear g4 hd4 h6
            rcases hh with rfl | rfl | rfl
            all_goals (
              go_upto_region 2 with fail
              go_quiet (fail)
              go_wp2_with fail
              refine (C4 _).mono ?_
              rintro e _ ⟨rfl, rfl⟩
              go_wp2
              obtain ⟨m3, e3⟩ := HE.out nq
              exact bodyPost_ret (res65 _ _ _ _ _ rfl rfl rfl) rfl (coded_mk hM hV e3))
          · have h5s : 5 < s.size := by omega
            have h6' : ((5 : Int) == (s.size : Int)) = false := beq_eq_false_iff_ne.2 (by omega)
            have h5s' : (5 : Int) < (s.size : Int) := by omega
            obtain ⟨b5, hb5⟩ : ∃ b, (s[5]'h5s).toNat = b := ⟨_, rfl⟩
            have l5 : b5 < 256 := by rw [← hb5]; exact (s[5]'h5s).toNat_lt
            have g5 : by8 s 5 = b5 := by rw [by8_get s 5 h5s, hb5]
            obtain ⟨d5, hd5⟩ : ∃ d, ixD b5 = d := ⟨_, rfl⟩
            have bd5 := ixD_bd b5
            rw [hd5] at bd5
            obtain ⟨m5, M5⟩ := bd5
            have C5 := fun w1 => (ix69 b5 w1 l5)
            rw [hd5] at C5
            have D5 : Hid (ixD (by8 s 5) = d5) := by show _ = _; rw [g5, hd5]
            by_cases hn : d5 < 0
            · have hV : codedV s 4 = (0, 5, false) := by
                unfold codedV
                rw [if_neg (by omega), D4.out, D5.out, if_neg (not_not_intro hh), if_neg h6, if_pos (.inl hn)]
              clear g4 hd4 h6 g5 hd5
              rcases hh with rfl | rfl | rfl
              all_goals (
                go_upto_region 2 with fail
                go_quiet (fail)
                go_wp2_with fail
                refine (C4 _).mono ?_
                rintro e _ ⟨rfl, rfl⟩
                go_wp2_with fail
                refine (C5 _).mono ?_
                rintro e _ ⟨rfl, rfl⟩
                go_wp2
                obtain ⟨m3, e3⟩ := HE.out nq
                exact bodyPost_ret (res65 _ _ _ _ _ rfl rfl rfl) rfl (coded_mk hM hV e3))
            · have hn' : 0 ≤ d5 := by omega
              obtain ⟨c, hc⟩ : ∃ c, d4 * 16 + d5 = c := ⟨_, rfl⟩
              have hO := or_low hh hn' M5
              rw [hc] at hO
              have H49 := hidden_chr c
              have H48 := sign_chr c
              by_cases hB : hidB c = false
              · have hV : codedV s 4 = (0, 5, false) := by
                  unfold codedV
                  rw [if_neg (by omega), D4.out, D5.out, if_neg (not_not_intro hh), if_neg h6, hc, if_pos (.inr (.inl hB))]
                rw [hB] at H49
                clear g4 hd4 h6 g5 hd5 hB H48 hc
                rcases hh with rfl | rfl | rfl
                all_goals (
                  simp only [Int.zero_mul, Int.one_mul, show (7 : Int) * 16 = 112 from rfl] at hO
                  go_upto_region 2 with fail
                  go_quiet (fail)
                  go_wp2_with fail
                  refine (C4 _).mono ?_
                  rintro e _ ⟨rfl, rfl⟩
                  go_wp2_with fail
                  refine (C5 _).mono ?_
                  rintro e _ ⟨rfl, rfl⟩
                  go_wp2_with fail
                  refine (H49 _).mono ?_
                  rintro e _ ⟨rfl, rfl⟩
                  go_wp2
                  obtain ⟨m3, e3⟩ := HE.out nq
                  exact bodyPost_ret (res65 _ _ _ _ _ rfl rfl rfl) rfl (coded_mk hM hV e3))
              · have hB' : hidB c = true := by simpa using hB
                rw [hB'] at H49
                obtain ⟨sg, hsg⟩ : ∃ z, signN c = z := ⟨_, rfl⟩
                rw [hsg] at H48
                by_cases hz : sg = 0
                · subst hz
                  have hV : codedV s 4 = (c, 6, true) := by
                    unfold codedV
                    rw [if_neg (by omega), D4.out, D5.out, if_neg (not_not_intro hh), if_neg h6, hc, if_neg (by rw [hB', hsg]; simp; exact hn')]
                  clear g4 hd4 h6 g5 hd5 hB hB' hsg hc
                  rcases hh with rfl | rfl | rfl
                  all_goals (
                    simp only [Int.zero_mul, Int.one_mul, show (7 : Int) * 16 = 112 from rfl] at hO
                    go_upto_region 2 with fail
                    go_quiet (fail)
                    go_wp2_with fail
                    refine (C4 _).mono ?_
                    rintro e _ ⟨rfl, rfl⟩
                    go_wp2_with fail
                    refine (C5 _).mono ?_
                    rintro e _ ⟨rfl, rfl⟩
                    go_wp2_with fail
                    refine (H49 _).mono ?_
                    rintro e _ ⟨rfl, rfl⟩
                    go_wp2_with fail
                    refine (H48 _).mono ?_
                    rintro e _ ⟨rfl, rfl⟩
                    go_wp2
                    obtain ⟨m3, e3⟩ := HE.out nq
                    exact bodyPost_ret (res65 _ _ _ _ _ rfl rfl rfl) rfl (coded_mk hM hV e3))
                · have hV : codedV s 4 = (0, 5, false) := by
                    unfold codedV
                    rw [if_neg (by omega), D4.out, D5.out, if_neg (not_not_intro hh), if_neg h6, hc, if_pos (.inr (.inr (by rw [hsg]; exact hz)))]
                  have hz' : (sg != 0) = true := bne_iff_ne.2 hz
                  clear g4 hd4 h6 g5 hd5 hB hB' hsg hc
                  rcases hh with rfl | rfl | rfl
                  all_goals (
                    simp only [Int.zero_mul, Int.one_mul, show (7 : Int) * 16 = 112 from rfl] at hO
                    go_upto_region 2 with fail
                    go_quiet (fail)
                    go_wp2_with fail
                    refine (C4 _).mono ?_
                    rintro e _ ⟨rfl, rfl⟩
                    go_wp2_with fail
                    refine (C5 _).mono ?_
                    rintro e _ ⟨rfl, rfl⟩
                    go_wp2_with fail
                    refine (H49 _).mono ?_
                    rintro e _ ⟨rfl, rfl⟩
                    go_wp2_with fail
                    refine (H48 _).mono ?_
                    rintro e _ ⟨rfl, rfl⟩
                    go_wp2
                    obtain ⟨m3, e3⟩ := HE.out nq
                    exact bodyPost_ret (res65 _ _ _ _ _ rfl rfl rfl) rfl (coded_mk hM hV e3))
        · have hV : codedV s 4 = (0, 4, false) := by
            unfold codedV
            rw [if_neg (by omega), D4.out, if_pos hh]
          have n0 : (d4 != 0) = true := bne_iff_ne.2 (by omega)
          have n1 : (d4 != 1) = true := bne_iff_ne.2 (by omega)
          have n7 : (d4 != 7) = true := bne_iff_ne.2 (by omega)
          clear g4 hd4 hh
          go_upto_region 2 with fail
          go_quiet (fail)
          go_wp2_with fail
          refine (C4 _).mono ?_
          rintro e _ ⟨rfl, rfl⟩
          go_wp2
          obtain ⟨m3, e3⟩ := HE.out nq
          exact bodyPost_ret (res65 _ _ _ _ _ rfl rfl rfl) rfl (coded_mk hM hV e3)
end Go.Proofs.YthffcdahjcpdfaaGreatDoor.Q

namespace Go.Proofs.YthffcdahjcpdfaaGreatDoor.Q
open Go.Shelf Go.RowKit
def laysApp_ren : Go.Shelf.Ren := ⟨fun | 242 => 62 | 278 => 71 | n => n, fun | 37 => 66 | 21 => 21 | 51 => 174 | 4 => 4 | 5 => 5 | 46 => 79 | n => n, fun | n => n⟩
theorem laysApp : Lays.n242 Tryz.prog laysApp_ren := {
  mixed := by kernel_rfl
  f242 := Tryz.func62.trans (congrArg some (by kernel_rfl))
  f278 := Tryz.func71.trans (congrArg some (by kernel_rfl))
  t4 := Tryz.underlying4
  a4 := Tryz.isAgg4
  z4 := Tryz.sizeOf4
  v4 := Tryz.zeroValue4
  t5 := Tryz.underlying5
  a5 := Tryz.isAgg5
  z5 := Tryz.sizeOf5
  v5 := Tryz.zeroValue5
  t21 := Tryz.underlying21
  a21 := Tryz.isAgg21
  z21 := Tryz.sizeOf21
  v21 := Tryz.zeroValue21
  t37 := Tryz.underlying66
  a37 := Tryz.isAgg66
  z37 := Tryz.sizeOf66
  v37 := Tryz.zeroValue66
  t46 := Tryz.underlying79
  a46 := Tryz.isAgg79
  z46 := Tryz.sizeOf79
  v46 := Tryz.zeroValue79
  t51 := Tryz.underlying174
  a51 := Tryz.isAgg174
  z51 := Tryz.sizeOf174
  v51 := Tryz.zeroValue174 }

theorem cells_of_rune (r : Int) (h0 : 0 ≤ r) (h1 : r ≤ 1114111) : Lib.runeCells r = byC (Lib.encodeRune r) := by
  unfold Lib.runeCells Lib.encodeRune byC
  rw [List.map_map]
  apply List.map_congr_left
  intro x hx
  have hb : 0 ≤ x ∧ x < 256 := by
    unfold Lib.encodeRuneZ at hx
    split at hx
    · simp at hx; omega
    · split at hx
      · simp at hx; omega
      · split at hx
        · simp at hx; omega
        · split at hx
          · simp at hx; omega
          · simp at hx; omega
  simp only [Function.comp]
  congr 1
  rw [Nat.toUInt8, UInt8.toNat_ofNat']
  omega
theorem own_iter_ne {w : World} {base q : Nat} {v : Value} {L : List UInt8} {s : ByteArray} {p : Nat} (h : OwnB w base v L) (hq : w.heap[q]? = some (.stringIter s p)) : v.ownBlock ≠ some q := by
  intro e
  rcases h.2 with ⟨rfl, _⟩ | ⟨g, cap, cur, rfl, hbg, hg, rest⟩
  · simp [Value.ownBlock] at e
  · simp [Value.ownBlock] at e
    subst e
    rw [hq] at hg
    cases hg
theorem iter_grown {w w' : World} {base q : Nat} {v : Value} {L : List UInt8} {s : ByteArray} {p : Nat} (h : OwnB w base v L) (gr : w.grownBy w' v.ownBlock) (hq : w.heap[q]? = some (.stringIter s p)) : w'.heap[q]? = some (.stringIter s p) :=
  (gr.block q (Array.getElem?_eq_some_iff.1 hq).1 (fun e => own_iter_ne h hq e.symm)).trans hq
theorem iter_alloc {w : World} {q : Nat} {o : Obj} {s : ByteArray} {p : Nat} (hq : w.heap[q]? = some (.stringIter s p)) : (w.alloc o).heap[q]? = some (.stringIter s p) := by
  rw [Below.heap_alloc _ _ _ (Array.getElem?_eq_some_iff.1 hq).1]; exact hq
theorem apprune_any (base : Nat) (v : Value) (L : List UInt8) (r : Int) (w : World) (h0 : 0 ≤ r) (h1 : r ≤ 1114111) (hown : OwnB w base v L) (hlen : L.length + 4 ≤ 140737488355328) (hb : base ≤ w.heap.size) (q : Nat) (s0 : ByteArray) (p0 : Nat) (hq : w.heap[q]? = some (.stringIter s0 p0)) :
    Calls Tryz.prog 62 #[v, .int .i32 r] w fun e w' => ∃ v', e = .returned v' ∧ OwnB w' base v' (L ++ Lib.encodeRune r) ∧ Below base w w' ∧ w'.heap[q]? = some (.stringIter s0 p0) := by
  refine (Any.utf8_AppendRune_plain laysApp Tryz.info5 base v L.length (byC L) r (by omega) (by omega) w hown hlen hb).mono ?_
  rintro e w' ⟨v', he, ho, o, gr⟩
  refine ⟨v', he, ?_, ?_, ?_⟩
  · unfold OwnB
    rw [List.length_append, show byC (L ++ Lib.encodeRune r) = byC L ++ byC (Lib.encodeRune r) by simp [byC], ← cells_of_rune r h0 h1, ← Lib.runeCells_length]
    exact ho
  · exact ((Below.refl base w).alloc hb o).grown gr (by simp; omega) (fun k hk => (World.ownsRow.lt hown k hk).1)
  · exact (gr.block q (by have := (Array.getElem?_eq_some_iff.1 hq).1; simp; omega) (fun e => own_iter_ne hown hq e.symm)).trans (iter_alloc hq)
end Go.Proofs.YthffcdahjcpdfaaGreatDoor.Q

