import Derived.Test.YthffcdahjcpdfaaGreatDoorGPb
import Derived.Test.YthffcdahjcpdfaaGreatDoorGQLv
import Derived.Deep.QuietTactic
import Derived.BigQuiet
import Derived.Deep.Cut
namespace Go.Proofs.YthffcdahjcpdfaaGreatDoor.Q
open Go.RowKit
set_option linter.unusedVariables false
set_option linter.unusedSimpArgs false

/-- Whether n bytes, b0 b1 b2 the first, are a whole character, or can't be one. -/
def fullB (n b0 b1 b2 : Nat) : Bool :=
  if Lib.firstT b0 % 8 ≤ n then true
  else if 1 < n ∧ (b1 < Lib.accLo (Lib.firstT b0 / 16) ∨ Lib.accHi (Lib.firstT b0 / 16) < b1) then true
  else decide (2 < n ∧ (b2 < 128 ∨ 191 < b2))
theorem by8_at (s : ByteArray) (k : Nat) (h : k < s.size) : by8 s k = (s[k]'h).toNat := by
  unfold by8
  have hd : s.data.toList[k]? = some (s[k]'h) := by simp [h]; rfl
  rw [List.getD_eq_getElem?_getD, hd]
  rfl
set_option maxRecDepth 100000 in
set_option maxHeartbeats 1000000 in
theorem full_240 (t : ByteArray) (w : World) (hT : Tabs w) (h0 : 0 < t.size) (hX : Lib.firstT (by8 t 0) = 240) :
    Calls Tryz.prog 83 #[.string t] w fun e w' => e = .returned (.bool (fullB t.size (by8 t 0) (by8 t 1) (by8 t 2))) ∧ Below w.heap.size w w' := by
  have e : fullB t.size (by8 t 0) (by8 t 1) (by8 t 2) = true := by
    unfold fullB
    rw [hX, if_pos (by omega)]
  rw [e]
  obtain ⟨b0, hb0⟩ : ∃ b, (t[0]'h0).toNat = b := ⟨_, rfl⟩
  have l0 : b0 < 256 := by rw [← hb0]; exact (t[0]'h0).toNat_lt
  have g0 : by8 t 0 = b0 := by rw [by8_at t 0 h0, hb0]
  rw [g0] at hX
  have hc0 : w.cell? ⟨3, b0, none⟩ = some (.int .u8 240) := by
    have := hT.1 b0 l0
    rw [hX] at this
    exact this
  have hz : ((t.size : Int) == 0) = false := beq_eq_false_iff_ne.2 (by omega)
  have hz0 : (0 : Int) < (t.size : Int) := by omega
  have hz1 : (0 : Int) ≤ (t.size : Int) := by omega
  clear hX g0 e hT
  go_enter Tryz.func83, Tryz.ntmps83
  go_wp2
  go_ret
  exact ⟨rfl, Below.refl _ _⟩
set_option maxRecDepth 100000 in
set_option maxHeartbeats 1000000 in
theorem full_241 (t : ByteArray) (w : World) (hT : Tabs w) (h0 : 0 < t.size) (hX : Lib.firstT (by8 t 0) = 241) :
    Calls Tryz.prog 83 #[.string t] w fun e w' => e = .returned (.bool (fullB t.size (by8 t 0) (by8 t 1) (by8 t 2))) ∧ Below w.heap.size w w' := by
  have e : fullB t.size (by8 t 0) (by8 t 1) (by8 t 2) = true := by
    unfold fullB
    rw [hX, if_pos (by omega)]
  rw [e]
  obtain ⟨b0, hb0⟩ : ∃ b, (t[0]'h0).toNat = b := ⟨_, rfl⟩
  have l0 : b0 < 256 := by rw [← hb0]; exact (t[0]'h0).toNat_lt
  have g0 : by8 t 0 = b0 := by rw [by8_at t 0 h0, hb0]
  rw [g0] at hX
  have hc0 : w.cell? ⟨3, b0, none⟩ = some (.int .u8 241) := by
    have := hT.1 b0 l0
    rw [hX] at this
    exact this
  have hz : ((t.size : Int) == 0) = false := beq_eq_false_iff_ne.2 (by omega)
  have hz0 : (0 : Int) < (t.size : Int) := by omega
  have hz1 : (1 : Int) ≤ (t.size : Int) := by omega
  clear hX g0 e hT
  go_enter Tryz.func83, Tryz.ntmps83
  go_wp2
  go_ret
  exact ⟨rfl, Below.refl _ _⟩
set_option maxRecDepth 100000 in
set_option maxHeartbeats 1000000 in
theorem full_2_long (t : ByteArray) (w : World) (hT : Tabs w) (h0 : 0 < t.size) (hX : Lib.firstT (by8 t 0) = 2) (hn : 2 ≤ t.size) :
    Calls Tryz.prog 83 #[.string t] w fun e w' => e = .returned (.bool (fullB t.size (by8 t 0) (by8 t 1) (by8 t 2))) ∧ Below w.heap.size w w' := by
  have e : fullB t.size (by8 t 0) (by8 t 1) (by8 t 2) = true := by
    unfold fullB
    rw [hX]
    rw [if_pos (by omega)]
  rw [e]
  obtain ⟨b0, hb0⟩ : ∃ b, (t[0]'h0).toNat = b := ⟨_, rfl⟩
  have l0 : b0 < 256 := by rw [← hb0]; exact (t[0]'h0).toNat_lt
  have g0 : by8 t 0 = b0 := by rw [by8_at t 0 h0, hb0]
  rw [g0] at hX
  have hc0 : w.cell? ⟨3, b0, none⟩ = some (.int .u8 2) := by
    have := hT.1 b0 l0
    rw [hX] at this
    exact this
  have hz : ((t.size : Int) == 0) = false := beq_eq_false_iff_ne.2 (by omega)
  have hz0 : (0 : Int) < (t.size : Int) := by omega
  have hz1 : (2 : Int) ≤ (t.size : Int) := by omega
  clear hX g0 e hT
  go_enter Tryz.func83, Tryz.ntmps83
  go_wp2
  go_ret
  exact ⟨rfl, Below.refl _ _⟩
set_option maxRecDepth 100000 in
set_option maxHeartbeats 1000000 in
theorem full_2_one (t : ByteArray) (w : World) (hT : Tabs w) (h0 : 0 < t.size) (hX : Lib.firstT (by8 t 0) = 2) (hn : t.size = 1) :
    Calls Tryz.prog 83 #[.string t] w fun e w' => e = .returned (.bool (fullB t.size (by8 t 0) (by8 t 1) (by8 t 2))) ∧ Below w.heap.size w w' := by
  have e : fullB t.size (by8 t 0) (by8 t 1) (by8 t 2) = false := by
    unfold fullB
    rw [hX]
    rw [if_neg (by omega), if_neg (by omega), decide_eq_false (by omega)]
  rw [e]
  obtain ⟨b0, hb0⟩ : ∃ b, (t[0]'h0).toNat = b := ⟨_, rfl⟩
  have l0 : b0 < 256 := by rw [← hb0]; exact (t[0]'h0).toNat_lt
  have g0 : by8 t 0 = b0 := by rw [by8_at t 0 h0, hb0]
  rw [g0] at hX
  have hc0 : w.cell? ⟨3, b0, none⟩ = some (.int .u8 2) := by
    have := hT.1 b0 l0
    rw [hX] at this
    exact this
  have hz : ((t.size : Int) == 0) = false := beq_eq_false_iff_ne.2 (by omega)
  have hz0 : (0 : Int) < (t.size : Int) := by omega
  have ha0 : w.cell? ⟨4, 0, none⟩ = some (.int .u8 128) := (hT.2 0 (by omega)).1
  have ha1 : w.cell? ⟨4, 1, none⟩ = some (.int .u8 191) := (hT.2 0 (by omega)).2
  have hz1 : ¬ (2 : Int) ≤ (t.size : Int) := by omega
  have hz2 : ¬ (1 : Int) < (t.size : Int) := by omega
  have hz3 : ¬ (2 : Int) < (t.size : Int) := by omega
  clear hX g0 e hT
  go_enter Tryz.func83, Tryz.ntmps83
  go_upto_region 8 with fail
  have bel : Below w.heap.size w (w.alloc (.cells #[.int .u8 128, .int .u8 191] 157)) := (Below.refl _ _).alloc (Nat.le_refl _) _
  have k0 : (w.alloc (.cells #[.int .u8 128, .int .u8 191] 157)).cell? ⟨w.heap.size, 0, none⟩ = some (.int .u8 128) := (cell_of_row _ w.heap.size 0 _ _ _ (heap_alloc_new w _)).trans rfl
  have k1 : (w.alloc (.cells #[.int .u8 128, .int .u8 191] 157)).cell? ⟨w.heap.size, 1, none⟩ = some (.int .u8 191) := (cell_of_row _ w.heap.size 1 _ _ _ (heap_alloc_new w _)).trans rfl
  generalize w.alloc (.cells #[.int .u8 128, .int .u8 191] 157) = w1 at *
  clear hc0 ha0 ha1
  go_quiet (fail)
  go_wp2
  go_ret
  exact ⟨rfl, below_drewN bel nq⟩
theorem full_2 (t : ByteArray) (w : World) (hT : Tabs w) (h0 : 0 < t.size) (hX : Lib.firstT (by8 t 0) = 2) :
    Calls Tryz.prog 83 #[.string t] w fun e w' => e = .returned (.bool (fullB t.size (by8 t 0) (by8 t 1) (by8 t 2))) ∧ Below w.heap.size w w' := by
  by_cases hn : 2 ≤ t.size
  · exact full_2_long t w hT h0 hX hn
  exact full_2_one t w hT h0 hX (by omega)
set_option maxRecDepth 100000 in
set_option maxHeartbeats 1000000 in
theorem full_19_long (t : ByteArray) (w : World) (hT : Tabs w) (h0 : 0 < t.size) (hX : Lib.firstT (by8 t 0) = 19) (hn : 3 ≤ t.size) :
    Calls Tryz.prog 83 #[.string t] w fun e w' => e = .returned (.bool (fullB t.size (by8 t 0) (by8 t 1) (by8 t 2))) ∧ Below w.heap.size w w' := by
  have e : fullB t.size (by8 t 0) (by8 t 1) (by8 t 2) = true := by
    unfold fullB
    rw [hX]
    rw [if_pos (by omega)]
  rw [e]
  obtain ⟨b0, hb0⟩ : ∃ b, (t[0]'h0).toNat = b := ⟨_, rfl⟩
  have l0 : b0 < 256 := by rw [← hb0]; exact (t[0]'h0).toNat_lt
  have g0 : by8 t 0 = b0 := by rw [by8_at t 0 h0, hb0]
  rw [g0] at hX
  have hc0 : w.cell? ⟨3, b0, none⟩ = some (.int .u8 19) := by
    have := hT.1 b0 l0
    rw [hX] at this
    exact this
  have hz : ((t.size : Int) == 0) = false := beq_eq_false_iff_ne.2 (by omega)
  have hz0 : (0 : Int) < (t.size : Int) := by omega
  have hz1 : (3 : Int) ≤ (t.size : Int) := by omega
  clear hX g0 e hT
  go_enter Tryz.func83, Tryz.ntmps83
  go_wp2
  go_ret
  exact ⟨rfl, Below.refl _ _⟩
set_option maxRecDepth 100000 in
set_option maxHeartbeats 1000000 in
theorem full_19_one (t : ByteArray) (w : World) (hT : Tabs w) (h0 : 0 < t.size) (hX : Lib.firstT (by8 t 0) = 19) (hn : t.size = 1) :
    Calls Tryz.prog 83 #[.string t] w fun e w' => e = .returned (.bool (fullB t.size (by8 t 0) (by8 t 1) (by8 t 2))) ∧ Below w.heap.size w w' := by
  have e : fullB t.size (by8 t 0) (by8 t 1) (by8 t 2) = false := by
    unfold fullB
    rw [hX]
    rw [if_neg (by omega), if_neg (by omega), decide_eq_false (by omega)]
  rw [e]
  obtain ⟨b0, hb0⟩ : ∃ b, (t[0]'h0).toNat = b := ⟨_, rfl⟩
  have l0 : b0 < 256 := by rw [← hb0]; exact (t[0]'h0).toNat_lt
  have g0 : by8 t 0 = b0 := by rw [by8_at t 0 h0, hb0]
  rw [g0] at hX
  have hc0 : w.cell? ⟨3, b0, none⟩ = some (.int .u8 19) := by
    have := hT.1 b0 l0
    rw [hX] at this
    exact this
  have hz : ((t.size : Int) == 0) = false := beq_eq_false_iff_ne.2 (by omega)
  have hz0 : (0 : Int) < (t.size : Int) := by omega
  have ha0 : w.cell? ⟨4, 2, none⟩ = some (.int .u8 160) := (hT.2 1 (by omega)).1
  have ha1 : w.cell? ⟨4, 3, none⟩ = some (.int .u8 191) := (hT.2 1 (by omega)).2
  have hz1 : ¬ (3 : Int) ≤ (t.size : Int) := by omega
  have hz2 : ¬ (1 : Int) < (t.size : Int) := by omega
  have hz3 : ¬ (2 : Int) < (t.size : Int) := by omega
  clear hX g0 e hT
  go_enter Tryz.func83, Tryz.ntmps83
  go_upto_region 8 with fail
  have bel : Below w.heap.size w (w.alloc (.cells #[.int .u8 160, .int .u8 191] 157)) := (Below.refl _ _).alloc (Nat.le_refl _) _
  have k0 : (w.alloc (.cells #[.int .u8 160, .int .u8 191] 157)).cell? ⟨w.heap.size, 0, none⟩ = some (.int .u8 160) := (cell_of_row _ w.heap.size 0 _ _ _ (heap_alloc_new w _)).trans rfl
  have k1 : (w.alloc (.cells #[.int .u8 160, .int .u8 191] 157)).cell? ⟨w.heap.size, 1, none⟩ = some (.int .u8 191) := (cell_of_row _ w.heap.size 1 _ _ _ (heap_alloc_new w _)).trans rfl
  generalize w.alloc (.cells #[.int .u8 160, .int .u8 191] 157) = w1 at *
  clear hc0 ha0 ha1
  go_quiet (fail)
  go_wp2
  go_ret
  exact ⟨rfl, below_drewN bel nq⟩
set_option maxRecDepth 100000 in
set_option maxHeartbeats 1000000 in
theorem full_19_lo (t : ByteArray) (w : World) (hT : Tabs w) (h0 : 0 < t.size) (hX : Lib.firstT (by8 t 0) = 19) (hn : 1 < t.size) (hn2 : t.size < 3) (hb : by8 t 1 < 160) :
    Calls Tryz.prog 83 #[.string t] w fun e w' => e = .returned (.bool (fullB t.size (by8 t 0) (by8 t 1) (by8 t 2))) ∧ Below w.heap.size w w' := by
  have e : fullB t.size (by8 t 0) (by8 t 1) (by8 t 2) = true := by
    unfold fullB
    rw [hX]
    rw [if_neg (by omega), if_pos ⟨by omega, by simp [Lib.accLo, Lib.accHi]; omega⟩]
  rw [e]
  obtain ⟨b0, hb0⟩ : ∃ b, (t[0]'h0).toNat = b := ⟨_, rfl⟩
  have l0 : b0 < 256 := by rw [← hb0]; exact (t[0]'h0).toNat_lt
  have g0 : by8 t 0 = b0 := by rw [by8_at t 0 h0, hb0]
  rw [g0] at hX
  have hc0 : w.cell? ⟨3, b0, none⟩ = some (.int .u8 19) := by
    have := hT.1 b0 l0
    rw [hX] at this
    exact this
  have hz : ((t.size : Int) == 0) = false := beq_eq_false_iff_ne.2 (by omega)
  have hz0 : (0 : Int) < (t.size : Int) := by omega
  have ha0 : w.cell? ⟨4, 2, none⟩ = some (.int .u8 160) := (hT.2 1 (by omega)).1
  have ha1 : w.cell? ⟨4, 3, none⟩ = some (.int .u8 191) := (hT.2 1 (by omega)).2
  have hz1 : ¬ (3 : Int) ≤ (t.size : Int) := by omega
  have hz2 : (1 : Int) < (t.size : Int) := by omega
  have h1 : 1 < t.size := by omega
  obtain ⟨b1, hb1⟩ : ∃ b, (t[1]'h1).toNat = b := ⟨_, rfl⟩
  have g1 : by8 t 1 = b1 := by rw [by8_at t 1 h1, hb1]
  rw [g1] at hb
  have q1 : (b1 : Int) < 160 := by omega
  clear hX g0 e hT
  go_enter Tryz.func83, Tryz.ntmps83
  go_upto_region 8 with fail
  have bel : Below w.heap.size w (w.alloc (.cells #[.int .u8 160, .int .u8 191] 157)) := (Below.refl _ _).alloc (Nat.le_refl _) _
  have k0 : (w.alloc (.cells #[.int .u8 160, .int .u8 191] 157)).cell? ⟨w.heap.size, 0, none⟩ = some (.int .u8 160) := (cell_of_row _ w.heap.size 0 _ _ _ (heap_alloc_new w _)).trans rfl
  have k1 : (w.alloc (.cells #[.int .u8 160, .int .u8 191] 157)).cell? ⟨w.heap.size, 1, none⟩ = some (.int .u8 191) := (cell_of_row _ w.heap.size 1 _ _ _ (heap_alloc_new w _)).trans rfl
  generalize w.alloc (.cells #[.int .u8 160, .int .u8 191] 157) = w1 at *
  clear hc0 ha0 ha1
  go_quiet (fail)
  go_wp2
  go_ret
  exact ⟨rfl, below_drewN bel nq⟩
set_option maxRecDepth 100000 in
set_option maxHeartbeats 1000000 in
theorem full_19_hi (t : ByteArray) (w : World) (hT : Tabs w) (h0 : 0 < t.size) (hX : Lib.firstT (by8 t 0) = 19) (hn : 1 < t.size) (hn2 : t.size < 3) (hb : 191 < by8 t 1) :
    Calls Tryz.prog 83 #[.string t] w fun e w' => e = .returned (.bool (fullB t.size (by8 t 0) (by8 t 1) (by8 t 2))) ∧ Below w.heap.size w w' := by
  have e : fullB t.size (by8 t 0) (by8 t 1) (by8 t 2) = true := by
    unfold fullB
    rw [hX]
    rw [if_neg (by omega), if_pos ⟨by omega, by simp [Lib.accLo, Lib.accHi]; omega⟩]
  rw [e]
  obtain ⟨b0, hb0⟩ : ∃ b, (t[0]'h0).toNat = b := ⟨_, rfl⟩
  have l0 : b0 < 256 := by rw [← hb0]; exact (t[0]'h0).toNat_lt
  have g0 : by8 t 0 = b0 := by rw [by8_at t 0 h0, hb0]
  rw [g0] at hX
  have hc0 : w.cell? ⟨3, b0, none⟩ = some (.int .u8 19) := by
    have := hT.1 b0 l0
    rw [hX] at this
    exact this
  have hz : ((t.size : Int) == 0) = false := beq_eq_false_iff_ne.2 (by omega)
  have hz0 : (0 : Int) < (t.size : Int) := by omega
  have ha0 : w.cell? ⟨4, 2, none⟩ = some (.int .u8 160) := (hT.2 1 (by omega)).1
  have ha1 : w.cell? ⟨4, 3, none⟩ = some (.int .u8 191) := (hT.2 1 (by omega)).2
  have hz1 : ¬ (3 : Int) ≤ (t.size : Int) := by omega
  have hz2 : (1 : Int) < (t.size : Int) := by omega
  have h1 : 1 < t.size := by omega
  obtain ⟨b1, hb1⟩ : ∃ b, (t[1]'h1).toNat = b := ⟨_, rfl⟩
  have g1 : by8 t 1 = b1 := by rw [by8_at t 1 h1, hb1]
  rw [g1] at hb
  have q1 : ¬ (b1 : Int) < 160 := by omega
  have q2 : (191 : Int) < (b1 : Int) := by omega
  clear hX g0 e hT
  go_enter Tryz.func83, Tryz.ntmps83
  go_upto_region 8 with fail
  have bel : Below w.heap.size w (w.alloc (.cells #[.int .u8 160, .int .u8 191] 157)) := (Below.refl _ _).alloc (Nat.le_refl _) _
  have k0 : (w.alloc (.cells #[.int .u8 160, .int .u8 191] 157)).cell? ⟨w.heap.size, 0, none⟩ = some (.int .u8 160) := (cell_of_row _ w.heap.size 0 _ _ _ (heap_alloc_new w _)).trans rfl
  have k1 : (w.alloc (.cells #[.int .u8 160, .int .u8 191] 157)).cell? ⟨w.heap.size, 1, none⟩ = some (.int .u8 191) := (cell_of_row _ w.heap.size 1 _ _ _ (heap_alloc_new w _)).trans rfl
  generalize w.alloc (.cells #[.int .u8 160, .int .u8 191] 157) = w1 at *
  clear hc0 ha0 ha1
  go_quiet (fail)
  go_wp2
  go_ret
  exact ⟨rfl, below_drewN bel nq⟩
set_option maxRecDepth 100000 in
set_option maxHeartbeats 1000000 in
theorem full_19_two (t : ByteArray) (w : World) (hT : Tabs w) (h0 : 0 < t.size) (hX : Lib.firstT (by8 t 0) = 19) (hn : t.size = 2) (hb : 160 ≤ by8 t 1 ∧ by8 t 1 ≤ 191) :
    Calls Tryz.prog 83 #[.string t] w fun e w' => e = .returned (.bool (fullB t.size (by8 t 0) (by8 t 1) (by8 t 2))) ∧ Below w.heap.size w w' := by
  have e : fullB t.size (by8 t 0) (by8 t 1) (by8 t 2) = false := by
    unfold fullB
    rw [hX]
    rw [if_neg (by omega), if_neg (by simp [Lib.accLo, Lib.accHi]; omega), decide_eq_false (by omega)]
  rw [e]
  obtain ⟨b0, hb0⟩ : ∃ b, (t[0]'h0).toNat = b := ⟨_, rfl⟩
  have l0 : b0 < 256 := by rw [← hb0]; exact (t[0]'h0).toNat_lt
  have g0 : by8 t 0 = b0 := by rw [by8_at t 0 h0, hb0]
  rw [g0] at hX
  have hc0 : w.cell? ⟨3, b0, none⟩ = some (.int .u8 19) := by
    have := hT.1 b0 l0
    rw [hX] at this
    exact this
  have hz : ((t.size : Int) == 0) = false := beq_eq_false_iff_ne.2 (by omega)
  have hz0 : (0 : Int) < (t.size : Int) := by omega
  have ha0 : w.cell? ⟨4, 2, none⟩ = some (.int .u8 160) := (hT.2 1 (by omega)).1
  have ha1 : w.cell? ⟨4, 3, none⟩ = some (.int .u8 191) := (hT.2 1 (by omega)).2
  have hz1 : ¬ (3 : Int) ≤ (t.size : Int) := by omega
  have hz2 : (1 : Int) < (t.size : Int) := by omega
  have h1 : 1 < t.size := by omega
  obtain ⟨b1, hb1⟩ : ∃ b, (t[1]'h1).toNat = b := ⟨_, rfl⟩
  have g1 : by8 t 1 = b1 := by rw [by8_at t 1 h1, hb1]
  rw [g1] at hb
  have q1 : ¬ (b1 : Int) < 160 := by omega
  have q2 : ¬ (191 : Int) < (b1 : Int) := by omega
  have hz3 : ¬ (2 : Int) < (t.size : Int) := by omega
  clear hX g0 e hT
  go_enter Tryz.func83, Tryz.ntmps83
  go_upto_region 8 with fail
  have bel : Below w.heap.size w (w.alloc (.cells #[.int .u8 160, .int .u8 191] 157)) := (Below.refl _ _).alloc (Nat.le_refl _) _
  have k0 : (w.alloc (.cells #[.int .u8 160, .int .u8 191] 157)).cell? ⟨w.heap.size, 0, none⟩ = some (.int .u8 160) := (cell_of_row _ w.heap.size 0 _ _ _ (heap_alloc_new w _)).trans rfl
  have k1 : (w.alloc (.cells #[.int .u8 160, .int .u8 191] 157)).cell? ⟨w.heap.size, 1, none⟩ = some (.int .u8 191) := (cell_of_row _ w.heap.size 1 _ _ _ (heap_alloc_new w _)).trans rfl
  generalize w.alloc (.cells #[.int .u8 160, .int .u8 191] 157) = w1 at *
  clear hc0 ha0 ha1
  go_quiet (fail)
  go_wp2
  go_ret
  exact ⟨rfl, below_drewN bel nq⟩
theorem full_19 (t : ByteArray) (w : World) (hT : Tabs w) (h0 : 0 < t.size) (hX : Lib.firstT (by8 t 0) = 19) :
    Calls Tryz.prog 83 #[.string t] w fun e w' => e = .returned (.bool (fullB t.size (by8 t 0) (by8 t 1) (by8 t 2))) ∧ Below w.heap.size w w' := by
  by_cases hn : 3 ≤ t.size
  · exact full_19_long t w hT h0 hX hn
  by_cases hn1 : t.size = 1
  · exact full_19_one t w hT h0 hX hn1
  by_cases hlo : by8 t 1 < 160
  · exact full_19_lo t w hT h0 hX (by omega) (by omega) hlo
  by_cases hhi : 191 < by8 t 1
  · exact full_19_hi t w hT h0 hX (by omega) (by omega) hhi
  exact full_19_two t w hT h0 hX (by omega) (by omega)
set_option maxRecDepth 100000 in
set_option maxHeartbeats 1000000 in
theorem full_3_long (t : ByteArray) (w : World) (hT : Tabs w) (h0 : 0 < t.size) (hX : Lib.firstT (by8 t 0) = 3) (hn : 3 ≤ t.size) :
    Calls Tryz.prog 83 #[.string t] w fun e w' => e = .returned (.bool (fullB t.size (by8 t 0) (by8 t 1) (by8 t 2))) ∧ Below w.heap.size w w' := by
  have e : fullB t.size (by8 t 0) (by8 t 1) (by8 t 2) = true := by
    unfold fullB
    rw [hX]
    rw [if_pos (by omega)]
  rw [e]
  obtain ⟨b0, hb0⟩ : ∃ b, (t[0]'h0).toNat = b := ⟨_, rfl⟩
  have l0 : b0 < 256 := by rw [← hb0]; exact (t[0]'h0).toNat_lt
  have g0 : by8 t 0 = b0 := by rw [by8_at t 0 h0, hb0]
  rw [g0] at hX
  have hc0 : w.cell? ⟨3, b0, none⟩ = some (.int .u8 3) := by
    have := hT.1 b0 l0
    rw [hX] at this
    exact this
  have hz : ((t.size : Int) == 0) = false := beq_eq_false_iff_ne.2 (by omega)
  have hz0 : (0 : Int) < (t.size : Int) := by omega
  have hz1 : (3 : Int) ≤ (t.size : Int) := by omega
  clear hX g0 e hT
  go_enter Tryz.func83, Tryz.ntmps83
  go_wp2
  go_ret
  exact ⟨rfl, Below.refl _ _⟩
set_option maxRecDepth 100000 in
set_option maxHeartbeats 1000000 in
theorem full_3_one (t : ByteArray) (w : World) (hT : Tabs w) (h0 : 0 < t.size) (hX : Lib.firstT (by8 t 0) = 3) (hn : t.size = 1) :
    Calls Tryz.prog 83 #[.string t] w fun e w' => e = .returned (.bool (fullB t.size (by8 t 0) (by8 t 1) (by8 t 2))) ∧ Below w.heap.size w w' := by
  have e : fullB t.size (by8 t 0) (by8 t 1) (by8 t 2) = false := by
    unfold fullB
    rw [hX]
    rw [if_neg (by omega), if_neg (by omega), decide_eq_false (by omega)]
  rw [e]
  obtain ⟨b0, hb0⟩ : ∃ b, (t[0]'h0).toNat = b := ⟨_, rfl⟩
  have l0 : b0 < 256 := by rw [← hb0]; exact (t[0]'h0).toNat_lt
  have g0 : by8 t 0 = b0 := by rw [by8_at t 0 h0, hb0]
  rw [g0] at hX
  have hc0 : w.cell? ⟨3, b0, none⟩ = some (.int .u8 3) := by
    have := hT.1 b0 l0
    rw [hX] at this
    exact this
  have hz : ((t.size : Int) == 0) = false := beq_eq_false_iff_ne.2 (by omega)
  have hz0 : (0 : Int) < (t.size : Int) := by omega
  have ha0 : w.cell? ⟨4, 0, none⟩ = some (.int .u8 128) := (hT.2 0 (by omega)).1
  have ha1 : w.cell? ⟨4, 1, none⟩ = some (.int .u8 191) := (hT.2 0 (by omega)).2
  have hz1 : ¬ (3 : Int) ≤ (t.size : Int) := by omega
  have hz2 : ¬ (1 : Int) < (t.size : Int) := by omega
  have hz3 : ¬ (2 : Int) < (t.size : Int) := by omega
  clear hX g0 e hT
  go_enter Tryz.func83, Tryz.ntmps83
  go_upto_region 8 with fail
  have bel : Below w.heap.size w (w.alloc (.cells #[.int .u8 128, .int .u8 191] 157)) := (Below.refl _ _).alloc (Nat.le_refl _) _
  have k0 : (w.alloc (.cells #[.int .u8 128, .int .u8 191] 157)).cell? ⟨w.heap.size, 0, none⟩ = some (.int .u8 128) := (cell_of_row _ w.heap.size 0 _ _ _ (heap_alloc_new w _)).trans rfl
  have k1 : (w.alloc (.cells #[.int .u8 128, .int .u8 191] 157)).cell? ⟨w.heap.size, 1, none⟩ = some (.int .u8 191) := (cell_of_row _ w.heap.size 1 _ _ _ (heap_alloc_new w _)).trans rfl
  generalize w.alloc (.cells #[.int .u8 128, .int .u8 191] 157) = w1 at *
  clear hc0 ha0 ha1
  go_quiet (fail)
  go_wp2
  go_ret
  exact ⟨rfl, below_drewN bel nq⟩
set_option maxRecDepth 100000 in
set_option maxHeartbeats 1000000 in
theorem full_3_lo (t : ByteArray) (w : World) (hT : Tabs w) (h0 : 0 < t.size) (hX : Lib.firstT (by8 t 0) = 3) (hn : 1 < t.size) (hn2 : t.size < 3) (hb : by8 t 1 < 128) :
    Calls Tryz.prog 83 #[.string t] w fun e w' => e = .returned (.bool (fullB t.size (by8 t 0) (by8 t 1) (by8 t 2))) ∧ Below w.heap.size w w' := by
  have e : fullB t.size (by8 t 0) (by8 t 1) (by8 t 2) = true := by
    unfold fullB
    rw [hX]
    rw [if_neg (by omega), if_pos ⟨by omega, by simp [Lib.accLo, Lib.accHi]; omega⟩]
  rw [e]
  obtain ⟨b0, hb0⟩ : ∃ b, (t[0]'h0).toNat = b := ⟨_, rfl⟩
  have l0 : b0 < 256 := by rw [← hb0]; exact (t[0]'h0).toNat_lt
  have g0 : by8 t 0 = b0 := by rw [by8_at t 0 h0, hb0]
  rw [g0] at hX
  have hc0 : w.cell? ⟨3, b0, none⟩ = some (.int .u8 3) := by
    have := hT.1 b0 l0
    rw [hX] at this
    exact this
  have hz : ((t.size : Int) == 0) = false := beq_eq_false_iff_ne.2 (by omega)
  have hz0 : (0 : Int) < (t.size : Int) := by omega
  have ha0 : w.cell? ⟨4, 0, none⟩ = some (.int .u8 128) := (hT.2 0 (by omega)).1
  have ha1 : w.cell? ⟨4, 1, none⟩ = some (.int .u8 191) := (hT.2 0 (by omega)).2
  have hz1 : ¬ (3 : Int) ≤ (t.size : Int) := by omega
  have hz2 : (1 : Int) < (t.size : Int) := by omega
  have h1 : 1 < t.size := by omega
  obtain ⟨b1, hb1⟩ : ∃ b, (t[1]'h1).toNat = b := ⟨_, rfl⟩
  have g1 : by8 t 1 = b1 := by rw [by8_at t 1 h1, hb1]
  rw [g1] at hb
  have q1 : (b1 : Int) < 128 := by omega
  clear hX g0 e hT
  go_enter Tryz.func83, Tryz.ntmps83
  go_upto_region 8 with fail
  have bel : Below w.heap.size w (w.alloc (.cells #[.int .u8 128, .int .u8 191] 157)) := (Below.refl _ _).alloc (Nat.le_refl _) _
  have k0 : (w.alloc (.cells #[.int .u8 128, .int .u8 191] 157)).cell? ⟨w.heap.size, 0, none⟩ = some (.int .u8 128) := (cell_of_row _ w.heap.size 0 _ _ _ (heap_alloc_new w _)).trans rfl
  have k1 : (w.alloc (.cells #[.int .u8 128, .int .u8 191] 157)).cell? ⟨w.heap.size, 1, none⟩ = some (.int .u8 191) := (cell_of_row _ w.heap.size 1 _ _ _ (heap_alloc_new w _)).trans rfl
  generalize w.alloc (.cells #[.int .u8 128, .int .u8 191] 157) = w1 at *
  clear hc0 ha0 ha1
  go_quiet (fail)
  go_wp2
  go_ret
  exact ⟨rfl, below_drewN bel nq⟩
set_option maxRecDepth 100000 in
set_option maxHeartbeats 1000000 in
theorem full_3_hi (t : ByteArray) (w : World) (hT : Tabs w) (h0 : 0 < t.size) (hX : Lib.firstT (by8 t 0) = 3) (hn : 1 < t.size) (hn2 : t.size < 3) (hb : 191 < by8 t 1) :
    Calls Tryz.prog 83 #[.string t] w fun e w' => e = .returned (.bool (fullB t.size (by8 t 0) (by8 t 1) (by8 t 2))) ∧ Below w.heap.size w w' := by
  have e : fullB t.size (by8 t 0) (by8 t 1) (by8 t 2) = true := by
    unfold fullB
    rw [hX]
    rw [if_neg (by omega), if_pos ⟨by omega, by simp [Lib.accLo, Lib.accHi]; omega⟩]
  rw [e]
  obtain ⟨b0, hb0⟩ : ∃ b, (t[0]'h0).toNat = b := ⟨_, rfl⟩
  have l0 : b0 < 256 := by rw [← hb0]; exact (t[0]'h0).toNat_lt
  have g0 : by8 t 0 = b0 := by rw [by8_at t 0 h0, hb0]
  rw [g0] at hX
  have hc0 : w.cell? ⟨3, b0, none⟩ = some (.int .u8 3) := by
    have := hT.1 b0 l0
    rw [hX] at this
    exact this
  have hz : ((t.size : Int) == 0) = false := beq_eq_false_iff_ne.2 (by omega)
  have hz0 : (0 : Int) < (t.size : Int) := by omega
  have ha0 : w.cell? ⟨4, 0, none⟩ = some (.int .u8 128) := (hT.2 0 (by omega)).1
  have ha1 : w.cell? ⟨4, 1, none⟩ = some (.int .u8 191) := (hT.2 0 (by omega)).2
  have hz1 : ¬ (3 : Int) ≤ (t.size : Int) := by omega
  have hz2 : (1 : Int) < (t.size : Int) := by omega
  have h1 : 1 < t.size := by omega
  obtain ⟨b1, hb1⟩ : ∃ b, (t[1]'h1).toNat = b := ⟨_, rfl⟩
  have g1 : by8 t 1 = b1 := by rw [by8_at t 1 h1, hb1]
  rw [g1] at hb
  have q1 : ¬ (b1 : Int) < 128 := by omega
  have q2 : (191 : Int) < (b1 : Int) := by omega
  clear hX g0 e hT
  go_enter Tryz.func83, Tryz.ntmps83
  go_upto_region 8 with fail
  have bel : Below w.heap.size w (w.alloc (.cells #[.int .u8 128, .int .u8 191] 157)) := (Below.refl _ _).alloc (Nat.le_refl _) _
  have k0 : (w.alloc (.cells #[.int .u8 128, .int .u8 191] 157)).cell? ⟨w.heap.size, 0, none⟩ = some (.int .u8 128) := (cell_of_row _ w.heap.size 0 _ _ _ (heap_alloc_new w _)).trans rfl
  have k1 : (w.alloc (.cells #[.int .u8 128, .int .u8 191] 157)).cell? ⟨w.heap.size, 1, none⟩ = some (.int .u8 191) := (cell_of_row _ w.heap.size 1 _ _ _ (heap_alloc_new w _)).trans rfl
  generalize w.alloc (.cells #[.int .u8 128, .int .u8 191] 157) = w1 at *
  clear hc0 ha0 ha1
  go_quiet (fail)
  go_wp2
  go_ret
  exact ⟨rfl, below_drewN bel nq⟩
set_option maxRecDepth 100000 in
set_option maxHeartbeats 1000000 in
theorem full_3_two (t : ByteArray) (w : World) (hT : Tabs w) (h0 : 0 < t.size) (hX : Lib.firstT (by8 t 0) = 3) (hn : t.size = 2) (hb : 128 ≤ by8 t 1 ∧ by8 t 1 ≤ 191) :
    Calls Tryz.prog 83 #[.string t] w fun e w' => e = .returned (.bool (fullB t.size (by8 t 0) (by8 t 1) (by8 t 2))) ∧ Below w.heap.size w w' := by
  have e : fullB t.size (by8 t 0) (by8 t 1) (by8 t 2) = false := by
    unfold fullB
    rw [hX]
    rw [if_neg (by omega), if_neg (by simp [Lib.accLo, Lib.accHi]; omega), decide_eq_false (by omega)]
  rw [e]
  obtain ⟨b0, hb0⟩ : ∃ b, (t[0]'h0).toNat = b := ⟨_, rfl⟩
  have l0 : b0 < 256 := by rw [← hb0]; exact (t[0]'h0).toNat_lt
  have g0 : by8 t 0 = b0 := by rw [by8_at t 0 h0, hb0]
  rw [g0] at hX
  have hc0 : w.cell? ⟨3, b0, none⟩ = some (.int .u8 3) := by
    have := hT.1 b0 l0
    rw [hX] at this
    exact this
  have hz : ((t.size : Int) == 0) = false := beq_eq_false_iff_ne.2 (by omega)
  have hz0 : (0 : Int) < (t.size : Int) := by omega
  have ha0 : w.cell? ⟨4, 0, none⟩ = some (.int .u8 128) := (hT.2 0 (by omega)).1
  have ha1 : w.cell? ⟨4, 1, none⟩ = some (.int .u8 191) := (hT.2 0 (by omega)).2
  have hz1 : ¬ (3 : Int) ≤ (t.size : Int) := by omega
  have hz2 : (1 : Int) < (t.size : Int) := by omega
  have h1 : 1 < t.size := by omega
  obtain ⟨b1, hb1⟩ : ∃ b, (t[1]'h1).toNat = b := ⟨_, rfl⟩
  have g1 : by8 t 1 = b1 := by rw [by8_at t 1 h1, hb1]
  rw [g1] at hb
  have q1 : ¬ (b1 : Int) < 128 := by omega
  have q2 : ¬ (191 : Int) < (b1 : Int) := by omega
  have hz3 : ¬ (2 : Int) < (t.size : Int) := by omega
  clear hX g0 e hT
  go_enter Tryz.func83, Tryz.ntmps83
  go_upto_region 8 with fail
  have bel : Below w.heap.size w (w.alloc (.cells #[.int .u8 128, .int .u8 191] 157)) := (Below.refl _ _).alloc (Nat.le_refl _) _
  have k0 : (w.alloc (.cells #[.int .u8 128, .int .u8 191] 157)).cell? ⟨w.heap.size, 0, none⟩ = some (.int .u8 128) := (cell_of_row _ w.heap.size 0 _ _ _ (heap_alloc_new w _)).trans rfl
  have k1 : (w.alloc (.cells #[.int .u8 128, .int .u8 191] 157)).cell? ⟨w.heap.size, 1, none⟩ = some (.int .u8 191) := (cell_of_row _ w.heap.size 1 _ _ _ (heap_alloc_new w _)).trans rfl
  generalize w.alloc (.cells #[.int .u8 128, .int .u8 191] 157) = w1 at *
  clear hc0 ha0 ha1
  go_quiet (fail)
  go_wp2
  go_ret
  exact ⟨rfl, below_drewN bel nq⟩
theorem full_3 (t : ByteArray) (w : World) (hT : Tabs w) (h0 : 0 < t.size) (hX : Lib.firstT (by8 t 0) = 3) :
    Calls Tryz.prog 83 #[.string t] w fun e w' => e = .returned (.bool (fullB t.size (by8 t 0) (by8 t 1) (by8 t 2))) ∧ Below w.heap.size w w' := by
  by_cases hn : 3 ≤ t.size
  · exact full_3_long t w hT h0 hX hn
  by_cases hn1 : t.size = 1
  · exact full_3_one t w hT h0 hX hn1
  by_cases hlo : by8 t 1 < 128
  · exact full_3_lo t w hT h0 hX (by omega) (by omega) hlo
  by_cases hhi : 191 < by8 t 1
  · exact full_3_hi t w hT h0 hX (by omega) (by omega) hhi
  exact full_3_two t w hT h0 hX (by omega) (by omega)
set_option maxRecDepth 100000 in
set_option maxHeartbeats 1000000 in
theorem full_35_long (t : ByteArray) (w : World) (hT : Tabs w) (h0 : 0 < t.size) (hX : Lib.firstT (by8 t 0) = 35) (hn : 3 ≤ t.size) :
    Calls Tryz.prog 83 #[.string t] w fun e w' => e = .returned (.bool (fullB t.size (by8 t 0) (by8 t 1) (by8 t 2))) ∧ Below w.heap.size w w' := by
  have e : fullB t.size (by8 t 0) (by8 t 1) (by8 t 2) = true := by
    unfold fullB
    rw [hX]
    rw [if_pos (by omega)]
  rw [e]
  obtain ⟨b0, hb0⟩ : ∃ b, (t[0]'h0).toNat = b := ⟨_, rfl⟩
  have l0 : b0 < 256 := by rw [← hb0]; exact (t[0]'h0).toNat_lt
  have g0 : by8 t 0 = b0 := by rw [by8_at t 0 h0, hb0]
  rw [g0] at hX
  have hc0 : w.cell? ⟨3, b0, none⟩ = some (.int .u8 35) := by
    have := hT.1 b0 l0
    rw [hX] at this
    exact this
  have hz : ((t.size : Int) == 0) = false := beq_eq_false_iff_ne.2 (by omega)
  have hz0 : (0 : Int) < (t.size : Int) := by omega
  have hz1 : (3 : Int) ≤ (t.size : Int) := by omega
  clear hX g0 e hT
  go_enter Tryz.func83, Tryz.ntmps83
  go_wp2
  go_ret
  exact ⟨rfl, Below.refl _ _⟩
set_option maxRecDepth 100000 in
set_option maxHeartbeats 1000000 in
theorem full_35_one (t : ByteArray) (w : World) (hT : Tabs w) (h0 : 0 < t.size) (hX : Lib.firstT (by8 t 0) = 35) (hn : t.size = 1) :
    Calls Tryz.prog 83 #[.string t] w fun e w' => e = .returned (.bool (fullB t.size (by8 t 0) (by8 t 1) (by8 t 2))) ∧ Below w.heap.size w w' := by
  have e : fullB t.size (by8 t 0) (by8 t 1) (by8 t 2) = false := by
    unfold fullB
    rw [hX]
    rw [if_neg (by omega), if_neg (by omega), decide_eq_false (by omega)]
  rw [e]
  obtain ⟨b0, hb0⟩ : ∃ b, (t[0]'h0).toNat = b := ⟨_, rfl⟩
  have l0 : b0 < 256 := by rw [← hb0]; exact (t[0]'h0).toNat_lt
  have g0 : by8 t 0 = b0 := by rw [by8_at t 0 h0, hb0]
  rw [g0] at hX
  have hc0 : w.cell? ⟨3, b0, none⟩ = some (.int .u8 35) := by
    have := hT.1 b0 l0
    rw [hX] at this
    exact this
  have hz : ((t.size : Int) == 0) = false := beq_eq_false_iff_ne.2 (by omega)
  have hz0 : (0 : Int) < (t.size : Int) := by omega
  have ha0 : w.cell? ⟨4, 4, none⟩ = some (.int .u8 128) := (hT.2 2 (by omega)).1
  have ha1 : w.cell? ⟨4, 5, none⟩ = some (.int .u8 159) := (hT.2 2 (by omega)).2
  have hz1 : ¬ (3 : Int) ≤ (t.size : Int) := by omega
  have hz2 : ¬ (1 : Int) < (t.size : Int) := by omega
  have hz3 : ¬ (2 : Int) < (t.size : Int) := by omega
  clear hX g0 e hT
  go_enter Tryz.func83, Tryz.ntmps83
  go_upto_region 8 with fail
  have bel : Below w.heap.size w (w.alloc (.cells #[.int .u8 128, .int .u8 159] 157)) := (Below.refl _ _).alloc (Nat.le_refl _) _
  have k0 : (w.alloc (.cells #[.int .u8 128, .int .u8 159] 157)).cell? ⟨w.heap.size, 0, none⟩ = some (.int .u8 128) := (cell_of_row _ w.heap.size 0 _ _ _ (heap_alloc_new w _)).trans rfl
  have k1 : (w.alloc (.cells #[.int .u8 128, .int .u8 159] 157)).cell? ⟨w.heap.size, 1, none⟩ = some (.int .u8 159) := (cell_of_row _ w.heap.size 1 _ _ _ (heap_alloc_new w _)).trans rfl
  generalize w.alloc (.cells #[.int .u8 128, .int .u8 159] 157) = w1 at *
  clear hc0 ha0 ha1
  go_quiet (fail)
  go_wp2
  go_ret
  exact ⟨rfl, below_drewN bel nq⟩
set_option maxRecDepth 100000 in
set_option maxHeartbeats 1000000 in
theorem full_35_lo (t : ByteArray) (w : World) (hT : Tabs w) (h0 : 0 < t.size) (hX : Lib.firstT (by8 t 0) = 35) (hn : 1 < t.size) (hn2 : t.size < 3) (hb : by8 t 1 < 128) :
    Calls Tryz.prog 83 #[.string t] w fun e w' => e = .returned (.bool (fullB t.size (by8 t 0) (by8 t 1) (by8 t 2))) ∧ Below w.heap.size w w' := by
  have e : fullB t.size (by8 t 0) (by8 t 1) (by8 t 2) = true := by
    unfold fullB
    rw [hX]
    rw [if_neg (by omega), if_pos ⟨by omega, by simp [Lib.accLo, Lib.accHi]; omega⟩]
  rw [e]
  obtain ⟨b0, hb0⟩ : ∃ b, (t[0]'h0).toNat = b := ⟨_, rfl⟩
  have l0 : b0 < 256 := by rw [← hb0]; exact (t[0]'h0).toNat_lt
  have g0 : by8 t 0 = b0 := by rw [by8_at t 0 h0, hb0]
  rw [g0] at hX
  have hc0 : w.cell? ⟨3, b0, none⟩ = some (.int .u8 35) := by
    have := hT.1 b0 l0
    rw [hX] at this
    exact this
  have hz : ((t.size : Int) == 0) = false := beq_eq_false_iff_ne.2 (by omega)
  have hz0 : (0 : Int) < (t.size : Int) := by omega
  have ha0 : w.cell? ⟨4, 4, none⟩ = some (.int .u8 128) := (hT.2 2 (by omega)).1
  have ha1 : w.cell? ⟨4, 5, none⟩ = some (.int .u8 159) := (hT.2 2 (by omega)).2
  have hz1 : ¬ (3 : Int) ≤ (t.size : Int) := by omega
  have hz2 : (1 : Int) < (t.size : Int) := by omega
  have h1 : 1 < t.size := by omega
  obtain ⟨b1, hb1⟩ : ∃ b, (t[1]'h1).toNat = b := ⟨_, rfl⟩
  have g1 : by8 t 1 = b1 := by rw [by8_at t 1 h1, hb1]
  rw [g1] at hb
  have q1 : (b1 : Int) < 128 := by omega
  clear hX g0 e hT
  go_enter Tryz.func83, Tryz.ntmps83
  go_upto_region 8 with fail
  have bel : Below w.heap.size w (w.alloc (.cells #[.int .u8 128, .int .u8 159] 157)) := (Below.refl _ _).alloc (Nat.le_refl _) _
  have k0 : (w.alloc (.cells #[.int .u8 128, .int .u8 159] 157)).cell? ⟨w.heap.size, 0, none⟩ = some (.int .u8 128) := (cell_of_row _ w.heap.size 0 _ _ _ (heap_alloc_new w _)).trans rfl
  have k1 : (w.alloc (.cells #[.int .u8 128, .int .u8 159] 157)).cell? ⟨w.heap.size, 1, none⟩ = some (.int .u8 159) := (cell_of_row _ w.heap.size 1 _ _ _ (heap_alloc_new w _)).trans rfl
  generalize w.alloc (.cells #[.int .u8 128, .int .u8 159] 157) = w1 at *
  clear hc0 ha0 ha1
  go_quiet (fail)
  go_wp2
  go_ret
  exact ⟨rfl, below_drewN bel nq⟩
set_option maxRecDepth 100000 in
set_option maxHeartbeats 1000000 in
theorem full_35_hi (t : ByteArray) (w : World) (hT : Tabs w) (h0 : 0 < t.size) (hX : Lib.firstT (by8 t 0) = 35) (hn : 1 < t.size) (hn2 : t.size < 3) (hb : 159 < by8 t 1) :
    Calls Tryz.prog 83 #[.string t] w fun e w' => e = .returned (.bool (fullB t.size (by8 t 0) (by8 t 1) (by8 t 2))) ∧ Below w.heap.size w w' := by
  have e : fullB t.size (by8 t 0) (by8 t 1) (by8 t 2) = true := by
    unfold fullB
    rw [hX]
    rw [if_neg (by omega), if_pos ⟨by omega, by simp [Lib.accLo, Lib.accHi]; omega⟩]
  rw [e]
  obtain ⟨b0, hb0⟩ : ∃ b, (t[0]'h0).toNat = b := ⟨_, rfl⟩
  have l0 : b0 < 256 := by rw [← hb0]; exact (t[0]'h0).toNat_lt
  have g0 : by8 t 0 = b0 := by rw [by8_at t 0 h0, hb0]
  rw [g0] at hX
  have hc0 : w.cell? ⟨3, b0, none⟩ = some (.int .u8 35) := by
    have := hT.1 b0 l0
    rw [hX] at this
    exact this
  have hz : ((t.size : Int) == 0) = false := beq_eq_false_iff_ne.2 (by omega)
  have hz0 : (0 : Int) < (t.size : Int) := by omega
  have ha0 : w.cell? ⟨4, 4, none⟩ = some (.int .u8 128) := (hT.2 2 (by omega)).1
  have ha1 : w.cell? ⟨4, 5, none⟩ = some (.int .u8 159) := (hT.2 2 (by omega)).2
  have hz1 : ¬ (3 : Int) ≤ (t.size : Int) := by omega
  have hz2 : (1 : Int) < (t.size : Int) := by omega
  have h1 : 1 < t.size := by omega
  obtain ⟨b1, hb1⟩ : ∃ b, (t[1]'h1).toNat = b := ⟨_, rfl⟩
  have g1 : by8 t 1 = b1 := by rw [by8_at t 1 h1, hb1]
  rw [g1] at hb
  have q1 : ¬ (b1 : Int) < 128 := by omega
  have q2 : (159 : Int) < (b1 : Int) := by omega
  clear hX g0 e hT
  go_enter Tryz.func83, Tryz.ntmps83
  go_upto_region 8 with fail
  have bel : Below w.heap.size w (w.alloc (.cells #[.int .u8 128, .int .u8 159] 157)) := (Below.refl _ _).alloc (Nat.le_refl _) _
  have k0 : (w.alloc (.cells #[.int .u8 128, .int .u8 159] 157)).cell? ⟨w.heap.size, 0, none⟩ = some (.int .u8 128) := (cell_of_row _ w.heap.size 0 _ _ _ (heap_alloc_new w _)).trans rfl
  have k1 : (w.alloc (.cells #[.int .u8 128, .int .u8 159] 157)).cell? ⟨w.heap.size, 1, none⟩ = some (.int .u8 159) := (cell_of_row _ w.heap.size 1 _ _ _ (heap_alloc_new w _)).trans rfl
  generalize w.alloc (.cells #[.int .u8 128, .int .u8 159] 157) = w1 at *
  clear hc0 ha0 ha1
  go_quiet (fail)
  go_wp2
  go_ret
  exact ⟨rfl, below_drewN bel nq⟩
set_option maxRecDepth 100000 in
set_option maxHeartbeats 1000000 in
theorem full_35_two (t : ByteArray) (w : World) (hT : Tabs w) (h0 : 0 < t.size) (hX : Lib.firstT (by8 t 0) = 35) (hn : t.size = 2) (hb : 128 ≤ by8 t 1 ∧ by8 t 1 ≤ 159) :
    Calls Tryz.prog 83 #[.string t] w fun e w' => e = .returned (.bool (fullB t.size (by8 t 0) (by8 t 1) (by8 t 2))) ∧ Below w.heap.size w w' := by
  have e : fullB t.size (by8 t 0) (by8 t 1) (by8 t 2) = false := by
    unfold fullB
    rw [hX]
    rw [if_neg (by omega), if_neg (by simp [Lib.accLo, Lib.accHi]; omega), decide_eq_false (by omega)]
  rw [e]
  obtain ⟨b0, hb0⟩ : ∃ b, (t[0]'h0).toNat = b := ⟨_, rfl⟩
  have l0 : b0 < 256 := by rw [← hb0]; exact (t[0]'h0).toNat_lt
  have g0 : by8 t 0 = b0 := by rw [by8_at t 0 h0, hb0]
  rw [g0] at hX
  have hc0 : w.cell? ⟨3, b0, none⟩ = some (.int .u8 35) := by
    have := hT.1 b0 l0
    rw [hX] at this
    exact this
  have hz : ((t.size : Int) == 0) = false := beq_eq_false_iff_ne.2 (by omega)
  have hz0 : (0 : Int) < (t.size : Int) := by omega
  have ha0 : w.cell? ⟨4, 4, none⟩ = some (.int .u8 128) := (hT.2 2 (by omega)).1
  have ha1 : w.cell? ⟨4, 5, none⟩ = some (.int .u8 159) := (hT.2 2 (by omega)).2
  have hz1 : ¬ (3 : Int) ≤ (t.size : Int) := by omega
  have hz2 : (1 : Int) < (t.size : Int) := by omega
  have h1 : 1 < t.size := by omega
  obtain ⟨b1, hb1⟩ : ∃ b, (t[1]'h1).toNat = b := ⟨_, rfl⟩
  have g1 : by8 t 1 = b1 := by rw [by8_at t 1 h1, hb1]
  rw [g1] at hb
  have q1 : ¬ (b1 : Int) < 128 := by omega
  have q2 : ¬ (159 : Int) < (b1 : Int) := by omega
  have hz3 : ¬ (2 : Int) < (t.size : Int) := by omega
  clear hX g0 e hT
  go_enter Tryz.func83, Tryz.ntmps83
  go_upto_region 8 with fail
  have bel : Below w.heap.size w (w.alloc (.cells #[.int .u8 128, .int .u8 159] 157)) := (Below.refl _ _).alloc (Nat.le_refl _) _
  have k0 : (w.alloc (.cells #[.int .u8 128, .int .u8 159] 157)).cell? ⟨w.heap.size, 0, none⟩ = some (.int .u8 128) := (cell_of_row _ w.heap.size 0 _ _ _ (heap_alloc_new w _)).trans rfl
  have k1 : (w.alloc (.cells #[.int .u8 128, .int .u8 159] 157)).cell? ⟨w.heap.size, 1, none⟩ = some (.int .u8 159) := (cell_of_row _ w.heap.size 1 _ _ _ (heap_alloc_new w _)).trans rfl
  generalize w.alloc (.cells #[.int .u8 128, .int .u8 159] 157) = w1 at *
  clear hc0 ha0 ha1
  go_quiet (fail)
  go_wp2
  go_ret
  exact ⟨rfl, below_drewN bel nq⟩
theorem full_35 (t : ByteArray) (w : World) (hT : Tabs w) (h0 : 0 < t.size) (hX : Lib.firstT (by8 t 0) = 35) :
    Calls Tryz.prog 83 #[.string t] w fun e w' => e = .returned (.bool (fullB t.size (by8 t 0) (by8 t 1) (by8 t 2))) ∧ Below w.heap.size w w' := by
  by_cases hn : 3 ≤ t.size
  · exact full_35_long t w hT h0 hX hn
  by_cases hn1 : t.size = 1
  · exact full_35_one t w hT h0 hX hn1
  by_cases hlo : by8 t 1 < 128
  · exact full_35_lo t w hT h0 hX (by omega) (by omega) hlo
  by_cases hhi : 159 < by8 t 1
  · exact full_35_hi t w hT h0 hX (by omega) (by omega) hhi
  exact full_35_two t w hT h0 hX (by omega) (by omega)
set_option maxRecDepth 100000 in
set_option maxHeartbeats 1000000 in
theorem full_52_long (t : ByteArray) (w : World) (hT : Tabs w) (h0 : 0 < t.size) (hX : Lib.firstT (by8 t 0) = 52) (hn : 4 ≤ t.size) :
    Calls Tryz.prog 83 #[.string t] w fun e w' => e = .returned (.bool (fullB t.size (by8 t 0) (by8 t 1) (by8 t 2))) ∧ Below w.heap.size w w' := by
  have e : fullB t.size (by8 t 0) (by8 t 1) (by8 t 2) = true := by
    unfold fullB
    rw [hX]
    rw [if_pos (by omega)]
  rw [e]
  obtain ⟨b0, hb0⟩ : ∃ b, (t[0]'h0).toNat = b := ⟨_, rfl⟩
  have l0 : b0 < 256 := by rw [← hb0]; exact (t[0]'h0).toNat_lt
  have g0 : by8 t 0 = b0 := by rw [by8_at t 0 h0, hb0]
  rw [g0] at hX
  have hc0 : w.cell? ⟨3, b0, none⟩ = some (.int .u8 52) := by
    have := hT.1 b0 l0
    rw [hX] at this
    exact this
  have hz : ((t.size : Int) == 0) = false := beq_eq_false_iff_ne.2 (by omega)
  have hz0 : (0 : Int) < (t.size : Int) := by omega
  have hz1 : (4 : Int) ≤ (t.size : Int) := by omega
  clear hX g0 e hT
  go_enter Tryz.func83, Tryz.ntmps83
  go_wp2
  go_ret
  exact ⟨rfl, Below.refl _ _⟩
set_option maxRecDepth 100000 in
set_option maxHeartbeats 1000000 in
theorem full_52_one (t : ByteArray) (w : World) (hT : Tabs w) (h0 : 0 < t.size) (hX : Lib.firstT (by8 t 0) = 52) (hn : t.size = 1) :
    Calls Tryz.prog 83 #[.string t] w fun e w' => e = .returned (.bool (fullB t.size (by8 t 0) (by8 t 1) (by8 t 2))) ∧ Below w.heap.size w w' := by
  have e : fullB t.size (by8 t 0) (by8 t 1) (by8 t 2) = false := by
    unfold fullB
    rw [hX]
    rw [if_neg (by omega), if_neg (by omega), decide_eq_false (by omega)]
  rw [e]
  obtain ⟨b0, hb0⟩ : ∃ b, (t[0]'h0).toNat = b := ⟨_, rfl⟩
  have l0 : b0 < 256 := by rw [← hb0]; exact (t[0]'h0).toNat_lt
  have g0 : by8 t 0 = b0 := by rw [by8_at t 0 h0, hb0]
  rw [g0] at hX
  have hc0 : w.cell? ⟨3, b0, none⟩ = some (.int .u8 52) := by
    have := hT.1 b0 l0
    rw [hX] at this
    exact this
  have hz : ((t.size : Int) == 0) = false := beq_eq_false_iff_ne.2 (by omega)
  have hz0 : (0 : Int) < (t.size : Int) := by omega
  have ha0 : w.cell? ⟨4, 6, none⟩ = some (.int .u8 144) := (hT.2 3 (by omega)).1
  have ha1 : w.cell? ⟨4, 7, none⟩ = some (.int .u8 191) := (hT.2 3 (by omega)).2
  have hz1 : ¬ (4 : Int) ≤ (t.size : Int) := by omega
  have hz2 : ¬ (1 : Int) < (t.size : Int) := by omega
  have hz3 : ¬ (2 : Int) < (t.size : Int) := by omega
  clear hX g0 e hT
  go_enter Tryz.func83, Tryz.ntmps83
  go_upto_region 8 with fail
  have bel : Below w.heap.size w (w.alloc (.cells #[.int .u8 144, .int .u8 191] 157)) := (Below.refl _ _).alloc (Nat.le_refl _) _
  have k0 : (w.alloc (.cells #[.int .u8 144, .int .u8 191] 157)).cell? ⟨w.heap.size, 0, none⟩ = some (.int .u8 144) := (cell_of_row _ w.heap.size 0 _ _ _ (heap_alloc_new w _)).trans rfl
  have k1 : (w.alloc (.cells #[.int .u8 144, .int .u8 191] 157)).cell? ⟨w.heap.size, 1, none⟩ = some (.int .u8 191) := (cell_of_row _ w.heap.size 1 _ _ _ (heap_alloc_new w _)).trans rfl
  generalize w.alloc (.cells #[.int .u8 144, .int .u8 191] 157) = w1 at *
  clear hc0 ha0 ha1
  go_quiet (fail)
  go_wp2
  go_ret
  exact ⟨rfl, below_drewN bel nq⟩
set_option maxRecDepth 100000 in
set_option maxHeartbeats 1000000 in
theorem full_52_lo (t : ByteArray) (w : World) (hT : Tabs w) (h0 : 0 < t.size) (hX : Lib.firstT (by8 t 0) = 52) (hn : 1 < t.size) (hn2 : t.size < 4) (hb : by8 t 1 < 144) :
    Calls Tryz.prog 83 #[.string t] w fun e w' => e = .returned (.bool (fullB t.size (by8 t 0) (by8 t 1) (by8 t 2))) ∧ Below w.heap.size w w' := by
  have e : fullB t.size (by8 t 0) (by8 t 1) (by8 t 2) = true := by
    unfold fullB
    rw [hX]
    rw [if_neg (by omega), if_pos ⟨by omega, by simp [Lib.accLo, Lib.accHi]; omega⟩]
  rw [e]
  obtain ⟨b0, hb0⟩ : ∃ b, (t[0]'h0).toNat = b := ⟨_, rfl⟩
  have l0 : b0 < 256 := by rw [← hb0]; exact (t[0]'h0).toNat_lt
  have g0 : by8 t 0 = b0 := by rw [by8_at t 0 h0, hb0]
  rw [g0] at hX
  have hc0 : w.cell? ⟨3, b0, none⟩ = some (.int .u8 52) := by
    have := hT.1 b0 l0
    rw [hX] at this
    exact this
  have hz : ((t.size : Int) == 0) = false := beq_eq_false_iff_ne.2 (by omega)
  have hz0 : (0 : Int) < (t.size : Int) := by omega
  have ha0 : w.cell? ⟨4, 6, none⟩ = some (.int .u8 144) := (hT.2 3 (by omega)).1
  have ha1 : w.cell? ⟨4, 7, none⟩ = some (.int .u8 191) := (hT.2 3 (by omega)).2
  have hz1 : ¬ (4 : Int) ≤ (t.size : Int) := by omega
  have hz2 : (1 : Int) < (t.size : Int) := by omega
  have h1 : 1 < t.size := by omega
  obtain ⟨b1, hb1⟩ : ∃ b, (t[1]'h1).toNat = b := ⟨_, rfl⟩
  have g1 : by8 t 1 = b1 := by rw [by8_at t 1 h1, hb1]
  rw [g1] at hb
  have q1 : (b1 : Int) < 144 := by omega
  clear hX g0 e hT
  go_enter Tryz.func83, Tryz.ntmps83
  go_upto_region 8 with fail
  have bel : Below w.heap.size w (w.alloc (.cells #[.int .u8 144, .int .u8 191] 157)) := (Below.refl _ _).alloc (Nat.le_refl _) _
  have k0 : (w.alloc (.cells #[.int .u8 144, .int .u8 191] 157)).cell? ⟨w.heap.size, 0, none⟩ = some (.int .u8 144) := (cell_of_row _ w.heap.size 0 _ _ _ (heap_alloc_new w _)).trans rfl
  have k1 : (w.alloc (.cells #[.int .u8 144, .int .u8 191] 157)).cell? ⟨w.heap.size, 1, none⟩ = some (.int .u8 191) := (cell_of_row _ w.heap.size 1 _ _ _ (heap_alloc_new w _)).trans rfl
  generalize w.alloc (.cells #[.int .u8 144, .int .u8 191] 157) = w1 at *
  clear hc0 ha0 ha1
  go_quiet (fail)
  go_wp2
  go_ret
  exact ⟨rfl, below_drewN bel nq⟩
set_option maxRecDepth 100000 in
set_option maxHeartbeats 1000000 in
theorem full_52_hi (t : ByteArray) (w : World) (hT : Tabs w) (h0 : 0 < t.size) (hX : Lib.firstT (by8 t 0) = 52) (hn : 1 < t.size) (hn2 : t.size < 4) (hb : 191 < by8 t 1) :
    Calls Tryz.prog 83 #[.string t] w fun e w' => e = .returned (.bool (fullB t.size (by8 t 0) (by8 t 1) (by8 t 2))) ∧ Below w.heap.size w w' := by
  have e : fullB t.size (by8 t 0) (by8 t 1) (by8 t 2) = true := by
    unfold fullB
    rw [hX]
    rw [if_neg (by omega), if_pos ⟨by omega, by simp [Lib.accLo, Lib.accHi]; omega⟩]
  rw [e]
  obtain ⟨b0, hb0⟩ : ∃ b, (t[0]'h0).toNat = b := ⟨_, rfl⟩
  have l0 : b0 < 256 := by rw [← hb0]; exact (t[0]'h0).toNat_lt
  have g0 : by8 t 0 = b0 := by rw [by8_at t 0 h0, hb0]
  rw [g0] at hX
  have hc0 : w.cell? ⟨3, b0, none⟩ = some (.int .u8 52) := by
    have := hT.1 b0 l0
    rw [hX] at this
    exact this
  have hz : ((t.size : Int) == 0) = false := beq_eq_false_iff_ne.2 (by omega)
  have hz0 : (0 : Int) < (t.size : Int) := by omega
  have ha0 : w.cell? ⟨4, 6, none⟩ = some (.int .u8 144) := (hT.2 3 (by omega)).1
  have ha1 : w.cell? ⟨4, 7, none⟩ = some (.int .u8 191) := (hT.2 3 (by omega)).2
  have hz1 : ¬ (4 : Int) ≤ (t.size : Int) := by omega
  have hz2 : (1 : Int) < (t.size : Int) := by omega
  have h1 : 1 < t.size := by omega
  obtain ⟨b1, hb1⟩ : ∃ b, (t[1]'h1).toNat = b := ⟨_, rfl⟩
  have g1 : by8 t 1 = b1 := by rw [by8_at t 1 h1, hb1]
  rw [g1] at hb
  have q1 : ¬ (b1 : Int) < 144 := by omega
  have q2 : (191 : Int) < (b1 : Int) := by omega
  clear hX g0 e hT
  go_enter Tryz.func83, Tryz.ntmps83
  go_upto_region 8 with fail
  have bel : Below w.heap.size w (w.alloc (.cells #[.int .u8 144, .int .u8 191] 157)) := (Below.refl _ _).alloc (Nat.le_refl _) _
  have k0 : (w.alloc (.cells #[.int .u8 144, .int .u8 191] 157)).cell? ⟨w.heap.size, 0, none⟩ = some (.int .u8 144) := (cell_of_row _ w.heap.size 0 _ _ _ (heap_alloc_new w _)).trans rfl
  have k1 : (w.alloc (.cells #[.int .u8 144, .int .u8 191] 157)).cell? ⟨w.heap.size, 1, none⟩ = some (.int .u8 191) := (cell_of_row _ w.heap.size 1 _ _ _ (heap_alloc_new w _)).trans rfl
  generalize w.alloc (.cells #[.int .u8 144, .int .u8 191] 157) = w1 at *
  clear hc0 ha0 ha1
  go_quiet (fail)
  go_wp2
  go_ret
  exact ⟨rfl, below_drewN bel nq⟩
set_option maxRecDepth 100000 in
set_option maxHeartbeats 1000000 in
theorem full_52_two (t : ByteArray) (w : World) (hT : Tabs w) (h0 : 0 < t.size) (hX : Lib.firstT (by8 t 0) = 52) (hn : t.size = 2) (hb : 144 ≤ by8 t 1 ∧ by8 t 1 ≤ 191) :
    Calls Tryz.prog 83 #[.string t] w fun e w' => e = .returned (.bool (fullB t.size (by8 t 0) (by8 t 1) (by8 t 2))) ∧ Below w.heap.size w w' := by
  have e : fullB t.size (by8 t 0) (by8 t 1) (by8 t 2) = false := by
    unfold fullB
    rw [hX]
    rw [if_neg (by omega), if_neg (by simp [Lib.accLo, Lib.accHi]; omega), decide_eq_false (by omega)]
  rw [e]
  obtain ⟨b0, hb0⟩ : ∃ b, (t[0]'h0).toNat = b := ⟨_, rfl⟩
  have l0 : b0 < 256 := by rw [← hb0]; exact (t[0]'h0).toNat_lt
  have g0 : by8 t 0 = b0 := by rw [by8_at t 0 h0, hb0]
  rw [g0] at hX
  have hc0 : w.cell? ⟨3, b0, none⟩ = some (.int .u8 52) := by
    have := hT.1 b0 l0
    rw [hX] at this
    exact this
  have hz : ((t.size : Int) == 0) = false := beq_eq_false_iff_ne.2 (by omega)
  have hz0 : (0 : Int) < (t.size : Int) := by omega
  have ha0 : w.cell? ⟨4, 6, none⟩ = some (.int .u8 144) := (hT.2 3 (by omega)).1
  have ha1 : w.cell? ⟨4, 7, none⟩ = some (.int .u8 191) := (hT.2 3 (by omega)).2
  have hz1 : ¬ (4 : Int) ≤ (t.size : Int) := by omega
  have hz2 : (1 : Int) < (t.size : Int) := by omega
  have h1 : 1 < t.size := by omega
  obtain ⟨b1, hb1⟩ : ∃ b, (t[1]'h1).toNat = b := ⟨_, rfl⟩
  have g1 : by8 t 1 = b1 := by rw [by8_at t 1 h1, hb1]
  rw [g1] at hb
  have q1 : ¬ (b1 : Int) < 144 := by omega
  have q2 : ¬ (191 : Int) < (b1 : Int) := by omega
  have hz3 : ¬ (2 : Int) < (t.size : Int) := by omega
  clear hX g0 e hT
  go_enter Tryz.func83, Tryz.ntmps83
  go_upto_region 8 with fail
  have bel : Below w.heap.size w (w.alloc (.cells #[.int .u8 144, .int .u8 191] 157)) := (Below.refl _ _).alloc (Nat.le_refl _) _
  have k0 : (w.alloc (.cells #[.int .u8 144, .int .u8 191] 157)).cell? ⟨w.heap.size, 0, none⟩ = some (.int .u8 144) := (cell_of_row _ w.heap.size 0 _ _ _ (heap_alloc_new w _)).trans rfl
  have k1 : (w.alloc (.cells #[.int .u8 144, .int .u8 191] 157)).cell? ⟨w.heap.size, 1, none⟩ = some (.int .u8 191) := (cell_of_row _ w.heap.size 1 _ _ _ (heap_alloc_new w _)).trans rfl
  generalize w.alloc (.cells #[.int .u8 144, .int .u8 191] 157) = w1 at *
  clear hc0 ha0 ha1
  go_quiet (fail)
  go_wp2
  go_ret
  exact ⟨rfl, below_drewN bel nq⟩
set_option maxRecDepth 100000 in
set_option maxHeartbeats 1000000 in
theorem full_52_tlo (t : ByteArray) (w : World) (hT : Tabs w) (h0 : 0 < t.size) (hX : Lib.firstT (by8 t 0) = 52) (hn : t.size = 3) (hb : 144 ≤ by8 t 1 ∧ by8 t 1 ≤ 191) (hc : by8 t 2 < 128) :
    Calls Tryz.prog 83 #[.string t] w fun e w' => e = .returned (.bool (fullB t.size (by8 t 0) (by8 t 1) (by8 t 2))) ∧ Below w.heap.size w w' := by
  have e : fullB t.size (by8 t 0) (by8 t 1) (by8 t 2) = true := by
    unfold fullB
    rw [hX]
    rw [if_neg (by omega), if_neg (by simp [Lib.accLo, Lib.accHi]; omega), decide_eq_true (by omega)]
  rw [e]
  obtain ⟨b0, hb0⟩ : ∃ b, (t[0]'h0).toNat = b := ⟨_, rfl⟩
  have l0 : b0 < 256 := by rw [← hb0]; exact (t[0]'h0).toNat_lt
  have g0 : by8 t 0 = b0 := by rw [by8_at t 0 h0, hb0]
  rw [g0] at hX
  have hc0 : w.cell? ⟨3, b0, none⟩ = some (.int .u8 52) := by
    have := hT.1 b0 l0
    rw [hX] at this
    exact this
  have hz : ((t.size : Int) == 0) = false := beq_eq_false_iff_ne.2 (by omega)
  have hz0 : (0 : Int) < (t.size : Int) := by omega
  have ha0 : w.cell? ⟨4, 6, none⟩ = some (.int .u8 144) := (hT.2 3 (by omega)).1
  have ha1 : w.cell? ⟨4, 7, none⟩ = some (.int .u8 191) := (hT.2 3 (by omega)).2
  have hz1 : ¬ (4 : Int) ≤ (t.size : Int) := by omega
  have hz2 : (1 : Int) < (t.size : Int) := by omega
  have h1 : 1 < t.size := by omega
  obtain ⟨b1, hb1⟩ : ∃ b, (t[1]'h1).toNat = b := ⟨_, rfl⟩
  have g1 : by8 t 1 = b1 := by rw [by8_at t 1 h1, hb1]
  rw [g1] at hb
  have h2 : 2 < t.size := by omega
  obtain ⟨b2, hb2⟩ : ∃ b, (t[2]'h2).toNat = b := ⟨_, rfl⟩
  have g2 : by8 t 2 = b2 := by rw [by8_at t 2 h2, hb2]
  rw [g2] at hc
  have hz3 : (2 : Int) < (t.size : Int) := by omega
  have q1 : ¬ (b1 : Int) < 144 := by omega
  have q2 : ¬ (191 : Int) < (b1 : Int) := by omega
  have q3 : (b2 : Int) < 128 := by omega
  clear hX g0 e hT
  go_enter Tryz.func83, Tryz.ntmps83
  go_upto_region 8 with fail
  have bel : Below w.heap.size w (w.alloc (.cells #[.int .u8 144, .int .u8 191] 157)) := (Below.refl _ _).alloc (Nat.le_refl _) _
  have k0 : (w.alloc (.cells #[.int .u8 144, .int .u8 191] 157)).cell? ⟨w.heap.size, 0, none⟩ = some (.int .u8 144) := (cell_of_row _ w.heap.size 0 _ _ _ (heap_alloc_new w _)).trans rfl
  have k1 : (w.alloc (.cells #[.int .u8 144, .int .u8 191] 157)).cell? ⟨w.heap.size, 1, none⟩ = some (.int .u8 191) := (cell_of_row _ w.heap.size 1 _ _ _ (heap_alloc_new w _)).trans rfl
  generalize w.alloc (.cells #[.int .u8 144, .int .u8 191] 157) = w1 at *
  clear hc0 ha0 ha1
  go_quiet (fail)
  go_wp2
  go_ret
  exact ⟨rfl, below_drewN bel nq⟩
set_option maxRecDepth 100000 in
set_option maxHeartbeats 1000000 in
theorem full_52_thi (t : ByteArray) (w : World) (hT : Tabs w) (h0 : 0 < t.size) (hX : Lib.firstT (by8 t 0) = 52) (hn : t.size = 3) (hb : 144 ≤ by8 t 1 ∧ by8 t 1 ≤ 191) (hc : 191 < by8 t 2) :
    Calls Tryz.prog 83 #[.string t] w fun e w' => e = .returned (.bool (fullB t.size (by8 t 0) (by8 t 1) (by8 t 2))) ∧ Below w.heap.size w w' := by
  have e : fullB t.size (by8 t 0) (by8 t 1) (by8 t 2) = true := by
    unfold fullB
    rw [hX]
    rw [if_neg (by omega), if_neg (by simp [Lib.accLo, Lib.accHi]; omega), decide_eq_true (by omega)]
  rw [e]
  obtain ⟨b0, hb0⟩ : ∃ b, (t[0]'h0).toNat = b := ⟨_, rfl⟩
  have l0 : b0 < 256 := by rw [← hb0]; exact (t[0]'h0).toNat_lt
  have g0 : by8 t 0 = b0 := by rw [by8_at t 0 h0, hb0]
  rw [g0] at hX
  have hc0 : w.cell? ⟨3, b0, none⟩ = some (.int .u8 52) := by
    have := hT.1 b0 l0
    rw [hX] at this
    exact this
  have hz : ((t.size : Int) == 0) = false := beq_eq_false_iff_ne.2 (by omega)
  have hz0 : (0 : Int) < (t.size : Int) := by omega
  have ha0 : w.cell? ⟨4, 6, none⟩ = some (.int .u8 144) := (hT.2 3 (by omega)).1
  have ha1 : w.cell? ⟨4, 7, none⟩ = some (.int .u8 191) := (hT.2 3 (by omega)).2
  have hz1 : ¬ (4 : Int) ≤ (t.size : Int) := by omega
  have hz2 : (1 : Int) < (t.size : Int) := by omega
  have h1 : 1 < t.size := by omega
  obtain ⟨b1, hb1⟩ : ∃ b, (t[1]'h1).toNat = b := ⟨_, rfl⟩
  have g1 : by8 t 1 = b1 := by rw [by8_at t 1 h1, hb1]
  rw [g1] at hb
  have h2 : 2 < t.size := by omega
  obtain ⟨b2, hb2⟩ : ∃ b, (t[2]'h2).toNat = b := ⟨_, rfl⟩
  have g2 : by8 t 2 = b2 := by rw [by8_at t 2 h2, hb2]
  rw [g2] at hc
  have hz3 : (2 : Int) < (t.size : Int) := by omega
  have q1 : ¬ (b1 : Int) < 144 := by omega
  have q2 : ¬ (191 : Int) < (b1 : Int) := by omega
  have q3 : ¬ (b2 : Int) < 128 := by omega
  have q4 : (191 : Int) < (b2 : Int) := by omega
  clear hX g0 e hT
  go_enter Tryz.func83, Tryz.ntmps83
  go_upto_region 8 with fail
  have bel : Below w.heap.size w (w.alloc (.cells #[.int .u8 144, .int .u8 191] 157)) := (Below.refl _ _).alloc (Nat.le_refl _) _
  have k0 : (w.alloc (.cells #[.int .u8 144, .int .u8 191] 157)).cell? ⟨w.heap.size, 0, none⟩ = some (.int .u8 144) := (cell_of_row _ w.heap.size 0 _ _ _ (heap_alloc_new w _)).trans rfl
  have k1 : (w.alloc (.cells #[.int .u8 144, .int .u8 191] 157)).cell? ⟨w.heap.size, 1, none⟩ = some (.int .u8 191) := (cell_of_row _ w.heap.size 1 _ _ _ (heap_alloc_new w _)).trans rfl
  generalize w.alloc (.cells #[.int .u8 144, .int .u8 191] 157) = w1 at *
  clear hc0 ha0 ha1
  go_quiet (fail)
  go_wp2
  go_ret
  exact ⟨rfl, below_drewN bel nq⟩
set_option maxRecDepth 100000 in
set_option maxHeartbeats 1000000 in
theorem full_52_three (t : ByteArray) (w : World) (hT : Tabs w) (h0 : 0 < t.size) (hX : Lib.firstT (by8 t 0) = 52) (hn : t.size = 3) (hb : 144 ≤ by8 t 1 ∧ by8 t 1 ≤ 191) (hc : 128 ≤ by8 t 2 ∧ by8 t 2 ≤ 191) :
    Calls Tryz.prog 83 #[.string t] w fun e w' => e = .returned (.bool (fullB t.size (by8 t 0) (by8 t 1) (by8 t 2))) ∧ Below w.heap.size w w' := by
  have e : fullB t.size (by8 t 0) (by8 t 1) (by8 t 2) = false := by
    unfold fullB
    rw [hX]
    rw [if_neg (by omega), if_neg (by simp [Lib.accLo, Lib.accHi]; omega), decide_eq_false (by omega)]
  rw [e]
  obtain ⟨b0, hb0⟩ : ∃ b, (t[0]'h0).toNat = b := ⟨_, rfl⟩
  have l0 : b0 < 256 := by rw [← hb0]; exact (t[0]'h0).toNat_lt
  have g0 : by8 t 0 = b0 := by rw [by8_at t 0 h0, hb0]
  rw [g0] at hX
  have hc0 : w.cell? ⟨3, b0, none⟩ = some (.int .u8 52) := by
    have := hT.1 b0 l0
    rw [hX] at this
    exact this
  have hz : ((t.size : Int) == 0) = false := beq_eq_false_iff_ne.2 (by omega)
  have hz0 : (0 : Int) < (t.size : Int) := by omega
  have ha0 : w.cell? ⟨4, 6, none⟩ = some (.int .u8 144) := (hT.2 3 (by omega)).1
  have ha1 : w.cell? ⟨4, 7, none⟩ = some (.int .u8 191) := (hT.2 3 (by omega)).2
  have hz1 : ¬ (4 : Int) ≤ (t.size : Int) := by omega
  have hz2 : (1 : Int) < (t.size : Int) := by omega
  have h1 : 1 < t.size := by omega
  obtain ⟨b1, hb1⟩ : ∃ b, (t[1]'h1).toNat = b := ⟨_, rfl⟩
  have g1 : by8 t 1 = b1 := by rw [by8_at t 1 h1, hb1]
  rw [g1] at hb
  have h2 : 2 < t.size := by omega
  obtain ⟨b2, hb2⟩ : ∃ b, (t[2]'h2).toNat = b := ⟨_, rfl⟩
  have g2 : by8 t 2 = b2 := by rw [by8_at t 2 h2, hb2]
  rw [g2] at hc
  have hz3 : (2 : Int) < (t.size : Int) := by omega
  have q1 : ¬ (b1 : Int) < 144 := by omega
  have q2 : ¬ (191 : Int) < (b1 : Int) := by omega
  have q3 : ¬ (b2 : Int) < 128 := by omega
  have q4 : ¬ (191 : Int) < (b2 : Int) := by omega
  clear hX g0 e hT
  go_enter Tryz.func83, Tryz.ntmps83
  go_upto_region 8 with fail
  have bel : Below w.heap.size w (w.alloc (.cells #[.int .u8 144, .int .u8 191] 157)) := (Below.refl _ _).alloc (Nat.le_refl _) _
  have k0 : (w.alloc (.cells #[.int .u8 144, .int .u8 191] 157)).cell? ⟨w.heap.size, 0, none⟩ = some (.int .u8 144) := (cell_of_row _ w.heap.size 0 _ _ _ (heap_alloc_new w _)).trans rfl
  have k1 : (w.alloc (.cells #[.int .u8 144, .int .u8 191] 157)).cell? ⟨w.heap.size, 1, none⟩ = some (.int .u8 191) := (cell_of_row _ w.heap.size 1 _ _ _ (heap_alloc_new w _)).trans rfl
  generalize w.alloc (.cells #[.int .u8 144, .int .u8 191] 157) = w1 at *
  clear hc0 ha0 ha1
  go_quiet (fail)
  go_wp2
  go_ret
  exact ⟨rfl, below_drewN bel nq⟩
theorem full_52 (t : ByteArray) (w : World) (hT : Tabs w) (h0 : 0 < t.size) (hX : Lib.firstT (by8 t 0) = 52) :
    Calls Tryz.prog 83 #[.string t] w fun e w' => e = .returned (.bool (fullB t.size (by8 t 0) (by8 t 1) (by8 t 2))) ∧ Below w.heap.size w w' := by
  by_cases hn : 4 ≤ t.size
  · exact full_52_long t w hT h0 hX hn
  by_cases hn1 : t.size = 1
  · exact full_52_one t w hT h0 hX hn1
  by_cases hlo : by8 t 1 < 144
  · exact full_52_lo t w hT h0 hX (by omega) (by omega) hlo
  by_cases hhi : 191 < by8 t 1
  · exact full_52_hi t w hT h0 hX (by omega) (by omega) hhi
  by_cases hn2 : t.size = 2
  · exact full_52_two t w hT h0 hX (by omega) (by omega)
  by_cases h2lo : by8 t 2 < 128
  · exact full_52_tlo t w hT h0 hX (by omega) (by omega) h2lo
  by_cases h2hi : 191 < by8 t 2
  · exact full_52_thi t w hT h0 hX (by omega) (by omega) h2hi
  exact full_52_three t w hT h0 hX (by omega) (by omega) (by omega)
set_option maxRecDepth 100000 in
set_option maxHeartbeats 1000000 in
theorem full_4_long (t : ByteArray) (w : World) (hT : Tabs w) (h0 : 0 < t.size) (hX : Lib.firstT (by8 t 0) = 4) (hn : 4 ≤ t.size) :
    Calls Tryz.prog 83 #[.string t] w fun e w' => e = .returned (.bool (fullB t.size (by8 t 0) (by8 t 1) (by8 t 2))) ∧ Below w.heap.size w w' := by
  have e : fullB t.size (by8 t 0) (by8 t 1) (by8 t 2) = true := by
    unfold fullB
    rw [hX]
    rw [if_pos (by omega)]
  rw [e]
  obtain ⟨b0, hb0⟩ : ∃ b, (t[0]'h0).toNat = b := ⟨_, rfl⟩
  have l0 : b0 < 256 := by rw [← hb0]; exact (t[0]'h0).toNat_lt
  have g0 : by8 t 0 = b0 := by rw [by8_at t 0 h0, hb0]
  rw [g0] at hX
  have hc0 : w.cell? ⟨3, b0, none⟩ = some (.int .u8 4) := by
    have := hT.1 b0 l0
    rw [hX] at this
    exact this
  have hz : ((t.size : Int) == 0) = false := beq_eq_false_iff_ne.2 (by omega)
  have hz0 : (0 : Int) < (t.size : Int) := by omega
  have hz1 : (4 : Int) ≤ (t.size : Int) := by omega
  clear hX g0 e hT
  go_enter Tryz.func83, Tryz.ntmps83
  go_wp2
  go_ret
  exact ⟨rfl, Below.refl _ _⟩
set_option maxRecDepth 100000 in
set_option maxHeartbeats 1000000 in
theorem full_4_one (t : ByteArray) (w : World) (hT : Tabs w) (h0 : 0 < t.size) (hX : Lib.firstT (by8 t 0) = 4) (hn : t.size = 1) :
    Calls Tryz.prog 83 #[.string t] w fun e w' => e = .returned (.bool (fullB t.size (by8 t 0) (by8 t 1) (by8 t 2))) ∧ Below w.heap.size w w' := by
  have e : fullB t.size (by8 t 0) (by8 t 1) (by8 t 2) = false := by
    unfold fullB
    rw [hX]
    rw [if_neg (by omega), if_neg (by omega), decide_eq_false (by omega)]
  rw [e]
  obtain ⟨b0, hb0⟩ : ∃ b, (t[0]'h0).toNat = b := ⟨_, rfl⟩
  have l0 : b0 < 256 := by rw [← hb0]; exact (t[0]'h0).toNat_lt
  have g0 : by8 t 0 = b0 := by rw [by8_at t 0 h0, hb0]
  rw [g0] at hX
  have hc0 : w.cell? ⟨3, b0, none⟩ = some (.int .u8 4) := by
    have := hT.1 b0 l0
    rw [hX] at this
    exact this
  have hz : ((t.size : Int) == 0) = false := beq_eq_false_iff_ne.2 (by omega)
  have hz0 : (0 : Int) < (t.size : Int) := by omega
  have ha0 : w.cell? ⟨4, 0, none⟩ = some (.int .u8 128) := (hT.2 0 (by omega)).1
  have ha1 : w.cell? ⟨4, 1, none⟩ = some (.int .u8 191) := (hT.2 0 (by omega)).2
  have hz1 : ¬ (4 : Int) ≤ (t.size : Int) := by omega
  have hz2 : ¬ (1 : Int) < (t.size : Int) := by omega
  have hz3 : ¬ (2 : Int) < (t.size : Int) := by omega
  clear hX g0 e hT
  go_enter Tryz.func83, Tryz.ntmps83
  go_upto_region 8 with fail
  have bel : Below w.heap.size w (w.alloc (.cells #[.int .u8 128, .int .u8 191] 157)) := (Below.refl _ _).alloc (Nat.le_refl _) _
  have k0 : (w.alloc (.cells #[.int .u8 128, .int .u8 191] 157)).cell? ⟨w.heap.size, 0, none⟩ = some (.int .u8 128) := (cell_of_row _ w.heap.size 0 _ _ _ (heap_alloc_new w _)).trans rfl
  have k1 : (w.alloc (.cells #[.int .u8 128, .int .u8 191] 157)).cell? ⟨w.heap.size, 1, none⟩ = some (.int .u8 191) := (cell_of_row _ w.heap.size 1 _ _ _ (heap_alloc_new w _)).trans rfl
  generalize w.alloc (.cells #[.int .u8 128, .int .u8 191] 157) = w1 at *
  clear hc0 ha0 ha1
  go_quiet (fail)
  go_wp2
  go_ret
  exact ⟨rfl, below_drewN bel nq⟩
set_option maxRecDepth 100000 in
set_option maxHeartbeats 1000000 in
theorem full_4_lo (t : ByteArray) (w : World) (hT : Tabs w) (h0 : 0 < t.size) (hX : Lib.firstT (by8 t 0) = 4) (hn : 1 < t.size) (hn2 : t.size < 4) (hb : by8 t 1 < 128) :
    Calls Tryz.prog 83 #[.string t] w fun e w' => e = .returned (.bool (fullB t.size (by8 t 0) (by8 t 1) (by8 t 2))) ∧ Below w.heap.size w w' := by
  have e : fullB t.size (by8 t 0) (by8 t 1) (by8 t 2) = true := by
    unfold fullB
    rw [hX]
    rw [if_neg (by omega), if_pos ⟨by omega, by simp [Lib.accLo, Lib.accHi]; omega⟩]
  rw [e]
  obtain ⟨b0, hb0⟩ : ∃ b, (t[0]'h0).toNat = b := ⟨_, rfl⟩
  have l0 : b0 < 256 := by rw [← hb0]; exact (t[0]'h0).toNat_lt
  have g0 : by8 t 0 = b0 := by rw [by8_at t 0 h0, hb0]
  rw [g0] at hX
  have hc0 : w.cell? ⟨3, b0, none⟩ = some (.int .u8 4) := by
    have := hT.1 b0 l0
    rw [hX] at this
    exact this
  have hz : ((t.size : Int) == 0) = false := beq_eq_false_iff_ne.2 (by omega)
  have hz0 : (0 : Int) < (t.size : Int) := by omega
  have ha0 : w.cell? ⟨4, 0, none⟩ = some (.int .u8 128) := (hT.2 0 (by omega)).1
  have ha1 : w.cell? ⟨4, 1, none⟩ = some (.int .u8 191) := (hT.2 0 (by omega)).2
  have hz1 : ¬ (4 : Int) ≤ (t.size : Int) := by omega
  have hz2 : (1 : Int) < (t.size : Int) := by omega
  have h1 : 1 < t.size := by omega
  obtain ⟨b1, hb1⟩ : ∃ b, (t[1]'h1).toNat = b := ⟨_, rfl⟩
  have g1 : by8 t 1 = b1 := by rw [by8_at t 1 h1, hb1]
  rw [g1] at hb
  have q1 : (b1 : Int) < 128 := by omega
  clear hX g0 e hT
  go_enter Tryz.func83, Tryz.ntmps83
  go_upto_region 8 with fail
  have bel : Below w.heap.size w (w.alloc (.cells #[.int .u8 128, .int .u8 191] 157)) := (Below.refl _ _).alloc (Nat.le_refl _) _
  have k0 : (w.alloc (.cells #[.int .u8 128, .int .u8 191] 157)).cell? ⟨w.heap.size, 0, none⟩ = some (.int .u8 128) := (cell_of_row _ w.heap.size 0 _ _ _ (heap_alloc_new w _)).trans rfl
  have k1 : (w.alloc (.cells #[.int .u8 128, .int .u8 191] 157)).cell? ⟨w.heap.size, 1, none⟩ = some (.int .u8 191) := (cell_of_row _ w.heap.size 1 _ _ _ (heap_alloc_new w _)).trans rfl
  generalize w.alloc (.cells #[.int .u8 128, .int .u8 191] 157) = w1 at *
  clear hc0 ha0 ha1
  go_quiet (fail)
  go_wp2
  go_ret
  exact ⟨rfl, below_drewN bel nq⟩
set_option maxRecDepth 100000 in
set_option maxHeartbeats 1000000 in
theorem full_4_hi (t : ByteArray) (w : World) (hT : Tabs w) (h0 : 0 < t.size) (hX : Lib.firstT (by8 t 0) = 4) (hn : 1 < t.size) (hn2 : t.size < 4) (hb : 191 < by8 t 1) :
    Calls Tryz.prog 83 #[.string t] w fun e w' => e = .returned (.bool (fullB t.size (by8 t 0) (by8 t 1) (by8 t 2))) ∧ Below w.heap.size w w' := by
  have e : fullB t.size (by8 t 0) (by8 t 1) (by8 t 2) = true := by
    unfold fullB
    rw [hX]
    rw [if_neg (by omega), if_pos ⟨by omega, by simp [Lib.accLo, Lib.accHi]; omega⟩]
  rw [e]
  obtain ⟨b0, hb0⟩ : ∃ b, (t[0]'h0).toNat = b := ⟨_, rfl⟩
  have l0 : b0 < 256 := by rw [← hb0]; exact (t[0]'h0).toNat_lt
  have g0 : by8 t 0 = b0 := by rw [by8_at t 0 h0, hb0]
  rw [g0] at hX
  have hc0 : w.cell? ⟨3, b0, none⟩ = some (.int .u8 4) := by
    have := hT.1 b0 l0
    rw [hX] at this
    exact this
  have hz : ((t.size : Int) == 0) = false := beq_eq_false_iff_ne.2 (by omega)
  have hz0 : (0 : Int) < (t.size : Int) := by omega
  have ha0 : w.cell? ⟨4, 0, none⟩ = some (.int .u8 128) := (hT.2 0 (by omega)).1
  have ha1 : w.cell? ⟨4, 1, none⟩ = some (.int .u8 191) := (hT.2 0 (by omega)).2
  have hz1 : ¬ (4 : Int) ≤ (t.size : Int) := by omega
  have hz2 : (1 : Int) < (t.size : Int) := by omega
  have h1 : 1 < t.size := by omega
  obtain ⟨b1, hb1⟩ : ∃ b, (t[1]'h1).toNat = b := ⟨_, rfl⟩
  have g1 : by8 t 1 = b1 := by rw [by8_at t 1 h1, hb1]
  rw [g1] at hb
  have q1 : ¬ (b1 : Int) < 128 := by omega
  have q2 : (191 : Int) < (b1 : Int) := by omega
  clear hX g0 e hT
  go_enter Tryz.func83, Tryz.ntmps83
  go_upto_region 8 with fail
  have bel : Below w.heap.size w (w.alloc (.cells #[.int .u8 128, .int .u8 191] 157)) := (Below.refl _ _).alloc (Nat.le_refl _) _
  have k0 : (w.alloc (.cells #[.int .u8 128, .int .u8 191] 157)).cell? ⟨w.heap.size, 0, none⟩ = some (.int .u8 128) := (cell_of_row _ w.heap.size 0 _ _ _ (heap_alloc_new w _)).trans rfl
  have k1 : (w.alloc (.cells #[.int .u8 128, .int .u8 191] 157)).cell? ⟨w.heap.size, 1, none⟩ = some (.int .u8 191) := (cell_of_row _ w.heap.size 1 _ _ _ (heap_alloc_new w _)).trans rfl
  generalize w.alloc (.cells #[.int .u8 128, .int .u8 191] 157) = w1 at *
  clear hc0 ha0 ha1
  go_quiet (fail)
  go_wp2
  go_ret
  exact ⟨rfl, below_drewN bel nq⟩
set_option maxRecDepth 100000 in
set_option maxHeartbeats 1000000 in
theorem full_4_two (t : ByteArray) (w : World) (hT : Tabs w) (h0 : 0 < t.size) (hX : Lib.firstT (by8 t 0) = 4) (hn : t.size = 2) (hb : 128 ≤ by8 t 1 ∧ by8 t 1 ≤ 191) :
    Calls Tryz.prog 83 #[.string t] w fun e w' => e = .returned (.bool (fullB t.size (by8 t 0) (by8 t 1) (by8 t 2))) ∧ Below w.heap.size w w' := by
  have e : fullB t.size (by8 t 0) (by8 t 1) (by8 t 2) = false := by
    unfold fullB
    rw [hX]
    rw [if_neg (by omega), if_neg (by simp [Lib.accLo, Lib.accHi]; omega), decide_eq_false (by omega)]
  rw [e]
  obtain ⟨b0, hb0⟩ : ∃ b, (t[0]'h0).toNat = b := ⟨_, rfl⟩
  have l0 : b0 < 256 := by rw [← hb0]; exact (t[0]'h0).toNat_lt
  have g0 : by8 t 0 = b0 := by rw [by8_at t 0 h0, hb0]
  rw [g0] at hX
  have hc0 : w.cell? ⟨3, b0, none⟩ = some (.int .u8 4) := by
    have := hT.1 b0 l0
    rw [hX] at this
    exact this
  have hz : ((t.size : Int) == 0) = false := beq_eq_false_iff_ne.2 (by omega)
  have hz0 : (0 : Int) < (t.size : Int) := by omega
  have ha0 : w.cell? ⟨4, 0, none⟩ = some (.int .u8 128) := (hT.2 0 (by omega)).1
  have ha1 : w.cell? ⟨4, 1, none⟩ = some (.int .u8 191) := (hT.2 0 (by omega)).2
  have hz1 : ¬ (4 : Int) ≤ (t.size : Int) := by omega
  have hz2 : (1 : Int) < (t.size : Int) := by omega
  have h1 : 1 < t.size := by omega
  obtain ⟨b1, hb1⟩ : ∃ b, (t[1]'h1).toNat = b := ⟨_, rfl⟩
  have g1 : by8 t 1 = b1 := by rw [by8_at t 1 h1, hb1]
  rw [g1] at hb
  have q1 : ¬ (b1 : Int) < 128 := by omega
  have q2 : ¬ (191 : Int) < (b1 : Int) := by omega
  have hz3 : ¬ (2 : Int) < (t.size : Int) := by omega
  clear hX g0 e hT
  go_enter Tryz.func83, Tryz.ntmps83
  go_upto_region 8 with fail
  have bel : Below w.heap.size w (w.alloc (.cells #[.int .u8 128, .int .u8 191] 157)) := (Below.refl _ _).alloc (Nat.le_refl _) _
  have k0 : (w.alloc (.cells #[.int .u8 128, .int .u8 191] 157)).cell? ⟨w.heap.size, 0, none⟩ = some (.int .u8 128) := (cell_of_row _ w.heap.size 0 _ _ _ (heap_alloc_new w _)).trans rfl
  have k1 : (w.alloc (.cells #[.int .u8 128, .int .u8 191] 157)).cell? ⟨w.heap.size, 1, none⟩ = some (.int .u8 191) := (cell_of_row _ w.heap.size 1 _ _ _ (heap_alloc_new w _)).trans rfl
  generalize w.alloc (.cells #[.int .u8 128, .int .u8 191] 157) = w1 at *
  clear hc0 ha0 ha1
  go_quiet (fail)
  go_wp2
  go_ret
  exact ⟨rfl, below_drewN bel nq⟩
set_option maxRecDepth 100000 in
set_option maxHeartbeats 1000000 in
theorem full_4_tlo (t : ByteArray) (w : World) (hT : Tabs w) (h0 : 0 < t.size) (hX : Lib.firstT (by8 t 0) = 4) (hn : t.size = 3) (hb : 128 ≤ by8 t 1 ∧ by8 t 1 ≤ 191) (hc : by8 t 2 < 128) :
    Calls Tryz.prog 83 #[.string t] w fun e w' => e = .returned (.bool (fullB t.size (by8 t 0) (by8 t 1) (by8 t 2))) ∧ Below w.heap.size w w' := by
  have e : fullB t.size (by8 t 0) (by8 t 1) (by8 t 2) = true := by
    unfold fullB
    rw [hX]
    rw [if_neg (by omega), if_neg (by simp [Lib.accLo, Lib.accHi]; omega), decide_eq_true (by omega)]
  rw [e]
  obtain ⟨b0, hb0⟩ : ∃ b, (t[0]'h0).toNat = b := ⟨_, rfl⟩
  have l0 : b0 < 256 := by rw [← hb0]; exact (t[0]'h0).toNat_lt
  have g0 : by8 t 0 = b0 := by rw [by8_at t 0 h0, hb0]
  rw [g0] at hX
  have hc0 : w.cell? ⟨3, b0, none⟩ = some (.int .u8 4) := by
    have := hT.1 b0 l0
    rw [hX] at this
    exact this
  have hz : ((t.size : Int) == 0) = false := beq_eq_false_iff_ne.2 (by omega)
  have hz0 : (0 : Int) < (t.size : Int) := by omega
  have ha0 : w.cell? ⟨4, 0, none⟩ = some (.int .u8 128) := (hT.2 0 (by omega)).1
  have ha1 : w.cell? ⟨4, 1, none⟩ = some (.int .u8 191) := (hT.2 0 (by omega)).2
  have hz1 : ¬ (4 : Int) ≤ (t.size : Int) := by omega
  have hz2 : (1 : Int) < (t.size : Int) := by omega
  have h1 : 1 < t.size := by omega
  obtain ⟨b1, hb1⟩ : ∃ b, (t[1]'h1).toNat = b := ⟨_, rfl⟩
  have g1 : by8 t 1 = b1 := by rw [by8_at t 1 h1, hb1]
  rw [g1] at hb
  have h2 : 2 < t.size := by omega
  obtain ⟨b2, hb2⟩ : ∃ b, (t[2]'h2).toNat = b := ⟨_, rfl⟩
  have g2 : by8 t 2 = b2 := by rw [by8_at t 2 h2, hb2]
  rw [g2] at hc
  have hz3 : (2 : Int) < (t.size : Int) := by omega
  have q1 : ¬ (b1 : Int) < 128 := by omega
  have q2 : ¬ (191 : Int) < (b1 : Int) := by omega
  have q3 : (b2 : Int) < 128 := by omega
  clear hX g0 e hT
  go_enter Tryz.func83, Tryz.ntmps83
  go_upto_region 8 with fail
  have bel : Below w.heap.size w (w.alloc (.cells #[.int .u8 128, .int .u8 191] 157)) := (Below.refl _ _).alloc (Nat.le_refl _) _
  have k0 : (w.alloc (.cells #[.int .u8 128, .int .u8 191] 157)).cell? ⟨w.heap.size, 0, none⟩ = some (.int .u8 128) := (cell_of_row _ w.heap.size 0 _ _ _ (heap_alloc_new w _)).trans rfl
  have k1 : (w.alloc (.cells #[.int .u8 128, .int .u8 191] 157)).cell? ⟨w.heap.size, 1, none⟩ = some (.int .u8 191) := (cell_of_row _ w.heap.size 1 _ _ _ (heap_alloc_new w _)).trans rfl
  generalize w.alloc (.cells #[.int .u8 128, .int .u8 191] 157) = w1 at *
  clear hc0 ha0 ha1
  go_quiet (fail)
  go_wp2
  go_ret
  exact ⟨rfl, below_drewN bel nq⟩
set_option maxRecDepth 100000 in
set_option maxHeartbeats 1000000 in
theorem full_4_thi (t : ByteArray) (w : World) (hT : Tabs w) (h0 : 0 < t.size) (hX : Lib.firstT (by8 t 0) = 4) (hn : t.size = 3) (hb : 128 ≤ by8 t 1 ∧ by8 t 1 ≤ 191) (hc : 191 < by8 t 2) :
    Calls Tryz.prog 83 #[.string t] w fun e w' => e = .returned (.bool (fullB t.size (by8 t 0) (by8 t 1) (by8 t 2))) ∧ Below w.heap.size w w' := by
  have e : fullB t.size (by8 t 0) (by8 t 1) (by8 t 2) = true := by
    unfold fullB
    rw [hX]
    rw [if_neg (by omega), if_neg (by simp [Lib.accLo, Lib.accHi]; omega), decide_eq_true (by omega)]
  rw [e]
  obtain ⟨b0, hb0⟩ : ∃ b, (t[0]'h0).toNat = b := ⟨_, rfl⟩
  have l0 : b0 < 256 := by rw [← hb0]; exact (t[0]'h0).toNat_lt
  have g0 : by8 t 0 = b0 := by rw [by8_at t 0 h0, hb0]
  rw [g0] at hX
  have hc0 : w.cell? ⟨3, b0, none⟩ = some (.int .u8 4) := by
    have := hT.1 b0 l0
    rw [hX] at this
    exact this
  have hz : ((t.size : Int) == 0) = false := beq_eq_false_iff_ne.2 (by omega)
  have hz0 : (0 : Int) < (t.size : Int) := by omega
  have ha0 : w.cell? ⟨4, 0, none⟩ = some (.int .u8 128) := (hT.2 0 (by omega)).1
  have ha1 : w.cell? ⟨4, 1, none⟩ = some (.int .u8 191) := (hT.2 0 (by omega)).2
  have hz1 : ¬ (4 : Int) ≤ (t.size : Int) := by omega
  have hz2 : (1 : Int) < (t.size : Int) := by omega
  have h1 : 1 < t.size := by omega
  obtain ⟨b1, hb1⟩ : ∃ b, (t[1]'h1).toNat = b := ⟨_, rfl⟩
  have g1 : by8 t 1 = b1 := by rw [by8_at t 1 h1, hb1]
  rw [g1] at hb
  have h2 : 2 < t.size := by omega
  obtain ⟨b2, hb2⟩ : ∃ b, (t[2]'h2).toNat = b := ⟨_, rfl⟩
  have g2 : by8 t 2 = b2 := by rw [by8_at t 2 h2, hb2]
  rw [g2] at hc
  have hz3 : (2 : Int) < (t.size : Int) := by omega
  have q1 : ¬ (b1 : Int) < 128 := by omega
  have q2 : ¬ (191 : Int) < (b1 : Int) := by omega
  have q3 : ¬ (b2 : Int) < 128 := by omega
  have q4 : (191 : Int) < (b2 : Int) := by omega
  clear hX g0 e hT
  go_enter Tryz.func83, Tryz.ntmps83
  go_upto_region 8 with fail
  have bel : Below w.heap.size w (w.alloc (.cells #[.int .u8 128, .int .u8 191] 157)) := (Below.refl _ _).alloc (Nat.le_refl _) _
  have k0 : (w.alloc (.cells #[.int .u8 128, .int .u8 191] 157)).cell? ⟨w.heap.size, 0, none⟩ = some (.int .u8 128) := (cell_of_row _ w.heap.size 0 _ _ _ (heap_alloc_new w _)).trans rfl
  have k1 : (w.alloc (.cells #[.int .u8 128, .int .u8 191] 157)).cell? ⟨w.heap.size, 1, none⟩ = some (.int .u8 191) := (cell_of_row _ w.heap.size 1 _ _ _ (heap_alloc_new w _)).trans rfl
  generalize w.alloc (.cells #[.int .u8 128, .int .u8 191] 157) = w1 at *
  clear hc0 ha0 ha1
  go_quiet (fail)
  go_wp2
  go_ret
  exact ⟨rfl, below_drewN bel nq⟩
set_option maxRecDepth 100000 in
set_option maxHeartbeats 1000000 in
theorem full_4_three (t : ByteArray) (w : World) (hT : Tabs w) (h0 : 0 < t.size) (hX : Lib.firstT (by8 t 0) = 4) (hn : t.size = 3) (hb : 128 ≤ by8 t 1 ∧ by8 t 1 ≤ 191) (hc : 128 ≤ by8 t 2 ∧ by8 t 2 ≤ 191) :
    Calls Tryz.prog 83 #[.string t] w fun e w' => e = .returned (.bool (fullB t.size (by8 t 0) (by8 t 1) (by8 t 2))) ∧ Below w.heap.size w w' := by
  have e : fullB t.size (by8 t 0) (by8 t 1) (by8 t 2) = false := by
    unfold fullB
    rw [hX]
    rw [if_neg (by omega), if_neg (by simp [Lib.accLo, Lib.accHi]; omega), decide_eq_false (by omega)]
  rw [e]
  obtain ⟨b0, hb0⟩ : ∃ b, (t[0]'h0).toNat = b := ⟨_, rfl⟩
  have l0 : b0 < 256 := by rw [← hb0]; exact (t[0]'h0).toNat_lt
  have g0 : by8 t 0 = b0 := by rw [by8_at t 0 h0, hb0]
  rw [g0] at hX
  have hc0 : w.cell? ⟨3, b0, none⟩ = some (.int .u8 4) := by
    have := hT.1 b0 l0
    rw [hX] at this
    exact this
  have hz : ((t.size : Int) == 0) = false := beq_eq_false_iff_ne.2 (by omega)
  have hz0 : (0 : Int) < (t.size : Int) := by omega
  have ha0 : w.cell? ⟨4, 0, none⟩ = some (.int .u8 128) := (hT.2 0 (by omega)).1
  have ha1 : w.cell? ⟨4, 1, none⟩ = some (.int .u8 191) := (hT.2 0 (by omega)).2
  have hz1 : ¬ (4 : Int) ≤ (t.size : Int) := by omega
  have hz2 : (1 : Int) < (t.size : Int) := by omega
  have h1 : 1 < t.size := by omega
  obtain ⟨b1, hb1⟩ : ∃ b, (t[1]'h1).toNat = b := ⟨_, rfl⟩
  have g1 : by8 t 1 = b1 := by rw [by8_at t 1 h1, hb1]
  rw [g1] at hb
  have h2 : 2 < t.size := by omega
  obtain ⟨b2, hb2⟩ : ∃ b, (t[2]'h2).toNat = b := ⟨_, rfl⟩
  have g2 : by8 t 2 = b2 := by rw [by8_at t 2 h2, hb2]
  rw [g2] at hc
  have hz3 : (2 : Int) < (t.size : Int) := by omega
  have q1 : ¬ (b1 : Int) < 128 := by omega
  have q2 : ¬ (191 : Int) < (b1 : Int) := by omega
  have q3 : ¬ (b2 : Int) < 128 := by omega
  have q4 : ¬ (191 : Int) < (b2 : Int) := by omega
  clear hX g0 e hT
  go_enter Tryz.func83, Tryz.ntmps83
  go_upto_region 8 with fail
  have bel : Below w.heap.size w (w.alloc (.cells #[.int .u8 128, .int .u8 191] 157)) := (Below.refl _ _).alloc (Nat.le_refl _) _
  have k0 : (w.alloc (.cells #[.int .u8 128, .int .u8 191] 157)).cell? ⟨w.heap.size, 0, none⟩ = some (.int .u8 128) := (cell_of_row _ w.heap.size 0 _ _ _ (heap_alloc_new w _)).trans rfl
  have k1 : (w.alloc (.cells #[.int .u8 128, .int .u8 191] 157)).cell? ⟨w.heap.size, 1, none⟩ = some (.int .u8 191) := (cell_of_row _ w.heap.size 1 _ _ _ (heap_alloc_new w _)).trans rfl
  generalize w.alloc (.cells #[.int .u8 128, .int .u8 191] 157) = w1 at *
  clear hc0 ha0 ha1
  go_quiet (fail)
  go_wp2
  go_ret
  exact ⟨rfl, below_drewN bel nq⟩
theorem full_4 (t : ByteArray) (w : World) (hT : Tabs w) (h0 : 0 < t.size) (hX : Lib.firstT (by8 t 0) = 4) :
    Calls Tryz.prog 83 #[.string t] w fun e w' => e = .returned (.bool (fullB t.size (by8 t 0) (by8 t 1) (by8 t 2))) ∧ Below w.heap.size w w' := by
  by_cases hn : 4 ≤ t.size
  · exact full_4_long t w hT h0 hX hn
  by_cases hn1 : t.size = 1
  · exact full_4_one t w hT h0 hX hn1
  by_cases hlo : by8 t 1 < 128
  · exact full_4_lo t w hT h0 hX (by omega) (by omega) hlo
  by_cases hhi : 191 < by8 t 1
  · exact full_4_hi t w hT h0 hX (by omega) (by omega) hhi
  by_cases hn2 : t.size = 2
  · exact full_4_two t w hT h0 hX (by omega) (by omega)
  by_cases h2lo : by8 t 2 < 128
  · exact full_4_tlo t w hT h0 hX (by omega) (by omega) h2lo
  by_cases h2hi : 191 < by8 t 2
  · exact full_4_thi t w hT h0 hX (by omega) (by omega) h2hi
  exact full_4_three t w hT h0 hX (by omega) (by omega) (by omega)
set_option maxRecDepth 100000 in
set_option maxHeartbeats 1000000 in
theorem full_68_long (t : ByteArray) (w : World) (hT : Tabs w) (h0 : 0 < t.size) (hX : Lib.firstT (by8 t 0) = 68) (hn : 4 ≤ t.size) :
    Calls Tryz.prog 83 #[.string t] w fun e w' => e = .returned (.bool (fullB t.size (by8 t 0) (by8 t 1) (by8 t 2))) ∧ Below w.heap.size w w' := by
  have e : fullB t.size (by8 t 0) (by8 t 1) (by8 t 2) = true := by
    unfold fullB
    rw [hX]
    rw [if_pos (by omega)]
  rw [e]
  obtain ⟨b0, hb0⟩ : ∃ b, (t[0]'h0).toNat = b := ⟨_, rfl⟩
  have l0 : b0 < 256 := by rw [← hb0]; exact (t[0]'h0).toNat_lt
  have g0 : by8 t 0 = b0 := by rw [by8_at t 0 h0, hb0]
  rw [g0] at hX
  have hc0 : w.cell? ⟨3, b0, none⟩ = some (.int .u8 68) := by
    have := hT.1 b0 l0
    rw [hX] at this
    exact this
  have hz : ((t.size : Int) == 0) = false := beq_eq_false_iff_ne.2 (by omega)
  have hz0 : (0 : Int) < (t.size : Int) := by omega
  have hz1 : (4 : Int) ≤ (t.size : Int) := by omega
  clear hX g0 e hT
  go_enter Tryz.func83, Tryz.ntmps83
  go_wp2
  go_ret
  exact ⟨rfl, Below.refl _ _⟩
set_option maxRecDepth 100000 in
set_option maxHeartbeats 1000000 in
theorem full_68_one (t : ByteArray) (w : World) (hT : Tabs w) (h0 : 0 < t.size) (hX : Lib.firstT (by8 t 0) = 68) (hn : t.size = 1) :
    Calls Tryz.prog 83 #[.string t] w fun e w' => e = .returned (.bool (fullB t.size (by8 t 0) (by8 t 1) (by8 t 2))) ∧ Below w.heap.size w w' := by
  have e : fullB t.size (by8 t 0) (by8 t 1) (by8 t 2) = false := by
    unfold fullB
    rw [hX]
    rw [if_neg (by omega), if_neg (by omega), decide_eq_false (by omega)]
  rw [e]
  obtain ⟨b0, hb0⟩ : ∃ b, (t[0]'h0).toNat = b := ⟨_, rfl⟩
  have l0 : b0 < 256 := by rw [← hb0]; exact (t[0]'h0).toNat_lt
  have g0 : by8 t 0 = b0 := by rw [by8_at t 0 h0, hb0]
  rw [g0] at hX
  have hc0 : w.cell? ⟨3, b0, none⟩ = some (.int .u8 68) := by
    have := hT.1 b0 l0
    rw [hX] at this
    exact this
  have hz : ((t.size : Int) == 0) = false := beq_eq_false_iff_ne.2 (by omega)
  have hz0 : (0 : Int) < (t.size : Int) := by omega
  have ha0 : w.cell? ⟨4, 8, none⟩ = some (.int .u8 128) := (hT.2 4 (by omega)).1
  have ha1 : w.cell? ⟨4, 9, none⟩ = some (.int .u8 143) := (hT.2 4 (by omega)).2
  have hz1 : ¬ (4 : Int) ≤ (t.size : Int) := by omega
  have hz2 : ¬ (1 : Int) < (t.size : Int) := by omega
  have hz3 : ¬ (2 : Int) < (t.size : Int) := by omega
  clear hX g0 e hT
  go_enter Tryz.func83, Tryz.ntmps83
  go_upto_region 8 with fail
  have bel : Below w.heap.size w (w.alloc (.cells #[.int .u8 128, .int .u8 143] 157)) := (Below.refl _ _).alloc (Nat.le_refl _) _
  have k0 : (w.alloc (.cells #[.int .u8 128, .int .u8 143] 157)).cell? ⟨w.heap.size, 0, none⟩ = some (.int .u8 128) := (cell_of_row _ w.heap.size 0 _ _ _ (heap_alloc_new w _)).trans rfl
  have k1 : (w.alloc (.cells #[.int .u8 128, .int .u8 143] 157)).cell? ⟨w.heap.size, 1, none⟩ = some (.int .u8 143) := (cell_of_row _ w.heap.size 1 _ _ _ (heap_alloc_new w _)).trans rfl
  generalize w.alloc (.cells #[.int .u8 128, .int .u8 143] 157) = w1 at *
  clear hc0 ha0 ha1
  go_quiet (fail)
  go_wp2
  go_ret
  exact ⟨rfl, below_drewN bel nq⟩
set_option maxRecDepth 100000 in
set_option maxHeartbeats 1000000 in
theorem full_68_lo (t : ByteArray) (w : World) (hT : Tabs w) (h0 : 0 < t.size) (hX : Lib.firstT (by8 t 0) = 68) (hn : 1 < t.size) (hn2 : t.size < 4) (hb : by8 t 1 < 128) :
    Calls Tryz.prog 83 #[.string t] w fun e w' => e = .returned (.bool (fullB t.size (by8 t 0) (by8 t 1) (by8 t 2))) ∧ Below w.heap.size w w' := by
  have e : fullB t.size (by8 t 0) (by8 t 1) (by8 t 2) = true := by
    unfold fullB
    rw [hX]
    rw [if_neg (by omega), if_pos ⟨by omega, by simp [Lib.accLo, Lib.accHi]; omega⟩]
  rw [e]
  obtain ⟨b0, hb0⟩ : ∃ b, (t[0]'h0).toNat = b := ⟨_, rfl⟩
  have l0 : b0 < 256 := by rw [← hb0]; exact (t[0]'h0).toNat_lt
  have g0 : by8 t 0 = b0 := by rw [by8_at t 0 h0, hb0]
  rw [g0] at hX
  have hc0 : w.cell? ⟨3, b0, none⟩ = some (.int .u8 68) := by
    have := hT.1 b0 l0
    rw [hX] at this
    exact this
  have hz : ((t.size : Int) == 0) = false := beq_eq_false_iff_ne.2 (by omega)
  have hz0 : (0 : Int) < (t.size : Int) := by omega
  have ha0 : w.cell? ⟨4, 8, none⟩ = some (.int .u8 128) := (hT.2 4 (by omega)).1
  have ha1 : w.cell? ⟨4, 9, none⟩ = some (.int .u8 143) := (hT.2 4 (by omega)).2
  have hz1 : ¬ (4 : Int) ≤ (t.size : Int) := by omega
  have hz2 : (1 : Int) < (t.size : Int) := by omega
  have h1 : 1 < t.size := by omega
  obtain ⟨b1, hb1⟩ : ∃ b, (t[1]'h1).toNat = b := ⟨_, rfl⟩
  have g1 : by8 t 1 = b1 := by rw [by8_at t 1 h1, hb1]
  rw [g1] at hb
  have q1 : (b1 : Int) < 128 := by omega
  clear hX g0 e hT
  go_enter Tryz.func83, Tryz.ntmps83
  go_upto_region 8 with fail
  have bel : Below w.heap.size w (w.alloc (.cells #[.int .u8 128, .int .u8 143] 157)) := (Below.refl _ _).alloc (Nat.le_refl _) _
  have k0 : (w.alloc (.cells #[.int .u8 128, .int .u8 143] 157)).cell? ⟨w.heap.size, 0, none⟩ = some (.int .u8 128) := (cell_of_row _ w.heap.size 0 _ _ _ (heap_alloc_new w _)).trans rfl
  have k1 : (w.alloc (.cells #[.int .u8 128, .int .u8 143] 157)).cell? ⟨w.heap.size, 1, none⟩ = some (.int .u8 143) := (cell_of_row _ w.heap.size 1 _ _ _ (heap_alloc_new w _)).trans rfl
  generalize w.alloc (.cells #[.int .u8 128, .int .u8 143] 157) = w1 at *
  clear hc0 ha0 ha1
  go_quiet (fail)
  go_wp2
  go_ret
  exact ⟨rfl, below_drewN bel nq⟩
set_option maxRecDepth 100000 in
set_option maxHeartbeats 1000000 in
theorem full_68_hi (t : ByteArray) (w : World) (hT : Tabs w) (h0 : 0 < t.size) (hX : Lib.firstT (by8 t 0) = 68) (hn : 1 < t.size) (hn2 : t.size < 4) (hb : 143 < by8 t 1) :
    Calls Tryz.prog 83 #[.string t] w fun e w' => e = .returned (.bool (fullB t.size (by8 t 0) (by8 t 1) (by8 t 2))) ∧ Below w.heap.size w w' := by
  have e : fullB t.size (by8 t 0) (by8 t 1) (by8 t 2) = true := by
    unfold fullB
    rw [hX]
    rw [if_neg (by omega), if_pos ⟨by omega, by simp [Lib.accLo, Lib.accHi]; omega⟩]
  rw [e]
  obtain ⟨b0, hb0⟩ : ∃ b, (t[0]'h0).toNat = b := ⟨_, rfl⟩
  have l0 : b0 < 256 := by rw [← hb0]; exact (t[0]'h0).toNat_lt
  have g0 : by8 t 0 = b0 := by rw [by8_at t 0 h0, hb0]
  rw [g0] at hX
  have hc0 : w.cell? ⟨3, b0, none⟩ = some (.int .u8 68) := by
    have := hT.1 b0 l0
    rw [hX] at this
    exact this
  have hz : ((t.size : Int) == 0) = false := beq_eq_false_iff_ne.2 (by omega)
  have hz0 : (0 : Int) < (t.size : Int) := by omega
  have ha0 : w.cell? ⟨4, 8, none⟩ = some (.int .u8 128) := (hT.2 4 (by omega)).1
  have ha1 : w.cell? ⟨4, 9, none⟩ = some (.int .u8 143) := (hT.2 4 (by omega)).2
  have hz1 : ¬ (4 : Int) ≤ (t.size : Int) := by omega
  have hz2 : (1 : Int) < (t.size : Int) := by omega
  have h1 : 1 < t.size := by omega
  obtain ⟨b1, hb1⟩ : ∃ b, (t[1]'h1).toNat = b := ⟨_, rfl⟩
  have g1 : by8 t 1 = b1 := by rw [by8_at t 1 h1, hb1]
  rw [g1] at hb
  have q1 : ¬ (b1 : Int) < 128 := by omega
  have q2 : (143 : Int) < (b1 : Int) := by omega
  clear hX g0 e hT
  go_enter Tryz.func83, Tryz.ntmps83
  go_upto_region 8 with fail
  have bel : Below w.heap.size w (w.alloc (.cells #[.int .u8 128, .int .u8 143] 157)) := (Below.refl _ _).alloc (Nat.le_refl _) _
  have k0 : (w.alloc (.cells #[.int .u8 128, .int .u8 143] 157)).cell? ⟨w.heap.size, 0, none⟩ = some (.int .u8 128) := (cell_of_row _ w.heap.size 0 _ _ _ (heap_alloc_new w _)).trans rfl
  have k1 : (w.alloc (.cells #[.int .u8 128, .int .u8 143] 157)).cell? ⟨w.heap.size, 1, none⟩ = some (.int .u8 143) := (cell_of_row _ w.heap.size 1 _ _ _ (heap_alloc_new w _)).trans rfl
  generalize w.alloc (.cells #[.int .u8 128, .int .u8 143] 157) = w1 at *
  clear hc0 ha0 ha1
  go_quiet (fail)
  go_wp2
  go_ret
  exact ⟨rfl, below_drewN bel nq⟩
set_option maxRecDepth 100000 in
set_option maxHeartbeats 1000000 in
theorem full_68_two (t : ByteArray) (w : World) (hT : Tabs w) (h0 : 0 < t.size) (hX : Lib.firstT (by8 t 0) = 68) (hn : t.size = 2) (hb : 128 ≤ by8 t 1 ∧ by8 t 1 ≤ 143) :
    Calls Tryz.prog 83 #[.string t] w fun e w' => e = .returned (.bool (fullB t.size (by8 t 0) (by8 t 1) (by8 t 2))) ∧ Below w.heap.size w w' := by
  have e : fullB t.size (by8 t 0) (by8 t 1) (by8 t 2) = false := by
    unfold fullB
    rw [hX]
    rw [if_neg (by omega), if_neg (by simp [Lib.accLo, Lib.accHi]; omega), decide_eq_false (by omega)]
  rw [e]
  obtain ⟨b0, hb0⟩ : ∃ b, (t[0]'h0).toNat = b := ⟨_, rfl⟩
  have l0 : b0 < 256 := by rw [← hb0]; exact (t[0]'h0).toNat_lt
  have g0 : by8 t 0 = b0 := by rw [by8_at t 0 h0, hb0]
  rw [g0] at hX
  have hc0 : w.cell? ⟨3, b0, none⟩ = some (.int .u8 68) := by
    have := hT.1 b0 l0
    rw [hX] at this
    exact this
  have hz : ((t.size : Int) == 0) = false := beq_eq_false_iff_ne.2 (by omega)
  have hz0 : (0 : Int) < (t.size : Int) := by omega
  have ha0 : w.cell? ⟨4, 8, none⟩ = some (.int .u8 128) := (hT.2 4 (by omega)).1
  have ha1 : w.cell? ⟨4, 9, none⟩ = some (.int .u8 143) := (hT.2 4 (by omega)).2
  have hz1 : ¬ (4 : Int) ≤ (t.size : Int) := by omega
  have hz2 : (1 : Int) < (t.size : Int) := by omega
  have h1 : 1 < t.size := by omega
  obtain ⟨b1, hb1⟩ : ∃ b, (t[1]'h1).toNat = b := ⟨_, rfl⟩
  have g1 : by8 t 1 = b1 := by rw [by8_at t 1 h1, hb1]
  rw [g1] at hb
  have q1 : ¬ (b1 : Int) < 128 := by omega
  have q2 : ¬ (143 : Int) < (b1 : Int) := by omega
  have hz3 : ¬ (2 : Int) < (t.size : Int) := by omega
  clear hX g0 e hT
  go_enter Tryz.func83, Tryz.ntmps83
  go_upto_region 8 with fail
  have bel : Below w.heap.size w (w.alloc (.cells #[.int .u8 128, .int .u8 143] 157)) := (Below.refl _ _).alloc (Nat.le_refl _) _
  have k0 : (w.alloc (.cells #[.int .u8 128, .int .u8 143] 157)).cell? ⟨w.heap.size, 0, none⟩ = some (.int .u8 128) := (cell_of_row _ w.heap.size 0 _ _ _ (heap_alloc_new w _)).trans rfl
  have k1 : (w.alloc (.cells #[.int .u8 128, .int .u8 143] 157)).cell? ⟨w.heap.size, 1, none⟩ = some (.int .u8 143) := (cell_of_row _ w.heap.size 1 _ _ _ (heap_alloc_new w _)).trans rfl
  generalize w.alloc (.cells #[.int .u8 128, .int .u8 143] 157) = w1 at *
  clear hc0 ha0 ha1
  go_quiet (fail)
  go_wp2
  go_ret
  exact ⟨rfl, below_drewN bel nq⟩
set_option maxRecDepth 100000 in
set_option maxHeartbeats 1000000 in
theorem full_68_tlo (t : ByteArray) (w : World) (hT : Tabs w) (h0 : 0 < t.size) (hX : Lib.firstT (by8 t 0) = 68) (hn : t.size = 3) (hb : 128 ≤ by8 t 1 ∧ by8 t 1 ≤ 143) (hc : by8 t 2 < 128) :
    Calls Tryz.prog 83 #[.string t] w fun e w' => e = .returned (.bool (fullB t.size (by8 t 0) (by8 t 1) (by8 t 2))) ∧ Below w.heap.size w w' := by
  have e : fullB t.size (by8 t 0) (by8 t 1) (by8 t 2) = true := by
    unfold fullB
    rw [hX]
    rw [if_neg (by omega), if_neg (by simp [Lib.accLo, Lib.accHi]; omega), decide_eq_true (by omega)]
  rw [e]
  obtain ⟨b0, hb0⟩ : ∃ b, (t[0]'h0).toNat = b := ⟨_, rfl⟩
  have l0 : b0 < 256 := by rw [← hb0]; exact (t[0]'h0).toNat_lt
  have g0 : by8 t 0 = b0 := by rw [by8_at t 0 h0, hb0]
  rw [g0] at hX
  have hc0 : w.cell? ⟨3, b0, none⟩ = some (.int .u8 68) := by
    have := hT.1 b0 l0
    rw [hX] at this
    exact this
  have hz : ((t.size : Int) == 0) = false := beq_eq_false_iff_ne.2 (by omega)
  have hz0 : (0 : Int) < (t.size : Int) := by omega
  have ha0 : w.cell? ⟨4, 8, none⟩ = some (.int .u8 128) := (hT.2 4 (by omega)).1
  have ha1 : w.cell? ⟨4, 9, none⟩ = some (.int .u8 143) := (hT.2 4 (by omega)).2
  have hz1 : ¬ (4 : Int) ≤ (t.size : Int) := by omega
  have hz2 : (1 : Int) < (t.size : Int) := by omega
  have h1 : 1 < t.size := by omega
  obtain ⟨b1, hb1⟩ : ∃ b, (t[1]'h1).toNat = b := ⟨_, rfl⟩
  have g1 : by8 t 1 = b1 := by rw [by8_at t 1 h1, hb1]
  rw [g1] at hb
  have h2 : 2 < t.size := by omega
  obtain ⟨b2, hb2⟩ : ∃ b, (t[2]'h2).toNat = b := ⟨_, rfl⟩
  have g2 : by8 t 2 = b2 := by rw [by8_at t 2 h2, hb2]
  rw [g2] at hc
  have hz3 : (2 : Int) < (t.size : Int) := by omega
  have q1 : ¬ (b1 : Int) < 128 := by omega
  have q2 : ¬ (143 : Int) < (b1 : Int) := by omega
  have q3 : (b2 : Int) < 128 := by omega
  clear hX g0 e hT
  go_enter Tryz.func83, Tryz.ntmps83
  go_upto_region 8 with fail
  have bel : Below w.heap.size w (w.alloc (.cells #[.int .u8 128, .int .u8 143] 157)) := (Below.refl _ _).alloc (Nat.le_refl _) _
  have k0 : (w.alloc (.cells #[.int .u8 128, .int .u8 143] 157)).cell? ⟨w.heap.size, 0, none⟩ = some (.int .u8 128) := (cell_of_row _ w.heap.size 0 _ _ _ (heap_alloc_new w _)).trans rfl
  have k1 : (w.alloc (.cells #[.int .u8 128, .int .u8 143] 157)).cell? ⟨w.heap.size, 1, none⟩ = some (.int .u8 143) := (cell_of_row _ w.heap.size 1 _ _ _ (heap_alloc_new w _)).trans rfl
  generalize w.alloc (.cells #[.int .u8 128, .int .u8 143] 157) = w1 at *
  clear hc0 ha0 ha1
  go_quiet (fail)
  go_wp2
  go_ret
  exact ⟨rfl, below_drewN bel nq⟩
set_option maxRecDepth 100000 in
set_option maxHeartbeats 1000000 in
theorem full_68_thi (t : ByteArray) (w : World) (hT : Tabs w) (h0 : 0 < t.size) (hX : Lib.firstT (by8 t 0) = 68) (hn : t.size = 3) (hb : 128 ≤ by8 t 1 ∧ by8 t 1 ≤ 143) (hc : 191 < by8 t 2) :
    Calls Tryz.prog 83 #[.string t] w fun e w' => e = .returned (.bool (fullB t.size (by8 t 0) (by8 t 1) (by8 t 2))) ∧ Below w.heap.size w w' := by
  have e : fullB t.size (by8 t 0) (by8 t 1) (by8 t 2) = true := by
    unfold fullB
    rw [hX]
    rw [if_neg (by omega), if_neg (by simp [Lib.accLo, Lib.accHi]; omega), decide_eq_true (by omega)]
  rw [e]
  obtain ⟨b0, hb0⟩ : ∃ b, (t[0]'h0).toNat = b := ⟨_, rfl⟩
  have l0 : b0 < 256 := by rw [← hb0]; exact (t[0]'h0).toNat_lt
  have g0 : by8 t 0 = b0 := by rw [by8_at t 0 h0, hb0]
  rw [g0] at hX
  have hc0 : w.cell? ⟨3, b0, none⟩ = some (.int .u8 68) := by
    have := hT.1 b0 l0
    rw [hX] at this
    exact this
  have hz : ((t.size : Int) == 0) = false := beq_eq_false_iff_ne.2 (by omega)
  have hz0 : (0 : Int) < (t.size : Int) := by omega
  have ha0 : w.cell? ⟨4, 8, none⟩ = some (.int .u8 128) := (hT.2 4 (by omega)).1
  have ha1 : w.cell? ⟨4, 9, none⟩ = some (.int .u8 143) := (hT.2 4 (by omega)).2
  have hz1 : ¬ (4 : Int) ≤ (t.size : Int) := by omega
  have hz2 : (1 : Int) < (t.size : Int) := by omega
  have h1 : 1 < t.size := by omega
  obtain ⟨b1, hb1⟩ : ∃ b, (t[1]'h1).toNat = b := ⟨_, rfl⟩
  have g1 : by8 t 1 = b1 := by rw [by8_at t 1 h1, hb1]
  rw [g1] at hb
  have h2 : 2 < t.size := by omega
  obtain ⟨b2, hb2⟩ : ∃ b, (t[2]'h2).toNat = b := ⟨_, rfl⟩
  have g2 : by8 t 2 = b2 := by rw [by8_at t 2 h2, hb2]
  rw [g2] at hc
  have hz3 : (2 : Int) < (t.size : Int) := by omega
  have q1 : ¬ (b1 : Int) < 128 := by omega
  have q2 : ¬ (143 : Int) < (b1 : Int) := by omega
  have q3 : ¬ (b2 : Int) < 128 := by omega
  have q4 : (191 : Int) < (b2 : Int) := by omega
  clear hX g0 e hT
  go_enter Tryz.func83, Tryz.ntmps83
  go_upto_region 8 with fail
  have bel : Below w.heap.size w (w.alloc (.cells #[.int .u8 128, .int .u8 143] 157)) := (Below.refl _ _).alloc (Nat.le_refl _) _
  have k0 : (w.alloc (.cells #[.int .u8 128, .int .u8 143] 157)).cell? ⟨w.heap.size, 0, none⟩ = some (.int .u8 128) := (cell_of_row _ w.heap.size 0 _ _ _ (heap_alloc_new w _)).trans rfl
  have k1 : (w.alloc (.cells #[.int .u8 128, .int .u8 143] 157)).cell? ⟨w.heap.size, 1, none⟩ = some (.int .u8 143) := (cell_of_row _ w.heap.size 1 _ _ _ (heap_alloc_new w _)).trans rfl
  generalize w.alloc (.cells #[.int .u8 128, .int .u8 143] 157) = w1 at *
  clear hc0 ha0 ha1
  go_quiet (fail)
  go_wp2
  go_ret
  exact ⟨rfl, below_drewN bel nq⟩
set_option maxRecDepth 100000 in
set_option maxHeartbeats 1000000 in
theorem full_68_three (t : ByteArray) (w : World) (hT : Tabs w) (h0 : 0 < t.size) (hX : Lib.firstT (by8 t 0) = 68) (hn : t.size = 3) (hb : 128 ≤ by8 t 1 ∧ by8 t 1 ≤ 143) (hc : 128 ≤ by8 t 2 ∧ by8 t 2 ≤ 191) :
    Calls Tryz.prog 83 #[.string t] w fun e w' => e = .returned (.bool (fullB t.size (by8 t 0) (by8 t 1) (by8 t 2))) ∧ Below w.heap.size w w' := by
  have e : fullB t.size (by8 t 0) (by8 t 1) (by8 t 2) = false := by
    unfold fullB
    rw [hX]
    rw [if_neg (by omega), if_neg (by simp [Lib.accLo, Lib.accHi]; omega), decide_eq_false (by omega)]
  rw [e]
  obtain ⟨b0, hb0⟩ : ∃ b, (t[0]'h0).toNat = b := ⟨_, rfl⟩
  have l0 : b0 < 256 := by rw [← hb0]; exact (t[0]'h0).toNat_lt
  have g0 : by8 t 0 = b0 := by rw [by8_at t 0 h0, hb0]
  rw [g0] at hX
  have hc0 : w.cell? ⟨3, b0, none⟩ = some (.int .u8 68) := by
    have := hT.1 b0 l0
    rw [hX] at this
    exact this
  have hz : ((t.size : Int) == 0) = false := beq_eq_false_iff_ne.2 (by omega)
  have hz0 : (0 : Int) < (t.size : Int) := by omega
  have ha0 : w.cell? ⟨4, 8, none⟩ = some (.int .u8 128) := (hT.2 4 (by omega)).1
  have ha1 : w.cell? ⟨4, 9, none⟩ = some (.int .u8 143) := (hT.2 4 (by omega)).2
  have hz1 : ¬ (4 : Int) ≤ (t.size : Int) := by omega
  have hz2 : (1 : Int) < (t.size : Int) := by omega
  have h1 : 1 < t.size := by omega
  obtain ⟨b1, hb1⟩ : ∃ b, (t[1]'h1).toNat = b := ⟨_, rfl⟩
  have g1 : by8 t 1 = b1 := by rw [by8_at t 1 h1, hb1]
  rw [g1] at hb
  have h2 : 2 < t.size := by omega
  obtain ⟨b2, hb2⟩ : ∃ b, (t[2]'h2).toNat = b := ⟨_, rfl⟩
  have g2 : by8 t 2 = b2 := by rw [by8_at t 2 h2, hb2]
  rw [g2] at hc
  have hz3 : (2 : Int) < (t.size : Int) := by omega
  have q1 : ¬ (b1 : Int) < 128 := by omega
  have q2 : ¬ (143 : Int) < (b1 : Int) := by omega
  have q3 : ¬ (b2 : Int) < 128 := by omega
  have q4 : ¬ (191 : Int) < (b2 : Int) := by omega
  clear hX g0 e hT
  go_enter Tryz.func83, Tryz.ntmps83
  go_upto_region 8 with fail
  have bel : Below w.heap.size w (w.alloc (.cells #[.int .u8 128, .int .u8 143] 157)) := (Below.refl _ _).alloc (Nat.le_refl _) _
  have k0 : (w.alloc (.cells #[.int .u8 128, .int .u8 143] 157)).cell? ⟨w.heap.size, 0, none⟩ = some (.int .u8 128) := (cell_of_row _ w.heap.size 0 _ _ _ (heap_alloc_new w _)).trans rfl
  have k1 : (w.alloc (.cells #[.int .u8 128, .int .u8 143] 157)).cell? ⟨w.heap.size, 1, none⟩ = some (.int .u8 143) := (cell_of_row _ w.heap.size 1 _ _ _ (heap_alloc_new w _)).trans rfl
  generalize w.alloc (.cells #[.int .u8 128, .int .u8 143] 157) = w1 at *
  clear hc0 ha0 ha1
  go_quiet (fail)
  go_wp2
  go_ret
  exact ⟨rfl, below_drewN bel nq⟩
theorem full_68 (t : ByteArray) (w : World) (hT : Tabs w) (h0 : 0 < t.size) (hX : Lib.firstT (by8 t 0) = 68) :
    Calls Tryz.prog 83 #[.string t] w fun e w' => e = .returned (.bool (fullB t.size (by8 t 0) (by8 t 1) (by8 t 2))) ∧ Below w.heap.size w w' := by
  by_cases hn : 4 ≤ t.size
  · exact full_68_long t w hT h0 hX hn
  by_cases hn1 : t.size = 1
  · exact full_68_one t w hT h0 hX hn1
  by_cases hlo : by8 t 1 < 128
  · exact full_68_lo t w hT h0 hX (by omega) (by omega) hlo
  by_cases hhi : 143 < by8 t 1
  · exact full_68_hi t w hT h0 hX (by omega) (by omega) hhi
  by_cases hn2 : t.size = 2
  · exact full_68_two t w hT h0 hX (by omega) (by omega)
  by_cases h2lo : by8 t 2 < 128
  · exact full_68_tlo t w hT h0 hX (by omega) (by omega) h2lo
  by_cases h2hi : 191 < by8 t 2
  · exact full_68_thi t w hT h0 hX (by omega) (by omega) h2hi
  exact full_68_three t w hT h0 hX (by omega) (by omega) (by omega)
theorem full_any (t : ByteArray) (w : World) (hT : Tabs w) (h0 : 0 < t.size) :
    Calls Tryz.prog 83 #[.string t] w fun e w' => e = .returned (.bool (fullB t.size (by8 t 0) (by8 t 1) (by8 t 2))) ∧ Below w.heap.size w w' := by
  rcases Lib.firstT_cases (by8 t 0) with h | h | h | h | h | h | h | h | h
  · exact full_240 t w hT h0 h
  · exact full_241 t w hT h0 h
  · exact full_2 t w hT h0 h
  · exact full_19 t w hT h0 h
  · exact full_3 t w hT h0 h
  · exact full_35 t w hT h0 h
  · exact full_52 t w hT h0 h
  · exact full_4 t w hT h0 h
  · exact full_68 t w hT h0 h
end Go.Proofs.YthffcdahjcpdfaaGreatDoor.Q
