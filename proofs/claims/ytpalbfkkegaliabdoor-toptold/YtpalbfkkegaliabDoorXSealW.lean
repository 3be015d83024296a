import Derived.Test.YtpalbfkkegaliabDoorXSeal
namespace Go.Proofs.YtpalbfkkegaliabDoor.X
open Go.RowKit
set_option linter.unusedVariables false
set_option linter.unusedSimpArgs false

theorem res7 (tmps : Array Value) (w : World) (a b : Value) (h1 : tmps.getD 4 undef = a) (h2 : tmps.getD 5 undef = b) : (results Tryd.f19 tmps).run Tryd.prog w = .ok (.tuple #[a, b]) w := by
  subst h1 h2
  simp [results, Tryd.results19]

theorem seal_long (k : Int) (a : Option Addr) (n cap : Nat) (w : World) (hn : 16777216 < n) :
    Calls Tryd.prog 19 #[.int .u8 k, .slice a n cap] w fun e w' => e = .returned (.tuple #[.slice none 0 0, .int .i64 6]) ∧ w' = w := by
  have h' : (16777216 : Int) < (n : Int) := by omega
  go_enter Tryd.func19, Tryd.ntmps19
  go_wp2
  exact bodyPost_ret (res7 _ _ _ _ rfl rfl) rfl ⟨rfl, rfl⟩

set_option maxRecDepth 100000 in
set_option maxHeartbeats 4000000 in
theorem seal_any (k : UInt8) (kv : Int) (hkv : kv = (k.toNat : Int)) (a : Option Addr) (l : List UInt8) (n cap : Nat) (w : World) (hl : l.length = n) (hb : Byt w a l) (hn : n ≤ 16777216) (hN : NibsAt w) :
    Calls Tryd.prog 19 #[.int .u8 kv, .slice a n cap] w fun e w' => ∃ v, e = .returned (.tuple #[v, .int .i64 0]) ∧ OwnB w' w.heap.size v (frame k l) ∧ Below w.heap.size w w' := by
  obtain ⟨i0, hi, hz0, hz1, hz2⟩ := info5'
  have hmk : ∀ wx : World, (Instr.makeSlice 25 (.int .i64 0) (.int .i64 (9 + (n : Int) + 4))).run Tryd.prog wx = .ok (.slice (some ⟨wx.heap.size, 0, none⟩) 0 (n + 13)) (wx.alloc (.cells (bs (List.replicate (n + 13) 0)) 5)) := fun wx => by
    have h := run_make (P := Tryd.prog) wx 25 5 i0 (.int .u8 0) Tryd.underlying25 hi hz0 .i64 .i64 0 (9 + (n : Int) + 4) (by omega) (by omega) (by rw [hz2]; omega) (by omega)
    have e : (9 + (n : Int) + 4).toNat = n + 13 := by omega
    rw [e] at h
    rw [← made_bs]
    simpa [hz1, Value.cells] using h
  have h' : ¬ (16777216 : Int) < (n : Int) := by omega
  go_enter Tryd.func19, Tryd.ntmps19
  have g1 : ((w.alloc (.cells (bs (List.replicate (n + 13) 0)) 5)).alloc (.cells #[.slice (some ⟨w.heap.size, 0, none⟩) 0 (n + 13), .int .i64 0] 28)).heap[w.heap.size + 1]? = some (.cells #[.slice (some ⟨w.heap.size, 0, none⟩) 0 (n + 13), .int .i64 0] 28 (0, 0)) := heap_alloc2_new _ _ _
  have g0 : ((w.alloc (.cells (bs (List.replicate (n + 13) 0)) 5)).alloc (.cells #[.slice (some ⟨w.heap.size, 0, none⟩) 0 (n + 13), .int .i64 0] 28)).heap[w.heap.size]? = some (.cells (bs (List.replicate (n + 13) 0)) 5 (0, 0)) := heap_alloc2_old _ _ _
  have be0 : Below w.heap.size w ((w.alloc (.cells (bs (List.replicate (n + 13) 0)) 5)).alloc (.cells #[.slice (some ⟨w.heap.size, 0, none⟩) 0 (n + 13), .int .i64 0] 28)) := ((Below.refl _ _).alloc (Nat.le_refl _) _).alloc (by simp) _
  go_wp2_with fail
  clear hmk
  generalize ((w.alloc (.cells (bs (List.replicate (n + 13) 0)) 5)).alloc (.cells #[.slice (some ⟨w.heap.size, 0, none⟩) 0 (n + 13), .int .i64 0] 28)) = W0 at *
  have w0 : WAt W0 (w.heap.size + 1) w.heap.size [] := ⟨_, g1, ⟨rfl, .inr ⟨w.heap.size, n + 13, _, rfl, Nat.le_refl _, g0, by simp, by unfold maxLen; omega, by rw [bs_size]; simp, by simp; rfl⟩⟩, by simp [Value.ownBlock]⟩
  clear g0 g1
  refine (byte_any (w.heap.size + 1) w.heap.size [] k (k.toNat : Int) rfl W0 w0 (by simp) (by omega)).mono ?_
  rintro e w1 ⟨rfl, a1, b1⟩
  have be1 := be0.trans b1
  clear w0 b1 be0
  go_wp2_with fail
  refine (fix32_any (w.heap.size + 1) w.heap.size ([] ++ [k]) (UInt32.ofNat n) (n : Int) (by unfold U; rw [UInt32.toNat_ofNat', Nat.mod_eq_of_lt (by omega)]) w1 a1 (by simp) (by omega)).mono ?_
  rintro e w2 ⟨rfl, a2, b2⟩
  have be2 := be1.trans b2
  have a2' : WAt w2 (w.heap.size + 1) w.heap.size (head5 k n) := a2
  clear a1 b2 be1 a2
  have HF : Hid (frame k l = head9 k n ++ l ++ be (crc (head9 k n ++ l))) := by show _ = _; unfold frame; rw [hl]
  have L5 := head5_len k n
  have L9 := head9_len k n
  have E9 : Hid (head9 k n = head5 k n ++ be (crc (head5 k n))) := rfl
  generalize head9 k n = H9 at *
  generalize head5 k n = H5 at *
  have a2 := a2'
  obtain ⟨v2, hq2, own2, _⟩ := a2'
  obtain ⟨av2, cv2, rfl, _, by2, _⟩ := own2.open
  rw [L5] at hq2
  have c2 := (cell_of_row w2 (w.heap.size + 1) 0 _ _ _ hq2).trans (show (#[.slice av2 5 cv2, .int .i64 0] : Array Value)[0]? = some (.slice av2 5 cv2) from rfl)
  clear own2 hq2
  go_wp2_with fail
  refine (crc_at 5 av2 H5 cv2 w2 L5 by2 (by omega) (nibsAt_below hN be2)).mono ?_
  rintro e w3 ⟨rfl, hw3⟩
  subst hw3
  clear by2 c2
  go_wp2_with fail
  refine (fix32_any (w.heap.size + 1) w.heap.size H5 (crc H5) (U (crc H5)) rfl w3 a2 (by omega) (by omega)).mono ?_
  rintro e w4 ⟨rfl, a4, b4⟩
  have be4 := be2.trans b4
  rw [← E9.out] at a4
  clear a2 b4 be2 E9
  go_wp2_with fail
  refine (add_any (w.heap.size + 1) w.heap.size H9 l a n cap w4 a4 hl (byt_below hb be4) (by omega) (by omega)).mono ?_
  rintro e w5 ⟨rfl, a5, b5⟩
  have be5 := be4.trans b5
  clear a4 b5 be4
  have LB : (H9 ++ l).length = 9 + n := by rw [List.length_append]; omega
  generalize H9 ++ l = HB at *
  have a5' := a5
  obtain ⟨v5, hq5, own5, _⟩ := a5'
  obtain ⟨av5, cv5, rfl, _, by5, _⟩ := own5.open
  rw [LB] at hq5
  have c5 := (cell_of_row w5 (w.heap.size + 1) 0 _ _ _ hq5).trans (show (#[.slice av5 (9 + n) cv5, .int .i64 0] : Array Value)[0]? = some (.slice av5 (9 + n) cv5) from rfl)
  clear own5 hq5
  go_wp2_with fail
  refine (crc_at (9 + n) av5 HB cv5 w5 LB by5 (by omega) (nibsAt_below hN be5)).mono ?_
  rintro e w6 ⟨rfl, hw6⟩
  subst hw6
  clear by5 c5
  go_wp2_with fail
  refine (fix32_any (w.heap.size + 1) w.heap.size HB (crc HB) (U (crc HB)) rfl w6 a5 (by omega) (by omega)).mono ?_
  rintro e w7 ⟨rfl, a7, b7⟩
  have be7 := be5.trans b7
  clear a5 b7 be5
  rw [← HF.out] at a7
  obtain ⟨v7, hq7, own7, _⟩ := a7
  have own7' : Hid (OwnB w7 w.heap.size v7 (frame k l)) := own7
  obtain ⟨av7, cv7, rfl, _⟩ := own7.open
  have c7 := (cell_of_row w7 (w.heap.size + 1) 0 _ _ _ hq7).trans (show (#[.slice av7 (frame k l).length cv7, .int .i64 0] : Array Value)[0]? = some (.slice av7 (frame k l).length cv7) from rfl)
  clear own7 hq7
  go_wp2
  exact bodyPost_ret (res7 _ _ _ _ rfl rfl) rfl ⟨_, rfl, own7'.out, be7⟩
end Go.Proofs.YtpalbfkkegaliabDoor.X
