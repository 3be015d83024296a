import Derived.Test.YtkinjcblngkeiaaDoorWh
namespace Go.Proofs.YtkinjcblngkeiaaDoor
open Go.RowKit
set_option linter.unusedVariables false
set_option linter.unusedSimpArgs false

variable {p : Nat} {g : Option Nat} {M : List UInt8} {e : Int}
set_option maxRecDepth 100000 in
set_option maxHeartbeats 2000000 in
theorem write_6 (n : Int) (f : Nat) (s : ByteArray) (hn0 : -9223372036854775808 ≤ n) (hn1 : n < 9223372036854775808) (hf : f < 18446744073709551616) (hs : s.size ≤ 9223372036854775807) (w : World) (hw : WS w 26 p g M e) (hT : Tabs w) (hp4 : 4 ≤ p) (hg4 : ∀ k, g = some k → 4 ≤ k) (hsum : M.length + 2000 ≤ 140737488355328) (hr : V.rightV 6 n f s = true) :
    Calls Tryd.prog 5 #[.pointer (some ⟨p, 0, none⟩), .agg #[.int .u8 6, .int .i64 n, .float .f64 f, .string s]] w fun x w' => x = .returned (.tuple #[]) ∧ Wr w w' 26 p g (wA M e (wv 6 n f s)) e := by
  have hT0 : Tabs (w.alloc (.cells (bx 6 n f s) 34)) := hT.below (bel_box _ _ _)
  have HR := Hid.mk' (V.right26_any 6 n f s (w.alloc (.cells (bx 6 n f s) 34)) (by decide) hf hs hT0)
  rw [hr] at HR
  have hpre := Hid.mk' (bel_box w (bx 6 n f s) 34)
  have HBX := Hid.mk' (fun (wx : World) (M' : List UInt8) (hx : Wr (w.alloc (.cells (bx 6 n f s) 34)) wx 26 p g M' e) => box_cells (k := 6) (n := n) (f := f) (s := s) hw hx)
  have HST := Hid.mk' (fun (w1 : World) (b1 : Below (w.alloc (.cells (bx 6 n f s) 34)).heap.size (w.alloc (.cells (bx 6 n f s) 34)) w1) => start_wr (cs := bx 6 n f s) hw b1)
  have HBY := Hid.mk' (lift_wr (T := 26) (p := p) (g := g) (M := M) (e := e) (W0 := (w.alloc (.cells (bx 6 n f s) 34))) (fn := 28) (args := #[.pointer (some ⟨p, 0, none⟩), .int .u8 6]) (B := [UInt8.ofNat 6]) hsum (fun wx g1 M1 _ ws hl => wbyte_any (UInt8.ofNat 6) 6 rfl wx ws (by omega)))
  have hn6 : 0 ≤ n ∧ n ≤ 9007199254740992 := by
    unfold V.rightV V.rightB at hr
    simp at hr
    omega
  have HK : Hid (∀ (v : Int), v = (n.toNat : Int) → ∀ wx P, P.length ≤ 50 → Wr (w.alloc (.cells (bx 6 n f s) 34)) wx 26 p g (wA M e P) e → Calls Tryd.prog 34 #[.pointer (some ⟨p, 0, none⟩), .int .u64 v] wx fun x w' => x = .returned (.tuple #[]) ∧ Wr (w.alloc (.cells (bx 6 n f s) 34)) w' 26 p g (wA M e (P ++ vint n.toNat)) e) := fun v hv => by rw [hv]; exact lift_wr (T := 26) (fn := 34) hsum (fun wx g1 M1 _ ws hl => wuint_any n.toNat (by omega) wx ws (by omega))
  have hwv : Hid (wv 6 n f s = [] ++ [UInt8.ofNat 6] ++ vint n.toNat) := by show _ = _; simp [wv]
  have c0 := (cell_of_row (w.alloc (.cells (bx 6 n f s) 34)) w.heap.size 0 _ _ _ (heap_alloc_new _ _)).trans (show (bx 6 n f s)[0]? = some (.int .u8 6) from rfl)
  have c1 := (cell_of_row (w.alloc (.cells (bx 6 n f s) 34)) w.heap.size 1 _ _ _ (heap_alloc_new _ _)).trans (show (bx 6 n f s)[1]? = some (.int .i64 n) from rfl)
  have c2 := (cell_of_row (w.alloc (.cells (bx 6 n f s) 34)) w.heap.size 2 _ _ _ (heap_alloc_new _ _)).trans (show (bx 6 n f s)[2]? = some (.float .f64 f) from rfl)
  have c3 := (cell_of_row (w.alloc (.cells (bx 6 n f s) 34)) w.heap.size 3 _ _ _ (heap_alloc_new _ _)).trans (show (bx 6 n f s)[3]? = some (.string s) from rfl)
  clear hw hT hT0 hr hsum
  go_enter Tryd.func5, Tryd.ntmps5
  go_wp2_with fail
  refine HR.out.mono ?_
  rintro x w1 ⟨rfl, b1⟩
  have A1 := Hid.mk' (HST.out w1 b1)
  obtain ⟨d0, d1, d2, d3⟩ := HBX.out _ _ A1.out
  have H := Hid.mk' (HBY.out w1 [] (by decide) A1.out)
  clear b1 HR HST HBY A1 c0 c1 c2 c3
  go_wp2_with fail
  refine H.out.mono ?_
  rintro x w2 ⟨rfl, a2⟩
  have A2 := Hid.mk' a2
  obtain ⟨e0, e1, e2, e3⟩ := HBX.out _ _ A2.out
  clear a2 d0 d1 d2 d3 H
  go_wp2_with fail
  refine (HK.out _ (by first | rfl | omega | (rw [IntKind.wrap_u64]; omega)) w2 _ (by simp) A2.out).mono ?_
  rintro x w3 ⟨rfl, a3⟩
  rw [← hwv.out] at a3
  have A3 := Hid.mk' (Wr.pre hpre.out a3)
  clear a3
  go_wp2
  go_end0
  exact ⟨rfl, A3.out⟩

set_option maxRecDepth 100000 in
set_option maxHeartbeats 2000000 in
theorem write_7 (n : Int) (f : Nat) (s : ByteArray) (hn0 : -9223372036854775808 ≤ n) (hn1 : n < 9223372036854775808) (hf : f < 18446744073709551616) (hs : s.size ≤ 9223372036854775807) (w : World) (hw : WS w 26 p g M e) (hT : Tabs w) (hp4 : 4 ≤ p) (hg4 : ∀ k, g = some k → 4 ≤ k) (hsum : M.length + 2000 ≤ 140737488355328) (hr : V.rightV 7 n f s = true) :
    Calls Tryd.prog 5 #[.pointer (some ⟨p, 0, none⟩), .agg #[.int .u8 7, .int .i64 n, .float .f64 f, .string s]] w fun x w' => x = .returned (.tuple #[]) ∧ Wr w w' 26 p g (wA M e (wv 7 n f s)) e := by
  have hT0 : Tabs (w.alloc (.cells (bx 7 n f s) 34)) := hT.below (bel_box _ _ _)
  have HR := Hid.mk' (V.right26_any 7 n f s (w.alloc (.cells (bx 7 n f s) 34)) (by decide) hf hs hT0)
  rw [hr] at HR
  have hpre := Hid.mk' (bel_box w (bx 7 n f s) 34)
  have HBX := Hid.mk' (fun (wx : World) (M' : List UInt8) (hx : Wr (w.alloc (.cells (bx 7 n f s) 34)) wx 26 p g M' e) => box_cells (k := 7) (n := n) (f := f) (s := s) hw hx)
  have HST := Hid.mk' (fun (w1 : World) (b1 : Below (w.alloc (.cells (bx 7 n f s) 34)).heap.size (w.alloc (.cells (bx 7 n f s) 34)) w1) => start_wr (cs := bx 7 n f s) hw b1)
  have HBY := Hid.mk' (lift_wr (T := 26) (p := p) (g := g) (M := M) (e := e) (W0 := (w.alloc (.cells (bx 7 n f s) 34))) (fn := 28) (args := #[.pointer (some ⟨p, 0, none⟩), .int .u8 7]) (B := [UInt8.ofNat 7]) hsum (fun wx g1 M1 _ ws hl => wbyte_any (UInt8.ofNat 7) 7 rfl wx ws (by omega)))
  have HK := Hid.mk' (lift_wr (T := 26) (p := p) (g := g) (M := M) (e := e) (W0 := (w.alloc (.cells (bx 7 n f s) 34))) (fn := 30) (args := #[.pointer (some ⟨p, 0, none⟩), .int .i64 n]) (B := vint (zig n)) hsum (fun wx g1 M1 _ ws hl => wint_any n hn0 hn1 wx ws (by omega)))
  have hwv : Hid (wv 7 n f s = [] ++ [UInt8.ofNat 7] ++ vint (zig n)) := by show _ = _; simp [wv]
  have c0 := (cell_of_row (w.alloc (.cells (bx 7 n f s) 34)) w.heap.size 0 _ _ _ (heap_alloc_new _ _)).trans (show (bx 7 n f s)[0]? = some (.int .u8 7) from rfl)
  have c1 := (cell_of_row (w.alloc (.cells (bx 7 n f s) 34)) w.heap.size 1 _ _ _ (heap_alloc_new _ _)).trans (show (bx 7 n f s)[1]? = some (.int .i64 n) from rfl)
  have c2 := (cell_of_row (w.alloc (.cells (bx 7 n f s) 34)) w.heap.size 2 _ _ _ (heap_alloc_new _ _)).trans (show (bx 7 n f s)[2]? = some (.float .f64 f) from rfl)
  have c3 := (cell_of_row (w.alloc (.cells (bx 7 n f s) 34)) w.heap.size 3 _ _ _ (heap_alloc_new _ _)).trans (show (bx 7 n f s)[3]? = some (.string s) from rfl)
  clear hw hT hT0 hr hsum
  go_enter Tryd.func5, Tryd.ntmps5
  go_wp2_with fail
  refine HR.out.mono ?_
  rintro x w1 ⟨rfl, b1⟩
  have A1 := Hid.mk' (HST.out w1 b1)
  obtain ⟨d0, d1, d2, d3⟩ := HBX.out _ _ A1.out
  have H := Hid.mk' (HBY.out w1 [] (by decide) A1.out)
  clear b1 HR HST HBY A1 c0 c1 c2 c3
  go_wp2_with fail
  refine H.out.mono ?_
  rintro x w2 ⟨rfl, a2⟩
  have A2 := Hid.mk' a2
  obtain ⟨e0, e1, e2, e3⟩ := HBX.out _ _ A2.out
  clear a2 d0 d1 d2 d3 H
  have H3 := Hid.mk' (HK.out w2 _ (by simp) A2.out)
  clear HK
  go_wp2_with fail
  refine H3.out.mono ?_
  rintro x w3 ⟨rfl, a3⟩
  rw [← hwv.out] at a3
  have A3 := Hid.mk' (Wr.pre hpre.out a3)
  clear a3
  go_wp2
  go_end0
  exact ⟨rfl, A3.out⟩

set_option maxRecDepth 100000 in
set_option maxHeartbeats 2000000 in
theorem write_8 (n : Int) (f : Nat) (s : ByteArray) (hn0 : -9223372036854775808 ≤ n) (hn1 : n < 9223372036854775808) (hf : f < 18446744073709551616) (hs : s.size ≤ 9223372036854775807) (w : World) (hw : WS w 26 p g M e) (hT : Tabs w) (hp4 : 4 ≤ p) (hg4 : ∀ k, g = some k → 4 ≤ k) (hsum : M.length + 2000 ≤ 140737488355328) (hr : V.rightV 8 n f s = true) :
    Calls Tryd.prog 5 #[.pointer (some ⟨p, 0, none⟩), .agg #[.int .u8 8, .int .i64 n, .float .f64 f, .string s]] w fun x w' => x = .returned (.tuple #[]) ∧ Wr w w' 26 p g (wA M e (wv 8 n f s)) e := by
  have hT0 : Tabs (w.alloc (.cells (bx 8 n f s) 34)) := hT.below (bel_box _ _ _)
  have HR := Hid.mk' (V.right26_any 8 n f s (w.alloc (.cells (bx 8 n f s) 34)) (by decide) hf hs hT0)
  rw [hr] at HR
  have hpre := Hid.mk' (bel_box w (bx 8 n f s) 34)
  have HBX := Hid.mk' (fun (wx : World) (M' : List UInt8) (hx : Wr (w.alloc (.cells (bx 8 n f s) 34)) wx 26 p g M' e) => box_cells (k := 8) (n := n) (f := f) (s := s) hw hx)
  have HST := Hid.mk' (fun (w1 : World) (b1 : Below (w.alloc (.cells (bx 8 n f s) 34)).heap.size (w.alloc (.cells (bx 8 n f s) 34)) w1) => start_wr (cs := bx 8 n f s) hw b1)
  have HBY := Hid.mk' (lift_wr (T := 26) (p := p) (g := g) (M := M) (e := e) (W0 := (w.alloc (.cells (bx 8 n f s) 34))) (fn := 28) (args := #[.pointer (some ⟨p, 0, none⟩), .int .u8 8]) (B := [UInt8.ofNat 8]) hsum (fun wx g1 M1 _ ws hl => wbyte_any (UInt8.ofNat 8) 8 rfl wx ws (by omega)))
  have hwv : Hid (wv 8 n f s = [] ++ [UInt8.ofNat 8]) := by show _ = _; simp [wv]
  have c0 := (cell_of_row (w.alloc (.cells (bx 8 n f s) 34)) w.heap.size 0 _ _ _ (heap_alloc_new _ _)).trans (show (bx 8 n f s)[0]? = some (.int .u8 8) from rfl)
  have c1 := (cell_of_row (w.alloc (.cells (bx 8 n f s) 34)) w.heap.size 1 _ _ _ (heap_alloc_new _ _)).trans (show (bx 8 n f s)[1]? = some (.int .i64 n) from rfl)
  have c2 := (cell_of_row (w.alloc (.cells (bx 8 n f s) 34)) w.heap.size 2 _ _ _ (heap_alloc_new _ _)).trans (show (bx 8 n f s)[2]? = some (.float .f64 f) from rfl)
  have c3 := (cell_of_row (w.alloc (.cells (bx 8 n f s) 34)) w.heap.size 3 _ _ _ (heap_alloc_new _ _)).trans (show (bx 8 n f s)[3]? = some (.string s) from rfl)
  clear hw hT hT0 hr hsum
  go_enter Tryd.func5, Tryd.ntmps5
  go_wp2_with fail
  refine HR.out.mono ?_
  rintro x w1 ⟨rfl, b1⟩
  have A1 := Hid.mk' (HST.out w1 b1)
  obtain ⟨d0, d1, d2, d3⟩ := HBX.out _ _ A1.out
  have H := Hid.mk' (HBY.out w1 [] (by decide) A1.out)
  clear b1 HR HST HBY A1 c0 c1 c2 c3
  go_wp2_with fail
  refine H.out.mono ?_
  rintro x w2 ⟨rfl, a2⟩
  have A2 := Hid.mk' a2
  obtain ⟨e0, e1, e2, e3⟩ := HBX.out _ _ A2.out
  clear a2 d0 d1 d2 d3 H
  have A3 : Hid (Wr w w2 26 p g (wA M e (wv 8 n f s)) e) := by show Wr _ _ _ _ _ _ _; rw [hwv.out]; exact Wr.pre hpre.out A2.out
  clear A2 hwv
  go_wp2
  go_end0
  exact ⟨rfl, A3.out⟩

set_option maxRecDepth 100000 in
set_option maxHeartbeats 2000000 in
theorem write_9 (n : Int) (f : Nat) (s : ByteArray) (hn0 : -9223372036854775808 ≤ n) (hn1 : n < 9223372036854775808) (hf : f < 18446744073709551616) (hs : s.size ≤ 9223372036854775807) (w : World) (hw : WS w 26 p g M e) (hT : Tabs w) (hp4 : 4 ≤ p) (hg4 : ∀ k, g = some k → 4 ≤ k) (hsum : M.length + 2000 ≤ 140737488355328) (hr : V.rightV 9 n f s = true) :
    Calls Tryd.prog 5 #[.pointer (some ⟨p, 0, none⟩), .agg #[.int .u8 9, .int .i64 n, .float .f64 f, .string s]] w fun x w' => x = .returned (.tuple #[]) ∧ Wr w w' 26 p g (wA M e (wv 9 n f s)) e := by
  have hT0 : Tabs (w.alloc (.cells (bx 9 n f s) 34)) := hT.below (bel_box _ _ _)
  have HR := Hid.mk' (V.right26_any 9 n f s (w.alloc (.cells (bx 9 n f s) 34)) (by decide) hf hs hT0)
  rw [hr] at HR
  have hpre := Hid.mk' (bel_box w (bx 9 n f s) 34)
  have HBX := Hid.mk' (fun (wx : World) (M' : List UInt8) (hx : Wr (w.alloc (.cells (bx 9 n f s) 34)) wx 26 p g M' e) => box_cells (k := 9) (n := n) (f := f) (s := s) hw hx)
  have HST := Hid.mk' (fun (w1 : World) (b1 : Below (w.alloc (.cells (bx 9 n f s) 34)).heap.size (w.alloc (.cells (bx 9 n f s) 34)) w1) => start_wr (cs := bx 9 n f s) hw b1)
  have HBY := Hid.mk' (lift_wr (T := 26) (p := p) (g := g) (M := M) (e := e) (W0 := (w.alloc (.cells (bx 9 n f s) 34))) (fn := 28) (args := #[.pointer (some ⟨p, 0, none⟩), .int .u8 9]) (B := [UInt8.ofNat 9]) hsum (fun wx g1 M1 _ ws hl => wbyte_any (UInt8.ofNat 9) 9 rfl wx ws (by omega)))
  have hwv : Hid (wv 9 n f s = [] ++ [UInt8.ofNat 9]) := by show _ = _; simp [wv]
  have c0 := (cell_of_row (w.alloc (.cells (bx 9 n f s) 34)) w.heap.size 0 _ _ _ (heap_alloc_new _ _)).trans (show (bx 9 n f s)[0]? = some (.int .u8 9) from rfl)
  have c1 := (cell_of_row (w.alloc (.cells (bx 9 n f s) 34)) w.heap.size 1 _ _ _ (heap_alloc_new _ _)).trans (show (bx 9 n f s)[1]? = some (.int .i64 n) from rfl)
  have c2 := (cell_of_row (w.alloc (.cells (bx 9 n f s) 34)) w.heap.size 2 _ _ _ (heap_alloc_new _ _)).trans (show (bx 9 n f s)[2]? = some (.float .f64 f) from rfl)
  have c3 := (cell_of_row (w.alloc (.cells (bx 9 n f s) 34)) w.heap.size 3 _ _ _ (heap_alloc_new _ _)).trans (show (bx 9 n f s)[3]? = some (.string s) from rfl)
  clear hw hT hT0 hr hsum
  go_enter Tryd.func5, Tryd.ntmps5
  go_wp2_with fail
  refine HR.out.mono ?_
  rintro x w1 ⟨rfl, b1⟩
  have A1 := Hid.mk' (HST.out w1 b1)
  obtain ⟨d0, d1, d2, d3⟩ := HBX.out _ _ A1.out
  have H := Hid.mk' (HBY.out w1 [] (by decide) A1.out)
  clear b1 HR HST HBY A1 c0 c1 c2 c3
  go_wp2_with fail
  refine H.out.mono ?_
  rintro x w2 ⟨rfl, a2⟩
  have A2 := Hid.mk' a2
  obtain ⟨e0, e1, e2, e3⟩ := HBX.out _ _ A2.out
  clear a2 d0 d1 d2 d3 H
  have A3 : Hid (Wr w w2 26 p g (wA M e (wv 9 n f s)) e) := by show Wr _ _ _ _ _ _ _; rw [hwv.out]; exact Wr.pre hpre.out A2.out
  clear A2 hwv
  go_wp2
  go_end0
  exact ⟨rfl, A3.out⟩

set_option maxRecDepth 100000 in
set_option maxHeartbeats 2000000 in
theorem write_10 (n : Int) (f : Nat) (s : ByteArray) (hn0 : -9223372036854775808 ≤ n) (hn1 : n < 9223372036854775808) (hf : f < 18446744073709551616) (hs : s.size ≤ 9223372036854775807) (w : World) (hw : WS w 26 p g M e) (hT : Tabs w) (hp4 : 4 ≤ p) (hg4 : ∀ k, g = some k → 4 ≤ k) (hsum : M.length + 2000 ≤ 140737488355328) (hr : V.rightV 10 n f s = true) :
    Calls Tryd.prog 5 #[.pointer (some ⟨p, 0, none⟩), .agg #[.int .u8 10, .int .i64 n, .float .f64 f, .string s]] w fun x w' => x = .returned (.tuple #[]) ∧ Wr w w' 26 p g (wA M e (wv 10 n f s)) e := by
  have hT0 : Tabs (w.alloc (.cells (bx 10 n f s) 34)) := hT.below (bel_box _ _ _)
  have HR := Hid.mk' (V.right26_any 10 n f s (w.alloc (.cells (bx 10 n f s) 34)) (by decide) hf hs hT0)
  rw [hr] at HR
  have hpre := Hid.mk' (bel_box w (bx 10 n f s) 34)
  have HBX := Hid.mk' (fun (wx : World) (M' : List UInt8) (hx : Wr (w.alloc (.cells (bx 10 n f s) 34)) wx 26 p g M' e) => box_cells (k := 10) (n := n) (f := f) (s := s) hw hx)
  have HST := Hid.mk' (fun (w1 : World) (b1 : Below (w.alloc (.cells (bx 10 n f s) 34)).heap.size (w.alloc (.cells (bx 10 n f s) 34)) w1) => start_wr (cs := bx 10 n f s) hw b1)
  have HBY := Hid.mk' (lift_wr (T := 26) (p := p) (g := g) (M := M) (e := e) (W0 := (w.alloc (.cells (bx 10 n f s) 34))) (fn := 28) (args := #[.pointer (some ⟨p, 0, none⟩), .int .u8 10]) (B := [UInt8.ofNat 10]) hsum (fun wx g1 M1 _ ws hl => wbyte_any (UInt8.ofNat 10) 10 rfl wx ws (by omega)))
  have hwv : Hid (wv 10 n f s = [] ++ [UInt8.ofNat 10]) := by show _ = _; simp [wv]
  have c0 := (cell_of_row (w.alloc (.cells (bx 10 n f s) 34)) w.heap.size 0 _ _ _ (heap_alloc_new _ _)).trans (show (bx 10 n f s)[0]? = some (.int .u8 10) from rfl)
  have c1 := (cell_of_row (w.alloc (.cells (bx 10 n f s) 34)) w.heap.size 1 _ _ _ (heap_alloc_new _ _)).trans (show (bx 10 n f s)[1]? = some (.int .i64 n) from rfl)
  have c2 := (cell_of_row (w.alloc (.cells (bx 10 n f s) 34)) w.heap.size 2 _ _ _ (heap_alloc_new _ _)).trans (show (bx 10 n f s)[2]? = some (.float .f64 f) from rfl)
  have c3 := (cell_of_row (w.alloc (.cells (bx 10 n f s) 34)) w.heap.size 3 _ _ _ (heap_alloc_new _ _)).trans (show (bx 10 n f s)[3]? = some (.string s) from rfl)
  clear hw hT hT0 hr hsum
  go_enter Tryd.func5, Tryd.ntmps5
  go_wp2_with fail
  refine HR.out.mono ?_
  rintro x w1 ⟨rfl, b1⟩
  have A1 := Hid.mk' (HST.out w1 b1)
  obtain ⟨d0, d1, d2, d3⟩ := HBX.out _ _ A1.out
  have H := Hid.mk' (HBY.out w1 [] (by decide) A1.out)
  clear b1 HR HST HBY A1 c0 c1 c2 c3
  go_wp2_with fail
  refine H.out.mono ?_
  rintro x w2 ⟨rfl, a2⟩
  have A2 := Hid.mk' a2
  obtain ⟨e0, e1, e2, e3⟩ := HBX.out _ _ A2.out
  clear a2 d0 d1 d2 d3 H
  have A3 : Hid (Wr w w2 26 p g (wA M e (wv 10 n f s)) e) := by show Wr _ _ _ _ _ _ _; rw [hwv.out]; exact Wr.pre hpre.out A2.out
  clear A2 hwv
  go_wp2
  go_end0
  exact ⟨rfl, A3.out⟩

set_option maxRecDepth 100000 in
set_option maxHeartbeats 2000000 in
theorem write_11 (n : Int) (f : Nat) (s : ByteArray) (hn0 : -9223372036854775808 ≤ n) (hn1 : n < 9223372036854775808) (hf : f < 18446744073709551616) (hs : s.size ≤ 9223372036854775807) (w : World) (hw : WS w 26 p g M e) (hT : Tabs w) (hp4 : 4 ≤ p) (hg4 : ∀ k, g = some k → 4 ≤ k) (hsum : M.length + 2000 ≤ 140737488355328) (hr : V.rightV 11 n f s = true) :
    Calls Tryd.prog 5 #[.pointer (some ⟨p, 0, none⟩), .agg #[.int .u8 11, .int .i64 n, .float .f64 f, .string s]] w fun x w' => x = .returned (.tuple #[]) ∧ Wr w w' 26 p g (wA M e (wv 11 n f s)) e := by
  have hT0 : Tabs (w.alloc (.cells (bx 11 n f s) 34)) := hT.below (bel_box _ _ _)
  have HR := Hid.mk' (V.right26_any 11 n f s (w.alloc (.cells (bx 11 n f s) 34)) (by decide) hf hs hT0)
  rw [hr] at HR
  have hpre := Hid.mk' (bel_box w (bx 11 n f s) 34)
  have HBX := Hid.mk' (fun (wx : World) (M' : List UInt8) (hx : Wr (w.alloc (.cells (bx 11 n f s) 34)) wx 26 p g M' e) => box_cells (k := 11) (n := n) (f := f) (s := s) hw hx)
  have HST := Hid.mk' (fun (w1 : World) (b1 : Below (w.alloc (.cells (bx 11 n f s) 34)).heap.size (w.alloc (.cells (bx 11 n f s) 34)) w1) => start_wr (cs := bx 11 n f s) hw b1)
  have HBY := Hid.mk' (lift_wr (T := 26) (p := p) (g := g) (M := M) (e := e) (W0 := (w.alloc (.cells (bx 11 n f s) 34))) (fn := 28) (args := #[.pointer (some ⟨p, 0, none⟩), .int .u8 11]) (B := [UInt8.ofNat 11]) hsum (fun wx g1 M1 _ ws hl => wbyte_any (UInt8.ofNat 11) 11 rfl wx ws (by omega)))
  have hwv : Hid (wv 11 n f s = [] ++ [UInt8.ofNat 11]) := by show _ = _; simp [wv]
  have c0 := (cell_of_row (w.alloc (.cells (bx 11 n f s) 34)) w.heap.size 0 _ _ _ (heap_alloc_new _ _)).trans (show (bx 11 n f s)[0]? = some (.int .u8 11) from rfl)
  have c1 := (cell_of_row (w.alloc (.cells (bx 11 n f s) 34)) w.heap.size 1 _ _ _ (heap_alloc_new _ _)).trans (show (bx 11 n f s)[1]? = some (.int .i64 n) from rfl)
  have c2 := (cell_of_row (w.alloc (.cells (bx 11 n f s) 34)) w.heap.size 2 _ _ _ (heap_alloc_new _ _)).trans (show (bx 11 n f s)[2]? = some (.float .f64 f) from rfl)
  have c3 := (cell_of_row (w.alloc (.cells (bx 11 n f s) 34)) w.heap.size 3 _ _ _ (heap_alloc_new _ _)).trans (show (bx 11 n f s)[3]? = some (.string s) from rfl)
  clear hw hT hT0 hr hsum
  go_enter Tryd.func5, Tryd.ntmps5
  go_wp2_with fail
  refine HR.out.mono ?_
  rintro x w1 ⟨rfl, b1⟩
  have A1 := Hid.mk' (HST.out w1 b1)
  obtain ⟨d0, d1, d2, d3⟩ := HBX.out _ _ A1.out
  have H := Hid.mk' (HBY.out w1 [] (by decide) A1.out)
  clear b1 HR HST HBY A1 c0 c1 c2 c3
  go_wp2_with fail
  refine H.out.mono ?_
  rintro x w2 ⟨rfl, a2⟩
  have A2 := Hid.mk' a2
  obtain ⟨e0, e1, e2, e3⟩ := HBX.out _ _ A2.out
  clear a2 d0 d1 d2 d3 H
  have A3 : Hid (Wr w w2 26 p g (wA M e (wv 11 n f s)) e) := by show Wr _ _ _ _ _ _ _; rw [hwv.out]; exact Wr.pre hpre.out A2.out
  clear A2 hwv
  go_wp2
  go_end0
  exact ⟨rfl, A3.out⟩

end Go.Proofs.YtkinjcblngkeiaaDoor
