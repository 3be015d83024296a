import Derived.Test.YtkinjcblngkeiaaDoorWh
namespace Go.Proofs.YtkinjcblngkeiaaDoor
open Go.RowKit
set_option linter.unusedVariables false
set_option linter.unusedSimpArgs false

variable {p : Nat} {g : Option Nat} {M : List UInt8} {e : Int}
set_option maxRecDepth 100000 in
set_option maxHeartbeats 2000000 in
theorem write_0 (n : Int) (f : Nat) (s : ByteArray) (hn0 : -9223372036854775808 ≤ n) (hn1 : n < 9223372036854775808) (hf : f < 18446744073709551616) (hs : s.size ≤ 9223372036854775807) (w : World) (hw : WS w 26 p g M e) (hT : Tabs w) (hp4 : 4 ≤ p) (hg4 : ∀ k, g = some k → 4 ≤ k) (hsum : M.length + 2000 ≤ 140737488355328) (hr : V.rightV 0 n f s = true) :
    Calls Tryd.prog 5 #[.pointer (some ⟨p, 0, none⟩), .agg #[.int .u8 0, .int .i64 n, .float .f64 f, .string s]] w fun x w' => x = .returned (.tuple #[]) ∧ Wr w w' 26 p g (wA M e (wv 0 n f s)) e := by
  have hT0 : Tabs (w.alloc (.cells (bx 0 n f s) 34)) := hT.below (bel_box _ _ _)
  have HR := Hid.mk' (V.right26_any 0 n f s (w.alloc (.cells (bx 0 n f s) 34)) (by decide) hf hs hT0)
  rw [hr] at HR
  have hpre := Hid.mk' (bel_box w (bx 0 n f s) 34)
  have HBX := Hid.mk' (fun (wx : World) (M' : List UInt8) (hx : Wr (w.alloc (.cells (bx 0 n f s) 34)) wx 26 p g M' e) => box_cells (k := 0) (n := n) (f := f) (s := s) hw hx)
  have HST := Hid.mk' (fun (w1 : World) (b1 : Below (w.alloc (.cells (bx 0 n f s) 34)).heap.size (w.alloc (.cells (bx 0 n f s) 34)) w1) => start_wr (cs := bx 0 n f s) hw b1)
  have HBY := Hid.mk' (lift_wr (T := 26) (p := p) (g := g) (M := M) (e := e) (W0 := (w.alloc (.cells (bx 0 n f s) 34))) (fn := 28) (args := #[.pointer (some ⟨p, 0, none⟩), .int .u8 0]) (B := [UInt8.ofNat 0]) hsum (fun wx g1 M1 _ ws hl => wbyte_any (UInt8.ofNat 0) 0 rfl wx ws (by omega)))
  have hwv : Hid (wv 0 n f s = [] ++ [UInt8.ofNat 0]) := by show _ = _; simp [wv]
  have c0 := (cell_of_row (w.alloc (.cells (bx 0 n f s) 34)) w.heap.size 0 _ _ _ (heap_alloc_new _ _)).trans (show (bx 0 n f s)[0]? = some (.int .u8 0) from rfl)
  have c1 := (cell_of_row (w.alloc (.cells (bx 0 n f s) 34)) w.heap.size 1 _ _ _ (heap_alloc_new _ _)).trans (show (bx 0 n f s)[1]? = some (.int .i64 n) from rfl)
  have c2 := (cell_of_row (w.alloc (.cells (bx 0 n f s) 34)) w.heap.size 2 _ _ _ (heap_alloc_new _ _)).trans (show (bx 0 n f s)[2]? = some (.float .f64 f) from rfl)
  have c3 := (cell_of_row (w.alloc (.cells (bx 0 n f s) 34)) w.heap.size 3 _ _ _ (heap_alloc_new _ _)).trans (show (bx 0 n f s)[3]? = some (.string s) from rfl)
  clear hw hT hT0 hr hsum
  go_enter Tryd.func5, Tryd.ntmps5
  go_wp2_with fail
  refine HR.out.mono ?_
  rintro x w1 ⟨rfl, b1⟩
  have A1 := Hid.mk' (HST.out w1 b1)
  obtain ⟨d0, d1, d2, d3⟩ := HBX.out _ _ A1.out
  have H := Hid.mk' (HBY.out w1 [] (by decide) A1.out)
  clear b1 HR HST HBY A1 c0 c1 c2 c3
  go_wp2_with fail
  refine H.out.mono ?_
  rintro x w2 ⟨rfl, a2⟩
  have A2 := Hid.mk' a2
  obtain ⟨e0, e1, e2, e3⟩ := HBX.out _ _ A2.out
  clear a2 d0 d1 d2 d3 H
  have A3 : Hid (Wr w w2 26 p g (wA M e (wv 0 n f s)) e) := by show Wr _ _ _ _ _ _ _; rw [hwv.out]; exact Wr.pre hpre.out A2.out
  clear A2 hwv
  go_wp2
  go_end0
  exact ⟨rfl, A3.out⟩

set_option maxRecDepth 100000 in
set_option maxHeartbeats 2000000 in
theorem write_1 (n : Int) (f : Nat) (s : ByteArray) (hn0 : -9223372036854775808 ≤ n) (hn1 : n < 9223372036854775808) (hf : f < 18446744073709551616) (hs : s.size ≤ 9223372036854775807) (w : World) (hw : WS w 26 p g M e) (hT : Tabs w) (hp4 : 4 ≤ p) (hg4 : ∀ k, g = some k → 4 ≤ k) (hsum : M.length + 2000 ≤ 140737488355328) (hr : V.rightV 1 n f s = true) :
    Calls Tryd.prog 5 #[.pointer (some ⟨p, 0, none⟩), .agg #[.int .u8 1, .int .i64 n, .float .f64 f, .string s]] w fun x w' => x = .returned (.tuple #[]) ∧ Wr w w' 26 p g (wA M e (wv 1 n f s)) e := by
  have hT0 : Tabs (w.alloc (.cells (bx 1 n f s) 34)) := hT.below (bel_box _ _ _)
  have HR := Hid.mk' (V.right26_any 1 n f s (w.alloc (.cells (bx 1 n f s) 34)) (by decide) hf hs hT0)
  rw [hr] at HR
  have hpre := Hid.mk' (bel_box w (bx 1 n f s) 34)
  have HBX := Hid.mk' (fun (wx : World) (M' : List UInt8) (hx : Wr (w.alloc (.cells (bx 1 n f s) 34)) wx 26 p g M' e) => box_cells (k := 1) (n := n) (f := f) (s := s) hw hx)
  have HST := Hid.mk' (fun (w1 : World) (b1 : Below (w.alloc (.cells (bx 1 n f s) 34)).heap.size (w.alloc (.cells (bx 1 n f s) 34)) w1) => start_wr (cs := bx 1 n f s) hw b1)
  have HBY := Hid.mk' (lift_wr (T := 26) (p := p) (g := g) (M := M) (e := e) (W0 := (w.alloc (.cells (bx 1 n f s) 34))) (fn := 28) (args := #[.pointer (some ⟨p, 0, none⟩), .int .u8 1]) (B := [UInt8.ofNat 1]) hsum (fun wx g1 M1 _ ws hl => wbyte_any (UInt8.ofNat 1) 1 rfl wx ws (by omega)))
  have HK := Hid.mk' (lift_wr (T := 26) (p := p) (g := g) (M := M) (e := e) (W0 := (w.alloc (.cells (bx 1 n f s) 34))) (fn := 29) (args := #[.pointer (some ⟨p, 0, none⟩), .bool (n == 1)]) (B := [if (n == 1) = true then 1 else 0]) hsum (fun wx g1 M1 _ ws hl => wbool_any (n == 1) wx ws (by omega)))
  have hwv : Hid (wv 1 n f s = [] ++ [UInt8.ofNat 1] ++ [if (n == 1) = true then 1 else 0]) := by show _ = _; unfold wv; by_cases h1 : n = 1 <;> simp [h1]
  have c0 := (cell_of_row (w.alloc (.cells (bx 1 n f s) 34)) w.heap.size 0 _ _ _ (heap_alloc_new _ _)).trans (show (bx 1 n f s)[0]? = some (.int .u8 1) from rfl)
  have c1 := (cell_of_row (w.alloc (.cells (bx 1 n f s) 34)) w.heap.size 1 _ _ _ (heap_alloc_new _ _)).trans (show (bx 1 n f s)[1]? = some (.int .i64 n) from rfl)
  have c2 := (cell_of_row (w.alloc (.cells (bx 1 n f s) 34)) w.heap.size 2 _ _ _ (heap_alloc_new _ _)).trans (show (bx 1 n f s)[2]? = some (.float .f64 f) from rfl)
  have c3 := (cell_of_row (w.alloc (.cells (bx 1 n f s) 34)) w.heap.size 3 _ _ _ (heap_alloc_new _ _)).trans (show (bx 1 n f s)[3]? = some (.string s) from rfl)
  clear hw hT hT0 hr hsum
  go_enter Tryd.func5, Tryd.ntmps5
  go_wp2_with fail
  refine HR.out.mono ?_
  rintro x w1 ⟨rfl, b1⟩
  have A1 := Hid.mk' (HST.out w1 b1)
  obtain ⟨d0, d1, d2, d3⟩ := HBX.out _ _ A1.out
  have H := Hid.mk' (HBY.out w1 [] (by decide) A1.out)
  clear b1 HR HST HBY A1 c0 c1 c2 c3
  go_wp2_with fail
  refine H.out.mono ?_
  rintro x w2 ⟨rfl, a2⟩
  have A2 := Hid.mk' a2
  obtain ⟨e0, e1, e2, e3⟩ := HBX.out _ _ A2.out
  clear a2 d0 d1 d2 d3 H
  have H3 := Hid.mk' (HK.out w2 _ (by simp) A2.out)
  clear HK
  go_wp2_with fail
  refine H3.out.mono ?_
  rintro x w3 ⟨rfl, a3⟩
  rw [← hwv.out] at a3
  have A3 := Hid.mk' (Wr.pre hpre.out a3)
  clear a3
  go_wp2
  go_end0
  exact ⟨rfl, A3.out⟩

set_option maxRecDepth 100000 in
set_option maxHeartbeats 2000000 in
theorem write_2 (n : Int) (f : Nat) (s : ByteArray) (hn0 : -9223372036854775808 ≤ n) (hn1 : n < 9223372036854775808) (hf : f < 18446744073709551616) (hs : s.size ≤ 9223372036854775807) (w : World) (hw : WS w 26 p g M e) (hT : Tabs w) (hp4 : 4 ≤ p) (hg4 : ∀ k, g = some k → 4 ≤ k) (hsum : M.length + 2000 ≤ 140737488355328) (hr : V.rightV 2 n f s = true) :
    Calls Tryd.prog 5 #[.pointer (some ⟨p, 0, none⟩), .agg #[.int .u8 2, .int .i64 n, .float .f64 f, .string s]] w fun x w' => x = .returned (.tuple #[]) ∧ Wr w w' 26 p g (wA M e (wv 2 n f s)) e := by
  have hT0 : Tabs (w.alloc (.cells (bx 2 n f s) 34)) := hT.below (bel_box _ _ _)
  have HR := Hid.mk' (V.right26_any 2 n f s (w.alloc (.cells (bx 2 n f s) 34)) (by decide) hf hs hT0)
  rw [hr] at HR
  have hpre := Hid.mk' (bel_box w (bx 2 n f s) 34)
  have HBX := Hid.mk' (fun (wx : World) (M' : List UInt8) (hx : Wr (w.alloc (.cells (bx 2 n f s) 34)) wx 26 p g M' e) => box_cells (k := 2) (n := n) (f := f) (s := s) hw hx)
  have HST := Hid.mk' (fun (w1 : World) (b1 : Below (w.alloc (.cells (bx 2 n f s) 34)).heap.size (w.alloc (.cells (bx 2 n f s) 34)) w1) => start_wr (cs := bx 2 n f s) hw b1)
  have HBY := Hid.mk' (lift_wr (T := 26) (p := p) (g := g) (M := M) (e := e) (W0 := (w.alloc (.cells (bx 2 n f s) 34))) (fn := 28) (args := #[.pointer (some ⟨p, 0, none⟩), .int .u8 2]) (B := [UInt8.ofNat 2]) hsum (fun wx g1 M1 _ ws hl => wbyte_any (UInt8.ofNat 2) 2 rfl wx ws (by omega)))
  have HK := Hid.mk' (lift_wr (T := 26) (p := p) (g := g) (M := M) (e := e) (W0 := (w.alloc (.cells (bx 2 n f s) 34))) (fn := 30) (args := #[.pointer (some ⟨p, 0, none⟩), .int .i64 n]) (B := vint (zig n)) hsum (fun wx g1 M1 _ ws hl => wint_any n hn0 hn1 wx ws (by omega)))
  have hwv : Hid (wv 2 n f s = [] ++ [UInt8.ofNat 2] ++ vint (zig n)) := by show _ = _; simp [wv]
  have c0 := (cell_of_row (w.alloc (.cells (bx 2 n f s) 34)) w.heap.size 0 _ _ _ (heap_alloc_new _ _)).trans (show (bx 2 n f s)[0]? = some (.int .u8 2) from rfl)
  have c1 := (cell_of_row (w.alloc (.cells (bx 2 n f s) 34)) w.heap.size 1 _ _ _ (heap_alloc_new _ _)).trans (show (bx 2 n f s)[1]? = some (.int .i64 n) from rfl)
  have c2 := (cell_of_row (w.alloc (.cells (bx 2 n f s) 34)) w.heap.size 2 _ _ _ (heap_alloc_new _ _)).trans (show (bx 2 n f s)[2]? = some (.float .f64 f) from rfl)
  have c3 := (cell_of_row (w.alloc (.cells (bx 2 n f s) 34)) w.heap.size 3 _ _ _ (heap_alloc_new _ _)).trans (show (bx 2 n f s)[3]? = some (.string s) from rfl)
  clear hw hT hT0 hr hsum
  go_enter Tryd.func5, Tryd.ntmps5
  go_wp2_with fail
  refine HR.out.mono ?_
  rintro x w1 ⟨rfl, b1⟩
  have A1 := Hid.mk' (HST.out w1 b1)
  obtain ⟨d0, d1, d2, d3⟩ := HBX.out _ _ A1.out
  have H := Hid.mk' (HBY.out w1 [] (by decide) A1.out)
  clear b1 HR HST HBY A1 c0 c1 c2 c3
  go_wp2_with fail
  refine H.out.mono ?_
  rintro x w2 ⟨rfl, a2⟩
  have A2 := Hid.mk' a2
  obtain ⟨e0, e1, e2, e3⟩ := HBX.out _ _ A2.out
  clear a2 d0 d1 d2 d3 H
  have H3 := Hid.mk' (HK.out w2 _ (by simp) A2.out)
  clear HK
  go_wp2_with fail
  refine H3.out.mono ?_
  rintro x w3 ⟨rfl, a3⟩
  rw [← hwv.out] at a3
  have A3 := Hid.mk' (Wr.pre hpre.out a3)
  clear a3
  go_wp2
  go_end0
  exact ⟨rfl, A3.out⟩

set_option maxRecDepth 100000 in
set_option maxHeartbeats 2000000 in
theorem write_3 (n : Int) (f : Nat) (s : ByteArray) (hn0 : -9223372036854775808 ≤ n) (hn1 : n < 9223372036854775808) (hf : f < 18446744073709551616) (hs : s.size ≤ 9223372036854775807) (w : World) (hw : WS w 26 p g M e) (hT : Tabs w) (hp4 : 4 ≤ p) (hg4 : ∀ k, g = some k → 4 ≤ k) (hsum : M.length + 2000 ≤ 140737488355328) (hr : V.rightV 3 n f s = true) :
    Calls Tryd.prog 5 #[.pointer (some ⟨p, 0, none⟩), .agg #[.int .u8 3, .int .i64 n, .float .f64 f, .string s]] w fun x w' => x = .returned (.tuple #[]) ∧ Wr w w' 26 p g (wA M e (wv 3 n f s)) e := by
  have hT0 : Tabs (w.alloc (.cells (bx 3 n f s) 34)) := hT.below (bel_box _ _ _)
  have HR := Hid.mk' (V.right26_any 3 n f s (w.alloc (.cells (bx 3 n f s) 34)) (by decide) hf hs hT0)
  rw [hr] at HR
  have hpre := Hid.mk' (bel_box w (bx 3 n f s) 34)
  have HBX := Hid.mk' (fun (wx : World) (M' : List UInt8) (hx : Wr (w.alloc (.cells (bx 3 n f s) 34)) wx 26 p g M' e) => box_cells (k := 3) (n := n) (f := f) (s := s) hw hx)
  have HST := Hid.mk' (fun (w1 : World) (b1 : Below (w.alloc (.cells (bx 3 n f s) 34)).heap.size (w.alloc (.cells (bx 3 n f s) 34)) w1) => start_wr (cs := bx 3 n f s) hw b1)
  have HBY := Hid.mk' (lift_wr (T := 26) (p := p) (g := g) (M := M) (e := e) (W0 := (w.alloc (.cells (bx 3 n f s) 34))) (fn := 28) (args := #[.pointer (some ⟨p, 0, none⟩), .int .u8 3]) (B := [UInt8.ofNat 3]) hsum (fun wx g1 M1 _ ws hl => wbyte_any (UInt8.ofNat 3) 3 rfl wx ws (by omega)))
  have hfin : finB f = true := by
    unfold V.rightV at hr
    rw [if_pos rfl] at hr
    unfold V.rightF at hr
    simp only [Bool.and_eq_true] at hr
    exact hr.1.2
  have HK := Hid.mk' (lift_wr (T := 26) (p := p) (g := g) (M := M) (e := e) (W0 := (w.alloc (.cells (bx 3 n f s) 34))) (fn := 31) (args := #[.pointer (some ⟨p, 0, none⟩), .float .f64 f]) (B := b8 f) hsum (fun wx g1 M1 _ ws hl => wfloat_any f hf hfin wx ws (by omega)))
  have hwv : Hid (wv 3 n f s = [] ++ [UInt8.ofNat 3] ++ b8 f) := by show _ = _; simp [wv]
  have c0 := (cell_of_row (w.alloc (.cells (bx 3 n f s) 34)) w.heap.size 0 _ _ _ (heap_alloc_new _ _)).trans (show (bx 3 n f s)[0]? = some (.int .u8 3) from rfl)
  have c1 := (cell_of_row (w.alloc (.cells (bx 3 n f s) 34)) w.heap.size 1 _ _ _ (heap_alloc_new _ _)).trans (show (bx 3 n f s)[1]? = some (.int .i64 n) from rfl)
  have c2 := (cell_of_row (w.alloc (.cells (bx 3 n f s) 34)) w.heap.size 2 _ _ _ (heap_alloc_new _ _)).trans (show (bx 3 n f s)[2]? = some (.float .f64 f) from rfl)
  have c3 := (cell_of_row (w.alloc (.cells (bx 3 n f s) 34)) w.heap.size 3 _ _ _ (heap_alloc_new _ _)).trans (show (bx 3 n f s)[3]? = some (.string s) from rfl)
  clear hw hT hT0 hr hsum
  go_enter Tryd.func5, Tryd.ntmps5
  go_wp2_with fail
  refine HR.out.mono ?_
  rintro x w1 ⟨rfl, b1⟩
  have A1 := Hid.mk' (HST.out w1 b1)
  obtain ⟨d0, d1, d2, d3⟩ := HBX.out _ _ A1.out
  have H := Hid.mk' (HBY.out w1 [] (by decide) A1.out)
  clear b1 HR HST HBY A1 c0 c1 c2 c3
  go_wp2_with fail
  refine H.out.mono ?_
  rintro x w2 ⟨rfl, a2⟩
  have A2 := Hid.mk' a2
  obtain ⟨e0, e1, e2, e3⟩ := HBX.out _ _ A2.out
  clear a2 d0 d1 d2 d3 H
  have H3 := Hid.mk' (HK.out w2 _ (by simp) A2.out)
  clear HK
  go_wp2_with fail
  refine H3.out.mono ?_
  rintro x w3 ⟨rfl, a3⟩
  rw [← hwv.out] at a3
  have A3 := Hid.mk' (Wr.pre hpre.out a3)
  clear a3
  go_wp2
  go_end0
  exact ⟨rfl, A3.out⟩

set_option maxRecDepth 100000 in
set_option maxHeartbeats 2000000 in
theorem write_4 (n : Int) (f : Nat) (s : ByteArray) (hn0 : -9223372036854775808 ≤ n) (hn1 : n < 9223372036854775808) (hf : f < 18446744073709551616) (hs : s.size ≤ 9223372036854775807) (w : World) (hw : WS w 26 p g M e) (hT : Tabs w) (hp4 : 4 ≤ p) (hg4 : ∀ k, g = some k → 4 ≤ k) (hsum : M.length + 2000 ≤ 140737488355328) (hr : V.rightV 4 n f s = true) :
    Calls Tryd.prog 5 #[.pointer (some ⟨p, 0, none⟩), .agg #[.int .u8 4, .int .i64 n, .float .f64 f, .string s]] w fun x w' => x = .returned (.tuple #[]) ∧ Wr w w' 26 p g (wA M e (wv 4 n f s)) e := by
  have hT0 : Tabs (w.alloc (.cells (bx 4 n f s) 34)) := hT.below (bel_box _ _ _)
  have HR := Hid.mk' (V.right26_any 4 n f s (w.alloc (.cells (bx 4 n f s) 34)) (by decide) hf hs hT0)
  rw [hr] at HR
  have hpre := Hid.mk' (bel_box w (bx 4 n f s) 34)
  have HBX := Hid.mk' (fun (wx : World) (M' : List UInt8) (hx : Wr (w.alloc (.cells (bx 4 n f s) 34)) wx 26 p g M' e) => box_cells (k := 4) (n := n) (f := f) (s := s) hw hx)
  have HST := Hid.mk' (fun (w1 : World) (b1 : Below (w.alloc (.cells (bx 4 n f s) 34)).heap.size (w.alloc (.cells (bx 4 n f s) 34)) w1) => start_wr (cs := bx 4 n f s) hw b1)
  have HBY := Hid.mk' (lift_wr (T := 26) (p := p) (g := g) (M := M) (e := e) (W0 := (w.alloc (.cells (bx 4 n f s) 34))) (fn := 28) (args := #[.pointer (some ⟨p, 0, none⟩), .int .u8 4]) (B := [UInt8.ofNat 4]) hsum (fun wx g1 M1 _ ws hl => wbyte_any (UInt8.ofNat 4) 4 rfl wx ws (by omega)))
  have hvs : Lib.validD s.data.toList = true ∧ s.size ≤ 1000 := by
    unfold V.rightV at hr
    rw [if_neg (by decide), if_pos rfl] at hr
    unfold V.rightT at hr
    simp only [Bool.and_eq_true, decide_eq_true_eq] at hr
    exact ⟨hr.2, by omega⟩
  have HK := Hid.mk' (lift_wr (T := 26) (p := p) (g := g) (M := M) (e := e) (W0 := (w.alloc (.cells (bx 4 n f s) 34))) (fn := 32) (args := #[.pointer (some ⟨p, 0, none⟩), .string s]) (B := (vint s.size ++ s.data.toList)) hsum (fun wx g1 M1 fr ws hl => wtext_any s (by omega) hvs.1 wx ws (hT0.frw fr hp4 hg4) (by omega)))
  have hwv : Hid (wv 4 n f s = [] ++ [UInt8.ofNat 4] ++ (vint s.size ++ s.data.toList)) := by show _ = _; simp [wv]
  have c0 := (cell_of_row (w.alloc (.cells (bx 4 n f s) 34)) w.heap.size 0 _ _ _ (heap_alloc_new _ _)).trans (show (bx 4 n f s)[0]? = some (.int .u8 4) from rfl)
  have c1 := (cell_of_row (w.alloc (.cells (bx 4 n f s) 34)) w.heap.size 1 _ _ _ (heap_alloc_new _ _)).trans (show (bx 4 n f s)[1]? = some (.int .i64 n) from rfl)
  have c2 := (cell_of_row (w.alloc (.cells (bx 4 n f s) 34)) w.heap.size 2 _ _ _ (heap_alloc_new _ _)).trans (show (bx 4 n f s)[2]? = some (.float .f64 f) from rfl)
  have c3 := (cell_of_row (w.alloc (.cells (bx 4 n f s) 34)) w.heap.size 3 _ _ _ (heap_alloc_new _ _)).trans (show (bx 4 n f s)[3]? = some (.string s) from rfl)
  clear hw hT hT0 hr hsum
  go_enter Tryd.func5, Tryd.ntmps5
  go_wp2_with fail
  refine HR.out.mono ?_
  rintro x w1 ⟨rfl, b1⟩
  have A1 := Hid.mk' (HST.out w1 b1)
  obtain ⟨d0, d1, d2, d3⟩ := HBX.out _ _ A1.out
  have H := Hid.mk' (HBY.out w1 [] (by decide) A1.out)
  clear b1 HR HST HBY A1 c0 c1 c2 c3
  go_wp2_with fail
  refine H.out.mono ?_
  rintro x w2 ⟨rfl, a2⟩
  have A2 := Hid.mk' a2
  obtain ⟨e0, e1, e2, e3⟩ := HBX.out _ _ A2.out
  clear a2 d0 d1 d2 d3 H
  have H3 := Hid.mk' (HK.out w2 _ (by simp) A2.out)
  clear HK
  go_wp2_with fail
  refine H3.out.mono ?_
  rintro x w3 ⟨rfl, a3⟩
  rw [← hwv.out] at a3
  have A3 := Hid.mk' (Wr.pre hpre.out a3)
  clear a3
  go_wp2
  go_end0
  exact ⟨rfl, A3.out⟩

set_option maxRecDepth 100000 in
set_option maxHeartbeats 2000000 in
theorem write_5 (n : Int) (f : Nat) (s : ByteArray) (hn0 : -9223372036854775808 ≤ n) (hn1 : n < 9223372036854775808) (hf : f < 18446744073709551616) (hs : s.size ≤ 9223372036854775807) (w : World) (hw : WS w 26 p g M e) (hT : Tabs w) (hp4 : 4 ≤ p) (hg4 : ∀ k, g = some k → 4 ≤ k) (hsum : M.length + 2000 ≤ 140737488355328) (hr : V.rightV 5 n f s = true) :
    Calls Tryd.prog 5 #[.pointer (some ⟨p, 0, none⟩), .agg #[.int .u8 5, .int .i64 n, .float .f64 f, .string s]] w fun x w' => x = .returned (.tuple #[]) ∧ Wr w w' 26 p g (wA M e (wv 5 n f s)) e := by
  have hT0 : Tabs (w.alloc (.cells (bx 5 n f s) 34)) := hT.below (bel_box _ _ _)
  have HR := Hid.mk' (V.right26_any 5 n f s (w.alloc (.cells (bx 5 n f s) 34)) (by decide) hf hs hT0)
  rw [hr] at HR
  have hpre := Hid.mk' (bel_box w (bx 5 n f s) 34)
  have HBX := Hid.mk' (fun (wx : World) (M' : List UInt8) (hx : Wr (w.alloc (.cells (bx 5 n f s) 34)) wx 26 p g M' e) => box_cells (k := 5) (n := n) (f := f) (s := s) hw hx)
  have HST := Hid.mk' (fun (w1 : World) (b1 : Below (w.alloc (.cells (bx 5 n f s) 34)).heap.size (w.alloc (.cells (bx 5 n f s) 34)) w1) => start_wr (cs := bx 5 n f s) hw b1)
  have HBY := Hid.mk' (lift_wr (T := 26) (p := p) (g := g) (M := M) (e := e) (W0 := (w.alloc (.cells (bx 5 n f s) 34))) (fn := 28) (args := #[.pointer (some ⟨p, 0, none⟩), .int .u8 5]) (B := [UInt8.ofNat 5]) hsum (fun wx g1 M1 _ ws hl => wbyte_any (UInt8.ofNat 5) 5 rfl wx ws (by omega)))
  have hvs : s.size ≤ 1000 := by
    unfold V.rightV V.rightB at hr
    simp at hr
    omega
  have hl : s.data.toList.length = s.size := by simp
  have HK : Hid (∀ wx P, P.length ≤ 50 → Wr (w.alloc (.cells (bx 5 n f s) 34)) wx 26 p g (wA M e P) e → ∃ cap C fr, (convert 9 23 (.string s)).run Tryd.prog wx = .ok (.slice (some ⟨wx.heap.size, 0, none⟩) s.size cap) (wx.drew.alloc (.cells C 5 fr)) ∧ Calls Tryd.prog 33 #[.pointer (some ⟨p, 0, none⟩), .slice (some ⟨wx.heap.size, 0, none⟩) s.size cap] (wx.drew.alloc (.cells C 5 fr)) fun x w' => x = .returned (.tuple #[]) ∧ Wr (w.alloc (.cells (bx 5 n f s) 34)) w' 26 p g (wA M e (P ++ (vint s.size ++ s.data.toList))) e) := fun wx P hP hx => by
    obtain ⟨g1, ws, fr1, nw⟩ := hx
    obtain ⟨cap, C, fr, hcv, hby, ws2, hbl, n1, n2, n3⟩ := conv_sep s wx ws
    refine ⟨cap, C, fr, hcv, (wraw_any s.data.toList (some ⟨wx.heap.size, 0, none⟩) s.size cap _ ws2 hl hby (fun ad h => by cases h; exact ⟨n1, n2⟩) (fun ad h => by cases h; exact n3) (by have := wA_len M e P; rw [hl]; omega)).mono fun x w' h => ?_⟩
    rw [wA_wA] at h
    exact ⟨h.1, Wr.step fr1 nw (Wr.pre hbl h.2)⟩
  have hwv : Hid (wv 5 n f s = [] ++ [UInt8.ofNat 5] ++ (vint s.size ++ s.data.toList)) := by show _ = _; simp [wv]
  have c0 := (cell_of_row (w.alloc (.cells (bx 5 n f s) 34)) w.heap.size 0 _ _ _ (heap_alloc_new _ _)).trans (show (bx 5 n f s)[0]? = some (.int .u8 5) from rfl)
  have c1 := (cell_of_row (w.alloc (.cells (bx 5 n f s) 34)) w.heap.size 1 _ _ _ (heap_alloc_new _ _)).trans (show (bx 5 n f s)[1]? = some (.int .i64 n) from rfl)
  have c2 := (cell_of_row (w.alloc (.cells (bx 5 n f s) 34)) w.heap.size 2 _ _ _ (heap_alloc_new _ _)).trans (show (bx 5 n f s)[2]? = some (.float .f64 f) from rfl)
  have c3 := (cell_of_row (w.alloc (.cells (bx 5 n f s) 34)) w.heap.size 3 _ _ _ (heap_alloc_new _ _)).trans (show (bx 5 n f s)[3]? = some (.string s) from rfl)
  clear hw hT hT0 hr hsum
  go_enter Tryd.func5, Tryd.ntmps5
  go_wp2_with fail
  refine HR.out.mono ?_
  rintro x w1 ⟨rfl, b1⟩
  have A1 := Hid.mk' (HST.out w1 b1)
  obtain ⟨d0, d1, d2, d3⟩ := HBX.out _ _ A1.out
  have H := Hid.mk' (HBY.out w1 [] (by decide) A1.out)
  clear b1 HR HST HBY A1 c0 c1 c2 c3
  go_wp2_with fail
  refine H.out.mono ?_
  rintro x w2 ⟨rfl, a2⟩
  have A2 := Hid.mk' a2
  obtain ⟨e0, e1, e2, e3⟩ := HBX.out _ _ A2.out
  clear a2 d0 d1 d2 d3 H
  obtain ⟨cap, C, fr, hcv, H2⟩ := HK.out w2 _ (by simp) A2.out
  have H3 := Hid.mk' H2
  clear H2 HK
  go_wp2_with fail
  refine H3.out.mono ?_
  rintro x w3 ⟨rfl, a3⟩
  rw [← hwv.out] at a3
  have A3 := Hid.mk' (Wr.pre hpre.out a3)
  clear a3
  go_wp2
  go_end0
  exact ⟨rfl, A3.out⟩

set_option maxRecDepth 100000 in
set_option maxHeartbeats 2000000 in
theorem write_no (k : Int) (hk : 0 ≤ k) (n : Int) (f : Nat) (s : ByteArray) (hn0 : -9223372036854775808 ≤ n) (hn1 : n < 9223372036854775808) (hf : f < 18446744073709551616) (hs : s.size ≤ 9223372036854775807) (w : World) (hw : WS w 26 p g M e) (hT : Tabs w) (hp4 : 4 ≤ p) (hg4 : ∀ k, g = some k → 4 ≤ k) (hsum : M.length + 2000 ≤ 140737488355328) (hr : V.rightV k n f s = false) :
    Calls Tryd.prog 5 #[.pointer (some ⟨p, 0, none⟩), .agg #[.int .u8 k, .int .i64 n, .float .f64 f, .string s]] w fun x w' => x = .returned (.tuple #[]) ∧ Wr w w' 26 p g M (if e = 0 then 30 else e) := by
  have hT0 : Tabs (w.alloc (.cells (bx k n f s) 34)) := hT.below (bel_box _ _ _)
  have HR := Hid.mk' (V.right26_any k n f s (w.alloc (.cells (bx k n f s) 34)) hk hf hs hT0)
  rw [hr] at HR
  have hpre := Hid.mk' (bel_box w (bx k n f s) 34)
  have HF := Hid.mk' (fun (w1 : World) (b1 : Below (w.alloc (.cells (bx k n f s) 34)).heap.size (w.alloc (.cells (bx k n f s) 34)) w1) => (wfail_any 30 w1 ((hw.below (bel_box w (bx k n f s) 34)).below b1)).mono fun x w' h => And.intro h.1 (Wr.pre (bel_box w (bx k n f s) 34) (Wr.pre b1 h.2)))
  generalize (if e = 0 then (30 : Int) else e) = e2 at *
  have z1 : w.heap.size < (w.alloc (.cells (bx k n f s) 34)).heap.size := by simp
  have c0 := (cell_of_row (w.alloc (.cells (bx k n f s) 34)) w.heap.size 0 _ _ _ (heap_alloc_new _ _)).trans (show (bx k n f s)[0]? = some (.int .u8 k) from rfl)
  have c1 := (cell_of_row (w.alloc (.cells (bx k n f s) 34)) w.heap.size 1 _ _ _ (heap_alloc_new _ _)).trans (show (bx k n f s)[1]? = some (.int .i64 n) from rfl)
  have c2 := (cell_of_row (w.alloc (.cells (bx k n f s) 34)) w.heap.size 2 _ _ _ (heap_alloc_new _ _)).trans (show (bx k n f s)[2]? = some (.float .f64 f) from rfl)
  have c3 := (cell_of_row (w.alloc (.cells (bx k n f s) 34)) w.heap.size 3 _ _ _ (heap_alloc_new _ _)).trans (show (bx k n f s)[3]? = some (.string s) from rfl)
  clear hw hT hT0 hr hsum
  go_enter Tryd.func5, Tryd.ntmps5
  go_wp2_with fail
  refine HR.out.mono ?_
  rintro x w1 ⟨rfl, b1⟩
  have H := Hid.mk' (HF.out w1 b1)
  clear b1 HR HF
  go_wp2_with fail
  refine H.out.mono ?_
  rintro x w2 ⟨rfl, a2⟩
  have A2 := Hid.mk' a2
  clear a2
  go_wp2
  exact bodyPost_ret (results_none Tryd.results5 _ _ _) rfl ⟨rfl, A2.out⟩

end Go.Proofs.YtkinjcblngkeiaaDoor
