import Derived.Test.YtcpkdaebeopmaaaDoorSealW
import Derived.Test.YtcpkdaebeopmaaaDoorRCrc
namespace Go.Proofs.YtcpkdaebeopmaaaDoor
open Go.RowKit
set_option linter.unusedVariables false
set_option linter.unusedSimpArgs false

/-- The reference's Writer. -/
def RWAt (w : World) (q base : Nat) (L : List UInt8) : Prop := ∃ v, w.heap[q]? = some (.cells #[v, .int .i64 0] 81 (0, 0)) ∧ OwnB w base v L ∧ v.ownBlock ≠ some q
theorem RWAt.below {w w' : World} {q base : Nat} {L : List UInt8} (h : RWAt w q base L) (hb : Below w.heap.size w w') : RWAt w' q base L := by
  obtain ⟨v, h1, h2, h3⟩ := h
  exact ⟨v, by rw [hb.block _ (Array.getElem?_eq_some_iff.1 h1).1]; exact h1, h2.below hb, h3⟩
theorem RWAt.lt {w : World} {q base : Nat} {L : List UInt8} (h : RWAt w q base L) : q < w.heap.size := by
  obtain ⟨v, h1, _, _⟩ := h
  exact (Array.getElem?_eq_some_iff.1 h1).1

set_option maxRecDepth 100000 in
set_option maxHeartbeats 2000000 in
theorem put_any (q base : Nat) (L : List UInt8) (k : UInt8) (kv : Int) (hk : kv = (k.toNat : Int)) (w : World) (hw : RWAt w q base L) (hsum : L.length + 1 ≤ 140737488355328) (hbq : base ≤ q) :
    Calls Tryd.prog 75 #[.pointer (some ⟨q, 0, none⟩), .int .u8 kv] w fun e w' => e = .returned (.tuple #[]) ∧ RWAt w' q base (L ++ [k]) ∧ Below base w w' := by
  subst hk
  obtain ⟨v, hq, own, hne⟩ := hw
  have zq : q < w.heap.size := (Array.getElem?_eq_some_iff.1 hq).1
  have c0 := (cell_of_row w q 0 _ _ _ hq).trans (show (#[v, .int .i64 0] : Array Value)[0]? = some v from rfl)
  have c1 := (cell_of_row w q 1 _ _ _ hq).trans (show (#[v, .int .i64 0] : Array Value)[1]? = some (.int .i64 0) from rfl)
  have be : Below w.heap.size w (w.alloc (.cells (bs [k]) 5)) := (Below.refl _ _).alloc (Nat.le_refl _) _
  have hqA : (w.alloc (.cells (bs [k]) 5)).heap[q]? = some (.cells #[v, .int .i64 0] 81 (0, 0)) := (be.block q zq).trans hq
  obtain ⟨av, cv, rfl, hcv, byv, hav⟩ := own.open
  have HO : Hid (OwnB (w.alloc (.cells #[.int .u8 (k.toNat : Int)] 5)) base (.slice av L.length cv) L) := own.below be
  have HB : Hid (Byt (w.alloc (.cells #[.int .u8 (k.toNat : Int)] 5)) (some ⟨w.heap.size, 0, none⟩) [k]) := byt_lit w [k] 5
  have HS : Hid (L.length + [k].length ≤ 140737488355328) := by show _ ≤ _; simpa using hsum
  have HZ : Hid (base ≤ (w.alloc (.cells #[.int .u8 (k.toNat : Int)] 5)).heap.size) := by show _ ≤ _; simp; omega
  have HQ : Hid ((w.alloc (.cells #[.int .u8 (k.toNat : Int)] 5)).heap[q]? = some (.cells #[.slice av L.length cv, .int .i64 0] 81 (0, 0))) := hqA
  have HE : Hid (Below w.heap.size w (w.alloc (.cells #[.int .u8 (k.toNat : Int)] 5))) := be
  clear hsum hqA be
  go_enter Tryd.func75, Tryd.ntmps75
  go_wp2_with (first | (at_builtin; refine wpList_app2 rfl (.tmp 17) (.tmp 19) rfl base (.slice av L.length cv) L rfl HO.out (some ⟨w.heap.size, 0, none⟩) 1 1 [k] rfl rfl HB.out HS.out HZ.out ?_) | fail)
  intro v' w1 own1 gr1 hblk
  have zqA : q < (w.alloc (.cells #[.int .u8 (k.toNat : Int)] 5)).heap.size := by simp; omega
  have hq1 : w1.heap[q]? = some (.cells #[.slice av L.length cv, .int .i64 0] 81 (0, 0)) := by rw [gr1.block q zqA (fun e => hne e.symm)]; exact HQ.out
  have d0 := (cell_of_row w1 q 0 _ _ _ hq1).trans (show (#[.slice av L.length cv, .int .i64 0] : Array Value)[0]? = some (.slice av L.length cv) from rfl)
  have f0 := frozen_of_row w1 q 0 _ _ hq1
  have hne1 : v'.ownBlock ≠ some q := by
    rcases hblk with e | e
    · rw [e]; exact hne
    · rw [e]; intro h; simp at h; omega
  have W1 : Hid (RWAt (w1.setCell ⟨q, 0, none⟩ v') q base (L ++ [k])) := ⟨v', by rw [heap_setCell_same w1 q 0 _ 81 _ hq1]; rfl, own_setCell own1 hne1, hne1⟩
  have B1 : Hid (Below base w (w1.setCell ⟨q, 0, none⟩ v')) := (((HE.out.mono (by omega)) : Below base w _).grown gr1 HZ.out (fun k hk => (World.ownsRow.lt HO.out k hk).1)).setCell hbq _
  obtain ⟨av', cv', rfl, _⟩ := own1.open
  rw [List.length_append] at W1 B1
  clear own1 gr1 hblk hne1 HO HB HS HZ HQ HE
  go_wp2
  go_end0
  exact ⟨rfl, W1.out, B1.out⟩
set_option maxRecDepth 100000 in
set_option maxHeartbeats 400000 in
theorem rbyte_any (q base : Nat) (L : List UInt8) (k : UInt8) (kv : Int) (hk : kv = (k.toNat : Int)) (w : World) (hw : RWAt w q base L) (hsum : L.length + 1 ≤ 140737488355328) (hbq : base ≤ q) :
    Calls Tryd.prog 32 #[.pointer (some ⟨q, 0, none⟩), .int .u8 kv] w fun e w' => e = .returned (.tuple #[]) ∧ RWAt w' q base (L ++ [k]) ∧ Below base w w' := by
  subst hk
  have H : Hid (Calls Tryd.prog 75 #[.pointer (some ⟨q, 0, none⟩), .int .u8 (k.toNat : Int)] w fun e w' => e = .returned (.tuple #[]) ∧ RWAt w' q base (L ++ [k]) ∧ Below base w w') := put_any q base L k _ rfl w hw hsum hbq
  clear hw hsum
  go_enter Tryd.func32, Tryd.ntmps32
  go_wp2_with fail
  refine H.out.mono ?_
  rintro e w1 ⟨rfl, a1, b1⟩
  have A1 : Hid (RWAt w1 q base (L ++ [k])) := a1
  clear a1 H
  go_wp2
  go_end0
  exact ⟨rfl, A1.out, b1⟩
theorem be_split (v : UInt32) : be v = [UInt8.ofNat (v.toNat / 16777216), UInt8.ofNat (v.toNat / 65536), UInt8.ofNat (v.toNat / 256), UInt8.ofNat v.toNat] := by
  rfl
set_option maxRecDepth 100000 in
set_option maxHeartbeats 1000000 in
theorem rfix_any (q base : Nat) (L : List UInt8) (v : UInt32) (vv : Int) (hv : vv = U v) (w : World) (hw : RWAt w q base L) (hsum : L.length + 4 ≤ 140737488355328) (hbq : base ≤ q) :
    Calls Tryd.prog 33 #[.pointer (some ⟨q, 0, none⟩), .int .u32 vv] w fun e w' => e = .returned (.tuple #[]) ∧ RWAt w' q base (L ++ be v) ∧ Below base w w' := by
  subst hv
  have HS : Hid (L.length + 4 ≤ 140737488355328) := hsum
  have HW : Hid (RWAt w q base L) := hw
  have eB : Hid (L ++ be v = L ++ [UInt8.ofNat (v.toNat / 16777216)] ++ [UInt8.ofNat (v.toNat / 65536)] ++ [UInt8.ofNat (v.toNat / 256)] ++ [UInt8.ofNat v.toNat]) := (by simp [be] : _ = _)
  clear hsum hw
  go_enter Tryd.func33, Tryd.ntmps33
  go_wp2_with fail
  refine (put_any q base L (UInt8.ofNat (v.toNat / 16777216)) _ (by unfold U; rw [UInt8.toNat_ofNat']; omega) w HW.out (by have := HS.out; omega) hbq).mono ?_
  rintro e w1 ⟨rfl, a1, b1⟩
  have A1 : Hid (RWAt w1 q base (L ++ [UInt8.ofNat (v.toNat / 16777216)])) := a1
  clear a1 HW
  go_wp2_with fail
  refine (put_any q base _ (UInt8.ofNat (v.toNat / 65536)) _ (by unfold U; rw [UInt8.toNat_ofNat']; omega) w1 A1.out (by have := HS.out; simp; omega) hbq).mono ?_
  rintro e w2 ⟨rfl, a2, b2⟩
  have A2 : Hid (RWAt w2 q base (L ++ [UInt8.ofNat (v.toNat / 16777216)] ++ [UInt8.ofNat (v.toNat / 65536)])) := a2
  have B2 := b1.trans b2
  clear a2 A1 b1 b2
  go_wp2_with fail
  refine (put_any q base _ (UInt8.ofNat (v.toNat / 256)) _ (by unfold U; rw [UInt8.toNat_ofNat']; omega) w2 A2.out (by have := HS.out; simp; omega) hbq).mono ?_
  rintro e w3 ⟨rfl, a3, b3⟩
  have A3 : Hid (RWAt w3 q base (L ++ [UInt8.ofNat (v.toNat / 16777216)] ++ [UInt8.ofNat (v.toNat / 65536)] ++ [UInt8.ofNat (v.toNat / 256)])) := a3
  have B3 := B2.trans b3
  clear a3 A2 b3 B2
  go_wp2_with fail
  refine (put_any q base _ (UInt8.ofNat v.toNat) _ (by unfold U; rw [UInt8.toNat_ofNat']; omega) w3 A3.out (by have := HS.out; simp; omega) hbq).mono ?_
  rintro e w4 ⟨rfl, a4, b4⟩
  rw [← eB.out] at a4
  have A4 : Hid (RWAt w4 q base (L ++ be v)) := a4
  have B4 := B3.trans b4
  clear a4 A3 b4 B3 eB
  go_wp2
  go_end0
  exact ⟨rfl, A4.out, B4⟩
theorem res8s (tmps : Array Value) (w : World) (a b : Value) (h1 : tmps.getD 4 undef = a) (h2 : tmps.getD 5 undef = b) : (results Tryd.f8 tmps).run Tryd.prog w = .ok (.tuple #[a, b]) w := by
  subst h1 h2
  simp [results, Tryd.results8]
set_option maxHeartbeats 400000 in
theorem rseal_long (k : Int) (a : Option Addr) (n cap : Nat) (w : World) (hn : 16777216 < n) :
    Calls Tryd.prog 8 #[.int .u8 k, .slice a n cap] w fun e w' => e = .returned (.tuple #[.slice none 0 0, .int .i64 6]) ∧ w' = w := by
  have h' : (16777216 : Int) < (n : Int) := by omega
  go_enter Tryd.func8, Tryd.ntmps8
  go_wp2
  exact bodyPost_ret (res8s _ _ _ _ rfl rfl) rfl ⟨rfl, rfl⟩
theorem rcrc_at (len : Nat) (a : Option Addr) (l : List UInt8) (cap : Nat) (w : World) (h : l.length = len) (hb : Byt w a l) (hl : len ≤ 4611686018427387904) :
    Calls Tryd.prog 34 #[.slice a len cap] w fun e w' => e = .returned (.int .u32 (U (crc l))) ∧ w' = w := by
  subst h
  exact rcrc_any a l cap w hb hl
set_option maxRecDepth 100000 in
set_option maxHeartbeats 1000000 in
theorem rseal_any (k : UInt8) (kv : Int) (hkv : kv = (k.toNat : Int)) (a : Option Addr) (l : List UInt8) (n cap : Nat) (w : World) (hl : l.length = n) (hb : Byt w a l) (hn : n ≤ 16777216) :
    Calls Tryd.prog 8 #[.int .u8 kv, .slice a n cap] w fun e w' => ∃ v, e = .returned (.tuple #[v, .int .i64 0]) ∧ OwnB w' w.heap.size v (frame k l) ∧ Below w.heap.size w w' := by
  subst hkv
  have hn' : ¬ (16777216 : Int) < (n : Int) := by omega
  have be0 : Below w.heap.size w (w.alloc (.cells #[.slice none 0 0, .int .i64 0] 81)) := (Below.refl _ _).alloc (Nat.le_refl _) _
  have W0 : Hid (RWAt (w.alloc (.cells #[.slice none 0 0, .int .i64 0] 81)) w.heap.size w.heap.size []) := ⟨.slice none 0 0, heap_alloc_new _ _, ownB_nil _ _, by simp [Value.ownBlock]⟩
  have HB : Hid (∀ wx, Below w.heap.size w wx → Byt wx a l) := fun wx hx => byt_below hb hx
  have HUN : Hid ((n : Int) = U (UInt32.ofNat n)) := (by unfold U; rw [UInt32.toNat_ofNat', Nat.mod_eq_of_lt (by omega)] : _ = _)
  have E9 : Hid (head9 k n = [k] ++ be (UInt32.ofNat n) ++ be (crc ([k] ++ be (UInt32.ofNat n)))) := rfl
  have EF : Hid (frame k l = head9 k n ++ l ++ be (crc (head9 k n ++ l))) := (by unfold frame; rw [hl] : _ = _)
  have H9 := head9_len k n
  go_enter Tryd.func8, Tryd.ntmps8
  go_wp2_with fail
  generalize (w.alloc (.cells #[.slice none 0 0, .int .i64 0] 81)) = w0 at *
  refine (rbyte_any w.heap.size w.heap.size [] k _ rfl w0 W0.out (by decide) (Nat.le_refl _)).mono ?_
  rintro e w1 ⟨rfl, a1, b1⟩
  have A1 : Hid (RWAt w1 w.heap.size w.heap.size [k]) := a1
  have be1 := be0.trans b1
  clear a1 b1 be0 W0 hb
  go_wp2_with fail
  refine (rfix_any w.heap.size w.heap.size [k] (UInt32.ofNat n) (n : Int) HUN.out w1 A1.out (by simp) (Nat.le_refl _)).mono ?_
  rintro e w2 ⟨rfl, a2, b2⟩
  have be2 := be1.trans b2
  have A2 : Hid (RWAt w2 w.heap.size w.heap.size ([k] ++ be (UInt32.ofNat n))) := a2
  have L5 : ([k] ++ be (UInt32.ofNat n)).length = 5 := rfl
  obtain ⟨v2, hq2, own2, _⟩ := a2
  obtain ⟨av2, cv2, rfl, _, by2, _⟩ := own2.open
  rw [L5] at hq2
  have c2 := (cell_of_row w2 w.heap.size 0 _ _ _ hq2).trans (show (#[.slice av2 5 cv2, .int .i64 0] : Array Value)[0]? = some (.slice av2 5 cv2) from rfl)
  clear own2 hq2 b2 be1 A1
  go_wp2_with fail
  refine (rcrc_at 5 av2 ([k] ++ be (UInt32.ofNat n)) cv2 w2 L5 by2 (by omega)).mono ?_
  rintro e w3 ⟨rfl, hw3⟩
  subst hw3
  clear by2 c2
  go_wp2_with fail
  refine (rfix_any w.heap.size w.heap.size _ (crc ([k] ++ be (UInt32.ofNat n))) _ rfl w3 A2.out (by rw [L5]; decide) (Nat.le_refl _)).mono ?_
  rintro e w4 ⟨rfl, a4, b4⟩
  rw [← E9.out] at a4
  have be4 := be2.trans b4
  have A4 : Hid (RWAt w4 w.heap.size w.heap.size (head9 k n ++ l.take 0)) := (by rw [List.take_zero, List.append_nil]; exact a4)
  clear a4 b4 be2 A2 E9
  go_wp2
  go_loopw [7] (fun i wr => ∃ j : Nat, j ≤ n ∧ i = .int .i64 j ∧ Hid (RWAt wr w.heap.size w.heap.size (head9 k n ++ l.take j)) ∧ Below w.heap.size w wr) (fun i _ => n - (intOf i).toNat)
  case atStart => exact ⟨0, by omega, rfl, A4, be4⟩
  case round =>
    obtain ⟨j, hj, rfl, AR, ber⟩ := hrel
    clear be4 A4
    by_cases hlt : j < n
    · have hlt' : (j : Int) < (n : Int) := by omega
      rcases HB.out wr ber with rfl | ⟨b, off, rfl, hc⟩
      · simp at hl; omega
      have cj := hc j (by omega)
      have HL : Hid ((head9 k n ++ l.take j).length + 1 ≤ 140737488355328) := (by rw [List.length_append, H9, List.length_take]; omega : _ ≤ _)
      have HE : Hid (head9 k n ++ l.take j ++ [l.getD j 0] = head9 k n ++ l.take (j + 1)) := (by
        rw [List.append_assoc, List.take_succ_eq_append_getElem (by omega)]
        simp [List.getElem?_eq_getElem (show j < l.length by omega)] : _ = _)
      clear hc
      go_wp2_with fail
      refine (rbyte_any w.heap.size w.heap.size _ (l.getD j 0) _ rfl wr AR.out HL.out (Nat.le_refl _)).mono ?_
      rintro e w5 ⟨rfl, a5, b5⟩
      rw [HE.out] at a5
      have A5 : Hid (RWAt w5 w.heap.size w.heap.size (head9 k n ++ l.take (j + 1))) := a5
      have be5 := ber.trans b5
      clear a5 b5 AR
      go_wp2
      exact ⟨⟨j + 1, by omega, by go_num, A5, be5⟩, by simp [intOf]; omega⟩
    · have hk2 : j = n := by omega
      subst hk2
      have hlt' : ¬ (j : Int) < (j : Int) := by omega
      have A5 : Hid (RWAt wr w.heap.size w.heap.size (head9 k j ++ l)) := (by have := AR.out; rwa [List.take_of_length_le (by omega)] at this)
      have LB : (head9 k j ++ l).length = 9 + j := by rw [List.length_append, H9]; omega
      have a5 := A5.out
      clear AR
      generalize head9 k j ++ l = HBd at *
      obtain ⟨v5, hq5, own5, _⟩ := a5
      obtain ⟨av5, cv5, rfl, _, by5, _⟩ := own5.open
      rw [LB] at hq5
      have c5 := (cell_of_row wr w.heap.size 0 _ _ _ hq5).trans (show (#[.slice av5 (9 + j) cv5, .int .i64 0] : Array Value)[0]? = some (.slice av5 (9 + j) cv5) from rfl)
      clear own5 hq5
      go_wp2_with fail
      refine (rcrc_at (9 + j) av5 HBd cv5 wr LB by5 (by omega)).mono ?_
      rintro e w6 ⟨rfl, hw6⟩
      subst hw6
      clear by5 c5
      go_wp2_with fail
      refine (rfix_any w.heap.size w.heap.size _ (crc HBd) _ rfl w6 A5.out (by omega) (Nat.le_refl _)).mono ?_
      rintro e w7 ⟨rfl, a7, b7⟩
      have be7 := ber.trans b7
      rw [← EF.out] at a7
      obtain ⟨v7, hq7, own7, _⟩ := a7
      have own7' : Hid (OwnB w7 w.heap.size v7 (frame k l)) := own7
      obtain ⟨av7, cv7, rfl, _⟩ := own7.open
      have c7 := (cell_of_row w7 w.heap.size 0 _ _ _ hq7).trans (show (#[.slice av7 (frame k l).length cv7, .int .i64 0] : Array Value)[0]? = some (.slice av7 (frame k l).length cv7) from rfl)
      clear own7 hq7 b7 A5
      go_wp2
      exact bodyPost_ret (res8s _ _ _ _ rfl rfl) rfl ⟨_, rfl, own7'.out, be7⟩
end Go.Proofs.YtcpkdaebeopmaaaDoor
