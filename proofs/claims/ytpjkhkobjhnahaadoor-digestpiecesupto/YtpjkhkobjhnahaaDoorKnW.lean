import Derived.Test.YtpjkhkobjhnahaaDoorKn
import Derived.Test.YtpjkhkobjhnahaaDoorLinB
namespace Go.Proofs.YtpjkhkobjhnahaaDoor
open Go.RowKit
set_option linter.unusedVariables false
set_option linter.unusedSimpArgs false

theorem hex_to (h : List UInt8) (hl : h.length = 32) (S : ByteArray) (hS : (⟨(hexl h 64).toArray⟩ : ByteArray) = S) (w : World) :
    Calls Tryd.prog 9 #[.agg (bs h)] w fun e w' => e = .returned (.string S) ∧ Below w.heap.size w w' := by
  subst hS
  exact hex_any h hl w
theorem s1l : S1.toList = [101, 51, 98, 48, 99, 52, 52, 50, 57, 56, 102, 99, 49, 99, 49, 52, 57, 97, 102, 98, 102, 52, 99, 56, 57, 57, 54, 102, 98, 57, 50, 52, 50, 55, 97, 101, 52, 49, 101, 52, 54, 52, 57, 98, 57, 51, 52, 99, 97, 52, 57, 53, 57, 57, 49, 98, 55, 56, 53, 50, 98, 56, 53, 53] := by kernel_rfl
theorem s2l : S2.toList = [98, 97, 55, 56, 49, 54, 98, 102, 56, 102, 48, 49, 99, 102, 101, 97, 52, 49, 52, 49, 52, 48, 100, 101, 53, 100, 97, 101, 50, 50, 50, 51, 98, 48, 48, 51, 54, 49, 97, 51, 57, 54, 49, 55, 55, 97, 57, 99, 98, 52, 49, 48, 102, 102, 54, 49, 102, 50, 48, 48, 49, 53, 97, 100] := by kernel_rfl
theorem s3l : S3.toList = [53, 98, 100, 99, 99, 49, 52, 54, 98, 102, 54, 48, 55, 53, 52, 101, 54, 97, 48, 52, 50, 52, 50, 54, 48, 56, 57, 53, 55, 53, 99, 55, 53, 97, 48, 48, 51, 102, 48, 56, 57, 100, 50, 55, 51, 57, 56, 51, 57, 100, 101, 99, 53, 56, 98, 57, 54, 52, 101, 99, 51, 56, 52, 51] := by kernel_rfl
theorem mac_len (k l : List UInt8) : (mac k l).length = 32 := sha_len _
theorem lit_bs (l : List UInt8) (W : World) (fr : Nat × Nat) : Byt (W.alloc (.cells (bs l) 5 fr)) (some ⟨W.heap.size, 0, none⟩) l :=
  .inr ⟨_, _, rfl, fun j hj => by rw [Nat.zero_add]; exact (cell_of_row _ _ j _ _ _ (heap_alloc_new _ _)).trans (bs_get _ j hj)⟩

theorem kc_at (W : World) (C : Array Value) (n c g : Nat) (hg : g = W.heap.size) :
    (convert 26 26 (.slice (some ⟨g, 0, none⟩) n c)).run Tryd.prog (W.alloc (.cells C 5)) = .ok (.slice (some ⟨g, 0, none⟩) n c) (W.alloc (.cells C 5 (C.size, C.size + 1))) := by
  subst hg
  exact Lib.run_convert_bytes_const (P := Tryd.prog) W 26 5 C n c Tryd.underlying26 Tryd.underlying5

set_option maxRecDepth 100000 in
set_option maxHeartbeats 4000000 in
theorem known_any (w : World) (hK : KeysAt w) (hF : FirstAt w) (hN : NibsAt w) :
    Calls Tryd.prog 3 #[] w fun e w' => e = .returned (.bool true) ∧ Below w.heap.size w w' := by
  have hK4 : 4 < w.heap.size := block_lt_of_cell (hK 0 (by omega))
  have hF2 : 2 < w.heap.size := block_lt_of_cell (hF 0 (by omega))
  have hN0 : 0 < w.heap.size := by omega
  have kc := fun (w : World) (C : Array Value) (n c : Nat) => Lib.run_convert_bytes_const (P := Tryd.prog) w 26 5 C n c Tryd.underlying26 Tryd.underlying5
  go_enter Tryd.func3, Tryd.ntmps3
  go_wp2_with fail
  refine (sum_any none [] 0 0 w rfl (.inl rfl) (fun b off e => by cases e) (by simp) (by simp) hK hF).mono ?_
  rintro e w1 ⟨rfl, hb1⟩
  go_wp2_with fail
  refine (hex_to (sha []) (sha_len _) S1 known1 w1).mono ?_
  rintro e w2 ⟨rfl, hb2⟩
  have z1 := hb1.size
  have z2 := hb2.size
  have bl2 : Below w.heap.size w w2 := hb1.trans (hb2.mono (by omega))
  clear hb1 hb2
  have t1 := s1l
  have c3 : (#[.int .u8 97, .int .u8 98, .int .u8 99] : Array Value) = bs abcL := rfl
  have C3 : Hid ((#[.int .u8 97, .int .u8 98, .int .u8 99] : Array Value) = bs abcL) := c3
  clear c3
  go_wp2_with fail
  clear t1
  rw [C3.out]
  have by3 := lit_bs abcL w2 (3, 4)
  have bl3 : Below w.heap.size w (w2.alloc (.cells (bs abcL) 5 (3, 4))) := bl2.alloc (by omega) _
  have z3 : (w2.alloc (.cells (bs abcL) 5 (3, 4))).heap.size = w2.heap.size + 1 := by simp
  have Z3 : Hid ((w2.alloc (.cells (bs abcL) 5 (3, 4))).heap.size = w2.heap.size + 1) := z3
  clear z3
  generalize (w2.alloc (.cells (bs abcL) 5 (3, 4))) = W3 at *
  refine (sum_any (some ⟨w2.heap.size, 0, none⟩) abcL 3 3 W3 rfl by3 (fun b off e => by cases e; rw [Z3.out]; omega) (by decide) (by decide) (keys_bel hK bl3 hK4) (first_bel hF bl3 hF2)).mono ?_
  rintro e w4 ⟨rfl, hb4⟩
  go_wp2_with fail
  refine (hex_to (sha abcL) (sha_len _) S2 known2 w4).mono ?_
  rintro e w5 ⟨rfl, hb5⟩
  have z4 := hb4.size
  have z5 := hb5.size
  have y3 := Z3.out
  have bl5 : Below w.heap.size w w5 := (bl3.trans (hb4.mono (by omega))).trans (hb5.mono (by omega))
  have q5 : w.heap.size ≤ w5.heap.size := by omega
  clear by3 bl3 hb4 hb5 bl2 C3 z1 z2 z4 z5 y3 Z3
  have t2 := s2l
  have C9 : Hid ((#[.int .u8 49, .int .u8 50, .int .u8 51, .int .u8 52, .int .u8 53, .int .u8 54, .int .u8 55, .int .u8 56, .int .u8 57] : Array Value) = bs digs) := rfl
  go_wp2_with fail
  clear t2
  rw [C9.out]
  have by6 := lit_bs digs w5 (9, 10)
  have bl6 : Below w.heap.size w (w5.alloc (.cells (bs digs) 5 (9, 10))) := bl5.alloc (by omega) _
  have q6 : w.heap.size ≤ (w5.alloc (.cells (bs digs) 5 (9, 10))).heap.size := by simp; omega
  generalize (w5.alloc (.cells (bs digs) 5 (9, 10))) = W6 at *
  have n6 : NibsAt W6 := fun j hj => (bl6.cell (p := ⟨0, j, none⟩) hN0).trans (hN j hj)
  have X6 := crc_at 9 (some ⟨w5.heap.size, 0, none⟩) digs 9 W6 rfl by6 (by omega) n6
  rw [crc_digs] at X6
  refine X6.mono ?_
  rintro e w7 ⟨rfl, rfl⟩
  clear X6 by6
  have X7 := crc_at 0 none [] 0 w7 rfl (.inl rfl) (by omega) n6
  have e0 : U (crc []) = 0 := by decide
  rw [e0] at X7
  have XX : Hid (Calls Tryd.prog 11 #[.slice none 0 0] w7 fun e w' => e = .returned (.int .u32 0) ∧ w' = w7) := X7
  clear X7 e0
  go_wp2_with fail
  refine XX.out.mono ?_
  rintro e w8 ⟨rfl, hw8⟩
  subst hw8
  clear XX C9 n6
  have C4 : Hid ((#[.int .u8 74, .int .u8 101, .int .u8 102, .int .u8 101] : Array Value) = bs jefeL) := rfl
  have C28 : Hid ((#[.int .u8 119, .int .u8 104, .int .u8 97, .int .u8 116, .int .u8 32, .int .u8 100, .int .u8 111, .int .u8 32, .int .u8 121, .int .u8 97, .int .u8 32, .int .u8 119, .int .u8 97, .int .u8 110, .int .u8 116, .int .u8 32, .int .u8 102, .int .u8 111, .int .u8 114, .int .u8 32, .int .u8 110, .int .u8 111, .int .u8 116, .int .u8 104, .int .u8 105, .int .u8 110, .int .u8 103, .int .u8 63] : Array Value) = bs whatL) := rfl
  have kc2 := fun (C : Array Value) (n c : Nat) => kc_at (w8.alloc (.cells #[.int .u8 74, .int .u8 101, .int .u8 102, .int .u8 101] 5 (4, 5))) C n c (w8.heap.size + 1) (by simp)
  go_wp2_with fail
  clear kc2 kc
  rw [C4.out, C28.out]
  have byk := lit_bs jefeL w8 (4, 5)
  have byw := lit_bs whatL (w8.alloc (.cells (bs jefeL) 5 (4, 5))) (28, 29)
  have zk : (w8.alloc (.cells (bs jefeL) 5 (4, 5))).heap.size = w8.heap.size + 1 := by simp
  have zw : ((w8.alloc (.cells (bs jefeL) 5 (4, 5))).alloc (.cells (bs whatL) 5 (28, 29))).heap.size = w8.heap.size + 2 := by simp
  rw [zk] at byw
  have bl9 : Below w.heap.size w ((w8.alloc (.cells (bs jefeL) 5 (4, 5))).alloc (.cells (bs whatL) 5 (28, 29))) := (bl6.alloc (by omega) _).alloc (by rw [zk]; omega) _
  have byk9 : Byt ((w8.alloc (.cells (bs jefeL) 5 (4, 5))).alloc (.cells (bs whatL) 5 (28, 29))) (some ⟨w8.heap.size, 0, none⟩) jefeL := byt_below byk ((Below.refl _ _).alloc (Nat.le_refl _) _)
  have ZW : Hid (((w8.alloc (.cells (bs jefeL) 5 (4, 5))).alloc (.cells (bs whatL) 5 (28, 29))).heap.size = w8.heap.size + 2) := zw
  clear zk zw byk
  generalize ((w8.alloc (.cells (bs jefeL) 5 (4, 5))).alloc (.cells (bs whatL) 5 (28, 29))) = W9 at *
  have HH : Hid (∀ wx, Below W9.heap.size W9 wx → Calls Tryd.prog 30 #[.slice (some ⟨w8.heap.size, 0, none⟩) 4 4] wx fun e w' => e = .returned (.agg (bs (kb jefeL))) ∧ Below wx.heap.size wx w') := fun wx hx =>
    keyBlock_short (some ⟨w8.heap.size, 0, none⟩) jefeL 4 4 wx rfl (byt_below byk9 hx) (by decide)
  refine (mac_any jefeL whatL (.slice (some ⟨w8.heap.size, 0, none⟩) 4 4) (some ⟨w8.heap.size + 1, 0, none⟩) 28 28 W9 rfl byw (fun b off e => by cases e; rw [ZW.out]; omega) (by decide) (by decide) (keys_bel hK bl9 hK4) (first_bel hF bl9 hF2) HH).mono ?_
  rintro e w10 ⟨rfl, hb10⟩
  clear HH byk9 byw
  go_wp2_with fail
  refine (hex_to (mac jefeL whatL) (mac_len _ _) S3 known3 w10).mono ?_
  rintro e w11 ⟨rfl, hb11⟩
  have z10 := hb10.size
  have zz := ZW.out
  have FIN : Hid (Below w.heap.size w w11) := (bl9.trans (hb10.mono (by omega))).trans (hb11.mono (by omega))
  clear hb10 hb11 bl9 zz ZW
  have t3 := s3l
  go_wp2
  go_ret
  exact ⟨rfl, FIN.out⟩
end Go.Proofs.YtpjkhkobjhnahaaDoor
