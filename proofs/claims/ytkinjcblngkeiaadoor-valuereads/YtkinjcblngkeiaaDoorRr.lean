import Derived.Test.YtkinjcblngkeiaaDoorRp
import Derived.Test.YtkinjcblngkeiaaDoorRh
import Derived.Test.YtkinjcblngkeiaaDoorRq
import Derived.Test.YtkinjcblngkeiaaDoorRi
namespace Go.Proofs.YtkinjcblngkeiaaDoor
open Go.RowKit
set_option linter.unusedVariables false
set_option linter.unusedSimpArgs false

variable {r cap : Nat} {a : Option Addr} {L : List UInt8} {s : St}
set_option maxRecDepth 100000 in
set_option maxHeartbeats 2000000 in
theorem read_hi (w : World) (h : RD w 69 r a cap L s) (K : Int) (hK : 12 ≤ K) (hK2 : K ≤ 255) (s1 : St) (hB : rByte L s = (K, s1)) (hs1 : s1.bad = 0) :
    Calls Tryd.prog 16 #[.pointer (some ⟨r, 0, none⟩)] w fun e w' => e = .returned (VV 0 0 0 ⟨#[]⟩) ∧ On w w' 69 r a cap L ⟨s1.k, 21, s.k⟩ := by
  have hRD := h.below (bel_box w Z34 34)
  have H1 := Hid.mk' (rat_any _ hRD)
  have H2 := Hid.mk' (byte_any _ hRD)
  rw [hB] at H2
  have HST := Hid.mk' (fun (w1 : World) (o : On (w.alloc (.cells Z34 34)) w1 69 r a cap L s1) => ST.start h o K 0 0 ⟨#[]⟩)
  have HFT := Hid.mk' (fun (wx : World) (hx : RD wx 69 r a cap L ⟨s1.k, 21, s.k⟩) => fault_any wx hx)
  have HFL := Hid.mk' (fun (wx : World) (hx : RD wx 69 r a cap L s1) => rfail_any 21 (s.k : Int) wx hx)
  rw [St.fl_new s1 21 (s.k : Int) hs1 (by decide)] at HFL
  have g1 : ¬ K = 1 := by omega
  have g2 : ¬ K = 2 := by omega
  have g7 : ¬ K = 7 := by omega
  have g3 : ¬ K = 3 := by omega
  have g4 : ¬ K = 4 := by omega
  have g5 : ¬ K = 5 := by omega
  have g6 : ¬ K = 6 := by omega
  have g11 : (11 : Int) < K := by omega
  have HN := Hid.mk' (fun (wx : World) => name_none K wx hK hK2)
  clear h hRD hB hs1
  go_enter Tryd.func16, Tryd.ntmps16
  go_wp2_with fail
  refine H1.out.mono ?_
  rintro e wA ⟨rfl, hwA⟩
  subst hwA
  go_wp2_with fail
  refine H2.out.mono ?_
  rintro e w1 ⟨rfl, ho⟩
  have S2 := Hid.mk' (HST.out w1 ho)
  have p1 : (w1.alloc (.cells Z34 34)).heap[w1.heap.size]? = some (.cells Z34 34 (0, 0)) := heap_alloc_new _ _
  have c0 := S2.out.c0
  clear ho H1 H2 HST
  go_wp2_with (first | (refine wpList_store_row rfl 34 (.tmp 4) (.tmp 11) rfl w1.heap.size #[.int .u8 K, .int .i64 0, .float .f64 0, .string ⟨#[]⟩] rfl rfl 34 _ p1 (inf34 _ _ _ _) rfl (one34 _ _ _ _) ?_) | fail)
  refine (HN.out _).mono ?_
  rintro e w2 ⟨rfl, hw2⟩
  subst hw2
  go_wp2_with fail
  refine (HFL.out _ S2.out.rd).mono ?_
  rintro e w3 ⟨rfl, ho⟩
  have S3 := Hid.mk' (S2.out.on ho)
  clear ho S2 c0 p1
  have c0 := S3.out.c0
  go_wp2_with fail
  refine (HFT.out _ S3.out.rd).mono ?_
  rintro e w6 ⟨rfl, m, hw6⟩
  have S6 : Hid (ST w w6 69 r a cap L ⟨s1.k, 21, s.k⟩ w1.heap.size K 0 0 ⟨#[]⟩) := by show ST _ _ _ _ _ _ _ _ _ _ _ _ _; rw [hw6]; exact S3.out.drew m
  clear hw6 S3 c0
  have eg := S6.out.hg
  go_wp2_with (first | (refine wpList_store_row rfl 34 (.tmp 2) (.tmp 61) rfl w.heap.size Z34 rfl rfl 34 _ eg (inf34 0 0 0 ⟨#[]⟩) rfl (one34 0 0 0 ⟨#[]⟩) ?_) | fail)
  exact bodyPost_ret (res16 _ _ w.heap.size 34 0 0 0 ⟨#[]⟩ _ rfl (setRow_heap _ _ _ _ _ _ eg)) rfl ⟨rfl, S6.out.fin _⟩

set_option maxRecDepth 100000 in
set_option maxHeartbeats 2000000 in
theorem qread_hi (w : World) (h : RD w 71 r a cap L s) (K : Int) (hK : 12 ≤ K) (hK2 : K ≤ 255) (s1 : St) (hB : rByte L s = (K, s1)) (hs1 : s1.bad = 0) :
    Calls Tryd.prog 18 #[.pointer (some ⟨r, 0, none⟩)] w fun e w' => e = .returned (VV 0 0 0 ⟨#[]⟩) ∧ On w w' 71 r a cap L ⟨s1.k, 21, s.k⟩ := by
  have hRD := h.below (bel_box w Z34 34)
  have H1 := Hid.mk' (qat_any _ hRD)
  have H2 := Hid.mk' (qbyte_any _ hRD)
  rw [hB] at H2
  have HST := Hid.mk' (fun (w1 : World) (o : On (w.alloc (.cells Z34 34)) w1 71 r a cap L s1) => ST.start h o K 0 0 ⟨#[]⟩)
  have HFT := Hid.mk' (fun (wx : World) (hx : RD wx 71 r a cap L ⟨s1.k, 21, s.k⟩) => qfault_any wx hx)
  have HFL := Hid.mk' (fun (wx : World) (hx : RD wx 71 r a cap L s1) => qfail_any 21 (s.k : Int) wx hx)
  rw [St.fl_new s1 21 (s.k : Int) hs1 (by decide)] at HFL
  have g1 : ¬ K = 1 := by omega
  have g2 : ¬ K = 2 := by omega
  have g7 : ¬ K = 7 := by omega
  have g3 : ¬ K = 3 := by omega
  have g4 : ¬ K = 4 := by omega
  have g5 : ¬ K = 5 := by omega
  have g6 : ¬ K = 6 := by omega
  have g11 : (11 : Int) < K := by omega
  have HN := Hid.mk' (fun (wx : World) => name_none K wx hK hK2)
  clear h hRD hB hs1
  go_enter Tryd.func18, Tryd.ntmps18
  go_wp2_with fail
  refine H1.out.mono ?_
  rintro e wA ⟨rfl, hwA⟩
  subst hwA
  go_wp2_with fail
  refine H2.out.mono ?_
  rintro e w1 ⟨rfl, ho⟩
  have S2 := Hid.mk' (HST.out w1 ho)
  have p1 : (w1.alloc (.cells Z34 34)).heap[w1.heap.size]? = some (.cells Z34 34 (0, 0)) := heap_alloc_new _ _
  have c0 := S2.out.c0
  clear ho H1 H2 HST
  go_wp2_with (first | (refine wpList_store_row rfl 34 (.tmp 4) (.tmp 11) rfl w1.heap.size #[.int .u8 K, .int .i64 0, .float .f64 0, .string ⟨#[]⟩] rfl rfl 34 _ p1 (inf34 _ _ _ _) rfl (one34 _ _ _ _) ?_) | fail)
  refine (HFL.out _ S2.out.rd).mono ?_
  rintro e w3 ⟨rfl, ho⟩
  have S3 := Hid.mk' (S2.out.on ho)
  clear ho S2 c0 p1
  have c0 := S3.out.c0
  go_wp2_with fail
  refine (HFT.out _ S3.out.rd).mono ?_
  rintro e w6 ⟨rfl, m, hw6⟩
  have S6 : Hid (ST w w6 71 r a cap L ⟨s1.k, 21, s.k⟩ w1.heap.size K 0 0 ⟨#[]⟩) := by show ST _ _ _ _ _ _ _ _ _ _ _ _ _; rw [hw6]; exact S3.out.drew m
  clear hw6 S3 c0
  have eg := S6.out.hg
  go_wp2_with (first | (refine wpList_store_row rfl 34 (.tmp 2) (.tmp 60) rfl w.heap.size Z34 rfl rfl 34 _ eg (inf34 0 0 0 ⟨#[]⟩) rfl (one34 0 0 0 ⟨#[]⟩) ?_) | fail)
  exact bodyPost_ret (res18 _ _ w.heap.size 34 0 0 0 ⟨#[]⟩ _ rfl (setRow_heap _ _ _ _ _ _ eg)) rfl ⟨rfl, S6.out.fin _⟩


/-- What reading a value tells, and where the Reader stands then. -/
def rRead (L : List UInt8) (s : St) : Value × St :=
  if (rByte L s).1 = 1 then (fin4 (rBool L (rByte L s).2).2 1 (if (rBool L (rByte L s).2).1 = true then 1 else 0) 0 ⟨#[]⟩, (rBool L (rByte L s).2).2)
  else if (rByte L s).1 = 2 ∨ (rByte L s).1 = 7 then (fin4 (rInt L (rByte L s).2).2 (rByte L s).1 (rInt L (rByte L s).2).1 0 ⟨#[]⟩, (rInt L (rByte L s).2).2)
  else if (rByte L s).1 = 3 then (fin4 (rFloat L (rByte L s).2).2 3 0 (rFloat L (rByte L s).2).1 ⟨#[]⟩, (rFloat L (rByte L s).2).2)
  else if (rByte L s).1 = 4 then (fin4 (rText L 1000 (rByte L s).2).2 4 0 0 ⟨(rText L 1000 (rByte L s).2).1.toArray⟩, (rText L 1000 (rByte L s).2).2)
  else if (rByte L s).1 = 5 then (fin4 (rRaw L 1000 (rByte L s).2).2 5 0 0 ⟨(rRaw L 1000 (rByte L s).2).1.toArray⟩, (rRaw L 1000 (rByte L s).2).2)
  else if (rByte L s).1 = 6 then (fin4 (rUint L 9007199254740992 (rByte L s).2).2 6 ((rUint L 9007199254740992 (rByte L s).2).1 : Int) 0 ⟨#[]⟩, (rUint L 9007199254740992 (rByte L s).2).2)
  else if (rByte L s).1 ≤ 11 then (fin4 (rByte L s).2 (rByte L s).1 0 0 ⟨#[]⟩, (rByte L s).2)
  else (VV 0 0 0 ⟨#[]⟩, ⟨(rByte L s).2.k, 21, s.k⟩)
theorem rByte_bd (L : List UInt8) (s : St) : 0 ≤ (rByte L s).1 ∧ (rByte L s).1 ≤ 255 ∧ ((rByte L s).1 ≠ 0 → (rByte L s).2.bad = 0) := by
  unfold rByte
  have := at8_lo L s.k
  have := at8_hi L s.k
  split
  · split
    · rename_i hb _; exact ⟨by simp only; omega, by simp only; omega, fun _ => hb⟩
    · simp
  · simp

theorem read_any (w : World) (h : RD w 69 r a cap L s) (hN : NamesAt 0 w) (hT : Tabs w) (hr4 : 4 ≤ r) :
    Calls Tryd.prog 16 #[.pointer (some ⟨r, 0, none⟩)] w fun e w' => e = .returned (rRead L s).1 ∧ On w w' 69 r a cap L (rRead L s).2 := by
  obtain ⟨b0, b1, b2⟩ := rByte_bd L s
  unfold rRead
  rcases hB : rByte L s with ⟨K, s1⟩
  rw [hB] at b0 b1 b2
  simp only at b0 b1 b2 ⊢
  by_cases q1 : K = 1
  · rw [if_pos q1]; subst q1; exact read_1 w h hN hT hr4 s1 hB
  rw [if_neg q1]
  by_cases q2 : K = 2 ∨ K = 7
  · rw [if_pos q2]
    rcases q2 with rfl | rfl
    · exact read_2 w h hN hT hr4 s1 hB
    · exact read_7 w h hN hT hr4 s1 hB
  rw [if_neg q2]
  by_cases q3 : K = 3
  · rw [if_pos q3]; subst q3; exact read_3 w h hN hT hr4 s1 hB
  rw [if_neg q3]
  by_cases q4 : K = 4
  · rw [if_pos q4]; subst q4; exact read_4 w h hN hT hr4 s1 hB
  rw [if_neg q4]
  by_cases q5 : K = 5
  · rw [if_pos q5]; subst q5; exact read_5 w h hN hT hr4 s1 hB
  rw [if_neg q5]
  by_cases q6 : K = 6
  · rw [if_pos q6]; subst q6; exact read_6 w h hN hT hr4 s1 hB
  rw [if_neg q6]
  by_cases q7 : K ≤ 11
  · rw [if_pos q7]
    obtain rfl | rfl | rfl | rfl | rfl : K = 0 ∨ K = 8 ∨ K = 9 ∨ K = 10 ∨ K = 11 := by omega
    · exact read_0 w h hN hT hr4 s1 hB
    · exact read_8 w h hN hT hr4 s1 hB
    · exact read_9 w h hN hT hr4 s1 hB
    · exact read_10 w h hN hT hr4 s1 hB
    · exact read_11 w h hN hT hr4 s1 hB
  rw [if_neg q7]
  exact read_hi w h K (by omega) b1 s1 hB (b2 (by omega))

theorem qread_any (w : World) (h : RD w 71 r a cap L s) (hN : NamesAt 0 w) (hT : Tabs w) (hr4 : 4 ≤ r) :
    Calls Tryd.prog 18 #[.pointer (some ⟨r, 0, none⟩)] w fun e w' => e = .returned (rRead L s).1 ∧ On w w' 71 r a cap L (rRead L s).2 := by
  obtain ⟨b0, b1, b2⟩ := rByte_bd L s
  unfold rRead
  rcases hB : rByte L s with ⟨K, s1⟩
  rw [hB] at b0 b1 b2
  simp only at b0 b1 b2 ⊢
  by_cases q1 : K = 1
  · rw [if_pos q1]; subst q1; exact qread_1 w h hN hT hr4 s1 hB
  rw [if_neg q1]
  by_cases q2 : K = 2 ∨ K = 7
  · rw [if_pos q2]
    rcases q2 with rfl | rfl
    · exact qread_2 w h hN hT hr4 s1 hB
    · exact qread_7 w h hN hT hr4 s1 hB
  rw [if_neg q2]
  by_cases q3 : K = 3
  · rw [if_pos q3]; subst q3; exact qread_3 w h hN hT hr4 s1 hB
  rw [if_neg q3]
  by_cases q4 : K = 4
  · rw [if_pos q4]; subst q4; exact qread_4 w h hN hT hr4 s1 hB
  rw [if_neg q4]
  by_cases q5 : K = 5
  · rw [if_pos q5]; subst q5; exact qread_5 w h hN hT hr4 s1 hB
  rw [if_neg q5]
  by_cases q6 : K = 6
  · rw [if_pos q6]; subst q6; exact qread_6 w h hN hT hr4 s1 hB
  rw [if_neg q6]
  by_cases q7 : K ≤ 11
  · rw [if_pos q7]
    obtain rfl | rfl | rfl | rfl | rfl : K = 0 ∨ K = 8 ∨ K = 9 ∨ K = 10 ∨ K = 11 := by omega
    · exact qread_0 w h hN hT hr4 s1 hB
    · exact qread_8 w h hN hT hr4 s1 hB
    · exact qread_9 w h hN hT hr4 s1 hB
    · exact qread_10 w h hN hT hr4 s1 hB
    · exact qread_11 w h hN hT hr4 s1 hB
  rw [if_neg q7]
  exact qread_hi w h K (by omega) b1 s1 hB (b2 (by omega))

end Go.Proofs.YtkinjcblngkeiaaDoor
