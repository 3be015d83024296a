import Derived.Test.YtkinjcblngkeiaaDoorRe
namespace Go.Proofs.YtkinjcblngkeiaaDoor
open Go.RowKit
set_option linter.unusedVariables false
set_option linter.unusedSimpArgs false

variable {r cap : Nat} {a : Option Addr} {L : List UInt8} {s : St}
set_option maxRecDepth 100000 in
set_option maxHeartbeats 2000000 in
theorem read_6 (w : World) (h : RD w 69 r a cap L s) (hN : NamesAt 0 w) (hT : Tabs w) (hr4 : 4 ≤ r) (s1 : St) (hB : rByte L s = (6, s1)) :
    Calls Tryd.prog 16 #[.pointer (some ⟨r, 0, none⟩)] w fun e w' => e = .returned (fin4 (rUint L 9007199254740992 s1).2 6 (((rUint L 9007199254740992 s1).1 : Int)) (0) ⟨#[]⟩) ∧ On w w' 69 r a cap L (rUint L 9007199254740992 s1).2 := by
  have hRD := h.below (bel_box w Z34 34)
  have H1 := Hid.mk' (rat_any _ hRD)
  have H2 := Hid.mk' (byte_any _ hRD)
  rw [hB] at H2
  have HST := Hid.mk' (fun (w1 : World) (o : On (w.alloc (.cells Z34 34)) w1 69 r a cap L s1) => ST.start h o 6 0 0 ⟨#[]⟩)
  have HN : Hid (∀ wx, Fr r w wx → Calls Tryd.prog 52 #[.int .u8 6] wx fun e w' => e = .returned (.string ⟨#[116, 105, 109, 101]⟩) ∧ w' = wx) := fun wx hx => name_any 6 wx (by decide) (hN.fr hx hr4)
  have HTB := Hid.mk' (fun (wx : World) (hx : Fr r w wx) => hT.fr hx hr4)
  have HFT := Hid.mk' (fun (wx : World) (hx : RD wx 69 r a cap L (rUint L 9007199254740992 s1).2) => fault_any wx hx)
  have HC := Hid.mk' (fun (wx : World) (hx : RD wx 69 r a cap L s1) => uint_any 9007199254740992 (by decide) wx hx)
  have hub := rUint_le L 9007199254740992 s1
  generalize rUint L 9007199254740992 s1 = q at *
  obtain ⟨x, s2⟩ := q
  simp only at HC HFT hub ⊢
  clear h hRD hN hT hB
  go_enter Tryd.func16, Tryd.ntmps16
  go_wp2_with fail
  refine H1.out.mono ?_
  rintro e wA ⟨rfl, hwA⟩
  subst hwA
  go_wp2_with fail
  refine H2.out.mono ?_
  rintro e w1 ⟨rfl, ho⟩
  have S2 := Hid.mk' (HST.out w1 ho)
  have p1 : (w1.alloc (.cells Z34 34)).heap[w1.heap.size]? = some (.cells Z34 34 (0, 0)) := heap_alloc_new _ _
  have c0 := S2.out.c0
  clear ho H1 H2 HST
  go_wp2_with (first | (refine wpList_store_row rfl 34 (.tmp 4) (.tmp 11) rfl w1.heap.size #[.int .u8 6, .int .i64 0, .float .f64 0, .string ⟨#[]⟩] rfl rfl 34 _ p1 (inf34 _ _ _ _) rfl (one34 _ _ _ _) ?_) | fail)
  have RD2 := S2.out.rd
  refine (HC.out _ RD2).mono ?_
  rintro e w3 ⟨rfl, ho⟩
  have S3 := Hid.mk' (S2.out.on ho)
  clear ho RD2 c0 S2 p1
  have c0 := S3.out.c0
  have c1 := S3.out.c1
  have c2 := S3.out.c2
  have c3 := S3.out.c3
  have f1 := S3.out.fz 1
  have hxi : wrap64 (x : Int) = (x : Int) := by unfold wrap64; omega
  have S4 := Hid.mk' (S3.out.set1 (x : Int))
  have d0 := S4.out.c0
  go_wp2_with fail
  refine (HN.out _ S4.out.fr).mono ?_
  rintro e w5 ⟨rfl, hw5⟩
  subst hw5
  go_wp2_with fail
  refine (HFT.out _ S4.out.rd).mono ?_
  rintro e w6 ⟨rfl, m, hw6⟩
  have S6 : Hid (ST w w6 69 r a cap L s2 w1.heap.size 6 (x : Int) 0 ⟨#[]⟩) := by show ST _ _ _ _ _ _ _ _ _ _ _ _ _; rw [hw6]; exact S4.out.drew m
  clear hw6 S4 S3 c0 c1 c2 c3 d0
  have e0 := S6.out.c0
  have e1 := S6.out.c1
  have e2 := S6.out.c2
  have e3 := S6.out.c3
  have eg := S6.out.hg
  by_cases hb : s2.bad = 0
  · have hb' : (s2.bad != 0) = false := by simp [hb]
    go_wp2_with (first | (refine wpList_store_row rfl 34 (.tmp 2) (.tmp 62) rfl w.heap.size #[.int .u8 6, .int .i64 (x : Int), .float .f64 0, .string ⟨#[]⟩] rfl rfl 34 _ eg (inf34 _ _ _ _) rfl (one34 _ _ _ _) ?_) | fail)
    exact bodyPost_ret (res16 _ _ w.heap.size 34 6 (x : Int) 0 ⟨#[]⟩ _ rfl (setRow_heap _ _ _ _ _ _ eg)) rfl ⟨by unfold fin4; rw [if_pos hb]; rfl, S6.out.fin _⟩
  · have hb' : (s2.bad != 0) = true := by simp [hb]
    go_wp2_with (first | (refine wpList_store_row rfl 34 (.tmp 2) (.tmp 61) rfl w.heap.size Z34 rfl rfl 34 _ eg (inf34 0 0 0 ⟨#[]⟩) rfl (one34 0 0 0 ⟨#[]⟩) ?_) | fail)
    exact bodyPost_ret (res16 _ _ w.heap.size 34 0 0 0 ⟨#[]⟩ _ rfl (setRow_heap _ _ _ _ _ _ eg)) rfl ⟨by unfold fin4; rw [if_neg hb]; rfl, S6.out.fin _⟩
set_option maxRecDepth 100000 in
set_option maxHeartbeats 2000000 in
theorem read_7 (w : World) (h : RD w 69 r a cap L s) (hN : NamesAt 0 w) (hT : Tabs w) (hr4 : 4 ≤ r) (s1 : St) (hB : rByte L s = (7, s1)) :
    Calls Tryd.prog 16 #[.pointer (some ⟨r, 0, none⟩)] w fun e w' => e = .returned (fin4 (rInt L s1).2 7 ((rInt L s1).1) (0) ⟨#[]⟩) ∧ On w w' 69 r a cap L (rInt L s1).2 := by
  have hRD := h.below (bel_box w Z34 34)
  have H1 := Hid.mk' (rat_any _ hRD)
  have H2 := Hid.mk' (byte_any _ hRD)
  rw [hB] at H2
  have HST := Hid.mk' (fun (w1 : World) (o : On (w.alloc (.cells Z34 34)) w1 69 r a cap L s1) => ST.start h o 7 0 0 ⟨#[]⟩)
  have HN : Hid (∀ wx, Fr r w wx → Calls Tryd.prog 52 #[.int .u8 7] wx fun e w' => e = .returned (.string ⟨#[99, 111, 117, 110, 116, 101, 114]⟩) ∧ w' = wx) := fun wx hx => name_any 7 wx (by decide) (hN.fr hx hr4)
  have HTB := Hid.mk' (fun (wx : World) (hx : Fr r w wx) => hT.fr hx hr4)
  have HFT := Hid.mk' (fun (wx : World) (hx : RD wx 69 r a cap L (rInt L s1).2) => fault_any wx hx)
  have HC := Hid.mk' (fun (wx : World) (hx : RD wx 69 r a cap L s1) => int_any wx hx)
  generalize rInt L s1 = q at *
  obtain ⟨x, s2⟩ := q
  simp only at HC HFT ⊢
  clear h hRD hN hT hB
  go_enter Tryd.func16, Tryd.ntmps16
  go_wp2_with fail
  refine H1.out.mono ?_
  rintro e wA ⟨rfl, hwA⟩
  subst hwA
  go_wp2_with fail
  refine H2.out.mono ?_
  rintro e w1 ⟨rfl, ho⟩
  have S2 := Hid.mk' (HST.out w1 ho)
  have p1 : (w1.alloc (.cells Z34 34)).heap[w1.heap.size]? = some (.cells Z34 34 (0, 0)) := heap_alloc_new _ _
  have c0 := S2.out.c0
  clear ho H1 H2 HST
  go_wp2_with (first | (refine wpList_store_row rfl 34 (.tmp 4) (.tmp 11) rfl w1.heap.size #[.int .u8 7, .int .i64 0, .float .f64 0, .string ⟨#[]⟩] rfl rfl 34 _ p1 (inf34 _ _ _ _) rfl (one34 _ _ _ _) ?_) | fail)
  have RD2 := S2.out.rd
  refine (HC.out _ RD2).mono ?_
  rintro e w3 ⟨rfl, ho⟩
  have S3 := Hid.mk' (S2.out.on ho)
  clear ho RD2 c0 S2 p1
  have c0 := S3.out.c0
  have c1 := S3.out.c1
  have c2 := S3.out.c2
  have c3 := S3.out.c3
  have f1 := S3.out.fz 1
  have S4 := Hid.mk' (S3.out.set1 x)
  have d0 := S4.out.c0
  go_wp2_with fail
  refine (HN.out _ S4.out.fr).mono ?_
  rintro e w5 ⟨rfl, hw5⟩
  subst hw5
  go_wp2_with fail
  refine (HFT.out _ S4.out.rd).mono ?_
  rintro e w6 ⟨rfl, m, hw6⟩
  have S6 : Hid (ST w w6 69 r a cap L s2 w1.heap.size 7 x 0 ⟨#[]⟩) := by show ST _ _ _ _ _ _ _ _ _ _ _ _ _; rw [hw6]; exact S4.out.drew m
  clear hw6 S4 S3 c0 c1 c2 c3 d0
  have e0 := S6.out.c0
  have e1 := S6.out.c1
  have e2 := S6.out.c2
  have e3 := S6.out.c3
  have eg := S6.out.hg
  by_cases hb : s2.bad = 0
  · have hb' : (s2.bad != 0) = false := by simp [hb]
    go_wp2_with (first | (refine wpList_store_row rfl 34 (.tmp 2) (.tmp 62) rfl w.heap.size #[.int .u8 7, .int .i64 x, .float .f64 0, .string ⟨#[]⟩] rfl rfl 34 _ eg (inf34 _ _ _ _) rfl (one34 _ _ _ _) ?_) | fail)
    exact bodyPost_ret (res16 _ _ w.heap.size 34 7 x 0 ⟨#[]⟩ _ rfl (setRow_heap _ _ _ _ _ _ eg)) rfl ⟨by unfold fin4; rw [if_pos hb]; rfl, S6.out.fin _⟩
  · have hb' : (s2.bad != 0) = true := by simp [hb]
    go_wp2_with (first | (refine wpList_store_row rfl 34 (.tmp 2) (.tmp 61) rfl w.heap.size Z34 rfl rfl 34 _ eg (inf34 0 0 0 ⟨#[]⟩) rfl (one34 0 0 0 ⟨#[]⟩) ?_) | fail)
    exact bodyPost_ret (res16 _ _ w.heap.size 34 0 0 0 ⟨#[]⟩ _ rfl (setRow_heap _ _ _ _ _ _ eg)) rfl ⟨by unfold fin4; rw [if_neg hb]; rfl, S6.out.fin _⟩
set_option maxRecDepth 100000 in
set_option maxHeartbeats 2000000 in
theorem read_8 (w : World) (h : RD w 69 r a cap L s) (hN : NamesAt 0 w) (hT : Tabs w) (hr4 : 4 ≤ r) (s1 : St) (hB : rByte L s = (8, s1)) :
    Calls Tryd.prog 16 #[.pointer (some ⟨r, 0, none⟩)] w fun e w' => e = .returned (fin4 s1 8 (0) (0) ⟨#[]⟩) ∧ On w w' 69 r a cap L s1 := by
  have hRD := h.below (bel_box w Z34 34)
  have H1 := Hid.mk' (rat_any _ hRD)
  have H2 := Hid.mk' (byte_any _ hRD)
  rw [hB] at H2
  have HST := Hid.mk' (fun (w1 : World) (o : On (w.alloc (.cells Z34 34)) w1 69 r a cap L s1) => ST.start h o 8 0 0 ⟨#[]⟩)
  have HN : Hid (∀ wx, Fr r w wx → Calls Tryd.prog 52 #[.int .u8 8] wx fun e w' => e = .returned (.string ⟨#[109, 97, 112]⟩) ∧ w' = wx) := fun wx hx => name_any 8 wx (by decide) (hN.fr hx hr4)
  have HTB := Hid.mk' (fun (wx : World) (hx : Fr r w wx) => hT.fr hx hr4)
  have HFT := Hid.mk' (fun (wx : World) (hx : RD wx 69 r a cap L s1) => fault_any wx hx)
  clear h hRD hN hT hB
  go_enter Tryd.func16, Tryd.ntmps16
  go_wp2_with fail
  refine H1.out.mono ?_
  rintro e wA ⟨rfl, hwA⟩
  subst hwA
  go_wp2_with fail
  refine H2.out.mono ?_
  rintro e w1 ⟨rfl, ho⟩
  have S2 := Hid.mk' (HST.out w1 ho)
  have p1 : (w1.alloc (.cells Z34 34)).heap[w1.heap.size]? = some (.cells Z34 34 (0, 0)) := heap_alloc_new _ _
  have c0 := S2.out.c0
  clear ho H1 H2 HST
  go_wp2_with (first | (refine wpList_store_row rfl 34 (.tmp 4) (.tmp 11) rfl w1.heap.size #[.int .u8 8, .int .i64 0, .float .f64 0, .string ⟨#[]⟩] rfl rfl 34 _ p1 (inf34 _ _ _ _) rfl (one34 _ _ _ _) ?_) | fail)
  have S4 := S2
  refine (HN.out _ S4.out.fr).mono ?_
  rintro e w5 ⟨rfl, hw5⟩
  subst hw5
  go_wp2_with fail
  refine (HFT.out _ S4.out.rd).mono ?_
  rintro e w6 ⟨rfl, m, hw6⟩
  have S6 : Hid (ST w w6 69 r a cap L s1 w1.heap.size 8 0 0 ⟨#[]⟩) := by show ST _ _ _ _ _ _ _ _ _ _ _ _ _; rw [hw6]; exact S4.out.drew m
  clear hw6 S4 c0 p1
  have e0 := S6.out.c0
  have e1 := S6.out.c1
  have e2 := S6.out.c2
  have e3 := S6.out.c3
  have eg := S6.out.hg
  by_cases hb : s1.bad = 0
  · have hb' : (s1.bad != 0) = false := by simp [hb]
    go_wp2_with (first | (refine wpList_store_row rfl 34 (.tmp 2) (.tmp 62) rfl w.heap.size #[.int .u8 8, .int .i64 0, .float .f64 0, .string ⟨#[]⟩] rfl rfl 34 _ eg (inf34 _ _ _ _) rfl (one34 _ _ _ _) ?_) | fail)
    exact bodyPost_ret (res16 _ _ w.heap.size 34 8 0 0 ⟨#[]⟩ _ rfl (setRow_heap _ _ _ _ _ _ eg)) rfl ⟨by unfold fin4; rw [if_pos hb]; rfl, S6.out.fin _⟩
  · have hb' : (s1.bad != 0) = true := by simp [hb]
    go_wp2_with (first | (refine wpList_store_row rfl 34 (.tmp 2) (.tmp 61) rfl w.heap.size Z34 rfl rfl 34 _ eg (inf34 0 0 0 ⟨#[]⟩) rfl (one34 0 0 0 ⟨#[]⟩) ?_) | fail)
    exact bodyPost_ret (res16 _ _ w.heap.size 34 0 0 0 ⟨#[]⟩ _ rfl (setRow_heap _ _ _ _ _ _ eg)) rfl ⟨by unfold fin4; rw [if_neg hb]; rfl, S6.out.fin _⟩
set_option maxRecDepth 100000 in
set_option maxHeartbeats 2000000 in
theorem read_9 (w : World) (h : RD w 69 r a cap L s) (hN : NamesAt 0 w) (hT : Tabs w) (hr4 : 4 ≤ r) (s1 : St) (hB : rByte L s = (9, s1)) :
    Calls Tryd.prog 16 #[.pointer (some ⟨r, 0, none⟩)] w fun e w' => e = .returned (fin4 s1 9 (0) (0) ⟨#[]⟩) ∧ On w w' 69 r a cap L s1 := by
  have hRD := h.below (bel_box w Z34 34)
  have H1 := Hid.mk' (rat_any _ hRD)
  have H2 := Hid.mk' (byte_any _ hRD)
  rw [hB] at H2
  have HST := Hid.mk' (fun (w1 : World) (o : On (w.alloc (.cells Z34 34)) w1 69 r a cap L s1) => ST.start h o 9 0 0 ⟨#[]⟩)
  have HN : Hid (∀ wx, Fr r w wx → Calls Tryd.prog 52 #[.int .u8 9] wx fun e w' => e = .returned (.string ⟨#[108, 105, 115, 116]⟩) ∧ w' = wx) := fun wx hx => name_any 9 wx (by decide) (hN.fr hx hr4)
  have HTB := Hid.mk' (fun (wx : World) (hx : Fr r w wx) => hT.fr hx hr4)
  have HFT := Hid.mk' (fun (wx : World) (hx : RD wx 69 r a cap L s1) => fault_any wx hx)
  clear h hRD hN hT hB
  go_enter Tryd.func16, Tryd.ntmps16
  go_wp2_with fail
  refine H1.out.mono ?_
  rintro e wA ⟨rfl, hwA⟩
  subst hwA
  go_wp2_with fail
  refine H2.out.mono ?_
  rintro e w1 ⟨rfl, ho⟩
  have S2 := Hid.mk' (HST.out w1 ho)
  have p1 : (w1.alloc (.cells Z34 34)).heap[w1.heap.size]? = some (.cells Z34 34 (0, 0)) := heap_alloc_new _ _
  have c0 := S2.out.c0
  clear ho H1 H2 HST
  go_wp2_with (first | (refine wpList_store_row rfl 34 (.tmp 4) (.tmp 11) rfl w1.heap.size #[.int .u8 9, .int .i64 0, .float .f64 0, .string ⟨#[]⟩] rfl rfl 34 _ p1 (inf34 _ _ _ _) rfl (one34 _ _ _ _) ?_) | fail)
  have S4 := S2
  refine (HN.out _ S4.out.fr).mono ?_
  rintro e w5 ⟨rfl, hw5⟩
  subst hw5
  go_wp2_with fail
  refine (HFT.out _ S4.out.rd).mono ?_
  rintro e w6 ⟨rfl, m, hw6⟩
  have S6 : Hid (ST w w6 69 r a cap L s1 w1.heap.size 9 0 0 ⟨#[]⟩) := by show ST _ _ _ _ _ _ _ _ _ _ _ _ _; rw [hw6]; exact S4.out.drew m
  clear hw6 S4 c0 p1
  have e0 := S6.out.c0
  have e1 := S6.out.c1
  have e2 := S6.out.c2
  have e3 := S6.out.c3
  have eg := S6.out.hg
  by_cases hb : s1.bad = 0
  · have hb' : (s1.bad != 0) = false := by simp [hb]
    go_wp2_with (first | (refine wpList_store_row rfl 34 (.tmp 2) (.tmp 62) rfl w.heap.size #[.int .u8 9, .int .i64 0, .float .f64 0, .string ⟨#[]⟩] rfl rfl 34 _ eg (inf34 _ _ _ _) rfl (one34 _ _ _ _) ?_) | fail)
    exact bodyPost_ret (res16 _ _ w.heap.size 34 9 0 0 ⟨#[]⟩ _ rfl (setRow_heap _ _ _ _ _ _ eg)) rfl ⟨by unfold fin4; rw [if_pos hb]; rfl, S6.out.fin _⟩
  · have hb' : (s1.bad != 0) = true := by simp [hb]
    go_wp2_with (first | (refine wpList_store_row rfl 34 (.tmp 2) (.tmp 61) rfl w.heap.size Z34 rfl rfl 34 _ eg (inf34 0 0 0 ⟨#[]⟩) rfl (one34 0 0 0 ⟨#[]⟩) ?_) | fail)
    exact bodyPost_ret (res16 _ _ w.heap.size 34 0 0 0 ⟨#[]⟩ _ rfl (setRow_heap _ _ _ _ _ _ eg)) rfl ⟨by unfold fin4; rw [if_neg hb]; rfl, S6.out.fin _⟩
set_option maxRecDepth 100000 in
set_option maxHeartbeats 2000000 in
theorem read_10 (w : World) (h : RD w 69 r a cap L s) (hN : NamesAt 0 w) (hT : Tabs w) (hr4 : 4 ≤ r) (s1 : St) (hB : rByte L s = (10, s1)) :
    Calls Tryd.prog 16 #[.pointer (some ⟨r, 0, none⟩)] w fun e w' => e = .returned (fin4 s1 10 (0) (0) ⟨#[]⟩) ∧ On w w' 69 r a cap L s1 := by
  have hRD := h.below (bel_box w Z34 34)
  have H1 := Hid.mk' (rat_any _ hRD)
  have H2 := Hid.mk' (byte_any _ hRD)
  rw [hB] at H2
  have HST := Hid.mk' (fun (w1 : World) (o : On (w.alloc (.cells Z34 34)) w1 69 r a cap L s1) => ST.start h o 10 0 0 ⟨#[]⟩)
  have HN : Hid (∀ wx, Fr r w wx → Calls Tryd.prog 52 #[.int .u8 10] wx fun e w' => e = .returned (.string ⟨#[115, 116, 114, 105, 110, 103]⟩) ∧ w' = wx) := fun wx hx => name_any 10 wx (by decide) (hN.fr hx hr4)
  have HTB := Hid.mk' (fun (wx : World) (hx : Fr r w wx) => hT.fr hx hr4)
  have HFT := Hid.mk' (fun (wx : World) (hx : RD wx 69 r a cap L s1) => fault_any wx hx)
  clear h hRD hN hT hB
  go_enter Tryd.func16, Tryd.ntmps16
  go_wp2_with fail
  refine H1.out.mono ?_
  rintro e wA ⟨rfl, hwA⟩
  subst hwA
  go_wp2_with fail
  refine H2.out.mono ?_
  rintro e w1 ⟨rfl, ho⟩
  have S2 := Hid.mk' (HST.out w1 ho)
  have p1 : (w1.alloc (.cells Z34 34)).heap[w1.heap.size]? = some (.cells Z34 34 (0, 0)) := heap_alloc_new _ _
  have c0 := S2.out.c0
  clear ho H1 H2 HST
  go_wp2_with (first | (refine wpList_store_row rfl 34 (.tmp 4) (.tmp 11) rfl w1.heap.size #[.int .u8 10, .int .i64 0, .float .f64 0, .string ⟨#[]⟩] rfl rfl 34 _ p1 (inf34 _ _ _ _) rfl (one34 _ _ _ _) ?_) | fail)
  have S4 := S2
  refine (HN.out _ S4.out.fr).mono ?_
  rintro e w5 ⟨rfl, hw5⟩
  subst hw5
  go_wp2_with fail
  refine (HFT.out _ S4.out.rd).mono ?_
  rintro e w6 ⟨rfl, m, hw6⟩
  have S6 : Hid (ST w w6 69 r a cap L s1 w1.heap.size 10 0 0 ⟨#[]⟩) := by show ST _ _ _ _ _ _ _ _ _ _ _ _ _; rw [hw6]; exact S4.out.drew m
  clear hw6 S4 c0 p1
  have e0 := S6.out.c0
  have e1 := S6.out.c1
  have e2 := S6.out.c2
  have e3 := S6.out.c3
  have eg := S6.out.hg
  by_cases hb : s1.bad = 0
  · have hb' : (s1.bad != 0) = false := by simp [hb]
    go_wp2_with (first | (refine wpList_store_row rfl 34 (.tmp 2) (.tmp 62) rfl w.heap.size #[.int .u8 10, .int .i64 0, .float .f64 0, .string ⟨#[]⟩] rfl rfl 34 _ eg (inf34 _ _ _ _) rfl (one34 _ _ _ _) ?_) | fail)
    exact bodyPost_ret (res16 _ _ w.heap.size 34 10 0 0 ⟨#[]⟩ _ rfl (setRow_heap _ _ _ _ _ _ eg)) rfl ⟨by unfold fin4; rw [if_pos hb]; rfl, S6.out.fin _⟩
  · have hb' : (s1.bad != 0) = true := by simp [hb]
    go_wp2_with (first | (refine wpList_store_row rfl 34 (.tmp 2) (.tmp 61) rfl w.heap.size Z34 rfl rfl 34 _ eg (inf34 0 0 0 ⟨#[]⟩) rfl (one34 0 0 0 ⟨#[]⟩) ?_) | fail)
    exact bodyPost_ret (res16 _ _ w.heap.size 34 0 0 0 ⟨#[]⟩ _ rfl (setRow_heap _ _ _ _ _ _ eg)) rfl ⟨by unfold fin4; rw [if_neg hb]; rfl, S6.out.fin _⟩
set_option maxRecDepth 100000 in
set_option maxHeartbeats 2000000 in
theorem read_11 (w : World) (h : RD w 69 r a cap L s) (hN : NamesAt 0 w) (hT : Tabs w) (hr4 : 4 ≤ r) (s1 : St) (hB : rByte L s = (11, s1)) :
    Calls Tryd.prog 16 #[.pointer (some ⟨r, 0, none⟩)] w fun e w' => e = .returned (fin4 s1 11 (0) (0) ⟨#[]⟩) ∧ On w w' 69 r a cap L s1 := by
  have hRD := h.below (bel_box w Z34 34)
  have H1 := Hid.mk' (rat_any _ hRD)
  have H2 := Hid.mk' (byte_any _ hRD)
  rw [hB] at H2
  have HST := Hid.mk' (fun (w1 : World) (o : On (w.alloc (.cells Z34 34)) w1 69 r a cap L s1) => ST.start h o 11 0 0 ⟨#[]⟩)
  have HN : Hid (∀ wx, Fr r w wx → Calls Tryd.prog 52 #[.int .u8 11] wx fun e w' => e = .returned (.string ⟨#[111, 117, 116, 108, 105, 110, 101]⟩) ∧ w' = wx) := fun wx hx => name_any 11 wx (by decide) (hN.fr hx hr4)
  have HTB := Hid.mk' (fun (wx : World) (hx : Fr r w wx) => hT.fr hx hr4)
  have HFT := Hid.mk' (fun (wx : World) (hx : RD wx 69 r a cap L s1) => fault_any wx hx)
  clear h hRD hN hT hB
  go_enter Tryd.func16, Tryd.ntmps16
  go_wp2_with fail
  refine H1.out.mono ?_
  rintro e wA ⟨rfl, hwA⟩
  subst hwA
  go_wp2_with fail
  refine H2.out.mono ?_
  rintro e w1 ⟨rfl, ho⟩
  have S2 := Hid.mk' (HST.out w1 ho)
  have p1 : (w1.alloc (.cells Z34 34)).heap[w1.heap.size]? = some (.cells Z34 34 (0, 0)) := heap_alloc_new _ _
  have c0 := S2.out.c0
  clear ho H1 H2 HST
  go_wp2_with (first | (refine wpList_store_row rfl 34 (.tmp 4) (.tmp 11) rfl w1.heap.size #[.int .u8 11, .int .i64 0, .float .f64 0, .string ⟨#[]⟩] rfl rfl 34 _ p1 (inf34 _ _ _ _) rfl (one34 _ _ _ _) ?_) | fail)
  have S4 := S2
  refine (HN.out _ S4.out.fr).mono ?_
  rintro e w5 ⟨rfl, hw5⟩
  subst hw5
  go_wp2_with fail
  refine (HFT.out _ S4.out.rd).mono ?_
  rintro e w6 ⟨rfl, m, hw6⟩
  have S6 : Hid (ST w w6 69 r a cap L s1 w1.heap.size 11 0 0 ⟨#[]⟩) := by show ST _ _ _ _ _ _ _ _ _ _ _ _ _; rw [hw6]; exact S4.out.drew m
  clear hw6 S4 c0 p1
  have e0 := S6.out.c0
  have e1 := S6.out.c1
  have e2 := S6.out.c2
  have e3 := S6.out.c3
  have eg := S6.out.hg
  by_cases hb : s1.bad = 0
  · have hb' : (s1.bad != 0) = false := by simp [hb]
    go_wp2_with (first | (refine wpList_store_row rfl 34 (.tmp 2) (.tmp 62) rfl w.heap.size #[.int .u8 11, .int .i64 0, .float .f64 0, .string ⟨#[]⟩] rfl rfl 34 _ eg (inf34 _ _ _ _) rfl (one34 _ _ _ _) ?_) | fail)
    exact bodyPost_ret (res16 _ _ w.heap.size 34 11 0 0 ⟨#[]⟩ _ rfl (setRow_heap _ _ _ _ _ _ eg)) rfl ⟨by unfold fin4; rw [if_pos hb]; rfl, S6.out.fin _⟩
  · have hb' : (s1.bad != 0) = true := by simp [hb]
    go_wp2_with (first | (refine wpList_store_row rfl 34 (.tmp 2) (.tmp 61) rfl w.heap.size Z34 rfl rfl 34 _ eg (inf34 0 0 0 ⟨#[]⟩) rfl (one34 0 0 0 ⟨#[]⟩) ?_) | fail)
    exact bodyPost_ret (res16 _ _ w.heap.size 34 0 0 0 ⟨#[]⟩ _ rfl (setRow_heap _ _ _ _ _ _ eg)) rfl ⟨by unfold fin4; rw [if_neg hb]; rfl, S6.out.fin _⟩

end Go.Proofs.YtkinjcblngkeiaaDoor
