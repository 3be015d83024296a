import Derived.Test.YtkinjcblngkeiaaDoorRe
namespace Go.Proofs.YtkinjcblngkeiaaDoor
open Go.RowKit
set_option linter.unusedVariables false
set_option linter.unusedSimpArgs false

variable {r cap : Nat} {a : Option Addr} {L : List UInt8} {s : St}
set_option maxRecDepth 100000 in
set_option maxHeartbeats 2000000 in
theorem read_0 (w : World) (h : RD w 69 r a cap L s) (hN : NamesAt 0 w) (hT : Tabs w) (hr4 : 4 ≤ r) (s1 : St) (hB : rByte L s = (0, s1)) :
    Calls Tryd.prog 16 #[.pointer (some ⟨r, 0, none⟩)] w fun e w' => e = .returned (fin4 s1 0 (0) (0) ⟨#[]⟩) ∧ On w w' 69 r a cap L s1 := by
  have hRD := h.below (bel_box w Z34 34)
  have H1 := Hid.mk' (rat_any _ hRD)
  have H2 := Hid.mk' (byte_any _ hRD)
  rw [hB] at H2
  have HST := Hid.mk' (fun (w1 : World) (o : On (w.alloc (.cells Z34 34)) w1 69 r a cap L s1) => ST.start h o 0 0 0 ⟨#[]⟩)
  have HN : Hid (∀ wx, Fr r w wx → Calls Tryd.prog 52 #[.int .u8 0] wx fun e w' => e = .returned (.string ⟨#[110, 117, 108, 108]⟩) ∧ w' = wx) := fun wx hx => name_any 0 wx (by decide) (hN.fr hx hr4)
  have HTB := Hid.mk' (fun (wx : World) (hx : Fr r w wx) => hT.fr hx hr4)
  have HFT := Hid.mk' (fun (wx : World) (hx : RD wx 69 r a cap L s1) => fault_any wx hx)
  clear h hRD hN hT hB
  go_enter Tryd.func16, Tryd.ntmps16
  go_wp2_with fail
  refine H1.out.mono ?_
  rintro e wA ⟨rfl, hwA⟩
  subst hwA
  go_wp2_with fail
  refine H2.out.mono ?_
  rintro e w1 ⟨rfl, ho⟩
  have S2 := Hid.mk' (HST.out w1 ho)
  have p1 : (w1.alloc (.cells Z34 34)).heap[w1.heap.size]? = some (.cells Z34 34 (0, 0)) := heap_alloc_new _ _
  have c0 := S2.out.c0
  clear ho H1 H2 HST
  go_wp2_with (first | (refine wpList_store_row rfl 34 (.tmp 4) (.tmp 11) rfl w1.heap.size #[.int .u8 0, .int .i64 0, .float .f64 0, .string ⟨#[]⟩] rfl rfl 34 _ p1 (inf34 _ _ _ _) rfl (one34 _ _ _ _) ?_) | fail)
  have S4 := S2
  refine (HN.out _ S4.out.fr).mono ?_
  rintro e w5 ⟨rfl, hw5⟩
  subst hw5
  go_wp2_with fail
  refine (HFT.out _ S4.out.rd).mono ?_
  rintro e w6 ⟨rfl, m, hw6⟩
  have S6 : Hid (ST w w6 69 r a cap L s1 w1.heap.size 0 0 0 ⟨#[]⟩) := by show ST _ _ _ _ _ _ _ _ _ _ _ _ _; rw [hw6]; exact S4.out.drew m
  clear hw6 S4 c0 p1
  have e0 := S6.out.c0
  have e1 := S6.out.c1
  have e2 := S6.out.c2
  have e3 := S6.out.c3
  have eg := S6.out.hg
  by_cases hb : s1.bad = 0
  · have hb' : (s1.bad != 0) = false := by simp [hb]
    go_wp2_with (first | (refine wpList_store_row rfl 34 (.tmp 2) (.tmp 62) rfl w.heap.size #[.int .u8 0, .int .i64 0, .float .f64 0, .string ⟨#[]⟩] rfl rfl 34 _ eg (inf34 _ _ _ _) rfl (one34 _ _ _ _) ?_) | fail)
    exact bodyPost_ret (res16 _ _ w.heap.size 34 0 0 0 ⟨#[]⟩ _ rfl (setRow_heap _ _ _ _ _ _ eg)) rfl ⟨by unfold fin4; rw [if_pos hb]; rfl, S6.out.fin _⟩
  · have hb' : (s1.bad != 0) = true := by simp [hb]
    go_wp2_with (first | (refine wpList_store_row rfl 34 (.tmp 2) (.tmp 61) rfl w.heap.size Z34 rfl rfl 34 _ eg (inf34 0 0 0 ⟨#[]⟩) rfl (one34 0 0 0 ⟨#[]⟩) ?_) | fail)
    exact bodyPost_ret (res16 _ _ w.heap.size 34 0 0 0 ⟨#[]⟩ _ rfl (setRow_heap _ _ _ _ _ _ eg)) rfl ⟨by unfold fin4; rw [if_neg hb]; rfl, S6.out.fin _⟩
set_option maxRecDepth 100000 in
set_option maxHeartbeats 2000000 in
theorem read_1 (w : World) (h : RD w 69 r a cap L s) (hN : NamesAt 0 w) (hT : Tabs w) (hr4 : 4 ≤ r) (s1 : St) (hB : rByte L s = (1, s1)) :
    Calls Tryd.prog 16 #[.pointer (some ⟨r, 0, none⟩)] w fun e w' => e = .returned (fin4 (rBool L s1).2 1 (if (rBool L s1).1 = true then 1 else 0) (0) ⟨#[]⟩) ∧ On w w' 69 r a cap L (rBool L s1).2 := by
  have hRD := h.below (bel_box w Z34 34)
  have H1 := Hid.mk' (rat_any _ hRD)
  have H2 := Hid.mk' (byte_any _ hRD)
  rw [hB] at H2
  have HST := Hid.mk' (fun (w1 : World) (o : On (w.alloc (.cells Z34 34)) w1 69 r a cap L s1) => ST.start h o 1 0 0 ⟨#[]⟩)
  have HN : Hid (∀ wx, Fr r w wx → Calls Tryd.prog 52 #[.int .u8 1] wx fun e w' => e = .returned (.string ⟨#[98, 111, 111, 108]⟩) ∧ w' = wx) := fun wx hx => name_any 1 wx (by decide) (hN.fr hx hr4)
  have HTB := Hid.mk' (fun (wx : World) (hx : Fr r w wx) => hT.fr hx hr4)
  have HFT := Hid.mk' (fun (wx : World) (hx : RD wx 69 r a cap L (rBool L s1).2) => fault_any wx hx)
  have HC := Hid.mk' (fun (wx : World) (hx : RD wx 69 r a cap L s1) => bool_any wx hx)
  generalize rBool L s1 = q at *
  obtain ⟨x, s2⟩ := q
  simp only at HC HFT ⊢
  clear h hRD hN hT hB
  cases x
  · skip
    go_enter Tryd.func16, Tryd.ntmps16
    go_wp2_with fail
    refine H1.out.mono ?_
    rintro e wA ⟨rfl, hwA⟩
    subst hwA
    go_wp2_with fail
    refine H2.out.mono ?_
    rintro e w1 ⟨rfl, ho⟩
    have S2 := Hid.mk' (HST.out w1 ho)
    have p1 : (w1.alloc (.cells Z34 34)).heap[w1.heap.size]? = some (.cells Z34 34 (0, 0)) := heap_alloc_new _ _
    have c0 := S2.out.c0
    clear ho H1 H2 HST
    go_wp2_with (first | (refine wpList_store_row rfl 34 (.tmp 4) (.tmp 11) rfl w1.heap.size #[.int .u8 1, .int .i64 0, .float .f64 0, .string ⟨#[]⟩] rfl rfl 34 _ p1 (inf34 _ _ _ _) rfl (one34 _ _ _ _) ?_) | fail)
    have RD2 := S2.out.rd
    refine (HC.out _ RD2).mono ?_
    rintro e w3 ⟨rfl, ho⟩
    have S3 := Hid.mk' (S2.out.on ho)
    clear ho RD2 c0 S2 p1
    have c0 := S3.out.c0
    have c1 := S3.out.c1
    have c2 := S3.out.c2
    have c3 := S3.out.c3
    have S4 := S3
    have d0 := S4.out.c0
    go_wp2_with fail
    refine (HN.out _ S4.out.fr).mono ?_
    rintro e w5 ⟨rfl, hw5⟩
    subst hw5
    go_wp2_with fail
    refine (HFT.out _ S4.out.rd).mono ?_
    rintro e w6 ⟨rfl, m, hw6⟩
    have S6 : Hid (ST w w6 69 r a cap L s2 w1.heap.size 1 0 0 ⟨#[]⟩) := by show ST _ _ _ _ _ _ _ _ _ _ _ _ _; rw [hw6]; exact S4.out.drew m
    clear hw6 S4 c0 c1 c2 c3 d0
    have e0 := S6.out.c0
    have e1 := S6.out.c1
    have e2 := S6.out.c2
    have e3 := S6.out.c3
    have eg := S6.out.hg
    by_cases hb : s2.bad = 0
    · have hb' : (s2.bad != 0) = false := by simp [hb]
      go_wp2_with (first | (refine wpList_store_row rfl 34 (.tmp 2) (.tmp 62) rfl w.heap.size #[.int .u8 1, .int .i64 0, .float .f64 0, .string ⟨#[]⟩] rfl rfl 34 _ eg (inf34 _ _ _ _) rfl (one34 _ _ _ _) ?_) | fail)
      exact bodyPost_ret (res16 _ _ w.heap.size 34 1 0 0 ⟨#[]⟩ _ rfl (setRow_heap _ _ _ _ _ _ eg)) rfl ⟨by unfold fin4; rw [if_pos hb]; rfl, S6.out.fin _⟩
    · have hb' : (s2.bad != 0) = true := by simp [hb]
      go_wp2_with (first | (refine wpList_store_row rfl 34 (.tmp 2) (.tmp 61) rfl w.heap.size Z34 rfl rfl 34 _ eg (inf34 0 0 0 ⟨#[]⟩) rfl (one34 0 0 0 ⟨#[]⟩) ?_) | fail)
      exact bodyPost_ret (res16 _ _ w.heap.size 34 0 0 0 ⟨#[]⟩ _ rfl (setRow_heap _ _ _ _ _ _ eg)) rfl ⟨by unfold fin4; rw [if_neg hb]; rfl, S6.out.fin _⟩
  · skip
    go_enter Tryd.func16, Tryd.ntmps16
    go_wp2_with fail
    refine H1.out.mono ?_
    rintro e wA ⟨rfl, hwA⟩
    subst hwA
    go_wp2_with fail
    refine H2.out.mono ?_
    rintro e w1 ⟨rfl, ho⟩
    have S2 := Hid.mk' (HST.out w1 ho)
    have p1 : (w1.alloc (.cells Z34 34)).heap[w1.heap.size]? = some (.cells Z34 34 (0, 0)) := heap_alloc_new _ _
    have c0 := S2.out.c0
    clear ho H1 H2 HST
    go_wp2_with (first | (refine wpList_store_row rfl 34 (.tmp 4) (.tmp 11) rfl w1.heap.size #[.int .u8 1, .int .i64 0, .float .f64 0, .string ⟨#[]⟩] rfl rfl 34 _ p1 (inf34 _ _ _ _) rfl (one34 _ _ _ _) ?_) | fail)
    have RD2 := S2.out.rd
    refine (HC.out _ RD2).mono ?_
    rintro e w3 ⟨rfl, ho⟩
    have S3 := Hid.mk' (S2.out.on ho)
    clear ho RD2 c0 S2 p1
    have c0 := S3.out.c0
    have c1 := S3.out.c1
    have c2 := S3.out.c2
    have c3 := S3.out.c3
    have f1 := S3.out.fz 1
    have S4 := Hid.mk' (S3.out.set1 1)
    have d0 := S4.out.c0
    go_wp2_with fail
    refine (HN.out _ S4.out.fr).mono ?_
    rintro e w5 ⟨rfl, hw5⟩
    subst hw5
    go_wp2_with fail
    refine (HFT.out _ S4.out.rd).mono ?_
    rintro e w6 ⟨rfl, m, hw6⟩
    have S6 : Hid (ST w w6 69 r a cap L s2 w1.heap.size 1 1 0 ⟨#[]⟩) := by show ST _ _ _ _ _ _ _ _ _ _ _ _ _; rw [hw6]; exact S4.out.drew m
    clear hw6 S4 S3 c0 c1 c2 c3 d0
    have e0 := S6.out.c0
    have e1 := S6.out.c1
    have e2 := S6.out.c2
    have e3 := S6.out.c3
    have eg := S6.out.hg
    by_cases hb : s2.bad = 0
    · have hb' : (s2.bad != 0) = false := by simp [hb]
      go_wp2_with (first | (refine wpList_store_row rfl 34 (.tmp 2) (.tmp 62) rfl w.heap.size #[.int .u8 1, .int .i64 1, .float .f64 0, .string ⟨#[]⟩] rfl rfl 34 _ eg (inf34 _ _ _ _) rfl (one34 _ _ _ _) ?_) | fail)
      exact bodyPost_ret (res16 _ _ w.heap.size 34 1 1 0 ⟨#[]⟩ _ rfl (setRow_heap _ _ _ _ _ _ eg)) rfl ⟨by unfold fin4; rw [if_pos hb]; rfl, S6.out.fin _⟩
    · have hb' : (s2.bad != 0) = true := by simp [hb]
      go_wp2_with (first | (refine wpList_store_row rfl 34 (.tmp 2) (.tmp 61) rfl w.heap.size Z34 rfl rfl 34 _ eg (inf34 0 0 0 ⟨#[]⟩) rfl (one34 0 0 0 ⟨#[]⟩) ?_) | fail)
      exact bodyPost_ret (res16 _ _ w.heap.size 34 0 0 0 ⟨#[]⟩ _ rfl (setRow_heap _ _ _ _ _ _ eg)) rfl ⟨by unfold fin4; rw [if_neg hb]; rfl, S6.out.fin _⟩
set_option maxRecDepth 100000 in
set_option maxHeartbeats 2000000 in
theorem read_2 (w : World) (h : RD w 69 r a cap L s) (hN : NamesAt 0 w) (hT : Tabs w) (hr4 : 4 ≤ r) (s1 : St) (hB : rByte L s = (2, s1)) :
    Calls Tryd.prog 16 #[.pointer (some ⟨r, 0, none⟩)] w fun e w' => e = .returned (fin4 (rInt L s1).2 2 ((rInt L s1).1) (0) ⟨#[]⟩) ∧ On w w' 69 r a cap L (rInt L s1).2 := by
  have hRD := h.below (bel_box w Z34 34)
  have H1 := Hid.mk' (rat_any _ hRD)
  have H2 := Hid.mk' (byte_any _ hRD)
  rw [hB] at H2
  have HST := Hid.mk' (fun (w1 : World) (o : On (w.alloc (.cells Z34 34)) w1 69 r a cap L s1) => ST.start h o 2 0 0 ⟨#[]⟩)
  have HN : Hid (∀ wx, Fr r w wx → Calls Tryd.prog 52 #[.int .u8 2] wx fun e w' => e = .returned (.string ⟨#[105, 110, 116]⟩) ∧ w' = wx) := fun wx hx => name_any 2 wx (by decide) (hN.fr hx hr4)
  have HTB := Hid.mk' (fun (wx : World) (hx : Fr r w wx) => hT.fr hx hr4)
  have HFT := Hid.mk' (fun (wx : World) (hx : RD wx 69 r a cap L (rInt L s1).2) => fault_any wx hx)
  have HC := Hid.mk' (fun (wx : World) (hx : RD wx 69 r a cap L s1) => int_any wx hx)
  generalize rInt L s1 = q at *
  obtain ⟨x, s2⟩ := q
  simp only at HC HFT ⊢
  clear h hRD hN hT hB
  go_enter Tryd.func16, Tryd.ntmps16
  go_wp2_with fail
  refine H1.out.mono ?_
  rintro e wA ⟨rfl, hwA⟩
  subst hwA
  go_wp2_with fail
  refine H2.out.mono ?_
  rintro e w1 ⟨rfl, ho⟩
  have S2 := Hid.mk' (HST.out w1 ho)
  have p1 : (w1.alloc (.cells Z34 34)).heap[w1.heap.size]? = some (.cells Z34 34 (0, 0)) := heap_alloc_new _ _
  have c0 := S2.out.c0
  clear ho H1 H2 HST
  go_wp2_with (first | (refine wpList_store_row rfl 34 (.tmp 4) (.tmp 11) rfl w1.heap.size #[.int .u8 2, .int .i64 0, .float .f64 0, .string ⟨#[]⟩] rfl rfl 34 _ p1 (inf34 _ _ _ _) rfl (one34 _ _ _ _) ?_) | fail)
  have RD2 := S2.out.rd
  refine (HC.out _ RD2).mono ?_
  rintro e w3 ⟨rfl, ho⟩
  have S3 := Hid.mk' (S2.out.on ho)
  clear ho RD2 c0 S2 p1
  have c0 := S3.out.c0
  have c1 := S3.out.c1
  have c2 := S3.out.c2
  have c3 := S3.out.c3
  have f1 := S3.out.fz 1
  have S4 := Hid.mk' (S3.out.set1 x)
  have d0 := S4.out.c0
  go_wp2_with fail
  refine (HN.out _ S4.out.fr).mono ?_
  rintro e w5 ⟨rfl, hw5⟩
  subst hw5
  go_wp2_with fail
  refine (HFT.out _ S4.out.rd).mono ?_
  rintro e w6 ⟨rfl, m, hw6⟩
  have S6 : Hid (ST w w6 69 r a cap L s2 w1.heap.size 2 x 0 ⟨#[]⟩) := by show ST _ _ _ _ _ _ _ _ _ _ _ _ _; rw [hw6]; exact S4.out.drew m
  clear hw6 S4 S3 c0 c1 c2 c3 d0
  have e0 := S6.out.c0
  have e1 := S6.out.c1
  have e2 := S6.out.c2
  have e3 := S6.out.c3
  have eg := S6.out.hg
  by_cases hb : s2.bad = 0
  · have hb' : (s2.bad != 0) = false := by simp [hb]
    go_wp2_with (first | (refine wpList_store_row rfl 34 (.tmp 2) (.tmp 62) rfl w.heap.size #[.int .u8 2, .int .i64 x, .float .f64 0, .string ⟨#[]⟩] rfl rfl 34 _ eg (inf34 _ _ _ _) rfl (one34 _ _ _ _) ?_) | fail)
    exact bodyPost_ret (res16 _ _ w.heap.size 34 2 x 0 ⟨#[]⟩ _ rfl (setRow_heap _ _ _ _ _ _ eg)) rfl ⟨by unfold fin4; rw [if_pos hb]; rfl, S6.out.fin _⟩
  · have hb' : (s2.bad != 0) = true := by simp [hb]
    go_wp2_with (first | (refine wpList_store_row rfl 34 (.tmp 2) (.tmp 61) rfl w.heap.size Z34 rfl rfl 34 _ eg (inf34 0 0 0 ⟨#[]⟩) rfl (one34 0 0 0 ⟨#[]⟩) ?_) | fail)
    exact bodyPost_ret (res16 _ _ w.heap.size 34 0 0 0 ⟨#[]⟩ _ rfl (setRow_heap _ _ _ _ _ _ eg)) rfl ⟨by unfold fin4; rw [if_neg hb]; rfl, S6.out.fin _⟩
set_option maxRecDepth 100000 in
set_option maxHeartbeats 2000000 in
theorem read_3 (w : World) (h : RD w 69 r a cap L s) (hN : NamesAt 0 w) (hT : Tabs w) (hr4 : 4 ≤ r) (s1 : St) (hB : rByte L s = (3, s1)) :
    Calls Tryd.prog 16 #[.pointer (some ⟨r, 0, none⟩)] w fun e w' => e = .returned (fin4 (rFloat L s1).2 3 (0) ((rFloat L s1).1) ⟨#[]⟩) ∧ On w w' 69 r a cap L (rFloat L s1).2 := by
  have hRD := h.below (bel_box w Z34 34)
  have H1 := Hid.mk' (rat_any _ hRD)
  have H2 := Hid.mk' (byte_any _ hRD)
  rw [hB] at H2
  have HST := Hid.mk' (fun (w1 : World) (o : On (w.alloc (.cells Z34 34)) w1 69 r a cap L s1) => ST.start h o 3 0 0 ⟨#[]⟩)
  have HN : Hid (∀ wx, Fr r w wx → Calls Tryd.prog 52 #[.int .u8 3] wx fun e w' => e = .returned (.string ⟨#[102, 108, 111, 97, 116]⟩) ∧ w' = wx) := fun wx hx => name_any 3 wx (by decide) (hN.fr hx hr4)
  have HTB := Hid.mk' (fun (wx : World) (hx : Fr r w wx) => hT.fr hx hr4)
  have HFT := Hid.mk' (fun (wx : World) (hx : RD wx 69 r a cap L (rFloat L s1).2) => fault_any wx hx)
  have HC := Hid.mk' (fun (wx : World) (hx : RD wx 69 r a cap L s1) => float_any wx hx)
  generalize rFloat L s1 = q at *
  obtain ⟨x, s2⟩ := q
  simp only at HC HFT ⊢
  clear h hRD hN hT hB
  go_enter Tryd.func16, Tryd.ntmps16
  go_wp2_with fail
  refine H1.out.mono ?_
  rintro e wA ⟨rfl, hwA⟩
  subst hwA
  go_wp2_with fail
  refine H2.out.mono ?_
  rintro e w1 ⟨rfl, ho⟩
  have S2 := Hid.mk' (HST.out w1 ho)
  have p1 : (w1.alloc (.cells Z34 34)).heap[w1.heap.size]? = some (.cells Z34 34 (0, 0)) := heap_alloc_new _ _
  have c0 := S2.out.c0
  clear ho H1 H2 HST
  go_wp2_with (first | (refine wpList_store_row rfl 34 (.tmp 4) (.tmp 11) rfl w1.heap.size #[.int .u8 3, .int .i64 0, .float .f64 0, .string ⟨#[]⟩] rfl rfl 34 _ p1 (inf34 _ _ _ _) rfl (one34 _ _ _ _) ?_) | fail)
  have RD2 := S2.out.rd
  refine (HC.out _ RD2).mono ?_
  rintro e w3 ⟨rfl, ho⟩
  have S3 := Hid.mk' (S2.out.on ho)
  clear ho RD2 c0 S2 p1
  have c0 := S3.out.c0
  have c1 := S3.out.c1
  have c2 := S3.out.c2
  have c3 := S3.out.c3
  have f1 := S3.out.fz 2
  have S4 := Hid.mk' (S3.out.set2 x)
  have d0 := S4.out.c0
  go_wp2_with fail
  refine (HN.out _ S4.out.fr).mono ?_
  rintro e w5 ⟨rfl, hw5⟩
  subst hw5
  go_wp2_with fail
  refine (HFT.out _ S4.out.rd).mono ?_
  rintro e w6 ⟨rfl, m, hw6⟩
  have S6 : Hid (ST w w6 69 r a cap L s2 w1.heap.size 3 0 x ⟨#[]⟩) := by show ST _ _ _ _ _ _ _ _ _ _ _ _ _; rw [hw6]; exact S4.out.drew m
  clear hw6 S4 S3 c0 c1 c2 c3 d0
  have e0 := S6.out.c0
  have e1 := S6.out.c1
  have e2 := S6.out.c2
  have e3 := S6.out.c3
  have eg := S6.out.hg
  by_cases hb : s2.bad = 0
  · have hb' : (s2.bad != 0) = false := by simp [hb]
    go_wp2_with (first | (refine wpList_store_row rfl 34 (.tmp 2) (.tmp 62) rfl w.heap.size #[.int .u8 3, .int .i64 0, .float .f64 x, .string ⟨#[]⟩] rfl rfl 34 _ eg (inf34 _ _ _ _) rfl (one34 _ _ _ _) ?_) | fail)
    exact bodyPost_ret (res16 _ _ w.heap.size 34 3 0 x ⟨#[]⟩ _ rfl (setRow_heap _ _ _ _ _ _ eg)) rfl ⟨by unfold fin4; rw [if_pos hb]; rfl, S6.out.fin _⟩
  · have hb' : (s2.bad != 0) = true := by simp [hb]
    go_wp2_with (first | (refine wpList_store_row rfl 34 (.tmp 2) (.tmp 61) rfl w.heap.size Z34 rfl rfl 34 _ eg (inf34 0 0 0 ⟨#[]⟩) rfl (one34 0 0 0 ⟨#[]⟩) ?_) | fail)
    exact bodyPost_ret (res16 _ _ w.heap.size 34 0 0 0 ⟨#[]⟩ _ rfl (setRow_heap _ _ _ _ _ _ eg)) rfl ⟨by unfold fin4; rw [if_neg hb]; rfl, S6.out.fin _⟩
set_option maxRecDepth 100000 in
set_option maxHeartbeats 2000000 in
theorem read_4 (w : World) (h : RD w 69 r a cap L s) (hN : NamesAt 0 w) (hT : Tabs w) (hr4 : 4 ≤ r) (s1 : St) (hB : rByte L s = (4, s1)) :
    Calls Tryd.prog 16 #[.pointer (some ⟨r, 0, none⟩)] w fun e w' => e = .returned (fin4 (rText L 1000 s1).2 4 (0) (0) ⟨(rText L 1000 s1).1.toArray⟩) ∧ On w w' 69 r a cap L (rText L 1000 s1).2 := by
  have hRD := h.below (bel_box w Z34 34)
  have H1 := Hid.mk' (rat_any _ hRD)
  have H2 := Hid.mk' (byte_any _ hRD)
  rw [hB] at H2
  have HST := Hid.mk' (fun (w1 : World) (o : On (w.alloc (.cells Z34 34)) w1 69 r a cap L s1) => ST.start h o 4 0 0 ⟨#[]⟩)
  have HN : Hid (∀ wx, Fr r w wx → Calls Tryd.prog 52 #[.int .u8 4] wx fun e w' => e = .returned (.string ⟨#[116, 101, 120, 116]⟩) ∧ w' = wx) := fun wx hx => name_any 4 wx (by decide) (hN.fr hx hr4)
  have HTB := Hid.mk' (fun (wx : World) (hx : Fr r w wx) => hT.fr hx hr4)
  have HFT := Hid.mk' (fun (wx : World) (hx : RD wx 69 r a cap L (rText L 1000 s1).2) => fault_any wx hx)
  have HC := Hid.mk' (fun (wx : World) (hx : RD wx 69 r a cap L s1) (ht : Tabs wx) => text_any 1000 (by decide) wx hx ht hr4)
  generalize rText L 1000 s1 = q at *
  obtain ⟨x, s2⟩ := q
  simp only at HC HFT ⊢
  clear h hRD hN hT hB
  go_enter Tryd.func16, Tryd.ntmps16
  go_wp2_with fail
  refine H1.out.mono ?_
  rintro e wA ⟨rfl, hwA⟩
  subst hwA
  go_wp2_with fail
  refine H2.out.mono ?_
  rintro e w1 ⟨rfl, ho⟩
  have S2 := Hid.mk' (HST.out w1 ho)
  have p1 : (w1.alloc (.cells Z34 34)).heap[w1.heap.size]? = some (.cells Z34 34 (0, 0)) := heap_alloc_new _ _
  have c0 := S2.out.c0
  clear ho H1 H2 HST
  go_wp2_with (first | (refine wpList_store_row rfl 34 (.tmp 4) (.tmp 11) rfl w1.heap.size #[.int .u8 4, .int .i64 0, .float .f64 0, .string ⟨#[]⟩] rfl rfl 34 _ p1 (inf34 _ _ _ _) rfl (one34 _ _ _ _) ?_) | fail)
  have RD2 := S2.out.rd
  refine (HC.out _ RD2 (HTB.out _ S2.out.fr)).mono ?_
  rintro e w3 ⟨rfl, ho⟩
  have S3 := Hid.mk' (S2.out.on ho)
  clear ho RD2 c0 S2 p1
  have c0 := S3.out.c0
  have c1 := S3.out.c1
  have c2 := S3.out.c2
  have c3 := S3.out.c3
  have f1 := S3.out.fz 3
  have S4 := Hid.mk' (S3.out.set3 ⟨x.toArray⟩)
  have d0 := S4.out.c0
  go_wp2_with fail
  refine (HN.out _ S4.out.fr).mono ?_
  rintro e w5 ⟨rfl, hw5⟩
  subst hw5
  go_wp2_with fail
  refine (HFT.out _ S4.out.rd).mono ?_
  rintro e w6 ⟨rfl, m, hw6⟩
  have S6 : Hid (ST w w6 69 r a cap L s2 w1.heap.size 4 0 0 ⟨x.toArray⟩) := by show ST _ _ _ _ _ _ _ _ _ _ _ _ _; rw [hw6]; exact S4.out.drew m
  clear hw6 S4 S3 c0 c1 c2 c3 d0
  have e0 := S6.out.c0
  have e1 := S6.out.c1
  have e2 := S6.out.c2
  have e3 := S6.out.c3
  have eg := S6.out.hg
  by_cases hb : s2.bad = 0
  · have hb' : (s2.bad != 0) = false := by simp [hb]
    go_wp2_with (first | (refine wpList_store_row rfl 34 (.tmp 2) (.tmp 62) rfl w.heap.size #[.int .u8 4, .int .i64 0, .float .f64 0, .string ⟨x.toArray⟩] rfl rfl 34 _ eg (inf34 _ _ _ _) rfl (one34 _ _ _ _) ?_) | fail)
    exact bodyPost_ret (res16 _ _ w.heap.size 34 4 0 0 ⟨x.toArray⟩ _ rfl (setRow_heap _ _ _ _ _ _ eg)) rfl ⟨by unfold fin4; rw [if_pos hb]; rfl, S6.out.fin _⟩
  · have hb' : (s2.bad != 0) = true := by simp [hb]
    go_wp2_with (first | (refine wpList_store_row rfl 34 (.tmp 2) (.tmp 61) rfl w.heap.size Z34 rfl rfl 34 _ eg (inf34 0 0 0 ⟨#[]⟩) rfl (one34 0 0 0 ⟨#[]⟩) ?_) | fail)
    exact bodyPost_ret (res16 _ _ w.heap.size 34 0 0 0 ⟨#[]⟩ _ rfl (setRow_heap _ _ _ _ _ _ eg)) rfl ⟨by unfold fin4; rw [if_neg hb]; rfl, S6.out.fin _⟩
set_option maxRecDepth 100000 in
set_option maxHeartbeats 2000000 in
theorem read_5 (w : World) (h : RD w 69 r a cap L s) (hN : NamesAt 0 w) (hT : Tabs w) (hr4 : 4 ≤ r) (s1 : St) (hB : rByte L s = (5, s1)) :
    Calls Tryd.prog 16 #[.pointer (some ⟨r, 0, none⟩)] w fun e w' => e = .returned (fin4 (rRaw L 1000 s1).2 5 (0) (0) ⟨(rRaw L 1000 s1).1.toArray⟩) ∧ On w w' 69 r a cap L (rRaw L 1000 s1).2 := by
  have hRD := h.below (bel_box w Z34 34)
  have H1 := Hid.mk' (rat_any _ hRD)
  have H2 := Hid.mk' (byte_any _ hRD)
  rw [hB] at H2
  have HST := Hid.mk' (fun (w1 : World) (o : On (w.alloc (.cells Z34 34)) w1 69 r a cap L s1) => ST.start h o 5 0 0 ⟨#[]⟩)
  have HN : Hid (∀ wx, Fr r w wx → Calls Tryd.prog 52 #[.int .u8 5] wx fun e w' => e = .returned (.string ⟨#[98, 121, 116, 101, 115]⟩) ∧ w' = wx) := fun wx hx => name_any 5 wx (by decide) (hN.fr hx hr4)
  have HTB := Hid.mk' (fun (wx : World) (hx : Fr r w wx) => hT.fr hx hr4)
  have HFT := Hid.mk' (fun (wx : World) (hx : RD wx 69 r a cap L (rRaw L 1000 s1).2) => fault_any wx hx)
  have HC := Hid.mk' (fun (wx : World) (hx : RD wx 69 r a cap L s1) => raw_any 1000 (by decide) wx hx)
  generalize rRaw L 1000 s1 = q at *
  obtain ⟨x, s2⟩ := q
  simp only at HC HFT ⊢
  clear h hRD hN hT hB
  go_enter Tryd.func16, Tryd.ntmps16
  go_wp2_with fail
  refine H1.out.mono ?_
  rintro e wA ⟨rfl, hwA⟩
  subst hwA
  go_wp2_with fail
  refine H2.out.mono ?_
  rintro e w1 ⟨rfl, ho⟩
  have S2 := Hid.mk' (HST.out w1 ho)
  have p1 : (w1.alloc (.cells Z34 34)).heap[w1.heap.size]? = some (.cells Z34 34 (0, 0)) := heap_alloc_new _ _
  have c0 := S2.out.c0
  clear ho H1 H2 HST
  go_wp2_with (first | (refine wpList_store_row rfl 34 (.tmp 4) (.tmp 11) rfl w1.heap.size #[.int .u8 5, .int .i64 0, .float .f64 0, .string ⟨#[]⟩] rfl rfl 34 _ p1 (inf34 _ _ _ _) rfl (one34 _ _ _ _) ?_) | fail)
  have RD2 := S2.out.rd
  refine (HC.out _ RD2).mono ?_
  rintro e w3 ⟨vx, bx, rfl, ow, ho⟩
  have cv := own_string ow
  have S3 := Hid.mk' (S2.out.on ho)
  clear ho RD2 c0 S2 p1
  have c0 := S3.out.c0
  have c1 := S3.out.c1
  have c2 := S3.out.c2
  have c3 := S3.out.c3
  have f1 := S3.out.fz 3
  have S4 := Hid.mk' (S3.out.set3 ⟨x.toArray⟩)
  have d0 := S4.out.c0
  go_wp2_with fail
  refine (HN.out _ S4.out.fr).mono ?_
  rintro e w5 ⟨rfl, hw5⟩
  subst hw5
  go_wp2_with fail
  refine (HFT.out _ S4.out.rd).mono ?_
  rintro e w6 ⟨rfl, m, hw6⟩
  have S6 : Hid (ST w w6 69 r a cap L s2 w1.heap.size 5 0 0 ⟨x.toArray⟩) := by show ST _ _ _ _ _ _ _ _ _ _ _ _ _; rw [hw6]; exact S4.out.drew m
  clear hw6 S4 S3 c0 c1 c2 c3 d0
  have e0 := S6.out.c0
  have e1 := S6.out.c1
  have e2 := S6.out.c2
  have e3 := S6.out.c3
  have eg := S6.out.hg
  by_cases hb : s2.bad = 0
  · have hb' : (s2.bad != 0) = false := by simp [hb]
    go_wp2_with (first | (refine wpList_store_row rfl 34 (.tmp 2) (.tmp 62) rfl w.heap.size #[.int .u8 5, .int .i64 0, .float .f64 0, .string ⟨x.toArray⟩] rfl rfl 34 _ eg (inf34 _ _ _ _) rfl (one34 _ _ _ _) ?_) | fail)
    exact bodyPost_ret (res16 _ _ w.heap.size 34 5 0 0 ⟨x.toArray⟩ _ rfl (setRow_heap _ _ _ _ _ _ eg)) rfl ⟨by unfold fin4; rw [if_pos hb]; rfl, S6.out.fin _⟩
  · have hb' : (s2.bad != 0) = true := by simp [hb]
    go_wp2_with (first | (refine wpList_store_row rfl 34 (.tmp 2) (.tmp 61) rfl w.heap.size Z34 rfl rfl 34 _ eg (inf34 0 0 0 ⟨#[]⟩) rfl (one34 0 0 0 ⟨#[]⟩) ?_) | fail)
    exact bodyPost_ret (res16 _ _ w.heap.size 34 0 0 0 ⟨#[]⟩ _ rfl (setRow_heap _ _ _ _ _ _ eg)) rfl ⟨by unfold fin4; rw [if_neg hb]; rfl, S6.out.fin _⟩

end Go.Proofs.YtkinjcblngkeiaaDoor
