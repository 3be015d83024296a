import Derived.Test.YtldlljobofnmmabDoorRgm0
namespace Go.Proofs.YtldlljobofnmmabDoor
open Go.RowKit
set_option linter.unusedVariables false
set_option linter.unusedSimpArgs false

/-- Who a Regs' blocks are. -/
def Rs.all (s : Rs) (j : Nat) : Prop := j ∈ s.bl ∨ ∃ q ∈ s.P, q.2.1.ownBlock = some j
theorem RgM.other {w : World} {base : Nat} {s : Rs} (h : RgM w base s) {j : Nat} {c : Array Value} {t : TypeId} {fr : Nat × Nat} (hj : w.heap[j]? = some (.cells c t fr)) (h1 : t ≠ 69) (h2 : t ≠ 65) : ¬ s.all j := by
  rintro (hm | ⟨q, hq, e⟩)
  · rcases List.mem_cons.1 hm with rfl | hm
    · have := h.cell; rw [hj] at this; injection this with this; injection this with _ e _; exact h1 e
    rcases List.mem_cons.1 hm with rfl | hm
    · obtain ⟨⟨es, cl, q1, _⟩, _⟩ := h.pl; rw [hj] at q1; cases q1
    rcases List.mem_cons.1 hm with rfl | hm
    · obtain ⟨⟨es, cl, q1, _⟩, _⟩ := h.kl; rw [hj] at q1; cases q1
    · obtain ⟨r, hr, rfl⟩ := List.mem_map.1 hm
      obtain ⟨⟨es, cl, q1, _⟩, _⟩ := h.kr r hr
      rw [hj] at q1; cases q1
  · obtain ⟨_, cc, hc⟩ := (h.en q hq).1.cells e
    rw [hj] at hc; injection hc with hc; injection hc with _ e2 _; exact h2 e2
theorem RgM.allLt {w : World} {base : Nat} {s : Rs} (h : RgM w base s) {j : Nat} (hj : s.all j) : j < w.heap.size := by
  rcases hj with hm | ⟨q, hq, e⟩
  · exact h.lt j hm
  · exact (h.en q hq).1.lt e
theorem RgM.allLo {w : World} {base : Nat} {s : Rs} (h : RgM w base s) {j : Nat} (hj : s.all j) : base ≤ j := by
  rcases hj with hm | ⟨q, hq, e⟩
  · exact h.lo j hm
  · exact ((h.en q hq).1.cells e).1
/-- A Regs with another last step. -/
theorem RgM.setLast {w w' : World} {base : Nat} {s : Rs} (h : RgM w base s) {la : Option Addr} (hc : w'.heap[s.r]? = some (.cells #[.map (some s.bp), .map (some s.bk), .pointer la] 69 (0, 0))) (hw : ∀ j, j < w.heap.size → j ≠ s.r → w'.heap[j]? = w.heap[j]?) : RgM w' base { s with last := la } := by
  have old : ∀ j ∈ s.bl, j ≠ s.r → w'.heap[j]? = w.heap[j]? := fun j hj hn => hw j (h.lt j hj) hn
  refine ⟨hc, h.pl.below (old _ (by simp [Rs.bl]) (Ne.symm h.tbl.1)), h.kl.below (old _ (by simp [Rs.bl]) (Ne.symm h.tbl.2.1)), fun r hr => (h.kr r hr).below (old _ (Rs.row_bl hr) (h.bne hr).1), fun q hq => ⟨(h.en q hq).1.keep (fun k hk => hw k ((h.en q hq).1.lt hk) (fun e => h.apart hq hk (by rw [e]; simp [Rs.bl]))), (h.en q hq).2⟩, h.dis, h.ead, h.lo⟩
theorem ld_bp {w : World} {b : Nat} {p : Option Addr} (h : w.cell? ⟨b, 2, none⟩ = some (.pointer p)) : (Instr.loadAt 27 (.pointer (some ⟨b, 0 + 2, none⟩))).run Tryd.prog w = .ok (.pointer p) w := by go_simp
set_option maxRecDepth 100000 in
set_option maxHeartbeats 4000000 in
/-- step makes a step that was done the last one. -/
theorem step_any {w : World} {base : Nat} {s : Rs} (h : RgM w base s) (F : Nat) (c : Array Value) :
    Calls Tryd.prog 30 #[.pointer (some ⟨s.r, 0, none⟩), .func (.func F) #[] c] w fun e w' => e = .returned (.pointer (some ⟨w.heap.size, 0, none⟩)) ∧ RgM w' base { s with last := some ⟨w.heap.size, 0, none⟩ } ∧ w'.heap[w.heap.size]? = some (.cells #[.pointer s.last, .func (.func F) #[] c] 81 (0, 0)) ∧ Tch (fun j => j = s.r) w w' := by
  have lr : s.r < w.heap.size := h.lt s.r (by simp [Rs.bl])
  have L0 := hidMk (ld_bp h.c2)
  have b1 : Below w.heap.size w (w.alloc (.cells #[.pointer s.last, .func (.func F) #[] c] 81)) := (Below.refl _ _).alloc (Nat.le_refl _) _
  have n1 : (w.alloc (.cells #[.pointer s.last, .func (.func F) #[] c] 81)).heap[w.heap.size]? = some (.cells #[.pointer s.last, .func (.func F) #[] c] 81 (0, 0)) := heap_alloc_new _ _
  have h1 := h.below b1
  obtain ⟨w1, hw1⟩ : ∃ w1, w.alloc (.cells #[.pointer s.last, .func (.func F) #[] c] 81) = w1 := ⟨_, rfl⟩
  rw [hw1] at b1 n1 h1
  have c2 := h1.c2
  have f2 := frozen_of_row w1 s.r 2 _ _ h1.cell
  have ES : (Instr.storeAt 27 (.pointer (some ⟨s.r, 0 + 2, none⟩)) (.pointer (some ⟨w.heap.size, 0, none⟩))).run Tryd.prog w1 = .ok () (w1.setCell ⟨s.r, 2, none⟩ (.pointer (some ⟨w.heap.size, 0, none⟩))) := by go_simp
  have o2 : ∀ j, j ≠ s.r → (w1.setCell ⟨s.r, 2, none⟩ (.pointer (some ⟨w.heap.size, 0, none⟩))).heap[j]? = w1.heap[j]? := fun j hj => Go.heap_setCell_other _ _ _ _ hj
  have hc := Go.heap_setCell_same w1 s.r 2 _ 69 (.pointer (some ⟨w.heap.size, 0, none⟩)) h1.cell
  have z2 : (w1.setCell ⟨s.r, 2, none⟩ (.pointer (some ⟨w.heap.size, 0, none⟩))).heap.size = w1.heap.size := by simp [World.setCell]
  have t2 : Tch (fun j => j = s.r) w1 (w1.setCell ⟨s.r, 2, none⟩ (.pointer (some ⟨w.heap.size, 0, none⟩))) := ⟨rfl, rfl, rfl, by omega, fun j _ hj => o2 j hj⟩
  obtain ⟨w2, hw2⟩ : ∃ w2, w1.setCell ⟨s.r, 2, none⟩ (.pointer (some ⟨w.heap.size, 0, none⟩)) = w2 := ⟨_, rfl⟩
  rw [hw2] at ES o2 hc z2 t2
  have h2 : RgM w2 base { s with last := some ⟨w.heap.size, 0, none⟩ } := h1.setLast hc (fun j _ hj => o2 j hj)
  have c22 := h2.c2
  have E2 := hidMk (ld_bp c22)
  have HES := hidMk ES
  have FN : Hid (RgM w2 base { s with last := some ⟨w.heap.size, 0, none⟩ } ∧ w2.heap[w.heap.size]? = some (.cells #[.pointer s.last, .func (.func F) #[] c] 81 (0, 0)) ∧ Tch (fun j => j = s.r) w w2) := ⟨h2, (o2 _ (by omega)).trans n1, (tch_of b1 _).trans' t2 (fun j _ q => q)⟩
  clear h h1 h2 c2 f2 ES o2 hc z2 t2 n1 b1 hw2 c22
  go_enter Tryd.func30, Tryd.ntmps30
  go_upto_region 1 with fail
  refine step1 (rb := s.r) (F := F) (c := c) (la := s.last) (w2 := w2) _ w _ rfl rfl rfl L0.out (by rw [hw1]; exact HES.out) ?_
  intro a' w' hw' ha
  subst ha
  obtain rfl : w2 = w' := hw'.symm
  simp only [Act.put, List.setIfInBounds_toArray, List.set_cons_zero, List.set_cons_succ]
  clear HES L0 hw1
  go_wp2_with (first
    | (refine wpList_val rfl (exec_load (t := 27) (u := .pointer (some ⟨s.r, 0 + 2, none⟩)) (v := .pointer (some ⟨w.heap.size, 0, none⟩)) rfl rfl E2.out) ?_)
    | (refine wpList_val rfl (exec_load (t := 27) (u := .pointer (some ⟨s.r, 2, none⟩)) (v := .pointer (some ⟨w.heap.size, 0, none⟩)) rfl rfl E2.out) ?_)
    | fail)
  go_ret
  exact ⟨rfl, FN.out⟩
/-- What an op had seen: a function value, or nil. -/
def Seen (w : World) (fv : Value) (sn : IdK → Bool) : Prop := (fv = .nilFunc ∧ ∀ k, sn k = false) ∨ ∃ F caps, fv = .func (.func F) #[] caps ∧ Tells w F caps sn
theorem Seen.below {w w' : World} {fv : Value} {sn : IdK → Bool} (h : Seen w fv sn) (b : Below w.heap.size w w') : Seen w' fv sn := by
  rcases h with h | ⟨F, c, e, t⟩
  · exact .inl h
  · exact .inr ⟨F, c, e, t.below b⟩
theorem had_none {sn : EnV → Bool} (h : ∀ x, sn x = false) : ∀ (L : List EnV) (i : Nat), Rg.hadI sn i L = []
  | [], _ => rfl
  | x :: L, i => by
    unfold Rg.hadI
    rw [if_neg (by rw [h x]; decide)]
    exact had_none h L (i + 1)
theorem had_seen {w : World} {base : Nat} {lv : Value} {L : List EnV} (hL : RN.Lo w base lv L) (ok : ∀ x ∈ L, x.ok) (hn : L.length ≤ 2500000000000) {fv : Value} {sn : IdK → Bool} (hs : Seen w fv sn) :
    Calls Tryd.prog 27 #[lv, fv] w fun e w' => ∃ tv, e = .returned tv ∧ RD.Own w' w.heap.size tv (Rg.hadI (fun x => sn x.id) 0 L) ∧ Below w.heap.size w w' := by
  rcases hs with ⟨rfl, h⟩ | ⟨F, caps, rfl, T⟩
  · refine (had_nil lv w).mono ?_
    rintro e w' ⟨rfl, rfl⟩
    refine ⟨_, rfl, ?_, Below.refl _ _⟩
    rw [had_none (fun x => h x.id)]
    exact RowT.own_nil RD w' w'.heap.size
  · obtain ⟨a, c, rfl, hat, _⟩ := hL.open RN_is ok
    exact had_any hat ok hn T
/-- A list less those taken, whether there are any or not. -/
theorem without_all {w : World} {base : Nat} {lv : Value} {L : List EnV} {sn : EnV → Bool} (hL : RN.Lo w base lv L) (ok : ∀ x ∈ L, x.ok) (hn : L.length ≤ 2500000000000) {tv : Value} {b2 : Nat} (hT : RD.Lo w b2 tv (Rg.hadI sn 0 L)) (hb : base ≤ w.heap.size) :
    Calls Tryd.prog 29 #[lv, tv] w fun e w' => ∃ v, e = .returned v ∧ RN.Lo w' base v (Rg.res sn L) ∧ Below w.heap.size w w' ∧ (v = lv ∧ Rg.res sn L = L ∨ ∀ k, v.ownBlock = some k → w.heap.size ≤ k) := by
  have okT : ∀ t ∈ Rg.hadI sn 0 L, RD.ok t := fun t ht => by
    obtain ⟨h1, h2, _⟩ := Rg.hadI_mem sn ht
    have hm := List.mem_of_getElem? h2
    have hl := (List.getElem?_eq_some_iff.1 h2).1
    exact ⟨ok _ hm, by omega⟩
  obtain ⟨a, c, rfl, hat, hc, hcm, _⟩ := hL.open RN_is ok
  obtain ⟨ta, tc, rfl, tat, _⟩ := hT.open RD_is okT
  by_cases hne : Rg.hadI sn 0 L = []
  · have e := Rg.res_nil sn hne
    rw [hne]
    refine (without_nil a ta L.length c tc w).mono ?_
    rintro e' w' ⟨rfl, rfl⟩
    exact ⟨_, rfl, by rw [e]; exact hL, Below.refl _ _, .inl ⟨rfl, e⟩⟩
  · refine (without_any hat hc ok hn tat okT rfl hne).mono ?_
    rintro e' w' ⟨v, rfl, o, b⟩
    exact ⟨v, rfl, (o.lo).mono hb, b, .inr (fun k hk => (o.cells hk).1)⟩
theorem with_all {w : World} {base : Nat} {lv : Value} {L : List EnV} {sn : EnV → Bool} (hL : RN.Lo w base lv (Rg.res sn L)) (ok : ∀ x ∈ L, x.ok) (hn : L.length ≤ 2500000000000) {tv : Value} {b2 : Nat} (hT : RD.Lo w b2 tv (Rg.hadI sn 0 L)) (hb : base ≤ w.heap.size) :
    Calls Tryd.prog 32 #[lv, tv] w fun e w' => ∃ v, e = .returned v ∧ RN.Lo w' base v L ∧ Below w.heap.size w w' ∧ (v = lv ∨ ∀ k, v.ownBlock = some k → w.heap.size ≤ k) := by
  have okT : ∀ t ∈ Rg.hadI sn 0 L, RD.ok t := fun t ht => by
    obtain ⟨h1, h2, _⟩ := Rg.hadI_mem sn ht
    have hm := List.mem_of_getElem? h2
    have hl := (List.getElem?_eq_some_iff.1 h2).1
    exact ⟨ok _ hm, by omega⟩
  have okR : ∀ x ∈ Rg.res sn L, x.ok := fun x hx => ok x (List.mem_filter.1 hx).1
  obtain ⟨a, c, rfl, hat, hc, hcm, _⟩ := hL.open RN_is okR
  obtain ⟨ta, tc, rfl, tat, _⟩ := hT.open RD_is okT
  by_cases hne : Rg.hadI sn 0 L = []
  · have e := Rg.res_nil sn hne
    rw [hne]
    refine (with_nil a ta _ c tc w).mono ?_
    rintro e' w' ⟨rfl, rfl⟩
    refine ⟨_, rfl, ?_, Below.refl _ _, .inl rfl⟩
    have := hL
    rw [e] at this
    rw [e]
    exact this
  · refine (with_any hat hc okR tat okT (Rg.wi_ok_all sn L) hne (by have := Rg.res_len sn L 0; omega)).mono ?_
    rintro e' w' ⟨v, rfl, o, b⟩
    rw [Rg.wi_all] at o
    exact ⟨v, rfl, (o.lo).mono hb, b, .inr (fun k hk => (o.cells hk).1)⟩
theorem changed_all {w : World} {base : Nat} {lv : Value} {L M : List EnV} {sn : EnV → Bool} (hL : RN.Lo w base lv M) (ok : ∀ x ∈ M, x.ok) (okL : ∀ x ∈ L, x.ok) (hln : M.length = L.length) (hn : L.length ≤ 2500000000000) {tv : Value} {b2 : Nat} (hT : RD.Lo w b2 tv (Rg.hadI sn 0 L)) (hb : base ≤ w.heap.size) {F : Nat} {caps : Array Value} {gv : VaV → VaV} (hG : Turns w F caps gv) :
    Calls Tryd.prog 34 #[lv, tv, .func (.func F) #[] caps] w fun e w' => ∃ v, e = .returned v ∧ RN.Lo w' base v (Rg.ch (chg gv) M (Rg.hadI sn 0 L)) ∧ Below w.heap.size w w' ∧ (v = lv ∨ ∀ k, v.ownBlock = some k → w.heap.size ≤ k) := by
  have okT : ∀ t ∈ Rg.hadI sn 0 L, RD.ok t := fun t ht => by
    obtain ⟨h1, h2, _⟩ := Rg.hadI_mem sn ht
    have hm := List.mem_of_getElem? h2
    have hl := (List.getElem?_eq_some_iff.1 h2).1
    exact ⟨okL _ hm, by omega⟩
  have hlt : ∀ t ∈ Rg.hadI sn 0 L, t.1 < M.length := fun t ht => by
    obtain ⟨h1, h2, _⟩ := Rg.hadI_mem sn ht
    have hl := (List.getElem?_eq_some_iff.1 h2).1
    omega
  obtain ⟨ta, tc, rfl, tat, _⟩ := hT.open RD_is okT
  by_cases hne : Rg.hadI sn 0 L = []
  · obtain ⟨a, c, rfl, hat, hc, hcm, _⟩ := hL.open RN_is ok
    rw [hne]
    refine (changed_nil a ta _ c tc _ w).mono ?_
    rintro e' w' ⟨rfl, rfl⟩
    exact ⟨_, rfl, hL, Below.refl _ _, .inl rfl⟩
  · refine (changed_any hL ok (by omega) tat okT hlt (by have := Rg.hadI_len sn L 0; omega) hne hG).mono ?_
    rintro e' w' ⟨v, rfl, o, b⟩
    exact ⟨v, rfl, (o.lo).mono hb, b, .inr (fun k hk => (o.cells hk).1)⟩
end Go.Proofs.YtldlljobofnmmabDoor
