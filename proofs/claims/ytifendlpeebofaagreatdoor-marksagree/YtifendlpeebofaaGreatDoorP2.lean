import Derived.Test.YtifendlpeebofaaGreatDoorP1
import Derived.Laws.ResultCell
import Derived.Laws.MakeOwn
import Derived.Shelf.Abstract
import Derived.Test.YtifendlpeebofaaGreatDoorP0
import Derived.Test.YtifendlpeebofaaGreatDoorRows
import Derived.WalkKit
import Derived.WalkSpells
import Derived.WalkLawsBesides
import Derived.Deep.QuietTactic
import Derived.BigQuiet
import Derived.Below
import Derived.Laws.Externs
import Derived.Lib.ValidLaws
import Derived.Lib.ValidAsc
import Derived.Ground.NamesProg
import Derived.Shelf.Unicode.ValidAny
import Ieee.Arith
import Derived.Laws.BitsAllLaws
set_option linter.unusedSimpArgs false
set_option linter.unusedVariables false
set_option maxRecDepth 100000
set_option maxHeartbeats 4000000
set_option maxRecDepth 100000
set_option maxHeartbeats 4000000
namespace Go.Proofs.YtifendlpeebofaaGreatDoor
open Go.RowKit Sq
theorem IdAt.below {w w' : World} {b : Nat} {k : IdK} (h : IdAt w b k) (hb : Below w.heap.size w w') : IdAt w' b k := (hb.block b (Array.getElem?_eq_some_iff.1 h).1).trans h
theorem IdAt.lt {w : World} {b : Nat} {k : IdK} (h : IdAt w b k) : b < w.heap.size := (Array.getElem?_eq_some_iff.1 h).1
theorem id_new (w : World) (k : IdK) : IdAt (w.alloc (.cells k.c.toArray 36)) w.heap.size k := heap_alloc_new _ _
section
variable {w : World} {s : Sx} {E : List Elt}
theorem has_any (h : SeqAt w s E) {k : IdK} (hk : k.ok) : Calls Tryz.prog 47 #[.pointer (some ⟨s.sb, 0, none⟩), k.v] w fun e w' => e = .returned (.bool (hasE E k)) ∧ Below w.heap.size w w' := by
  have bx : Below w.heap.size w (w.alloc (.cells k.c.toArray 36)) := (Below.refl _ _).alloc (Nat.le_refl _) _
  have hx := id_new w k
  have hr := h.lk.spot_has k
  unfold IdK.v
  go_enter Tryz.func47, Tryz.ntmps47
  go_upto_region 1 with fail
  generalize w.alloc (.cells k.c.toArray 36) = wx at *
  refine has1 (r := hasE E k) _ _ _ rfl rfl rfl (h.below bx) hk hx rfl hr ?_
  intro a' w1 hw ha
  subst ha
  obtain rfl : w1 = wx.drew := hw
  simp only [Act.put, qsA, qsB, qsC]
  go_wp2
  go_ret
  exact ⟨rfl, bx.trans ((Below.refl _ _).drew)⟩
theorem element_any {i : Nat} (h : SqAt w s.sb 1 s.g s.cap s.L) (hi : i < s.L.length) : Calls Tryz.prog 48 #[.pointer (some ⟨s.sb, 0, none⟩), .int .i64 (i : Int)] w fun e w' => e = .returned (.pointer (some ⟨s.g, 73 * i + 0, none⟩)) ∧ w' = w := by
  go_enter Tryz.func48, Tryz.ntmps48
  go_upto_region 1 with fail
  refine elem1 _ _ _ rfl rfl rfl h hi ?_
  intro a' w1 hw ha
  subst ha
  obtain rfl : w1 = w := hw
  simp only [Act.put, qsA, qsB, qsC]
  go_wp2
  go_ret
  exact ⟨rfl, rfl⟩
def cE (c : Bool) (e : Elt) : Bool := !c || e.sh
def visE (E : List Elt) (c : Bool) : List Elt := E.filter (cE c)
theorem vis_map (L : List Sp) (c : Bool) (l : List Nat) : (l.filter (cq L c)).map (eltAt L) = (l.map (eltAt L)).filter (cE c) := by
  rw [List.filter_map]
  congr 1
theorem Lk.vis (h : Lk s E) (c : Bool) : (vis s.L c s.t).map (eltAt s.L) = visE E c := by
  unfold visE
  rw [h.e, elts, ← vis_map]
  rfl
theorem Lk.cnt (h : Lk s E) (c : Bool) : cnt s.L c s.t = (visE E c).length := by
  rw [← h.vis c, List.length_map]
  unfold Go.Proofs.YtifendlpeebofaaGreatDoor.vis
  rw [cnt_cq, List.countP_eq_length_filter]
theorem smany_any (h : SeqAt w s E) (c : Bool) : Calls Tryz.prog 100 #[.pointer (some ⟨s.sb, 0, none⟩), .int .i64 (nb c : Int)] w fun e w' => e = .returned (.int .i64 ((visE E c).length : Int)) ∧ Below w.heap.size w w' := by
  have HM := hidMk (rmany_any h.row h.lk.good c)
  rw [h.lk.cnt c] at HM
  go_enter Tryz.func100, Tryz.ntmps100
  go_upto_region 3 with fail
  refine smany3 (fun w' => Qt w w') _ _ _ rfl rfl rfl HM.out ?_
  intro a' w1 hw ha
  subst ha
  simp only [Act.put, qsA, qsB, qsC]
  go_wp2
  go_ret
  exact ⟨rfl, hw.below _⟩
def aheadE (E : List Elt) (c : Bool) (k : IdK) : Int := if hasE E k = true then ((E.takeWhile (fun e => !decide (e.id = k))).countP (cE c) : Int) else -1
theorem takeWhile_mid {α : Type} {A B : List α} {x : α} {p : α → Bool} (h : ∀ y ∈ A, p y = true) (hx : p x = false) : (A ++ x :: B).takeWhile p = A := by
  induction A with
  | nil => simp [List.takeWhile_cons, hx]
  | cons a A ih => rw [List.cons_append, List.takeWhile_cons, h a (by simp)]; simp [ih (fun y hy => h y (by simp [hy]))]
theorem Lk.split (h : Lk s E) {k : IdK} (hk : hasE E k = true) : ∃ A B, s.t.ids = A ++ spotOf s k :: B ∧ E.takeWhile (fun e => !decide (e.id = k)) = A.map (eltAt s.L) := by
  obtain ⟨h1, h2⟩ := h.spot hk
  obtain ⟨A, B, e⟩ := List.append_of_mem h1
  refine ⟨A, B, e, ?_⟩
  rw [h.e, elts, e, List.map_append, List.map_cons]
  refine takeWhile_mid (fun y hy => ?_) ?_
  · obtain ⟨x, hx, rfl⟩ := List.mem_map.1 hy
    have hxm : x ∈ s.t.ids := by rw [e]; simp [hx]
    have : (eltAt s.L x).id ≠ k := fun q => by
      have := h.inj hxm h1 (q.trans h2.symm)
      subst this
      have nd := h.good.nodup
      rw [e, List.nodup_append] at nd
      exact nd.2.2 _ hx _ (by simp) rfl
    rw [decide_eq_false this]; rfl
  · rw [decide_eq_true (show (eltAt s.L (spotOf s k)).id = k from h2)]; rfl
theorem sahead_any (h : SeqAt w s E) {k : IdK} (hk : k.ok) (c : Bool) : Calls Tryz.prog 76 #[.pointer (some ⟨s.sb, 0, none⟩), k.v, .int .i64 (nb c : Int)] w fun e w' => e = .returned (.int .i64 (aheadE E c k)) ∧ Below w.heap.size w w' := by
  have bx : Below w.heap.size w (w.alloc (.cells k.c.toArray 36)) := (Below.refl _ _).alloc (Nat.le_refl _) _
  have hx := id_new w k
  have HA : Hid (∀ W, SeqAt W s E → Calls Tryz.prog 47 #[.pointer (some ⟨s.sb, 0, none⟩), k.v] W fun e w' => e = .returned (.bool (hasE E k)) ∧ Below W.heap.size W w') := fun W hW => has_any hW hk
  have HE : Hid (aheadE E c k = if hasE E k = true then ((E.takeWhile (fun e => !decide (e.id = k))).countP (cE c) : Int) else -1) := rfl
  show Calls Tryz.prog 76 #[.pointer (some ⟨s.sb, 0, none⟩), .agg k.c.toArray, .int .i64 (nb c : Int)] w _
  generalize aheadE E c k = res at *
  go_enter Tryz.func76, Tryz.ntmps76
  go_upto_region 1 with fail
  generalize w.alloc (.cells k.c.toArray 36) = wx at *
  have h1 := h.below bx
  refine ah1 (k := k) (r := hasE E k) _ _ _ rfl rfl rfl hk hx (HA.out _ h1) ?_
  intro a' w1 hw ha
  subst ha
  have h2 := h1.below hw
  have hx2 := hx.below hw
  have b2 := bx.trans (hw.mono bx.size)
  simp only [Act.put, qsA, qsB, qsC]
  cases hq : hasE E k with
  | false =>
    have hres := HE.out
    rw [hq] at hres
    simp only [Bool.false_eq_true, if_false] at hres
    subst hres
    clear HE hq HA
    go_wp2
    go_ret
    exact ⟨rfl, b2⟩
  | true =>
    obtain ⟨A, B, e1, e2⟩ := h.lk.split hq
    have hres : res = (A.countP (cq s.L c) : Int) := by
      rw [HE.out, if_pos hq, e2, List.countP_map]
      rfl
    have HR := hidMk (rahead_any c h2.row.drew h.lk.good e1)
    clear HE HA e2 hq
    go_upto_region 3 with fail
    refine ah3 (E := E) (k := k) (n := A.countP (cq s.L c)) _ _ _ rfl rfl rfl rfl h2 hk hx2 rfl (HR.out.mono ?_) ?_
    · rintro e w' ⟨rfl, q⟩
      exact ⟨rfl, h2.drew.qt q, (show w'.heap[_]? = _ by rw [q.heap]; exact hx2), (Qt.drew w1).trans q⟩
    intro a' w3 hw3 ha
    subst ha
    simp only [Act.put, qsA, qsB, qsC]
    subst hres
    clear HR e1
    go_wp2
    go_ret
    exact ⟨rfl, b2.trans (hw3.below _)⟩
theorem rank_any (h : SeqAt w s E) {k : IdK} (hk : k.ok) : Calls Tryz.prog 54 #[.pointer (some ⟨s.sb, 0, none⟩), k.v] w fun e w' => e = .returned (.int .i64 (aheadE E false k)) ∧ Below w.heap.size w w' := by
  have bx : Below w.heap.size w (w.alloc (.cells k.c.toArray 36)) := (Below.refl _ _).alloc (Nat.le_refl _) _
  have hx := id_new w k
  have HA : Hid (∀ W, SeqAt W s E → Calls Tryz.prog 76 #[.pointer (some ⟨s.sb, 0, none⟩), k.v, .int .i64 0] W fun e w' => e = .returned (.int .i64 (aheadE E false k)) ∧ Below W.heap.size W w') := fun W hW => sahead_any hW hk false
  show Calls Tryz.prog 54 #[.pointer (some ⟨s.sb, 0, none⟩), .agg k.c.toArray] w _
  go_enter Tryz.func54, Tryz.ntmps54
  go_upto_region 1 with fail
  generalize w.alloc (.cells k.c.toArray 36) = wx at *
  have h1 := h.below bx
  have HL := hidMk (load_id hk hx)
  clear hx
  go_wp2_with (first
    | (refine wload wx rfl rfl rfl HL.out rfl ?_)
    | (go_at_call 76; refine (HA.out _ h1).mono ?_; rintro e w' ⟨rfl, hb⟩)
    | fail)
  go_ret
  exact ⟨rfl, bx.trans (hb.mono bx.size)⟩
theorem index_any (h : SeqAt w s E) {k : IdK} (hk : k.ok) : Calls Tryz.prog 78 #[.pointer (some ⟨s.sb, 0, none⟩), k.v] w fun e w' => e = .returned (.int .i64 (aheadE E true k)) ∧ Below w.heap.size w w' := by
  have bx : Below w.heap.size w (w.alloc (.cells k.c.toArray 36)) := (Below.refl _ _).alloc (Nat.le_refl _) _
  have hx := id_new w k
  have HA : Hid (∀ W, SeqAt W s E → Calls Tryz.prog 76 #[.pointer (some ⟨s.sb, 0, none⟩), k.v, .int .i64 1] W fun e w' => e = .returned (.int .i64 (aheadE E true k)) ∧ Below W.heap.size W w') := fun W hW => sahead_any hW hk true
  show Calls Tryz.prog 78 #[.pointer (some ⟨s.sb, 0, none⟩), .agg k.c.toArray] w _
  go_enter Tryz.func78, Tryz.ntmps78
  go_upto_region 1 with fail
  generalize w.alloc (.cells k.c.toArray 36) = wx at *
  have h1 := h.below bx
  have HL := hidMk (load_id hk hx)
  clear hx
  go_wp2_with (first
    | (refine wload wx rfl rfl rfl HL.out rfl ?_)
    | (go_at_call 76; refine (HA.out _ h1).mono ?_; rintro e w' ⟨rfl, hb⟩)
    | fail)
  go_ret
  exact ⟨rfl, bx.trans (hb.mono bx.size)⟩
theorem len_any (h : SeqAt w s E) : Calls Tryz.prog 103 #[.pointer (some ⟨s.sb, 0, none⟩)] w fun e w' => e = .returned (.int .i64 ((visE E false).length : Int)) ∧ Below w.heap.size w w' := by
  have HA : Hid (Calls Tryz.prog 100 #[.pointer (some ⟨s.sb, 0, none⟩), .int .i64 0] w fun e w' => e = .returned (.int .i64 ((visE E false).length : Int)) ∧ Below w.heap.size w w') := smany_any h false
  go_enter Tryz.func103, Tryz.ntmps103
  go_wp2_with (first
    | (go_at_call 100; refine HA.out.mono ?_; rintro e w' ⟨rfl, hb⟩)
    | fail)
  go_ret
  exact ⟨rfl, hb⟩
theorem shown_any (h : SeqAt w s E) : Calls Tryz.prog 79 #[.pointer (some ⟨s.sb, 0, none⟩)] w fun e w' => e = .returned (.int .i64 ((visE E true).length : Int)) ∧ Below w.heap.size w w' := by
  have HA : Hid (Calls Tryz.prog 100 #[.pointer (some ⟨s.sb, 0, none⟩), .int .i64 1] w fun e w' => e = .returned (.int .i64 ((visE E true).length : Int)) ∧ Below w.heap.size w w') := smany_any h true
  go_enter Tryz.func79, Tryz.ntmps79
  go_wp2_with (first
    | (go_at_call 100; refine HA.out.mono ?_; rintro e w' ⟨rfl, hb⟩)
    | fail)
  go_ret
  exact ⟨rfl, hb⟩
end
theorem results_c2 {P : Program} {fn : Func} {a b : Nat} {t : TypeId} (h : fn.results = #[.cell a t, .tmp b]) {tmps : Array Value} {w : World} {p : Addr} {v : Value} (ha : tmps.getD a undef = .pointer (some p)) (hl : (loadVar t p).run P w = .ok v w) :
    (results fn tmps).run P w = .ok (.tuple #[v, tmps.getD b undef]) w := by
  rw [Array.getD_eq_getD_getElem?] at ha
  simp [results, h, asAddr, ha, hl, Array.mapM_eq_mapM_toList, Result.andThen]
theorem loadVar_id {w : World} {b : Nat} {k : IdK} (hk : k.ok) (h : IdAt w b k) : (loadVar 36 ⟨b, 0, none⟩).run Tryz.prog w = .ok k.v w :=
  run_loadVar_mid (P := Tryz.prog) w b 0 36 k.c _ (cells_range h) Tryz.underlying36 rfl (by rw [IdK.len hk]; exact szId)
theorem zeroId (w : World) : (zeroValue 36).run Tryz.prog w = .ok zId.v w := by kernel_rfl
theorem id_zero (w : World) : (Instr.alloc 36 true (.tuple #[])).run Tryz.prog w = .ok (.pointer (some ⟨w.heap.size, 0, none⟩)) (w.alloc (.cells zId.c.toArray 36)) := by
  simp only [Instr.alloc, newVar, newRow, newObj, Sem.run_bind, zeroId, Result.andThen_ok, IdK.v, Value.cells]
  rfl
theorem store_id {w : World} {b : Nat} {x u : IdK} (hx : x.ok) (hu : u.ok) (h : IdAt w b x) : (Instr.storeAt 36 (.pointer (some ⟨b, 0, none⟩)) u.v).run Tryz.prog w = .ok () (w.setRow b u.c.toArray) := by
  have e2 := run_storeVar_row (P := Tryz.prog) w b 36 36 x.c.toArray u.c.toArray h (by rw [List.size_toArray, IdK.len hu]; exact szId)
    (by rw [List.size_toArray, List.size_toArray, IdK.len hu, IdK.len hx]) (by rw [List.all_toArray, List.all_eq_true]; exact u.one)
  simp only [Instr.storeAt, Instr.sureAddr, Sem.run_bind, Sem.run_pure, Result.andThen_ok, IdK.v, e2]
theorem IdAt.set {w : World} {b : Nat} {x : IdK} (u : IdK) (h : IdAt w b x) : IdAt (w.setRow b u.c.toArray) b u := setRow_heap w b _ _ _ _ h
theorem two_boxes (w : World) (k u : IdK) : IdAt ((w.alloc (.cells k.c.toArray 36)).alloc (.cells u.c.toArray 36)) w.heap.size k ∧ IdAt ((w.alloc (.cells k.c.toArray 36)).alloc (.cells u.c.toArray 36)) (w.heap.size + 1) u ∧
    Below w.heap.size w ((w.alloc (.cells k.c.toArray 36)).alloc (.cells u.c.toArray 36)) ∧ ((w.alloc (.cells k.c.toArray 36)).alloc (.cells u.c.toArray 36)).heap.size = w.heap.size + 2 := by
  have z : (w.alloc (.cells k.c.toArray 36)).heap.size = w.heap.size + 1 := by simp
  refine ⟨?_, ?_, ((Below.refl _ _).alloc (Nat.le_refl _) _).alloc (by simp) _, by simp⟩
  · unfold IdAt
    rw [Below.heap_alloc _ _ _ (by rw [z]; omega)]
    exact heap_alloc_new _ _
  · unfold IdAt
    rw [← z]
    exact heap_alloc_new _ _
theorem set_below {w : World} {b n : Nat} (cs : Array Value) (hn : n ≤ w.heap.size) (hb : n ≤ b) : Below n w (w.setRow b cs) := (setRow_tch w b cs).below hn (fun j e => by simp at e; omega)
def nthE (E : List Elt) (c : Bool) (m : Int) : IdK × Bool := if 0 ≤ m ∧ m < ((visE E c).length : Int) then (((visE E c).map (·.id)).getD m.toNat zId, true) else (zId, false)
section
variable {w : World} {s : Sx} {E : List Elt}
theorem lk_nth (h : Lk s E) (c : Bool) (m : Int) : (nth (vis s.L c s.t) m = 0 ∧ nthE E c m = (zId, false)) ∨ (nth (vis s.L c s.t) m ∈ s.t.ids ∧ nthE E c m = ((gt s.L (nth (vis s.L c s.t) m)).kp.id, true)) := by
  have hv := h.vis c
  obtain ⟨V, hV⟩ : ∃ V, Go.Proofs.YtifendlpeebofaaGreatDoor.vis s.L c s.t = V := ⟨_, rfl⟩
  have hs : ∀ x ∈ V, x ∈ s.t.ids := fun x hx => by rw [← hV] at hx; exact (List.mem_filter.1 hx).1
  rw [hV] at hv ⊢
  have hl : (visE E c).length = V.length := by rw [← hv, List.length_map]
  unfold Go.Proofs.YtifendlpeebofaaGreatDoor.nth nthE
  rw [hl]
  by_cases q : 0 ≤ m ∧ m < (V.length : Int)
  · rw [if_pos q, if_pos q]
    have hm : m.toNat < V.length := by omega
    have e1 : V.getD m.toNat 0 = V[m.toNat] := by rw [List.getD_eq_getElem?_getD, List.getElem?_eq_getElem hm]; rfl
    rw [e1]
    refine .inr ⟨hs _ (List.getElem_mem hm), ?_⟩
    rw [← hv, List.map_map, List.getD_eq_getElem?_getD, List.getElem?_map, List.getElem?_eq_getElem hm]
    rfl
  · rw [if_neg q, if_neg q]
    exact .inl ⟨rfl, rfl⟩
theorem sfind_any (h : SeqAt w s E) (c : Bool) (m : Int) (hm : -9223372036854775808 ≤ m ∧ m ≤ 9223372036854775807) : Calls Tryz.prog 99 #[.pointer (some ⟨s.sb, 0, none⟩), .int .i64 m, .int .i64 (nb c : Int)] w fun e w' => e = .returned (.tuple #[(nthE E c m).1.v, .bool (nthE E c m).2]) ∧ Below w.heap.size w w' := by
  have hr := id_new w zId
  have bx : Below w.heap.size w (w.alloc (.cells zId.c.toArray 36)) := (Below.refl _ _).alloc (Nat.le_refl _) _
  have zx : (w.alloc (.cells zId.c.toArray 36)).heap.size = w.heap.size + 1 := by simp
  have HRF : Hid (∀ W, SeqAt W s E → Calls Tryz.prog 128 #[.pointer (some ⟨s.sb, 1, none⟩), .int .i64 m, .int .i64 (nb c : Int)] W fun e w' => e = .returned (.int .i64 (nth (vis s.L c s.t) m : Int)) ∧ Qt W w') := fun W hW => rfind_any c m hm hW.row hW.lk.good
  have HN := hidMk (lk_nth h.lk c m)
  have HL := hidMk (fun i (hi : i ∈ s.t.ids) => (h.lk.good.lt hi))
  generalize nth (vis s.L c s.t) m = i at *
  generalize nthE E c m = res at *
  go_enter Tryz.func99, Tryz.ntmps99
  go_upto_region 3 with (first
    | (refine wpList_run rfl (exec_alloc (t := 36) rfl (id_zero _)) ?_)
    | fail)
  generalize w.alloc (.cells zId.c.toArray 36) = wx at *
  have ZX := hidMk zx
  clear zx
  have h1 := h.below bx
  refine fi3 (fun w' => Qt wx w') _ _ _ rfl rfl rfl rfl (HRF.out _ h1) ?_
  intro a' w1 hw ha
  subst ha
  have h2 := h1.qt hw
  have hr2 : IdAt w1 w.heap.size zId := by unfold IdAt; rw [hw.heap]; exact hr
  have b2 := bx.trans (hw.below _)
  clear HRF
  simp only [Act.put, qsA, qsB, qsC]
  go_upto_region 4 with fail
  rcases HN.out with ⟨hi0, rfl⟩ | ⟨him, rfl⟩
  · subst hi0
    refine fi4 (i := 0) (r := true) _ _ _ rfl rfl rfl ?_
    intro a' w3 hw3 ha
    subst ha
    obtain rfl : w3 = w1 := hw3
    simp only [Act.put, qsA, qsB, qsC]
    go_upto_region 5 with fail
    refine fi5 _ _ _ rfl rfl (store_id zId_ok zId_ok hr2) ?_
    intro a' w4 hw4 ha
    subst ha
    obtain rfl : w4 = _ := hw4
    simp only [Act.put, qsA, qsB, qsC]
    have hr3 := hr2.set zId
    have b3 : Below w.heap.size w (w3.setRow w.heap.size zId.c.toArray) := b2.trans (set_below _ b2.size (Nat.le_refl _))
    generalize w3.setRow w.heap.size zId.c.toArray = w4 at *
    go_wp2
    refine bodyPost_ret (results_c2 rfl rfl (loadVar_id zId_ok hr3)) rfl ?_
    exact ⟨rfl, b3⟩
  · obtain ⟨hi0, hil⟩ := HL.out i him
    refine fi4 (i := i) (r := false) _ _ _ rfl rfl (by simpa using hi0) ?_
    intro a' w3 hw3 ha
    subst ha
    obtain rfl : w3 = w1 := hw3
    simp only [Act.put, qsA, qsB, qsC]
    go_upto_region 6 with fail
    have ok := (h2.row.ok.gt hil).id
    refine fi6 (E := E) _ _ _ rfl rfl rfl rfl h2 hil (element_any h2.row hil) (store_id zId_ok ok hr2) ?_
    intro a' w4 hw4 ha
    subst ha
    obtain rfl : w4 = _ := hw4
    simp only [Act.put, qsA, qsB, qsC]
    have hr3 := hr2.set (gt s.L i).kp.id
    have b3 : Below w.heap.size w (w3.setRow w.heap.size (gt s.L i).kp.id.c.toArray) := b2.trans (set_below _ b2.size (Nat.le_refl _))
    generalize w3.setRow w.heap.size (gt s.L i).kp.id.c.toArray = w4 at *
    go_wp2
    refine bodyPost_ret (results_c2 rfl rfl (loadVar_id ok hr3)) rfl ?_
    exact ⟨rfl, b3⟩
end
structure Nxt (s : Sx) (w : World) (s' : Sx) (E' : List Elt) (w' : World) : Prop where
  at' : SeqAt w' s' E'
  sb : s'.sb = s.sb
  mb : s'.mb = s.mb
  own : s'.g = s.g ∨ w.heap.size ≤ s'.g
  tch : Tch (fun j => j ∈ s.bl) w w'
theorem tch_below {w w' : World} (h : Below w.heap.size w w') (O : Nat → Prop) : Tch O w w' := Tch.of_below h (fun k hk hb => by omega)
theorem Nxt.same {s : Sx} {w w' : World} {E : List Elt} (h : SeqAt w s E) (b : Below w.heap.size w w') : Nxt s w s E w' := ⟨h.below b, rfl, rfl, .inl rfl, tch_below b _⟩
theorem SeqAt.keys {w : World} {s : Sx} {E : List Elt} (h : SeqAt w s E) : (s.N.map (·.1)).Nodup := by
  have := h.map.2.1
  unfold entM at this
  rwa [M.onV_keys] at this
theorem put_entM (N : List (IdK × Nat)) (k : IdK) (n : Nat) : M.put (entM N) k (Value.int .i64 (n : Int)) = entM (M.put N k n) := M.put_on (fun n : Nat => Value.int .i64 (n : Int)) N k n
def insC (E : List Elt) (k b : IdK) : Nat := if k.n < 1 then 2 else if hasE E k = true then 5 else if b ≠ zId ∧ hasE E b = false then 4 else 0
def insR (E : List Elt) (k b : IdK) : List Elt := if insC E k b = 0 then putE E b ⟨k, b, true⟩ else E
section
variable {w : World} {s : Sx} {E : List Elt}
end
section
variable {w : World} {s : Sx} {E : List Elt}
theorem ins_end {w4 w5 : World} {k b : IdK} {b1 b2 : Nat} {v : Int} (h : SeqAt w4 s E) (hb1 : IdAt w4 b1 k) (hb2 : IdAt w4 b2 b) (n1 : b1 ∉ s.bl) (n2 : b2 ∉ s.bl) (hk : k.ok) (hb : b.ok) (hp : spotOf s b = 0 ∨ spotOf s b ∈ s.t.ids)
    (d : Did w4 s.sb 1 s.g s.cap (setFol s.L (spotOf s b) v) w5) (hl : s.L.length + 1 ≤ 1400000000000)
    (hlk : ∀ g' cap' L' t', Good L' t' → InsB s.t.ids t'.ids (spotOf s b) s.L.length → Kept (setFol s.L (spotOf s b) v ++ [⟨⟨k, b, 0⟩, true, 0, 0, 0, 0, 0⟩]) L' → Lk { s with g := g', cap := cap', L := L', t := t', N := M.put s.N k s.L.length } (putE E b ⟨k, b, true⟩)) :
    IS s b1 b2 k b w5.drew ∧ Calls Tryz.prog 49 #[.pointer (some ⟨s.sb, 1, none⟩), .int .i64 (spotOf s b : Int), KpV.v ⟨k, b, 0⟩] w5.drew fun e w' => e = .returned (.int .i64 (s.L.length : Int)) ∧ IS s b1 b2 k b w' ∧ ∃ y, (Instr.mapUpdate 72 (.map (some s.mb)) k.v (.int .i64 (s.L.length : Int))).run Tryz.prog w' = .ok () y ∧ ∃ s', Nxt s w4 s' (putE E b ⟨k, b, true⟩) y := by
  have nb : ∀ x, x ∉ s.bl → x ≠ s.sb ∧ x ≠ s.mb ∧ x ≠ s.g := fun x hx => by simpa [Sx.bl] using hx
  obtain ⟨p1, p2, p3⟩ := nb b1 n1
  obtain ⟨q1, q2, q3⟩ := nb b2 n2
  have l1 := hb1.lt
  have l2 := hb2.lt
  have lm := h.map.lt
  have ls := h.row.lt
  have sz : w5.heap.size = w4.heap.size := d.size
  have is5 : IS s b1 b2 k b w5.drew := ⟨(World.cell?_of_block (w := w4) (w' := w5) (a := ⟨s.sb, 0, none⟩) (d.tch.block s.sb ls.1 h.row.ne)).trans h.c0, (d.tch.block b1 l1 p3).trans hb1, (d.tch.block b2 l2 q3).trans hb2⟩
  have m5 : M.MapAt w5.drew s.mb IdK.v IdK.ok (entM s.N) := h.map.below (d.tch.block s.mb lm (fun e => h.nm.2 e.symm))
  refine ⟨is5, ?_⟩
  have rp := rput_any (k := ⟨k, b, 0⟩) d.at'.drew (h.lk.good.setFol (spotOf s b) v) hp ⟨hk, hb⟩ (by rw [setFol_len]; exact hl)
  rw [setFol_len] at rp
  refine rp.mono ?_
  rintro e w' ⟨rfl, g', cap', L', t', a1, a2, a3, mv⟩
  have sz6 : w5.heap.size ≤ w'.heap.size := mv.tch.size
  have keep : ∀ x, x < w5.heap.size → x ≠ s.g → x ≠ s.sb → w'.heap[x]? = w5.heap[x]? := fun x hx e1 e2 => mv.tch.block x hx (fun q => q.elim e1 e2)
  have is6 : IS s b1 b2 k b w' := ⟨(mv.oth 0 (by decide)).trans is5.1, (keep b1 (by omega) p3 p1).trans is5.2.1, (keep b2 (by omega) q3 q1).trans is5.2.2⟩
  have m6 : M.MapAt w' s.mb IdK.v IdK.ok (entM s.N) := m5.below (keep s.mb (by omega) (fun e => h.nm.2 e.symm) (fun e => h.nm.1 e.symm))
  obtain ⟨o, e1, m7⟩ := M.run_put (P := Tryz.prog) idKey Tryz.underlying72 m6 k hk (Value.int .i64 (s.L.length : Int))
  rw [put_entM] at m7
  have hgm : g' ≠ s.mb := by
    rcases mv.own with e | e
    · rw [e]; exact h.nm.2
    · have : w5.drew.heap.size = w5.heap.size := rfl
      omega
  refine ⟨rfl, is6, _, e1, { s with g := g', cap := cap', L := L', t := t', N := M.put s.N k s.L.length }, ?_, rfl, rfl, ?_, ?_⟩
  · refine ⟨(World.cell?_of_block (w := w') (a := ⟨s.sb, 0, none⟩) (M.setM_other o h.nm.1)).trans is6.1, mv.at'.keep (M.setM_other o h.nm.1) (M.setM_other o hgm), m7, ⟨h.nm.1, hgm⟩, hlk g' cap' L' t' a1 a2 a3⟩
  · rcases mv.own with e | e
    · exact .inl e
    · exact .inr (by have : w5.drew.heap.size = w5.heap.size := rfl; show w4.heap.size ≤ g'; omega)
  · have t1 : Tch (fun j => j ∈ s.bl) w4 w5.drew := (d.tch.mono (fun j _ q => by rw [q]; simp [Sx.bl])).drew
    have t2 : Tch (fun j => j ∈ s.bl) w4 w' := t1.trans' mv.tch (fun j _ q => by rcases q with q | q <;> rw [q] <;> simp [Sx.bl])
    exact t2.setM (.inr (by simp [Sx.bl])) o
theorem insert_any (h : SeqAt w s E) {k b : IdK} (hk : k.ok) (hb : b.ok) (hl : E.length + 2 ≤ 1400000000000) : Calls Tryz.prog 16 #[.pointer (some ⟨s.sb, 0, none⟩), k.v, b.v] w fun e w' => e = .returned (.int .i64 (insC E k b : Int)) ∧ ∃ s', Nxt s w s' (insR E k b) w' := by
  have HA : Hid (∀ W, SeqAt W s E → ∀ x : IdK, x.ok → Calls Tryz.prog 47 #[.pointer (some ⟨s.sb, 0, none⟩), x.v] W fun e w' => e = .returned (.bool (hasE E x)) ∧ Below W.heap.size W w') := fun W hW x hx => has_any hW hx
  obtain ⟨hx, hy, bx, zx⟩ := two_boxes w k b
  have HB := hidMk h.lt
  show Calls Tryz.prog 16 #[.pointer (some ⟨s.sb, 0, none⟩), .agg k.c.toArray, .agg b.c.toArray] w _
  go_enter Tryz.func16, Tryz.ntmps16
  go_upto_region 3 with fail
  generalize (w.alloc (.cells k.c.toArray 36)).alloc (.cells b.c.toArray 36) = wx at *
  have ZX := hidMk zx
  clear zx
  have h1 := h.below bx
  cases hn : decide (k.n < 1) with
  | true =>
    have HN := hidMk (of_decide_eq_true hn)
    refine ins3 (k := k) (r := true) _ _ _ rfl rfl hk hx hn ?_
    intro a' w1 hw ha
    subst ha
    obtain rfl : w1 = wx := hw
    simp only [Act.put, qsA, qsB, qsC]
    clear hn
    go_wp2
    go_ret
    have e : insC E k b = 2 := by unfold insC; rw [if_pos HN.out]
    exact ⟨by rw [e]; rfl, s, by unfold insR; rw [e]; exact Nxt.same h bx⟩
  | false =>
    have HN := hidMk (of_decide_eq_false hn)
    refine ins3 (k := k) (r := false) _ _ _ rfl rfl hk hx hn ?_
    intro a' w1 hw ha
    subst ha
    obtain rfl : w1 = wx := hw
    simp only [Act.put, qsA, qsB, qsC]
    clear hn
    go_upto_region 5 with fail
    refine ins5 (k := k) (r := hasE E k) _ _ _ rfl rfl rfl hk hx (HA.out _ h1 k hk) ?_
    intro a' w2 hw2 ha
    subst ha
    simp only [Act.put, qsA, qsB, qsC]
    have h2 := h1.below hw2
    have hx2 := hx.below hw2
    have hy2 := hy.below hw2
    have b2 := bx.trans (hw2.mono bx.size)
    clear hx hy h1 hw2
    cases hq : hasE E k with
    | true =>
      have HQ := hidMk hq
      clear hq
      go_wp2
      go_ret
      have e : insC E k b = 5 := by unfold insC; rw [if_neg (by have := HN.out; omega), if_pos HQ.out]
      exact ⟨by rw [e]; rfl, s, by unfold insR; rw [e]; exact Nxt.same h b2⟩
    | false =>
      have HQ := hidMk hq
      clear hq
      go_upto_region 7 with fail
      have fin : ∀ (w3 : World), Below w.heap.size w w3 → SeqAt w3 s E → IdAt w3 w.heap.size k → IdAt w3 (w.heap.size + 1) b → (b = zId ∨ hasE E b = true) → ∃ w5 v, (Instr.storeAt 3 (.pointer (some ⟨s.g, 73 * spotOf s b + 0 + 66, none⟩)) (.int .i64 ((gt s.L (spotOf s b)).kp.fol + 1))).run Tryz.prog w3 = .ok () w5 ∧ spotOf s b < s.L.length ∧ (-9223372036854775808 ≤ (gt s.L (spotOf s b)).kp.fol + 1 ∧ (gt s.L (spotOf s b)).kp.fol + 1 ≤ 9223372036854775807) ∧
          IS s w.heap.size (w.heap.size + 1) k b w5.drew ∧ Calls Tryz.prog 49 #[.pointer (some ⟨s.sb, 1, none⟩), .int .i64 (spotOf s b : Int), KpV.v ⟨k, b, 0⟩] w5.drew fun e w' => e = .returned (.int .i64 (v : Nat)) ∧ IS s w.heap.size (w.heap.size + 1) k b w' ∧ ∃ y, (Instr.mapUpdate 72 (.map (some s.mb)) k.v (.int .i64 (v : Nat))).run Tryz.prog w' = .ok () y ∧ ∃ s', Nxt s w s' (insR E k b) y := by
        intro w3 b3 h3 i1 i2 hbb
        have hp := (h.lk.spotIs hbb).1
        have hpl : spotOf s b < s.L.length := by
          rcases hp with e | e
          · rw [e]; exact h.lk.good.pos
          · exact (h.lk.good.lt e).2
        obtain ⟨w5, e5, d5⟩ := st_fol h3.row hpl ((gt s.L (spotOf s b)).kp.fol + 1)
        have hfol := h.lk.fol (spotOf s b) hp
        have hfl := folE_le E (gt s.L (spotOf s b)).kp.id
        have hlen := h.lk.len
        have e : insC E k b = 0 := by
          unfold insC
          rw [if_neg (by have := HN.out; omega), if_neg (by rw [HQ.out]; decide), if_neg (fun q => by rcases hbb with r | r; exact q.1 r; rw [r] at q; cases q.2)]
        have he := ins_end (k := k) (b := b) (v := (gt s.L (spotOf s b)).kp.fol + 1) h3 i1 i2 (fun q => by have := HB.out _ q; omega) (fun q => by have := HB.out _ q; omega) hk hb hp d5 (by omega)
          (fun g' cap' L' t' a1 a2 a3 => h.lk.put h.keys ⟨hk, by have := HN.out; omega⟩ hb HQ.out hbb a1 a2 a3)
        refine ⟨w5, s.L.length, e5, hpl, by omega, he.1, he.2.mono ?_⟩
        rintro e' w' ⟨r1, r2, y, r3, s', nx⟩
        refine ⟨r1, r2, y, r3, s', ?_⟩
        unfold insR
        rw [if_pos e]
        exact ⟨nx.at', nx.sb, nx.mb, nx.own.imp id (fun q => Nat.le_trans b3.size q), (tch_below b3 _).trans nx.tch⟩
      have FIN := hidMk fin
      clear fin
      cases hz : (!decide (b = zId)) with
      | true =>
        have HZ := hidMk (show b ≠ zId by simpa using hz)
        refine ins7a (k := b) (r := hasE E b) _ _ _ rfl rfl rfl hb hy2 hz (HA.out _ h2 b hb) ?_
        intro a' w3 hw3 ha
        subst ha
        simp only [Act.put, qsA, qsB, qsC]
        have h3 := h2.below hw3
        have hx3 := hx2.below hw3
        have hy3 := hy2.below hw3
        have b3 := b2.trans (hw3.mono b2.size)
        clear hx2 hy2 h2 hw3 b2 HA hz
        cases hq2 : hasE E b with
        | false =>
          have HQ2 := hidMk hq2
          clear hq2
          go_wp2
          go_ret
          have e : insC E k b = 4 := by unfold insC; rw [if_neg (by have := HN.out; omega), if_neg (by rw [HQ.out]; decide), if_pos ⟨HZ.out, HQ2.out⟩]
          exact ⟨by rw [e]; rfl, s, by unfold insR; rw [e]; exact Nxt.same h b3⟩
        | true =>
          have HQ2 := hidMk hq2
          clear hq2
          go_upto_region 9 with fail
          refine ins9 (E := E) (k := b) _ _ _ rfl rfl rfl h3 hb hy3 rfl ?_
          intro a' w4 hw4 ha
          subst ha
          obtain rfl : w4 = w3.drew := hw4
          simp only [Act.put, qsA, qsB, qsC]
          obtain ⟨w5, v, e5, hpl, hf5, is5, cp5⟩ := FIN.out w3.drew b3.drew h3.drew hx3 hy3 (.inr HQ2.out)
          have IS5 := hidMk is5
          have CP5 := hidMk cp5
          have E0 := hidMk (show insC E k b = 0 by
            unfold insC
            rw [if_neg (by have := HN.out; omega), if_neg (by rw [HQ.out]; decide), if_neg (fun q => by rw [HQ2.out] at q; cases q.2)])
          clear is5 cp5 FIN
          go_upto_region 10 with fail
          refine ins10 (E := E) _ _ _ rfl rfl rfl h3.drew hpl hf5 (element_any h3.drew.row hpl) e5 ?_
          intro a' w6 hw6 ha
          subst ha
          obtain rfl : w6 = w5 := hw6
          simp only [Act.put, qsA, qsB, qsC]
          clear hf5 e5
          go_upto_region 11 with fail
          refine ins11 (k := k) (q := b) (fun y => ∃ s', Nxt s w s' (insR E k b) y) _ _ _ rfl rfl rfl rfl rfl hk hb IS5.out CP5.out ?_
          intro a' w7 hw7 ha
          subst ha
          have HW7 := hidMk hw7
          clear hw7 IS5 CP5 h3 hx3 hy3
          simp only [Act.put, qsA, qsB, qsC]
          go_wp2
          go_ret
          exact ⟨by rw [E0.out]; rfl, HW7.out⟩
      | false =>
        have HZ := hidMk (show b = zId by simpa using hz)
        refine ins7b (k := b) _ _ _ rfl rfl rfl hb hy2 hz ?_
        intro a' w3 hw3 ha
        subst ha
        obtain rfl : w3 = w2 := hw3
        simp only [Act.put, qsA, qsB, qsC]
        clear HA hz
        go_upto_region 9 with fail
        refine ins9 (E := E) (k := b) _ _ _ rfl rfl rfl h2 hb hy2 rfl ?_
        intro a' w4 hw4 ha
        subst ha
        obtain rfl : w4 = w3.drew := hw4
        simp only [Act.put, qsA, qsB, qsC]
        obtain ⟨w5, v, e5, hpl, hf5, is5, cp5⟩ := FIN.out w3.drew b2.drew h2.drew hx2 hy2 (.inl HZ.out)
        have IS5 := hidMk is5
        have CP5 := hidMk cp5
        have E0 := hidMk (show insC E k b = 0 by
          unfold insC
          rw [if_neg (by have := HN.out; omega), if_neg (by rw [HQ.out]; decide), if_neg (fun q => q.1 HZ.out)])
        clear is5 cp5 FIN
        go_upto_region 10 with fail
        refine ins10 (E := E) _ _ _ rfl rfl rfl h2.drew hpl hf5 (element_any h2.drew.row hpl) e5 ?_
        intro a' w6 hw6 ha
        subst ha
        obtain rfl : w6 = w5 := hw6
        simp only [Act.put, qsA, qsB, qsC]
        clear hf5 e5
        go_upto_region 11 with fail
        refine ins11 (k := k) (q := b) (fun y => ∃ s', Nxt s w s' (insR E k b) y) _ _ _ rfl rfl rfl rfl rfl hk hb IS5.out CP5.out ?_
        intro a' w7 hw7 ha
        subst ha
        have HW7 := hidMk hw7
        clear hw7 IS5 CP5 h2 hx2 hy2
        simp only [Act.put, qsA, qsB, qsC]
        go_wp2
        go_ret
        exact ⟨by rw [E0.out]; rfl, HW7.out⟩
end
end Go.Proofs.YtifendlpeebofaaGreatDoor
namespace Go.Proofs.YtifendlpeebofaaGreatDoor
open Go.RowKit Go.Shelf Sq
attribute [local go_sem] Oper.semAt_some
section
variable {w : World} {s : Sx} {E : List Elt}
theorem nthE_ok (h : SeqOk E) (c : Bool) (m : Int) : (nthE E c m).1.ok := by
  unfold nthE
  split
  · rw [List.getD_eq_getElem?_getD]
    cases q : ((visE E c).map (·.id))[m.toNat]? with
    | none => exact zId_ok
    | some x =>
      obtain ⟨e, he, rfl⟩ := List.mem_map.1 (List.mem_of_getElem? q)
      exact (h.ok e (List.mem_filter.1 he).1).1
  · exact zId_ok
theorem at_any (h : SeqAt w s E) (m : Int) (hm : -9223372036854775808 ≤ m ∧ m ≤ 9223372036854775807) : Calls Tryz.prog 77 #[.pointer (some ⟨s.sb, 0, none⟩), .int .i64 m] w fun e w' => e = .returned (.tuple #[(nthE E false m).1.v, .bool (nthE E false m).2]) ∧ Below w.heap.size w w' := by
  have hr := id_new w zId
  have bx : Below w.heap.size w (w.alloc (.cells zId.c.toArray 36)) := (Below.refl _ _).alloc (Nat.le_refl _) _
  have zx : (w.alloc (.cells zId.c.toArray 36)).heap.size = w.heap.size + 1 := by simp
  have HA : Hid (∀ W, SeqAt W s E → Calls Tryz.prog 99 #[.pointer (some ⟨s.sb, 0, none⟩), .int .i64 m, .int .i64 0] W fun e w' => e = .returned (.tuple #[(nthE E false m).1.v, .bool (nthE E false m).2]) ∧ Below W.heap.size W w') := fun W hW => sfind_any hW false m hm
  have OK : (nthE E false m).1.ok := nthE_ok h.lk.ok false m
  generalize nthE E false m = res at *
  go_enter Tryz.func77, Tryz.ntmps77
  go_upto_region 1 with (first
    | (refine wpList_run rfl (exec_alloc (t := 36) rfl (id_zero _)) ?_)
    | fail)
  generalize w.alloc (.cells zId.c.toArray 36) = wx at *
  have h1 := h.below bx
  have HR := hidMk hr
  have BX := hidMk bx
  have ZX := hidMk zx
  clear hr bx zx
  go_wp2_with (first
    | (go_at_call 99; refine (HA.out _ h1).mono ?_; rintro e w1 ⟨rfl, hb⟩; have ST := hidMk (store_id zId_ok OK (HR.out.below hb)))
    | (refine wpList_skip rfl rfl (exec_store (t := 36) (xv := .pointer (some ⟨w.heap.size, 0, none⟩)) (yv := res.1.v) rfl rfl rfl ST.out) ?_)
    | fail)
  refine bodyPost_ret (results_c2 rfl rfl (loadVar_id OK ((HR.out.below hb).set res.1))) rfl ?_
  have b2 := BX.out.trans (hb.mono BX.out.size)
  exact ⟨rfl, b2.trans (set_below _ b2.size (Nat.le_refl _))⟩
end
theorem good_new : Good [zSp] .nil := by
  refine ⟨⟨trivial, ⟨by simp, rfl, rfl⟩, by simp [T.ids, cids], fun w => by cases w <;> rfl⟩, trivial, fun i h0 h1 => ?_⟩
  simp at h1; omega
theorem zSp_ok : OkS [zSp] := fun x hx => by
  rw [List.mem_singleton.1 hx]; exact zK_ok
theorem lk_new (sb mb g cap : Nat) : Lk ⟨sb, mb, g, cap, [zSp], .nil, []⟩ [] := by
  refine ⟨good_new, rfl, ⟨by simp, by simp, by simp⟩, fun k n => ?_, rfl, fun n hn => ?_⟩
  · constructor
    · intro h; cases h
    · rintro ⟨h, _⟩; simp [T.ids] at h
  · rcases hn with rfl | h
    · rfl
    · simp [T.ids] at h
theorem make_sp (w : World) : (Instr.makeSlice 73 (.int .i64 1) (.int .i64 1)).run Tryz.prog w = .ok (.slice (some ⟨w.heap.size, 0, none⟩) 1 1) (w.alloc (.cells (Sp.c zSp).toArray 128)) := by kernel_rfl
theorem results_c1 {P : Program} {fn : Func} {a : Nat} {t : TypeId} (h : fn.results = #[.cell a t]) {tmps : Array Value} {w : World} {p : Addr} {v : Value} (ha : tmps.getD a undef = .pointer (some p)) (hl : (loadVar t p).run P w = .ok v w) :
    (results fn tmps).run P w = .ok v w := by
  rw [Array.getD_eq_getD_getElem?] at ha
  simp [results, h, asAddr, ha, hl, Array.mapM_eq_mapM_toList, Result.andThen]
theorem newRow_any (w : World) : Calls Tryz.prog 38 #[] w fun e w' => e = .returned (.agg #[.slice (some ⟨w.heap.size + 1, 0, none⟩) 1 1]) ∧ w'.heap[w.heap.size + 1]? = some (.cells (Sp.c zSp).toArray 128 (0, 0)) ∧ w'.heap.size = w.heap.size + 2 ∧ Below w.heap.size w w' := by
  go_enter Tryz.func38, Tryz.ntmps38
  go_wp2_with (first
    | (refine wpList_run rfl (exec_makeSlice rfl rfl rfl (make_sp _)) ?_)
    | fail)
  have z : (w.alloc (.cells #[.slice (some ⟨w.heap.size + 1, 0, none⟩) 1 1] 75)).heap.size = w.heap.size + 1 := by simp
  have hb : ((w.alloc (.cells #[.slice (some ⟨w.heap.size + 1, 0, none⟩) 1 1] 75)).alloc (.cells (Sp.c zSp).toArray 128)).heap[w.heap.size]? = some (.cells [Value.slice (some ⟨w.heap.size + 1, 0, none⟩) 1 1].toArray 75 (0, 0)) := (Below.heap_alloc _ _ _ (by simp)).trans (heap_alloc_new _ _)
  have hl := run_loadVar_mid (P := Tryz.prog) _ w.heap.size 0 75 [Value.slice (some ⟨w.heap.size + 1, 0, none⟩) 1 1] _ (cells_range hb) Tryz.underlying75 rfl (by kernel_rfl)
  refine bodyPost_ret (results_c1 rfl rfl hl) rfl ?_
  refine ⟨rfl, ?_, by simp, ((Below.refl _ _).alloc (Nat.le_refl _) _).alloc (by simp) _⟩
  have hn := heap_alloc_new (w.alloc (.cells #[.slice (some ⟨w.heap.size + 1, 0, none⟩) 1 1] 75)) (.cells (Sp.c zSp).toArray 128)
  rw [z] at hn
  exact hn
theorem new_any (w : World) : Calls Tryz.prog 8 #[] w fun e w' => ∃ s, e = .returned (.pointer (some ⟨s.sb, 0, none⟩)) ∧ SeqAt w' s [] ∧ (∀ j ∈ s.bl, w.heap.size ≤ j) ∧ Below w.heap.size w w' := by
  have HR : Hid (∀ W, Calls Tryz.prog 38 #[] W fun e w' => e = .returned (.agg #[.slice (some ⟨W.heap.size + 1, 0, none⟩) 1 1]) ∧ w'.heap[W.heap.size + 1]? = some (.cells (Sp.c zSp).toArray 128 (0, 0)) ∧ w'.heap.size = W.heap.size + 2 ∧ Below W.heap.size W w') := newRow_any
  have hm := M.MapAt.new w IdK.v IdK.ok
  have bm : Below w.heap.size w (w.alloc (.map #[] 0)) := (Below.refl _ _).alloc (Nat.le_refl _) _
  have zm : (w.alloc (.map #[] 0)).heap.size = w.heap.size + 1 := by simp
  go_enter Tryz.func8, Tryz.ntmps8
  have MK : Hid (∀ W : World, (Instr.makeMap 72 none).run Tryz.prog W = .ok (.map (some W.heap.size)) (W.alloc (.map #[] 0))) := fun W => by kernel_rfl
  go_wp2_with (first
    | (refine wpList_run rfl (exec_makeMap rfl (MK.out _)) ?_)
    | (go_at_call 38; generalize w.alloc (.map #[] 0) = wm at *; refine (HR.out _).mono ?_; rintro e w1 ⟨rfl, h1, z1, b1⟩)
    | fail)
  rw [zm] at h1 z1 b1
  have hq := heap_alloc_new w1 (.cells #[.map (some w.heap.size), .slice (some ⟨w.heap.size + 1 + 1, 0, none⟩) 1 1] 80)
  have bq : Below w1.heap.size w1 (w1.alloc (.cells #[.map (some w.heap.size), .slice (some ⟨w.heap.size + 1 + 1, 0, none⟩) 1 1] 80)) := (Below.refl _ _).alloc (Nat.le_refl _) _
  go_ret
  generalize w1.alloc (.cells #[.map (some w.heap.size), .slice (some ⟨w.heap.size + 1 + 1, 0, none⟩) 1 1] 80) = w2 at *
  rw [z1] at hq bq
  have hg : w2.heap[w.heap.size + 1 + 1]? = some (.cells (Sp.c zSp).toArray 128 (0, 0)) := (bq.block _ (by omega)).trans h1
  refine ⟨⟨w.heap.size + 1 + 2, w.heap.size, w.heap.size + 1 + 1, 1, [zSp], .nil, []⟩, rfl, ⟨?_, ⟨?_, ⟨?_, .inr ⟨w.heap.size + 1 + 1, 1, _, rfl, Nat.zero_le _, hg, Nat.le_refl _, by decide, ?_, ?_⟩⟩, ?_, by show w.heap.size + 1 + 2 ≠ w.heap.size + 1 + 1; omega, by show 1 ≤ 1400000000000; omega, _, _, hq⟩, ?_, ⟨by show w.heap.size + 1 + 2 ≠ w.heap.size; omega, by show w.heap.size + 1 + 1 ≠ w.heap.size; omega⟩, lk_new _ _ _ _⟩, ?_, ?_⟩
  · exact (cell_of_row _ _ 0 _ _ _ hq).trans rfl
  · exact (cell_of_row _ _ 1 _ _ _ hq).trans rfl
  · show (flatS [zSp]).length = 1 * 73
    rw [flatS_len zSp_ok]; rfl
  · show (Sp.c zSp).toArray.size = 1 * 73
    rw [List.size_toArray, Sp.len zK_ok]
  · show ((Sp.c zSp).toArray.toList).take (1 * 73) = flatS [zSp]
    rw [List.toList_toArray, List.take_of_length_le (by rw [Sp.len zK_ok]; omega)]
    simp [flatS]
  · exact zSp_ok
  · exact hm.below ((bq.block _ (by show w.heap.size < _; omega)).trans (b1.block _ (by show w.heap.size < _; omega)))
  · intro j hj
    simp only [Sx.bl, List.mem_cons, List.not_mem_nil, or_false] at hj
    rcases hj with rfl | rfl | rfl <;> omega
  · exact (bm.trans (b1.mono (by omega))).trans (bq.mono (by omega))
end Go.Proofs.YtifendlpeebofaaGreatDoor
namespace Go.Proofs.YtifendlpeebofaaGreatDoor
open Go.RowKit
structure VaV where
  k : Int
  n : Int
  f : Nat
  s : ByteArray
  deriving DecidableEq
structure VaV.ok (x : VaV) : Prop where
  k0 : 0 ≤ x.k
  k1 : x.k ≤ 255
  lo : -9223372036854775808 ≤ x.n
  hi : x.n ≤ 9223372036854775807
  ff : x.f < 18446744073709551616
  ss : x.s.size ≤ maxLen
def VaV.c (x : VaV) : List Value := [.int .u8 x.k, .int .i64 x.n, .float .f64 x.f, .string x.s]
def VaV.v (x : VaV) : Value := .agg x.c.toArray
def zVa : VaV := ⟨0, 0, 0, ⟨#[]⟩⟩
theorem zVa_ok : zVa.ok := ⟨by decide, by decide, by decide, by decide, by decide, by decide⟩
theorem VaV.len (x : VaV) : x.c.length = 4 := rfl
theorem VaV.one (x : VaV) : ∀ v ∈ x.c, v.oneCell' = true := by
  intro v hv
  simp only [VaV.c, List.mem_cons, List.not_mem_nil, or_false] at hv
  rcases hv with rfl | rfl | rfl | rfl <;> rfl
structure MkV where
  id : IdK
  nm : ByteArray
  v : VaV
  fr : IdK
  to : IdK
  sd : Int
  deriving DecidableEq
structure MkV.ok (x : MkV) : Prop where
  i : x.id.ok
  nm : x.nm.size ≤ maxLen
  v : x.v.ok
  fr : x.fr.ok
  to : x.to.ok
  s0 : -9223372036854775808 ≤ x.sd
  s1 : x.sd ≤ 9223372036854775807
def MkV.c (x : MkV) : List Value := x.id.c ++ (.string x.nm :: (x.v.c ++ (x.fr.c ++ (x.to.c ++ [.int .i64 x.sd]))))
def MkV.a (x : MkV) : Value := .agg x.c.toArray
def zMk : MkV := ⟨zId, ⟨#[]⟩, zVa, zId, zId, 0⟩
theorem zMk_ok : zMk.ok := ⟨zId_ok, by decide, zVa_ok, zId_ok, zId_ok, by decide, by decide⟩
theorem MkV.len {x : MkV} (h : x.ok) : x.c.length = 105 := by simp [MkV.c, IdK.len h.i, IdK.len h.fr, IdK.len h.to, VaV.len]
theorem MkV.one (x : MkV) : ∀ v ∈ x.c, v.oneCell' = true := by
  intro v hv
  rcases List.mem_append.1 hv with h | h
  · exact x.id.one v h
  · rcases List.mem_cons.1 h with rfl | h
    · rfl
    · rcases List.mem_append.1 h with h | h
      · exact x.v.one v h
      · rcases List.mem_append.1 h with h | h
        · exact x.fr.one v h
        · rcases List.mem_append.1 h with h | h
          · exact x.to.one v h
          · rw [List.mem_singleton.1 h]; rfl
def RM : RowT MkV := ⟨MkV.c, MkV.ok, 105, 184, 95, 85, zMk⟩
theorem RM_is : RM.Is := ⟨zMk_ok, fun _ h => MkV.len h, MkV.one, Tryz.underlying85, by kernel_rfl, ⟨_, Tryz.underlying95, rfl⟩, by decide, by decide⟩
structure SpV where
  fr : Int
  to : Int
  nm : ByteArray
  v : VaV
  deriving DecidableEq
structure SpV.ok (x : SpV) : Prop where
  f0 : -9223372036854775808 ≤ x.fr
  f1 : x.fr ≤ 9223372036854775807
  t0 : -9223372036854775808 ≤ x.to
  t1 : x.to ≤ 9223372036854775807
  nm : x.nm.size ≤ maxLen
  v : x.v.ok
def SpV.c (x : SpV) : List Value := .int .i64 x.fr :: .int .i64 x.to :: .string x.nm :: x.v.c
def SpV.a (x : SpV) : Value := .agg x.c.toArray
def zSp7 : SpV := ⟨0, 0, ⟨#[]⟩, zVa⟩
theorem zSp7_ok : zSp7.ok := ⟨by decide, by decide, by decide, by decide, by decide, zVa_ok⟩
theorem SpV.len (x : SpV) : x.c.length = 7 := rfl
theorem SpV.one (x : SpV) : ∀ v ∈ x.c, v.oneCell' = true := by
  intro v hv
  simp only [SpV.c, List.mem_cons] at hv
  rcases hv with rfl | rfl | rfl | h
  · rfl
  · rfl
  · rfl
  · exact x.v.one v h
def RSp : RowT SpV := ⟨SpV.c, SpV.ok, 7, 72, 65, 49, zSp7⟩
theorem RSp_is : RSp.Is := ⟨zSp7_ok, fun x _ => SpV.len x, SpV.one, Tryz.underlying49, by kernel_rfl, ⟨_, Tryz.underlying65, rfl⟩, by decide, by decide⟩
theorem rng_sub {W : World} {b o n : Nat} {A B C : List Value} (h : W.rangeAt b o (A ++ (B ++ C))) (hA : A.length = n) : W.rangeAt b (o + n) B := fun j v hv => by
  have hj := (List.getElem?_eq_some_iff.1 hv).1
  rw [Nat.add_assoc]
  exact h (n + j) v (by rw [List.getElem?_append_right (by omega), hA, show n + j - n = j by omega, List.getElem?_append_left hj]; exact hv)
theorem rng_cell {W : World} {b o n : Nat} {A C : List Value} {v : Value} (h : W.rangeAt b o (A ++ (v :: C))) (hA : A.length = n) : W.cell? ⟨b, o + n, none⟩ = some v :=
  h n v (by rw [List.getElem?_append_right (by omega), hA, Nat.sub_self]; rfl)
theorem szVa : (Tryz.prog.info? 40).map (·.size) = some 4 := by kernel_rfl
section
variable {W : World} {b o : Nat} {x : MkV}
theorem mk_split2 (x : MkV) : x.c = (x.id.c ++ [.string x.nm]) ++ (x.v.c ++ (x.fr.c ++ (x.to.c ++ [.int .i64 x.sd]))) := by simp [MkV.c]
theorem mk_split3 (x : MkV) : x.c = (x.id.c ++ [.string x.nm] ++ x.v.c) ++ (x.fr.c ++ (x.to.c ++ [.int .i64 x.sd])) := by simp [MkV.c]
theorem mk_split4 (x : MkV) : x.c = (x.id.c ++ [.string x.nm] ++ x.v.c ++ x.fr.c) ++ (x.to.c ++ [.int .i64 x.sd]) := by simp [MkV.c]
theorem mk_split5 (x : MkV) : x.c = (x.id.c ++ [.string x.nm] ++ x.v.c ++ x.fr.c ++ x.to.c) ++ (.int .i64 x.sd :: []) := by simp [MkV.c]
theorem mk_id (hx : x.ok) (h : W.rangeAt b o x.c) : (Instr.loadAt 36 (.pointer (some ⟨b, o + 0, none⟩))).run Tryz.prog W = .ok x.id.v W :=
  run_loadAt_mid (P := Tryz.prog) W b (o + 0) 36 x.id.c _ (rng_sub (A := []) h rfl) Tryz.underlying36 rfl (by rw [IdK.len hx.i]; exact szId)
theorem mk_nmc (hx : x.ok) (h : W.rangeAt b o x.c) : W.cell? ⟨b, o + 33, none⟩ = some (.string x.nm) := rng_cell h (IdK.len hx.i)
theorem mk_nm (hx : x.ok) (h : W.rangeAt b o x.c) : (Instr.loadAt 9 (.pointer (some ⟨b, o + 33, none⟩))).run Tryz.prog W = .ok (.string x.nm) W := by
  have hc := mk_nmc hx h
  go_simp
theorem mk_v (hx : x.ok) (h : W.rangeAt b o x.c) : (Instr.loadAt 40 (.pointer (some ⟨b, o + 34, none⟩))).run Tryz.prog W = .ok x.v.v W :=
  run_loadAt_mid (P := Tryz.prog) W b (o + 34) 40 x.v.c _ (rng_sub (mk_split2 x ▸ h) (by simp [IdK.len hx.i])) Tryz.underlying40 rfl (by rw [VaV.len]; exact szVa)
theorem mk_kc (hx : x.ok) (h : W.rangeAt b o x.c) : W.cell? ⟨b, o + 34, none⟩ = some (.int .u8 x.v.k) := by
  have := rng_sub (mk_split2 x ▸ h) (n := 34) (by simp [IdK.len hx.i]) 0 (.int .u8 x.v.k) rfl
  exact this
theorem mk_fr (hx : x.ok) (h : W.rangeAt b o x.c) : (Instr.loadAt 36 (.pointer (some ⟨b, o + 38, none⟩))).run Tryz.prog W = .ok x.fr.v W :=
  run_loadAt_mid (P := Tryz.prog) W b (o + 38) 36 x.fr.c _ (rng_sub (mk_split3 x ▸ h) (by simp [IdK.len hx.i, VaV.len])) Tryz.underlying36 rfl (by rw [IdK.len hx.fr]; exact szId)
theorem mk_to (hx : x.ok) (h : W.rangeAt b o x.c) : (Instr.loadAt 36 (.pointer (some ⟨b, o + 71, none⟩))).run Tryz.prog W = .ok x.to.v W :=
  run_loadAt_mid (P := Tryz.prog) W b (o + 71) 36 x.to.c _ (rng_sub (mk_split4 x ▸ h) (by simp [IdK.len hx.i, IdK.len hx.fr, VaV.len])) Tryz.underlying36 rfl (by rw [IdK.len hx.to]; exact szId)
theorem mk_sdc (hx : x.ok) (h : W.rangeAt b o x.c) : W.cell? ⟨b, o + 104, none⟩ = some (.int .i64 x.sd) := rng_cell (mk_split5 x ▸ h) (by simp [IdK.len hx.i, IdK.len hx.fr, IdK.len hx.to, VaV.len])
theorem mk_sd (hx : x.ok) (h : W.rangeAt b o x.c) : (Instr.loadAt 3 (.pointer (some ⟨b, o + 104, none⟩))).run Tryz.prog W = .ok (.int .i64 x.sd) W := by
  have hc := mk_sdc hx h
  go_simp
end
theorem fg_95_1 (b o : Nat) (w : World) : (Instr.fieldAt 95 (.pointer (some ⟨b, o, none⟩)) 1).run Tryz.prog w = .ok (.pointer (some ⟨b, o + 33, none⟩)) w := by go_simp
theorem fg_95_2 (b o : Nat) (w : World) : (Instr.fieldAt 95 (.pointer (some ⟨b, o, none⟩)) 2).run Tryz.prog w = .ok (.pointer (some ⟨b, o + 34, none⟩)) w := by go_simp
theorem fg_95_3 (b o : Nat) (w : World) : (Instr.fieldAt 95 (.pointer (some ⟨b, o, none⟩)) 3).run Tryz.prog w = .ok (.pointer (some ⟨b, o + 38, none⟩)) w := by go_simp
theorem fg_95_4 (b o : Nat) (w : World) : (Instr.fieldAt 95 (.pointer (some ⟨b, o, none⟩)) 4).run Tryz.prog w = .ok (.pointer (some ⟨b, o + 71, none⟩)) w := by go_simp
theorem fg_95_5 (b o : Nat) (w : World) : (Instr.fieldAt 95 (.pointer (some ⟨b, o, none⟩)) 5).run Tryz.prog w = .ok (.pointer (some ⟨b, o + 104, none⟩)) w := by go_simp
theorem fg_87_0 (b o : Nat) (w : World) : (Instr.fieldAt 87 (.pointer (some ⟨b, o, none⟩)) 0).run Tryz.prog w = .ok (.pointer (some ⟨b, o + 0, none⟩)) w := by go_simp
theorem fg_87_1 (b o : Nat) (w : World) : (Instr.fieldAt 87 (.pointer (some ⟨b, o, none⟩)) 1).run Tryz.prog w = .ok (.pointer (some ⟨b, o + 1, none⟩)) w := by go_simp
theorem fg_40_0 (b o : Nat) (w : World) : (Instr.fieldAt 40 (.pointer (some ⟨b, o, none⟩)) 0).run Tryz.prog w = .ok (.pointer (some ⟨b, o + 0, none⟩)) w := by go_simp
theorem ex_neqE {w : World} {a : Act} {o : Oper} {x y : Operand} {p q : Int} {r : Bool} (ho : o.op = .binOp .neq 43 x y 43) (hx : a.eval x = .int .i64 p) (hy : a.eval y = .int .i64 q) (h : decide (p ≠ q) = r) : (execOp a.eval o).run Tryz.prog w = .ok (.value (.bool r)) w := by
  subst h
  refine exec_binOp ho hx hy ?_ ?_
  · kernel_rfl
  · by_cases e : p = q
    · subst e; go_simp
    · have e2 : (p == q) = false := by simpa using e
      go_simp
theorem ex_and {w : World} {a : Act} {o : Oper} {x y : Operand} {p q z : Int} (hz : (binOp .and 3 (.int .i64 p) (.int .i64 q)).run Tryz.prog w = .ok (.int .i64 z) w) (ho : o.op = .binOp .and 3 x y 3) (hx : a.eval x = .int .i64 p) (hy : a.eval y = .int .i64 q) : (execOp a.eval o).run Tryz.prog w = .ok (.value (.int .i64 z)) w := by
  refine exec_binOp ho hx hy ?_ hz
  kernel_rfl
theorem exec_build6 {P : Program} {w : World} {a : Act} {o : Oper} {t : TypeId} {x0 x1 x2 x3 x4 x5 : Operand} {v0 v1 v2 v3 v4 v5 v : Value} (ho : o.op = .build t #[(0, x0), (1, x1), (2, x2), (3, x3), (4, x4), (5, x5)]) (h0 : a.eval x0 = v0) (h1 : a.eval x1 = v1) (h2 : a.eval x2 = v2) (h3 : a.eval x3 = v3) (h4 : a.eval x4 = v4) (h5 : a.eval x5 = v5) (hl : (Instr.build t #[(0, v0), (1, v1), (2, v2), (3, v3), (4, v4), (5, v5)]).run P w = .ok v w) : (execOp a.eval o).run P w = .ok (.value v) w := by
  unfold execOp; simp only [ho, List.map_toArray, List.map_cons, List.map_nil, h0, h1, h2, h3, h4, h5, Sem.run_bind, hl, Result.andThen_ok, Sem.run_pure]
def edg1_ops : Array Oper := (⟨_, rfl⟩ : {o // some o = rgB Tryz.f102 1}).1
theorem edg1 {sp : Value} {b1 : Nat} {k : IdK} {r : Int} (Fin : World → Prop) (a : Act) (w : World) (Q : Exit → Act → World → Prop) (zz : a.tmps.size = 28)
    (t0 : a.tmps.getD 0 undef = sp)
    (t5 : a.tmps.getD 5 undef = .pointer (some ⟨b1, 0, none⟩))
    (LK : ∀ W, W = w → (Instr.loadAt 36 (.pointer (some ⟨b1, 0, none⟩))).run Tryz.prog W = .ok (k.v) W) (CR : Calls Tryz.prog 54 #[sp, k.v] w fun e w' => e = .returned (.int .i64 r) ∧ Fin w')
    (h : ∀ a' w', Fin w' → a' = (((a.put (some 11) (sp)).put (some 12) (k.v)).put (some 13) (.int .i64 r)).put (some 10) (.int .i64 r) → Q .normal a' w') :
    (Code.region 1 edg1_ops false).wp Tryz.prog Q a w := by
  refine z0 rfl ?_
  refine zv rfl (xmv rfl (zi t0 rfl)) ?_
  refine zv rfl (xld rfl (zi t5 rfl) (LK _ rfl)) ?_
  refine zc rfl (exec_c2 rfl (zg zz rfl) (zg zz rfl)) (CR) (fun e x2 hx => ?_)
  obtain ⟨rfl, HF⟩ := hx
  refine ⟨_, rfl, ?_⟩
  refine zv rfl (xas rfl (zg zz rfl)) ?_
  exact ze rfl (h _ _ (HF) rfl)
def edg2_ops : Array Oper := (⟨_, rfl⟩ : {o // some o = rgB Tryz.f102 2}).1
theorem edg2 {b1 : Nat} {k : IdK} {z : Bool} (a : Act) (w : World) (Q : Exit → Act → World → Prop) (zz : a.tmps.size = 28)
    (t5 : a.tmps.getD 5 undef = .pointer (some ⟨b1, 0, none⟩))
    (hk : k.ok) (hz : decide (k = zId) = z) (LK : ∀ W, W = w → (Instr.loadAt 36 (.pointer (some ⟨b1, 0, none⟩))).run Tryz.prog W = .ok (k.v) W)
    (h : ∀ a' w', w' = w → a' = (((a.put (some 15) (k.v)).put (some 16) (zId.v)).put (some 17) (.bool z)).put (some 14) (.bool z) → Q .normal a' w') :
    (Code.region 2 edg2_ops false).wp Tryz.prog Q a w := by
  refine z0 rfl ?_
  refine zv rfl (xld rfl (zi t5 rfl) (LK _ rfl)) ?_
  refine zv rfl (exec_build0 rfl (build_id _)) ?_
  refine zv (v := .bool z) rfl (ex_eqlI rfl (zg zz rfl) (zg zz rfl) hk zId_ok hz) ?_
  refine zv rfl (xas rfl (zg zz rfl)) ?_
  exact ze rfl (h _ _ (rfl) rfl)
def edg5_ops : Array Oper := (⟨_, rfl⟩ : {o // some o = rgB Tryz.f102 5}).1
theorem edg5 {r : Int} {z : Bool} (a : Act) (w : World) (Q : Exit → Act → World → Prop) (zz : a.tmps.size = 28)
    (t10 : a.tmps.getD 10 undef = .int .i64 r)
    (hb : -9223372036854775808 ≤ r + 1 ∧ r + 1 ≤ 9223372036854775807) (hz : decide (r ≥ 0) = z)
    (h : ∀ a' w', w' = w → a' = (((((a.put (some 21) (.int .i64 r)).put (some 22) (.int .i64 (r + 1))).put (some 23) (.int .i64 r)).put (some 24) (.bool z)).put (some 8) (.int .i64 (r + 1))).put (some 9) (.bool z) → Q .normal a' w') :
    (Code.region 5 edg5_ops false).wp Tryz.prog Q a w := by
  refine z0 rfl ?_
  refine zv rfl (xmv rfl (zi t10 rfl)) ?_
  refine zv (v := .int .i64 (r + 1)) rfl (ex_add rfl (zg zz rfl) rfl hb) ?_
  refine zv rfl (xmv rfl (zi t10 rfl)) ?_
  refine zv (v := .bool z) rfl (ex_geq rfl (zg zz rfl) rfl hz) ?_
  iterate 2 refine zv rfl (xas rfl (zg zz rfl)) ?_
  exact ze rfl (h _ _ (rfl) rfl)
def edg6_ops : Array Oper := (⟨_, rfl⟩ : {o // some o = rgB Tryz.f102 6}).1
theorem edg6 {r : Int} {z : Bool} (a : Act) (w : World) (Q : Exit → Act → World → Prop) (zz : a.tmps.size = 28)
    (t10 : a.tmps.getD 10 undef = .int .i64 r)
    (hz : decide (r ≥ 0) = z)
    (h : ∀ a' w', w' = w → a' = ((((a.put (some 25) (.int .i64 r)).put (some 26) (.int .i64 r)).put (some 27) (.bool z)).put (some 8) (.int .i64 r)).put (some 9) (.bool z) → Q .normal a' w') :
    (Code.region 6 edg6_ops false).wp Tryz.prog Q a w := by
  refine z0 rfl ?_
  iterate 2 refine zv rfl (xmv rfl (zi t10 rfl)) ?_
  refine zv (v := .bool z) rfl (ex_geq rfl (zg zz rfl) rfl hz) ?_
  iterate 2 refine zv rfl (xas rfl (zg zz rfl)) ?_
  exact ze rfl (h _ _ (rfl) rfl)
def ixa1_ops : Array Oper := (⟨_, rfl⟩ : {o // some o = rgB Tryz.f55 1}).1
theorem ixa1 {sp : Value} {r : Int} {k : IdK} {z : Bool} (Fin : Nat → World → Prop) (a : Act) (w : World) (Q : Exit → Act → World → Prop) (zz : a.tmps.size = 19)
    (t0 : a.tmps.getD 0 undef = sp)
    (t1 : a.tmps.getD 1 undef = .int .i64 r)
    (CA : Calls Tryz.prog 77 #[sp, .int .i64 r] w fun e w' => e = .returned (.tuple #[k.v, .bool z]) ∧ ∃ b1 w1 w2, (Instr.alloc 36 true (.tuple #[])).run Tryz.prog w' = .ok (.pointer (some ⟨b1, 0, none⟩)) w1 ∧ (Instr.storeAt 36 (.pointer (some ⟨b1, 0, none⟩)) k.v).run Tryz.prog w1 = .ok () w2 ∧ Fin b1 w2)
    (h : ∀ (b1 : Nat) a' w', Fin b1 w' → a' = (((((((a.put (some 8) (sp)).put (some 9) (.int .i64 r)).put (some 10) (.tuple #[k.v, .bool z])).put (some 7) (.tuple #[k.v, .bool z])).put (some 11) (k.v)).put (some 12) (.bool z)).put (some 5) (.pointer (some ⟨b1, 0, none⟩))).put (some 6) (.bool z) → Q .normal a' w') :
    (Code.region 1 ixa1_ops false).wp Tryz.prog Q a w := by
  refine z0 rfl ?_
  refine zv rfl (xmv rfl (zi t0 rfl)) ?_
  refine zv rfl (xmv rfl (zi t1 rfl)) ?_
  refine zc rfl (exec_c2 rfl (zg zz rfl) (zg zz rfl)) (CA) (fun e x2 hx => ?_)
  obtain ⟨rfl, b1, w1, w2, EA, ES, HF⟩ := hx
  replace h := h b1
  refine ⟨_, rfl, ?_⟩
  refine zv rfl (xmv rfl (zg zz rfl)) ?_
  iterate 2 refine zv rfl (exec_extract rfl (zg zz rfl) rfl) ?_
  refine zv (v := .pointer (some ⟨b1, 0, none⟩)) rfl (exec_alloc rfl EA) ?_
  refine zs rfl (exec_store rfl (zg zz rfl) (zg zz rfl) ES) ?_
  refine zv rfl (xas rfl (zg zz rfl)) ?_
  exact ze rfl (h _ _ (HF) rfl)
def ixa3_ops : Array Oper := (⟨_, rfl⟩ : {o // some o = rgB Tryz.f55 3}).1
theorem ixa3 {sp : Value} {b1 : Nat} {k : IdK} {r : Int} (Fin : World → Prop) (a : Act) (w : World) (Q : Exit → Act → World → Prop) (zz : a.tmps.size = 19)
    (t0 : a.tmps.getD 0 undef = sp)
    (t5 : a.tmps.getD 5 undef = .pointer (some ⟨b1, 0, none⟩))
    (LK : ∀ W, W = w → (Instr.loadAt 36 (.pointer (some ⟨b1, 0, none⟩))).run Tryz.prog W = .ok (k.v) W) (CR : Calls Tryz.prog 78 #[sp, k.v] w fun e w' => e = .returned (.int .i64 r) ∧ Fin w')
    (h : ∀ a' w', Fin w' → a' = (((a.put (some 14) (sp)).put (some 15) (k.v)).put (some 16) (.int .i64 r)).put (some 4) (.int .i64 r) → Q .normal a' w') :
    (Code.region 3 ixa3_ops false).wp Tryz.prog Q a w := by
  refine z0 rfl ?_
  refine zv rfl (xmv rfl (zi t0 rfl)) ?_
  refine zv rfl (xld rfl (zi t5 rfl) (LK _ rfl)) ?_
  refine zc rfl (exec_c2 rfl (zg zz rfl) (zg zz rfl)) (CR) (fun e x2 hx => ?_)
  obtain ⟨rfl, HF⟩ := hx
  refine ⟨_, rfl, ?_⟩
  refine zv rfl (xas rfl (zg zz rfl)) ?_
  exact ze rfl (h _ _ (HF) rfl)
def rea1_ops : Array Oper := (⟨_, rfl⟩ : {o // some o = rgB Tryz.f81 1}).1
theorem rea1 {sp : Value} {b : Nat} {x : MkV} {q f : Int} {r z : Bool} (S : World → Prop) (a : Act) (w : World) (Q : Exit → Act → World → Prop) (zz : a.tmps.size = 50)
    (t0 : a.tmps.getD 0 undef = .pointer (some ⟨b, 0, none⟩))
    (t1 : a.tmps.getD 1 undef = sp)
    (h0 : S w.drew) (hr : decide (q ≠ 0) = r) (HZ : ∀ W, (binOp .and 3 (.int .i64 x.sd) (.int .i64 1)).run Tryz.prog W = .ok (.int .i64 q) W) (LF : ∀ W, S W → (Instr.loadAt 36 (.pointer (some ⟨b, 0 + 38, none⟩))).run Tryz.prog W = .ok (x.fr.v) W) (LS : ∀ W, S W → (Instr.loadAt 3 (.pointer (some ⟨b, 0 + 104, none⟩))).run Tryz.prog W = .ok (.int .i64 x.sd) W) (CE : Calls Tryz.prog 102 #[sp, x.fr.v, .bool r, .int .i64 0] w.drew fun e w' => e = .returned (.tuple #[.int .i64 f, .bool z]) ∧ S w')
    (h : ∀ a' w', S w' → a' = ((((((((((((((((a.put (some 11) (sp)).put (some 12) (.pointer (some ⟨b, 0, none⟩))).put (some 13) (.pointer (some ⟨b, 0, none⟩))).put (some 14) (.pointer (some ⟨b, 0 + 38, none⟩))).put (some 15) (x.fr.v)).put (some 16) (.pointer (some ⟨b, 0, none⟩))).put (some 17) (.pointer (some ⟨b, 0, none⟩))).put (some 18) (.pointer (some ⟨b, 0 + 104, none⟩))).put (some 19) (.int .i64 x.sd)).put (some 20) (.int .i64 q)).put (some 21) (.bool r)).put (some 22) (.tuple #[.int .i64 f, .bool z])).put (some 10) (.tuple #[.int .i64 f, .bool z])).put (some 23) (.int .i64 f)).put (some 24) (.bool z)).put (some 6) (.int .i64 f)).put (some 7) (.bool z) → Q .normal a' w') :
    (Code.region 1 rea1_ops true).wp Tryz.prog Q a w := by
  refine y0 (fun w' => S w') (h0) (fun hHeld => ?_)
  refine yv 0 rfl rfl (fun w1 hw => xmv rfl (zi t1 rfl)) hHeld ?_
  refine yv 1 rfl rfl (fun w1 hw => xmv rfl (zi t0 rfl)) hHeld ?_
  refine yv 2 rfl rfl (fun w1 hw => xnc rfl (zg zz rfl)) hHeld ?_
  refine yv 3 rfl rfl (fun w1 hw => xfa rfl (zg zz rfl) (fg_95_3 _ _ _)) hHeld ?_
  refine yv 4 rfl rfl (fun w1 hw => xld rfl (zg zz rfl) (LF _ hw)) hHeld ?_
  refine yv 5 rfl rfl (fun w1 hw => xmv rfl (zi t0 rfl)) hHeld ?_
  refine yv 6 rfl rfl (fun w1 hw => xnc rfl (zg zz rfl)) hHeld ?_
  refine yv 7 rfl rfl (fun w1 hw => xfa rfl (zg zz rfl) (fg_95_5 _ _ _)) hHeld ?_
  refine yv 8 rfl rfl (fun w1 hw => xld rfl (zg zz rfl) (LS _ hw)) hHeld ?_
  refine yv (v := .int .i64 q) 9 rfl rfl (fun w1 hw => ex_and (HZ _) rfl (zg zz rfl) rfl) hHeld ?_
  refine yv (v := .bool r) 10 rfl rfl (fun w1 hw => ex_neq rfl (zg zz rfl) rfl hr) hHeld ?_
  refine yc 11 rfl rfl (exec_c4 rfl (zg zz rfl) (zg zz rfl) (zg zz rfl) rfl) (CE) (fun e x11 hx => ?_)
  obtain ⟨rfl, S1⟩ := hx
  refine ⟨_, rfl, S1, fun hHeld => ?_⟩
  refine yv 12 rfl rfl (fun w1 hw => xmv rfl (zg zz rfl)) hHeld ?_
  refine yv 13 rfl rfl (fun w1 hw => exec_extract rfl (zg zz rfl) rfl) hHeld ?_
  refine yv 14 rfl rfl (fun w1 hw => exec_extract rfl (zg zz rfl) rfl) hHeld ?_
  refine yv 15 rfl rfl (fun w1 hw => xas rfl (zg zz rfl)) hHeld ?_
  refine yv 16 rfl rfl (fun w1 hw => xas rfl (zg zz rfl)) hHeld ?_
  exact ye rfl (h _ _ (S1) rfl)
def rea2_ops : Array Oper := (⟨_, rfl⟩ : {o // some o = rgB Tryz.f81 2}).1
theorem rea2 {sp : Value} {b : Nat} {x : MkV} {q f n : Int} {r z : Bool} (S : World → Prop) (a : Act) (w : World) (Q : Exit → Act → World → Prop) (zz : a.tmps.size = 50)
    (t0 : a.tmps.getD 0 undef = .pointer (some ⟨b, 0, none⟩))
    (t1 : a.tmps.getD 1 undef = sp)
    (h0 : S w.drew) (hr : decide (q ≠ 0) = r) (HZ : ∀ W, (binOp .and 3 (.int .i64 x.sd) (.int .i64 2)).run Tryz.prog W = .ok (.int .i64 q) W) (LT : ∀ W, S W → (Instr.loadAt 36 (.pointer (some ⟨b, 0 + 71, none⟩))).run Tryz.prog W = .ok (x.to.v) W) (LS : ∀ W, S W → (Instr.loadAt 3 (.pointer (some ⟨b, 0 + 104, none⟩))).run Tryz.prog W = .ok (.int .i64 x.sd) W) (CL : Calls Tryz.prog 103 #[sp] w.drew fun e w1 => e = .returned (.int .i64 n) ∧ S w1 ∧ Calls Tryz.prog 102 #[sp, x.to.v, .bool r, .int .i64 n] w1 fun e w' => e = .returned (.tuple #[.int .i64 f, .bool z]) ∧ S w')
    (h : ∀ a' w', S w' → a' = ((((((((((((((((((a.put (some 26) (sp)).put (some 27) (.pointer (some ⟨b, 0, none⟩))).put (some 28) (.pointer (some ⟨b, 0, none⟩))).put (some 29) (.pointer (some ⟨b, 0 + 71, none⟩))).put (some 30) (x.to.v)).put (some 31) (.pointer (some ⟨b, 0, none⟩))).put (some 32) (.pointer (some ⟨b, 0, none⟩))).put (some 33) (.pointer (some ⟨b, 0 + 104, none⟩))).put (some 34) (.int .i64 x.sd)).put (some 35) (.int .i64 q)).put (some 36) (.bool r)).put (some 37) (sp)).put (some 38) (.int .i64 n)).put (some 39) (.tuple #[.int .i64 f, .bool z])).put (some 25) (.tuple #[.int .i64 f, .bool z])).put (some 40) (.int .i64 f)).put (some 41) (.bool z)).put (some 8) (.int .i64 f)).put (some 9) (.bool z) → Q .normal a' w') :
    (Code.region 2 rea2_ops true).wp Tryz.prog Q a w := by
  refine y0 (fun w' => S w') (h0) (fun hHeld => ?_)
  refine yv 0 rfl rfl (fun w1 hw => xmv rfl (zi t1 rfl)) hHeld ?_
  refine yv 1 rfl rfl (fun w1 hw => xmv rfl (zi t0 rfl)) hHeld ?_
  refine yv 2 rfl rfl (fun w1 hw => xnc rfl (zg zz rfl)) hHeld ?_
  refine yv 3 rfl rfl (fun w1 hw => xfa rfl (zg zz rfl) (fg_95_4 _ _ _)) hHeld ?_
  refine yv 4 rfl rfl (fun w1 hw => xld rfl (zg zz rfl) (LT _ hw)) hHeld ?_
  refine yv 5 rfl rfl (fun w1 hw => xmv rfl (zi t0 rfl)) hHeld ?_
  refine yv 6 rfl rfl (fun w1 hw => xnc rfl (zg zz rfl)) hHeld ?_
  refine yv 7 rfl rfl (fun w1 hw => xfa rfl (zg zz rfl) (fg_95_5 _ _ _)) hHeld ?_
  refine yv 8 rfl rfl (fun w1 hw => xld rfl (zg zz rfl) (LS _ hw)) hHeld ?_
  refine yv (v := .int .i64 q) 9 rfl rfl (fun w1 hw => ex_and (HZ _) rfl (zg zz rfl) rfl) hHeld ?_
  refine yv (v := .bool r) 10 rfl rfl (fun w1 hw => ex_neq rfl (zg zz rfl) rfl hr) hHeld ?_
  refine yv 11 rfl rfl (fun w1 hw => xmv rfl (zi t1 rfl)) hHeld ?_
  refine yc 12 rfl rfl (exec_c1 rfl (zg zz rfl)) (CL) (fun e x12 hx => ?_)
  obtain ⟨rfl, S0, CE⟩ := hx
  refine ⟨_, rfl, S0, fun hHeld => ?_⟩
  refine yc 13 rfl rfl (exec_c4 rfl (zg zz rfl) (zg zz rfl) (zg zz rfl) (zg zz rfl)) (CE) (fun e x13 hx => ?_)
  obtain ⟨rfl, S1⟩ := hx
  refine ⟨_, rfl, S1, fun hHeld => ?_⟩
  refine yv 14 rfl rfl (fun w1 hw => xmv rfl (zg zz rfl)) hHeld ?_
  refine yv 15 rfl rfl (fun w1 hw => exec_extract rfl (zg zz rfl) rfl) hHeld ?_
  refine yv 16 rfl rfl (fun w1 hw => exec_extract rfl (zg zz rfl) rfl) hHeld ?_
  refine yv 17 rfl rfl (fun w1 hw => xas rfl (zg zz rfl)) hHeld ?_
  refine yv 18 rfl rfl (fun w1 hw => xas rfl (zg zz rfl)) hHeld ?_
  exact ye rfl (h _ _ (S1) rfl)
def mha1_ops : Array Oper := (⟨_, rfl⟩ : {o // some o = rgB Tryz.f39 1}).1
theorem mha1 {mb ib b1 eb : Nat} {k : IdK} {r : Bool} {w1 w2 : World} (S : World → Prop) (a : Act) (w : World) (Q : Exit → Act → World → Prop) (zz : a.tmps.size = 17)
    (t0 : a.tmps.getD 0 undef = .pointer (some ⟨mb, 0, none⟩))
    (t3 : a.tmps.getD 3 undef = .pointer (some ⟨b1, 0, none⟩))
    (h0 : S w.drew) (LM : ∀ W, S W → (Instr.loadAt 84 (.pointer (some ⟨mb, 0 + 1, none⟩))).run Tryz.prog W = .ok (.map (some ib)) W) (LK : ∀ W, S W → (Instr.loadAt 36 (.pointer (some ⟨b1, 0, none⟩))).run Tryz.prog W = .ok (k.v) W) (LL : ∀ W, S W → (Instr.lookup 84 (.map (some ib)) k.v true).run Tryz.prog W = .ok (.tuple #[.agg #[], .bool r]) W) (EA : (Instr.alloc 96 true (.tuple #[])).run Tryz.prog w.drew = .ok (.pointer (some ⟨eb, 0, none⟩)) w1) (S1 : S w1) (ES : (Instr.storeAt 96 (.pointer (some ⟨eb, 0, none⟩)) (.agg #[])).run Tryz.prog w1 = .ok () w2) (S2 : S w2)
    (h : ∀ a' w', S w' → a' = ((((((((((a.put (some 8) (.pointer (some ⟨mb, 0, none⟩))).put (some 9) (.pointer (some ⟨mb, 0, none⟩))).put (some 10) (.pointer (some ⟨mb, 0 + 1, none⟩))).put (some 11) (.map (some ib))).put (some 12) (k.v)).put (some 13) (.tuple #[.agg #[], .bool r])).put (some 7) (.tuple #[.agg #[], .bool r])).put (some 14) (.agg #[])).put (some 15) (.bool r)).put (some 5) (.pointer (some ⟨eb, 0, none⟩))).put (some 6) (.bool r) → Q .normal a' w') :
    (Code.region 1 mha1_ops true).wp Tryz.prog Q a w := by
  refine y0 (fun w' => S w') (h0) (fun hHeld => ?_)
  refine yv 0 rfl rfl (fun w1 hw => xmv rfl (zi t0 rfl)) hHeld ?_
  refine yv 1 rfl rfl (fun w1 hw => xnc rfl (zg zz rfl)) hHeld ?_
  refine yv 2 rfl rfl (fun w1 hw => xfa rfl (zg zz rfl) (fg_87_1 _ _ _)) hHeld ?_
  refine yv 3 rfl rfl (fun w1 hw => xld rfl (zg zz rfl) (LM _ hw)) hHeld ?_
  refine yv 4 rfl rfl (fun w1 hw => xld rfl (zi t3 rfl) (LK _ hw)) hHeld ?_
  refine yv (v := .tuple #[.agg #[], .bool r]) 5 rfl rfl (fun w1 hw => exec_lookup rfl (zg zz rfl) (zg zz rfl) (LL _ hw)) hHeld ?_
  refine yv 6 rfl rfl (fun w1 hw => xmv rfl (zg zz rfl)) hHeld ?_
  refine yv 7 rfl rfl (fun w1 hw => exec_extract rfl (zg zz rfl) rfl) hHeld ?_
  refine yv 8 rfl rfl (fun w1 hw => exec_extract rfl (zg zz rfl) rfl) hHeld ?_
  refine yr (v := .pointer (some ⟨eb, 0, none⟩)) 9 rfl rfl (exec_alloc rfl EA) (S1) (fun hHeld => ?_)
  refine ys 10 rfl rfl (exec_store rfl (zg zz rfl) (zg zz rfl) ES) (S2) (fun hHeld => ?_)
  refine yv 11 rfl rfl (fun w1 hw => xas rfl (zg zz rfl)) hHeld ?_
  exact ye rfl (h _ _ (S2) rfl)
def mad3a_ops : Array Oper := (⟨_, rfl⟩ : {o // some o = rgB Tryz.f12 3}).1
theorem mad3a {b1 : Nat} {k : IdK} (a : Act) (w : World) (Q : Exit → Act → World → Prop) (zz : a.tmps.size = 70)
    (t8 : a.tmps.getD 8 undef = .pointer (some ⟨b1, 0, none⟩))
    (hn : decide (k.n < 1) = true) (LN : ∀ W, W = w → (Instr.loadAt 3 (.pointer (some ⟨b1, 0 + 32, none⟩))).run Tryz.prog W = .ok (.int .i64 k.n) W)
    (h : ∀ a' w', w' = w → a' = (((((((((((a.put (some 19) (.pointer (some ⟨b1, 0 + 32, none⟩))).put (some 20) (.int .i64 k.n)).put (some 21) (.bool true)).put (some 22) (.bool true)).put (some 23) (undef)).put (some 24) (undef)).put (some 25) (.bool true)).put (some 26) (.bool true)).put (some 27) (undef)).put (some 28) (undef)).put (some 29) (.bool true)).put (some 18) (.bool true) → Q .normal a' w') :
    (Code.region 3 mad3a_ops false).wp Tryz.prog Q a w := by
  refine z0 rfl ?_
  refine zv rfl (xfa rfl (zi t8 rfl) (fg_36_1 _ _ _)) ?_
  refine zv rfl (xld rfl (zg zz rfl) (LN _ rfl)) ?_
  refine zv (v := .bool true) rfl (ex_lss rfl (zg zz rfl) rfl hn) ?_
  refine zv rfl (xmv rfl (zg zz rfl)) ?_
  iterate 2 refine zn (zx zz rfl rfl rfl (zg zz rfl)) ?_
  refine zv rfl (exec_pickT rfl (zg zz rfl) rfl) ?_
  refine zv rfl (xmv rfl (zg zz rfl)) ?_
  iterate 2 refine zn (zx zz rfl rfl rfl (zg zz rfl)) ?_
  refine zv rfl (exec_pickT rfl (zg zz rfl) rfl) ?_
  refine zv rfl (xas rfl (zg zz rfl)) ?_
  exact ze rfl (h _ _ (rfl) rfl)
theorem mad3b {b1 : Nat} {k : IdK} {sd : Int} (a : Act) (w : World) (Q : Exit → Act → World → Prop) (zz : a.tmps.size = 70)
    (t8 : a.tmps.getD 8 undef = .pointer (some ⟨b1, 0, none⟩))
    (t6 : a.tmps.getD 6 undef = .int .i64 sd)
    (hn : decide (k.n < 1) = false) (h1 : decide (sd < 0) = true) (LN : ∀ W, W = w → (Instr.loadAt 3 (.pointer (some ⟨b1, 0 + 32, none⟩))).run Tryz.prog W = .ok (.int .i64 k.n) W)
    (h : ∀ a' w', w' = w → a' = (((((((((((a.put (some 19) (.pointer (some ⟨b1, 0 + 32, none⟩))).put (some 20) (.int .i64 k.n)).put (some 21) (.bool false)).put (some 22) (.bool false)).put (some 23) (.int .i64 sd)).put (some 24) (.bool true)).put (some 25) (.bool true)).put (some 26) (.bool true)).put (some 27) (undef)).put (some 28) (undef)).put (some 29) (.bool true)).put (some 18) (.bool true) → Q .normal a' w') :
    (Code.region 3 mad3a_ops false).wp Tryz.prog Q a w := by
  refine z0 rfl ?_
  refine zv rfl (xfa rfl (zi t8 rfl) (fg_36_1 _ _ _)) ?_
  refine zv rfl (xld rfl (zg zz rfl) (LN _ rfl)) ?_
  refine zv (v := .bool false) rfl (ex_lss rfl (zg zz rfl) rfl hn) ?_
  refine zv rfl (xmv rfl (zg zz rfl)) ?_
  refine zv (zw zz rfl rfl rfl (zg zz rfl)) (xmv rfl (zi t6 rfl)) ?_
  refine zv (v := .bool true) (zw zz rfl rfl rfl (zg zz rfl)) (ex_lss rfl (zg zz rfl) rfl h1) ?_
  refine zv rfl (exec_pickF rfl (zg zz rfl) (zg zz rfl)) ?_
  refine zv rfl (xmv rfl (zg zz rfl)) ?_
  iterate 2 refine zn (zx zz rfl rfl rfl (zg zz rfl)) ?_
  refine zv rfl (exec_pickT rfl (zg zz rfl) rfl) ?_
  refine zv rfl (xas rfl (zg zz rfl)) ?_
  exact ze rfl (h _ _ (rfl) rfl)
theorem mad3c {b1 : Nat} {k : IdK} {sd : Int} {r : Bool} (a : Act) (w : World) (Q : Exit → Act → World → Prop) (zz : a.tmps.size = 70)
    (t8 : a.tmps.getD 8 undef = .pointer (some ⟨b1, 0, none⟩))
    (t6 : a.tmps.getD 6 undef = .int .i64 sd)
    (hn : decide (k.n < 1) = false) (h1 : decide (sd < 0) = false) (h2 : decide (sd > 3) = r) (LN : ∀ W, W = w → (Instr.loadAt 3 (.pointer (some ⟨b1, 0 + 32, none⟩))).run Tryz.prog W = .ok (.int .i64 k.n) W)
    (h : ∀ a' w', w' = w → a' = (((((((((((a.put (some 19) (.pointer (some ⟨b1, 0 + 32, none⟩))).put (some 20) (.int .i64 k.n)).put (some 21) (.bool false)).put (some 22) (.bool false)).put (some 23) (.int .i64 sd)).put (some 24) (.bool false)).put (some 25) (.bool false)).put (some 26) (.bool false)).put (some 27) (.int .i64 sd)).put (some 28) (.bool r)).put (some 29) (.bool r)).put (some 18) (.bool r) → Q .normal a' w') :
    (Code.region 3 mad3a_ops false).wp Tryz.prog Q a w := by
  refine z0 rfl ?_
  refine zv rfl (xfa rfl (zi t8 rfl) (fg_36_1 _ _ _)) ?_
  refine zv rfl (xld rfl (zg zz rfl) (LN _ rfl)) ?_
  refine zv (v := .bool false) rfl (ex_lss rfl (zg zz rfl) rfl hn) ?_
  refine zv rfl (xmv rfl (zg zz rfl)) ?_
  refine zv (zw zz rfl rfl rfl (zg zz rfl)) (xmv rfl (zi t6 rfl)) ?_
  refine zv (v := .bool false) (zw zz rfl rfl rfl (zg zz rfl)) (ex_lss rfl (zg zz rfl) rfl h1) ?_
  refine zv rfl (exec_pickF rfl (zg zz rfl) (zg zz rfl)) ?_
  refine zv rfl (xmv rfl (zg zz rfl)) ?_
  refine zv (zw zz rfl rfl rfl (zg zz rfl)) (xmv rfl (zi t6 rfl)) ?_
  refine zv (v := .bool r) (zw zz rfl rfl rfl (zg zz rfl)) (ex_gtr rfl (zg zz rfl) rfl h2) ?_
  refine zv rfl (exec_pickF rfl (zg zz rfl) (zg zz rfl)) ?_
  refine zv rfl (xas rfl (zg zz rfl)) ?_
  exact ze rfl (h _ _ (rfl) rfl)
def mad5_ops : Array Oper := (⟨_, rfl⟩ : {o // some o = rgB Tryz.f12 5}).1
theorem mad5 {mb b1 : Nat} {k : IdK} {r : Bool} (Fin : World → Prop) (a : Act) (w : World) (Q : Exit → Act → World → Prop) (zz : a.tmps.size = 70)
    (t0 : a.tmps.getD 0 undef = .pointer (some ⟨mb, 0, none⟩))
    (t8 : a.tmps.getD 8 undef = .pointer (some ⟨b1, 0, none⟩))
    (LK : ∀ W, W = w → (Instr.loadAt 36 (.pointer (some ⟨b1, 0, none⟩))).run Tryz.prog W = .ok (k.v) W) (CH : Calls Tryz.prog 39 #[.pointer (some ⟨mb, 0, none⟩), k.v] w fun e w' => e = .returned (.bool r) ∧ Fin w')
    (h : ∀ a' w', Fin w' → a' = (((a.put (some 31) (.pointer (some ⟨mb, 0, none⟩))).put (some 32) (k.v)).put (some 33) (.bool r)).put (some 30) (.bool r) → Q .normal a' w') :
    (Code.region 5 mad5_ops false).wp Tryz.prog Q a w := by
  refine z0 rfl ?_
  refine zv rfl (xmv rfl (zi t0 rfl)) ?_
  refine zv rfl (xld rfl (zi t8 rfl) (LK _ rfl)) ?_
  refine zc rfl (exec_c2 rfl (zg zz rfl) (zg zz rfl)) (CH) (fun e x2 hx => ?_)
  obtain ⟨rfl, HF⟩ := hx
  refine ⟨_, rfl, ?_⟩
  refine zv rfl (xas rfl (zg zz rfl)) ?_
  exact ze rfl (h _ _ (HF) rfl)
def mad7_ops : Array Oper := (⟨_, rfl⟩ : {o // some o = rgB Tryz.f12 7}).1
theorem mad7 {nm : ByteArray} {r : Bool} (Fin : World → Prop) (a : Act) (w : World) (Q : Exit → Act → World → Prop) (zz : a.tmps.size = 70)
    (t2 : a.tmps.getD 2 undef = .string nm)
    (CK : Calls Tryz.prog 40 #[.string nm] w fun e w' => e = .returned (.bool r) ∧ Fin w')
    (h : ∀ a' w', Fin w' → a' = (((a.put (some 35) (.string nm)).put (some 36) (.bool r)).put (some 37) (.bool (!r))).put (some 34) (.bool (!r)) → Q .normal a' w') :
    (Code.region 7 mad7_ops false).wp Tryz.prog Q a w := by
  refine z0 rfl ?_
  refine zv rfl (xmv rfl (zi t2 rfl)) ?_
  refine zc rfl (exec_c1 rfl (zg zz rfl)) (CK) (fun e x1 hx => ?_)
  obtain ⟨rfl, HF⟩ := hx
  refine ⟨_, rfl, ?_⟩
  refine zv rfl (exec_not rfl (zg zz rfl)) ?_
  refine zv rfl (xas rfl (zg zz rfl)) ?_
  exact ze rfl (h _ _ (HF) rfl)
def mad9a_ops : Array Oper := (⟨_, rfl⟩ : {o // some o = rgB Tryz.f12 9}).1
theorem mad9a {b2 : Nat} {x : VaV} {z : Int} (Fin : World → Prop) (a : Act) (w : World) (Q : Exit → Act → World → Prop) (zz : a.tmps.size = 70)
    (t10 : a.tmps.getD 10 undef = .pointer (some ⟨b2, 0, none⟩))
    (hz : decide (z ≠ 0) = true) (LV : ∀ W, W = w → (Instr.loadAt 40 (.pointer (some ⟨b2, 0, none⟩))).run Tryz.prog W = .ok (x.v) W) (CR : Calls Tryz.prog 41 #[x.v] w fun e w' => e = .returned (.int .i64 z) ∧ Fin w')
    (h : ∀ a' w', Fin w' → a' = (((((((((a.put (some 39) (x.v)).put (some 40) (.int .i64 z)).put (some 41) (.bool true)).put (some 42) (.bool true)).put (some 43) (undef)).put (some 44) (undef)).put (some 45) (undef)).put (some 46) (undef)).put (some 47) (.bool true)).put (some 38) (.bool true) → Q .normal a' w') :
    (Code.region 9 mad9a_ops false).wp Tryz.prog Q a w := by
  refine z0 rfl ?_
  refine zv rfl (xld rfl (zi t10 rfl) (LV _ rfl)) ?_
  refine zc rfl (exec_c1 rfl (zg zz rfl)) (CR) (fun e x1 hx => ?_)
  obtain ⟨rfl, HF⟩ := hx
  refine ⟨_, rfl, ?_⟩
  refine zv (v := .bool true) rfl (ex_neqE rfl (zg zz rfl) rfl hz) ?_
  refine zv rfl (xmv rfl (zg zz rfl)) ?_
  iterate 4 refine zn (zx zz rfl rfl rfl (zg zz rfl)) ?_
  refine zv rfl (exec_pickT rfl (zg zz rfl) rfl) ?_
  refine zv rfl (xas rfl (zg zz rfl)) ?_
  exact ze rfl (h _ _ (HF) rfl)
theorem mad9b {b2 : Nat} {x : VaV} {z : Int} {r : Bool} (Fin : World → Prop) (a : Act) (w : World) (Q : Exit → Act → World → Prop) (zz : a.tmps.size = 70)
    (t10 : a.tmps.getD 10 undef = .pointer (some ⟨b2, 0, none⟩))
    (hz : decide (z ≠ 0) = false) (LV : ∀ W, W = w → (Instr.loadAt 40 (.pointer (some ⟨b2, 0, none⟩))).run Tryz.prog W = .ok (x.v) W) (CR : Calls Tryz.prog 41 #[x.v] w fun e w' => e = .returned (.int .i64 z) ∧ (Instr.loadAt 37 (.pointer (some ⟨b2, 0 + 0, none⟩))).run Tryz.prog w' = .ok (.int .u8 x.k) w' ∧ Calls Tryz.prog 42 #[.int .u8 x.k] w' fun e w2 => e = .returned (.bool r) ∧ Fin w2)
    (h : ∀ a' w', Fin w' → a' = (((((((((a.put (some 39) (x.v)).put (some 40) (.int .i64 z)).put (some 41) (.bool false)).put (some 42) (.bool false)).put (some 43) (.pointer (some ⟨b2, 0 + 0, none⟩))).put (some 44) (.int .u8 x.k)).put (some 45) (.bool r)).put (some 46) (.bool (!r))).put (some 47) (.bool (!r))).put (some 38) (.bool (!r)) → Q .normal a' w') :
    (Code.region 9 mad9a_ops false).wp Tryz.prog Q a w := by
  refine z0 rfl ?_
  refine zv rfl (xld rfl (zi t10 rfl) (LV _ rfl)) ?_
  refine zc rfl (exec_c1 rfl (zg zz rfl)) (CR) (fun e x1 hx => ?_)
  obtain ⟨rfl, LKD, CS⟩ := hx
  refine ⟨_, rfl, ?_⟩
  refine zv (v := .bool false) rfl (ex_neqE rfl (zg zz rfl) rfl hz) ?_
  refine zv rfl (xmv rfl (zg zz rfl)) ?_
  refine zv (zw zz rfl rfl rfl (zg zz rfl)) (xfa rfl (zi t10 rfl) (fg_40_0 _ _ _)) ?_
  refine zv (zw zz rfl rfl rfl (zg zz rfl)) (xld rfl (zg zz rfl) LKD) ?_
  refine zc (zw zz rfl rfl rfl (zg zz rfl)) (exec_c1 rfl (zg zz rfl)) (CS) (fun e x6 hx => ?_)
  obtain ⟨rfl, HF⟩ := hx
  refine ⟨_, rfl, ?_⟩
  refine zv (zw zz rfl rfl rfl (zg zz rfl)) (exec_not rfl (zg zz rfl)) ?_
  refine zv rfl (exec_pickF rfl (zg zz rfl) (zg zz rfl)) ?_
  refine zv rfl (xas rfl (zg zz rfl)) ?_
  exact ze rfl (h _ _ (HF) rfl)
def mad11_ops : Array Oper := (⟨_, rfl⟩ : {o // some o = rgB Tryz.f12 11}).1
theorem mad11 {mb b1 b2 b3 b4 : Nat} {x : MkV} {lv sv v2 : Value} {w1 w2 w3 : World} (S : World → Prop) (a : Act) (w : World) (Q : Exit → Act → World → Prop) (zz : a.tmps.size = 70)
    (t0 : a.tmps.getD 0 undef = .pointer (some ⟨mb, 0, none⟩))
    (t2 : a.tmps.getD 2 undef = .string x.nm)
    (t6 : a.tmps.getD 6 undef = .int .i64 x.sd)
    (t8 : a.tmps.getD 8 undef = .pointer (some ⟨b1, 0, none⟩))
    (t10 : a.tmps.getD 10 undef = .pointer (some ⟨b2, 0, none⟩))
    (t11 : a.tmps.getD 11 undef = .pointer (some ⟨b3, 0, none⟩))
    (t12 : a.tmps.getD 12 undef = .pointer (some ⟨b4, 0, none⟩))
    (h0 : S w.drew) (L0 : ∀ W, S W → (Instr.loadAt 85 (.pointer (some ⟨mb, 0 + 0, none⟩))).run Tryz.prog W = .ok (lv) W) (L1 : ∀ W, S W → (Instr.loadAt 36 (.pointer (some ⟨b1, 0, none⟩))).run Tryz.prog W = .ok (x.id.v) W) (L2 : ∀ W, S W → (Instr.loadAt 40 (.pointer (some ⟨b2, 0, none⟩))).run Tryz.prog W = .ok (x.v.v) W) (L3 : ∀ W, S W → (Instr.loadAt 36 (.pointer (some ⟨b3, 0, none⟩))).run Tryz.prog W = .ok (x.fr.v) W) (L4 : ∀ W, S W → (Instr.loadAt 36 (.pointer (some ⟨b4, 0, none⟩))).run Tryz.prog W = .ok (x.to.v) W) (HB : ∀ W, (Instr.build 95 #[(0, x.id.v), (1, .string x.nm), (2, x.v.v), (3, x.fr.v), (4, x.to.v), (5, .int .i64 x.sd)]).run Tryz.prog W = .ok x.a W) (E1 : (Instr.buildSlice 85 1 #[(0, x.a)]).run Tryz.prog w.drew = .ok sv w1) (S1 : S w1) (E2 : (Builtin.append_ #[85, 85] 85 #[lv, sv]).run Tryz.prog w1 = .ok v2 w2) (S2 : S w2) (E3 : (Instr.storeAt 85 (.pointer (some ⟨mb, 0 + 0, none⟩)) v2).run Tryz.prog w2 = .ok () w3)
    (h : ∀ a' w', w' = w3 → a' = (((((((((((((((a.put (some 48) (.pointer (some ⟨mb, 0, none⟩))).put (some 49) (.pointer (some ⟨mb, 0, none⟩))).put (some 50) (.pointer (some ⟨mb, 0, none⟩))).put (some 51) (.pointer (some ⟨mb, 0 + 0, none⟩))).put (some 52) (lv)).put (some 53) (x.id.v)).put (some 54) (.string x.nm)).put (some 55) (x.v.v)).put (some 56) (x.fr.v)).put (some 57) (x.to.v)).put (some 58) (.int .i64 x.sd)).put (some 59) (x.a)).put (some 60) (sv)).put (some 61) (v2)).put (some 62) (.pointer (some ⟨mb, 0, none⟩))).put (some 63) (.pointer (some ⟨mb, 0 + 0, none⟩)) → Q .normal a' w') :
    (Code.region 11 mad11_ops true).wp Tryz.prog Q a w := by
  refine x0 16 (fun w' => S w') (h0) (fun hHeld => ?_)
  refine xv 0 rfl rfl (fun w1 hw => xmv rfl (zi t0 rfl)) hHeld ?_
  refine xv 1 rfl rfl (fun w1 hw => xmv rfl (zi t0 rfl)) hHeld ?_
  refine xv 2 rfl rfl (fun w1 hw => xnc rfl (zg zz rfl)) hHeld ?_
  refine xv 3 rfl rfl (fun w1 hw => xfa rfl (zg zz rfl) (fg_87_0 _ _ _)) hHeld ?_
  refine xv 4 rfl rfl (fun w1 hw => xld rfl (zg zz rfl) (L0 _ hw)) hHeld ?_
  refine xv 5 rfl rfl (fun w1 hw => xld rfl (zi t8 rfl) (L1 _ hw)) hHeld ?_
  refine xv 6 rfl rfl (fun w1 hw => xmv rfl (zi t2 rfl)) hHeld ?_
  refine xv 7 rfl rfl (fun w1 hw => xld rfl (zi t10 rfl) (L2 _ hw)) hHeld ?_
  refine xv 8 rfl rfl (fun w1 hw => xld rfl (zi t11 rfl) (L3 _ hw)) hHeld ?_
  refine xv 9 rfl rfl (fun w1 hw => xld rfl (zi t12 rfl) (L4 _ hw)) hHeld ?_
  refine xv 10 rfl rfl (fun w1 hw => xmv rfl (zi t6 rfl)) hHeld ?_
  refine xv 11 rfl rfl (fun w1 hw => exec_build6 rfl (zg zz rfl) (zg zz rfl) (zg zz rfl) (zg zz rfl) (zg zz rfl) (zg zz rfl) (HB _)) hHeld ?_
  refine xr (v := sv) 12 rfl rfl (exec_buildSlice rfl (zg zz rfl) E1) (fun _ => S1) (fun hHeld => ?_)
  replace hHeld := hHeld (by decide)
  refine xr (v := v2) 13 rfl rfl (exec_append rfl (zg zz rfl) (zg zz rfl) E2) (fun _ => S2) (fun hHeld => ?_)
  replace hHeld := hHeld (by decide)
  refine xv 14 rfl rfl (fun w1 hw => xnc rfl (zg zz rfl)) hHeld ?_
  refine xv 15 rfl rfl (fun w1 hw => xfa rfl (zg zz rfl) (fg_87_0 _ _ _)) hHeld ?_
  refine xs 16 rfl rfl (exec_store rfl (zg zz rfl) (zg zz rfl) E3) (fun hne => absurd rfl hne) (fun _ => ?_)
  exact xe rfl (h _ _ (rfl) rfl)
def mad12_ops : Array Oper := (⟨_, rfl⟩ : {o // some o = rgB Tryz.f12 12}).1
theorem mad12 {mb ib b1 : Nat} {k : IdK} {w2 : World} (S : World → Prop) (a : Act) (w : World) (Q : Exit → Act → World → Prop) (zz : a.tmps.size = 70)
    (t0 : a.tmps.getD 0 undef = .pointer (some ⟨mb, 0, none⟩))
    (t8 : a.tmps.getD 8 undef = .pointer (some ⟨b1, 0, none⟩))
    (h0 : S w.drew) (LM : ∀ W, S W → (Instr.loadAt 84 (.pointer (some ⟨mb, 0 + 1, none⟩))).run Tryz.prog W = .ok (.map (some ib)) W) (LK : ∀ W, S W → (Instr.loadAt 36 (.pointer (some ⟨b1, 0, none⟩))).run Tryz.prog W = .ok (k.v) W) (HU : ∀ W, (Instr.build 96 #[]).run Tryz.prog W = .ok (.agg #[]) W) (E1 : (Instr.mapUpdate 84 (.map (some ib)) k.v (.agg #[])).run Tryz.prog w.drew = .ok () w2)
    (h : ∀ a' w', w' = w2 → a' = (((((a.put (some 64) (.pointer (some ⟨mb, 0, none⟩))).put (some 65) (.pointer (some ⟨mb, 0, none⟩))).put (some 66) (.pointer (some ⟨mb, 0 + 1, none⟩))).put (some 67) (.map (some ib))).put (some 68) (k.v)).put (some 69) (.agg #[]) → Q .normal a' w') :
    (Code.region 12 mad12_ops true).wp Tryz.prog Q a w := by
  refine x0 6 (fun w' => S w') (h0) (fun hHeld => ?_)
  refine xv 0 rfl rfl (fun w1 hw => xmv rfl (zi t0 rfl)) hHeld ?_
  refine xv 1 rfl rfl (fun w1 hw => xnc rfl (zg zz rfl)) hHeld ?_
  refine xv 2 rfl rfl (fun w1 hw => xfa rfl (zg zz rfl) (fg_87_1 _ _ _)) hHeld ?_
  refine xv 3 rfl rfl (fun w1 hw => xld rfl (zg zz rfl) (LM _ hw)) hHeld ?_
  refine xv 4 rfl rfl (fun w1 hw => xld rfl (zi t8 rfl) (LK _ hw)) hHeld ?_
  refine xv 5 rfl rfl (fun w1 hw => exec_build0 rfl (HU _)) hHeld ?_
  refine xs 6 rfl rfl (exec_mapUpdate rfl (zg zz rfl) (zg zz rfl) (zg zz rfl) E1) (fun hne => absurd rfl hne) (fun _ => ?_)
  exact xe rfl (h _ _ (rfl) rfl)
end Go.Proofs.YtifendlpeebofaaGreatDoor
namespace Go.Proofs.YtifendlpeebofaaGreatDoor
open Go.RowKit Sq
def edgeP (E : List Elt) (k : IdK) (bh : Bool) (z : Int) : Int × Bool := if k = zId then (z, true) else if bh = true then (aheadE E false k + 1, decide (aheadE E false k ≥ 0)) else (aheadE E false k, decide (aheadE E false k ≥ 0))
def bF (s : Int) : Bool := decide (s = 1 ∨ s = 3)
def bT (s : Int) : Bool := decide (s = 2 ∨ s = 3)
def reachP (E : List Elt) (x : MkV) : Int × Int := if (edgeP E x.fr (bF x.sd) 0).2 = true ∧ (edgeP E x.to (bT x.sd) (E.length : Int)).2 = true then ((edgeP E x.fr (bF x.sd) 0).1, (edgeP E x.to (bT x.sd) (E.length : Int)).1) else (0, 0)
def idxE (E : List Elt) (r : Int) : Int := if (nthE E false r).2 = true then aheadE E true (nthE E false r).1 else ((visE E true).length : Int)
theorem vis_all (E : List Elt) : visE E false = E := by
  unfold visE
  rw [List.filter_eq_self]
  intro e _
  rfl
theorem ahead_bd (E : List Elt) (c : Bool) (k : IdK) : -1 ≤ aheadE E c k ∧ aheadE E c k ≤ (E.length : Int) := by
  unfold aheadE
  split
  · have h1 := List.countP_le_length (p := cE c) (l := E.takeWhile (fun e => !decide (e.id = k)))
    have h2 := (List.takeWhile_prefix (fun e : Elt => !decide (e.id = k)) (l := E)).length_le
    omega
  · omega
theorem SeqAt.few {w : World} {s : Sx} {E : List Elt} (h : SeqAt w s E) : E.length + 1 ≤ 1400000000000 := by
  have h1 := h.lk.len
  have h2 := h.row.len
  omega
section
variable {w : World} {s : Sx} {E : List Elt}
theorem edge_any (h : SeqAt w s E) {k : IdK} (hk : k.ok) (bh : Bool) {z : Int} (hz : -9223372036854775808 ≤ z ∧ z ≤ 9223372036854775807) : Calls Tryz.prog 102 #[.pointer (some ⟨s.sb, 0, none⟩), k.v, .bool bh, .int .i64 z] w fun e w' => e = .returned (.tuple #[.int .i64 (edgeP E k bh z).1, .bool (edgeP E k bh z).2]) ∧ Below w.heap.size w w' := by
  have bx : Below w.heap.size w (w.alloc (.cells k.c.toArray 36)) := (Below.refl _ _).alloc (Nat.le_refl _) _
  have hx := id_new w k
  have HR : Hid (∀ W, SeqAt W s E → Calls Tryz.prog 54 #[.pointer (some ⟨s.sb, 0, none⟩), k.v] W fun e w' => e = .returned (.int .i64 (aheadE E false k)) ∧ Below W.heap.size W w') := fun W hW => rank_any hW hk
  have HB := hidMk (And.intro (ahead_bd E false k) h.few)
  have HE : Hid (edgeP E k bh z = if k = zId then (z, true) else if bh = true then (aheadE E false k + 1, decide (aheadE E false k ≥ 0)) else (aheadE E false k, decide (aheadE E false k ≥ 0))) := rfl
  generalize edgeP E k bh z = res at *
  generalize aheadE E false k = r at *
  show Calls Tryz.prog 102 #[.pointer (some ⟨s.sb, 0, none⟩), .agg k.c.toArray, .bool bh, .int .i64 z] w _
  go_enter Tryz.func102, Tryz.ntmps102
  go_upto_region 1 with fail
  generalize w.alloc (.cells k.c.toArray 36) = wx at *
  have h1 := h.below bx
  have HX := hidMk hx
  clear hx
  refine edg1 (k := k) (r := r) (fun W => Below wx.heap.size wx W) _ wx _ rfl rfl rfl (fun W e => by rw [e]; exact load_id hk HX.out) (HR.out _ h1) ?_
  intro a' w1 hf ha
  subst ha
  simp only [Act.put, qsA, qsB, qsC]
  have HX1 := hidMk (HX.out.below hf)
  have B1 := hidMk (bx.trans (hf.mono bx.size))
  clear HX HR hf h1
  go_upto_region 2 with fail
  obtain ⟨q, hq⟩ : ∃ q, decide (k = zId) = q := ⟨_, rfl⟩
  refine edg2 (k := k) (z := q) _ w1 _ rfl rfl hk hq (fun W e => by rw [e]; exact load_id hk HX1.out) ?_
  intro a' w2 hw ha
  obtain rfl : w1 = w2 := hw.symm
  subst ha
  simp only [Act.put, qsA, qsB, qsC]
  have HQ := hidMk hq
  clear hq HX1
  cases q with
  | true =>
    have e : res = (z, true) := by rw [HE.out, if_pos (of_decide_eq_true HQ.out)]
    clear HE
    subst e
    go_wp2
    refine bodyPost_ret (results_tmp2 rfl _ _ _) rfl ?_
    exact ⟨rfl, B1.out⟩
  | false =>
    obtain ⟨y, hy⟩ : ∃ y, decide (r ≥ 0) = y := ⟨_, rfl⟩
    have HY := hidMk hy
    clear hy
    cases bh with
    | true =>
      have e : res = (r + 1, y) := by rw [HE.out, if_neg (of_decide_eq_false HQ.out), if_pos rfl, HY.out]
      clear HE
      subst e
      go_upto_region 5 with fail
      refine edg5 (r := r) (z := y) _ w1 _ rfl rfl (by have := HB.out; omega) HY.out ?_
      intro a' w2 hw ha
      obtain rfl : w1 = w2 := hw.symm
      subst ha
      simp only [Act.put, qsA, qsB, qsC]
      clear HB
      go_wp2
      refine bodyPost_ret (results_tmp2 rfl _ _ _) rfl ?_
      exact ⟨rfl, B1.out⟩
    | false =>
      have e : res = (r, y) := by rw [HE.out, if_neg (of_decide_eq_false HQ.out), if_neg (by decide), HY.out]
      clear HE
      subst e
      go_upto_region 6 with fail
      refine edg6 (r := r) (z := y) _ w1 _ rfl rfl HY.out ?_
      intro a' w2 hw ha
      obtain rfl : w1 = w2 := hw.symm
      subst ha
      simp only [Act.put, qsA, qsB, qsC]
      clear HB
      go_wp2
      refine bodyPost_ret (results_tmp2 rfl _ _ _) rfl ?_
      exact ⟨rfl, B1.out⟩
theorem index_at_any (h : SeqAt w s E) {r : Int} (hr : -9223372036854775808 ≤ r ∧ r ≤ 9223372036854775807) : Calls Tryz.prog 55 #[.pointer (some ⟨s.sb, 0, none⟩), .int .i64 r] w fun e w' => e = .returned (.int .i64 (idxE E r)) ∧ Below w.heap.size w w' := by
  have HE : Hid (idxE E r = if (nthE E false r).2 = true then aheadE E true (nthE E false r).1 else ((visE E true).length : Int)) := rfl
  have OK : (nthE E false r).1.ok := nthE_ok h.lk.ok false r
  have CA : Hid (Calls Tryz.prog 77 #[.pointer (some ⟨s.sb, 0, none⟩), .int .i64 r] w fun e w' => e = .returned (.tuple #[(nthE E false r).1.v, .bool (nthE E false r).2]) ∧ ∃ b1 w1 w2, (Instr.alloc 36 true (.tuple #[])).run Tryz.prog w' = .ok (.pointer (some ⟨b1, 0, none⟩)) w1 ∧ (Instr.storeAt 36 (.pointer (some ⟨b1, 0, none⟩)) (nthE E false r).1.v).run Tryz.prog w1 = .ok () w2 ∧ (IdAt w2 b1 (nthE E false r).1 ∧ Below w.heap.size w w2)) := by
    refine (at_any h r hr).mono ?_
    rintro e w' ⟨rfl, b⟩
    have i0 := id_new w' zId
    have bx : Below w'.heap.size w' (w'.alloc (.cells zId.c.toArray 36)) := (Below.refl _ _).alloc (Nat.le_refl _) _
    refine ⟨rfl, w'.heap.size, _, _, id_zero w', store_id zId_ok OK i0, i0.set _, ?_⟩
    have b2 := b.trans (bx.mono b.size)
    exact b2.trans (set_below _ b2.size b.size)
  have HI : Hid (∀ W, SeqAt W s E → Calls Tryz.prog 78 #[.pointer (some ⟨s.sb, 0, none⟩), (nthE E false r).1.v] W fun e w' => e = .returned (.int .i64 (aheadE E true (nthE E false r).1)) ∧ Below W.heap.size W w') := fun W hW => index_any hW OK
  have HS : Hid (∀ W, SeqAt W s E → Calls Tryz.prog 79 #[.pointer (some ⟨s.sb, 0, none⟩)] W fun e w' => e = .returned (.int .i64 ((visE E true).length : Int)) ∧ Below W.heap.size W w') := fun W hW => shown_any hW
  have HH := hidMk (fun (W : World) (b : Below w.heap.size w W) => h.below b)
  clear h
  generalize idxE E r = res at *
  generalize nthE E false r = kb at *
  obtain ⟨k, q⟩ := kb
  simp only at OK CA HI HE
  go_enter Tryz.func55, Tryz.ntmps55
  go_upto_region 1 with fail
  refine ixa1 (k := k) (z := q) (fun b1 W => IdAt W b1 k ∧ Below w.heap.size w W) _ w _ rfl rfl rfl CA.out ?_
  intro b1 a' w1 hf ha
  subst ha
  simp only [Act.put, qsA, qsB, qsC]
  have HF := hidMk hf
  clear hf CA
  cases q with
  | true =>
    have e : res = aheadE E true k := by rw [HE.out, if_pos rfl]
    clear HE
    subst e
    go_upto_region 3 with fail
    refine ixa3 (k := k) (r := aheadE E true k) (fun W => Below w1.heap.size w1 W) _ w1 _ rfl rfl rfl (fun W e => by rw [e]; exact load_id OK HF.out.1) (HI.out _ (HH.out _ HF.out.2)) ?_
    intro a' w2 hf ha
    subst ha
    simp only [Act.put, qsA, qsB, qsC]
    have B2 : Hid (Below w.heap.size w w2) := HF.out.2.trans (hf.mono HF.out.2.size)
    clear hf
    go_wp2
    go_ret
    exact ⟨rfl, B2.out⟩
  | false =>
    have e : res = ((visE E true).length : Int) := by rw [HE.out, if_neg (by decide)]
    clear HE
    subst e
    go_wp2_with (first
      | (go_at_call 79; refine (HS.out _ (HH.out _ HF.out.2)).mono ?_; rintro e w2 ⟨rfl, hb⟩)
      | fail)
    go_ret
    exact ⟨rfl, HF.out.2.trans (hb.mono HF.out.2.size)⟩
end
theorem and_one {s : Int} (h : 0 ≤ s ∧ s ≤ 3) (W : World) : (binOp .and 3 (.int .i64 s) (.int .i64 1)).run Tryz.prog W = .ok (.int .i64 (if bF s = true then 1 else 0)) W := by
  rcases (show s = 0 ∨ s = 1 ∨ s = 2 ∨ s = 3 by omega) with rfl | rfl | rfl | rfl <;> kernel_rfl
theorem and_two {s : Int} (h : 0 ≤ s ∧ s ≤ 3) (W : World) : (binOp .and 3 (.int .i64 s) (.int .i64 2)).run Tryz.prog W = .ok (.int .i64 (if bT s = true then 2 else 0)) W := by
  rcases (show s = 0 ∨ s = 1 ∨ s = 2 ∨ s = 3 by omega) with rfl | rfl | rfl | rfl <;> kernel_rfl
section
variable {w : World} {s : Sx} {E : List Elt}
theorem reach_any (h : SeqAt w s E) {x : MkV} (hx : x.ok) (hs : 0 ≤ x.sd ∧ x.sd ≤ 3) {b : Nat} (hb : RM.Bx w b x) : Calls Tryz.prog 81 #[.pointer (some ⟨b, 0, none⟩), .pointer (some ⟨s.sb, 0, none⟩)] w fun e w' => e = .returned (.tuple #[.int .i64 (reachP E x).1, .int .i64 (reachP E x).2]) ∧ Below w.heap.size w w' := by
  have HE : Hid (reachP E x = if (edgeP E x.fr (bF x.sd) 0).2 = true ∧ (edgeP E x.to (bT x.sd) (E.length : Int)).2 = true then ((edgeP E x.fr (bF x.sd) 0).1, (edgeP E x.to (bT x.sd) (E.length : Int)).1) else (0, 0)) := rfl
  have hf := h.few
  have C1 : Hid (∀ W, SeqAt W s E → Calls Tryz.prog 102 #[.pointer (some ⟨s.sb, 0, none⟩), x.fr.v, .bool (bF x.sd), .int .i64 0] W fun e w' => e = .returned (.tuple #[.int .i64 (edgeP E x.fr (bF x.sd) 0).1, .bool (edgeP E x.fr (bF x.sd) 0).2]) ∧ Below W.heap.size W w') := fun W hW => edge_any hW hx.fr _ (by omega)
  have C2 : Hid (∀ W, SeqAt W s E → Calls Tryz.prog 102 #[.pointer (some ⟨s.sb, 0, none⟩), x.to.v, .bool (bT x.sd), .int .i64 (E.length : Int)] W fun e w' => e = .returned (.tuple #[.int .i64 (edgeP E x.to (bT x.sd) (E.length : Int)).1, .bool (edgeP E x.to (bT x.sd) (E.length : Int)).2]) ∧ Below W.heap.size W w') := fun W hW => edge_any hW hx.to _ (by omega)
  have CL : Hid (∀ W, SeqAt W s E → Calls Tryz.prog 103 #[.pointer (some ⟨s.sb, 0, none⟩)] W fun e w' => e = .returned (.int .i64 (E.length : Int)) ∧ Below W.heap.size W w') := fun W hW => by
    have := len_any hW
    rw [vis_all] at this
    exact this
  have HH := hidMk (fun (W : World) (bl : Below w.heap.size w W) => And.intro (h.below bl) (hb.below bl))
  have hxx := hidMk hx
  have r1 : decide ((if bF x.sd = true then (1 : Int) else 0) ≠ 0) = bF x.sd := by cases bF x.sd <;> rfl
  have r2 : decide ((if bT x.sd = true then (2 : Int) else 0) ≠ 0) = bT x.sd := by cases bT x.sd <;> rfl
  obtain ⟨q1, hq1⟩ : ∃ q, (if bF x.sd = true then (1 : Int) else 0) = q := ⟨_, rfl⟩
  obtain ⟨q2, hq2⟩ : ∃ q, (if bT x.sd = true then (2 : Int) else 0) = q := ⟨_, rfl⟩
  rw [hq1] at r1
  rw [hq2] at r2
  have A1 : Hid (∀ W, (binOp .and 3 (.int .i64 x.sd) (.int .i64 1)).run Tryz.prog W = .ok (.int .i64 q1) W) := fun W => by rw [← hq1]; exact and_one hs W
  have A2 : Hid (∀ W, (binOp .and 3 (.int .i64 x.sd) (.int .i64 2)).run Tryz.prog W = .ok (.int .i64 q2) W) := fun W => by rw [← hq2]; exact and_two hs W
  have R1 := hidMk r1
  have R2 := hidMk r2
  clear h hb hf hx hs r1 r2 hq1 hq2
  generalize reachP E x = res at *
  generalize edgeP E x.fr (bF x.sd) 0 = e1 at *
  generalize edgeP E x.to (bT x.sd) (E.length : Int) = e2 at *
  obtain ⟨f1, z1⟩ := e1
  obtain ⟨f2, z2⟩ := e2
  simp only at C1 C2 HE
  go_enter Tryz.func81, Tryz.ntmps81
  go_upto_region 1 with fail
  refine rea1 (x := x) (b := b) (q := q1) (f := f1) (z := z1) (r := bF x.sd) (fun W => Below w.heap.size w W) _ w _ rfl rfl rfl ((Below.refl _ _).drew) R1.out A1.out (fun W bl => mk_fr hxx.out (HH.out W bl).2.rng) (fun W bl => mk_sd hxx.out (HH.out W bl).2.rng) ((C1.out _ (HH.out _ (Below.refl _ _).drew).1).mono ?_) ?_
  · rintro e w' ⟨rfl, bl⟩
    exact ⟨rfl, (Below.refl _ _).drew.trans (bl.mono (Below.refl w.heap.size w).drew.size)⟩
  intro a' w1 hf ha
  subst ha
  simp only [Act.put, qsA, qsB, qsC]
  have B1 := hidMk hf
  clear hf C1 R1
  go_upto_region 2 with fail
  refine rea2 (x := x) (b := b) (q := q2) (f := f2) (n := (E.length : Int)) (z := z2) (r := bT x.sd) (fun W => Below w.heap.size w W) _ w1 _ rfl rfl rfl (B1.out.drew) R2.out A2.out (fun W bl => mk_to hxx.out (HH.out W bl).2.rng) (fun W bl => mk_sd hxx.out (HH.out W bl).2.rng) ((CL.out _ (HH.out _ B1.out.drew).1).mono ?_) ?_
  · rintro e w' ⟨rfl, bl⟩
    have b2 := B1.out.drew.trans (bl.mono B1.out.drew.size)
    refine ⟨rfl, b2, (C2.out _ (HH.out _ b2).1).mono ?_⟩
    rintro e w'' ⟨rfl, bl⟩
    exact ⟨rfl, b2.trans (bl.mono b2.size)⟩
  intro a' w2 hf ha
  subst ha
  simp only [Act.put, qsA, qsB, qsC]
  have B2 := hidMk hf
  clear hf C2 R2 CL HH B1 hxx A1 A2
  generalize bF x.sd = g1 at *
  generalize bT x.sd = g2 at *
  cases z1 with
  | false =>
    have e : res = (0, 0) := by rw [HE.out, if_neg (fun q => by cases q.1)]
    clear HE
    subst e
    go_wp2
    refine bodyPost_ret (results_tmp2 rfl _ _ _) rfl ?_
    exact ⟨rfl, B2.out⟩
  | true =>
    cases z2 with
    | false =>
      have e : res = (0, 0) := by rw [HE.out, if_neg (fun q => by cases q.2)]
      clear HE
      subst e
      go_wp2
      refine bodyPost_ret (results_tmp2 rfl _ _ _) rfl ?_
      exact ⟨rfl, B2.out⟩
    | true =>
      have e : res = (f1, f2) := by rw [HE.out, if_pos ⟨rfl, rfl⟩]
      clear HE
      subst e
      go_wp2
      refine bodyPost_ret (results_tmp2 rfl _ _ _) rfl ?_
      exact ⟨rfl, B2.out⟩
end
end Go.Proofs.YtifendlpeebofaaGreatDoor
namespace Go.Proofs.YtifendlpeebofaaGreatDoor.K
open Go.RowKit
@[go_sem] theorem bits_run (b : Nat) (w : World) : (callFunc 68 #[.float .f64 b]).run Tryz.prog w = .ok (.value (.int .u64 b)) w := by
  rw [run_callFunc_extern Tryz.func68 (by kernel_rfl) (by kernel_rfl) (by kernel_rfl) (e := Extern.MathFloatBits.float64bits) (by kernel_rfl)]
  rfl
@[go_sem] theorem from_run (n : Int) (w : World) : (callFunc 172 #[.int .u64 n]).run Tryz.prog w = .ok (.value (.float .f64 n.toNat)) w := by
  rw [run_callFunc_extern Tryz.func172 (by kernel_rfl) (by kernel_rfl) (by kernel_rfl) (e := Extern.MathFloatBits.float64frombits) (by kernel_rfl)]
  rfl
theorem below_drewN {B : Nat} {a w : World} (h : Below B a w) : ∀ q, Below B a (w.drewN q)
  | 0 => h
  | q + 1 => (below_drewN h q).drew
theorem bel_box (w : World) (c : Array Value) (t : TypeId) : Below w.heap.size w (w.alloc (.cells c t)) := (Below.refl _ _).alloc (Nat.le_refl _) _
namespace V
def by8 (s : ByteArray) (k : Nat) : Nat := (s.data.toList.getD k 0).toNat
theorem by8_lt (s : ByteArray) (k : Nat) : by8 s k < 256 := by unfold by8; exact (s.data.toList.getD k 0).toNat_lt
theorem index_str (s : ByteArray) (k : Nat) (w : World) (h : k < s.size) : (Instr.index 9 (.string s) (.int .i64 (k : Int))).run Tryz.prog w = .ok (.int .u8 (by8 s k : Int)) w := by
  have hd : s.data.toList[k]? = some (s[k]'h) := by simp [h]; rfl
  have e : by8 s k = (s[k]'h).toNat := by
    unfold by8
    rw [List.getD_eq_getElem?_getD, hd]
    rfl
  rw [e]
  simp [Instr.index, asIntOf, run_underlying Tryz.underlying9, h]
def TailP (s : ByteArray) (n lo hi : Nat) : Prop := n ≤ s.size ∧ lo ≤ by8 s 1 ∧ by8 s 1 ≤ hi ∧ ∀ i, 2 ≤ i → i < n → 128 ≤ by8 s i ∧ by8 s i ≤ 191
def TailOut (s : ByteArray) (n lo hi : Nat) (w : World) (e : Ending) (w' : World) : Prop := ∃ b, e = .returned (.bool b) ∧ (b = true ↔ TailP s n lo hi) ∧ w' = w
theorem tail_no {s : ByteArray} {n lo hi : Nat} {w : World} (h : ¬ TailP s n lo hi) : TailOut s n lo hi w (.returned (.bool false)) w := ⟨false, rfl, ⟨fun e => (by cases e), fun e => absurd e h⟩, rfl⟩
theorem tail_yes {s : ByteArray} {n lo hi : Nat} {w : World} (h : TailP s n lo hi) : TailOut s n lo hi w (.returned (.bool true)) w := ⟨true, rfl, ⟨fun _ => h, fun _ => rfl⟩, rfl⟩
theorem tail_any (s : ByteArray) (n lo hi : Nat) (w : World) (hn : 2 ≤ n) (hn2 : n ≤ 4) (hlo : lo < 256) (hhi : hi < 256) :
    Calls Tryz.prog 150 #[.string s, .int .i64 (n : Int), .int .u8 (lo : Int), .int .u8 (hi : Int)] w (TailOut s n lo hi w) := by
  by_cases h1 : s.size < n
  · have h1' : (s.size : Int) < (n : Int) := by omega
    go_enter Tryz.func150, Tryz.ntmps150
    go_wp2
    go_ret
    exact tail_no (fun h => (by have := h.1; omega))
  have h1' : ¬ (s.size : Int) < (n : Int) := by omega
  have i1 := index_str s 1 w (by omega)
  simp only [Int.cast_ofNat_Int] at i1
  by_cases h2 : by8 s 1 < lo
  · have h2' : (by8 s 1 : Int) < (lo : Int) := by omega
    go_enter Tryz.func150, Tryz.ntmps150
    go_wp2
    go_ret
    exact tail_no (fun h => (by have := h.2.1; omega))
  have h2' : ¬ (by8 s 1 : Int) < (lo : Int) := by omega
  by_cases h3 : hi < by8 s 1
  · have h3' : (hi : Int) < (by8 s 1 : Int) := by omega
    go_enter Tryz.func150, Tryz.ntmps150
    go_wp2
    go_ret
    exact tail_no (fun h => (by have := h.2.2.1; omega))
  have h3' : ¬ (hi : Int) < (by8 s 1 : Int) := by omega
  go_enter Tryz.func150, Tryz.ntmps150
  go_wp2
  go_loopw [9] (fun i wr => ∃ k : Nat, 2 ≤ k ∧ k ≤ n ∧ i = .int .i64 k ∧ wr = w ∧ ∀ j, 2 ≤ j → j < k → 128 ≤ by8 s j ∧ by8 s j ≤ 191) (fun i _ => n - (intOf i).toNat)
  case atStart => exact ⟨2, by omega, by omega, rfl, rfl, fun j _ _ => by omega⟩
  case round =>
    obtain ⟨k, hk2, hkn, rfl, rfl, hj⟩ := hrel
    by_cases h4 : k < n
    · have h4' : (k : Int) < (n : Int) := by omega
      have ik := index_str s k wr (by omega)
      by_cases h5 : by8 s k < 128
      · have h5' : (by8 s k : Int) < 128 := by omega
        go_wp2
        go_ret
        exact tail_no (fun h => (by have := h.2.2.2 k hk2 h4; omega))
      have h5' : ¬ (by8 s k : Int) < 128 := by omega
      by_cases h6 : 191 < by8 s k
      · have h6' : (191 : Int) < (by8 s k : Int) := by omega
        go_wp2
        go_ret
        exact tail_no (fun h => (by have := h.2.2.2 k hk2 h4; omega))
      have h6' : ¬ (191 : Int) < (by8 s k : Int) := by omega
      go_wp2
      go_roundw
      case rel =>
        refine ⟨k + 1, by omega, by omega, by go_num, by trivial, fun j hj1 hj2 => ?_⟩
        rcases Nat.lt_or_ge j k with h | h
        · exact hj j hj1 h
        · have : j = k := by omega
          subst this
          omega
      case measure => simp [intOf]; omega
    · have h4' : ¬ (k : Int) < (n : Int) := by omega
      obtain rfl : k = n := by omega
      go_wp2
      go_ret
      exact tail_yes ⟨by omega, by omega, by omega, hj⟩
end V
namespace V
def wideN (s : ByteArray) : Nat :=
  if by8 s 0 < 128 then 1 else (Lib.checkN s.size (by8 s 1) (by8 s 2) (by8 s 3) (Lib.firstT (by8 s 0) % 8) (Lib.accLo (Lib.firstT (by8 s 0) / 16)) (Lib.accHi (Lib.firstT (by8 s 0) / 16))).getD 0
theorem tail_2 (s : ByteArray) (lo hi : Nat) : (TailP s 2 lo hi → Lib.checkN s.size (by8 s 1) (by8 s 2) (by8 s 3) 2 lo hi = some 2) ∧ (¬ TailP s 2 lo hi → Lib.checkN s.size (by8 s 1) (by8 s 2) (by8 s 3) 2 lo hi = none) := by
  unfold TailP Lib.checkN
  constructor
  · rintro ⟨h1, h2, h3, h4⟩
    rw [if_pos rfl, if_neg (by omega)]
  · intro h
    rw [if_pos rfl, if_pos]
    apply Classical.byContradiction
    intro hc
    exact h ⟨by omega, by omega, by omega, fun i _ _ => by omega⟩
theorem tail_3 (s : ByteArray) (lo hi : Nat) : (TailP s 3 lo hi → Lib.checkN s.size (by8 s 1) (by8 s 2) (by8 s 3) 3 lo hi = some 3) ∧ (¬ TailP s 3 lo hi → Lib.checkN s.size (by8 s 1) (by8 s 2) (by8 s 3) 3 lo hi = none) := by
  unfold TailP Lib.checkN
  constructor
  · rintro ⟨h1, h2, h3, h4⟩
    have := h4 2 (by omega) (by omega)
    rw [if_neg (by omega), if_pos rfl, if_neg (by omega)]
  · intro h
    rw [if_neg (by omega), if_pos rfl, if_pos]
    apply Classical.byContradiction
    intro hc
    refine h ⟨by omega, by omega, by omega, fun i h1 h2 => ?_⟩
    obtain rfl : i = 2 := by omega
    omega
theorem tail_4 (s : ByteArray) (lo hi : Nat) : (TailP s 4 lo hi → Lib.checkN s.size (by8 s 1) (by8 s 2) (by8 s 3) 4 lo hi = some 4) ∧ (¬ TailP s 4 lo hi → Lib.checkN s.size (by8 s 1) (by8 s 2) (by8 s 3) 4 lo hi = none) := by
  unfold TailP Lib.checkN
  constructor
  · rintro ⟨h1, h2, h3, h4⟩
    have := h4 2 (by omega) (by omega)
    have := h4 3 (by omega) (by omega)
    rw [if_neg (by omega), if_neg (by omega), if_pos rfl, if_neg (by omega)]
  · intro h
    rw [if_neg (by omega), if_neg (by omega), if_pos rfl, if_pos]
    apply Classical.byContradiction
    intro hc
    refine h ⟨by omega, by omega, by omega, fun i h1 h2 => ?_⟩
    rcases (show i = 2 ∨ i = 3 by omega) with rfl | rfl <;> omega
theorem tail_true {s : ByteArray} {n lo hi : Nat} (h : TailP s n lo hi) (hn : 2 ≤ n) (hn2 : n ≤ 4) (hlo : lo < 256) (hhi : hi < 256) (w : World) :
    Calls Tryz.prog 150 #[.string s, .int .i64 (n : Int), .int .u8 (lo : Int), .int .u8 (hi : Int)] w fun e w' => e = .returned (.bool true) ∧ w' = w :=
  (tail_any s n lo hi w hn hn2 hlo hhi).mono fun e w' ⟨b, he, hb, hw⟩ => ⟨by rw [he, hb.2 h], hw⟩
theorem tail_false {s : ByteArray} {n lo hi : Nat} (h : ¬ TailP s n lo hi) (hn : 2 ≤ n) (hn2 : n ≤ 4) (hlo : lo < 256) (hhi : hi < 256) (w : World) :
    Calls Tryz.prog 150 #[.string s, .int .i64 (n : Int), .int .u8 (lo : Int), .int .u8 (hi : Int)] w fun e w' => e = .returned (.bool false) ∧ w' = w :=
  (tail_any s n lo hi w hn hn2 hlo hhi).mono fun e w' ⟨b, he, hb, hw⟩ => ⟨by rw [he]; cases b with | false => rfl | true => exact absurd (hb.1 rfl) h, hw⟩
theorem not_empty (s : ByteArray) (h : 0 < s.size) : s.toList.isEmpty = false := by
  rw [ByteArray.toList_eq]
  cases hq : s.data.toList with
  | nil =>
    have : s.data.toList.length = s.size := by simp
    rw [hq] at this
    simp at this
    omega
  | cons => rfl
theorem wide_asc (s : ByteArray) (w : World) (h0 : 0 < s.size) (hc : by8 s 0 < 128) :
    Calls Tryz.prog 118 #[.string s] w fun e w' => e = .returned (.int .i64 1) ∧ w' = w := by
  have hne := not_empty s h0
  have i0 := index_str s 0 w h0
  simp only [Int.cast_ofNat_Int] at i0
  have c128 : (by8 s 0 : Int) < 128 := by omega
  go_enter Tryz.func118, Tryz.ntmps118
  go_wp2
  go_ret
  exact ⟨rfl, rfl⟩
theorem wide_lo (s : ByteArray) (w : World) (c : Nat) (h0 : 0 < s.size) (hc : by8 s 0 = c) (ha : 128 ≤ c) (hb : c ≤ 193) :
    Calls Tryz.prog 118 #[.string s] w fun e w' => e = .returned (.int .i64 0) ∧ w' = w := by
  have hne := not_empty s h0
  have i0 := index_str s 0 w h0
  simp only [Int.cast_ofNat_Int] at i0
  rw [hc] at i0
  have c128 : ¬ ((c : Int) < 128) := by omega
  have g194 : ¬ (194 ≤ (c : Int)) := by omega
  have l223 : ((c : Int) ≤ 223) := by omega
  have e224 : ¬ ((c : Int) = 224) := by omega
  have g225 : ¬ (225 ≤ (c : Int)) := by omega
  have l239 : ((c : Int) ≤ 239) := by omega
  have e237 : ¬ ((c : Int) = 237) := by omega
  have e240 : ¬ ((c : Int) = 240) := by omega
  have g241 : ¬ (241 ≤ (c : Int)) := by omega
  have l243 : ((c : Int) ≤ 243) := by omega
  have e244 : ¬ ((c : Int) = 244) := by omega
  clear hc ha hb h0
  go_enter Tryz.func118, Tryz.ntmps118
  go_wp2
  go_ret
  exact ⟨rfl, rfl⟩
theorem wide_two_t (s : ByteArray) (w : World) (c : Nat) (h0 : 0 < s.size) (hc : by8 s 0 = c) (ha : 194 ≤ c) (hb : c ≤ 223) (hT : TailP s 2 128 191) :
    Calls Tryz.prog 118 #[.string s] w fun e w' => e = .returned (.int .i64 2) ∧ w' = w := by
  have hne := not_empty s h0
  have i0 := index_str s 0 w h0
  simp only [Int.cast_ofNat_Int] at i0
  rw [hc] at i0
  have c128 : ¬ ((c : Int) < 128) := by omega
  have g194 : (194 ≤ (c : Int)) := by omega
  have l223 : ((c : Int) ≤ 223) := by omega
  have e224 : ¬ ((c : Int) = 224) := by omega
  have g225 : ¬ (225 ≤ (c : Int)) := by omega
  have l239 : ((c : Int) ≤ 239) := by omega
  have e237 : ¬ ((c : Int) = 237) := by omega
  have e240 : ¬ ((c : Int) = 240) := by omega
  have g241 : ¬ (241 ≤ (c : Int)) := by omega
  have l243 : ((c : Int) ≤ 243) := by omega
  have e244 : ¬ ((c : Int) = 244) := by omega
  have T : Hid (∀ wx, Calls Tryz.prog 150 #[.string s, .int .i64 2, .int .u8 128, .int .u8 191] wx fun e w' => e = .returned (.bool true) ∧ w' = wx) := fun wx => tail_true hT (by omega) (by omega) (by omega) (by omega) wx
  clear hT
  clear hc ha hb h0
  go_enter Tryz.func118, Tryz.ntmps118
  go_wp2_with (first | (go_at_call 150; refine (T.out _).mono ?_; rintro e _ ⟨rfl, rfl⟩) | fail)
  go_ret
  exact ⟨rfl, rfl⟩
theorem wide_two_f (s : ByteArray) (w : World) (c : Nat) (h0 : 0 < s.size) (hc : by8 s 0 = c) (ha : 194 ≤ c) (hb : c ≤ 223) (hT : ¬ TailP s 2 128 191) :
    Calls Tryz.prog 118 #[.string s] w fun e w' => e = .returned (.int .i64 0) ∧ w' = w := by
  have hne := not_empty s h0
  have i0 := index_str s 0 w h0
  simp only [Int.cast_ofNat_Int] at i0
  rw [hc] at i0
  have c128 : ¬ ((c : Int) < 128) := by omega
  have g194 : (194 ≤ (c : Int)) := by omega
  have l223 : ((c : Int) ≤ 223) := by omega
  have e224 : ¬ ((c : Int) = 224) := by omega
  have g225 : ¬ (225 ≤ (c : Int)) := by omega
  have l239 : ((c : Int) ≤ 239) := by omega
  have e237 : ¬ ((c : Int) = 237) := by omega
  have e240 : ¬ ((c : Int) = 240) := by omega
  have g241 : ¬ (241 ≤ (c : Int)) := by omega
  have l243 : ((c : Int) ≤ 243) := by omega
  have e244 : ¬ ((c : Int) = 244) := by omega
  have T : Hid (∀ wx, Calls Tryz.prog 150 #[.string s, .int .i64 2, .int .u8 128, .int .u8 191] wx fun e w' => e = .returned (.bool false) ∧ w' = wx) := fun wx => tail_false hT (by omega) (by omega) (by omega) (by omega) wx
  clear hT
  clear hc ha hb h0
  go_enter Tryz.func118, Tryz.ntmps118
  go_wp2_with (first | (go_at_call 150; refine (T.out _).mono ?_; rintro e _ ⟨rfl, rfl⟩) | fail)
  go_ret
  exact ⟨rfl, rfl⟩
theorem wide_e0_t (s : ByteArray) (w : World) (c : Nat) (h0 : 0 < s.size) (hc : by8 s 0 = c) (ha : 224 ≤ c) (hb : c ≤ 224) (hT : TailP s 3 160 191) :
    Calls Tryz.prog 118 #[.string s] w fun e w' => e = .returned (.int .i64 3) ∧ w' = w := by
  have hne := not_empty s h0
  have i0 := index_str s 0 w h0
  simp only [Int.cast_ofNat_Int] at i0
  rw [hc] at i0
  have c128 : ¬ ((c : Int) < 128) := by omega
  have g194 : (194 ≤ (c : Int)) := by omega
  have l223 : ¬ ((c : Int) ≤ 223) := by omega
  have e224 : ((c : Int) = 224) := by omega
  have g225 : ¬ (225 ≤ (c : Int)) := by omega
  have l239 : ((c : Int) ≤ 239) := by omega
  have e237 : ¬ ((c : Int) = 237) := by omega
  have e240 : ¬ ((c : Int) = 240) := by omega
  have g241 : ¬ (241 ≤ (c : Int)) := by omega
  have l243 : ((c : Int) ≤ 243) := by omega
  have e244 : ¬ ((c : Int) = 244) := by omega
  have T : Hid (∀ wx, Calls Tryz.prog 150 #[.string s, .int .i64 3, .int .u8 160, .int .u8 191] wx fun e w' => e = .returned (.bool true) ∧ w' = wx) := fun wx => tail_true hT (by omega) (by omega) (by omega) (by omega) wx
  clear hT
  clear hc ha hb h0
  go_enter Tryz.func118, Tryz.ntmps118
  go_wp2_with (first | (go_at_call 150; refine (T.out _).mono ?_; rintro e _ ⟨rfl, rfl⟩) | fail)
  go_ret
  exact ⟨rfl, rfl⟩
theorem wide_e0_f (s : ByteArray) (w : World) (c : Nat) (h0 : 0 < s.size) (hc : by8 s 0 = c) (ha : 224 ≤ c) (hb : c ≤ 224) (hT : ¬ TailP s 3 160 191) :
    Calls Tryz.prog 118 #[.string s] w fun e w' => e = .returned (.int .i64 0) ∧ w' = w := by
  have hne := not_empty s h0
  have i0 := index_str s 0 w h0
  simp only [Int.cast_ofNat_Int] at i0
  rw [hc] at i0
  have c128 : ¬ ((c : Int) < 128) := by omega
  have g194 : (194 ≤ (c : Int)) := by omega
  have l223 : ¬ ((c : Int) ≤ 223) := by omega
  have e224 : ((c : Int) = 224) := by omega
  have g225 : ¬ (225 ≤ (c : Int)) := by omega
  have l239 : ((c : Int) ≤ 239) := by omega
  have e237 : ¬ ((c : Int) = 237) := by omega
  have e240 : ¬ ((c : Int) = 240) := by omega
  have g241 : ¬ (241 ≤ (c : Int)) := by omega
  have l243 : ((c : Int) ≤ 243) := by omega
  have e244 : ¬ ((c : Int) = 244) := by omega
  have T : Hid (∀ wx, Calls Tryz.prog 150 #[.string s, .int .i64 3, .int .u8 160, .int .u8 191] wx fun e w' => e = .returned (.bool false) ∧ w' = wx) := fun wx => tail_false hT (by omega) (by omega) (by omega) (by omega) wx
  clear hT
  clear hc ha hb h0
  go_enter Tryz.func118, Tryz.ntmps118
  go_wp2_with (first | (go_at_call 150; refine (T.out _).mono ?_; rintro e _ ⟨rfl, rfl⟩) | fail)
  go_ret
  exact ⟨rfl, rfl⟩
theorem wide_e1_t (s : ByteArray) (w : World) (c : Nat) (h0 : 0 < s.size) (hc : by8 s 0 = c) (ha : 225 ≤ c) (hb : c ≤ 236) (hT : TailP s 3 128 191) :
    Calls Tryz.prog 118 #[.string s] w fun e w' => e = .returned (.int .i64 3) ∧ w' = w := by
  have hne := not_empty s h0
  have i0 := index_str s 0 w h0
  simp only [Int.cast_ofNat_Int] at i0
  rw [hc] at i0
  have c128 : ¬ ((c : Int) < 128) := by omega
  have g194 : (194 ≤ (c : Int)) := by omega
  have l223 : ¬ ((c : Int) ≤ 223) := by omega
  have e224 : ¬ ((c : Int) = 224) := by omega
  have g225 : (225 ≤ (c : Int)) := by omega
  have l239 : ((c : Int) ≤ 239) := by omega
  have e237 : ¬ ((c : Int) = 237) := by omega
  have e240 : ¬ ((c : Int) = 240) := by omega
  have g241 : ¬ (241 ≤ (c : Int)) := by omega
  have l243 : ((c : Int) ≤ 243) := by omega
  have e244 : ¬ ((c : Int) = 244) := by omega
  have T : Hid (∀ wx, Calls Tryz.prog 150 #[.string s, .int .i64 3, .int .u8 128, .int .u8 191] wx fun e w' => e = .returned (.bool true) ∧ w' = wx) := fun wx => tail_true hT (by omega) (by omega) (by omega) (by omega) wx
  clear hT
  clear hc ha hb h0
  go_enter Tryz.func118, Tryz.ntmps118
  go_wp2_with (first | (go_at_call 150; refine (T.out _).mono ?_; rintro e _ ⟨rfl, rfl⟩) | fail)
  go_ret
  exact ⟨rfl, rfl⟩
theorem wide_e1_f (s : ByteArray) (w : World) (c : Nat) (h0 : 0 < s.size) (hc : by8 s 0 = c) (ha : 225 ≤ c) (hb : c ≤ 236) (hT : ¬ TailP s 3 128 191) :
    Calls Tryz.prog 118 #[.string s] w fun e w' => e = .returned (.int .i64 0) ∧ w' = w := by
  have hne := not_empty s h0
  have i0 := index_str s 0 w h0
  simp only [Int.cast_ofNat_Int] at i0
  rw [hc] at i0
  have c128 : ¬ ((c : Int) < 128) := by omega
  have g194 : (194 ≤ (c : Int)) := by omega
  have l223 : ¬ ((c : Int) ≤ 223) := by omega
  have e224 : ¬ ((c : Int) = 224) := by omega
  have g225 : (225 ≤ (c : Int)) := by omega
  have l239 : ((c : Int) ≤ 239) := by omega
  have e237 : ¬ ((c : Int) = 237) := by omega
  have e240 : ¬ ((c : Int) = 240) := by omega
  have g241 : ¬ (241 ≤ (c : Int)) := by omega
  have l243 : ((c : Int) ≤ 243) := by omega
  have e244 : ¬ ((c : Int) = 244) := by omega
  have T : Hid (∀ wx, Calls Tryz.prog 150 #[.string s, .int .i64 3, .int .u8 128, .int .u8 191] wx fun e w' => e = .returned (.bool false) ∧ w' = wx) := fun wx => tail_false hT (by omega) (by omega) (by omega) (by omega) wx
  clear hT
  clear hc ha hb h0
  go_enter Tryz.func118, Tryz.ntmps118
  go_wp2_with (first | (go_at_call 150; refine (T.out _).mono ?_; rintro e _ ⟨rfl, rfl⟩) | fail)
  go_ret
  exact ⟨rfl, rfl⟩
theorem wide_ed_t (s : ByteArray) (w : World) (c : Nat) (h0 : 0 < s.size) (hc : by8 s 0 = c) (ha : 237 ≤ c) (hb : c ≤ 237) (hT : TailP s 3 128 159) :
    Calls Tryz.prog 118 #[.string s] w fun e w' => e = .returned (.int .i64 3) ∧ w' = w := by
  have hne := not_empty s h0
  have i0 := index_str s 0 w h0
  simp only [Int.cast_ofNat_Int] at i0
  rw [hc] at i0
  have c128 : ¬ ((c : Int) < 128) := by omega
  have g194 : (194 ≤ (c : Int)) := by omega
  have l223 : ¬ ((c : Int) ≤ 223) := by omega
  have e224 : ¬ ((c : Int) = 224) := by omega
  have g225 : (225 ≤ (c : Int)) := by omega
  have l239 : ((c : Int) ≤ 239) := by omega
  have e237 : ((c : Int) = 237) := by omega
  have e240 : ¬ ((c : Int) = 240) := by omega
  have g241 : ¬ (241 ≤ (c : Int)) := by omega
  have l243 : ((c : Int) ≤ 243) := by omega
  have e244 : ¬ ((c : Int) = 244) := by omega
  have T : Hid (∀ wx, Calls Tryz.prog 150 #[.string s, .int .i64 3, .int .u8 128, .int .u8 159] wx fun e w' => e = .returned (.bool true) ∧ w' = wx) := fun wx => tail_true hT (by omega) (by omega) (by omega) (by omega) wx
  clear hT
  clear hc ha hb h0
  go_enter Tryz.func118, Tryz.ntmps118
  go_wp2_with (first | (go_at_call 150; refine (T.out _).mono ?_; rintro e _ ⟨rfl, rfl⟩) | fail)
  go_ret
  exact ⟨rfl, rfl⟩
theorem wide_ed_f (s : ByteArray) (w : World) (c : Nat) (h0 : 0 < s.size) (hc : by8 s 0 = c) (ha : 237 ≤ c) (hb : c ≤ 237) (hT : ¬ TailP s 3 128 159) :
    Calls Tryz.prog 118 #[.string s] w fun e w' => e = .returned (.int .i64 0) ∧ w' = w := by
  have hne := not_empty s h0
  have i0 := index_str s 0 w h0
  simp only [Int.cast_ofNat_Int] at i0
  rw [hc] at i0
  have c128 : ¬ ((c : Int) < 128) := by omega
  have g194 : (194 ≤ (c : Int)) := by omega
  have l223 : ¬ ((c : Int) ≤ 223) := by omega
  have e224 : ¬ ((c : Int) = 224) := by omega
  have g225 : (225 ≤ (c : Int)) := by omega
  have l239 : ((c : Int) ≤ 239) := by omega
  have e237 : ((c : Int) = 237) := by omega
  have e240 : ¬ ((c : Int) = 240) := by omega
  have g241 : ¬ (241 ≤ (c : Int)) := by omega
  have l243 : ((c : Int) ≤ 243) := by omega
  have e244 : ¬ ((c : Int) = 244) := by omega
  have T : Hid (∀ wx, Calls Tryz.prog 150 #[.string s, .int .i64 3, .int .u8 128, .int .u8 159] wx fun e w' => e = .returned (.bool false) ∧ w' = wx) := fun wx => tail_false hT (by omega) (by omega) (by omega) (by omega) wx
  clear hT
  clear hc ha hb h0
  go_enter Tryz.func118, Tryz.ntmps118
  go_wp2_with (first | (go_at_call 150; refine (T.out _).mono ?_; rintro e _ ⟨rfl, rfl⟩) | fail)
  go_ret
  exact ⟨rfl, rfl⟩
theorem wide_ee_t (s : ByteArray) (w : World) (c : Nat) (h0 : 0 < s.size) (hc : by8 s 0 = c) (ha : 238 ≤ c) (hb : c ≤ 239) (hT : TailP s 3 128 191) :
    Calls Tryz.prog 118 #[.string s] w fun e w' => e = .returned (.int .i64 3) ∧ w' = w := by
  have hne := not_empty s h0
  have i0 := index_str s 0 w h0
  simp only [Int.cast_ofNat_Int] at i0
  rw [hc] at i0
  have c128 : ¬ ((c : Int) < 128) := by omega
  have g194 : (194 ≤ (c : Int)) := by omega
  have l223 : ¬ ((c : Int) ≤ 223) := by omega
  have e224 : ¬ ((c : Int) = 224) := by omega
  have g225 : (225 ≤ (c : Int)) := by omega
  have l239 : ((c : Int) ≤ 239) := by omega
  have e237 : ¬ ((c : Int) = 237) := by omega
  have e240 : ¬ ((c : Int) = 240) := by omega
  have g241 : ¬ (241 ≤ (c : Int)) := by omega
  have l243 : ((c : Int) ≤ 243) := by omega
  have e244 : ¬ ((c : Int) = 244) := by omega
  have T : Hid (∀ wx, Calls Tryz.prog 150 #[.string s, .int .i64 3, .int .u8 128, .int .u8 191] wx fun e w' => e = .returned (.bool true) ∧ w' = wx) := fun wx => tail_true hT (by omega) (by omega) (by omega) (by omega) wx
  clear hT
  clear hc ha hb h0
  go_enter Tryz.func118, Tryz.ntmps118
  go_wp2_with (first | (go_at_call 150; refine (T.out _).mono ?_; rintro e _ ⟨rfl, rfl⟩) | fail)
  go_ret
  exact ⟨rfl, rfl⟩
theorem wide_ee_f (s : ByteArray) (w : World) (c : Nat) (h0 : 0 < s.size) (hc : by8 s 0 = c) (ha : 238 ≤ c) (hb : c ≤ 239) (hT : ¬ TailP s 3 128 191) :
    Calls Tryz.prog 118 #[.string s] w fun e w' => e = .returned (.int .i64 0) ∧ w' = w := by
  have hne := not_empty s h0
  have i0 := index_str s 0 w h0
  simp only [Int.cast_ofNat_Int] at i0
  rw [hc] at i0
  have c128 : ¬ ((c : Int) < 128) := by omega
  have g194 : (194 ≤ (c : Int)) := by omega
  have l223 : ¬ ((c : Int) ≤ 223) := by omega
  have e224 : ¬ ((c : Int) = 224) := by omega
  have g225 : (225 ≤ (c : Int)) := by omega
  have l239 : ((c : Int) ≤ 239) := by omega
  have e237 : ¬ ((c : Int) = 237) := by omega
  have e240 : ¬ ((c : Int) = 240) := by omega
  have g241 : ¬ (241 ≤ (c : Int)) := by omega
  have l243 : ((c : Int) ≤ 243) := by omega
  have e244 : ¬ ((c : Int) = 244) := by omega
  have T : Hid (∀ wx, Calls Tryz.prog 150 #[.string s, .int .i64 3, .int .u8 128, .int .u8 191] wx fun e w' => e = .returned (.bool false) ∧ w' = wx) := fun wx => tail_false hT (by omega) (by omega) (by omega) (by omega) wx
  clear hT
  clear hc ha hb h0
  go_enter Tryz.func118, Tryz.ntmps118
  go_wp2_with (first | (go_at_call 150; refine (T.out _).mono ?_; rintro e _ ⟨rfl, rfl⟩) | fail)
  go_ret
  exact ⟨rfl, rfl⟩
theorem wide_f0_t (s : ByteArray) (w : World) (c : Nat) (h0 : 0 < s.size) (hc : by8 s 0 = c) (ha : 240 ≤ c) (hb : c ≤ 240) (hT : TailP s 4 144 191) :
    Calls Tryz.prog 118 #[.string s] w fun e w' => e = .returned (.int .i64 4) ∧ w' = w := by
  have hne := not_empty s h0
  have i0 := index_str s 0 w h0
  simp only [Int.cast_ofNat_Int] at i0
  rw [hc] at i0
  have c128 : ¬ ((c : Int) < 128) := by omega
  have g194 : (194 ≤ (c : Int)) := by omega
  have l223 : ¬ ((c : Int) ≤ 223) := by omega
  have e224 : ¬ ((c : Int) = 224) := by omega
  have g225 : (225 ≤ (c : Int)) := by omega
  have l239 : ¬ ((c : Int) ≤ 239) := by omega
  have e237 : ¬ ((c : Int) = 237) := by omega
  have e240 : ((c : Int) = 240) := by omega
  have g241 : ¬ (241 ≤ (c : Int)) := by omega
  have l243 : ((c : Int) ≤ 243) := by omega
  have e244 : ¬ ((c : Int) = 244) := by omega
  have T : Hid (∀ wx, Calls Tryz.prog 150 #[.string s, .int .i64 4, .int .u8 144, .int .u8 191] wx fun e w' => e = .returned (.bool true) ∧ w' = wx) := fun wx => tail_true hT (by omega) (by omega) (by omega) (by omega) wx
  clear hT
  clear hc ha hb h0
  go_enter Tryz.func118, Tryz.ntmps118
  go_wp2_with (first | (go_at_call 150; refine (T.out _).mono ?_; rintro e _ ⟨rfl, rfl⟩) | fail)
  go_ret
  exact ⟨rfl, rfl⟩
theorem wide_f0_f (s : ByteArray) (w : World) (c : Nat) (h0 : 0 < s.size) (hc : by8 s 0 = c) (ha : 240 ≤ c) (hb : c ≤ 240) (hT : ¬ TailP s 4 144 191) :
    Calls Tryz.prog 118 #[.string s] w fun e w' => e = .returned (.int .i64 0) ∧ w' = w := by
  have hne := not_empty s h0
  have i0 := index_str s 0 w h0
  simp only [Int.cast_ofNat_Int] at i0
  rw [hc] at i0
  have c128 : ¬ ((c : Int) < 128) := by omega
  have g194 : (194 ≤ (c : Int)) := by omega
  have l223 : ¬ ((c : Int) ≤ 223) := by omega
  have e224 : ¬ ((c : Int) = 224) := by omega
  have g225 : (225 ≤ (c : Int)) := by omega
  have l239 : ¬ ((c : Int) ≤ 239) := by omega
  have e237 : ¬ ((c : Int) = 237) := by omega
  have e240 : ((c : Int) = 240) := by omega
  have g241 : ¬ (241 ≤ (c : Int)) := by omega
  have l243 : ((c : Int) ≤ 243) := by omega
  have e244 : ¬ ((c : Int) = 244) := by omega
  have T : Hid (∀ wx, Calls Tryz.prog 150 #[.string s, .int .i64 4, .int .u8 144, .int .u8 191] wx fun e w' => e = .returned (.bool false) ∧ w' = wx) := fun wx => tail_false hT (by omega) (by omega) (by omega) (by omega) wx
  clear hT
  clear hc ha hb h0
  go_enter Tryz.func118, Tryz.ntmps118
  go_wp2_with (first | (go_at_call 150; refine (T.out _).mono ?_; rintro e _ ⟨rfl, rfl⟩) | fail)
  go_ret
  exact ⟨rfl, rfl⟩
theorem wide_f1_t (s : ByteArray) (w : World) (c : Nat) (h0 : 0 < s.size) (hc : by8 s 0 = c) (ha : 241 ≤ c) (hb : c ≤ 243) (hT : TailP s 4 128 191) :
    Calls Tryz.prog 118 #[.string s] w fun e w' => e = .returned (.int .i64 4) ∧ w' = w := by
  have hne := not_empty s h0
  have i0 := index_str s 0 w h0
  simp only [Int.cast_ofNat_Int] at i0
  rw [hc] at i0
  have c128 : ¬ ((c : Int) < 128) := by omega
  have g194 : (194 ≤ (c : Int)) := by omega
  have l223 : ¬ ((c : Int) ≤ 223) := by omega
  have e224 : ¬ ((c : Int) = 224) := by omega
  have g225 : (225 ≤ (c : Int)) := by omega
  have l239 : ¬ ((c : Int) ≤ 239) := by omega
  have e237 : ¬ ((c : Int) = 237) := by omega
  have e240 : ¬ ((c : Int) = 240) := by omega
  have g241 : (241 ≤ (c : Int)) := by omega
  have l243 : ((c : Int) ≤ 243) := by omega
  have e244 : ¬ ((c : Int) = 244) := by omega
  have T : Hid (∀ wx, Calls Tryz.prog 150 #[.string s, .int .i64 4, .int .u8 128, .int .u8 191] wx fun e w' => e = .returned (.bool true) ∧ w' = wx) := fun wx => tail_true hT (by omega) (by omega) (by omega) (by omega) wx
  clear hT
  clear hc ha hb h0
  go_enter Tryz.func118, Tryz.ntmps118
  go_wp2_with (first | (go_at_call 150; refine (T.out _).mono ?_; rintro e _ ⟨rfl, rfl⟩) | fail)
  go_ret
  exact ⟨rfl, rfl⟩
theorem wide_f1_f (s : ByteArray) (w : World) (c : Nat) (h0 : 0 < s.size) (hc : by8 s 0 = c) (ha : 241 ≤ c) (hb : c ≤ 243) (hT : ¬ TailP s 4 128 191) :
    Calls Tryz.prog 118 #[.string s] w fun e w' => e = .returned (.int .i64 0) ∧ w' = w := by
  have hne := not_empty s h0
  have i0 := index_str s 0 w h0
  simp only [Int.cast_ofNat_Int] at i0
  rw [hc] at i0
  have c128 : ¬ ((c : Int) < 128) := by omega
  have g194 : (194 ≤ (c : Int)) := by omega
  have l223 : ¬ ((c : Int) ≤ 223) := by omega
  have e224 : ¬ ((c : Int) = 224) := by omega
  have g225 : (225 ≤ (c : Int)) := by omega
  have l239 : ¬ ((c : Int) ≤ 239) := by omega
  have e237 : ¬ ((c : Int) = 237) := by omega
  have e240 : ¬ ((c : Int) = 240) := by omega
  have g241 : (241 ≤ (c : Int)) := by omega
  have l243 : ((c : Int) ≤ 243) := by omega
  have e244 : ¬ ((c : Int) = 244) := by omega
  have T : Hid (∀ wx, Calls Tryz.prog 150 #[.string s, .int .i64 4, .int .u8 128, .int .u8 191] wx fun e w' => e = .returned (.bool false) ∧ w' = wx) := fun wx => tail_false hT (by omega) (by omega) (by omega) (by omega) wx
  clear hT
  clear hc ha hb h0
  go_enter Tryz.func118, Tryz.ntmps118
  go_wp2_with (first | (go_at_call 150; refine (T.out _).mono ?_; rintro e _ ⟨rfl, rfl⟩) | fail)
  go_ret
  exact ⟨rfl, rfl⟩
theorem wide_f4_t (s : ByteArray) (w : World) (c : Nat) (h0 : 0 < s.size) (hc : by8 s 0 = c) (ha : 244 ≤ c) (hb : c ≤ 244) (hT : TailP s 4 128 143) :
    Calls Tryz.prog 118 #[.string s] w fun e w' => e = .returned (.int .i64 4) ∧ w' = w := by
  have hne := not_empty s h0
  have i0 := index_str s 0 w h0
  simp only [Int.cast_ofNat_Int] at i0
  rw [hc] at i0
  have c128 : ¬ ((c : Int) < 128) := by omega
  have g194 : (194 ≤ (c : Int)) := by omega
  have l223 : ¬ ((c : Int) ≤ 223) := by omega
  have e224 : ¬ ((c : Int) = 224) := by omega
  have g225 : (225 ≤ (c : Int)) := by omega
  have l239 : ¬ ((c : Int) ≤ 239) := by omega
  have e237 : ¬ ((c : Int) = 237) := by omega
  have e240 : ¬ ((c : Int) = 240) := by omega
  have g241 : (241 ≤ (c : Int)) := by omega
  have l243 : ¬ ((c : Int) ≤ 243) := by omega
  have e244 : ((c : Int) = 244) := by omega
  have T : Hid (∀ wx, Calls Tryz.prog 150 #[.string s, .int .i64 4, .int .u8 128, .int .u8 143] wx fun e w' => e = .returned (.bool true) ∧ w' = wx) := fun wx => tail_true hT (by omega) (by omega) (by omega) (by omega) wx
  clear hT
  clear hc ha hb h0
  go_enter Tryz.func118, Tryz.ntmps118
  go_wp2_with (first | (go_at_call 150; refine (T.out _).mono ?_; rintro e _ ⟨rfl, rfl⟩) | fail)
  go_ret
  exact ⟨rfl, rfl⟩
theorem wide_f4_f (s : ByteArray) (w : World) (c : Nat) (h0 : 0 < s.size) (hc : by8 s 0 = c) (ha : 244 ≤ c) (hb : c ≤ 244) (hT : ¬ TailP s 4 128 143) :
    Calls Tryz.prog 118 #[.string s] w fun e w' => e = .returned (.int .i64 0) ∧ w' = w := by
  have hne := not_empty s h0
  have i0 := index_str s 0 w h0
  simp only [Int.cast_ofNat_Int] at i0
  rw [hc] at i0
  have c128 : ¬ ((c : Int) < 128) := by omega
  have g194 : (194 ≤ (c : Int)) := by omega
  have l223 : ¬ ((c : Int) ≤ 223) := by omega
  have e224 : ¬ ((c : Int) = 224) := by omega
  have g225 : (225 ≤ (c : Int)) := by omega
  have l239 : ¬ ((c : Int) ≤ 239) := by omega
  have e237 : ¬ ((c : Int) = 237) := by omega
  have e240 : ¬ ((c : Int) = 240) := by omega
  have g241 : (241 ≤ (c : Int)) := by omega
  have l243 : ¬ ((c : Int) ≤ 243) := by omega
  have e244 : ((c : Int) = 244) := by omega
  have T : Hid (∀ wx, Calls Tryz.prog 150 #[.string s, .int .i64 4, .int .u8 128, .int .u8 143] wx fun e w' => e = .returned (.bool false) ∧ w' = wx) := fun wx => tail_false hT (by omega) (by omega) (by omega) (by omega) wx
  clear hT
  clear hc ha hb h0
  go_enter Tryz.func118, Tryz.ntmps118
  go_wp2_with (first | (go_at_call 150; refine (T.out _).mono ?_; rintro e _ ⟨rfl, rfl⟩) | fail)
  go_ret
  exact ⟨rfl, rfl⟩
theorem wide_hi (s : ByteArray) (w : World) (c : Nat) (h0 : 0 < s.size) (hc : by8 s 0 = c) (ha : 245 ≤ c) (hb : c ≤ 255) :
    Calls Tryz.prog 118 #[.string s] w fun e w' => e = .returned (.int .i64 0) ∧ w' = w := by
  have hne := not_empty s h0
  have i0 := index_str s 0 w h0
  simp only [Int.cast_ofNat_Int] at i0
  rw [hc] at i0
  have c128 : ¬ ((c : Int) < 128) := by omega
  have g194 : (194 ≤ (c : Int)) := by omega
  have l223 : ¬ ((c : Int) ≤ 223) := by omega
  have e224 : ¬ ((c : Int) = 224) := by omega
  have g225 : (225 ≤ (c : Int)) := by omega
  have l239 : ¬ ((c : Int) ≤ 239) := by omega
  have e237 : ¬ ((c : Int) = 237) := by omega
  have e240 : ¬ ((c : Int) = 240) := by omega
  have g241 : (241 ≤ (c : Int)) := by omega
  have l243 : ¬ ((c : Int) ≤ 243) := by omega
  have e244 : ¬ ((c : Int) = 244) := by omega
  clear hc ha hb h0
  go_enter Tryz.func118, Tryz.ntmps118
  go_wp2
  go_ret
  exact ⟨rfl, rfl⟩
end V
namespace V
theorem check_none (n b1 b2 b3 c lo hi : Nat) (h : c ≠ 2) (h3 : c ≠ 3) (h4 : c ≠ 4) : Lib.checkN n b1 b2 b3 c lo hi = none := by
  unfold Lib.checkN
  rw [if_neg h, if_neg h3, if_neg h4]
theorem wideN_of (s : ByteArray) (c sz lo hi : Nat) (hc : by8 s 0 = c) (h : ¬ c < 128) (e1 : Lib.firstT c % 8 = sz) (e2 : Lib.accLo (Lib.firstT c / 16) = lo) (e3 : Lib.accHi (Lib.firstT c / 16) = hi) :
    wideN s = (Lib.checkN s.size (by8 s 1) (by8 s 2) (by8 s 3) sz lo hi).getD 0 := by
  unfold wideN
  rw [hc, if_neg h, e1, e2, e3]
theorem wide_any (s : ByteArray) (w : World) (h0 : 0 < s.size) :
    Calls Tryz.prog 118 #[.string s] w fun e w' => e = .returned (.int .i64 (wideN s : Int)) ∧ w' = w := by
  by_cases h1 : by8 s 0 < 128
  · have e : wideN s = 1 := by unfold wideN; rw [if_pos h1]
    rw [e]
    exact wide_asc s w h0 h1
  obtain ⟨c, hc⟩ : ∃ c, by8 s 0 = c := ⟨_, rfl⟩
  have hlt := by8_lt s 0
  rw [hc] at h1 hlt
  by_cases c0 : c ≤ 193
  · have e1 : Lib.firstT c % 8 = 1 := by simp [Lib.firstT, show ¬ c < 128 by omega, show c < 194 by omega, show c < 224 by omega, show c < 237 by omega, show c < 240 by omega, show c < 244 by omega, show ¬ c = 224 by omega, show ¬ c = 237 by omega, show ¬ c = 240 by omega, show ¬ c = 244 by omega]
    have e : wideN s = 0 := by rw [wideN_of s c _ _ _ hc h1 e1 rfl rfl, check_none _ _ _ _ _ _ _ (by decide) (by decide) (by decide)]; rfl
    rw [e]
    exact wide_lo s w c h0 hc (by omega) (by omega)
  by_cases c1 : c ≤ 223
  · have e : wideN s = (Lib.checkN s.size (by8 s 1) (by8 s 2) (by8 s 3) 2 128 191).getD 0 := wideN_of s c _ _ _ hc h1 (by simp [Lib.firstT, show ¬ c < 128 by omega, show ¬ c < 194 by omega, show c < 224 by omega, show c < 237 by omega, show c < 240 by omega, show c < 244 by omega, show ¬ c = 224 by omega, show ¬ c = 237 by omega, show ¬ c = 240 by omega, show ¬ c = 244 by omega]) (by simp [Lib.firstT, Lib.accLo, show ¬ c < 128 by omega, show ¬ c < 194 by omega, show c < 224 by omega, show c < 237 by omega, show c < 240 by omega, show c < 244 by omega, show ¬ c = 224 by omega, show ¬ c = 237 by omega, show ¬ c = 240 by omega, show ¬ c = 244 by omega]) (by simp [Lib.firstT, Lib.accHi, show ¬ c < 128 by omega, show ¬ c < 194 by omega, show c < 224 by omega, show c < 237 by omega, show c < 240 by omega, show c < 244 by omega, show ¬ c = 224 by omega, show ¬ c = 237 by omega, show ¬ c = 240 by omega, show ¬ c = 244 by omega])
    rw [e]
    by_cases hT : TailP s 2 128 191
    · rw [(tail_2 s 128 191).1 hT]
      exact wide_two_t s w c h0 hc (by omega) (by omega) hT
    · rw [(tail_2 s 128 191).2 hT]
      exact wide_two_f s w c h0 hc (by omega) (by omega) hT
  by_cases c2 : c ≤ 224
  · have e : wideN s = (Lib.checkN s.size (by8 s 1) (by8 s 2) (by8 s 3) 3 160 191).getD 0 := wideN_of s c _ _ _ hc h1 (by simp [Lib.firstT, show ¬ c < 128 by omega, show ¬ c < 194 by omega, show ¬ c < 224 by omega, show c < 237 by omega, show c < 240 by omega, show c < 244 by omega, show ¬ c = 237 by omega, show ¬ c = 240 by omega, show ¬ c = 244 by omega, show c = 224 by omega]) (by simp [Lib.firstT, Lib.accLo, show ¬ c < 128 by omega, show ¬ c < 194 by omega, show ¬ c < 224 by omega, show c < 237 by omega, show c < 240 by omega, show c < 244 by omega, show ¬ c = 237 by omega, show ¬ c = 240 by omega, show ¬ c = 244 by omega, show c = 224 by omega]) (by simp [Lib.firstT, Lib.accHi, show ¬ c < 128 by omega, show ¬ c < 194 by omega, show ¬ c < 224 by omega, show c < 237 by omega, show c < 240 by omega, show c < 244 by omega, show ¬ c = 237 by omega, show ¬ c = 240 by omega, show ¬ c = 244 by omega, show c = 224 by omega])
    rw [e]
    by_cases hT : TailP s 3 160 191
    · rw [(tail_3 s 160 191).1 hT]
      exact wide_e0_t s w c h0 hc (by omega) (by omega) hT
    · rw [(tail_3 s 160 191).2 hT]
      exact wide_e0_f s w c h0 hc (by omega) (by omega) hT
  by_cases c3 : c ≤ 236
  · have e : wideN s = (Lib.checkN s.size (by8 s 1) (by8 s 2) (by8 s 3) 3 128 191).getD 0 := wideN_of s c _ _ _ hc h1 (by simp [Lib.firstT, show ¬ c < 128 by omega, show ¬ c < 194 by omega, show ¬ c < 224 by omega, show c < 237 by omega, show c < 240 by omega, show c < 244 by omega, show ¬ c = 224 by omega, show ¬ c = 237 by omega, show ¬ c = 240 by omega, show ¬ c = 244 by omega]) (by simp [Lib.firstT, Lib.accLo, show ¬ c < 128 by omega, show ¬ c < 194 by omega, show ¬ c < 224 by omega, show c < 237 by omega, show c < 240 by omega, show c < 244 by omega, show ¬ c = 224 by omega, show ¬ c = 237 by omega, show ¬ c = 240 by omega, show ¬ c = 244 by omega]) (by simp [Lib.firstT, Lib.accHi, show ¬ c < 128 by omega, show ¬ c < 194 by omega, show ¬ c < 224 by omega, show c < 237 by omega, show c < 240 by omega, show c < 244 by omega, show ¬ c = 224 by omega, show ¬ c = 237 by omega, show ¬ c = 240 by omega, show ¬ c = 244 by omega])
    rw [e]
    by_cases hT : TailP s 3 128 191
    · rw [(tail_3 s 128 191).1 hT]
      exact wide_e1_t s w c h0 hc (by omega) (by omega) hT
    · rw [(tail_3 s 128 191).2 hT]
      exact wide_e1_f s w c h0 hc (by omega) (by omega) hT
  by_cases c4 : c ≤ 237
  · have e : wideN s = (Lib.checkN s.size (by8 s 1) (by8 s 2) (by8 s 3) 3 128 159).getD 0 := wideN_of s c _ _ _ hc h1 (by simp [Lib.firstT, show ¬ c < 128 by omega, show ¬ c < 194 by omega, show ¬ c < 224 by omega, show ¬ c < 237 by omega, show c < 240 by omega, show c < 244 by omega, show ¬ c = 224 by omega, show ¬ c = 240 by omega, show ¬ c = 244 by omega, show c = 237 by omega]) (by simp [Lib.firstT, Lib.accLo, show ¬ c < 128 by omega, show ¬ c < 194 by omega, show ¬ c < 224 by omega, show ¬ c < 237 by omega, show c < 240 by omega, show c < 244 by omega, show ¬ c = 224 by omega, show ¬ c = 240 by omega, show ¬ c = 244 by omega, show c = 237 by omega]) (by simp [Lib.firstT, Lib.accHi, show ¬ c < 128 by omega, show ¬ c < 194 by omega, show ¬ c < 224 by omega, show ¬ c < 237 by omega, show c < 240 by omega, show c < 244 by omega, show ¬ c = 224 by omega, show ¬ c = 240 by omega, show ¬ c = 244 by omega, show c = 237 by omega])
    rw [e]
    by_cases hT : TailP s 3 128 159
    · rw [(tail_3 s 128 159).1 hT]
      exact wide_ed_t s w c h0 hc (by omega) (by omega) hT
    · rw [(tail_3 s 128 159).2 hT]
      exact wide_ed_f s w c h0 hc (by omega) (by omega) hT
  by_cases c5 : c ≤ 239
  · have e : wideN s = (Lib.checkN s.size (by8 s 1) (by8 s 2) (by8 s 3) 3 128 191).getD 0 := wideN_of s c _ _ _ hc h1 (by simp [Lib.firstT, show ¬ c < 128 by omega, show ¬ c < 194 by omega, show ¬ c < 224 by omega, show ¬ c < 237 by omega, show c < 240 by omega, show c < 244 by omega, show ¬ c = 224 by omega, show ¬ c = 237 by omega, show ¬ c = 240 by omega, show ¬ c = 244 by omega]) (by simp [Lib.firstT, Lib.accLo, show ¬ c < 128 by omega, show ¬ c < 194 by omega, show ¬ c < 224 by omega, show ¬ c < 237 by omega, show c < 240 by omega, show c < 244 by omega, show ¬ c = 224 by omega, show ¬ c = 237 by omega, show ¬ c = 240 by omega, show ¬ c = 244 by omega]) (by simp [Lib.firstT, Lib.accHi, show ¬ c < 128 by omega, show ¬ c < 194 by omega, show ¬ c < 224 by omega, show ¬ c < 237 by omega, show c < 240 by omega, show c < 244 by omega, show ¬ c = 224 by omega, show ¬ c = 237 by omega, show ¬ c = 240 by omega, show ¬ c = 244 by omega])
    rw [e]
    by_cases hT : TailP s 3 128 191
    · rw [(tail_3 s 128 191).1 hT]
      exact wide_ee_t s w c h0 hc (by omega) (by omega) hT
    · rw [(tail_3 s 128 191).2 hT]
      exact wide_ee_f s w c h0 hc (by omega) (by omega) hT
  by_cases c6 : c ≤ 240
  · have e : wideN s = (Lib.checkN s.size (by8 s 1) (by8 s 2) (by8 s 3) 4 144 191).getD 0 := wideN_of s c _ _ _ hc h1 (by simp [Lib.firstT, show ¬ c < 128 by omega, show ¬ c < 194 by omega, show ¬ c < 224 by omega, show ¬ c < 237 by omega, show ¬ c < 240 by omega, show c < 244 by omega, show ¬ c = 224 by omega, show ¬ c = 237 by omega, show ¬ c = 244 by omega, show c = 240 by omega]) (by simp [Lib.firstT, Lib.accLo, show ¬ c < 128 by omega, show ¬ c < 194 by omega, show ¬ c < 224 by omega, show ¬ c < 237 by omega, show ¬ c < 240 by omega, show c < 244 by omega, show ¬ c = 224 by omega, show ¬ c = 237 by omega, show ¬ c = 244 by omega, show c = 240 by omega]) (by simp [Lib.firstT, Lib.accHi, show ¬ c < 128 by omega, show ¬ c < 194 by omega, show ¬ c < 224 by omega, show ¬ c < 237 by omega, show ¬ c < 240 by omega, show c < 244 by omega, show ¬ c = 224 by omega, show ¬ c = 237 by omega, show ¬ c = 244 by omega, show c = 240 by omega])
    rw [e]
    by_cases hT : TailP s 4 144 191
    · rw [(tail_4 s 144 191).1 hT]
      exact wide_f0_t s w c h0 hc (by omega) (by omega) hT
    · rw [(tail_4 s 144 191).2 hT]
      exact wide_f0_f s w c h0 hc (by omega) (by omega) hT
  by_cases c7 : c ≤ 243
  · have e : wideN s = (Lib.checkN s.size (by8 s 1) (by8 s 2) (by8 s 3) 4 128 191).getD 0 := wideN_of s c _ _ _ hc h1 (by simp [Lib.firstT, show ¬ c < 128 by omega, show ¬ c < 194 by omega, show ¬ c < 224 by omega, show ¬ c < 237 by omega, show ¬ c < 240 by omega, show c < 244 by omega, show ¬ c = 224 by omega, show ¬ c = 237 by omega, show ¬ c = 240 by omega, show ¬ c = 244 by omega]) (by simp [Lib.firstT, Lib.accLo, show ¬ c < 128 by omega, show ¬ c < 194 by omega, show ¬ c < 224 by omega, show ¬ c < 237 by omega, show ¬ c < 240 by omega, show c < 244 by omega, show ¬ c = 224 by omega, show ¬ c = 237 by omega, show ¬ c = 240 by omega, show ¬ c = 244 by omega]) (by simp [Lib.firstT, Lib.accHi, show ¬ c < 128 by omega, show ¬ c < 194 by omega, show ¬ c < 224 by omega, show ¬ c < 237 by omega, show ¬ c < 240 by omega, show c < 244 by omega, show ¬ c = 224 by omega, show ¬ c = 237 by omega, show ¬ c = 240 by omega, show ¬ c = 244 by omega])
    rw [e]
    by_cases hT : TailP s 4 128 191
    · rw [(tail_4 s 128 191).1 hT]
      exact wide_f1_t s w c h0 hc (by omega) (by omega) hT
    · rw [(tail_4 s 128 191).2 hT]
      exact wide_f1_f s w c h0 hc (by omega) (by omega) hT
  by_cases c8 : c ≤ 244
  · have e : wideN s = (Lib.checkN s.size (by8 s 1) (by8 s 2) (by8 s 3) 4 128 143).getD 0 := wideN_of s c _ _ _ hc h1 (by simp [Lib.firstT, show ¬ c < 128 by omega, show ¬ c < 194 by omega, show ¬ c < 224 by omega, show ¬ c < 237 by omega, show ¬ c < 240 by omega, show ¬ c < 244 by omega, show ¬ c = 224 by omega, show ¬ c = 237 by omega, show ¬ c = 240 by omega, show c = 244 by omega]) (by simp [Lib.firstT, Lib.accLo, show ¬ c < 128 by omega, show ¬ c < 194 by omega, show ¬ c < 224 by omega, show ¬ c < 237 by omega, show ¬ c < 240 by omega, show ¬ c < 244 by omega, show ¬ c = 224 by omega, show ¬ c = 237 by omega, show ¬ c = 240 by omega, show c = 244 by omega]) (by simp [Lib.firstT, Lib.accHi, show ¬ c < 128 by omega, show ¬ c < 194 by omega, show ¬ c < 224 by omega, show ¬ c < 237 by omega, show ¬ c < 240 by omega, show ¬ c < 244 by omega, show ¬ c = 224 by omega, show ¬ c = 237 by omega, show ¬ c = 240 by omega, show c = 244 by omega])
    rw [e]
    by_cases hT : TailP s 4 128 143
    · rw [(tail_4 s 128 143).1 hT]
      exact wide_f4_t s w c h0 hc (by omega) (by omega) hT
    · rw [(tail_4 s 128 143).2 hT]
      exact wide_f4_f s w c h0 hc (by omega) (by omega) hT
  have e1 : Lib.firstT c % 8 = 1 := by simp [Lib.firstT, show ¬ c < 128 by omega, show ¬ c < 194 by omega, show ¬ c < 224 by omega, show ¬ c < 237 by omega, show ¬ c < 240 by omega, show ¬ c < 244 by omega, show ¬ c = 224 by omega, show ¬ c = 237 by omega, show ¬ c = 240 by omega, show ¬ c = 244 by omega]
  have e : wideN s = 0 := by rw [wideN_of s c _ _ _ hc h1 e1 rfl rfl, check_none _ _ _ _ _ _ _ (by decide) (by decide) (by decide)]; rfl
  rw [e]
  exact wide_hi s w c h0 hc (by omega) (by omega)
theorem check_le {n b1 b2 b3 sz lo hi k : Nat} (h : Lib.checkN n b1 b2 b3 sz lo hi = some k) : k ≤ n ∧ 2 ≤ k := by
  unfold Lib.checkN at h
  repeat' split at h
  all_goals first | (cases h; done) | (simp at h; omega)
theorem wideN_le (s : ByteArray) (h0 : 0 < s.size) : wideN s ≤ s.size := by
  unfold wideN
  split
  · omega
  · cases hq : Lib.checkN s.size (by8 s 1) (by8 s 2) (by8 s 3) (Lib.firstT (by8 s 0) % 8) (Lib.accLo (Lib.firstT (by8 s 0) / 16)) (Lib.accHi (Lib.firstT (by8 s 0) / 16)) with
    | none => simp
    | some k => simpa using (check_le hq).1
theorem ne_nil {s : ByteArray} (h0 : 0 < s.size) : s.data.toList ≠ [] := by
  intro e
  have : s.data.toList.length = s.size := by simp
  rw [e] at this
  simp at this
  omega
theorem valid_wide (s : ByteArray) (h0 : 0 < s.size) : Lib.validD s.data.toList = if wideN s = 0 then false else Lib.validD (s.data.toList.drop (wideN s)) := by
  have hne := ne_nil h0
  by_cases h1 : by8 s 0 < 128
  · have e : wideN s = 1 := by unfold wideN; rw [if_pos h1]
    rw [e, if_neg (by decide)]
    unfold by8 at h1
    cases hl : s.data.toList with
    | nil => exact absurd hl hne
    | cons b t =>
      rw [hl] at h1
      exact Lib.validD_cons b t (by simpa using h1)
  · have h128 : 128 ≤ (s.data.toList.getD 0 0).toNat := by unfold by8 at h1; omega
    rw [Lib.validD_lead _ hne h128]
    have hlen : s.data.toList.length = s.size := by simp
    rw [hlen]
    show (match Lib.checkN s.size (by8 s 1) (by8 s 2) (by8 s 3) (Lib.firstT (by8 s 0) % 8) (Lib.accLo (Lib.firstT (by8 s 0) / 16)) (Lib.accHi (Lib.firstT (by8 s 0) / 16)) with | none => false | some k => Lib.validD (s.data.toList.drop k)) = _
    cases hq : Lib.checkN s.size (by8 s 1) (by8 s 2) (by8 s 3) (Lib.firstT (by8 s 0) % 8) (Lib.accLo (Lib.firstT (by8 s 0) / 16)) (Lib.accHi (Lib.firstT (by8 s 0) / 16)) with
    | none =>
      have e : wideN s = 0 := by unfold wideN; rw [if_neg h1, hq]; rfl
      rw [e, if_pos rfl]
    | some k =>
      have e : wideN s = k := by unfold wideN; rw [if_neg h1, hq]; rfl
      have := (check_le hq).2
      rw [e, if_neg (by omega)]
theorem utf8_any (s : ByteArray) (w : World) (hs : s.size ≤ 140737488355328) :
    Calls Tryz.prog 93 #[.string s] w fun e w' => e = .returned (.bool (Lib.validD s.data.toList)) ∧ w' = w := by
  obtain ⟨A, hA⟩ : ∃ A, Lib.validD s.data.toList = A := ⟨_, rfl⟩
  rw [hA]
  have HA : Hid (Lib.validD s.data.toList = A) := hA
  clear hA
  go_enter Tryz.func93, Tryz.ntmps93
  go_wp2
  go_loopw [3] (fun i wr => ∃ k : Nat, k ≤ s.size ∧ i = .int .i64 k ∧ wr = w ∧ Hid (Lib.validD (s.data.toList.drop k) = A)) (fun i _ => s.size - (intOf i).toNat)
  case atStart => exact ⟨0, by omega, rfl, rfl, HA⟩
  case round =>
    obtain ⟨k, hk, rfl, rfl, hv⟩ := hrel
    by_cases h1 : k < s.size
    · have h1' : (k : Int) < (s.size : Int) := by omega
      obtain ⟨t, ht⟩ : ∃ t, s.extract k s.size = t := ⟨_, rfl⟩
      have zt : t.size = s.size - k := by rw [← ht, Lib.ext_size]
      have lt : t.data.toList = s.data.toList.drop k := by rw [← ht, Lib.ext_list]
      have ht' : Hid (s.extract k s.size = t) := ht
      have VW := valid_wide t (by omega)
      have WL := wideN_le t (by omega)
      have HW : Hid (∀ wx, Calls Tryz.prog 118 #[.string t] wx fun e w' => e = .returned (.int .i64 (wideN t : Int)) ∧ w' = wx) := fun wx => wide_any t wx (by omega)
      rw [lt] at VW
      rw [hv.out] at VW
      generalize wideN t = n at *
      have VW' : Hid (A = if n = 0 then false else Lib.validD ((s.data.toList.drop k).drop n)) := VW
      clear VW HA
      by_cases h0 : n = 0
      · subst h0
        obtain rfl : A = false := VW'.out.trans (if_pos rfl)
        clear VW'
        go_wp2_with fail
        refine (HW.out _).mono ?_
        rintro e _ ⟨rfl, rfl⟩
        go_wp2
        go_ret
        exact ⟨rfl, rfl⟩
      · have e2 : Hid (Lib.validD (s.data.toList.drop (k + n)) = A) := by
          show _ = _
          rw [VW'.out, if_neg h0, List.drop_drop]
        have hn0 : ¬ (n : Int) = 0 := by omega
        clear VW'
        go_wp2_with fail
        refine (HW.out _).mono ?_
        rintro e W ⟨rfl, rfl⟩
        go_wp2
        go_roundw
        case rel => exact ⟨k + n, by omega, by go_num, by trivial, e2⟩
        case measure => simp [intOf]; omega
    · have h1' : ¬ (k : Int) < (s.size : Int) := by omega
      obtain rfl : A = true := by
        rw [← hv.out, List.drop_eq_nil_of_le (by simp; omega)]
        rfl
      clear HA hv
      go_wp2
      go_ret
      exact ⟨rfl, rfl⟩
end V
end Go.Proofs.YtifendlpeebofaaGreatDoor.K
namespace Go.Proofs.YtifendlpeebofaaGreatDoor.K
open Go.RowKit Go.Shelf
namespace V
def laysValid_ren : Go.Shelf.Ren := ⟨fun | 196 => 94 | 259 => 119 | n => n, fun | 9 => 9 | 4 => 4 | 3 => 3 | 5 => 5 | 12 => 12 | 119 => 177 | 0 => 0 | 46 => 156 | 139 => 180 | 138 => 179 | 53 => 123 | n => n, fun | 3 => 1 | 4 => 2 | n => n⟩
theorem laysValid : Lays.n196 Tryz.prog laysValid_ren := {
  mixed := by kernel_rfl
  f196 := Tryz.func94.trans (congrArg some (by kernel_rfl))
  f259 := Tryz.func119.trans (congrArg some (by kernel_rfl))
  t0 := Tryz.underlying0
  a0 := Tryz.isAgg0
  z0 := Tryz.sizeOf0
  v0 := Tryz.zeroValue0
  t3 := Tryz.underlying3
  a3 := Tryz.isAgg3
  z3 := Tryz.sizeOf3
  v3 := Tryz.zeroValue3
  t4 := Tryz.underlying4
  a4 := Tryz.isAgg4
  z4 := Tryz.sizeOf4
  v4 := Tryz.zeroValue4
  t5 := Tryz.underlying5
  a5 := Tryz.isAgg5
  z5 := Tryz.sizeOf5
  v5 := Tryz.zeroValue5
  t9 := Tryz.underlying9
  a9 := Tryz.isAgg9
  z9 := Tryz.sizeOf9
  v9 := Tryz.zeroValue9
  t12 := Tryz.underlying12
  a12 := Tryz.isAgg12
  z12 := Tryz.sizeOf12
  v12 := Tryz.zeroValue12
  t46 := Tryz.underlying156
  a46 := Tryz.isAgg156
  z46 := Tryz.sizeOf156
  v46 := Tryz.zeroValue156
  t53 := Tryz.underlying123
  a53 := Tryz.isAgg123
  z53 := Tryz.sizeOf123
  v53 := Tryz.zeroValue123
  t119 := Tryz.underlying177
  a119 := Tryz.isAgg177
  z119 := Tryz.sizeOf177
  t138 := Tryz.underlying179
  a138 := Tryz.isAgg179
  z138 := Tryz.sizeOf179
  v138 := Tryz.zeroValue179
  t139 := Tryz.underlying180
  a139 := Tryz.isAgg180
  z139 := Tryz.sizeOf180
  v139 := Tryz.zeroValue180
  g3 := by kernel_rfl
  g4 := by kernel_rfl }
def Tabs (w : World) : Prop := Lib.Utf8Tabs 1 2 w
theorem Tabs.below {w w' : World} (h : Tabs w) (hb : Below w.heap.size w w') : Tabs w' := Utf8Tabs_below h hb
theorem valid_any (s : ByteArray) (w : World) (hs : s.size ≤ 9223372036854775807) (hT : Tabs w) :
    Calls Tryz.prog 94 #[.string s] w fun e w' => e = .returned (.bool (Lib.validD s.data.toList)) ∧ Below w.heap.size w w' :=
  Any.utf8_ValidString laysValid s w hs hT
end V
end Go.Proofs.YtifendlpeebofaaGreatDoor.K
namespace Go.Proofs.YtifendlpeebofaaGreatDoor.K
open Go.RowKit
namespace V
def rightB (k n : Int) (f : Nat) (s : ByteArray) : Bool :=
  if k = 1 then (decide (n = 0) || decide (n = 1)) && decide (f = 0) && s.toList.isEmpty
  else if k = 2 ∨ k = 7 then decide (f = 0) && s.toList.isEmpty
  else if k = 5 then decide (n = 0) && decide (f = 0) && decide ((s.size : Int) ≤ 1000)
  else if k = 6 then decide (0 ≤ n) && decide (n ≤ 9007199254740992) && decide (f = 0) && s.toList.isEmpty
  else if k ≤ 11 then decide (n = 0) && decide (f = 0) && s.toList.isEmpty else false
theorem right26_0 (n : Int) (f : Nat) (s : ByteArray) (w : World) :
    Calls Tryz.prog 71 #[.agg #[.int .u8 0, .int .i64 n, .float .f64 f, .string s]] w fun e w' => e = .returned (.bool (rightB 0 n f s)) ∧ Below w.heap.size w w' := by
  go_enter Tryz.func71, Tryz.ntmps71
  go_wp2
  go_quiet (fail)
  go_wp2
  all_goals
    go_ret
    refine ⟨?_, ?_⟩
    · first | (simp [rightB, *]; done) | (simp [rightB, *]; omega)
    · first | exact bel_box _ _ _ | exact below_drewN (bel_box _ _ _) _
theorem right26_1 (n : Int) (f : Nat) (s : ByteArray) (w : World) :
    Calls Tryz.prog 71 #[.agg #[.int .u8 1, .int .i64 n, .float .f64 f, .string s]] w fun e w' => e = .returned (.bool (rightB 1 n f s)) ∧ Below w.heap.size w w' := by
  go_enter Tryz.func71, Tryz.ntmps71
  go_wp2
  go_quiet (fail)
  go_wp2
  all_goals
    go_ret
    refine ⟨?_, ?_⟩
    · first | (simp [rightB, *]; done) | (simp [rightB, *]; omega)
    · first | exact bel_box _ _ _ | exact below_drewN (bel_box _ _ _) _
theorem right26_2 (n : Int) (f : Nat) (s : ByteArray) (w : World) :
    Calls Tryz.prog 71 #[.agg #[.int .u8 2, .int .i64 n, .float .f64 f, .string s]] w fun e w' => e = .returned (.bool (rightB 2 n f s)) ∧ Below w.heap.size w w' := by
  go_enter Tryz.func71, Tryz.ntmps71
  go_wp2
  go_quiet (fail)
  go_wp2
  all_goals
    go_ret
    refine ⟨?_, ?_⟩
    · first | (simp [rightB, *]; done) | (simp [rightB, *]; omega)
    · first | exact bel_box _ _ _ | exact below_drewN (bel_box _ _ _) _
theorem right26_5 (n : Int) (f : Nat) (s : ByteArray) (w : World) :
    Calls Tryz.prog 71 #[.agg #[.int .u8 5, .int .i64 n, .float .f64 f, .string s]] w fun e w' => e = .returned (.bool (rightB 5 n f s)) ∧ Below w.heap.size w w' := by
  go_enter Tryz.func71, Tryz.ntmps71
  go_wp2
  go_quiet (fail)
  go_wp2
  all_goals
    go_ret
    refine ⟨?_, ?_⟩
    · first | (simp [rightB, *]; done) | (simp [rightB, *]; omega)
    · first | exact bel_box _ _ _ | exact below_drewN (bel_box _ _ _) _
theorem right26_6 (n : Int) (f : Nat) (s : ByteArray) (w : World) :
    Calls Tryz.prog 71 #[.agg #[.int .u8 6, .int .i64 n, .float .f64 f, .string s]] w fun e w' => e = .returned (.bool (rightB 6 n f s)) ∧ Below w.heap.size w w' := by
  go_enter Tryz.func71, Tryz.ntmps71
  go_wp2
  go_quiet (fail)
  go_wp2
  all_goals
    go_ret
    refine ⟨?_, ?_⟩
    · first | (simp [rightB, *]; done) | (simp [rightB, *]; omega)
    · first | exact bel_box _ _ _ | exact below_drewN (bel_box _ _ _) _
theorem right26_7 (n : Int) (f : Nat) (s : ByteArray) (w : World) :
    Calls Tryz.prog 71 #[.agg #[.int .u8 7, .int .i64 n, .float .f64 f, .string s]] w fun e w' => e = .returned (.bool (rightB 7 n f s)) ∧ Below w.heap.size w w' := by
  go_enter Tryz.func71, Tryz.ntmps71
  go_wp2
  go_quiet (fail)
  go_wp2
  all_goals
    go_ret
    refine ⟨?_, ?_⟩
    · first | (simp [rightB, *]; done) | (simp [rightB, *]; omega)
    · first | exact bel_box _ _ _ | exact below_drewN (bel_box _ _ _) _
theorem right26_8 (n : Int) (f : Nat) (s : ByteArray) (w : World) :
    Calls Tryz.prog 71 #[.agg #[.int .u8 8, .int .i64 n, .float .f64 f, .string s]] w fun e w' => e = .returned (.bool (rightB 8 n f s)) ∧ Below w.heap.size w w' := by
  go_enter Tryz.func71, Tryz.ntmps71
  go_wp2
  go_quiet (fail)
  go_wp2
  all_goals
    go_ret
    refine ⟨?_, ?_⟩
    · first | (simp [rightB, *]; done) | (simp [rightB, *]; omega)
    · first | exact bel_box _ _ _ | exact below_drewN (bel_box _ _ _) _
theorem right26_9 (n : Int) (f : Nat) (s : ByteArray) (w : World) :
    Calls Tryz.prog 71 #[.agg #[.int .u8 9, .int .i64 n, .float .f64 f, .string s]] w fun e w' => e = .returned (.bool (rightB 9 n f s)) ∧ Below w.heap.size w w' := by
  go_enter Tryz.func71, Tryz.ntmps71
  go_wp2
  go_quiet (fail)
  go_wp2
  all_goals
    go_ret
    refine ⟨?_, ?_⟩
    · first | (simp [rightB, *]; done) | (simp [rightB, *]; omega)
    · first | exact bel_box _ _ _ | exact below_drewN (bel_box _ _ _) _
theorem right26_10 (n : Int) (f : Nat) (s : ByteArray) (w : World) :
    Calls Tryz.prog 71 #[.agg #[.int .u8 10, .int .i64 n, .float .f64 f, .string s]] w fun e w' => e = .returned (.bool (rightB 10 n f s)) ∧ Below w.heap.size w w' := by
  go_enter Tryz.func71, Tryz.ntmps71
  go_wp2
  go_quiet (fail)
  go_wp2
  all_goals
    go_ret
    refine ⟨?_, ?_⟩
    · first | (simp [rightB, *]; done) | (simp [rightB, *]; omega)
    · first | exact bel_box _ _ _ | exact below_drewN (bel_box _ _ _) _
theorem right26_11 (n : Int) (f : Nat) (s : ByteArray) (w : World) :
    Calls Tryz.prog 71 #[.agg #[.int .u8 11, .int .i64 n, .float .f64 f, .string s]] w fun e w' => e = .returned (.bool (rightB 11 n f s)) ∧ Below w.heap.size w w' := by
  go_enter Tryz.func71, Tryz.ntmps71
  go_wp2
  go_quiet (fail)
  go_wp2
  all_goals
    go_ret
    refine ⟨?_, ?_⟩
    · first | (simp [rightB, *]; done) | (simp [rightB, *]; omega)
    · first | exact bel_box _ _ _ | exact below_drewN (bel_box _ _ _) _
theorem right27_0 (n : Int) (f : Nat) (s : ByteArray) (w : World) :
    Calls Tryz.prog 67 #[.agg #[.int .u8 0, .int .i64 n, .float .f64 f, .string s]] w fun e w' => e = .returned (.bool (rightB 0 n f s)) ∧ Below w.heap.size w w' := by
  go_enter Tryz.func67, Tryz.ntmps67
  go_wp2
  go_wp2
  all_goals
    go_ret
    refine ⟨?_, ?_⟩
    · first | (simp [rightB, *]; done) | (simp [rightB, *]; omega)
    · first | exact bel_box _ _ _ | exact below_drewN (bel_box _ _ _) _
theorem right27_1 (n : Int) (f : Nat) (s : ByteArray) (w : World) :
    Calls Tryz.prog 67 #[.agg #[.int .u8 1, .int .i64 n, .float .f64 f, .string s]] w fun e w' => e = .returned (.bool (rightB 1 n f s)) ∧ Below w.heap.size w w' := by
  go_enter Tryz.func67, Tryz.ntmps67
  go_wp2
  go_wp2
  all_goals
    go_ret
    refine ⟨?_, ?_⟩
    · first | (simp [rightB, *]; done) | (simp [rightB, *]; omega)
    · first | exact bel_box _ _ _ | exact below_drewN (bel_box _ _ _) _
theorem right27_2 (n : Int) (f : Nat) (s : ByteArray) (w : World) :
    Calls Tryz.prog 67 #[.agg #[.int .u8 2, .int .i64 n, .float .f64 f, .string s]] w fun e w' => e = .returned (.bool (rightB 2 n f s)) ∧ Below w.heap.size w w' := by
  go_enter Tryz.func67, Tryz.ntmps67
  go_wp2
  go_wp2
  all_goals
    go_ret
    refine ⟨?_, ?_⟩
    · first | (simp [rightB, *]; done) | (simp [rightB, *]; omega)
    · first | exact bel_box _ _ _ | exact below_drewN (bel_box _ _ _) _
theorem right27_5 (n : Int) (f : Nat) (s : ByteArray) (w : World) :
    Calls Tryz.prog 67 #[.agg #[.int .u8 5, .int .i64 n, .float .f64 f, .string s]] w fun e w' => e = .returned (.bool (rightB 5 n f s)) ∧ Below w.heap.size w w' := by
  go_enter Tryz.func67, Tryz.ntmps67
  go_wp2
  go_wp2
  all_goals
    go_ret
    refine ⟨?_, ?_⟩
    · first | (simp [rightB, *]; done) | (simp [rightB, *]; omega)
    · first | exact bel_box _ _ _ | exact below_drewN (bel_box _ _ _) _
theorem right27_6 (n : Int) (f : Nat) (s : ByteArray) (w : World) :
    Calls Tryz.prog 67 #[.agg #[.int .u8 6, .int .i64 n, .float .f64 f, .string s]] w fun e w' => e = .returned (.bool (rightB 6 n f s)) ∧ Below w.heap.size w w' := by
  go_enter Tryz.func67, Tryz.ntmps67
  go_wp2
  go_wp2
  all_goals
    go_ret
    refine ⟨?_, ?_⟩
    · first | (simp [rightB, *]; done) | (simp [rightB, *]; omega)
    · first | exact bel_box _ _ _ | exact below_drewN (bel_box _ _ _) _
theorem right27_7 (n : Int) (f : Nat) (s : ByteArray) (w : World) :
    Calls Tryz.prog 67 #[.agg #[.int .u8 7, .int .i64 n, .float .f64 f, .string s]] w fun e w' => e = .returned (.bool (rightB 7 n f s)) ∧ Below w.heap.size w w' := by
  go_enter Tryz.func67, Tryz.ntmps67
  go_wp2
  go_wp2
  all_goals
    go_ret
    refine ⟨?_, ?_⟩
    · first | (simp [rightB, *]; done) | (simp [rightB, *]; omega)
    · first | exact bel_box _ _ _ | exact below_drewN (bel_box _ _ _) _
theorem right27_8 (n : Int) (f : Nat) (s : ByteArray) (w : World) :
    Calls Tryz.prog 67 #[.agg #[.int .u8 8, .int .i64 n, .float .f64 f, .string s]] w fun e w' => e = .returned (.bool (rightB 8 n f s)) ∧ Below w.heap.size w w' := by
  go_enter Tryz.func67, Tryz.ntmps67
  go_wp2
  go_wp2
  all_goals
    go_ret
    refine ⟨?_, ?_⟩
    · first | (simp [rightB, *]; done) | (simp [rightB, *]; omega)
    · first | exact bel_box _ _ _ | exact below_drewN (bel_box _ _ _) _
theorem right27_9 (n : Int) (f : Nat) (s : ByteArray) (w : World) :
    Calls Tryz.prog 67 #[.agg #[.int .u8 9, .int .i64 n, .float .f64 f, .string s]] w fun e w' => e = .returned (.bool (rightB 9 n f s)) ∧ Below w.heap.size w w' := by
  go_enter Tryz.func67, Tryz.ntmps67
  go_wp2
  go_wp2
  all_goals
    go_ret
    refine ⟨?_, ?_⟩
    · first | (simp [rightB, *]; done) | (simp [rightB, *]; omega)
    · first | exact bel_box _ _ _ | exact below_drewN (bel_box _ _ _) _
theorem right27_10 (n : Int) (f : Nat) (s : ByteArray) (w : World) :
    Calls Tryz.prog 67 #[.agg #[.int .u8 10, .int .i64 n, .float .f64 f, .string s]] w fun e w' => e = .returned (.bool (rightB 10 n f s)) ∧ Below w.heap.size w w' := by
  go_enter Tryz.func67, Tryz.ntmps67
  go_wp2
  go_wp2
  all_goals
    go_ret
    refine ⟨?_, ?_⟩
    · first | (simp [rightB, *]; done) | (simp [rightB, *]; omega)
    · first | exact bel_box _ _ _ | exact below_drewN (bel_box _ _ _) _
theorem right27_11 (n : Int) (f : Nat) (s : ByteArray) (w : World) :
    Calls Tryz.prog 67 #[.agg #[.int .u8 11, .int .i64 n, .float .f64 f, .string s]] w fun e w' => e = .returned (.bool (rightB 11 n f s)) ∧ Below w.heap.size w w' := by
  go_enter Tryz.func67, Tryz.ntmps67
  go_wp2
  go_wp2
  all_goals
    go_ret
    refine ⟨?_, ?_⟩
    · first | (simp [rightB, *]; done) | (simp [rightB, *]; omega)
    · first | exact bel_box _ _ _ | exact below_drewN (bel_box _ _ _) _
theorem right26_o (k n : Int) (f : Nat) (s : ByteArray) (w : World) (hk : 12 ≤ k) :
    Calls Tryz.prog 71 #[.agg #[.int .u8 k, .int .i64 n, .float .f64 f, .string s]] w fun e w' => e = .returned (.bool false) ∧ Below w.heap.size w w' := by
  have h0 : ¬ k = 0 := by omega
  have h1 : ¬ k = 1 := by omega
  have h2 : ¬ k = 2 := by omega
  have h3 : ¬ k = 3 := by omega
  have h4 : ¬ k = 4 := by omega
  have h5 : ¬ k = 5 := by omega
  have h6 : ¬ k = 6 := by omega
  have h7 : ¬ k = 7 := by omega
  have h8 : ¬ k = 8 := by omega
  have h9 : ¬ k = 9 := by omega
  have h10 : ¬ k = 10 := by omega
  have h11 : ¬ k = 11 := by omega
  go_enter Tryz.func71, Tryz.ntmps71
  go_wp2
  go_quiet (fail)
  go_wp2
  all_goals
    go_ret
    refine ⟨?_, ?_⟩
    · first | rfl | (simp [rightB, *]; done) | (simp [rightB, *]; omega)
    · first | exact bel_box _ _ _ | exact below_drewN (bel_box _ _ _) _
theorem right27_o (k n : Int) (f : Nat) (s : ByteArray) (w : World) (hk : 12 ≤ k) :
    Calls Tryz.prog 67 #[.agg #[.int .u8 k, .int .i64 n, .float .f64 f, .string s]] w fun e w' => e = .returned (.bool false) ∧ Below w.heap.size w w' := by
  have h0 : ¬ k = 0 := by omega
  have h1 : ¬ k = 1 := by omega
  have h2 : ¬ k = 2 := by omega
  have h3 : ¬ k = 3 := by omega
  have h4 : ¬ k = 4 := by omega
  have h5 : ¬ k = 5 := by omega
  have h6 : ¬ k = 6 := by omega
  have h7 : ¬ k = 7 := by omega
  have h8 : ¬ k = 8 := by omega
  have h9 : ¬ k = 9 := by omega
  have h10 : ¬ k = 10 := by omega
  have h11 : ¬ k = 11 := by omega
  go_enter Tryz.func67, Tryz.ntmps67
  go_wp2
  go_wp2
  all_goals
    go_ret
    refine ⟨?_, ?_⟩
    · first | rfl | (simp [rightB, *]; done) | (simp [rightB, *]; omega)
    · first | exact bel_box _ _ _ | exact below_drewN (bel_box _ _ _) _
end V
end Go.Proofs.YtifendlpeebofaaGreatDoor.K
namespace Go.Proofs.YtifendlpeebofaaGreatDoor.K
theorem cmp_congr {a b c d : Int} (h1 : a < b ↔ c < d) (h2 : a = b ↔ c = d) : compare a b = compare c d := by
  simp only [compare, compareOfLessAndEq, h1, h2]
def fval (r : Nat) : Nat := if r < 2 ^ 52 then r else (2 ^ 52 + r % 2 ^ 52) * 2 ^ (r / 2 ^ 52 - 1)
theorem fval_step (r : Nat) : fval r < fval (r + 1) := by
  unfold fval
  by_cases h : r + 1 < 2 ^ 52
  · rw [if_pos (by omega), if_pos h]; omega
  · by_cases h2 : r < 2 ^ 52
    · rw [if_pos h2, if_neg h]
      have e : r + 1 = 2 ^ 52 := by omega
      rw [e]
      have e2 : (2 ^ 52 + 2 ^ 52 % 2 ^ 52) * 2 ^ (2 ^ 52 / 2 ^ 52 - 1) = 2 ^ 52 := by decide
      rw [e2]
      omega
    · rw [if_neg h2, if_neg h]
      by_cases h3 : r % 2 ^ 52 + 1 < 2 ^ 52
      · have e1 : (r + 1) % 2 ^ 52 = r % 2 ^ 52 + 1 := by omega
        have e2 : (r + 1) / 2 ^ 52 = r / 2 ^ 52 := by omega
        rw [e1, e2]
        exact Nat.mul_lt_mul_of_pos_right (by omega) (Nat.two_pow_pos _)
      · have e1 : (r + 1) % 2 ^ 52 = 0 := by omega
        have e2 : (r + 1) / 2 ^ 52 - 1 = (r / 2 ^ 52 - 1) + 1 := by omega
        rw [e1, e2]
        generalize r / 2 ^ 52 - 1 = k
        rw [Nat.pow_succ 2 k, Nat.mul_comm (2 ^ k) 2, ← Nat.mul_assoc]
        exact Nat.mul_lt_mul_of_pos_right (by omega) (Nat.two_pow_pos _)
theorem fval_lt {r s : Nat} (h : r < s) : fval r < fval s := by
  induction s with
  | zero => omega
  | succ s ih =>
    rcases Nat.lt_or_ge r s with h1 | h1
    · exact Nat.lt_trans (ih h1) (fval_step s)
    · have : r = s := by omega
      subst this
      exact fval_step r
theorem fval_lt_iff (r s : Nat) : fval r < fval s ↔ r < s := by
  constructor
  · intro h
    rcases Nat.lt_or_ge r s with h1 | h1
    · exact h1
    · rcases Nat.eq_or_lt_of_le h1 with h2 | h2
      · subst h2; omega
      · have := fval_lt h2; omega
  · exact fval_lt
theorem fval_inj (r s : Nat) : fval r = fval s ↔ r = s := by
  have := fval_lt_iff r s
  have := fval_lt_iff s r
  omega
theorem fval_zero : fval 0 = 0 := rfl
def fkey (x : Nat) : Int := if x / 2 ^ 63 % 2 = 1 then -((x % 2 ^ 63 : Nat) : Int) else ((x % 2 ^ 63 : Nat) : Int)
def ffin (x : Nat) : Prop := x % 2 ^ 63 < 2047 * 2 ^ 52
def fplace (r : Nat) : Nat := if r < 2 ^ 52 then 0 else r / 2 ^ 52 - 1
def fmag (r : Nat) : Nat := if r < 2 ^ 52 then r else 2 ^ 52 + r % 2 ^ 52
theorem fval_eq (r : Nat) : fval r = fmag r * 2 ^ fplace r := by
  unfold fval fmag fplace
  split <;> simp
theorem fread (x : Nat) (h : ffin x) : Ieee.double.read x = .number (x / 2 ^ 63 % 2 == 1) (fmag (x % 2 ^ 63)) (Ieee.double.leastPlace + (fplace (x % 2 ^ 63) : Nat)) := by
  unfold ffin at h
  have e1 : Ieee.double.signWeight = 2 ^ 63 := rfl
  have e2 : Ieee.double.binade = 2 ^ 52 := rfl
  have e3 : Ieee.double.infRung = 2047 * 2 ^ 52 := rfl
  unfold Ieee.Format.read fmag fplace
  rw [e1, e2, e3]
  by_cases h1 : x % 2 ^ 63 < 2 ^ 52
  · simp only [if_pos h1]; simp
  · simp only [if_neg h1, if_pos h]
theorem forder (x y : Nat) (hx : ffin x) (hy : ffin y) : Ieee.double.order x y = some (compare (fkey x) (fkey y)) := by
  unfold Ieee.Format.order
  rw [fread x hx, fread y hy]
  unfold fkey
  generalize x % 2 ^ 63 = r
  generalize y % 2 ^ 63 = s
  simp only [Ieee.Datum.order]
  refine congrArg some ?_
  have hr := fval_eq r
  have hs := fval_eq s
  have key : ∃ c : Nat, 0 < c ∧ fval r = fmag r * 2 ^ (Ieee.double.leastPlace + (fplace r : Int) - min (Ieee.double.leastPlace + (fplace r : Int)) (Ieee.double.leastPlace + (fplace s : Int))).toNat * c ∧ fval s = fmag s * 2 ^ (Ieee.double.leastPlace + (fplace s : Int) - min (Ieee.double.leastPlace + (fplace r : Int)) (Ieee.double.leastPlace + (fplace s : Int))).toNat * c := by
    refine ⟨2 ^ min (fplace r) (fplace s), Nat.two_pow_pos _, ?_, ?_⟩
    · rw [hr, Nat.mul_assoc, ← Nat.pow_add]; congr 2; omega
    · rw [hs, Nat.mul_assoc, ← Nat.pow_add]; congr 2; omega
  obtain ⟨c, hc, k1, k2⟩ := key
  simp only [Ieee.signed, Nat.shiftLeft_eq]
  generalize fmag r * 2 ^ (Ieee.double.leastPlace + (fplace r : Int) - min (Ieee.double.leastPlace + (fplace r : Int)) (Ieee.double.leastPlace + (fplace s : Int))).toNat = A at *
  generalize fmag s * 2 ^ (Ieee.double.leastPlace + (fplace s : Int) - min (Ieee.double.leastPlace + (fplace r : Int)) (Ieee.double.leastPlace + (fplace s : Int))).toNat = B at *
  have a1 : A < B ↔ r < s := by rw [← fval_lt_iff r s, k1, k2]; exact (Nat.mul_lt_mul_right hc).symm
  have a2 : B < A ↔ s < r := by rw [← fval_lt_iff s r, k1, k2]; exact (Nat.mul_lt_mul_right hc).symm
  have a3 : A = 0 ↔ r = 0 := by
    have := fval_inj r 0
    rw [fval_zero, k1] at this
    rw [← this, Nat.mul_eq_zero]
    omega
  have a4 : B = 0 ↔ s = 0 := by
    have := fval_inj s 0
    rw [fval_zero, k2] at this
    rw [← this, Nat.mul_eq_zero]
    omega
  clear k1 k2 hr hs
  by_cases p : x / 2 ^ 63 % 2 = 1 <;> by_cases q : y / 2 ^ 63 % 2 = 1 <;> simp only [p, q, beq_self_eq_true, if_true, if_false, beq_iff_eq] <;> exact cmp_congr (by omega) (by omega)
end Go.Proofs.YtifendlpeebofaaGreatDoor.K
namespace Go.Proofs.YtifendlpeebofaaGreatDoor.K
open Go.RowKit
theorem isnan_any (f : Nat) (w : World) :
    Calls Tryz.prog 120 #[.float .f64 f] w fun e w' => e = .returned (.bool (Ieee.double.order f f != some .eq)) ∧ w' = w := by
  go_enter Tryz.func120, Tryz.ntmps120
  go_wp2
  go_ret
  exact ⟨rfl, rfl⟩
theorem abs_any (f r : Nat) (w : World) (hr : bits .andNot .u64 (f : Int) 9223372036854775808 = (r : Int)) :
    Calls Tryz.prog 151 #[.float .f64 f] w fun e w' => e = .returned (.float .f64 r) ∧ w' = w := by
  go_enter Tryz.func151, Tryz.ntmps151
  go_wp2
  go_ret
  exact ⟨rfl, rfl⟩
theorem isinf_any (f r : Nat) (w : World) (hr : bits .andNot .u64 (f : Int) 9223372036854775808 = (r : Int)) :
    Calls Tryz.prog 121 #[.float .f64 f, .int .i64 0] w fun e w' => e = .returned (.bool (Ieee.double.order r 9218868437227405311 == some .gt)) ∧ w' = w := by
  have H := abs_any f r w hr
  clear hr
  go_enter Tryz.func121, Tryz.ntmps121
  go_wp2_with fail
  refine H.mono ?_
  rintro e _ ⟨rfl, rfl⟩
  go_wp2
  go_ret
  exact ⟨rfl, rfl⟩
theorem sign_any (f : Nat) (w : World) (hf : f < 18446744073709551616) :
    Calls Tryz.prog 122 #[.float .f64 f] w fun e w' => e = .returned (.bool (decide (9223372036854775808 ≤ f))) ∧ w' = w := by
  go_enter Tryz.func122, Tryz.ntmps122
  go_wp2
  go_ret
  refine ⟨?_, rfl⟩
  have e : decide (Go.RowKit.wrap64 (f : Int) < 0) = decide (9223372036854775808 ≤ f) := by
    rw [decide_eq_decide]
    unfold Go.RowKit.wrap64
    constructor <;> intro h <;> (try split at h) <;> (try split) <;> omega
  rw [← e]
  rfl
theorem abs_bits (f : Nat) (hf : f < 18446744073709551616) : bits .andNot .u64 (f : Int) 9223372036854775808 = ((f % 9223372036854775808 : Nat) : Int) := by
  have h := u64_andNot_nat f 9223372036854775808 hf (by omega)
  rw [show ((9223372036854775808 : Nat) : Int) = 9223372036854775808 from rfl] at h
  rw [h, show (18446744073709551615 - 9223372036854775808 : Nat) = 2 ^ 63 - 1 by decide, Nat.and_two_pow_sub_one_eq_mod]
theorem ford_self (f : Nat) (h : ffin f) : Ieee.double.order f f = some .eq := by
  rw [forder f f h h]
  simp [compare, compareOfLessAndEq]
theorem ford_nan (f : Nat) (h : 9218868437227405312 < f % 9223372036854775808) : Ieee.double.order f f = none := by
  have e1 : Ieee.double.signWeight = 2 ^ 63 := rfl
  have e2 : Ieee.double.binade = 2 ^ 52 := rfl
  have e3 : Ieee.double.infRung = 2047 * 2 ^ 52 := rfl
  unfold Ieee.Format.order Ieee.Format.read
  rw [e1, e2, e3]
  simp only [if_neg (show ¬ f % 2 ^ 63 < 2 ^ 52 by omega), if_neg (show ¬ f % 2 ^ 63 < 2047 * 2 ^ 52 by omega), if_neg (show ¬ f % 2 ^ 63 = 2047 * 2 ^ 52 by omega)]
  rfl
theorem ford_inf (f : Nat) (h : f % 9223372036854775808 = 9218868437227405312) : Ieee.double.order f f = some .eq := by
  have e1 : Ieee.double.signWeight = 2 ^ 63 := rfl
  have e2 : Ieee.double.binade = 2 ^ 52 := rfl
  have e3 : Ieee.double.infRung = 2047 * 2 ^ 52 := rfl
  unfold Ieee.Format.order Ieee.Format.read
  rw [e1, e2, e3]
  simp only [if_neg (show ¬ f % 2 ^ 63 < 2 ^ 52 by omega), if_neg (show ¬ f % 2 ^ 63 < 2047 * 2 ^ 52 by omega), if_pos (show f % 2 ^ 63 = 2047 * 2 ^ 52 by omega)]
  simp [Ieee.Datum.order, compare, compareOfLessAndEq]
theorem ford_max (r : Nat) (h : r < 9218868437227405312) : (Ieee.double.order r 9218868437227405311 == some .gt) = false := by
  rw [forder r _ (by unfold ffin; omega) (by unfold ffin; omega)]
  have e1 : fkey r = (r : Int) := by unfold fkey; rw [if_neg (by omega)]; congr 1; omega
  have e2 : fkey 9218868437227405311 = 9218868437227405311 := by decide
  rw [e1, e2]
  simp only [compare, compareOfLessAndEq]
  split
  · rfl
  · split
    · rfl
    · omega
theorem ford_infmax : (Ieee.double.order 9218868437227405312 9218868437227405311 == some .gt) = true := by decide +kernel
theorem ford_zero (f : Nat) (h : ffin f) (h0 : f % 9223372036854775808 ≠ 0) : (Ieee.double.order f 0 != some .eq) = true := by
  rw [forder f 0 h (by unfold ffin; omega)]
  have e2 : fkey 0 = 0 := by decide
  have e1 : fkey f ≠ 0 := by unfold fkey; split <;> omega
  rw [e2]
  simp only [compare, compareOfLessAndEq]
  split
  · rfl
  · first | rfl | (rw [if_neg e1]; rfl)
namespace V
def finB (f : Nat) : Bool := decide (f % 9223372036854775808 < 9218868437227405312) && decide (f ≠ 9223372036854775808)
theorem writ_any (f : Nat) (w : World) (hf : f < 18446744073709551616) :
    Calls Tryz.prog 95 #[.float .f64 f] w fun e w' => e = .returned (.bool (finB f)) ∧ w' = w := by
  have HN := isnan_any f w
  have HI := isinf_any f (f % 9223372036854775808) w (abs_bits f hf)
  have HS := sign_any f w hf
  rcases (show 9218868437227405312 < f % 9223372036854775808 ∨ f % 9223372036854775808 = 9218868437227405312 ∨ (f % 9223372036854775808 < 9218868437227405312 ∧ f % 9223372036854775808 ≠ 0) ∨ f = 0 ∨ f = 9223372036854775808 by omega) with h | h | h | h | h
  · rw [ford_nan f h, show (none != some Ordering.eq) = true from rfl] at HN
    have e : finB f = false := by unfold finB; rw [decide_eq_false (by omega)]; rfl
    rw [e]
    clear HI HS hf h e
    go_enter Tryz.func95, Tryz.ntmps95
    go_wp2_with (first | (go_at_call 120; refine HN.mono ?_; rintro e _ ⟨rfl, rfl⟩) | fail)
    go_ret
    exact ⟨rfl, rfl⟩
  · rw [ford_inf f h, show (some Ordering.eq != some Ordering.eq) = false from rfl] at HN
    rw [h, ford_infmax] at HI
    have e : finB f = false := by unfold finB; rw [decide_eq_false (by omega)]; rfl
    rw [e]
    clear HS hf h e
    go_enter Tryz.func95, Tryz.ntmps95
    go_wp2_with (first | (go_at_call 120; refine HN.mono ?_; rintro e _ ⟨rfl, rfl⟩) | (go_at_call 121; refine HI.mono ?_; rintro e _ ⟨rfl, rfl⟩) | fail)
    go_ret
    exact ⟨rfl, rfl⟩
  · have hfin : ffin f := by unfold ffin; omega
    rw [ford_self f hfin, show (some Ordering.eq != some Ordering.eq) = false from rfl] at HN
    rw [ford_max _ h.1] at HI
    have z : (FloatKind.f64.format.order f 0 != some .eq) = true := ford_zero f hfin h.2
    have e : finB f = true := by unfold finB; rw [decide_eq_true h.1, decide_eq_true (by omega)]; rfl
    rw [e]
    clear HS hf h e hfin
    go_enter Tryz.func95, Tryz.ntmps95
    go_wp2_with (first | (go_at_call 120; refine HN.mono ?_; rintro e _ ⟨rfl, rfl⟩) | (go_at_call 121; refine HI.mono ?_; rintro e _ ⟨rfl, rfl⟩) | fail)
    go_ret
    exact ⟨rfl, rfl⟩
  · subst h
    rw [show (Ieee.double.order 0 0 != some .eq) = false by decide +kernel] at HN
    rw [show (Ieee.double.order (0 % 9223372036854775808) 9218868437227405311 == some .gt) = false by decide +kernel] at HI
    rw [show decide (9223372036854775808 ≤ 0) = false by decide] at HS
    have z : (FloatKind.f64.format.order 0 0 != some .eq) = false := by decide +kernel
    rw [show finB 0 = true by decide]
    clear hf
    go_enter Tryz.func95, Tryz.ntmps95
    go_wp2_with (first | (go_at_call 120; refine HN.mono ?_; rintro e _ ⟨rfl, rfl⟩) | (go_at_call 121; refine HI.mono ?_; rintro e _ ⟨rfl, rfl⟩) | (go_at_call 122; refine HS.mono ?_; rintro e _ ⟨rfl, rfl⟩) | fail)
    go_ret
    exact ⟨rfl, rfl⟩
  · subst h
    rw [show (Ieee.double.order 9223372036854775808 9223372036854775808 != some .eq) = false by decide +kernel] at HN
    rw [show (Ieee.double.order (9223372036854775808 % 9223372036854775808) 9218868437227405311 == some .gt) = false by decide +kernel] at HI
    rw [show decide (9223372036854775808 ≤ 9223372036854775808) = true by decide] at HS
    have z : (FloatKind.f64.format.order 9223372036854775808 0 != some .eq) = false := by decide +kernel
    rw [show finB 9223372036854775808 = false by decide]
    clear hf
    go_enter Tryz.func95, Tryz.ntmps95
    go_wp2_with (first | (go_at_call 120; refine HN.mono ?_; rintro e _ ⟨rfl, rfl⟩) | (go_at_call 121; refine HI.mono ?_; rintro e _ ⟨rfl, rfl⟩) | (go_at_call 122; refine HS.mono ?_; rintro e _ ⟨rfl, rfl⟩) | fail)
    go_ret
    exact ⟨rfl, rfl⟩
end V
namespace V
def rightF (n : Int) (f : Nat) (s : ByteArray) : Bool := decide (n = 0) && finB f && s.toList.isEmpty
theorem right26_3 (n : Int) (f : Nat) (s : ByteArray) (w : World) (hf : f < 18446744073709551616) :
    Calls Tryz.prog 71 #[.agg #[.int .u8 3, .int .i64 n, .float .f64 f, .string s]] w fun e w' => e = .returned (.bool (rightF n f s)) ∧ Below w.heap.size w w' := by
  have H : Hid (∀ wx, Calls Tryz.prog 95 #[.float .f64 f] wx fun e w' => e = .returned (.bool (finB f)) ∧ w' = wx) := fun wx => writ_any f wx hf
  unfold rightF
  generalize finB f = F at *
  clear hf
  go_enter Tryz.func71, Tryz.ntmps71
  go_wp2
  go_quiet (fail)
  go_wp2_with (first | (go_at_call 95; refine (H.out _).mono ?_; rintro e _ ⟨rfl, rfl⟩) | fail)
  all_goals
    go_ret
    refine ⟨?_, ?_⟩
    · first | rfl | (simp [*]; done) | (simp [*]; omega)
    · first | exact bel_box _ _ _ | exact below_drewN (bel_box _ _ _) _
theorem tail_eq {a b c d : Int} (h : ¬ a = d) : ((a != d) && (b != c)) = !decide (b = c) := by
  have h1 : (a != d) = true := by simpa using h
  rw [h1, Bool.true_and]
  by_cases e : b = c <;> simp [e]
theorem mask11 (f : Nat) (hf : f < 18446744073709551616) : bits .and .u64 ((f : Int) / 4503599627370496) 2047 = (f : Int) / 4503599627370496 % 2048 := by
  have h := u64_and_nat (f / 4503599627370496) 2047 (by omega) (by omega)
  rw [show ((2047 : Nat) : Int) = 2047 from rfl, show ((f / 4503599627370496 : Nat) : Int) = (f : Int) / 4503599627370496 by omega] at h
  rw [h, show (2047 : Nat) = 2 ^ 11 - 1 by decide, Nat.and_two_pow_sub_one_eq_mod]
  omega
theorem fin_mask (f : Nat) (hf : f < 18446744073709551616) : finB f = (!decide ((f : Int) / 4503599627370496 % 2048 = 2047) && !decide ((f : Int) = 9223372036854775808)) := by
  unfold finB
  rw [← decide_not, ← decide_not]
  congr 1
  · rw [decide_eq_decide]; omega
  · rw [decide_eq_decide]; omega
theorem right27_3 (n : Int) (f : Nat) (s : ByteArray) (w : World) (hf : f < 18446744073709551616) :
    Calls Tryz.prog 67 #[.agg #[.int .u8 3, .int .i64 n, .float .f64 f, .string s]] w fun e w' => e = .returned (.bool (rightF n f s)) ∧ Below w.heap.size w w' := by
  have hm := mask11 f hf
  have he := fin_mask f hf
  unfold rightF
  rw [he]
  clear he
  go_enter Tryz.func67, Tryz.ntmps67
  go_wp2
  all_goals
    go_ret
    refine ⟨?_, ?_⟩
    · first | rfl | (simp [*]; done) | (simp [*]; exact tail_eq (by assumption))
    · first | exact bel_box _ _ _ | exact below_drewN (bel_box _ _ _) _
end V
namespace V
def rightT (n : Int) (f : Nat) (s : ByteArray) : Bool := decide (n = 0) && decide (f = 0) && decide ((s.size : Int) ≤ 1000) && Lib.validD s.data.toList
theorem right26_4 (n : Int) (f : Nat) (s : ByteArray) (w : World) (hs : s.size ≤ 9223372036854775807) (hT : Tabs w) :
    Calls Tryz.prog 71 #[.agg #[.int .u8 4, .int .i64 n, .float .f64 f, .string s]] w fun e w' => e = .returned (.bool (rightT n f s)) ∧ Below w.heap.size w w' := by
  have HV : Hid (∀ wx, Below w.heap.size w wx → Calls Tryz.prog 94 #[.string s] wx fun e w' => e = .returned (.bool (Lib.validD s.data.toList)) ∧ Below w.heap.size w w') := fun wx hx => (valid_any s wx hs (hT.below hx)).mono fun e w' h => ⟨h.1, hx.trans (h.2.mono hx.size)⟩
  have eR : Hid (rightT n f s = (decide (n = 0) && decide (f = 0) && decide ((s.size : Int) ≤ 1000) && Lib.validD s.data.toList)) := rfl
  rw [eR.out]
  clear eR
  generalize Lib.validD s.data.toList = V at *
  clear hT
  go_enter Tryz.func71, Tryz.ntmps71
  go_wp2
  go_quiet (fail)
  go_wp2_with (first | (go_at_call 94; refine (HV.out _ ?_).mono ?_; (first | exact bel_box _ _ _ | exact below_drewN (bel_box _ _ _) _); rintro e w1 ⟨rfl, b1⟩) | fail)
  all_goals
    go_ret
    refine ⟨?_, ?_⟩
    · first | rfl | (simp [*]; done) | (simp [*]; omega)
    · first | assumption | exact bel_box _ _ _ | exact below_drewN (bel_box _ _ _) _
theorem right27_4 (n : Int) (f : Nat) (s : ByteArray) (w : World) (hs : s.size ≤ 9223372036854775807) :
    Calls Tryz.prog 67 #[.agg #[.int .u8 4, .int .i64 n, .float .f64 f, .string s]] w fun e w' => e = .returned (.bool (rightT n f s)) ∧ Below w.heap.size w w' := by
  have eR : Hid (rightT n f s = (decide (n = 0) && decide (f = 0) && decide ((s.size : Int) ≤ 1000) && Lib.validD s.data.toList)) := rfl
  by_cases h1 : (s.size : Int) ≤ 1000
  · have HV : Hid (∀ wx, Calls Tryz.prog 93 #[.string s] wx fun e w' => e = .returned (.bool (Lib.validD s.data.toList)) ∧ w' = wx) := fun wx => utf8_any s wx (by omega)
    rw [eR.out]
    clear eR
    generalize Lib.validD s.data.toList = V at *
    go_enter Tryz.func67, Tryz.ntmps67
    go_wp2_with (first | (go_at_call 93; refine (HV.out _).mono ?_; rintro e _ ⟨rfl, rfl⟩) | fail)
    all_goals
      go_ret
      refine ⟨?_, ?_⟩
      · first | rfl | (simp [*]; done) | (simp [*]; omega)
      · first | assumption | exact bel_box _ _ _ | exact below_drewN (bel_box _ _ _) _
  · rw [eR.out]
    clear eR
    generalize Lib.validD s.data.toList = V at *
    go_enter Tryz.func67, Tryz.ntmps67
    go_wp2
    all_goals
      go_ret
      refine ⟨?_, ?_⟩
      · first | rfl | (simp [*]; done) | (simp [*]; omega)
      · first | assumption | exact bel_box _ _ _ | exact below_drewN (bel_box _ _ _) _
def rightV (k n : Int) (f : Nat) (s : ByteArray) : Bool := if k = 3 then rightF n f s else if k = 4 then rightT n f s else rightB k n f s
theorem rightB_high (k n : Int) (f : Nat) (s : ByteArray) (h : 12 ≤ k) : rightB k n f s = false := by
  unfold rightB
  rw [if_neg (by omega), if_neg (by omega), if_neg (by omega), if_neg (by omega), if_neg (by omega)]
theorem right26_any (k n : Int) (f : Nat) (s : ByteArray) (w : World) (hk : 0 ≤ k) (hf : f < 18446744073709551616) (hs : s.size ≤ 9223372036854775807) (hT : Tabs w) :
    Calls Tryz.prog 71 #[.agg #[.int .u8 k, .int .i64 n, .float .f64 f, .string s]] w fun e w' => e = .returned (.bool (rightV k n f s)) ∧ Below w.heap.size w w' := by
  rcases (show k = 0 ∨ k = 1 ∨ k = 2 ∨ k = 3 ∨ k = 4 ∨ k = 5 ∨ k = 6 ∨ k = 7 ∨ k = 8 ∨ k = 9 ∨ k = 10 ∨ k = 11 ∨ 12 ≤ k by omega) with rfl | rfl | rfl | rfl | rfl | rfl | rfl | rfl | rfl | rfl | rfl | rfl | h
  · exact right26_0 n f s w
  · exact right26_1 n f s w
  · exact right26_2 n f s w
  · exact right26_3 n f s w hf
  · exact right26_4 n f s w hs hT
  · exact right26_5 n f s w
  · exact right26_6 n f s w
  · exact right26_7 n f s w
  · exact right26_8 n f s w
  · exact right26_9 n f s w
  · exact right26_10 n f s w
  · exact right26_11 n f s w
  · have e : rightV k n f s = false := by unfold rightV; rw [if_neg (by omega), if_neg (by omega)]; exact rightB_high k n f s h
    rw [e]
    exact right26_o k n f s w h
theorem right27_any (k n : Int) (f : Nat) (s : ByteArray) (w : World) (hk : 0 ≤ k) (hf : f < 18446744073709551616) (hs : s.size ≤ 9223372036854775807) :
    Calls Tryz.prog 67 #[.agg #[.int .u8 k, .int .i64 n, .float .f64 f, .string s]] w fun e w' => e = .returned (.bool (rightV k n f s)) ∧ Below w.heap.size w w' := by
  rcases (show k = 0 ∨ k = 1 ∨ k = 2 ∨ k = 3 ∨ k = 4 ∨ k = 5 ∨ k = 6 ∨ k = 7 ∨ k = 8 ∨ k = 9 ∨ k = 10 ∨ k = 11 ∨ 12 ≤ k by omega) with rfl | rfl | rfl | rfl | rfl | rfl | rfl | rfl | rfl | rfl | rfl | rfl | h
  · exact right27_0 n f s w
  · exact right27_1 n f s w
  · exact right27_2 n f s w
  · exact right27_3 n f s w hf
  · exact right27_4 n f s w hs
  · exact right27_5 n f s w
  · exact right27_6 n f s w
  · exact right27_7 n f s w
  · exact right27_8 n f s w
  · exact right27_9 n f s w
  · exact right27_10 n f s w
  · exact right27_11 n f s w
  · have e : rightV k n f s = false := by unfold rightV; rw [if_neg (by omega), if_neg (by omega)]; exact rightB_high k n f s h
    rw [e]
    exact right27_o k n f s w h
end V
end Go.Proofs.YtifendlpeebofaaGreatDoor.K
namespace Go.Proofs.YtifendlpeebofaaGreatDoor
open Go.RowKit
def okC (n : Nat) : Bool := decide (32 ≤ n) && decide (n ≠ 127)
def plainB (s : ByteArray) : Bool := s.data.toList.all fun c => okC c.toNat
def rightB (s : ByteArray) : Bool := plainB s && Lib.validD s.data.toList
def keyB (s : ByteArray) : Bool := decide (0 < s.size) && decide (s.size ≤ 64) && rightB s
theorem by8_at (s : ByteArray) (i : Nat) (hi : i < s.data.toList.length) : K.V.by8 s i = (s.data.toList[i]).toNat := by
  unfold K.V.by8
  rw [List.getD_eq_getElem?_getD, List.getElem?_eq_getElem hi]
  rfl
theorem plain_iff (s : ByteArray) : plainB s = true ↔ ∀ i, i < s.size → okC (K.V.by8 s i) = true := by
  unfold plainB
  have hz : s.data.toList.length = s.size := Array.length_toList
  rw [List.all_eq_true]
  constructor
  · intro h i hi
    rw [by8_at s i (by omega)]
    exact h _ (List.getElem_mem _)
  · intro h c hc
    obtain ⟨i, hi, rfl⟩ := List.getElem_of_mem hc
    have := h i (by omega)
    rw [by8_at s i hi] at this
    exact this
theorem plain_no {s : ByteArray} {i : Nat} (hi : i < s.size) (h : okC (K.V.by8 s i) = false) : plainB s = false := by
  cases hp : plainB s with
  | false => rfl
  | true => rw [(plain_iff s).1 hp i hi] at h; cases h
theorem okC_no {n : Nat} (h : okC n = false) (h1 : ¬ (n : Int) < 32) : (n : Int) = 127 := by
  unfold okC at h
  simp at h
  omega
theorem okC_yes {n : Nat} (h : okC n = true) : ¬ (n : Int) < 32 ∧ ¬ (n : Int) = 127 := by
  unfold okC at h
  simp at h
  omega
theorem wright_any (s : ByteArray) (w : World) (hs : s.size ≤ 140737488355328) (hT : K.V.Tabs w) :
    Calls Tryz.prog 70 #[.string s] w fun e w' => e = .returned (.bool (rightB s)) ∧ Below w.heap.size w w' := by
  have HV := hidMk (K.V.valid_any s w (by omega) hT)
  have HP : Hid (plainB s = true → rightB s = Lib.validD s.data.toList) := fun h => by unfold rightB; rw [h]; rfl
  have HF : Hid (plainB s = false → rightB s = false) := fun h => by unfold rightB; rw [h]; rfl
  have HI := hidMk (plain_iff s)
  have HN : Hid (∀ i, i < s.size → okC (K.V.by8 s i) = false → plainB s = false) := fun i h1 h2 => plain_no h1 h2
  have HX : Hid (∀ k, k < s.size → ∀ wx, (Instr.index 9 (.string s) (.int .i64 (k : Int))).run Tryz.prog wx = .ok (.int .u8 (K.V.by8 s k : Int)) wx) := fun k h wx => K.V.index_str s k wx h
  have HB := hidMk (K.V.by8_lt s)
  generalize Lib.validD s.data.toList = D at *
  generalize rightB s = R at *
  clear hT
  go_enter Tryz.func70, Tryz.ntmps70
  go_wp2
  go_loopw [6] (fun i wr => ∃ k : Nat, k ≤ s.size ∧ i = .int .i64 k ∧ wr = w ∧ Hid (∀ j, j < k → okC (K.V.by8 s j) = true)) (fun i _ => s.size - (intOf i).toNat)
  case atStart => exact ⟨0, by omega, rfl, rfl, fun j hj => by omega⟩
  case round =>
    obtain ⟨k, hk, rfl, rfl, HK⟩ := hrel
    by_cases hks : k < s.size
    · have hks' : (k : Int) < (s.size : Int) := by omega
      have ix := HX.out k hks
      have hb := HB.out k
      cases hok : okC (K.V.by8 s k) with
      | true =>
        obtain ⟨o1, o2⟩ := okC_yes hok
        have HK2 : Hid (∀ j, j < k + 1 → okC (K.V.by8 s j) = true) := fun j hj => by
          rcases Nat.lt_or_ge j k with h | h
          · exact HK.out j h
          · obtain rfl : j = k := by omega
            exact hok
        clear hok HK
        generalize K.V.by8 s k = c at *
        go_wp2
        go_roundw
        case rel => exact ⟨k + 1, by omega, by go_num, by trivial, HK2⟩
        case measure => simp [intOf]; omega
      | false =>
        have HR : Hid (R = false) := HF.out (HN.out k hks hok)
        have ho := @okC_no _ hok
        clear hok HK HF HN HP
        generalize K.V.by8 s k = c at *
        by_cases h1 : (c : Int) < 32
        · go_wp2
          go_ret
          exact ⟨by rw [HR.out]; rfl, Below.refl _ _⟩
        · have h2 := ho h1
          clear ho
          go_wp2
          go_ret
          exact ⟨by rw [HR.out]; rfl, Below.refl _ _⟩
    · have hks' : ¬ (k : Int) < (s.size : Int) := by omega
      have HR : Hid (R = D) := HP.out (HI.out.2 fun j hj => HK.out j (by omega))
      clear HK HF HN HP HX
      go_wp2_with fail
      refine HV.out.mono ?_
      rintro e w1 ⟨rfl, b1⟩
      skip
      go_wp2
      go_ret
      exact ⟨by rw [HR.out]; rfl, b1⟩
theorem rright_any (s : ByteArray) (w : World) (hs : s.size ≤ 140737488355328) :
    Calls Tryz.prog 69 #[.string s] w fun e w' => e = .returned (.bool (rightB s)) ∧ w' = w := by
  have HV := hidMk (K.V.utf8_any s w hs)
  have HP : Hid (plainB s = true → rightB s = Lib.validD s.data.toList) := fun h => by unfold rightB; rw [h]; rfl
  have HF : Hid (plainB s = false → rightB s = false) := fun h => by unfold rightB; rw [h]; rfl
  have HI := hidMk (plain_iff s)
  have HN : Hid (∀ i, i < s.size → okC (K.V.by8 s i) = false → plainB s = false) := fun i h1 h2 => plain_no h1 h2
  have HX : Hid (∀ k, k < s.size → ∀ wx, (Instr.index 9 (.string s) (.int .i64 (k : Int))).run Tryz.prog wx = .ok (.int .u8 (K.V.by8 s k : Int)) wx) := fun k h wx => K.V.index_str s k wx h
  have HB := hidMk (K.V.by8_lt s)
  generalize Lib.validD s.data.toList = D at *
  generalize rightB s = R at *
  skip
  go_enter Tryz.func69, Tryz.ntmps69
  go_wp2
  go_loopw [3] (fun i wr => ∃ k : Nat, k ≤ s.size ∧ i = .int .i64 k ∧ wr = w ∧ Hid (∀ j, j < k → okC (K.V.by8 s j) = true)) (fun i _ => s.size - (intOf i).toNat)
  case atStart => exact ⟨0, by omega, rfl, rfl, fun j hj => by omega⟩
  case round =>
    obtain ⟨k, hk, rfl, rfl, HK⟩ := hrel
    by_cases hks : k < s.size
    · have hks' : (k : Int) < (s.size : Int) := by omega
      have ix := HX.out k hks
      have hb := HB.out k
      cases hok : okC (K.V.by8 s k) with
      | true =>
        obtain ⟨o1, o2⟩ := okC_yes hok
        have HK2 : Hid (∀ j, j < k + 1 → okC (K.V.by8 s j) = true) := fun j hj => by
          rcases Nat.lt_or_ge j k with h | h
          · exact HK.out j h
          · obtain rfl : j = k := by omega
            exact hok
        clear hok HK
        generalize K.V.by8 s k = c at *
        go_wp2
        go_roundw
        case rel => exact ⟨k + 1, by omega, by go_num, by trivial, HK2⟩
        case measure => simp [intOf]; omega
      | false =>
        have HR : Hid (R = false) := HF.out (HN.out k hks hok)
        have ho := @okC_no _ hok
        clear hok HK HF HN HP
        generalize K.V.by8 s k = c at *
        by_cases h1 : (c : Int) < 32
        · go_wp2
          go_ret
          exact ⟨by rw [HR.out]; rfl, rfl⟩
        · have h2 := ho h1
          clear ho
          go_wp2
          go_ret
          exact ⟨by rw [HR.out]; rfl, rfl⟩
    · have hks' : ¬ (k : Int) < (s.size : Int) := by omega
      have HR : Hid (R = D) := HP.out (HI.out.2 fun j hj => HK.out j (by omega))
      clear HK HF HN HP HX
      go_wp2_with fail
      refine HV.out.mono ?_
      rintro e w1 ⟨rfl, b1⟩
      subst b1
      go_wp2
      go_ret
      exact ⟨by rw [HR.out]; rfl, rfl⟩
theorem wkey_any (s : ByteArray) (w : World) (hT : K.V.Tabs w) :
    Calls Tryz.prog 40 #[.string s] w fun e w' => e = .returned (.bool (keyB s)) ∧ Below w.heap.size w w' := by
  have H := hidMk (fun (hq : s.size ≤ 64) => wright_any s w (by omega) hT)
  have HK : Hid (keyB s = (decide (0 < s.size) && decide (s.size ≤ 64) && rightB s)) := rfl
  generalize rightB s = R at *
  generalize keyB s = B at *
  clear hT
  by_cases h0 : s.size = 0
  · have HB : Hid (B = false) := by show _ = _; rw [HK.out, h0]; rfl
    have e0 : s.toList.isEmpty = true := by
      rw [ByteArray.toList_eq, show s.data.toList = [] from List.eq_nil_of_length_eq_zero (by rw [Array.length_toList]; exact h0)]
      rfl
    clear H HK
    go_enter Tryz.func40, Tryz.ntmps40
    go_wp2
    go_ret
    exact ⟨by rw [HB.out]; rfl, Below.refl _ _⟩
  · have h0' : (1 : Int) ≤ (s.size : Int) := by omega
    have e0 : s.toList.isEmpty = false := K.V.not_empty s (by omega)
    by_cases h1 : s.size ≤ 64
    · have h1' : (s.size : Int) ≤ 64 := by omega
      have HB : Hid (B = R) := by show _ = _; rw [HK.out, decide_eq_true (show 0 < s.size by omega), decide_eq_true h1]; rfl
      clear HK
      go_enter Tryz.func40, Tryz.ntmps40
      go_wp2_with fail
      refine (H.out h1).mono ?_
      rintro e w1 ⟨rfl, b1⟩
      skip
      go_wp2
      go_ret
      exact ⟨by rw [HB.out]; rfl, b1⟩
    · have h1' : ¬ (s.size : Int) ≤ 64 := by omega
      have HB : Hid (B = false) := by show _ = _; rw [HK.out, decide_eq_false h1, Bool.and_false]; rfl
      clear H HK
      go_enter Tryz.func40, Tryz.ntmps40
      go_wp2
      go_ret
      exact ⟨by rw [HB.out]; rfl, Below.refl _ _⟩
theorem rkey_any (s : ByteArray) (w : World) :
    Calls Tryz.prog 37 #[.string s] w fun e w' => e = .returned (.bool (keyB s)) ∧ w' = w := by
  have H := hidMk (fun (hq : s.size ≤ 64) => rright_any s w (by omega))
  have HK : Hid (keyB s = (decide (0 < s.size) && decide (s.size ≤ 64) && rightB s)) := rfl
  generalize rightB s = R at *
  generalize keyB s = B at *
  skip
  by_cases h0 : s.size = 0
  · have HB : Hid (B = false) := by show _ = _; rw [HK.out, h0]; rfl
    have e0 : s.toList.isEmpty = true := by
      rw [ByteArray.toList_eq, show s.data.toList = [] from List.eq_nil_of_length_eq_zero (by rw [Array.length_toList]; exact h0)]
      rfl
    clear H HK
    go_enter Tryz.func37, Tryz.ntmps37
    go_wp2
    go_ret
    exact ⟨by rw [HB.out]; rfl, rfl⟩
  · have h0' : (1 : Int) ≤ (s.size : Int) := by omega
    have e0 : s.toList.isEmpty = false := K.V.not_empty s (by omega)
    by_cases h1 : s.size ≤ 64
    · have h1' : (s.size : Int) ≤ 64 := by omega
      have HB : Hid (B = R) := by show _ = _; rw [HK.out, decide_eq_true (show 0 < s.size by omega), decide_eq_true h1]; rfl
      clear HK
      go_enter Tryz.func37, Tryz.ntmps37
      go_wp2_with fail
      refine (H.out h1).mono ?_
      rintro e w1 ⟨rfl, b1⟩
      subst b1
      go_wp2
      go_ret
      exact ⟨by rw [HB.out]; rfl, rfl⟩
    · have h1' : ¬ (s.size : Int) ≤ 64 := by omega
      have HB : Hid (B = false) := by show _ = _; rw [HK.out, decide_eq_false h1, Bool.and_false]; rfl
      clear H HK
      go_enter Tryz.func37, Tryz.ntmps37
      go_wp2
      go_ret
      exact ⟨by rw [HB.out]; rfl, rfl⟩
end Go.Proofs.YtifendlpeebofaaGreatDoor
namespace Go.Proofs.YtifendlpeebofaaGreatDoor
open Go.RowKit Sq
def VaAt (w : World) (b : Nat) (x : VaV) : Prop := w.heap[b]? = some (.cells x.c.toArray 40 (0, 0))
theorem VaAt.below {w w' : World} {b : Nat} {x : VaV} (h : VaAt w b x) (hb : Below w.heap.size w w') : VaAt w' b x := (hb.block b (Array.getElem?_eq_some_iff.1 h).1).trans h
theorem load_va {W : World} {b : Nat} {x : VaV} (h : VaAt W b x) : (Instr.loadAt 40 (.pointer (some ⟨b, 0, none⟩))).run Tryz.prog W = .ok x.v W :=
  run_loadAt_mid (P := Tryz.prog) W b 0 40 x.c _ (cells_range h) Tryz.underlying40 rfl (by rw [VaV.len]; exact szVa)
theorem load_kd {W : World} {b : Nat} {x : VaV} (h : VaAt W b x) : (Instr.loadAt 37 (.pointer (some ⟨b, 0 + 0, none⟩))).run Tryz.prog W = .ok (.int .u8 x.k) W := by
  have hc : W.cell? ⟨b, 0, none⟩ = some (.int .u8 x.k) := (cell_of_row W b 0 _ _ _ h).trans rfl
  go_simp
def VaV.right (x : VaV) : Bool := K.V.rightV x.k x.n x.f x.s
def vaC (x : VaV) : Int := if x.right = true then 0 else 30
theorem vright_any (x : VaV) (hx : x.ok) (w : World) (hT : K.V.Tabs w) : Calls Tryz.prog 41 #[x.v] w fun e w' => e = .returned (.int .i64 (vaC x)) ∧ Below w.heap.size w w' := by
  have b1 : Below w.heap.size w (w.alloc (.cells x.c.toArray 40)) := (Below.refl _ _).alloc (Nat.le_refl _) _
  have n1 : VaAt (w.alloc (.cells x.c.toArray 40)) w.heap.size x := heap_alloc_new _ _
  have L1 := hidMk (load_va n1)
  have CR : Hid (Calls Tryz.prog 71 #[x.v] (w.alloc (.cells x.c.toArray 40)) fun e w' => e = .returned (.bool x.right) ∧ Below (w.alloc (.cells x.c.toArray 40)).heap.size (w.alloc (.cells x.c.toArray 40)) w') := K.V.right26_any x.k x.n x.f x.s _ hx.k0 hx.ff (Nat.le_trans hx.ss (by decide)) (hT.below b1)
  have HE : Hid (vaC x = if x.right = true then 0 else 30) := rfl
  have B1 := hidMk b1
  clear b1 n1 hT hx
  generalize vaC x = res at *
  generalize x.right = g at *
  show Calls Tryz.prog 41 #[.agg x.c.toArray] w _
  go_enter Tryz.func41, Tryz.ntmps41
  go_upto_region 1 with fail
  generalize w.alloc (.cells x.c.toArray 40) = w1 at *
  go_wp2_with (first
    | (refine wload w1 rfl rfl rfl L1.out rfl ?_)
    | (go_at_call 71; refine CR.out.mono ?_; rintro e w2 ⟨rfl, b2⟩; have B2 := hidMk b2; clear b2)
    | fail)
  all_goals
    go_ret
    exact ⟨by rw [HE.out]; cases g <;> simp_all, B1.out.trans (B2.out.mono B1.out.size)⟩
theorem vscalar_any (k : Int) (w : World) : Calls Tryz.prog 42 #[.int .u8 k] w fun e w' => e = .returned (.bool (decide (k ≤ 7))) ∧ w' = w := by
  go_enter Tryz.func42, Tryz.ntmps42
  go_wp2
  go_ret
  exact ⟨rfl, rfl⟩
theorem rvright_any (x : VaV) (hx : x.ok) (w : World) : Calls Tryz.prog 44 #[x.v] w fun e w' => e = .returned (.int .i64 (vaC x)) ∧ Below w.heap.size w w' := by
  have b1 : Below w.heap.size w (w.alloc (.cells x.c.toArray 40)) := (Below.refl _ _).alloc (Nat.le_refl _) _
  have n1 : VaAt (w.alloc (.cells x.c.toArray 40)) w.heap.size x := heap_alloc_new _ _
  have L1 := hidMk (load_va n1)
  have CR : Hid (Calls Tryz.prog 67 #[x.v] (w.alloc (.cells x.c.toArray 40)) fun e w' => e = .returned (.bool x.right) ∧ Below (w.alloc (.cells x.c.toArray 40)).heap.size (w.alloc (.cells x.c.toArray 40)) w') := K.V.right27_any x.k x.n x.f x.s _ hx.k0 hx.ff (Nat.le_trans hx.ss (by decide))
  have HE : Hid (vaC x = if x.right = true then 0 else 30) := rfl
  have B1 := hidMk b1
  clear b1 n1 hx
  generalize vaC x = res at *
  generalize x.right = g at *
  show Calls Tryz.prog 44 #[.agg x.c.toArray] w _
  go_enter Tryz.func44, Tryz.ntmps44
  go_upto_region 1 with fail
  generalize w.alloc (.cells x.c.toArray 40) = w1 at *
  go_wp2_with (first
    | (refine wload w1 rfl rfl rfl L1.out rfl ?_)
    | (go_at_call 67; refine CR.out.mono ?_; rintro e w2 ⟨rfl, b2⟩; have B2 := hidMk b2; clear b2)
    | fail)
  all_goals
    go_ret
    exact ⟨by rw [HE.out]; cases g <;> simp_all, B1.out.trans (B2.out.mono B1.out.size)⟩
theorem rvscalar_any (k : Int) (w : World) : Calls Tryz.prog 45 #[.int .u8 k] w fun e w' => e = .returned (.bool (decide (k ≤ 7))) ∧ w' = w := by
  go_enter Tryz.func45, Tryz.ntmps45
  go_wp2
  go_ret
  exact ⟨rfl, rfl⟩
structure Mx where
  mb : Nat
  lv : Value
  ib : Nat
  L : List MkV
def unV : Value := .agg #[]
def idE (L : List MkV) : List (IdK × Value) := L.map (fun x => (x.id, unV))
structure MkAt (w : World) (base : Nat) (m : Mx) : Prop where
  cell : w.heap[m.mb]? = some (.cells #[m.lv, .map (some m.ib)] 87 (0, 0))
  lo : RM.Lo w base m.lv m.L
  ok : ∀ x ∈ m.L, x.ok ∧ (0 ≤ x.sd ∧ x.sd ≤ 3)
  map : M.MapAt w m.ib IdK.v IdK.ok (idE m.L)
  n : m.L.length ≤ 900000000000
theorem MkAt.below {w w' : World} {base : Nat} {m : Mx} (h : MkAt w base m) (b : Below w.heap.size w w') : MkAt w' base m :=
  ⟨(b.block _ (Array.getElem?_eq_some_iff.1 h.cell).1).trans h.cell, h.lo.below b, h.ok, h.map.below (b.block _ h.map.lt), h.n⟩
theorem idE_look (L : List MkV) (k : IdK) : M.look (idE L) k = if (∃ x ∈ L, x.id = k) then some unV else none := by
  induction L with
  | nil => simp [idE, M.look_nil]
  | cons x L ih =>
    show M.look ((x.id, unV) :: idE L) k = _
    rw [M.look_cons, ih]
    by_cases e : k = x.id
    · rw [if_pos e, if_pos ⟨x, by simp, e.symm⟩]
    · rw [if_neg e]
      by_cases q : ∃ y ∈ L, y.id = k
      · rw [if_pos q, if_pos (by obtain ⟨y, hy, r⟩ := q; exact ⟨y, by simp [hy], r⟩)]
      · rw [if_neg q, if_neg (fun r => by
          obtain ⟨y, hy, r⟩ := r
          rcases List.mem_cons.1 hy with rfl | hy
          · exact e r.symm
          · exact q ⟨y, hy, r⟩)]
def hasM (L : List MkV) (k : IdK) : Bool := L.any fun x => decide (x.id = k)
theorem hasM_iff {L : List MkV} {k : IdK} : hasM L k = true ↔ ∃ x ∈ L, x.id = k := by simp [hasM]
theorem zeroUn (w : World) : (zeroValue 96).run Tryz.prog w = .ok unV w := by kernel_rfl
section
variable {w : World} {base : Nat} {m : Mx}
theorem MkAt.lookk (h : MkAt w base m) {k : IdK} (hk : k.ok) : (Instr.lookup 84 (.map (some m.ib)) k.v true).run Tryz.prog w = .ok (.tuple #[.agg #[], .bool (hasM m.L k)]) w := by
  rw [M.run_look idKey Tryz.underlying84 h.map k hk (zeroUn w) true, M.has_look, idE_look]
  by_cases q : ∃ x ∈ m.L, x.id = k
  · rw [if_pos q, hasM_iff.2 q]; rfl
  · rw [if_neg q]
    have : hasM m.L k = false := by
      cases e : hasM m.L k with
      | false => rfl
      | true => exact absurd (hasM_iff.1 e) q
    rw [this]; rfl
theorem MkAt.ldm (h : MkAt w base m) : (Instr.loadAt 84 (.pointer (some ⟨m.mb, 0 + 1, none⟩))).run Tryz.prog w = .ok (.map (some m.ib)) w := by
  have hc : w.cell? ⟨m.mb, 1, none⟩ = some (.map (some m.ib)) := (cell_of_row w m.mb 1 _ _ _ h.cell).trans rfl
  go_simp
theorem MkAt.lvS (h : MkAt w base m) : ∃ a c, m.lv = .slice a m.L.length c ∧ RM.At w a m.L := by
  obtain ⟨a, c, e, hat, _⟩ := h.lo.open RM_is (fun x hx => (h.ok x hx).1)
  exact ⟨a, c, e, hat⟩
theorem MkAt.ldl (h : MkAt w base m) : (Instr.loadAt 85 (.pointer (some ⟨m.mb, 0 + 0, none⟩))).run Tryz.prog w = .ok m.lv w := by
  obtain ⟨a, c, e, _⟩ := h.lvS
  have hc : w.cell? ⟨m.mb, 0, none⟩ = some (.slice a m.L.length c) := by rw [← e]; exact (cell_of_row w m.mb 0 _ _ _ h.cell).trans rfl
  rw [e]
  go_simp
theorem un_new (W : World) : ∃ w1 w2, (Instr.alloc 96 true (.tuple #[])).run Tryz.prog W = .ok (.pointer (some ⟨W.heap.size, 0, none⟩)) w1 ∧ Below W.heap.size W w1 ∧ (Instr.storeAt 96 (.pointer (some ⟨W.heap.size, 0, none⟩)) (.agg #[])).run Tryz.prog w1 = .ok () w2 ∧ Below W.heap.size W w2 := by
  have b1 : Below W.heap.size W (W.alloc (.cells #[] 96)) := (Below.refl _ _).alloc (Nat.le_refl _) _
  have hc : (W.alloc (.cells #[] 96)).heap[W.heap.size]? = some (.cells #[] 96 (0, 0)) := heap_alloc_new _ _
  have e2 := run_storeVar_row (P := Tryz.prog) (W.alloc (.cells #[] 96)) W.heap.size 96 96 #[] #[] hc (by kernel_rfl) rfl (by simp)
  refine ⟨W.alloc (.cells #[] 96), _, by kernel_rfl, b1, ?_, b1.trans (set_below #[] b1.size (Nat.le_refl _))⟩
  simp only [Instr.storeAt, Instr.sureAddr, Sem.run_bind, Sem.run_pure, Result.andThen_ok, e2]
theorem mhas_any (h : MkAt w base m) {k : IdK} (hk : k.ok) : Calls Tryz.prog 39 #[.pointer (some ⟨m.mb, 0, none⟩), k.v] w fun e w' => e = .returned (.bool (hasM m.L k)) ∧ Below w.heap.size w w' := by
  have bx : Below w.heap.size w (w.alloc (.cells k.c.toArray 36)) := (Below.refl _ _).alloc (Nat.le_refl _) _
  have hx := id_new w k
  show Calls Tryz.prog 39 #[.pointer (some ⟨m.mb, 0, none⟩), .agg k.c.toArray] w _
  go_enter Tryz.func39, Tryz.ntmps39
  go_upto_region 1 with fail
  generalize w.alloc (.cells k.c.toArray 36) = wx at *
  have h1 := h.below bx
  have HX := hidMk hx
  obtain ⟨w1, w2, e1, b1, e2, b2⟩ := un_new wx.drew
  have bd : Below wx.heap.size wx wx.drew := (Below.refl _ _).drew
  have bd1 := bd.trans (b1.mono bd.size)
  have bd2 := bd.trans (b2.mono bd.size)
  clear hx
  refine mha1 (k := k) (r := hasM m.L k) (ib := m.ib) (eb := wx.heap.size) (w1 := w1) (w2 := w2) (fun W => Below wx.heap.size wx W) _ wx _ rfl rfl rfl bd (fun W b => (h1.below b).ldm) (fun W b => load_id hk (HX.out.below b)) (fun W b => (h1.below b).lookk hk) e1 bd1 e2 bd2 ?_
  intro a' w3 hw ha
  subst ha
  simp only [Act.put, qsA, qsB, qsC]
  clear e1 e2 b1 b2 bd bd1 bd2
  go_wp2
  go_ret
  exact ⟨rfl, bx.trans (hw.mono bx.size)⟩
end
theorem build_un (w : World) : (Instr.build 96 #[]).run Tryz.prog w = .ok (.agg #[]) w := by kernel_rfl
theorem build_span (w : World) (a b : Int) (nm : ByteArray) (v : VaV) : (Instr.build 65 #[(0, .int .i64 a), (1, .int .i64 b), (2, .string nm), (3, v.v)]).run Tryz.prog w = .ok (SpV.a ⟨a, b, nm, v⟩) w := by
  obtain ⟨k, n, f, s⟩ := v
  kernel_rfl
theorem build_mk0 (w : World) (a0 a1 a2 a3 a4 a5 a6 a7 a8 a9 a10 a11 a12 a13 a14 a15 a16 a17 a18 a19 a20 a21 a22 a23 a24 a25 a26 a27 a28 a29 a30 a31 a32 b0 b1 b2 b3 b4 b5 b6 b7 b8 b9 b10 b11 b12 b13 b14 b15 b16 b17 b18 b19 b20 b21 b22 b23 b24 b25 b26 b27 b28 b29 b30 b31 b32 c0 c1 c2 c3 c4 c5 c6 c7 c8 c9 c10 c11 c12 c13 c14 c15 c16 c17 c18 c19 c20 c21 c22 c23 c24 c25 c26 c27 c28 c29 c30 c31 c32 : Value) (nm : ByteArray) (k n sd : Int) (f : Nat) (t : ByteArray) : (Instr.build 95 #[(0, .agg #[a0, a1, a2, a3, a4, a5, a6, a7, a8, a9, a10, a11, a12, a13, a14, a15, a16, a17, a18, a19, a20, a21, a22, a23, a24, a25, a26, a27, a28, a29, a30, a31, a32]), (1, .string nm), (2, .agg #[.int .u8 k, .int .i64 n, .float .f64 f, .string t]), (3, .agg #[b0, b1, b2, b3, b4, b5, b6, b7, b8, b9, b10, b11, b12, b13, b14, b15, b16, b17, b18, b19, b20, b21, b22, b23, b24, b25, b26, b27, b28, b29, b30, b31, b32]), (4, .agg #[c0, c1, c2, c3, c4, c5, c6, c7, c8, c9, c10, c11, c12, c13, c14, c15, c16, c17, c18, c19, c20, c21, c22, c23, c24, c25, c26, c27, c28, c29, c30, c31, c32]), (5, .int .i64 sd)]).run Tryz.prog w = .ok (.agg #[a0, a1, a2, a3, a4, a5, a6, a7, a8, a9, a10, a11, a12, a13, a14, a15, a16, a17, a18, a19, a20, a21, a22, a23, a24, a25, a26, a27, a28, a29, a30, a31, a32, .string nm, .int .u8 k, .int .i64 n, .float .f64 f, .string t, b0, b1, b2, b3, b4, b5, b6, b7, b8, b9, b10, b11, b12, b13, b14, b15, b16, b17, b18, b19, b20, b21, b22, b23, b24, b25, b26, b27, b28, b29, b30, b31, b32, c0, c1, c2, c3, c4, c5, c6, c7, c8, c9, c10, c11, c12, c13, c14, c15, c16, c17, c18, c19, c20, c21, c22, c23, c24, c25, c26, c27, c28, c29, c30, c31, c32, .int .i64 sd]) w := by kernel_rfl
theorem build_mk (w : World) {x : MkV} (hx : x.ok) : (Instr.build 95 #[(0, x.id.v), (1, .string x.nm), (2, x.v.v), (3, x.fr.v), (4, x.to.v), (5, .int .i64 x.sd)]).run Tryz.prog w = .ok x.a w := by
  have h1 := IdK.len hx.i
  have h2 := IdK.len hx.fr
  have h3 := IdK.len hx.to
  unfold MkV.a MkV.c IdK.v VaV.v VaV.c
  generalize x.id.c = l at *
  generalize x.fr.c = m at *
  generalize x.to.c = r at *
  match l, h1, m, h2, r, h3 with
  | a0 :: a1 :: a2 :: a3 :: a4 :: a5 :: a6 :: a7 :: a8 :: a9 :: a10 :: a11 :: a12 :: a13 :: a14 :: a15 :: a16 :: a17 :: a18 :: a19 :: a20 :: a21 :: a22 :: a23 :: a24 :: a25 :: a26 :: a27 :: a28 :: a29 :: a30 :: a31 :: a32 :: [], _, b0 :: b1 :: b2 :: b3 :: b4 :: b5 :: b6 :: b7 :: b8 :: b9 :: b10 :: b11 :: b12 :: b13 :: b14 :: b15 :: b16 :: b17 :: b18 :: b19 :: b20 :: b21 :: b22 :: b23 :: b24 :: b25 :: b26 :: b27 :: b28 :: b29 :: b30 :: b31 :: b32 :: [], _, c0 :: c1 :: c2 :: c3 :: c4 :: c5 :: c6 :: c7 :: c8 :: c9 :: c10 :: c11 :: c12 :: c13 :: c14 :: c15 :: c16 :: c17 :: c18 :: c19 :: c20 :: c21 :: c22 :: c23 :: c24 :: c25 :: c26 :: c27 :: c28 :: c29 :: c30 :: c31 :: c32 :: [], _ => exact build_mk0 w a0 a1 a2 a3 a4 a5 a6 a7 a8 a9 a10 a11 a12 a13 a14 a15 a16 a17 a18 a19 a20 a21 a22 a23 a24 a25 a26 a27 a28 a29 a30 a31 a32 b0 b1 b2 b3 b4 b5 b6 b7 b8 b9 b10 b11 b12 b13 b14 b15 b16 b17 b18 b19 b20 b21 b22 b23 b24 b25 b26 b27 b28 b29 b30 b31 b32 c0 c1 c2 c3 c4 c5 c6 c7 c8 c9 c10 c11 c12 c13 c14 c15 c16 c17 c18 c19 c20 c21 c22 c23 c24 c25 c26 c27 c28 c29 c30 c31 c32 x.nm x.v.k x.v.n x.sd x.v.f x.v.s
theorem build_rk0 (w : World) (a0 a1 a2 a3 a4 a5 a6 a7 a8 a9 a10 a11 a12 a13 a14 a15 a16 a17 a18 a19 a20 a21 a22 a23 a24 a25 a26 a27 a28 a29 a30 a31 a32 b0 b1 b2 b3 b4 b5 b6 b7 b8 b9 b10 b11 b12 b13 b14 b15 b16 b17 b18 b19 b20 b21 b22 b23 b24 b25 b26 b27 b28 b29 b30 b31 b32 c0 c1 c2 c3 c4 c5 c6 c7 c8 c9 c10 c11 c12 c13 c14 c15 c16 c17 c18 c19 c20 c21 c22 c23 c24 c25 c26 c27 c28 c29 c30 c31 c32 : Value) (nm : ByteArray) (k n sd : Int) (f : Nat) (t : ByteArray) : (Instr.build 99 #[(0, .agg #[a0, a1, a2, a3, a4, a5, a6, a7, a8, a9, a10, a11, a12, a13, a14, a15, a16, a17, a18, a19, a20, a21, a22, a23, a24, a25, a26, a27, a28, a29, a30, a31, a32]), (1, .string nm), (2, .agg #[.int .u8 k, .int .i64 n, .float .f64 f, .string t]), (3, .agg #[b0, b1, b2, b3, b4, b5, b6, b7, b8, b9, b10, b11, b12, b13, b14, b15, b16, b17, b18, b19, b20, b21, b22, b23, b24, b25, b26, b27, b28, b29, b30, b31, b32]), (4, .agg #[c0, c1, c2, c3, c4, c5, c6, c7, c8, c9, c10, c11, c12, c13, c14, c15, c16, c17, c18, c19, c20, c21, c22, c23, c24, c25, c26, c27, c28, c29, c30, c31, c32]), (5, .int .i64 sd)]).run Tryz.prog w = .ok (.agg #[a0, a1, a2, a3, a4, a5, a6, a7, a8, a9, a10, a11, a12, a13, a14, a15, a16, a17, a18, a19, a20, a21, a22, a23, a24, a25, a26, a27, a28, a29, a30, a31, a32, .string nm, .int .u8 k, .int .i64 n, .float .f64 f, .string t, b0, b1, b2, b3, b4, b5, b6, b7, b8, b9, b10, b11, b12, b13, b14, b15, b16, b17, b18, b19, b20, b21, b22, b23, b24, b25, b26, b27, b28, b29, b30, b31, b32, c0, c1, c2, c3, c4, c5, c6, c7, c8, c9, c10, c11, c12, c13, c14, c15, c16, c17, c18, c19, c20, c21, c22, c23, c24, c25, c26, c27, c28, c29, c30, c31, c32, .int .i64 sd]) w := by kernel_rfl
theorem build_rk (w : World) {x : MkV} (hx : x.ok) : (Instr.build 99 #[(0, x.id.v), (1, .string x.nm), (2, x.v.v), (3, x.fr.v), (4, x.to.v), (5, .int .i64 x.sd)]).run Tryz.prog w = .ok x.a w := by
  have h1 := IdK.len hx.i
  have h2 := IdK.len hx.fr
  have h3 := IdK.len hx.to
  unfold MkV.a MkV.c IdK.v VaV.v VaV.c
  generalize x.id.c = l at *
  generalize x.fr.c = m at *
  generalize x.to.c = r at *
  match l, h1, m, h2, r, h3 with
  | a0 :: a1 :: a2 :: a3 :: a4 :: a5 :: a6 :: a7 :: a8 :: a9 :: a10 :: a11 :: a12 :: a13 :: a14 :: a15 :: a16 :: a17 :: a18 :: a19 :: a20 :: a21 :: a22 :: a23 :: a24 :: a25 :: a26 :: a27 :: a28 :: a29 :: a30 :: a31 :: a32 :: [], _, b0 :: b1 :: b2 :: b3 :: b4 :: b5 :: b6 :: b7 :: b8 :: b9 :: b10 :: b11 :: b12 :: b13 :: b14 :: b15 :: b16 :: b17 :: b18 :: b19 :: b20 :: b21 :: b22 :: b23 :: b24 :: b25 :: b26 :: b27 :: b28 :: b29 :: b30 :: b31 :: b32 :: [], _, c0 :: c1 :: c2 :: c3 :: c4 :: c5 :: c6 :: c7 :: c8 :: c9 :: c10 :: c11 :: c12 :: c13 :: c14 :: c15 :: c16 :: c17 :: c18 :: c19 :: c20 :: c21 :: c22 :: c23 :: c24 :: c25 :: c26 :: c27 :: c28 :: c29 :: c30 :: c31 :: c32 :: [], _ => exact build_rk0 w a0 a1 a2 a3 a4 a5 a6 a7 a8 a9 a10 a11 a12 a13 a14 a15 a16 a17 a18 a19 a20 a21 a22 a23 a24 a25 a26 a27 a28 a29 a30 a31 a32 b0 b1 b2 b3 b4 b5 b6 b7 b8 b9 b10 b11 b12 b13 b14 b15 b16 b17 b18 b19 b20 b21 b22 b23 b24 b25 b26 b27 b28 b29 b30 b31 b32 c0 c1 c2 c3 c4 c5 c6 c7 c8 c9 c10 c11 c12 c13 c14 c15 c16 c17 c18 c19 c20 c21 c22 c23 c24 c25 c26 c27 c28 c29 c30 c31 c32 x.nm x.v.k x.v.n x.sd x.v.f x.v.s
def addC (L : List MkV) (x : MkV) : Int := if x.id.n < 1 then 2 else if x.sd < 0 then 2 else if x.sd > 3 then 2 else if hasM L x.id = true then 5 else if keyB x.nm = false then 41 else if x.v.right = false then 30 else if x.v.k ≤ 7 then 0 else 30
def addR (L : List MkV) (x : MkV) : List MkV := if addC L x = 0 then L ++ [x] else L
def MkN (m : Mx) (base : Nat) (L' : List MkV) (w w' : World) : Prop := ∃ m', MkAt w' base m' ∧ m'.mb = m.mb ∧ m'.ib = m.ib ∧ m'.L = L' ∧ (m'.lv.ownBlock = m.lv.ownBlock ∨ ∀ j, m'.lv.ownBlock = some j → w.heap.size ≤ j) ∧ Tch (fun j => j = m.mb ∨ j = m.ib ∨ m.lv.ownBlock = some j) w w'
theorem two_typesM {w : World} {j : Nat} {c c' : Array Value} {t t' : TypeId} {f f' : Nat × Nat} (h : w.heap[j]? = some (.cells c t f)) (h' : w.heap[j]? = some (.cells c' t' f')) : t = t' := by
  rw [h] at h'
  injection h' with h'
  injection h' with _ h' _
theorem addM_nil {L : List MkV} {k : IdK} (h : hasM L k = false) : M.put (idE L) k unV = idE L ++ [(k, unV)] := by
  have hn : M.look (idE L) k = none := by
    rw [idE_look, if_neg (fun q => by rw [hasM_iff.2 q] at h; cases h)]
  unfold M.look at hn
  unfold M.put
  cases e : M.fnd (idE L) k 0 with
  | none => rfl
  | some q => rw [e] at hn; cases hn
section
variable {w W : World} {base : Nat} {m : Mx}
theorem MkN.same (h : MkAt w base m) (b : Below w.heap.size w W) : MkN m base m.L w W := ⟨m, h.below b, rfl, rfl, rfl, .inl rfl, tch_below b _⟩
theorem MkAt.apart (h : MkAt w base m) : m.lv.ownBlock ≠ some m.mb ∧ m.lv.ownBlock ≠ some m.ib ∧ m.mb ≠ m.ib := by
  refine ⟨fun e => ?_, fun e => ?_, fun e => ?_⟩
  · obtain ⟨_, c, hc⟩ := h.lo.cells e
    have := two_typesM hc h.cell
    revert this; decide
  · obtain ⟨_, c, hc⟩ := h.lo.cells e
    obtain ⟨⟨es, c2, hm, _⟩, _⟩ := h.map
    rw [hm] at hc
    cases hc
  · obtain ⟨⟨es, c2, hm, _⟩, _⟩ := h.map
    have := h.cell
    rw [e, hm] at this
    cases this
theorem st_list {lv : Value} {b i : Nat} {a : Option Addr} {n c : Nat} (h : W.heap[b]? = some (.cells #[lv, .map (some i)] 87 (0, 0))) (hl : ∃ a n c, lv = .slice a n c) : ∃ W', (Instr.storeAt 85 (.pointer (some ⟨b, 0 + 0, none⟩)) (.slice a n c)).run Tryz.prog W = .ok () W' ∧ W'.heap[b]? = some (.cells #[.slice a n c, .map (some i)] 87 (0, 0)) ∧ Tch (fun j => j = b) W W' := by
  obtain ⟨a0, n0, c0, rfl⟩ := hl
  have c2 : W.cell? ⟨b, 0, none⟩ = some (.slice a0 n0 c0) := (cell_of_row W b 0 _ _ _ h).trans rfl
  have f2 := frozen_of_row W b 0 _ _ h
  refine ⟨W.setCell ⟨b, 0, none⟩ (.slice a n c), ?_, ?_, ⟨rfl, rfl, rfl, by simp [World.setCell], fun j _ hj => Go.heap_setCell_other _ _ _ _ hj⟩⟩
  · go_simp
  · obtain ⟨hl2, hv⟩ := Array.getElem?_eq_some_iff.1 h
    simp [World.setCell, hl2, Array.getElem_modify_self, hv]
def AddS (m : Mx) (x : MkV) (b1 b2 b3 b4 : Nat) (W : World) : Prop := W.heap[m.mb]? = some (.cells #[m.lv, .map (some m.ib)] 87 (0, 0)) ∧ IdAt W b1 x.id ∧ VaAt W b2 x.v ∧ IdAt W b3 x.fr ∧ IdAt W b4 x.to
theorem AddS.below {x : MkV} {b1 b2 b3 b4 : Nat} {W' : World} (h : AddS m x b1 b2 b3 b4 W) (b : Below W.heap.size W W') : AddS m x b1 b2 b3 b4 W' :=
  ⟨(b.block _ (Array.getElem?_eq_some_iff.1 h.1).1).trans h.1, h.2.1.below b, h.2.2.1.below b, h.2.2.2.1.below b, h.2.2.2.2.below b⟩
theorem add_list (h : MkAt W base m) (hb : base ≤ W.heap.size) {x : MkV} (hx : x.ok) (hn : m.L.length + 1 ≤ 900000000000) {b1 b2 b3 b4 : Nat} (hS : AddS m x b1 b2 b3 b4 W) :
    ∃ sv w1 v2 w2 w3, (Instr.buildSlice 85 1 #[(0, x.a)]).run Tryz.prog W = .ok sv w1 ∧ AddS m x b1 b2 b3 b4 w1 ∧ (Builtin.append_ #[85, 85] 85 #[m.lv, sv]).run Tryz.prog w1 = .ok v2 w2 ∧ AddS m x b1 b2 b3 b4 w2 ∧ (Instr.storeAt 85 (.pointer (some ⟨m.mb, 0 + 0, none⟩)) v2).run Tryz.prog w2 = .ok () w3 ∧
      w3.heap[m.mb]? = some (.cells #[v2, .map (some m.ib)] 87 (0, 0)) ∧ RM.Lo w3 base v2 (m.L ++ [x]) ∧ (v2.ownBlock = m.lv.ownBlock ∨ ∀ j, v2.ownBlock = some j → W.heap.size ≤ j) ∧ Tch (fun j => j = m.mb ∨ m.lv.ownBlock = some j) W w3 := by
  have okL : ∀ y ∈ m.L, y.ok := fun y hy => (h.ok y hy).1
  obtain ⟨sv, w1, v2, w2, e1, e2, lo, bl1, z1, g, q, _⟩ := RowT.lo_push RM_is W base m.lv m.L okL x h.lo hx (by unfold maxLen; omega) (by show _ * 184 ≤ _; omega) hb
  have okx : ∀ y ∈ m.L ++ [x], y.ok := fun y hy => by
    rcases List.mem_append.1 hy with hy | hy
    · exact okL y hy
    · rw [List.mem_singleton.1 hy]; exact hx
  have S1 := hS.below bl1
  have own : ∀ j, m.lv.ownBlock = some j → ∃ c, w1.heap[j]? = some (.cells c 95 (0, 0)) := fun j hj => ((h.below bl1).lo.cells hj).2
  have keep : ∀ {j : Nat} {c : Array Value} {t : TypeId} {f : Nat × Nat}, w1.heap[j]? = some (.cells c t f) → t ≠ 95 → w2.heap[j]? = some (.cells c t f) := fun hj ht =>
    (g.block _ (Array.getElem?_eq_some_iff.1 hj).1 (fun e => by
      obtain ⟨c2, hc2⟩ := own _ e.symm
      exact ht (two_typesM hj hc2))).trans hj
  have S2 : AddS m x b1 b2 b3 b4 w2 := ⟨keep S1.1 (by decide), keep S1.2.1 (by decide), keep S1.2.2.1 (by decide), keep S1.2.2.2.1 (by decide), keep S1.2.2.2.2 (by decide)⟩
  obtain ⟨a2, c2, ev, _⟩ := lo.open RM_is okx
  obtain ⟨a0, c0, e0, _⟩ := h.lvS
  obtain ⟨w3, e3, n3, t3⟩ := st_list (a := a2) (n := (m.L ++ [x]).length) (c := c2) S2.1 ⟨a0, _, c0, e0⟩
  have n2 : v2.ownBlock ≠ some m.mb := fun e => by
    obtain ⟨_, c, hc⟩ := lo.cells e
    have := two_typesM hc S2.1
    revert this; decide
  refine ⟨sv, w1, v2, w2, w3, e1, S1, e2, S2, by rw [ev]; exact e3, by rw [ev]; exact n3, lo.keep (fun j hj => t3.block j (lo.lt hj) (fun e => n2 (by rw [← e]; exact hj))), q.imp id (fun q j hj => by rw [q] at hj; injection hj with hj; have := bl1.size; omega), ?_⟩
  have t1 : Tch (fun j => j = m.mb ∨ m.lv.ownBlock = some j) W w1 := tch_below bl1 _
  have t2 : Tch (fun j => j = m.mb ∨ m.lv.ownBlock = some j) w1 w2 := ⟨g.os, g.tape, g.output, g.size, fun j hj hO => g.block j hj (fun e => hO (.inr e.symm))⟩
  exact (t1.trans t2).trans (t3.mono (fun j _ e => .inl e))
end
end Go.Proofs.YtifendlpeebofaaGreatDoor
