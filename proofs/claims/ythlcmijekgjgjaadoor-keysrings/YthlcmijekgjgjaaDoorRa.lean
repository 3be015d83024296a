import Derived.Test.YthlcmijekgjgjaaDoorRows
import Derived.Test.YthlcmijekgjgjaaDoorDLaws
import Derived.Test.YthlcmijekgjgjaaDoorDOwn
import Derived.Maps.RangeWalk
import Derived.Maps.OwnSet
import Derived.Deep.MidRow
namespace Go.Proofs.YthlcmijekgjgjaaDoor
open Go.RowKit
set_option linter.unusedVariables false
set_option linter.unusedSimpArgs false

theorem _root_.Go.RowKit.Hid.mk' {p : Prop} (h : p) : Hid p := h
/-- An author and their key. -/
structure Hd where
  au : Int
  key : List UInt8
def kcs (k : List UInt8) : List Value := k.map fun b => .int .u8 (b.toNat : Int)
theorem kcs_len (k : List UInt8) : (kcs k).length = k.length := by simp [kcs]
theorem kcs_arr (k : List UInt8) : (kcs k).toArray = bs k := rfl
theorem kcs_one (k : List UInt8) : ∀ v ∈ kcs k, v.oneCell' = true := by
  intro v hv
  simp only [kcs, List.mem_map] at hv
  obtain ⟨b, _, rfl⟩ := hv
  rfl
def hdC (h : Hd) : List Value := .int .i64 h.au :: kcs h.key
structure HdOk (h : Hd) : Prop where
  l : h.key.length = 32
  lo : -9223372036854775808 ≤ h.au
  hi : h.au ≤ 9223372036854775807
theorem hdC_len {h : Hd} (k : HdOk h) : (hdC h).length = 33 := by simp [hdC, kcs_len, k.l]
theorem hdC_one (h : Hd) : ∀ v ∈ hdC h, v.oneCell' = true := by
  intro v hv
  simp only [hdC, List.mem_cons] at hv
  rcases hv with rfl | hv
  · rfl
  · exact kcs_one _ v hv
theorem HdOk.wf {h : Hd} (k : HdOk h) : (Lit.int .i64 h.au).wf = true := by
  have := k.lo
  have := k.hi
  simp [Lit.wf, IntKind.min, IntKind.max, IntKind.signed, IntKind.bits]
  omega
/-- Holders in memory. -/
def HdsAt (w : World) (a : Option Addr) (L : List Hd) : Prop := L = [] ∨ ∃ b off, a = some ⟨b, off, none⟩ ∧ b < w.heap.size ∧ ∀ i h, L[i]? = some h → w.rangeAt b (off + 33 * i) (hdC h)
theorem rangeAt_keep {w w' : World} {b o : Nat} {cs : List Value} (h : w.rangeAt b o cs) (e : w'.heap[b]? = w.heap[b]?) : w'.rangeAt b o cs := fun j v hj => (World.cell?_of_block (a := ⟨b, o + j, none⟩) e).trans (h j v hj)
theorem HdsAt.below {w w' : World} {a : Option Addr} {L : List Hd} (h : HdsAt w a L) (hb : Below w.heap.size w w') : HdsAt w' a L := by
  rcases h with h | ⟨b, off, e, hl, hr⟩
  · exact .inl h
  · exact .inr ⟨b, off, e, Nat.lt_of_lt_of_le hl hb.size, fun i x hx => rangeAt_keep (hr i x hx) (hb.block b hl)⟩
theorem s26 : (Tryd.prog.info? 26).map (·.size) = some 33 := by kernel_rfl
theorem s24 : (Tryd.prog.info? 24).map (·.size) = some 32 := by kernel_rfl
def z32' : List UInt8 := List.replicate 32 0
def zHd : Hd := ⟨0, z32'⟩
theorem zHd_ok : HdOk zHd := ⟨rfl, by decide, by decide⟩
theorem z26 (w : World) : (zeroValue 26).run Tryd.prog w = .ok (.agg (hdC zHd).toArray) w := (zero_of_info (n := 33) (by kernel_rfl)).1 w
theorem z24 (w : World) : (zeroValue 24).run Tryd.prog w = .ok (.agg (kcs z32').toArray) w := (zero_of_info (n := 32) (by kernel_rfl)).1 w
theorem load26 (w : World) (b k : Nat) (h : Hd) (ok : HdOk h) (hr : w.rangeAt b k (hdC h)) : (Instr.loadAt 26 (.pointer (some ⟨b, k, none⟩))).run Tryd.prog w = .ok (.agg (hdC h).toArray) w :=
  run_loadAt_mid (P := Tryd.prog) w b k 26 (hdC h) _ hr Tryd.underlying26 rfl (by rw [hdC_len ok]; exact s26)
theorem load24 (w : World) (b k : Nat) (h : List UInt8) (ok : h.length = 32) (hr : w.rangeAt b k (kcs h)) : (Instr.loadAt 24 (.pointer (some ⟨b, k, none⟩))).run Tryd.prog w = .ok (.agg (kcs h).toArray) w :=
  run_loadAt_mid (P := Tryd.prog) w b k 24 (kcs h) _ hr Tryd.underlying24 rfl (by rw [kcs_len, ok]; exact s24)
section
variable {P : Program} {ops : Array Oper} {R rest : List Oper} {a : Act} {w : World} {Q : Exit → Act → World → Prop} {d : Option Tmp} {x y : Operand} {ty : TypeId} {pos : String} {af : _} {g : _}
theorem at_ld26 (h : wpList P ops Q (⟨d, .load 26 x, ty, pos, af, g⟩ :: R) a w) : wpList P ops Q (⟨d, .load 26 x, ty, pos, af, g⟩ :: R) a w := h
theorem at_ld24 (h : wpList P ops Q (⟨d, .load 24 x, ty, pos, af, g⟩ :: R) a w) : wpList P ops Q (⟨d, .load 24 x, ty, pos, af, g⟩ :: R) a w := h
theorem at_al26 (h : wpList P ops Q (⟨d, .alloc 26, ty, pos, af, g⟩ :: R) a w) : wpList P ops Q (⟨d, .alloc 26, ty, pos, af, g⟩ :: R) a w := h
theorem at_al24 (h : wpList P ops Q (⟨d, .alloc 24, ty, pos, af, g⟩ :: R) a w) : wpList P ops Q (⟨d, .alloc 24, ty, pos, af, g⟩ :: R) a w := h
theorem at_st24 (h : wpList P ops Q (⟨d, .store 24 x y, ty, pos, af, g⟩ :: R) a w) : wpList P ops Q (⟨d, .store 24 x y, ty, pos, af, g⟩ :: R) a w := h
theorem at_bd24 {v : _} (h : wpList P ops Q (⟨d, .build 24 v, ty, pos, af, g⟩ :: R) a w) : wpList P ops Q (⟨d, .build 24 v, ty, pos, af, g⟩ :: R) a w := h
end
theorem wpList_ld26 {ops : Array Oper} {rest : List Oper} {o : Oper} {a : Act} {w : World} {Q : Exit → Act → World → Prop} (x : Operand) (ho : o.op = .load 26 x) (hg : o.guard = none) (b k : Nat) (hx : a.eval x = .pointer (some ⟨b, k, none⟩)) (p : Hd) (ok : HdOk p) (hr : w.rangeAt b k (hdC p))
    (hK : wpList Tryd.prog ops Q rest (a.put o.dst (.agg (hdC p).toArray)) w) : wpList Tryd.prog ops Q (o :: rest) a w :=
  wpList_plain hg fun _ hK' => by
    have := load26 w b k p ok hr
    unfold Oper.wp execOp
    simp only [ho, hx, Sem.run_bind, this, Result.andThen_ok, Sem.run_pure]
    exact hK' _ _ hK
theorem wpList_ld24 {ops : Array Oper} {rest : List Oper} {o : Oper} {a : Act} {w : World} {Q : Exit → Act → World → Prop} (x : Operand) (ho : o.op = .load 24 x) (hg : o.guard = none) (b k : Nat) (hx : a.eval x = .pointer (some ⟨b, k, none⟩)) (p : List UInt8) (ok : p.length = 32) (hr : w.rangeAt b k (kcs p))
    (hK : wpList Tryd.prog ops Q rest (a.put o.dst (.agg (kcs p).toArray)) w) : wpList Tryd.prog ops Q (o :: rest) a w :=
  wpList_plain hg fun _ hK' => by
    have := load24 w b k p ok hr
    unfold Oper.wp execOp
    simp only [ho, hx, Sem.run_bind, this, Result.andThen_ok, Sem.run_pure]
    exact hK' _ _ hK
theorem wpList_box26 {ops : Array Oper} {rest R : List Oper} {o1 o2 : Oper} {a : Act} {w : World} {Q : Exit → Act → World → Prop} (y : Operand) (d : Nat) (ho1 : o1.op = .alloc 26) (hd : o1.dst = some d) (hR : R = o2 :: rest) (hg1 : o1.guard = none) (hg2 : o2.guard = none) (hd2 : o2.dst = none)
    (ho2 : o2.op = .store 26 (.tmp d) y) (p : Hd) (ok : HdOk p) (he : (a.put (some d) (.pointer (some ⟨w.heap.size, 0, none⟩))).eval (.tmp d) = .pointer (some ⟨w.heap.size, 0, none⟩)) (hy : (a.put (some d) (.pointer (some ⟨w.heap.size, 0, none⟩))).eval y = .agg (hdC p).toArray)
    (hK : wpList Tryd.prog ops Q rest (a.put (some d) (.pointer (some ⟨w.heap.size, 0, none⟩))) (w.alloc (.cells (hdC p).toArray 26))) : wpList Tryd.prog ops Q (o1 :: R) a w := by
  subst hR
  refine wpList_alloc_row hg1 26 ho1 (hdC zHd).toArray (z26 w) ?_
  rw [hd]
  refine wpList_store_row hg2 26 (.tmp d) y ho2 w.heap.size (hdC p).toArray he hy 26 (hdC zHd).toArray (heap_alloc_new _ _) (by rw [List.size_toArray, hdC_len ok]; exact s26) (by rw [List.size_toArray, List.size_toArray, hdC_len ok, hdC_len zHd_ok]) (by rw [Array.all_eq_true']; intro v hv; exact hdC_one p v (by simpa using hv)) ?_
  rw [World.setRow_alloc_new, hd2]
  exact hK
theorem cell_new (w : World) (l : List Value) (t : TypeId) (j : Nat) (v : Value) (h : l[j]? = some v) : (w.alloc (.cells l.toArray t)).cell? ⟨w.heap.size, j, none⟩ = some v := by
  rw [cell_of_row _ w.heap.size j _ _ _ (heap_alloc_new w _)]
  simpa using h
theorem hd_box (w : World) (p : Hd) : (w.alloc (.cells (hdC p).toArray 26)).cell? ⟨w.heap.size, 0, none⟩ = some (.int .i64 p.au) ∧ (w.alloc (.cells (hdC p).toArray 26)).rangeAt w.heap.size 1 (kcs p.key) :=
  ⟨cell_new w (hdC p) 26 0 _ rfl, fun j v hj => cell_new w (hdC p) 26 (1 + j) v (by rw [Nat.add_comm]; exact hj)⟩
set_option maxRecDepth 100000 in
theorem index22 (b off n cap k : Nat) (w : World) (hk : k < n) : (Instr.indexAt 22 (.slice (some ⟨b, off, none⟩) n cap) (.int .i64 (k : Int))).run Tryd.prog w = .ok (.pointer (some ⟨b, off + 33 * k, none⟩)) w := by
  rw [run_indexAt_slice (P := Tryd.prog) _ _ _ _ _ _ _ Tryd.underlying22]
  have hsz : (sizeOf (Tryd.prog.elem 22)).run Tryd.prog w = .ok 33 w := by kernel_rfl
  simp [hk, hsz, Addr.add_mid, Nat.mul_comm]
/-- Pure: how many unlike ones. -/
def addI (acc : List Int) (x : Int) : List Int := if x ∈ acc then acc else acc ++ [x]
theorem addI_len (A : List Int) : ∀ acc : List Int, (A.foldl addI acc).length ≤ acc.length + A.length ∧ ((A.foldl addI acc).length = acc.length + A.length ↔ A.Nodup ∧ ∀ x ∈ A, x ∉ acc) := by
  induction A with
  | nil => intro acc; simp
  | cons x A ih =>
    intro acc
    by_cases h : x ∈ acc
    · have e : addI acc x = acc := if_pos h
      simp only [List.foldl_cons, e, List.length_cons]
      have := (ih acc).1
      refine ⟨by omega, ⟨fun hh => by omega, fun hh => absurd h (hh.2 x (by simp))⟩⟩
    · have e : addI acc x = acc ++ [x] := if_neg h
      simp only [List.foldl_cons, e, List.length_cons]
      have i1 := ih (acc ++ [x])
      simp only [List.length_append, List.length_cons, List.length_nil] at i1
      refine ⟨by omega, ?_⟩
      have e2 : ((A.foldl addI (acc ++ [x])).length = acc.length + (A.length + 1)) ↔ ((A.foldl addI (acc ++ [x])).length = acc.length + (0 + 1) + A.length) := by constructor <;> intro h <;> omega
      rw [e2, i1.2]
      constructor
      · rintro ⟨n1, n2⟩
        refine ⟨List.nodup_cons.2 ⟨fun hx => n2 x hx (by simp), n1⟩, fun y hy => ?_⟩
        rcases List.mem_cons.1 hy with rfl | hy
        · exact h
        · exact fun hh => n2 y hy (by simp [hh])
      · rintro ⟨n1, n2⟩
        rw [List.nodup_cons] at n1
        refine ⟨n1.2, fun y hy hh => ?_⟩
        rw [List.mem_append] at hh
        rcases hh with hh | hh
        · exact n2 y (by simp [hy]) hh
        · simp at hh; subst hh; exact n1.1 hy
def litsI (A : List Int) : List Lit := A.map (Lit.int .i64)
theorem sameKey_int (a b : Int) : (Lit.int .i64 a).sameKey (.int .i64 b) = (a == b) := by
  rw [Bool.eq_iff_iff]
  simp [Lit.sameKey]
theorem addKey_int (A : List Int) : ∀ acc : List Int, (litsI A).foldl Maps.addKey (litsI acc) = litsI (A.foldl addI acc) := by
  induction A with
  | nil => intro acc; rfl
  | cons x A ih =>
    intro acc
    have e : Maps.addKey (litsI acc) (.int .i64 x) = litsI (addI acc x) := by
      unfold Maps.addKey addI litsI
      by_cases h : x ∈ acc
      · rw [if_pos h, if_pos]
        simp only [List.any_map, List.any_eq_true, Function.comp]
        exact ⟨x, h, by rw [sameKey_int]; simp⟩
      · rw [if_neg h, if_neg]
        · simp
        · simp only [List.any_map, List.any_eq_true, Function.comp]
          rintro ⟨y, hy, e⟩
          rw [sameKey_int] at e
          simp at e
          subst e
          exact h hy
    show List.foldl Maps.addKey (Maps.addKey (litsI acc) (.int .i64 x)) (litsI A) = _
    rw [e, ih]
    rfl
def uD : DataW Unit := .agg []
def setA (A : List Int) : DataW Unit := Maps.setOf uD (litsI A)
theorem lits_key (A : List Int) : ∀ x ∈ litsI A, WideAt.IsKeyLit x := by
  intro x hx
  simp only [litsI, List.mem_map] at hx
  obtain ⟨a, _, rfl⟩ := hx
  trivial
theorem setA_snoc (A : List Int) (x : Int) : setA (A ++ [x]) = (setA A).put (.int .i64 x) uD := by
  unfold setA litsI
  rw [List.map_append]
  exact Maps.setOf_snoc uD _ _
theorem setA_size (A : List Int) : Maps.size (setA A) = (A.foldl addI []).length := by
  unfold setA
  rw [Maps.size_setOf uD _ (lits_key A)]
  have := addKey_int A []
  simp only [litsI, List.map_nil] at this ⊢
  rw [this]
  simp
theorem setA_has (A : List Int) (x : Int) : Maps.has (setA A) (.int .i64 x) = decide (x ∈ A) := by
  unfold setA
  rw [Maps.has_setOf uD _ _ (lits_key A), Bool.eq_iff_iff]
  simp only [litsI, List.any_map, List.any_eq_true, Function.comp, sameKey_int, decide_eq_true_eq]
  constructor
  · rintro ⟨y, hy, e⟩
    simp at e
    subst e
    exact hy
  · intro h
    exact ⟨x, h, by simp⟩
def okA (x : Int) : Bool := decide (1 ≤ x ∧ x < 4294967296)
/-- What NewRing answers. -/
def ringE (A : List Int) : Int := if A.all okA = true then (if A.Nodup then 0 else 5) else 51
theorem size_nodup (A : List Int) : ((A.foldl addI []).length : Int) < (A.length : Int) ↔ ¬ A.Nodup := by
  have h := addI_len A []
  simp only [List.length_nil, Nat.zero_add, List.not_mem_nil, not_false_eq_true, implies_true, and_true] at h
  rw [← h.2]
  omega
end Go.Proofs.YthlcmijekgjgjaaDoor
