import Derived.Test.YtldlljobofnmmabDoorRla
import Derived.Test.YtldlljobofnmmabDoorZr
import Derived.Shelf.SlIter.Nil
import Derived.Shelf.SortM.Plain
import Derived.Shelf.SortM.SortNone
import Derived.Ground.GgzProg
import Derived.Ground.SlgmProg
import Derived.Shelf.SlGeneric
import Derived.Test.YtldlljobofnmmabDoorRows
import Derived.Test.YtldlljobofnmmabDoorRgh
import Derived.Test.YtldlljobofnmmabDoorRgi
import Derived.Laws.FloatArith
import Derived.Test.YtldlljobofnmmabDoorRnn0
import Derived.Test.YtldlljobofnmmabDoorRgt
import Derived.StringKeys
namespace Go.Proofs.YtldlljobofnmmabDoor
set_option linter.unusedVariables false
set_option linter.unusedSimpArgs false
set_option linter.unusedSectionVars false

namespace Rv
/-- A call: its place, its kind, its value, what it had seen, and what it does to a value that it adds to. -/
structure Sy (P V : Type) where
  pl : P
  kd : Int
  v : V
  kn : Nat → Bool
  su : V → V
section
variable {I P V : Type} [DecidableEq I] [DecidableEq P]
def Sy.puts (s : Sy P V) : Bool := !(s.kd == 1) && !(s.kd == 2)
/-- What became of the value of the call i at the place p, behind m calls; and whether it is gone. -/
def tr (S : Nat → Sy P V) (p : P) (i : Nat) : Nat → V × Bool
  | 0 => ((S i).v, false)
  | m + 1 => if m ≤ i then ((S i).v, false) else if (S m).pl = p ∧ (S m).kn i = true then (if (S m).kd = 2 then ((S m).su (tr S p i m).1, (tr S p i m).2) else ((tr S p i m).1, true)) else tr S p i m
theorem tr_le (S : Nat → Sy P V) (p : P) (i : Nat) {m : Nat} (h : m ≤ i + 1) : tr S p i m = ((S i).v, false) := by
  cases m with
  | zero => rfl
  | succ m => unfold tr; rw [if_pos (by omega)]
theorem tr_succ (S : Nat → Sy P V) (p : P) {i m : Nat} (h : i < m) : tr S p i (m + 1) = if (S m).pl = p ∧ (S m).kn i = true then (if (S m).kd = 2 then ((S m).su (tr S p i m).1, (tr S p i m).2) else ((tr S p i m).1, true)) else tr S p i m := by
  rw [tr, if_neg (by omega)]
theorem tr_miss (S : Nat → Sy P V) (p : P) {i m : Nat} (h : i < m) (q : ¬ ((S m).pl = p ∧ (S m).kn i = true)) : tr S p i (m + 1) = tr S p i m := by rw [tr_succ S p h, if_neg q]
theorem tr_add (S : Nat → Sy P V) (p : P) {i m : Nat} (h : i < m) (q : (S m).pl = p ∧ (S m).kn i = true) (k : (S m).kd = 2) : tr S p i (m + 1) = ((S m).su (tr S p i m).1, (tr S p i m).2) := by rw [tr_succ S p h, if_pos q, if_pos k]
theorem tr_gone (S : Nat → Sy P V) (p : P) {i m : Nat} (h : i < m) (q : (S m).pl = p ∧ (S m).kn i = true) (k : ¬ (S m).kd = 2) : tr S p i (m + 1) = ((tr S p i m).1, true) := by rw [tr_succ S p h, if_pos q, if_neg k]
/-- What is left of the call i at p behind m calls. -/
def lf (nm : Nat → I) (S : Nat → Sy P V) (p : P) (m i : Nat) : Option (I × V) := if (S i).puts = true ∧ (S i).pl = p ∧ (tr S p i m).2 = false then some (nm i, (tr S p i m).1) else none
/-- What lies at p behind m calls. -/
def ls (nm : Nat → I) (S : Nat → Sy P V) (p : P) (m : Nat) : List (I × V) := (List.range m).filterMap (lf nm S p m)
/-- The calls that a call had seen. -/
def ids (nm : Nat → I) (s : Sy P V) (i : Nat) : List I := ((List.range i).filter s.kn).map nm
/-- What a call makes of what lies at its place. -/
def op (nm : Nat → I) (i : Nat) (s : Sy P V) (L : List (I × V)) : List (I × V) :=
  if s.kd = 1 then L.filter (fun x => !decide (x.1 ∈ ids nm s i))
  else if s.kd = 2 then L.map (fun x => if decide (x.1 ∈ ids nm s i) then (x.1, s.su x.2) else x)
  else L.filter (fun x => !decide (x.1 ∈ ids nm s i)) ++ [(nm i, s.v)]
theorem mem_ids {nm : Nat → I} (inj : ∀ i j, nm i = nm j → i = j) (s : Sy P V) {i j : Nat} (h : j < i) : decide (nm j ∈ ids nm s i) = s.kn j := by
  have : nm j ∈ ids nm s i ↔ s.kn j = true := by
    unfold ids
    rw [List.mem_map]
    constructor
    · rintro ⟨k, hk, e⟩
      rw [← inj _ _ e]
      exact (List.mem_filter.1 hk).2
    · intro hk
      exact ⟨j, List.mem_filter.2 ⟨List.mem_range.2 h, hk⟩, rfl⟩
  by_cases q : s.kn j = true
  · rw [q]; exact decide_eq_true (this.2 q)
  · rw [decide_eq_false (fun r => q (this.1 r))]; simpa using q
theorem ls_zero (nm : Nat → I) (S : Nat → Sy P V) (p : P) : ls nm S p 0 = [] := rfl
theorem fm_filter {α β : Type} (f : α → Option β) (q : β → Bool) (l : List α) : (l.filterMap f).filter q = l.filterMap (fun x => (f x).filter q) := by
  rw [← List.filterMap_eq_filter, List.filterMap_filterMap]
  refine congrArg (fun g => List.filterMap g l) (funext fun x => ?_)
  cases f x with
  | none => rfl
  | some y => cases h : q y <;> simp [Option.guard, Option.filter, h]
theorem fm_map {α β γ : Type} (f : α → Option β) (g : β → γ) (l : List α) : (l.filterMap f).map g = l.filterMap (fun x => (f x).map g) := by
  rw [List.map_filterMap]
theorem fm_congr {α β : Type} {f g : α → Option β} : ∀ {l : List α}, (∀ x ∈ l, f x = g x) → l.filterMap f = l.filterMap g
  | [], _ => rfl
  | x :: l, h => by
    have e := h x (by simp)
    have ih := fm_congr (l := l) (fun y hy => h y (by simp [hy]))
    rw [List.filterMap_cons, List.filterMap_cons, e, ih]
theorem lf_new (nm : Nat → I) (S : Nat → Sy P V) (p : P) (m : Nat) : lf nm S p (m + 1) m = if (S m).puts = true ∧ (S m).pl = p then some (nm m, (S m).v) else none := by
  unfold lf
  rw [tr_le S p m (Nat.le_refl _)]
  simp
/-- A call at its place. -/
theorem ls_here {nm : Nat → I} (inj : ∀ i j, nm i = nm j → i = j) (S : Nat → Sy P V) (p : P) (m : Nat) (h : (S m).pl = p) : ls nm S p (m + 1) = op nm m (S m) (ls nm S p m) := by
  unfold ls op
  rw [List.range_succ, List.filterMap_append, List.filterMap_cons, List.filterMap_nil, lf_new]
  have rem : (S m).kd ≠ 2 → List.filterMap (lf nm S p (m + 1)) (List.range m) = List.filter (fun x => !decide (x.1 ∈ ids nm (S m) m)) (List.filterMap (lf nm S p m) (List.range m)) := by
    intro h2
    rw [fm_filter]
    refine fm_congr fun i hi => ?_
    have hi := List.mem_range.1 hi
    unfold lf
    by_cases hk : (S m).kn i = true
    · rw [tr_gone S p hi ⟨h, hk⟩ h2, if_neg (by simp)]
      split
      · rw [Option.filter, mem_ids inj (S m) hi, hk]; rfl
      · rfl
    · rw [tr_miss S p hi (fun q => hk q.2)]
      split
      · rw [Option.filter, mem_ids inj (S m) hi, show (S m).kn i = false by simpa using hk]; rfl
      · rfl
  by_cases h1 : (S m).kd = 1
  · have hp : (S m).puts = false := by simp [Sy.puts, h1]
    rw [if_pos h1, hp, if_neg (by simp), rem (by omega)]
    simp
  · rw [if_neg h1]
    by_cases h2 : (S m).kd = 2
    · have hp : (S m).puts = false := by simp [Sy.puts, h2]
      rw [if_pos h2, hp, if_neg (by simp), fm_map]
      simp only [List.append_nil]
      refine fm_congr fun i hi => ?_
      have hi := List.mem_range.1 hi
      unfold lf
      by_cases hk : (S m).kn i = true
      · rw [tr_add S p hi ⟨h, hk⟩ h2]
        split
        · rw [Option.map_some, if_pos (by rw [mem_ids inj (S m) hi]; exact hk)]
        · rfl
      · rw [tr_miss S p hi (fun q => hk q.2)]
        split
        · rw [Option.map_some, if_neg (by rw [mem_ids inj (S m) hi]; exact hk)]
        · rfl
    · have hp : (S m).puts = true := by simp [Sy.puts, h1, h2]
      rw [if_neg h2, if_pos ⟨hp, h⟩, rem h2]
/-- A call elsewhere. -/
theorem ls_there (nm : Nat → I) (S : Nat → Sy P V) (p : P) (m : Nat) (h : (S m).pl ≠ p) : ls nm S p (m + 1) = ls nm S p m := by
  unfold ls
  rw [List.range_succ, List.filterMap_append, List.filterMap_cons, List.filterMap_nil, lf_new, if_neg (fun q => h q.2)]
  simp only [List.append_nil]
  refine fm_congr fun i hi => ?_
  unfold lf
  rw [tr_miss S p (List.mem_range.1 hi) (fun q => h q.1)]
theorem ls_len (nm : Nat → I) (S : Nat → Sy P V) (p : P) (m : Nat) : (ls nm S p m).length ≤ m := by
  have := List.length_filterMap_le (lf nm S p m) (List.range m)
  rw [List.length_range] at this
  exact this
/-- The law's own list, as it grows. -/
def wn (nm : Nat → I) (S : Nat → Sy P V) (p : P) (n i : Nat) : List (I × V) := (List.range i).filterMap (lf nm S p n)
theorem wn_succ (nm : Nat → I) (S : Nat → Sy P V) (p : P) (n i : Nat) : wn nm S p n (i + 1) = wn nm S p n i ++ (match lf nm S p n i with | none => [] | some x => [x]) := by
  unfold wn
  rw [List.range_succ, List.filterMap_append, List.filterMap_cons, List.filterMap_nil]
  cases lf nm S p n i <;> rfl
end
end Rv
end Go.Proofs.YtldlljobofnmmabDoor

namespace Go.Proofs.YtldlljobofnmmabDoor
open Go.ChangeShapes Go.WideShapes Go.ChangeAt Go.RowKit
set_option linter.unusedVariables false
set_option linter.unusedSimpArgs false

/-- A call of a row whose Ids are unlike, as it came in. -/
structure SyR where
  kind : Int
  pl : Int
  v : VaV
  n : Int
  seen : Value
  sl : List Int
def inC (z : Int) : List Value := [.int .i64 z]
def SyR.c (o : SyR) : List Value := (.int .i64 o.kind) :: (.int .i64 o.pl) :: (o.v.c ++ [.int .i64 o.n, o.seen])
def SyR.a (o : SyR) : Value := .agg o.c.toArray
structure SyR.ok (W : World) (o : SyR) : Prop where
  v : o.v.ok
  kind : -9223372036854775808 ≤ o.kind ∧ o.kind ≤ 9223372036854775807
  pl : -9223372036854775808 ≤ o.pl ∧ o.pl ≤ 9223372036854775807
  n : -9223372036854775808 ≤ o.n ∧ o.n ≤ 9223372036854775807
  seen : ∃ a cap, o.seen = .slice a o.sl.length cap ∧ RowAt 1 inC W a o.sl
  len : o.sl.length ≤ 9223372036854775807
  sls : ∀ z ∈ o.sl, -9223372036854775808 ≤ z ∧ z ≤ 9223372036854775807
theorem SyR.len8 (o : SyR) : o.c.length = 8 := by simp [SyR.c, VaV.len]
theorem SyR.ok.below {w w' : World} {o : SyR} (h : o.ok w) (b : Below w.heap.size w w') : o.ok w' := ⟨h.v, h.kind, h.pl, h.n, by
  obtain ⟨a, cap, e, r⟩ := h.seen
  exact ⟨a, cap, e, r.below b⟩, h.len, h.sls⟩
theorem cells_say : Tryd.prog.cellsOf 42 = 8 := by kernel_rfl
theorem cells_intl : Tryd.prog.cellsOf 40 = 1 := by kernel_rfl
section
variable {H : Type} {enc : TypeId × Value → H} {W : World}
set_option maxRecDepth 100000 in
theorem say_cells (fuel : Nat) (cs : List Value) (y : DataW H × List MemPlace) (h : DataW.trod enc Tryd.prog W 0 (fun _ => true) true fuel 42 cs = some y) : ∃ x : SyR, x.ok W ∧ cs = x.c := by
  obtain ⟨xs, n, _, hx, hcl, hlen, hfs⟩ := DataW.trod_struct Tryd.underlying42 h
  rw [cells_say] at hcl
  have hlen : xs.length = 5 := hlen
  obtain ⟨A, R, rfl, hA, hR⟩ := list_split (n := 2) (m := 6) hcl
  obtain ⟨C, D, rfl, hC, hD⟩ := list_split (n := 4) (m := 2) hR
  obtain ⟨a0, a1, rfl⟩ : ∃ a b, A = [a, b] := by
    match A, hA with
    | [a, b], _ => exact ⟨a, b, rfl⟩
  obtain ⟨d0, d1, rfl⟩ : ∃ a b, D = [a, b] := by
    match D, hD with
    | [a, b], _ => exact ⟨a, b, rfl⟩
  match xs, hlen with
  | [y0, y1, y2, y3, y4], _ =>
    have t0 : DataW.trod enc Tryd.prog W 0 (fun _ => true) true n 3 ((([a0, a1] ++ (C ++ [d0, d1])).drop 0).take (Tryd.prog.cellsOf 3)) = some y0 := hfs 0 _ rfl
    have t1 : DataW.trod enc Tryd.prog W 0 (fun _ => true) true n 3 ((([a0, a1] ++ (C ++ [d0, d1])).drop 1).take (Tryd.prog.cellsOf 3)) = some y1 := hfs 1 _ rfl
    have t2 : DataW.trod enc Tryd.prog W 0 (fun _ => true) true n 39 ((([a0, a1] ++ (C ++ [d0, d1])).drop 2).take (Tryd.prog.cellsOf 39)) = some y2 := hfs 2 _ rfl
    have t3 : DataW.trod enc Tryd.prog W 0 (fun _ => true) true n 2 ((([a0, a1] ++ (C ++ [d0, d1])).drop 6).take (Tryd.prog.cellsOf 2)) = some y3 := hfs 3 _ rfl
    have t4 : DataW.trod enc Tryd.prog W 0 (fun _ => true) true n 40 ((([a0, a1] ++ (C ++ [d0, d1])).drop 7).take (Tryd.prog.cellsOf 40)) = some y4 := hfs 4 _ rfl
    have dC : ([a0, a1] ++ (C ++ [d0, d1])).drop 2 = C ++ [d0, d1] := rfl
    have dD : ([a0, a1] ++ (C ++ [d0, d1])).drop 6 = [d0, d1] := by
      rw [show 6 = 2 + C.length by omega, ← List.drop_drop, dC, List.drop_left]
    have dE : ([a0, a1] ++ (C ++ [d0, d1])).drop 7 = [d1] := by
      rw [show 7 = 6 + 1 by omega, ← List.drop_drop, dD]; rfl
    rw [cells_int] at t0 t1
    rw [cells_va, dC, ← hC, List.take_left] at t2
    rw [cells_i64, dD] at t3
    rw [cells_intl, dE] at t4
    obtain ⟨z0, q0, _, w0⟩ := DataW.trod_int Tryd.underlying3 t0
    obtain ⟨z1, q1, _, w1⟩ := DataW.trod_int Tryd.underlying3 t1
    obtain ⟨x2, o2, q2⟩ := va_cells _ _ _ t2
    obtain ⟨z3, q3, _, w3⟩ := DataW.trod_int Tryd.underlying2 t3
    have t4' : DataW.trod enc Tryd.prog W 0 (fun _ => true) true n 40 [d1] = some y4 := t4
    obtain ⟨sa, sl, sc, hs, hm⟩ : ∃ a l c, d1 = .slice a l c ∧ l ≤ 9223372036854775807 := by
      rcases DataW.trod_slice Tryd.underlying40 t4' with ⟨e, _⟩ | ⟨ad, l, c, _, _, _, _, e, _, _, h1, h2, _⟩
      · exact ⟨none, 0, 0, (List.cons.inj e).1, by omega⟩
      · exact ⟨some ad, l, c, (List.cons.inj e).1, by unfold maxLen at h2; omega⟩
    subst hs
    obtain ⟨L, hl, hok, hat, _⟩ := view_rows (k := 1) (encd := inC) (ok := fun z => -9223372036854775808 ≤ z ∧ z ≤ 9223372036854775807) Tryd.underlying40 cells_int (by omega) (fun x hx => rfl) (fun fuel cs y h => by
      obtain ⟨z, q, _, w⟩ := DataW.trod_int Tryd.underlying3 h
      exact ⟨z, i64_wf w, q⟩) (d := y4.1) (p := y4.2) ⟨n, t4'⟩
    simp at q0 q1 q3
    subst q0 q1 q2 q3 hl
    exact ⟨⟨z0, z1, x2, z3, _, L⟩, ⟨o2, i64_wf w0, i64_wf w1, i64_wf w3, ⟨sa, sc, rfl, hat⟩, hm, hok⟩, rfl⟩
theorem view_says {a : Option Addr} {len cap : Nat} {d : DataW H} {p : List MemPlace} (h : DataW.Trod enc Tryd.prog W 0 (fun _ => true) true 23 (.slice a len cap) d p) :
    ∃ L : List SyR, L.length = len ∧ (∀ x ∈ L, x.ok W) ∧ RowAt 8 SyR.c W a L ∧ (d = .nil ∧ len = 0 ∨ ∃ el sp, d = .slice el sp ∧ el.length = len) :=
  view_rows (ok := SyR.ok W) Tryd.underlying23 cells_say (by omega) (fun x hx => SyR.len8 x) say_cells h
end
theorem bytes_say : Tryd.prog.bytesOf 42 = 88 := by kernel_rfl
theorem reach_says {H : Type} {ts : List TypeId} {ds : List (DataW H)} (hsz : (DataW.weightsEach Tryd.prog ts ds).all (· ≤ reachBytes) = true) (j : Nat) (ht : ts[j]? = some 23) {d : DataW H} (hd : ds[j]? = some d) {len : Nat}
    (h : d = .nil ∧ len = 0 ∨ ∃ el sp, d = .slice el sp ∧ el.length = len) : len ≤ 1599289640355 := by
  rcases h with ⟨_, rfl⟩ | ⟨el, sp, rfl, rfl⟩
  · omega
  · have := sized_slice hsz (j := j) (t := 23) (e := 42) ht hd Tryd.underlying23
    rw [bytes_say] at this
    simp only [reachBytes] at this
    omega
/-- What a call says, without memory. -/
def SyR.s (Ps : List PlK) (o : SyR) : Rv.Sy PlK VaV := ⟨atP Ps o.pl, o.kind, o.v, fun i => decide ((i : Int) ∈ o.sl), sumV o.n⟩
/-- The Id of the call of a number. -/
def nmI (i : Nat) : IdK := ⟨UInt8.ofNat i :: UInt8.ofNat (i / 256) :: UInt8.ofNat (i / 65536) :: List.replicate 29 0, (i : Int) + 1⟩
theorem nmI_inj (i j : Nat) (h : nmI i = nmI j) : i = j := by
  have := congrArg IdK.n h
  simp only [nmI] at this
  omega
end Go.Proofs.YtldlljobofnmmabDoor

namespace Go.Proofs.YtldlljobofnmmabDoor
open Go.RowKit
set_option linter.unusedVariables false
set_option linter.unusedSimpArgs false

theorem ix_idR {b o m c i : Nat} (hi : i < m) (hm : m ≤ 9223372036854775807) (W : World) : (Instr.indexAt 70 (.slice (some ⟨b, o, none⟩) m c) (.int .i64 (i : Int))).run Tryd.prog W = .ok (.pointer (some ⟨b, o + 33 * i, none⟩)) W := by
  rw [Nat.mul_comm]
  go_simp
theorem ex_eqlX {w : World} {a : Act} {o : Oper} {x y : Operand} {p q : IdK} (hp : p.ok) (hq : q.ok) (ho : o.op = .binOp .eql 32 x y 32) (hx : a.eval x = p.v) (hy : a.eval y = q.v) : (execOp a.eval o).run Tryd.prog w = .ok (.value (.bool (decide (p = q)))) w := exec_binOp ho hx hy (guard_idR _ _ _ _ _ _) (eql_idR p q hp hq w)
theorem guard_plR (x y : Operand) (a b : PlK) (w : World) (op : BinOp) : (eqGuard op 34 x y a.v b.v).run Tryd.prog w = .ok () w := by
  unfold eqGuard
  cases op <;> simp [PlK.v]
theorem eql_plR (a b : PlK) (ha : a.ok) (hb : b.ok) (w : World) : (binOp .eql 34 a.v b.v).run Tryd.prog w = .ok (.bool (decide (a = b))) w := by
  have h := eqPl 9996 a b ha hb w
  have : (Op.equal 34 a.v b.v).run Tryd.prog w = .ok (decide (a = b)) w := h
  unfold PlK.v at *
  simp only [binOp]
  simp [this]
theorem ex_eqlP {w : World} {a : Act} {o : Oper} {x y : Operand} {p q : PlK} (hp : p.ok) (hq : q.ok) (ho : o.op = .binOp .eql 34 x y 34) (hx : a.eval x = p.v) (hy : a.eval y = q.v) : (execOp a.eval o).run Tryd.prog w = .ok (.value (.bool (decide (p = q)))) w := exec_binOp ho hx hy (guard_plR _ _ _ _ _ _) (eql_plR p q hp hq w)
def saw4_o0 : Oper := { dst := some 12, op := Op.move (Operand.tmp 0), type := 70, pos := "ref.go:46", after := #[], guard := none }
def saw4_o1 : Oper := { dst := some 13, op := Op.move (Operand.tmp 5), type := 3, pos := "ref.go:46", after := #[], guard := none }
def saw4_o2 : Oper := { dst := some 14, op := Op.indexAddr 70 (Operand.tmp 12) (Operand.tmp 13), type := 0, pos := "ref.go:46", after := #[{ on := 0, ground := Ground.data }, { on := 1, ground := Ground.data }], guard := none }
def saw4_o3 : Oper := { dst := some 15, op := Op.load 32 (Operand.tmp 14), type := 32, pos := "ref.go:46", after := #[{ on := 2, ground := Ground.data }], guard := none }
def saw4_o4 : Oper := { dst := some 16, op := Op.load 32 (Operand.tmp 3), type := 32, pos := "ref.go:46", after := #[], guard := none }
def saw4_o5 : Oper := { dst := some 17, op := Op.binOp BinOp.eql 32 (Operand.tmp 15) (Operand.tmp 16) 32, type := 4, pos := "ref.go:46", after := #[{ on := 3, ground := Ground.data }, { on := 4, ground := Ground.data }], guard := none }
def saw4_ops : Array Oper := #[saw4_o0, saw4_o1, saw4_o2, saw4_o3, saw4_o4, saw4_o5]
set_option maxRecDepth 100000 in
set_option maxHeartbeats 4000000 in
theorem saw4 {g o n c i xb : Nat} {x y : IdK} (a : Act) (w : World) (Q : Exit → Act → World → Prop) (zz : a.tmps.size = 18)
    (t0 : a.tmps.getD 0 undef = .slice (some ⟨g, o, none⟩) n c)
    (t3 : a.tmps.getD 3 undef = .pointer (some ⟨xb, 0, none⟩))
    (t5 : a.tmps.getD 5 undef = .int .i64 (i : Int))
    (hx : x.ok) (hy : y.ok) (hi : i < n) (hm : n ≤ 9223372036854775807) (L1 : ∀ W, W = w.drew → (Instr.loadAt 32 (.pointer (some ⟨g, o + 33 * i, none⟩))).run Tryd.prog W = .ok (x.v) W) (L2 : ∀ W, W = w.drew → (Instr.loadAt 32 (.pointer (some ⟨xb, 0, none⟩))).run Tryd.prog W = .ok (y.v) W)
    (h : ∀ (a' : Act) (w' : World), w' = w.drew → a' = ((((((a).put (some 12) (.slice (some ⟨g, o, none⟩) n c)).put (some 13) (.int .i64 (i : Int))).put (some 14) (.pointer (some ⟨g, o + 33 * i, none⟩))).put (some 15) (x.v)).put (some 16) (y.v)).put (some 17) (.bool (decide (x = y))) → Q .normal a' w') :
    (Code.region 4 saw4_ops true).wp Tryd.prog Q a w := by
  refine y0 (fun w' => w' = w.drew) (rfl) (fun hHeld => ?_)
  refine yv 0 rfl rfl (fun w1 hw => exec_move rfl (zi t0 rfl)) hHeld ?_
  refine yv 1 rfl rfl (fun w1 hw => exec_move rfl (zi t5 rfl)) hHeld ?_
  refine yv 2 rfl rfl (fun w1 hw => exec_indexAt rfl (zg zz rfl) (zg zz rfl) (ix_idR hi hm _)) hHeld ?_
  refine yv 3 rfl rfl (fun w1 hw => exec_load rfl (zg zz rfl) (L1 _ hw)) hHeld ?_
  refine yv 4 rfl rfl (fun w1 hw => exec_load rfl (zi t3 rfl) (L2 _ hw)) hHeld ?_
  refine yv (v := .bool (decide (x = y))) 5 rfl rfl (fun w1 hw => ex_eqlX hx hy rfl (zg zz rfl) (zg zz rfl)) hHeld ?_
  exact ye rfl (h _ _ (hHeld) rfl)
end Go.Proofs.YtldlljobofnmmabDoor

namespace Go.Proofs.YtldlljobofnmmabDoor
open Go.RowKit
set_option linter.unusedVariables false
set_option linter.unusedSimpArgs false

theorem fg_42_0 (b o : Nat) (w : World) : (Instr.fieldAt 42 (.pointer (some ⟨b, o, none⟩)) 0).run Tryd.prog w = .ok (.pointer (some ⟨b, o + 0, none⟩)) w := by go_simp
theorem fg_42_1 (b o : Nat) (w : World) : (Instr.fieldAt 42 (.pointer (some ⟨b, o, none⟩)) 1).run Tryd.prog w = .ok (.pointer (some ⟨b, o + 1, none⟩)) w := by go_simp
theorem fg_42_2 (b o : Nat) (w : World) : (Instr.fieldAt 42 (.pointer (some ⟨b, o, none⟩)) 2).run Tryd.prog w = .ok (.pointer (some ⟨b, o + 2, none⟩)) w := by go_simp
theorem fg_42_3 (b o : Nat) (w : World) : (Instr.fieldAt 42 (.pointer (some ⟨b, o, none⟩)) 3).run Tryd.prog w = .ok (.pointer (some ⟨b, o + 6, none⟩)) w := by go_simp
theorem fg_42_4 (b o : Nat) (w : World) : (Instr.fieldAt 42 (.pointer (some ⟨b, o, none⟩)) 4).run Tryd.prog w = .ok (.pointer (some ⟨b, o + 7, none⟩)) w := by go_simp
theorem ix_say {b o m c i : Nat} (hi : i < m) (hm : m ≤ 9223372036854775807) (W : World) : (Instr.indexAt 23 (.slice (some ⟨b, o, none⟩) m c) (.int .i64 (i : Int))).run Tryd.prog W = .ok (.pointer (some ⟨b, o + 8 * i, none⟩)) W := by
  rw [Nat.mul_comm]
  go_simp
theorem neq_plR (a b : PlK) (ha : a.ok) (hb : b.ok) (w : World) : (binOp .neq 34 a.v b.v).run Tryd.prog w = .ok (.bool (decide (a ≠ b))) w := by
  have h := eqPl 9996 a b ha hb w
  have : (Op.equal 34 a.v b.v).run Tryd.prog w = .ok (decide (a = b)) w := h
  unfold PlK.v at *
  simp only [binOp]
  simp [this]
theorem ex_neqP {w : World} {a : Act} {o : Oper} {x y : Operand} {p q : PlK} {r : Bool} (hp : p.ok) (hq : q.ok) (hr : decide (p ≠ q) = r) (ho : o.op = .binOp .neq 34 x y 34) (hx : a.eval x = p.v) (hy : a.eval y = q.v) : (execOp a.eval o).run Tryd.prog w = .ok (.value (.bool r)) w := by
  subst hr
  exact exec_binOp ho hx hy (guard_plR _ _ _ _ _ _) (neq_plR p q hp hq w)
theorem ex_ne2 {w : World} {a : Act} {o : Oper} {x y : Operand} {c d : Int} (ho : o.op = .binOp .neq 3 x y 3) (hx : a.eval x = .int .i64 c) (hy : a.eval y = .int .i64 d) : (execOp a.eval o).run Tryd.prog w = .ok (.value (.bool (c != d))) w := by
  refine exec_binOp ho hx hy ?_ ?_
  · kernel_rfl
  · go_simp
theorem ex_gt0 {w : World} {a : Act} {o : Oper} {x y : Operand} {n : Nat} {r : Bool} (hr : decide (0 < n) = r) (ho : o.op = .binOp .gtr 3 x y 3) (hx : a.eval x = .int .i64 (n : Int)) (hy : a.eval y = .int .i64 0) : (execOp a.eval o).run Tryd.prog w = .ok (.value (.bool r)) w := by
  subst hr
  have h2 : decide ((n : Int) > 0) = decide (0 < n) := decide_eq_decide.2 (by omega)
  refine exec_binOp ho hx hy ?_ ?_
  · kernel_rfl
  · rw [← h2]
    go_simp
theorem ex_neb {w : World} {a : Act} {o : Oper} {x y : Operand} {r : Bool} (ho : o.op = .binOp .neq 4 x y 4) (hx : a.eval x = .bool r) (hy : a.eval y = .bool r) : (execOp a.eval o).run Tryd.prog w = .ok (.value (.bool false)) w := by
  refine exec_binOp ho hx hy ?_ ?_
  · unfold eqGuard; simp
  · cases r <;> kernel_rfl
theorem ex_addw {w : World} {a : Act} {o : Oper} {x y : Operand} {m n : Int} (ho : o.op = .binOp .add 2 x y 2) (hx : a.eval x = .int .i64 m) (hy : a.eval y = .int .i64 n) : (execOp a.eval o).run Tryd.prog w = .ok (.value (.int .i64 (IntKind.i64.wrap (m + n)))) w := by
  refine exec_binOp ho hx hy ?_ ?_
  · kernel_rfl
  · go_simp
def do5_o0 : Oper := { dst := some 18, op := Op.move (Operand.tmp 2), type := 23, pos := "outright.go:40", after := #[], guard := none }
def do5_o1 : Oper := { dst := some 19, op := Op.move (Operand.tmp 3), type := 3, pos := "outright.go:40", after := #[], guard := none }
def do5_o2 : Oper := { dst := some 20, op := Op.indexAddr 23 (Operand.tmp 18) (Operand.tmp 19), type := 0, pos := "outright.go:40", after := #[{ on := 0, ground := Ground.data }, { on := 1, ground := Ground.data }], guard := none }
def do5_o3 : Oper := { dst := some 21, op := Op.load 42 (Operand.tmp 20), type := 42, pos := "outright.go:40", after := #[{ on := 2, ground := Ground.data }], guard := none }
def do5_o4 : Oper := { dst := some 22, op := Op.move (Operand.tmp 10), type := 3, pos := "outright.go:40", after := #[], guard := none }
def do5_o5 : Oper := { dst := some 23, op := Op.call { callee := Callee.value (Operand.func 18), args := #[Operand.tmp 21, Operand.tmp 22], argTypes := #[42, 3] }, type := 4, pos := "outright.go:40", after := #[{ on := 3, ground := Ground.data }, { on := 4, ground := Ground.data }], guard := none }
def do5_ops : Array Oper := #[do5_o0, do5_o1, do5_o2, do5_o3, do5_o4, do5_o5]
set_option maxRecDepth 100000 in
set_option maxHeartbeats 4000000 in
theorem do5 {g o n c i k : Nat} {x : SyR} {r : Bool} (Fin : World → Prop) (a : Act) (w : World) (Q : Exit → Act → World → Prop) (zz : a.tmps.size = 70)
    (t2 : a.tmps.getD 2 undef = .slice (some ⟨g, o, none⟩) n c)
    (t3 : a.tmps.getD 3 undef = .int .i64 (i : Int))
    (t10 : a.tmps.getD 10 undef = .int .i64 (k : Int))
    (hi : i < n) (hm : n ≤ 9223372036854775807) (LS : ∀ W, W = w → (Instr.loadAt 42 (.pointer (some ⟨g, o + 8 * i, none⟩))).run Tryd.prog W = .ok (x.a) W) (CK : Calls Tryd.prog 18 #[x.a, .int .i64 (k : Int)] w fun e w' => e = .returned (.bool r) ∧ Fin w')
    (h : ∀ (a' : Act) (w' : World), Fin w' → a' = ((((((a).put (some 18) (.slice (some ⟨g, o, none⟩) n c)).put (some 19) (.int .i64 (i : Int))).put (some 20) (.pointer (some ⟨g, o + 8 * i, none⟩))).put (some 21) (x.a)).put (some 22) (.int .i64 (k : Int))).put (some 23) (.bool r) → Q .normal a' w') :
    (Code.region 5 do5_ops false).wp Tryd.prog Q a w := by
  refine z0 rfl ?_
  refine zv rfl (exec_move rfl (zi t2 rfl)) ?_
  refine zv rfl (exec_move rfl (zi t3 rfl)) ?_
  refine zv rfl (exec_indexAt rfl (zg zz rfl) (zg zz rfl) (ix_say hi hm _)) ?_
  refine zv rfl (exec_load rfl (zg zz rfl) (LS _ rfl)) ?_
  refine zv rfl (exec_move rfl (zi t10 rfl)) ?_
  refine zc rfl (exec_c2 rfl (zg zz rfl) (zg zz rfl)) (CK) (fun e x5 hx => ?_)
  obtain ⟨rfl, HF⟩ := hx
  refine ⟨_, rfl, ?_⟩
  exact ze rfl (h _ _ (HF) rfl)
def do6_o0 : Oper := { dst := some 24, op := Op.load 70 (Operand.tmp 9), type := 70, pos := "outright.go:41", after := #[], guard := none }
def do6_o1 : Oper := { dst := some 25, op := Op.move (Operand.tmp 10), type := 3, pos := "outright.go:41", after := #[], guard := none }
def do6_o2 : Oper := { dst := some 26, op := Op.call { callee := Callee.value (Operand.func 19), args := #[Operand.tmp 25], argTypes := #[3] }, type := 32, pos := "outright.go:41", after := #[{ on := 1, ground := Ground.data }], guard := none }
def do6_o3 : Oper := { dst := some 27, op := Op.buildSlice 70 1 #[(0, Operand.tmp 26)], type := 70, pos := "outright.go:41", after := #[{ on := 2, ground := Ground.data }], guard := none }
def do6_o4 : Oper := { dst := some 28, op := Op.call { callee := Callee.builtin Builtin.append, args := #[Operand.tmp 24, Operand.tmp 27], argTypes := #[70, 70] }, type := 70, pos := "outright.go:41", after := #[{ on := 0, ground := Ground.data }, { on := 3, ground := Ground.data }, { on := 2, ground := Ground.chain }], guard := none }
def do6_o5 : Oper := { dst := none, op := Op.store 70 (Operand.tmp 9) (Operand.tmp 28), type := 0, pos := "outright.go:41", after := #[{ on := 4, ground := Ground.data }, { on := 4, ground := Ground.chain }, { on := 0, ground := Ground.phase }, { on := 1, ground := Ground.phase }, { on := 2, ground := Ground.phase }, { on := 3, ground := Ground.phase }, { on := 4, ground := Ground.phase }], guard := none }
def do6_ops : Array Oper := #[do6_o0, do6_o1, do6_o2, do6_o3, do6_o4, do6_o5]
set_option maxRecDepth 100000 in
set_option maxHeartbeats 4000000 in
theorem do6 {ib k : Nat} {iv : Value} {y : IdK} (S Fin : World → Prop) (a : Act) (w : World) (Q : Exit → Act → World → Prop) (zz : a.tmps.size = 70)
    (t9 : a.tmps.getD 9 undef = .pointer (some ⟨ib, 0, none⟩))
    (t10 : a.tmps.getD 10 undef = .int .i64 (k : Int))
    (h0 : S w.drew) (LI : ∀ W, S W → (Instr.loadAt 70 (.pointer (some ⟨ib, 0, none⟩))).run Tryd.prog W = .ok (iv) W) (CN : Calls Tryd.prog 19 #[.int .i64 (k : Int)] w.drew fun e w' => e = .returned y.v ∧ S w' ∧ ∃ sv w1 u w2 w3, (Instr.buildSlice 70 1 #[(0, y.v)]).run Tryd.prog w' = .ok sv w1 ∧ S w1 ∧ (Builtin.append_ #[70, 70] 70 #[iv, sv]).run Tryd.prog w1 = .ok u w2 ∧ S w2 ∧ (Instr.storeAt 70 (.pointer (some ⟨ib, 0, none⟩)) u).run Tryd.prog w2 = .ok () w3 ∧ Fin w3)
    (h : ∀ (sv u : Value) (a' : Act) (w' : World), Fin w' → a' = (((((a).put (some 24) (iv)).put (some 25) (.int .i64 (k : Int))).put (some 26) (y.v)).put (some 27) (sv)).put (some 28) (u) → Q .normal a' w') :
    (Code.region 6 do6_ops true).wp Tryd.prog Q a w := by
  refine x0 5 (fun w' => S w') (h0) (fun hHeld => ?_)
  refine xv 0 rfl rfl (fun w1 hw => exec_load rfl (zi t9 rfl) (LI _ hw)) hHeld ?_
  refine xv 1 rfl rfl (fun w1 hw => exec_move rfl (zi t10 rfl)) hHeld ?_
  refine xc 2 rfl rfl (exec_c1 rfl (zg zz rfl)) (CN) (fun e x2 hx => ?_)
  obtain ⟨rfl, S1, sv, w1, u, w2, w3, EB, S2, EA, S3, ES, HF⟩ := hx
  replace h := h sv u
  refine ⟨_, rfl, fun _ => S1, fun hHeld => ?_⟩
  replace hHeld := hHeld (by decide)
  refine xr (v := sv) 3 rfl rfl (exec_buildSlice rfl (zg zz rfl) EB) (fun _ => S2) (fun hHeld => ?_)
  replace hHeld := hHeld (by decide)
  refine xr (v := u) 4 rfl rfl (exec_append rfl (zg zz rfl) (zg zz rfl) EA) (fun _ => S3) (fun hHeld => ?_)
  replace hHeld := hHeld (by decide)
  refine xs 5 rfl rfl (exec_store rfl (zi t9 rfl) (zg zz rfl) ES) (fun hne => absurd rfl hne) (fun _ => ?_)
  exact xe rfl (h _ _ (HF) rfl)
def do8_o0 : Oper := { dst := some 30, op := Op.move (Operand.tmp 1), type := 22, pos := "outright.go:45", after := #[], guard := none }
def do8_o1 : Oper := { dst := some 31, op := Op.move (Operand.tmp 2), type := 23, pos := "outright.go:45", after := #[], guard := none }
def do8_o2 : Oper := { dst := some 32, op := Op.move (Operand.tmp 3), type := 3, pos := "outright.go:45", after := #[], guard := none }
def do8_o3 : Oper := { dst := some 33, op := Op.indexAddr 23 (Operand.tmp 31) (Operand.tmp 32), type := 0, pos := "outright.go:45", after := #[{ on := 1, ground := Ground.data }, { on := 2, ground := Ground.data }], guard := none }
def do8_o4 : Oper := { dst := some 34, op := Op.fieldAddr 42 (Operand.tmp 33) 1, type := 0, pos := "outright.go:45", after := #[{ on := 3, ground := Ground.data }], guard := none }
def do8_o5 : Oper := { dst := some 35, op := Op.load 3 (Operand.tmp 34), type := 3, pos := "outright.go:45", after := #[{ on := 4, ground := Ground.data }], guard := none }
def do8_o6 : Oper := { dst := some 36, op := Op.call { callee := Callee.value (Operand.func 8), args := #[Operand.tmp 30, Operand.tmp 35], argTypes := #[22, 3] }, type := 34, pos := "outright.go:45", after := #[{ on := 0, ground := Ground.data }, { on := 5, ground := Ground.data }], guard := none }
def do8_o7 : Oper := { dst := some 12, op := Op.alloc 34, type := 0, pos := "outright.go:45", after := #[], guard := none }
def do8_o8 : Oper := { dst := none, op := Op.store 34 (Operand.tmp 12) (Operand.tmp 36), type := 0, pos := "outright.go:45", after := #[{ on := 7, ground := Ground.data }, { on := 6, ground := Ground.data }, { on := 6, ground := Ground.chain }, { on := 0, ground := Ground.phase }, { on := 1, ground := Ground.phase }, { on := 2, ground := Ground.phase }, { on := 3, ground := Ground.phase }, { on := 4, ground := Ground.phase }, { on := 5, ground := Ground.phase }, { on := 6, ground := Ground.phase }, { on := 7, ground := Ground.phase }], guard := none }
def do8_ops : Array Oper := #[do8_o0, do8_o1, do8_o2, do8_o3, do8_o4, do8_o5, do8_o6, do8_o7, do8_o8]
set_option maxRecDepth 100000 in
set_option maxHeartbeats 4000000 in
theorem do8 {g o n c i pn pc : Nat} {pa : Option Addr} {p : PlK} {x : SyR} (Fin : Nat → World → Prop) (a : Act) (w : World) (Q : Exit → Act → World → Prop) (zz : a.tmps.size = 70)
    (t1 : a.tmps.getD 1 undef = .slice pa pn pc)
    (t2 : a.tmps.getD 2 undef = .slice (some ⟨g, o, none⟩) n c)
    (t3 : a.tmps.getD 3 undef = .int .i64 (i : Int))
    (hi : i < n) (hm : n ≤ 9223372036854775807) (LQ : ∀ W, W = w → (Instr.loadAt 3 (.pointer (some ⟨g, o + 8 * i + 1, none⟩))).run Tryd.prog W = .ok (.int .i64 x.pl) W) (CA : Calls Tryd.prog 8 #[.slice pa pn pc, .int .i64 x.pl] w fun e w' => e = .returned p.v ∧ ∃ pb w1 w2, (Instr.alloc 34 true (.tuple #[])).run Tryd.prog w' = .ok (.pointer (some ⟨pb, 0, none⟩)) w1 ∧ (Instr.storeAt 34 (.pointer (some ⟨pb, 0, none⟩)) p.v).run Tryd.prog w1 = .ok () w2 ∧ Fin pb w2)
    (h : ∀ (pb : Nat) (a' : Act) (w' : World), Fin pb w' → a' = ((((((((a).put (some 30) (.slice pa pn pc)).put (some 31) (.slice (some ⟨g, o, none⟩) n c)).put (some 32) (.int .i64 (i : Int))).put (some 33) (.pointer (some ⟨g, o + 8 * i, none⟩))).put (some 34) (.pointer (some ⟨g, o + 8 * i + 1, none⟩))).put (some 35) (.int .i64 x.pl)).put (some 36) (p.v)).put (some 12) (.pointer (some ⟨pb, 0, none⟩)) → Q .normal a' w') :
    (Code.region 8 do8_ops false).wp Tryd.prog Q a w := by
  refine z0 rfl ?_
  refine zv rfl (exec_move rfl (zi t1 rfl)) ?_
  refine zv rfl (exec_move rfl (zi t2 rfl)) ?_
  refine zv rfl (exec_move rfl (zi t3 rfl)) ?_
  refine zv rfl (exec_indexAt rfl (zg zz rfl) (zg zz rfl) (ix_say hi hm _)) ?_
  refine zv rfl (exec_fieldAt rfl (zg zz rfl) (fg_42_1 _ _ _)) ?_
  refine zv rfl (exec_load rfl (zg zz rfl) (LQ _ rfl)) ?_
  refine zc rfl (exec_c2 rfl (zg zz rfl) (zg zz rfl)) (CA) (fun e x6 hx => ?_)
  obtain ⟨rfl, pb, w1, w2, EA, ES, HF⟩ := hx
  replace h := h pb
  refine ⟨_, rfl, ?_⟩
  refine zv (v := .pointer (some ⟨pb, 0, none⟩)) rfl (exec_alloc rfl EA) ?_
  refine zs rfl (exec_store rfl (zg zz rfl) (zg zz rfl) ES) ?_
  exact ze rfl (h _ _ (HF) rfl)
def do9_o0 : Oper := { dst := some 37, op := Op.move (Operand.tmp 2), type := 23, pos := "outright.go:46", after := #[], guard := none }
def do9_o1 : Oper := { dst := some 38, op := Op.move (Operand.tmp 3), type := 3, pos := "outright.go:46", after := #[], guard := none }
def do9_o2 : Oper := { dst := some 39, op := Op.indexAddr 23 (Operand.tmp 37) (Operand.tmp 38), type := 0, pos := "outright.go:46", after := #[{ on := 0, ground := Ground.data }, { on := 1, ground := Ground.data }], guard := none }
def do9_o3 : Oper := { dst := some 40, op := Op.fieldAddr 42 (Operand.tmp 39) 0, type := 0, pos := "outright.go:46", after := #[{ on := 2, ground := Ground.data }], guard := none }
def do9_o4 : Oper := { dst := some 41, op := Op.load 3 (Operand.tmp 40), type := 3, pos := "outright.go:46", after := #[{ on := 3, ground := Ground.data }], guard := none }
def do9_ops : Array Oper := #[do9_o0, do9_o1, do9_o2, do9_o3, do9_o4]
set_option maxRecDepth 100000 in
set_option maxHeartbeats 4000000 in
theorem do9 {g o n c i : Nat} {x : SyR} (a : Act) (w : World) (Q : Exit → Act → World → Prop) (zz : a.tmps.size = 70)
    (t2 : a.tmps.getD 2 undef = .slice (some ⟨g, o, none⟩) n c)
    (t3 : a.tmps.getD 3 undef = .int .i64 (i : Int))
    (hi : i < n) (hm : n ≤ 9223372036854775807) (LQ : ∀ W, W = w → (Instr.loadAt 3 (.pointer (some ⟨g, o + 8 * i + 0, none⟩))).run Tryd.prog W = .ok (.int .i64 x.kind) W)
    (h : ∀ (a' : Act) (w' : World), w' = w → a' = (((((a).put (some 37) (.slice (some ⟨g, o, none⟩) n c)).put (some 38) (.int .i64 (i : Int))).put (some 39) (.pointer (some ⟨g, o + 8 * i, none⟩))).put (some 40) (.pointer (some ⟨g, o + 8 * i + 0, none⟩))).put (some 41) (.int .i64 x.kind) → Q .normal a' w') :
    (Code.region 9 do9_ops false).wp Tryd.prog Q a w := by
  refine z0 rfl ?_
  refine zv rfl (exec_move rfl (zi t2 rfl)) ?_
  refine zv rfl (exec_move rfl (zi t3 rfl)) ?_
  refine zv rfl (exec_indexAt rfl (zg zz rfl) (zg zz rfl) (ix_say hi hm _)) ?_
  refine zv rfl (exec_fieldAt rfl (zg zz rfl) (fg_42_0 _ _ _)) ?_
  refine zv rfl (exec_load rfl (zg zz rfl) (LQ _ rfl)) ?_
  exact ze rfl (h _ _ (rfl) rfl)
def do11_o0 : Oper := { dst := some 44, op := Op.move (Operand.tmp 0), type := 25, pos := "outright.go:48", after := #[], guard := none }
def do11_o1 : Oper := { dst := some 45, op := Op.load 34 (Operand.tmp 12), type := 34, pos := "outright.go:48", after := #[], guard := none }
def do11_o2 : Oper := { dst := some 46, op := Op.move (Operand.tmp 11), type := 63, pos := "outright.go:48", after := #[], guard := none }
def do11_o3 : Oper := { dst := some 47, op := Op.call { callee := Callee.value (Operand.func 22), args := #[Operand.tmp 44, Operand.tmp 45, Operand.tmp 46], argTypes := #[25, 34, 63] }, type := 27, pos := "outright.go:48", after := #[{ on := 0, ground := Ground.data }, { on := 1, ground := Ground.data }, { on := 2, ground := Ground.data }], guard := none }
def do11_o4 : Oper := { dst := some 8, op := Op.assign (Operand.tmp 47), type := 27, pos := "outright.go:48", after := #[{ on := 3, ground := Ground.data }, { on := 3, ground := Ground.chain }, { on := 0, ground := Ground.phase }, { on := 1, ground := Ground.phase }, { on := 2, ground := Ground.phase }, { on := 3, ground := Ground.phase }], guard := none }
def do11_ops : Array Oper := #[do11_o0, do11_o1, do11_o2, do11_o3, do11_o4]
set_option maxRecDepth 100000 in
set_option maxHeartbeats 4000000 in
theorem do11 {rb pb : Nat} {fv : Value} {p : PlK} (Fin : Nat → World → Prop) (a : Act) (w : World) (Q : Exit → Act → World → Prop) (zz : a.tmps.size = 70)
    (t0 : a.tmps.getD 0 undef = .pointer (some ⟨rb, 0, none⟩))
    (t11 : a.tmps.getD 11 undef = fv)
    (t12 : a.tmps.getD 12 undef = .pointer (some ⟨pb, 0, none⟩))
    (LP : ∀ W, W = w → (Instr.loadAt 34 (.pointer (some ⟨pb, 0, none⟩))).run Tryd.prog W = .ok (p.v) W) (CD : Calls Tryd.prog 22 #[.pointer (some ⟨rb, 0, none⟩), p.v, fv] w fun e w' => ∃ bk, e = .returned (.pointer (some ⟨bk, 0, none⟩)) ∧ Fin bk w')
    (h : ∀ (bk : Nat) (a' : Act) (w' : World), Fin bk w' → a' = (((((a).put (some 44) (.pointer (some ⟨rb, 0, none⟩))).put (some 45) (p.v)).put (some 46) (fv)).put (some 47) (.pointer (some ⟨bk, 0, none⟩))).put (some 8) (.pointer (some ⟨bk, 0, none⟩)) → Q .normal a' w') :
    (Code.region 11 do11_ops false).wp Tryd.prog Q a w := by
  refine z0 rfl ?_
  refine zv rfl (exec_move rfl (zi t0 rfl)) ?_
  refine zv rfl (exec_load rfl (zi t12 rfl) (LP _ rfl)) ?_
  refine zv rfl (exec_move rfl (zi t11 rfl)) ?_
  refine zc rfl (exec_c3 rfl (zg zz rfl) (zg zz rfl) (zg zz rfl)) (CD) (fun e x3 hx => ?_)
  obtain ⟨bk, rfl, HF⟩ := hx
  replace h := h bk
  refine ⟨_, rfl, ?_⟩
  refine zv rfl (exec_assign rfl (zg zz rfl)) ?_
  exact ze rfl (h _ _ (HF) rfl)
def do13_o0 : Oper := { dst := some 50, op := Op.move (Operand.tmp 0), type := 25, pos := "outright.go:50", after := #[], guard := none }
def do13_o1 : Oper := { dst := some 51, op := Op.load 34 (Operand.tmp 12), type := 34, pos := "outright.go:50", after := #[], guard := none }
def do13_o2 : Oper := { dst := some 52, op := Op.move (Operand.tmp 2), type := 23, pos := "outright.go:50", after := #[], guard := none }
def do13_o3 : Oper := { dst := some 53, op := Op.move (Operand.tmp 3), type := 3, pos := "outright.go:50", after := #[], guard := none }
def do13_o4 : Oper := { dst := some 54, op := Op.indexAddr 23 (Operand.tmp 52) (Operand.tmp 53), type := 0, pos := "outright.go:50", after := #[{ on := 2, ground := Ground.data }, { on := 3, ground := Ground.data }], guard := none }
def do13_o5 : Oper := { dst := some 55, op := Op.fieldAddr 42 (Operand.tmp 54) 3, type := 0, pos := "outright.go:50", after := #[{ on := 4, ground := Ground.data }], guard := none }
def do13_o6 : Oper := { dst := some 56, op := Op.load 2 (Operand.tmp 55), type := 2, pos := "outright.go:50", after := #[{ on := 5, ground := Ground.data }], guard := none }
def do13_o7 : Oper := { dst := some 57, op := Op.move (Operand.tmp 11), type := 63, pos := "outright.go:50", after := #[], guard := none }
def do13_o8 : Oper := { dst := some 58, op := Op.call { callee := Callee.value (Operand.func 16), args := #[Operand.tmp 50, Operand.tmp 51, Operand.tmp 56, Operand.tmp 57], argTypes := #[25, 34, 2, 63] }, type := 27, pos := "outright.go:50", after := #[{ on := 0, ground := Ground.data }, { on := 1, ground := Ground.data }, { on := 6, ground := Ground.data }, { on := 7, ground := Ground.data }], guard := none }
def do13_o9 : Oper := { dst := some 8, op := Op.assign (Operand.tmp 58), type := 27, pos := "outright.go:50", after := #[{ on := 8, ground := Ground.data }, { on := 8, ground := Ground.chain }, { on := 0, ground := Ground.phase }, { on := 1, ground := Ground.phase }, { on := 2, ground := Ground.phase }, { on := 3, ground := Ground.phase }, { on := 4, ground := Ground.phase }, { on := 5, ground := Ground.phase }, { on := 6, ground := Ground.phase }, { on := 7, ground := Ground.phase }, { on := 8, ground := Ground.phase }], guard := none }
def do13_ops : Array Oper := #[do13_o0, do13_o1, do13_o2, do13_o3, do13_o4, do13_o5, do13_o6, do13_o7, do13_o8, do13_o9]
set_option maxRecDepth 100000 in
set_option maxHeartbeats 4000000 in
theorem do13 {rb pb g o n c i : Nat} {fv : Value} {p : PlK} {x : SyR} (S : World → Prop) (Fin : Nat → World → Prop) (a : Act) (w : World) (Q : Exit → Act → World → Prop) (zz : a.tmps.size = 70)
    (t0 : a.tmps.getD 0 undef = .pointer (some ⟨rb, 0, none⟩))
    (t2 : a.tmps.getD 2 undef = .slice (some ⟨g, o, none⟩) n c)
    (t3 : a.tmps.getD 3 undef = .int .i64 (i : Int))
    (t11 : a.tmps.getD 11 undef = fv)
    (t12 : a.tmps.getD 12 undef = .pointer (some ⟨pb, 0, none⟩))
    (hi : i < n) (hm : n ≤ 9223372036854775807) (h0 : S w.drew) (LP : ∀ W, S W → (Instr.loadAt 34 (.pointer (some ⟨pb, 0, none⟩))).run Tryd.prog W = .ok (p.v) W) (LN : ∀ W, S W → (Instr.loadAt 2 (.pointer (some ⟨g, o + 8 * i + 6, none⟩))).run Tryd.prog W = .ok (.int .i64 x.n) W) (CD : Calls Tryd.prog 16 #[.pointer (some ⟨rb, 0, none⟩), p.v, .int .i64 x.n, fv] w.drew fun e w' => ∃ bk, e = .returned (.pointer (some ⟨bk, 0, none⟩)) ∧ S w' ∧ Fin bk w')
    (h : ∀ (bk : Nat) (a' : Act) (w' : World), Fin bk w' → a' = ((((((((((a).put (some 50) (.pointer (some ⟨rb, 0, none⟩))).put (some 51) (p.v)).put (some 52) (.slice (some ⟨g, o, none⟩) n c)).put (some 53) (.int .i64 (i : Int))).put (some 54) (.pointer (some ⟨g, o + 8 * i, none⟩))).put (some 55) (.pointer (some ⟨g, o + 8 * i + 6, none⟩))).put (some 56) (.int .i64 x.n)).put (some 57) (fv)).put (some 58) (.pointer (some ⟨bk, 0, none⟩))).put (some 8) (.pointer (some ⟨bk, 0, none⟩)) → Q .normal a' w') :
    (Code.region 13 do13_ops true).wp Tryd.prog Q a w := by
  refine y0 (fun w' => S w') (h0) (fun hHeld => ?_)
  refine yv 0 rfl rfl (fun w1 hw => exec_move rfl (zi t0 rfl)) hHeld ?_
  refine yv 1 rfl rfl (fun w1 hw => exec_load rfl (zi t12 rfl) (LP _ hw)) hHeld ?_
  refine yv 2 rfl rfl (fun w1 hw => exec_move rfl (zi t2 rfl)) hHeld ?_
  refine yv 3 rfl rfl (fun w1 hw => exec_move rfl (zi t3 rfl)) hHeld ?_
  refine yv 4 rfl rfl (fun w1 hw => exec_indexAt rfl (zg zz rfl) (zg zz rfl) (ix_say hi hm _)) hHeld ?_
  refine yv 5 rfl rfl (fun w1 hw => exec_fieldAt rfl (zg zz rfl) (fg_42_3 _ _ _)) hHeld ?_
  refine yv 6 rfl rfl (fun w1 hw => exec_load rfl (zg zz rfl) (LN _ hw)) hHeld ?_
  refine yv 7 rfl rfl (fun w1 hw => exec_move rfl (zi t11 rfl)) hHeld ?_
  refine yc 8 rfl rfl (exec_c4 rfl (zg zz rfl) (zg zz rfl) (zg zz rfl) (zg zz rfl)) (CD) (fun e x8 hx => ?_)
  obtain ⟨bk, rfl, S1, HF⟩ := hx
  replace h := h bk
  refine ⟨_, rfl, S1, fun hHeld => ?_⟩
  refine yv 9 rfl rfl (fun w1 hw => exec_assign rfl (zg zz rfl)) hHeld ?_
  exact ye rfl (h _ _ (HF) rfl)
def do14_o0 : Oper := { dst := some 59, op := Op.move (Operand.tmp 0), type := 25, pos := "outright.go:52", after := #[], guard := none }
def do14_o1 : Oper := { dst := some 60, op := Op.load 34 (Operand.tmp 12), type := 34, pos := "outright.go:52", after := #[], guard := none }
def do14_o2 : Oper := { dst := some 61, op := Op.move (Operand.tmp 3), type := 3, pos := "outright.go:52", after := #[], guard := none }
def do14_o3 : Oper := { dst := some 62, op := Op.call { callee := Callee.value (Operand.func 19), args := #[Operand.tmp 61], argTypes := #[3] }, type := 32, pos := "outright.go:52", after := #[{ on := 2, ground := Ground.data }], guard := none }
def do14_o4 : Oper := { dst := some 63, op := Op.move (Operand.tmp 2), type := 23, pos := "outright.go:52", after := #[], guard := none }
def do14_o5 : Oper := { dst := some 64, op := Op.move (Operand.tmp 3), type := 3, pos := "outright.go:52", after := #[], guard := none }
def do14_o6 : Oper := { dst := some 65, op := Op.indexAddr 23 (Operand.tmp 63) (Operand.tmp 64), type := 0, pos := "outright.go:52", after := #[{ on := 4, ground := Ground.data }, { on := 5, ground := Ground.data }], guard := none }
def do14_o7 : Oper := { dst := some 66, op := Op.fieldAddr 42 (Operand.tmp 65) 2, type := 0, pos := "outright.go:52", after := #[{ on := 6, ground := Ground.data }], guard := none }
def do14_o8 : Oper := { dst := some 67, op := Op.load 39 (Operand.tmp 66), type := 39, pos := "outright.go:52", after := #[{ on := 7, ground := Ground.data }], guard := none }
def do14_o9 : Oper := { dst := some 68, op := Op.move (Operand.tmp 11), type := 63, pos := "outright.go:52", after := #[], guard := none }
def do14_o10 : Oper := { dst := some 69, op := Op.call { callee := Callee.value (Operand.func 15), args := #[Operand.tmp 59, Operand.tmp 60, Operand.tmp 62, Operand.tmp 67, Operand.tmp 68], argTypes := #[25, 34, 32, 39, 63] }, type := 27, pos := "outright.go:52", after := #[{ on := 0, ground := Ground.data }, { on := 1, ground := Ground.data }, { on := 3, ground := Ground.data }, { on := 8, ground := Ground.data }, { on := 9, ground := Ground.data }, { on := 3, ground := Ground.chain }], guard := none }
def do14_o11 : Oper := { dst := some 8, op := Op.assign (Operand.tmp 69), type := 27, pos := "outright.go:52", after := #[{ on := 10, ground := Ground.data }, { on := 10, ground := Ground.chain }, { on := 0, ground := Ground.phase }, { on := 1, ground := Ground.phase }, { on := 2, ground := Ground.phase }, { on := 3, ground := Ground.phase }, { on := 4, ground := Ground.phase }, { on := 5, ground := Ground.phase }, { on := 6, ground := Ground.phase }, { on := 7, ground := Ground.phase }, { on := 8, ground := Ground.phase }, { on := 9, ground := Ground.phase }, { on := 10, ground := Ground.phase }], guard := none }
def do14_ops : Array Oper := #[do14_o0, do14_o1, do14_o2, do14_o3, do14_o4, do14_o5, do14_o6, do14_o7, do14_o8, do14_o9, do14_o10, do14_o11]
set_option maxRecDepth 100000 in
set_option maxHeartbeats 4000000 in
theorem do14 {rb pb g o n c i : Nat} {fv : Value} {p : PlK} {x : SyR} {y : IdK} (S : World → Prop) (Fin : Nat → World → Prop) (a : Act) (w : World) (Q : Exit → Act → World → Prop) (zz : a.tmps.size = 70)
    (t0 : a.tmps.getD 0 undef = .pointer (some ⟨rb, 0, none⟩))
    (t2 : a.tmps.getD 2 undef = .slice (some ⟨g, o, none⟩) n c)
    (t3 : a.tmps.getD 3 undef = .int .i64 (i : Int))
    (t11 : a.tmps.getD 11 undef = fv)
    (t12 : a.tmps.getD 12 undef = .pointer (some ⟨pb, 0, none⟩))
    (hi : i < n) (hm : n ≤ 9223372036854775807) (h0 : S w.drew) (LP : ∀ W, S W → (Instr.loadAt 34 (.pointer (some ⟨pb, 0, none⟩))).run Tryd.prog W = .ok (p.v) W) (LV : ∀ W, S W → (Instr.loadAt 39 (.pointer (some ⟨g, o + 8 * i + 2, none⟩))).run Tryd.prog W = .ok (x.v.v) W) (CN : Calls Tryd.prog 19 #[.int .i64 (i : Int)] w.drew fun e w1 => e = .returned y.v ∧ S w1 ∧ Calls Tryd.prog 15 #[.pointer (some ⟨rb, 0, none⟩), p.v, y.v, x.v.v, fv] w1 fun e w' => ∃ bk, e = .returned (.pointer (some ⟨bk, 0, none⟩)) ∧ S w' ∧ Fin bk w')
    (h : ∀ (bk : Nat) (a' : Act) (w' : World), Fin bk w' → a' = ((((((((((((a).put (some 59) (.pointer (some ⟨rb, 0, none⟩))).put (some 60) (p.v)).put (some 61) (.int .i64 (i : Int))).put (some 63) (.slice (some ⟨g, o, none⟩) n c)).put (some 64) (.int .i64 (i : Int))).put (some 65) (.pointer (some ⟨g, o + 8 * i, none⟩))).put (some 66) (.pointer (some ⟨g, o + 8 * i + 2, none⟩))).put (some 67) (x.v.v)).put (some 68) (fv)).put (some 62) (y.v)).put (some 69) (.pointer (some ⟨bk, 0, none⟩))).put (some 8) (.pointer (some ⟨bk, 0, none⟩)) → Q .normal a' w') :
    (Code.region 14 do14_ops true).wp Tryd.prog Q a w := by
  refine y0 (fun w' => S w') (h0) (fun hHeld => ?_)
  refine yv 0 rfl rfl (fun w1 hw => exec_move rfl (zi t0 rfl)) hHeld ?_
  refine yv 1 rfl rfl (fun w1 hw => exec_load rfl (zi t12 rfl) (LP _ hw)) hHeld ?_
  refine yv 2 rfl rfl (fun w1 hw => exec_move rfl (zi t3 rfl)) hHeld ?_
  refine yv 4 rfl rfl (fun w1 hw => exec_move rfl (zi t2 rfl)) hHeld ?_
  refine yv 5 rfl rfl (fun w1 hw => exec_move rfl (zi t3 rfl)) hHeld ?_
  refine yv 6 rfl rfl (fun w1 hw => exec_indexAt rfl (zg zz rfl) (zg zz rfl) (ix_say hi hm _)) hHeld ?_
  refine yv 7 rfl rfl (fun w1 hw => exec_fieldAt rfl (zg zz rfl) (fg_42_2 _ _ _)) hHeld ?_
  refine yv 8 rfl rfl (fun w1 hw => exec_load rfl (zg zz rfl) (LV _ hw)) hHeld ?_
  refine yv 9 rfl rfl (fun w1 hw => exec_move rfl (zi t11 rfl)) hHeld ?_
  refine yc 3 rfl rfl (exec_c1 rfl (zg zz rfl)) (CN) (fun e x3 hx => ?_)
  obtain ⟨rfl, S1, CP⟩ := hx
  refine ⟨_, rfl, S1, fun hHeld => ?_⟩
  refine yc 10 rfl rfl (exec_c5 rfl (zg zz rfl) (zg zz rfl) (zg zz rfl) (zg zz rfl) (zg zz rfl)) (CP) (fun e x10 hx => ?_)
  obtain ⟨bk, rfl, S2, HF⟩ := hx
  replace h := h bk
  refine ⟨_, rfl, S2, fun hHeld => ?_⟩
  refine yv 11 rfl rfl (fun w1 hw => exec_assign rfl (zg zz rfl)) hHeld ?_
  exact ye rfl (h _ _ (HF) rfl)
end Go.Proofs.YtldlljobofnmmabDoor

namespace Go.Proofs.YtldlljobofnmmabDoor
open Go.RowKit
set_option linter.unusedVariables false
set_option linter.unusedSimpArgs false

theorem fg_55_0 (b o : Nat) (w : World) : (Instr.fieldAt 55 (.pointer (some ⟨b, o, none⟩)) 0).run Tryd.prog w = .ok (.pointer (some ⟨b, o + 0, none⟩)) w := by go_simp
theorem fg_55_1 (b o : Nat) (w : World) : (Instr.fieldAt 55 (.pointer (some ⟨b, o, none⟩)) 1).run Tryd.prog w = .ok (.pointer (some ⟨b, o + 1, none⟩)) w := by go_simp
theorem fg_55_2 (b o : Nat) (w : World) : (Instr.fieldAt 55 (.pointer (some ⟨b, o, none⟩)) 2).run Tryd.prog w = .ok (.pointer (some ⟨b, o + 2, none⟩)) w := by go_simp
theorem ix_lle {b o m c i : Nat} (hi : i < m) (hm : m ≤ 9223372036854775807) (W : World) : (Instr.indexAt 52 (.slice (some ⟨b, o, none⟩) m c) (.int .i64 (i : Int))).run Tryd.prog W = .ok (.pointer (some ⟨b, o + i, none⟩)) W := by go_simp
theorem ix_lls {b o m c i : Nat} (hi : i < m) (hm : m ≤ 9223372036854775807) (W : World) : (Instr.indexAt 53 (.slice (some ⟨b, o, none⟩) m c) (.int .i64 (i : Int))).run Tryd.prog W = .ok (.pointer (some ⟨b, o + i, none⟩)) W := by go_simp
theorem ix_bkl {b o m c i : Nat} (hi : i < m) (hm : m ≤ 9223372036854775807) (W : World) : (Instr.indexAt 51 (.slice (some ⟨b, o, none⟩) m c) (.int .i64 (i : Int))).run Tryd.prog W = .ok (.pointer (some ⟨b, o + i, none⟩)) W := by go_simp
theorem ix_ul {b o m c i : Nat} (hi : i < m) (hm : m ≤ 9223372036854775807) (W : World) : (Instr.indexAt 48 (.slice (some ⟨b, o, none⟩) m c) (.int .i64 (i : Int))).run Tryd.prog W = .ok (.pointer (some ⟨b, o + i, none⟩)) W := by go_simp
theorem ex_nez {w : World} {a : Act} {o : Oper} {x y : Operand} {z u : Int} {r : Bool} {t : Nat} (ht : t = 3 ∨ t = 57) (hr : (z != u) = r) (ho : o.op = .binOp .neq t x y t) (hx : a.eval x = .int .i64 z) (hy : a.eval y = .int .i64 u) : (execOp a.eval o).run Tryd.prog w = .ok (.value (.bool r)) w := by
  subst hr
  rcases ht with rfl | rfl
  · refine exec_binOp ho hx hy ?_ ?_
    · kernel_rfl
    · go_simp
  · refine exec_binOp ho hx hy ?_ ?_
    · kernel_rfl
    · go_simp
theorem len_lle (a : Option Addr) (n c : Nat) (W : World) (ty : TypeId) : (Builtin.len_ #[52] ty #[.slice a n c]).run Tryd.prog W = .ok (.int .i64 (n : Int)) W := by go_simp
theorem len_bkl (a : Option Addr) (n c : Nat) (W : World) (ty : TypeId) : (Builtin.len_ #[51] ty #[.slice a n c]).run Tryd.prog W = .ok (.int .i64 (n : Int)) W := by go_simp
theorem len_syl (a : Option Addr) (n c : Nat) (W : World) (ty : TypeId) : (Builtin.len_ #[23] ty #[.slice a n c]).run Tryd.prog W = .ok (.int .i64 (n : Int)) W := by go_simp
theorem len_ul (a : Option Addr) (n c : Nat) (W : World) (ty : TypeId) : (Builtin.len_ #[48] ty #[.slice a n c]).run Tryd.prog W = .ok (.int .i64 (n : Int)) W := by go_simp
theorem exec_slb {w : World} {a : Act} {o : Oper} {t : TypeId} {x hi : Operand} {xv hv v : Value} (ho : o.op = .slice t x none (some hi) none) (hx : a.eval x = xv) (h2 : a.eval hi = hv) (hl : (Instr.sliceAt t xv none (some hv) none).run Tryd.prog w = .ok v w) : (execOp a.eval o).run Tryd.prog w = .ok (.value v) w := exec_slice ho hx rfl (by rw [Option.map_some, h2]) rfl hl
theorem sl_bk {g n c k : Nat} (hk : k ≤ c) (W : World) : (Instr.sliceAt 51 (.slice (some ⟨g, 0, none⟩) n c) none (some (.int .i64 (k : Int))) none).run Tryd.prog W = .ok (.slice (some ⟨g, 0, none⟩) k c) W := by go_simp
theorem ex_gtzb {w : World} {a : Act} {o : Oper} {x y : Operand} {n : Nat} {r : Bool} (hr : decide (0 < n) = r) (ho : o.op = .binOp .gtr 3 x y 3) (hx : a.eval x = .int .i64 (n : Int)) (hy : a.eval y = .int .i64 0) : (execOp a.eval o).run Tryd.prog w = .ok (.value (.bool r)) w := by
  subst hr
  have h2 : decide ((n : Int) > 0) = decide (0 < n) := decide_eq_decide.2 (by omega)
  refine exec_binOp ho hx hy ?_ ?_
  · kernel_rfl
  · rw [← h2]
    go_simp
theorem ex_lssb {w : World} {a : Act} {o : Oper} {x y : Operand} {m n : Nat} {r : Bool} (hr : decide (m < n) = r) (ho : o.op = .binOp .lss 3 x y 3) (hx : a.eval x = .int .i64 (m : Int)) (hy : a.eval y = .int .i64 (n : Int)) : (execOp a.eval o).run Tryd.prog w = .ok (.value (.bool r)) w := by
  subst hr
  have h2 : decide ((m : Int) < (n : Int)) = decide (m < n) := decide_eq_decide.2 (by omega)
  refine exec_binOp ho hx hy ?_ ?_
  · kernel_rfl
  · rw [← h2]
    go_simp
theorem ex_subb {w : World} {a : Act} {o : Oper} {x y : Operand} {m n k : Nat} (hk : n + k = m) (hb : m ≤ 9000000000000) (ho : o.op = .binOp .sub 3 x y 3) (hx : a.eval x = .int .i64 (m : Int)) (hy : a.eval y = .int .i64 (n : Int)) : (execOp a.eval o).run Tryd.prog w = .ok (.value (.int .i64 (k : Int))) w := by
  refine exec_binOp ho hx hy ?_ ?_
  · kernel_rfl
  · have e : IntKind.i64.wrap ((m : Int) - (n : Int)) = (k : Int) := by rw [IntKind.wrap_i64]; omega
    rw [← e]
    go_simp
theorem ex_eqz {w : World} {a : Act} {o : Oper} {x y : Operand} (ho : o.op = .binOp .eql 3 x y 3) (hx : a.eval x = .int .i64 0) (hy : a.eval y = .int .i64 0) : (execOp a.eval o).run Tryd.prog w = .ok (.value (.bool true)) w := by
  refine exec_binOp ho hx hy ?_ ?_
  · kernel_rfl
  · go_simp
def tld5_o0 : Oper := { dst := some 14, op := Op.move (Operand.tmp 1), type := 22, pos := "outright.go:151", after := #[], guard := none }
def tld5_o1 : Oper := { dst := some 15, op := Op.move (Operand.tmp 6), type := 3, pos := "outright.go:151", after := #[], guard := none }
def tld5_o2 : Oper := { dst := some 16, op := Op.call { callee := Callee.value (Operand.func 8), args := #[Operand.tmp 14, Operand.tmp 15], argTypes := #[22, 3] }, type := 34, pos := "outright.go:151", after := #[{ on := 0, ground := Ground.data }, { on := 1, ground := Ground.data }], guard := none }
def tld5_o3 : Oper := { dst := some 7, op := Op.alloc 34, type := 0, pos := "outright.go:151", after := #[], guard := none }
def tld5_o4 : Oper := { dst := none, op := Op.store 34 (Operand.tmp 7) (Operand.tmp 16), type := 0, pos := "outright.go:151", after := #[{ on := 3, ground := Ground.data }, { on := 2, ground := Ground.data }, { on := 2, ground := Ground.chain }, { on := 0, ground := Ground.phase }, { on := 1, ground := Ground.phase }, { on := 2, ground := Ground.phase }, { on := 3, ground := Ground.phase }], guard := none }
def tld5_ops : Array Oper := #[tld5_o0, tld5_o1, tld5_o2, tld5_o3, tld5_o4]
set_option maxRecDepth 100000 in
set_option maxHeartbeats 4000000 in
theorem tld5 {m pn pc : Nat} {pa : Option Addr} {p : PlK} (Fin : Nat → World → Prop) (a : Act) (w : World) (Q : Exit → Act → World → Prop) (zz : a.tmps.size = 38)
    (t1 : a.tmps.getD 1 undef = .slice pa pn pc)
    (t6 : a.tmps.getD 6 undef = .int .i64 (m : Int))
    (CA : Calls Tryd.prog 8 #[.slice pa pn pc, .int .i64 (m : Int)] w fun e w' => e = .returned p.v ∧ ∃ pb w1 w2, (Instr.alloc 34 true (.tuple #[])).run Tryd.prog w' = .ok (.pointer (some ⟨pb, 0, none⟩)) w1 ∧ (Instr.storeAt 34 (.pointer (some ⟨pb, 0, none⟩)) p.v).run Tryd.prog w1 = .ok () w2 ∧ Fin pb w2)
    (h : ∀ (pb : Nat) (a' : Act) (w' : World), Fin pb w' → a' = ((((a).put (some 14) (.slice pa pn pc)).put (some 15) (.int .i64 (m : Int))).put (some 16) (p.v)).put (some 7) (.pointer (some ⟨pb, 0, none⟩)) → Q .normal a' w') :
    (Code.region 5 tld5_ops false).wp Tryd.prog Q a w := by
  refine z0 rfl ?_
  refine zv rfl (exec_move rfl (zi t1 rfl)) ?_
  refine zv rfl (exec_move rfl (zi t6 rfl)) ?_
  refine zc rfl (exec_c2 rfl (zg zz rfl) (zg zz rfl)) (CA) (fun e x2 hx => ?_)
  obtain ⟨rfl, pb, w1, w2, EA, ES, HF⟩ := hx
  replace h := h pb
  refine ⟨_, rfl, ?_⟩
  refine zv (v := .pointer (some ⟨pb, 0, none⟩)) rfl (exec_alloc rfl EA) ?_
  refine zs rfl (exec_store rfl (zg zz rfl) (zg zz rfl) ES) ?_
  exact ze rfl (h _ _ (HF) rfl)
def tld6_o0 : Oper := { dst := some 17, op := Op.fieldAddr 55 (Operand.tmp 5) 0, type := 0, pos := "outright.go:152", after := #[], guard := none }
def tld6_o1 : Oper := { dst := some 18, op := Op.load 52 (Operand.tmp 17), type := 52, pos := "outright.go:152", after := #[{ on := 0, ground := Ground.data }], guard := none }
def tld6_o2 : Oper := { dst := some 19, op := Op.move (Operand.tmp 0), type := 25, pos := "outright.go:152", after := #[], guard := none }
def tld6_o3 : Oper := { dst := some 20, op := Op.load 34 (Operand.tmp 7), type := 34, pos := "outright.go:152", after := #[], guard := none }
def tld6_o4 : Oper := { dst := some 21, op := Op.call { callee := Callee.value (Operand.func 10), args := #[Operand.tmp 19, Operand.tmp 20], argTypes := #[25, 34] }, type := 44, pos := "outright.go:152", after := #[{ on := 2, ground := Ground.data }, { on := 3, ground := Ground.data }], guard := none }
def tld6_o5 : Oper := { dst := some 22, op := Op.buildSlice 52 1 #[(0, Operand.tmp 21)], type := 52, pos := "outright.go:152", after := #[{ on := 4, ground := Ground.data }], guard := none }
def tld6_o6 : Oper := { dst := some 23, op := Op.call { callee := Callee.builtin Builtin.append, args := #[Operand.tmp 18, Operand.tmp 22], argTypes := #[52, 52] }, type := 52, pos := "outright.go:152", after := #[{ on := 1, ground := Ground.data }, { on := 5, ground := Ground.data }, { on := 4, ground := Ground.chain }], guard := none }
def tld6_o7 : Oper := { dst := some 24, op := Op.fieldAddr 55 (Operand.tmp 5) 0, type := 0, pos := "outright.go:152", after := #[{ on := 0, ground := Ground.phase }, { on := 1, ground := Ground.phase }, { on := 2, ground := Ground.phase }, { on := 3, ground := Ground.phase }, { on := 4, ground := Ground.phase }, { on := 5, ground := Ground.phase }, { on := 6, ground := Ground.phase }], guard := none }
def tld6_o8 : Oper := { dst := none, op := Op.store 52 (Operand.tmp 24) (Operand.tmp 23), type := 0, pos := "outright.go:152", after := #[{ on := 7, ground := Ground.data }, { on := 6, ground := Ground.data }, { on := 6, ground := Ground.chain }, { on := 0, ground := Ground.phase }, { on := 1, ground := Ground.phase }, { on := 2, ground := Ground.phase }, { on := 3, ground := Ground.phase }, { on := 4, ground := Ground.phase }, { on := 5, ground := Ground.phase }, { on := 6, ground := Ground.phase }], guard := none }
def tld6_ops : Array Oper := #[tld6_o0, tld6_o1, tld6_o2, tld6_o3, tld6_o4, tld6_o5, tld6_o6, tld6_o7, tld6_o8]
set_option maxRecDepth 100000 in
set_option maxHeartbeats 4000000 in
theorem tld6 {ro tb pb : Nat} {ev : Value} {p : PlK} (S Fin : World → Prop) (a : Act) (w : World) (Q : Exit → Act → World → Prop) (zz : a.tmps.size = 38)
    (t0 : a.tmps.getD 0 undef = .pointer (some ⟨ro, 0, none⟩))
    (t5 : a.tmps.getD 5 undef = .pointer (some ⟨tb, 0, none⟩))
    (t7 : a.tmps.getD 7 undef = .pointer (some ⟨pb, 0, none⟩))
    (h0 : S w.drew) (L0 : ∀ W, S W → (Instr.loadAt 52 (.pointer (some ⟨tb, 0 + 0, none⟩))).run Tryd.prog W = .ok (ev) W) (LA : ∀ W, S W → (Instr.loadAt 34 (.pointer (some ⟨pb, 0, none⟩))).run Tryd.prog W = .ok (p.v) W) (CE : Calls Tryd.prog 10 #[.pointer (some ⟨ro, 0, none⟩), p.v] w.drew fun e w' => ∃ u, e = .returned u ∧ S w' ∧ ∃ sv w1 u2 w2 w3, (Instr.buildSlice 52 1 #[(0, u)]).run Tryd.prog w' = .ok sv w1 ∧ S w1 ∧ (Builtin.append_ #[52, 52] 52 #[ev, sv]).run Tryd.prog w1 = .ok u2 w2 ∧ S w2 ∧ (Instr.storeAt 52 (.pointer (some ⟨tb, 0 + 0, none⟩)) u2).run Tryd.prog w2 = .ok () w3 ∧ Fin w3)
    (h : ∀ (u sv u2 : Value) (a' : Act) (w' : World), Fin w' → a' = ((((((((a).put (some 17) (.pointer (some ⟨tb, 0 + 0, none⟩))).put (some 18) (ev)).put (some 19) (.pointer (some ⟨ro, 0, none⟩))).put (some 20) (p.v)).put (some 21) (u)).put (some 22) (sv)).put (some 23) (u2)).put (some 24) (.pointer (some ⟨tb, 0 + 0, none⟩)) → Q .normal a' w') :
    (Code.region 6 tld6_ops true).wp Tryd.prog Q a w := by
  refine x0 8 (fun w' => S w') (h0) (fun hHeld => ?_)
  refine xv 0 rfl rfl (fun w1 hw => exec_fieldAt rfl (zi t5 rfl) (fg_55_0 _ _ _)) hHeld ?_
  refine xv 1 rfl rfl (fun w1 hw => exec_load rfl (zg zz rfl) (L0 _ hw)) hHeld ?_
  refine xv 2 rfl rfl (fun w1 hw => exec_move rfl (zi t0 rfl)) hHeld ?_
  refine xv 3 rfl rfl (fun w1 hw => exec_load rfl (zi t7 rfl) (LA _ hw)) hHeld ?_
  refine xc 4 rfl rfl (exec_c2 rfl (zg zz rfl) (zg zz rfl)) (CE) (fun e x4 hx => ?_)
  obtain ⟨u, rfl, S1, sv, w1, u2, w2, w3, EB, S2, EA, S3, ES, HF⟩ := hx
  replace h := h u sv u2
  refine ⟨_, rfl, fun _ => S1, fun hHeld => ?_⟩
  replace hHeld := hHeld (by decide)
  refine xr (v := sv) 5 rfl rfl (exec_buildSlice rfl (zg zz rfl) EB) (fun _ => S2) (fun hHeld => ?_)
  replace hHeld := hHeld (by decide)
  refine xr (v := u2) 6 rfl rfl (exec_append rfl (zg zz rfl) (zg zz rfl) EA) (fun _ => S3) (fun hHeld => ?_)
  replace hHeld := hHeld (by decide)
  refine xv 7 rfl rfl (fun w1 hw => exec_fieldAt rfl (zi t5 rfl) (fg_55_0 _ _ _)) hHeld ?_
  refine xs 8 rfl rfl (exec_store rfl (zg zz rfl) (zg zz rfl) ES) (fun hne => absurd rfl hne) (fun _ => ?_)
  exact xe rfl (h _ _ (HF) rfl)
def tld7_o0 : Oper := { dst := some 25, op := Op.fieldAddr 55 (Operand.tmp 5) 1, type := 0, pos := "outright.go:153", after := #[], guard := none }
def tld7_o1 : Oper := { dst := some 26, op := Op.load 53 (Operand.tmp 25), type := 53, pos := "outright.go:153", after := #[{ on := 0, ground := Ground.data }], guard := none }
def tld7_o2 : Oper := { dst := some 27, op := Op.move (Operand.tmp 0), type := 25, pos := "outright.go:153", after := #[], guard := none }
def tld7_o3 : Oper := { dst := some 28, op := Op.fieldAddr 34 (Operand.tmp 7) 0, type := 0, pos := "outright.go:153", after := #[], guard := none }
def tld7_o4 : Oper := { dst := some 29, op := Op.load 32 (Operand.tmp 28), type := 32, pos := "outright.go:153", after := #[{ on := 3, ground := Ground.data }], guard := none }
def tld7_o5 : Oper := { dst := some 30, op := Op.call { callee := Callee.value (Operand.func 25), args := #[Operand.tmp 27, Operand.tmp 29], argTypes := #[25, 32] }, type := 77, pos := "outright.go:153", after := #[{ on := 2, ground := Ground.data }, { on := 4, ground := Ground.data }], guard := none }
def tld7_o6 : Oper := { dst := some 31, op := Op.buildSlice 53 1 #[(0, Operand.tmp 30)], type := 53, pos := "outright.go:153", after := #[{ on := 5, ground := Ground.data }], guard := none }
def tld7_o7 : Oper := { dst := some 32, op := Op.call { callee := Callee.builtin Builtin.append, args := #[Operand.tmp 26, Operand.tmp 31], argTypes := #[53, 53] }, type := 53, pos := "outright.go:153", after := #[{ on := 1, ground := Ground.data }, { on := 6, ground := Ground.data }, { on := 5, ground := Ground.chain }], guard := none }
def tld7_o8 : Oper := { dst := some 33, op := Op.fieldAddr 55 (Operand.tmp 5) 1, type := 0, pos := "outright.go:153", after := #[{ on := 0, ground := Ground.phase }, { on := 1, ground := Ground.phase }, { on := 2, ground := Ground.phase }, { on := 3, ground := Ground.phase }, { on := 4, ground := Ground.phase }, { on := 5, ground := Ground.phase }, { on := 6, ground := Ground.phase }, { on := 7, ground := Ground.phase }], guard := none }
def tld7_o9 : Oper := { dst := none, op := Op.store 53 (Operand.tmp 33) (Operand.tmp 32), type := 0, pos := "outright.go:153", after := #[{ on := 8, ground := Ground.data }, { on := 7, ground := Ground.data }, { on := 7, ground := Ground.chain }, { on := 0, ground := Ground.phase }, { on := 1, ground := Ground.phase }, { on := 2, ground := Ground.phase }, { on := 3, ground := Ground.phase }, { on := 4, ground := Ground.phase }, { on := 5, ground := Ground.phase }, { on := 6, ground := Ground.phase }, { on := 7, ground := Ground.phase }], guard := none }
def tld7_ops : Array Oper := #[tld7_o0, tld7_o1, tld7_o2, tld7_o3, tld7_o4, tld7_o5, tld7_o6, tld7_o7, tld7_o8, tld7_o9]
set_option maxRecDepth 100000 in
set_option maxHeartbeats 4000000 in
theorem tld7 {ro tb pb : Nat} {ev : Value} {p : PlK} (S Fin : World → Prop) (a : Act) (w : World) (Q : Exit → Act → World → Prop) (zz : a.tmps.size = 38)
    (t0 : a.tmps.getD 0 undef = .pointer (some ⟨ro, 0, none⟩))
    (t5 : a.tmps.getD 5 undef = .pointer (some ⟨tb, 0, none⟩))
    (t7 : a.tmps.getD 7 undef = .pointer (some ⟨pb, 0, none⟩))
    (h0 : S w.drew) (L0 : ∀ W, S W → (Instr.loadAt 53 (.pointer (some ⟨tb, 0 + 1, none⟩))).run Tryd.prog W = .ok (ev) W) (LA : ∀ W, S W → (Instr.loadAt 32 (.pointer (some ⟨pb, 0 + 0, none⟩))).run Tryd.prog W = .ok (p.o.v) W) (CE : Calls Tryd.prog 25 #[.pointer (some ⟨ro, 0, none⟩), p.o.v] w.drew fun e w' => ∃ u, e = .returned u ∧ S w' ∧ ∃ sv w1 u2 w2 w3, (Instr.buildSlice 53 1 #[(0, u)]).run Tryd.prog w' = .ok sv w1 ∧ S w1 ∧ (Builtin.append_ #[53, 53] 53 #[ev, sv]).run Tryd.prog w1 = .ok u2 w2 ∧ S w2 ∧ (Instr.storeAt 53 (.pointer (some ⟨tb, 0 + 1, none⟩)) u2).run Tryd.prog w2 = .ok () w3 ∧ Fin w3)
    (h : ∀ (u sv u2 : Value) (a' : Act) (w' : World), Fin w' → a' = (((((((((a).put (some 25) (.pointer (some ⟨tb, 0 + 1, none⟩))).put (some 26) (ev)).put (some 27) (.pointer (some ⟨ro, 0, none⟩))).put (some 28) (.pointer (some ⟨pb, 0 + 0, none⟩))).put (some 29) (p.o.v)).put (some 30) (u)).put (some 31) (sv)).put (some 32) (u2)).put (some 33) (.pointer (some ⟨tb, 0 + 1, none⟩)) → Q .normal a' w') :
    (Code.region 7 tld7_ops true).wp Tryd.prog Q a w := by
  refine x0 9 (fun w' => S w') (h0) (fun hHeld => ?_)
  refine xv 0 rfl rfl (fun w1 hw => exec_fieldAt rfl (zi t5 rfl) (fg_55_1 _ _ _)) hHeld ?_
  refine xv 1 rfl rfl (fun w1 hw => exec_load rfl (zg zz rfl) (L0 _ hw)) hHeld ?_
  refine xv 2 rfl rfl (fun w1 hw => exec_move rfl (zi t0 rfl)) hHeld ?_
  refine xv 3 rfl rfl (fun w1 hw => exec_fieldAt rfl (zi t7 rfl) (fg_34_0 _ _ _)) hHeld ?_
  refine xv 4 rfl rfl (fun w1 hw => exec_load rfl (zg zz rfl) (LA _ hw)) hHeld ?_
  refine xc 5 rfl rfl (exec_c2 rfl (zg zz rfl) (zg zz rfl)) (CE) (fun e x5 hx => ?_)
  obtain ⟨u, rfl, S1, sv, w1, u2, w2, w3, EB, S2, EA, S3, ES, HF⟩ := hx
  replace h := h u sv u2
  refine ⟨_, rfl, fun _ => S1, fun hHeld => ?_⟩
  replace hHeld := hHeld (by decide)
  refine xr (v := sv) 6 rfl rfl (exec_buildSlice rfl (zg zz rfl) EB) (fun _ => S2) (fun hHeld => ?_)
  replace hHeld := hHeld (by decide)
  refine xr (v := u2) 7 rfl rfl (exec_append rfl (zg zz rfl) (zg zz rfl) EA) (fun _ => S3) (fun hHeld => ?_)
  replace hHeld := hHeld (by decide)
  refine xv 8 rfl rfl (fun w1 hw => exec_fieldAt rfl (zi t5 rfl) (fg_55_1 _ _ _)) hHeld ?_
  refine xs 9 rfl rfl (exec_store rfl (zg zz rfl) (zg zz rfl) ES) (fun hne => absurd rfl hne) (fun _ => ?_)
  exact xe rfl (h _ _ (HF) rfl)
def tld8_o0 : Oper := { dst := some 34, op := Op.move (Operand.tmp 0), type := 25, pos := "outright.go:155", after := #[], guard := none }
def tld8_o1 : Oper := { dst := some 35, op := Op.call { callee := Callee.value (Operand.func 11), args := #[Operand.tmp 34], argTypes := #[25] }, type := 3, pos := "outright.go:155", after := #[{ on := 0, ground := Ground.data }], guard := none }
def tld8_o2 : Oper := { dst := some 36, op := Op.fieldAddr 55 (Operand.tmp 5) 2, type := 0, pos := "outright.go:155", after := #[{ on := 0, ground := Ground.phase }, { on := 1, ground := Ground.phase }], guard := none }
def tld8_o3 : Oper := { dst := none, op := Op.store 3 (Operand.tmp 36) (Operand.tmp 35), type := 0, pos := "outright.go:155", after := #[{ on := 2, ground := Ground.data }, { on := 1, ground := Ground.data }, { on := 1, ground := Ground.chain }, { on := 0, ground := Ground.phase }, { on := 1, ground := Ground.phase }], guard := none }
def tld8_ops : Array Oper := #[tld8_o0, tld8_o1, tld8_o2, tld8_o3]
set_option maxRecDepth 100000 in
set_option maxHeartbeats 4000000 in
theorem tld8 {ro tb : Nat} {z : Int} (Fin : World → Prop) (a : Act) (w : World) (Q : Exit → Act → World → Prop) (zz : a.tmps.size = 38)
    (t0 : a.tmps.getD 0 undef = .pointer (some ⟨ro, 0, none⟩))
    (t5 : a.tmps.getD 5 undef = .pointer (some ⟨tb, 0, none⟩))
    (CL : Calls Tryd.prog 11 #[.pointer (some ⟨ro, 0, none⟩)] w fun e w' => e = .returned (.int .i64 z) ∧ ∃ w1, (Instr.storeAt 3 (.pointer (some ⟨tb, 0 + 2, none⟩)) (.int .i64 z)).run Tryd.prog w' = .ok () w1 ∧ Fin w1)
    (h : ∀ (a' : Act) (w' : World), Fin w' → a' = (((a).put (some 34) (.pointer (some ⟨ro, 0, none⟩))).put (some 35) (.int .i64 z)).put (some 36) (.pointer (some ⟨tb, 0 + 2, none⟩)) → Q .normal a' w') :
    (Code.region 8 tld8_ops false).wp Tryd.prog Q a w := by
  refine z0 rfl ?_
  refine zv rfl (exec_move rfl (zi t0 rfl)) ?_
  refine zc rfl (exec_c1 rfl (zg zz rfl)) (CL) (fun e x1 hx => ?_)
  obtain ⟨rfl, w1, ES, HF⟩ := hx
  refine ⟨_, rfl, ?_⟩
  refine zv rfl (exec_fieldAt rfl (zi t5 rfl) (fg_55_2 _ _ _)) ?_
  refine zs rfl (exec_store rfl (zg zz rfl) (zg zz rfl) ES) ?_
  exact ze rfl (h _ _ (HF) rfl)
def tld9_o0 : Oper := { dst := some 37, op := Op.load 55 (Operand.tmp 5), type := 55, pos := "outright.go:156", after := #[], guard := none }
def tld9_o1 : Oper := { dst := none, op := Op.store 55 (Operand.tmp 4) (Operand.tmp 37), type := 0, pos := "outright.go:156", after := #[{ on := 0, ground := Ground.data }, { on := 0, ground := Ground.phase }], guard := none }
def tld9_ops : Array Oper := #[tld9_o0, tld9_o1]
set_option maxRecDepth 100000 in
set_option maxHeartbeats 4000000 in
theorem tld9 {rb tb : Nat} {tv : Value} {w1 : World} (a : Act) (w : World) (Q : Exit → Act → World → Prop) (zz : a.tmps.size = 38)
    (t4 : a.tmps.getD 4 undef = .pointer (some ⟨rb, 0, none⟩))
    (t5 : a.tmps.getD 5 undef = .pointer (some ⟨tb, 0, none⟩))
    (L0 : ∀ W, W = w → (Instr.loadAt 55 (.pointer (some ⟨tb, 0, none⟩))).run Tryd.prog W = .ok (tv) W) (ES : (Instr.storeAt 55 (.pointer (some ⟨rb, 0, none⟩)) tv).run Tryd.prog w = .ok () w1)
    (h : ∀ (a' : Act) (w' : World), w' = w1 → a' = (a).put (some 37) (tv) → Q .normal a' w') :
    (Code.region 9 tld9_ops false).wp Tryd.prog Q a w := by
  refine z0 rfl ?_
  refine zv rfl (exec_load rfl (zi t5 rfl) (L0 _ rfl)) ?_
  refine zs rfl (exec_store rfl (zi t4 rfl) (zg zz rfl) ES) ?_
  exact ze rfl (h _ _ (rfl) rfl)
def stl1_o0 : Oper := { dst := some 6, op := Op.fieldAddr 55 (Operand.tmp 2) 2, type := 0, pos := "outright.go:160", after := #[], guard := none }
def stl1_o1 : Oper := { dst := some 7, op := Op.load 3 (Operand.tmp 6), type := 3, pos := "outright.go:160", after := #[{ on := 0, ground := Ground.data }], guard := none }
def stl1_o2 : Oper := { dst := some 8, op := Op.fieldAddr 55 (Operand.tmp 3) 2, type := 0, pos := "outright.go:160", after := #[], guard := none }
def stl1_o3 : Oper := { dst := some 9, op := Op.load 3 (Operand.tmp 8), type := 3, pos := "outright.go:160", after := #[{ on := 2, ground := Ground.data }], guard := none }
def stl1_o4 : Oper := { dst := some 10, op := Op.binOp BinOp.neq 3 (Operand.tmp 7) (Operand.tmp 9) 3, type := 4, pos := "outright.go:160", after := #[{ on := 1, ground := Ground.data }, { on := 3, ground := Ground.data }], guard := none }
def stl1_o5 : Oper := { dst := some 11, op := Op.move (Operand.tmp 10), type := 4, pos := "outright.go:160", after := #[{ on := 4, ground := Ground.data }], guard := none }
def stl1_o6 : Oper := { dst := some 12, op := Op.fieldAddr 55 (Operand.tmp 2) 0, type := 0, pos := "outright.go:160", after := #[{ on := 5, ground := Ground.guard }], guard := some (5, false) }
def stl1_o7 : Oper := { dst := some 13, op := Op.load 52 (Operand.tmp 12), type := 52, pos := "outright.go:160", after := #[{ on := 6, ground := Ground.data }, { on := 5, ground := Ground.guard }], guard := some (5, false) }
def stl1_o8 : Oper := { dst := some 14, op := Op.call { callee := Callee.builtin Builtin.len, args := #[Operand.tmp 13], argTypes := #[52] }, type := 3, pos := "outright.go:160", after := #[{ on := 7, ground := Ground.data }, { on := 5, ground := Ground.guard }], guard := some (5, false) }
def stl1_o9 : Oper := { dst := some 15, op := Op.fieldAddr 55 (Operand.tmp 3) 0, type := 0, pos := "outright.go:160", after := #[{ on := 5, ground := Ground.guard }], guard := some (5, false) }
def stl1_o10 : Oper := { dst := some 16, op := Op.load 52 (Operand.tmp 15), type := 52, pos := "outright.go:160", after := #[{ on := 9, ground := Ground.data }, { on := 5, ground := Ground.guard }], guard := some (5, false) }
def stl1_o11 : Oper := { dst := some 17, op := Op.call { callee := Callee.builtin Builtin.len, args := #[Operand.tmp 16], argTypes := #[52] }, type := 3, pos := "outright.go:160", after := #[{ on := 10, ground := Ground.data }, { on := 5, ground := Ground.guard }], guard := some (5, false) }
def stl1_o12 : Oper := { dst := some 18, op := Op.binOp BinOp.neq 3 (Operand.tmp 14) (Operand.tmp 17) 3, type := 4, pos := "outright.go:160", after := #[{ on := 8, ground := Ground.data }, { on := 11, ground := Ground.data }, { on := 5, ground := Ground.guard }], guard := some (5, false) }
def stl1_o13 : Oper := { dst := some 19, op := Op.pick (Operand.tmp 11) (Operand.const (Value.bool true)) (Operand.tmp 18), type := 4, pos := "outright.go:160", after := #[{ on := 5, ground := Ground.data }, { on := 12, ground := Ground.data }], guard := none }
def stl1_ops : Array Oper := #[stl1_o0, stl1_o1, stl1_o2, stl1_o3, stl1_o4, stl1_o5, stl1_o6, stl1_o7, stl1_o8, stl1_o9, stl1_o10, stl1_o11, stl1_o12, stl1_o13]
set_option maxRecDepth 100000 in
set_option maxHeartbeats 4000000 in
theorem stl1 {ab bb n c1 c2 : Nat} {a1 a2 : Option Addr} {z : Int} (a : Act) (w : World) (Q : Exit → Act → World → Prop) (zz : a.tmps.size = 53)
    (t2 : a.tmps.getD 2 undef = .pointer (some ⟨ab, 0, none⟩))
    (t3 : a.tmps.getD 3 undef = .pointer (some ⟨bb, 0, none⟩))
    (L1 : ∀ W, W = w → (Instr.loadAt 3 (.pointer (some ⟨ab, 0 + 2, none⟩))).run Tryd.prog W = .ok (.int .i64 z) W) (L2 : ∀ W, W = w → (Instr.loadAt 3 (.pointer (some ⟨bb, 0 + 2, none⟩))).run Tryd.prog W = .ok (.int .i64 z) W) (L3 : ∀ W, W = w → (Instr.loadAt 52 (.pointer (some ⟨ab, 0 + 0, none⟩))).run Tryd.prog W = .ok (.slice a1 n c1) W) (L4 : ∀ W, W = w → (Instr.loadAt 52 (.pointer (some ⟨bb, 0 + 0, none⟩))).run Tryd.prog W = .ok (.slice a2 n c2) W)
    (h : ∀ (a' : Act) (w' : World), w' = w → a' = ((((((((((((((a).put (some 6) (.pointer (some ⟨ab, 0 + 2, none⟩))).put (some 7) (.int .i64 z)).put (some 8) (.pointer (some ⟨bb, 0 + 2, none⟩))).put (some 9) (.int .i64 z)).put (some 10) (.bool false)).put (some 11) (.bool false)).put (some 12) (.pointer (some ⟨ab, 0 + 0, none⟩))).put (some 13) (.slice a1 n c1)).put (some 14) (.int .i64 (n : Int))).put (some 15) (.pointer (some ⟨bb, 0 + 0, none⟩))).put (some 16) (.slice a2 n c2)).put (some 17) (.int .i64 (n : Int))).put (some 18) (.bool false)).put (some 19) (.bool false) → Q .normal a' w') :
    (Code.region 1 stl1_ops false).wp Tryd.prog Q a w := by
  refine z0 rfl ?_
  refine zv rfl (exec_fieldAt rfl (zi t2 rfl) (fg_55_2 _ _ _)) ?_
  refine zv rfl (exec_load rfl (zg zz rfl) (L1 _ rfl)) ?_
  refine zv rfl (exec_fieldAt rfl (zi t3 rfl) (fg_55_2 _ _ _)) ?_
  refine zv rfl (exec_load rfl (zg zz rfl) (L2 _ rfl)) ?_
  refine zv (v := .bool false) rfl (ex_nez (.inl rfl) (by simp) rfl (zg zz rfl) (zg zz rfl)) ?_
  refine zv rfl (exec_move rfl (zg zz rfl)) ?_
  refine zv (zw zz rfl rfl rfl (zg zz rfl)) (exec_fieldAt rfl (zi t2 rfl) (fg_55_0 _ _ _)) ?_
  refine zv (zw zz rfl rfl rfl (zg zz rfl)) (exec_load rfl (zg zz rfl) (L3 _ rfl)) ?_
  refine zv (zw zz rfl rfl rfl (zg zz rfl)) (exec_len rfl (zg zz rfl) (len_lle _ _ _ _ _)) ?_
  refine zv (zw zz rfl rfl rfl (zg zz rfl)) (exec_fieldAt rfl (zi t3 rfl) (fg_55_0 _ _ _)) ?_
  refine zv (zw zz rfl rfl rfl (zg zz rfl)) (exec_load rfl (zg zz rfl) (L4 _ rfl)) ?_
  refine zv (zw zz rfl rfl rfl (zg zz rfl)) (exec_len rfl (zg zz rfl) (len_lle _ _ _ _ _)) ?_
  refine zv (v := .bool false) (zw zz rfl rfl rfl (zg zz rfl)) (ex_nez (.inl rfl) (by simp) rfl (zg zz rfl) (zg zz rfl)) ?_
  refine zv rfl (exec_pickF rfl (zg zz rfl) (zg zz rfl)) ?_
  exact ze rfl (h _ _ (rfl) rfl)
def stl6_o0 : Oper := { dst := some 27, op := Op.fieldAddr 55 (Operand.tmp 2) 0, type := 0, pos := "outright.go:164", after := #[], guard := none }
def stl6_o1 : Oper := { dst := some 28, op := Op.load 52 (Operand.tmp 27), type := 52, pos := "outright.go:164", after := #[{ on := 0, ground := Ground.data }], guard := none }
def stl6_o2 : Oper := { dst := some 29, op := Op.move (Operand.tmp 5), type := 3, pos := "outright.go:164", after := #[], guard := none }
def stl6_o3 : Oper := { dst := some 30, op := Op.indexAddr 52 (Operand.tmp 28) (Operand.tmp 29), type := 0, pos := "outright.go:164", after := #[{ on := 1, ground := Ground.data }, { on := 2, ground := Ground.data }], guard := none }
def stl6_o4 : Oper := { dst := some 31, op := Op.load 44 (Operand.tmp 30), type := 44, pos := "outright.go:164", after := #[{ on := 3, ground := Ground.data }], guard := none }
def stl6_o5 : Oper := { dst := some 32, op := Op.fieldAddr 55 (Operand.tmp 3) 0, type := 0, pos := "outright.go:164", after := #[], guard := none }
def stl6_o6 : Oper := { dst := some 33, op := Op.load 52 (Operand.tmp 32), type := 52, pos := "outright.go:164", after := #[{ on := 5, ground := Ground.data }], guard := none }
def stl6_o7 : Oper := { dst := some 34, op := Op.move (Operand.tmp 5), type := 3, pos := "outright.go:164", after := #[], guard := none }
def stl6_o8 : Oper := { dst := some 35, op := Op.indexAddr 52 (Operand.tmp 33) (Operand.tmp 34), type := 0, pos := "outright.go:164", after := #[{ on := 6, ground := Ground.data }, { on := 7, ground := Ground.data }], guard := none }
def stl6_o9 : Oper := { dst := some 36, op := Op.load 44 (Operand.tmp 35), type := 44, pos := "outright.go:164", after := #[{ on := 8, ground := Ground.data }], guard := none }
def stl6_o10 : Oper := { dst := some 37, op := Op.call { callee := Callee.value (Operand.func 9), args := #[Operand.tmp 31, Operand.tmp 36], argTypes := #[44, 44] }, type := 4, pos := "outright.go:164", after := #[{ on := 4, ground := Ground.data }, { on := 9, ground := Ground.data }], guard := none }
def stl6_o11 : Oper := { dst := some 38, op := Op.unOp UnOp.not 4 (Operand.tmp 37), type := 4, pos := "outright.go:164", after := #[{ on := 10, ground := Ground.data }], guard := none }
def stl6_o12 : Oper := { dst := some 39, op := Op.move (Operand.tmp 38), type := 4, pos := "outright.go:164", after := #[{ on := 11, ground := Ground.data }, { on := 10, ground := Ground.chain }], guard := none }
def stl6_o13 : Oper := { dst := some 40, op := Op.fieldAddr 55 (Operand.tmp 2) 1, type := 0, pos := "outright.go:164", after := #[{ on := 12, ground := Ground.guard }], guard := some (12, false) }
def stl6_o14 : Oper := { dst := some 41, op := Op.load 53 (Operand.tmp 40), type := 53, pos := "outright.go:164", after := #[{ on := 13, ground := Ground.data }, { on := 12, ground := Ground.guard }], guard := some (12, false) }
def stl6_o15 : Oper := { dst := some 42, op := Op.move (Operand.tmp 5), type := 3, pos := "outright.go:164", after := #[{ on := 12, ground := Ground.guard }], guard := some (12, false) }
def stl6_o16 : Oper := { dst := some 43, op := Op.indexAddr 53 (Operand.tmp 41) (Operand.tmp 42), type := 0, pos := "outright.go:164", after := #[{ on := 14, ground := Ground.data }, { on := 15, ground := Ground.data }, { on := 12, ground := Ground.guard }], guard := some (12, false) }
def stl6_o17 : Oper := { dst := some 44, op := Op.load 77 (Operand.tmp 43), type := 77, pos := "outright.go:164", after := #[{ on := 16, ground := Ground.data }, { on := 12, ground := Ground.guard }], guard := some (12, false) }
def stl6_o18 : Oper := { dst := some 45, op := Op.fieldAddr 55 (Operand.tmp 3) 1, type := 0, pos := "outright.go:164", after := #[{ on := 12, ground := Ground.guard }], guard := some (12, false) }
def stl6_o19 : Oper := { dst := some 46, op := Op.load 53 (Operand.tmp 45), type := 53, pos := "outright.go:164", after := #[{ on := 18, ground := Ground.data }, { on := 12, ground := Ground.guard }], guard := some (12, false) }
def stl6_o20 : Oper := { dst := some 47, op := Op.move (Operand.tmp 5), type := 3, pos := "outright.go:164", after := #[{ on := 12, ground := Ground.guard }], guard := some (12, false) }
def stl6_o21 : Oper := { dst := some 48, op := Op.indexAddr 53 (Operand.tmp 46) (Operand.tmp 47), type := 0, pos := "outright.go:164", after := #[{ on := 19, ground := Ground.data }, { on := 20, ground := Ground.data }, { on := 12, ground := Ground.guard }], guard := some (12, false) }
def stl6_o22 : Oper := { dst := some 49, op := Op.load 77 (Operand.tmp 48), type := 77, pos := "outright.go:164", after := #[{ on := 21, ground := Ground.data }, { on := 12, ground := Ground.guard }], guard := some (12, false) }
def stl6_o23 : Oper := { dst := some 50, op := Op.call { callee := Callee.value (Operand.func 26), args := #[Operand.tmp 44, Operand.tmp 49], argTypes := #[77, 77] }, type := 4, pos := "outright.go:164", after := #[{ on := 17, ground := Ground.data }, { on := 22, ground := Ground.data }, { on := 12, ground := Ground.chain }, { on := 12, ground := Ground.guard }], guard := some (12, false) }
def stl6_o24 : Oper := { dst := some 51, op := Op.unOp UnOp.not 4 (Operand.tmp 50), type := 4, pos := "outright.go:164", after := #[{ on := 23, ground := Ground.data }, { on := 12, ground := Ground.guard }], guard := some (12, false) }
def stl6_o25 : Oper := { dst := some 52, op := Op.pick (Operand.tmp 39) (Operand.const (Value.bool true)) (Operand.tmp 51), type := 4, pos := "outright.go:164", after := #[{ on := 12, ground := Ground.data }, { on := 24, ground := Ground.data }], guard := none }
def stl6_ops : Array Oper := #[stl6_o0, stl6_o1, stl6_o2, stl6_o3, stl6_o4, stl6_o5, stl6_o6, stl6_o7, stl6_o8, stl6_o9, stl6_o10, stl6_o11, stl6_o12, stl6_o13, stl6_o14, stl6_o15, stl6_o16, stl6_o17, stl6_o18, stl6_o19, stl6_o20, stl6_o21, stl6_o22, stl6_o23, stl6_o24, stl6_o25]
set_option maxRecDepth 100000 in
set_option maxHeartbeats 4000000 in
theorem stl6 {ab bb g1 g2 g3 g4 n c1 c2 c3 c4 i : Nat} {u1 u2 u3 u4 : Value} (S : World → Prop) (a : Act) (w : World) (Q : Exit → Act → World → Prop) (zz : a.tmps.size = 53)
    (t2 : a.tmps.getD 2 undef = .pointer (some ⟨ab, 0, none⟩))
    (t3 : a.tmps.getD 3 undef = .pointer (some ⟨bb, 0, none⟩))
    (t5 : a.tmps.getD 5 undef = .int .i64 (i : Int))
    (hi : i < n) (hm : n ≤ 9223372036854775807) (h0 : S w.drew) (L1 : ∀ W, S W → (Instr.loadAt 52 (.pointer (some ⟨ab, 0 + 0, none⟩))).run Tryd.prog W = .ok (.slice (some ⟨g1, 0, none⟩) n c1) W) (L2 : ∀ W, S W → (Instr.loadAt 44 (.pointer (some ⟨g1, 0 + i, none⟩))).run Tryd.prog W = .ok (u1) W) (L3 : ∀ W, S W → (Instr.loadAt 52 (.pointer (some ⟨bb, 0 + 0, none⟩))).run Tryd.prog W = .ok (.slice (some ⟨g2, 0, none⟩) n c2) W) (L4 : ∀ W, S W → (Instr.loadAt 44 (.pointer (some ⟨g2, 0 + i, none⟩))).run Tryd.prog W = .ok (u2) W) (L5 : ∀ W, S W → (Instr.loadAt 53 (.pointer (some ⟨ab, 0 + 1, none⟩))).run Tryd.prog W = .ok (.slice (some ⟨g3, 0, none⟩) n c3) W) (L6 : ∀ W, S W → (Instr.loadAt 77 (.pointer (some ⟨g3, 0 + i, none⟩))).run Tryd.prog W = .ok (u3) W) (L7 : ∀ W, S W → (Instr.loadAt 53 (.pointer (some ⟨bb, 0 + 1, none⟩))).run Tryd.prog W = .ok (.slice (some ⟨g4, 0, none⟩) n c4) W) (L8 : ∀ W, S W → (Instr.loadAt 77 (.pointer (some ⟨g4, 0 + i, none⟩))).run Tryd.prog W = .ok (u4) W) (CS : Calls Tryd.prog 9 #[u1, u2] w.drew fun e w1 => e = .returned (.bool true) ∧ S w1 ∧ Calls Tryd.prog 26 #[u3, u4] w1 fun e w2 => e = .returned (.bool true) ∧ S w2)
    (h : ∀ (a' : Act) (w' : World), S w' → a' = ((((((((((((((((((((((((((a).put (some 27) (.pointer (some ⟨ab, 0 + 0, none⟩))).put (some 28) (.slice (some ⟨g1, 0, none⟩) n c1)).put (some 29) (.int .i64 (i : Int))).put (some 30) (.pointer (some ⟨g1, 0 + i, none⟩))).put (some 31) (u1)).put (some 32) (.pointer (some ⟨bb, 0 + 0, none⟩))).put (some 33) (.slice (some ⟨g2, 0, none⟩) n c2)).put (some 34) (.int .i64 (i : Int))).put (some 35) (.pointer (some ⟨g2, 0 + i, none⟩))).put (some 36) (u2)).put (some 37) (.bool true)).put (some 38) (.bool false)).put (some 39) (.bool false)).put (some 40) (.pointer (some ⟨ab, 0 + 1, none⟩))).put (some 41) (.slice (some ⟨g3, 0, none⟩) n c3)).put (some 42) (.int .i64 (i : Int))).put (some 43) (.pointer (some ⟨g3, 0 + i, none⟩))).put (some 44) (u3)).put (some 45) (.pointer (some ⟨bb, 0 + 1, none⟩))).put (some 46) (.slice (some ⟨g4, 0, none⟩) n c4)).put (some 47) (.int .i64 (i : Int))).put (some 48) (.pointer (some ⟨g4, 0 + i, none⟩))).put (some 49) (u4)).put (some 50) (.bool true)).put (some 51) (.bool false)).put (some 52) (.bool false) → Q .normal a' w') :
    (Code.region 6 stl6_ops true).wp Tryd.prog Q a w := by
  refine y0 (fun w' => S w') (h0) (fun hHeld => ?_)
  refine yv 0 rfl rfl (fun w1 hw => exec_fieldAt rfl (zi t2 rfl) (fg_55_0 _ _ _)) hHeld ?_
  refine yv 1 rfl rfl (fun w1 hw => exec_load rfl (zg zz rfl) (L1 _ hw)) hHeld ?_
  refine yv 2 rfl rfl (fun w1 hw => exec_move rfl (zi t5 rfl)) hHeld ?_
  refine yv 3 rfl rfl (fun w1 hw => exec_indexAt rfl (zg zz rfl) (zg zz rfl) (ix_lle hi hm _)) hHeld ?_
  refine yv 4 rfl rfl (fun w1 hw => exec_load rfl (zg zz rfl) (L2 _ hw)) hHeld ?_
  refine yv 5 rfl rfl (fun w1 hw => exec_fieldAt rfl (zi t3 rfl) (fg_55_0 _ _ _)) hHeld ?_
  refine yv 6 rfl rfl (fun w1 hw => exec_load rfl (zg zz rfl) (L3 _ hw)) hHeld ?_
  refine yv 7 rfl rfl (fun w1 hw => exec_move rfl (zi t5 rfl)) hHeld ?_
  refine yv 8 rfl rfl (fun w1 hw => exec_indexAt rfl (zg zz rfl) (zg zz rfl) (ix_lle hi hm _)) hHeld ?_
  refine yv 9 rfl rfl (fun w1 hw => exec_load rfl (zg zz rfl) (L4 _ hw)) hHeld ?_
  refine yc 10 rfl rfl (exec_c2 rfl (zg zz rfl) (zg zz rfl)) (CS) (fun e x10 hx => ?_)
  obtain ⟨rfl, S1, CT⟩ := hx
  refine ⟨_, rfl, S1, fun hHeld => ?_⟩
  refine yv 11 rfl rfl (fun w1 hw => exec_not rfl (zg zz rfl)) hHeld ?_
  refine yv 12 rfl rfl (fun w1 hw => exec_move rfl (zg zz rfl)) hHeld ?_
  refine yv 13 rfl (zw zz rfl rfl rfl (zg zz rfl)) (fun w1 hw => exec_fieldAt rfl (zi t2 rfl) (fg_55_1 _ _ _)) hHeld ?_
  refine yv 14 rfl (zw zz rfl rfl rfl (zg zz rfl)) (fun w1 hw => exec_load rfl (zg zz rfl) (L5 _ hw)) hHeld ?_
  refine yv 15 rfl (zw zz rfl rfl rfl (zg zz rfl)) (fun w1 hw => exec_move rfl (zi t5 rfl)) hHeld ?_
  refine yv 16 rfl (zw zz rfl rfl rfl (zg zz rfl)) (fun w1 hw => exec_indexAt rfl (zg zz rfl) (zg zz rfl) (ix_lls hi hm _)) hHeld ?_
  refine yv 17 rfl (zw zz rfl rfl rfl (zg zz rfl)) (fun w1 hw => exec_load rfl (zg zz rfl) (L6 _ hw)) hHeld ?_
  refine yv 18 rfl (zw zz rfl rfl rfl (zg zz rfl)) (fun w1 hw => exec_fieldAt rfl (zi t3 rfl) (fg_55_1 _ _ _)) hHeld ?_
  refine yv 19 rfl (zw zz rfl rfl rfl (zg zz rfl)) (fun w1 hw => exec_load rfl (zg zz rfl) (L7 _ hw)) hHeld ?_
  refine yv 20 rfl (zw zz rfl rfl rfl (zg zz rfl)) (fun w1 hw => exec_move rfl (zi t5 rfl)) hHeld ?_
  refine yv 21 rfl (zw zz rfl rfl rfl (zg zz rfl)) (fun w1 hw => exec_indexAt rfl (zg zz rfl) (zg zz rfl) (ix_lls hi hm _)) hHeld ?_
  refine yv 22 rfl (zw zz rfl rfl rfl (zg zz rfl)) (fun w1 hw => exec_load rfl (zg zz rfl) (L8 _ hw)) hHeld ?_
  refine yc 23 rfl (zw zz rfl rfl rfl (zg zz rfl)) (exec_c2 rfl (zg zz rfl) (zg zz rfl)) (CT) (fun e x23 hx => ?_)
  obtain ⟨rfl, S2⟩ := hx
  refine ⟨_, rfl, S2, fun hHeld => ?_⟩
  refine yv 24 rfl (zw zz rfl rfl rfl (zg zz rfl)) (fun w1 hw => exec_not rfl (zg zz rfl)) hHeld ?_
  refine yv 25 rfl rfl (fun w1 hw => exec_pickF rfl (zg zz rfl) (zg zz rfl)) hHeld ?_
  exact ye rfl (h _ _ (S2) rfl)
def bck12_o0 : Oper := { dst := some 33, op := Op.move (Operand.tmp 8), type := 51, pos := "outright.go:190", after := #[], guard := none }
def bck12_o1 : Oper := { dst := some 34, op := Op.move (Operand.tmp 7), type := 25, pos := "outright.go:190", after := #[], guard := none }
def bck12_o2 : Oper := { dst := some 35, op := Op.move (Operand.tmp 3), type := 22, pos := "outright.go:190", after := #[], guard := none }
def bck12_o3 : Oper := { dst := some 36, op := Op.move (Operand.tmp 4), type := 23, pos := "outright.go:190", after := #[], guard := none }
def bck12_o4 : Oper := { dst := some 37, op := Op.move (Operand.tmp 9), type := 3, pos := "outright.go:190", after := #[], guard := none }
def bck12_o5 : Oper := { dst := some 38, op := Op.call { callee := Callee.value (Operand.func 7), args := #[Operand.tmp 34, Operand.tmp 35, Operand.tmp 36, Operand.tmp 37], argTypes := #[25, 22, 23, 3] }, type := 27, pos := "outright.go:190", after := #[{ on := 1, ground := Ground.data }, { on := 2, ground := Ground.data }, { on := 3, ground := Ground.data }, { on := 4, ground := Ground.data }], guard := none }
def bck12_o6 : Oper := { dst := some 39, op := Op.buildSlice 51 1 #[(0, Operand.tmp 38)], type := 51, pos := "outright.go:190", after := #[{ on := 5, ground := Ground.data }], guard := none }
def bck12_o7 : Oper := { dst := some 40, op := Op.call { callee := Callee.builtin Builtin.append, args := #[Operand.tmp 33, Operand.tmp 39], argTypes := #[51, 51] }, type := 51, pos := "outright.go:190", after := #[{ on := 0, ground := Ground.data }, { on := 6, ground := Ground.data }, { on := 5, ground := Ground.chain }], guard := none }
def bck12_o8 : Oper := { dst := some 8, op := Op.assign (Operand.tmp 40), type := 51, pos := "outright.go:190", after := #[{ on := 7, ground := Ground.data }, { on := 7, ground := Ground.chain }, { on := 0, ground := Ground.phase }, { on := 1, ground := Ground.phase }, { on := 2, ground := Ground.phase }, { on := 3, ground := Ground.phase }, { on := 4, ground := Ground.phase }, { on := 5, ground := Ground.phase }, { on := 6, ground := Ground.phase }, { on := 7, ground := Ground.phase }], guard := none }
def bck12_ops : Array Oper := #[bck12_o0, bck12_o1, bck12_o2, bck12_o3, bck12_o4, bck12_o5, bck12_o6, bck12_o7, bck12_o8]
set_option maxRecDepth 100000 in
set_option maxHeartbeats 4000000 in
theorem bck12 {ro n sc i pn pc : Nat} {pa sa : Option Addr} {bv : Value} (Fin : Nat → Value → World → Prop) (a : Act) (w : World) (Q : Exit → Act → World → Prop) (zz : a.tmps.size = 162)
    (t3 : a.tmps.getD 3 undef = .slice pa pn pc)
    (t4 : a.tmps.getD 4 undef = .slice sa n sc)
    (t7 : a.tmps.getD 7 undef = .pointer (some ⟨ro, 0, none⟩))
    (t8 : a.tmps.getD 8 undef = bv)
    (t9 : a.tmps.getD 9 undef = .int .i64 (i : Int))
    (CD : Calls Tryd.prog 7 #[.pointer (some ⟨ro, 0, none⟩), .slice pa pn pc, .slice sa n sc, .int .i64 (i : Int)] w fun e w' => ∃ bk, e = .returned (.pointer (some ⟨bk, 0, none⟩)) ∧ ∃ sv w1 u2 w2, (Instr.buildSlice 51 1 #[(0, .pointer (some ⟨bk, 0, none⟩))]).run Tryd.prog w' = .ok sv w1 ∧ (Builtin.append_ #[51, 51] 51 #[bv, sv]).run Tryd.prog w1 = .ok u2 w2 ∧ Fin bk u2 w2)
    (h : ∀ (bk : Nat) (sv u2 : Value) (a' : Act) (w' : World), Fin bk u2 w' → a' = (((((((((a).put (some 33) (bv)).put (some 34) (.pointer (some ⟨ro, 0, none⟩))).put (some 35) (.slice pa pn pc)).put (some 36) (.slice sa n sc)).put (some 37) (.int .i64 (i : Int))).put (some 38) (.pointer (some ⟨bk, 0, none⟩))).put (some 39) (sv)).put (some 40) (u2)).put (some 8) (u2) → Q .normal a' w') :
    (Code.region 12 bck12_ops false).wp Tryd.prog Q a w := by
  refine z0 rfl ?_
  refine zv rfl (exec_move rfl (zi t8 rfl)) ?_
  refine zv rfl (exec_move rfl (zi t7 rfl)) ?_
  refine zv rfl (exec_move rfl (zi t3 rfl)) ?_
  refine zv rfl (exec_move rfl (zi t4 rfl)) ?_
  refine zv rfl (exec_move rfl (zi t9 rfl)) ?_
  refine zc rfl (exec_c4 rfl (zg zz rfl) (zg zz rfl) (zg zz rfl) (zg zz rfl)) (CD) (fun e x5 hx => ?_)
  obtain ⟨bk, rfl, sv, w1, u2, w2, EB, EA, HF⟩ := hx
  replace h := h bk sv u2
  refine ⟨_, rfl, ?_⟩
  refine zv (v := sv) rfl (exec_buildSlice rfl (zg zz rfl) EB) ?_
  refine zv (v := u2) rfl (exec_append rfl (zg zz rfl) (zg zz rfl) EA) ?_
  refine zv rfl (exec_assign rfl (zg zz rfl)) ?_
  exact ze rfl (h _ _ (HF) rfl)
def bck19_o0 : Oper := { dst := some 57, op := Op.move (Operand.tmp 12), type := 51, pos := "outright.go:196", after := #[], guard := none }
def bck19_o1 : Oper := { dst := some 58, op := Op.move (Operand.tmp 7), type := 25, pos := "outright.go:196", after := #[], guard := none }
def bck19_o2 : Oper := { dst := some 59, op := Op.move (Operand.tmp 3), type := 22, pos := "outright.go:196", after := #[], guard := none }
def bck19_o3 : Oper := { dst := some 60, op := Op.move (Operand.tmp 11), type := 23, pos := "outright.go:196", after := #[], guard := none }
def bck19_o4 : Oper := { dst := some 61, op := Op.move (Operand.tmp 13), type := 3, pos := "outright.go:196", after := #[], guard := none }
def bck19_o5 : Oper := { dst := some 62, op := Op.call { callee := Callee.value (Operand.func 7), args := #[Operand.tmp 58, Operand.tmp 59, Operand.tmp 60, Operand.tmp 61], argTypes := #[25, 22, 23, 3] }, type := 27, pos := "outright.go:196", after := #[{ on := 1, ground := Ground.data }, { on := 2, ground := Ground.data }, { on := 3, ground := Ground.data }, { on := 4, ground := Ground.data }], guard := none }
def bck19_o6 : Oper := { dst := some 63, op := Op.buildSlice 51 1 #[(0, Operand.tmp 62)], type := 51, pos := "outright.go:196", after := #[{ on := 5, ground := Ground.data }], guard := none }
def bck19_o7 : Oper := { dst := some 64, op := Op.call { callee := Callee.builtin Builtin.append, args := #[Operand.tmp 57, Operand.tmp 63], argTypes := #[51, 51] }, type := 51, pos := "outright.go:196", after := #[{ on := 0, ground := Ground.data }, { on := 6, ground := Ground.data }, { on := 5, ground := Ground.chain }], guard := none }
def bck19_o8 : Oper := { dst := some 12, op := Op.assign (Operand.tmp 64), type := 51, pos := "outright.go:196", after := #[{ on := 7, ground := Ground.data }, { on := 7, ground := Ground.chain }, { on := 0, ground := Ground.phase }, { on := 1, ground := Ground.phase }, { on := 2, ground := Ground.phase }, { on := 3, ground := Ground.phase }, { on := 4, ground := Ground.phase }, { on := 5, ground := Ground.phase }, { on := 6, ground := Ground.phase }, { on := 7, ground := Ground.phase }], guard := none }
def bck19_ops : Array Oper := #[bck19_o0, bck19_o1, bck19_o2, bck19_o3, bck19_o4, bck19_o5, bck19_o6, bck19_o7, bck19_o8]
set_option maxRecDepth 100000 in
set_option maxHeartbeats 4000000 in
theorem bck19 {ro n sc i pn pc : Nat} {pa sa : Option Addr} {bv : Value} (Fin : Nat → Value → World → Prop) (a : Act) (w : World) (Q : Exit → Act → World → Prop) (zz : a.tmps.size = 162)
    (t3 : a.tmps.getD 3 undef = .slice pa pn pc)
    (t11 : a.tmps.getD 11 undef = .slice sa n sc)
    (t7 : a.tmps.getD 7 undef = .pointer (some ⟨ro, 0, none⟩))
    (t12 : a.tmps.getD 12 undef = bv)
    (t13 : a.tmps.getD 13 undef = .int .i64 (i : Int))
    (CD : Calls Tryd.prog 7 #[.pointer (some ⟨ro, 0, none⟩), .slice pa pn pc, .slice sa n sc, .int .i64 (i : Int)] w fun e w' => ∃ bk, e = .returned (.pointer (some ⟨bk, 0, none⟩)) ∧ ∃ sv w1 u2 w2, (Instr.buildSlice 51 1 #[(0, .pointer (some ⟨bk, 0, none⟩))]).run Tryd.prog w' = .ok sv w1 ∧ (Builtin.append_ #[51, 51] 51 #[bv, sv]).run Tryd.prog w1 = .ok u2 w2 ∧ Fin bk u2 w2)
    (h : ∀ (bk : Nat) (sv u2 : Value) (a' : Act) (w' : World), Fin bk u2 w' → a' = (((((((((a).put (some 57) (bv)).put (some 58) (.pointer (some ⟨ro, 0, none⟩))).put (some 59) (.slice pa pn pc)).put (some 60) (.slice sa n sc)).put (some 61) (.int .i64 (i : Int))).put (some 62) (.pointer (some ⟨bk, 0, none⟩))).put (some 63) (sv)).put (some 64) (u2)).put (some 12) (u2) → Q .normal a' w') :
    (Code.region 19 bck19_ops false).wp Tryd.prog Q a w := by
  refine z0 rfl ?_
  refine zv rfl (exec_move rfl (zi t12 rfl)) ?_
  refine zv rfl (exec_move rfl (zi t7 rfl)) ?_
  refine zv rfl (exec_move rfl (zi t3 rfl)) ?_
  refine zv rfl (exec_move rfl (zi t11 rfl)) ?_
  refine zv rfl (exec_move rfl (zi t13 rfl)) ?_
  refine zc rfl (exec_c4 rfl (zg zz rfl) (zg zz rfl) (zg zz rfl) (zg zz rfl)) (CD) (fun e x5 hx => ?_)
  obtain ⟨bk, rfl, sv, w1, u2, w2, EB, EA, HF⟩ := hx
  replace h := h bk sv u2
  refine ⟨_, rfl, ?_⟩
  refine zv (v := sv) rfl (exec_buildSlice rfl (zg zz rfl) EB) ?_
  refine zv (v := u2) rfl (exec_append rfl (zg zz rfl) (zg zz rfl) EA) ?_
  refine zv rfl (exec_assign rfl (zg zz rfl)) ?_
  exact ze rfl (h _ _ (HF) rfl)
def bck13_o0 : Oper := { dst := some 41, op := Op.move (Operand.tmp 7), type := 25, pos := "outright.go:192", after := #[], guard := none }
def bck13_o1 : Oper := { dst := some 42, op := Op.move (Operand.tmp 3), type := 22, pos := "outright.go:192", after := #[], guard := none }
def bck13_o2 : Oper := { dst := some 43, op := Op.call { callee := Callee.value (Operand.func 12), args := #[Operand.tmp 41, Operand.tmp 42], argTypes := #[25, 22] }, type := 55, pos := "outright.go:192", after := #[{ on := 0, ground := Ground.data }, { on := 1, ground := Ground.data }], guard := none }
def bck13_o3 : Oper := { dst := some 10, op := Op.alloc 55, type := 0, pos := "outright.go:192", after := #[], guard := none }
def bck13_o4 : Oper := { dst := none, op := Op.store 55 (Operand.tmp 10) (Operand.tmp 43), type := 0, pos := "outright.go:192", after := #[{ on := 3, ground := Ground.data }, { on := 2, ground := Ground.data }, { on := 2, ground := Ground.chain }, { on := 0, ground := Ground.phase }, { on := 1, ground := Ground.phase }, { on := 2, ground := Ground.phase }, { on := 3, ground := Ground.phase }], guard := none }
def bck13_ops : Array Oper := #[bck13_o0, bck13_o1, bck13_o2, bck13_o3, bck13_o4]
set_option maxRecDepth 100000 in
set_option maxHeartbeats 4000000 in
theorem bck13 {ro pn pc : Nat} {pa : Option Addr} (Fin : Value → Nat → World → Prop) (a : Act) (w : World) (Q : Exit → Act → World → Prop) (zz : a.tmps.size = 162)
    (t3 : a.tmps.getD 3 undef = .slice pa pn pc)
    (t7 : a.tmps.getD 7 undef = .pointer (some ⟨ro, 0, none⟩))
    (CT : Calls Tryd.prog 12 #[.pointer (some ⟨ro, 0, none⟩), .slice pa pn pc] w fun e w' => ∃ tv, e = .returned tv ∧ ∃ wb w1 w2, (Instr.alloc 55 true (.tuple #[])).run Tryd.prog w' = .ok (.pointer (some ⟨wb, 0, none⟩)) w1 ∧ (Instr.storeAt 55 (.pointer (some ⟨wb, 0, none⟩)) tv).run Tryd.prog w1 = .ok () w2 ∧ Fin tv wb w2)
    (h : ∀ (tv : Value) (wb : Nat) (a' : Act) (w' : World), Fin tv wb w' → a' = ((((a).put (some 41) (.pointer (some ⟨ro, 0, none⟩))).put (some 42) (.slice pa pn pc)).put (some 43) (tv)).put (some 10) (.pointer (some ⟨wb, 0, none⟩)) → Q .normal a' w') :
    (Code.region 13 bck13_ops false).wp Tryd.prog Q a w := by
  refine z0 rfl ?_
  refine zv rfl (exec_move rfl (zi t7 rfl)) ?_
  refine zv rfl (exec_move rfl (zi t3 rfl)) ?_
  refine zc rfl (exec_c2 rfl (zg zz rfl) (zg zz rfl)) (CT) (fun e x2 hx => ?_)
  obtain ⟨tv, rfl, wb, w1, w2, EA, ES, HF⟩ := hx
  replace h := h tv wb
  refine ⟨_, rfl, ?_⟩
  refine zv (v := .pointer (some ⟨wb, 0, none⟩)) rfl (exec_alloc rfl EA) ?_
  refine zs rfl (exec_store rfl (zg zz rfl) (zg zz rfl) ES) ?_
  exact ze rfl (h _ _ (HF) rfl)
def bck14_o0 : Oper := { dst := some 44, op := Op.buildSlice 23 0 #[], type := 23, pos := "outright.go:193", after := #[], guard := none }
def bck14_o1 : Oper := { dst := some 45, op := Op.move (Operand.tmp 4), type := 23, pos := "outright.go:193", after := #[], guard := none }
def bck14_o2 : Oper := { dst := some 46, op := Op.call { callee := Callee.builtin Builtin.append, args := #[Operand.tmp 44, Operand.tmp 45], argTypes := #[23, 23] }, type := 23, pos := "outright.go:193", after := #[{ on := 0, ground := Ground.data }, { on := 1, ground := Ground.data }], guard := none }
def bck14_o3 : Oper := { dst := some 47, op := Op.move (Operand.tmp 5), type := 23, pos := "outright.go:193", after := #[], guard := none }
def bck14_o4 : Oper := { dst := some 48, op := Op.call { callee := Callee.builtin Builtin.append, args := #[Operand.tmp 46, Operand.tmp 47], argTypes := #[23, 23] }, type := 23, pos := "outright.go:193", after := #[{ on := 2, ground := Ground.data }, { on := 3, ground := Ground.data }, { on := 2, ground := Ground.chain }], guard := none }
def bck14_o5 : Oper := { dst := some 11, op := Op.assign (Operand.tmp 48), type := 23, pos := "outright.go:193", after := #[{ on := 4, ground := Ground.data }, { on := 4, ground := Ground.chain }, { on := 0, ground := Ground.phase }, { on := 1, ground := Ground.phase }, { on := 2, ground := Ground.phase }, { on := 3, ground := Ground.phase }, { on := 4, ground := Ground.phase }], guard := none }
def bck14_ops : Array Oper := #[bck14_o0, bck14_o1, bck14_o2, bck14_o3, bck14_o4, bck14_o5]
set_option maxRecDepth 100000 in
set_option maxHeartbeats 4000000 in
theorem bck14 {lv mv e0 u1 u2 : Value} {w1 w2 w3 : World} (a : Act) (w : World) (Q : Exit → Act → World → Prop) (zz : a.tmps.size = 162)
    (t4 : a.tmps.getD 4 undef = lv)
    (t5 : a.tmps.getD 5 undef = mv)
    (E0 : (Instr.buildSlice 23 0 #[]).run Tryd.prog w = .ok e0 w1) (E1 : (Builtin.append_ #[23, 23] 23 #[e0, lv]).run Tryd.prog w1 = .ok u1 w2) (E2 : (Builtin.append_ #[23, 23] 23 #[u1, mv]).run Tryd.prog w2 = .ok u2 w3)
    (h : ∀ (a' : Act) (w' : World), w' = w3 → a' = ((((((a).put (some 44) (e0)).put (some 45) (lv)).put (some 46) (u1)).put (some 47) (mv)).put (some 48) (u2)).put (some 11) (u2) → Q .normal a' w') :
    (Code.region 14 bck14_ops false).wp Tryd.prog Q a w := by
  refine z0 rfl ?_
  refine zv (v := e0) rfl (exec_bs0 rfl E0) ?_
  refine zv rfl (exec_move rfl (zi t4 rfl)) ?_
  refine zv (v := u1) rfl (exec_append rfl (zg zz rfl) (zg zz rfl) E1) ?_
  refine zv rfl (exec_move rfl (zi t5 rfl)) ?_
  refine zv (v := u2) rfl (exec_append rfl (zg zz rfl) (zg zz rfl) E2) ?_
  refine zv rfl (exec_assign rfl (zg zz rfl)) ?_
  exact ze rfl (h _ _ (rfl) rfl)
def bck20n_o0 : Oper := { dst := some 65, op := Op.move (Operand.tmp 13), type := 3, pos := "outright.go:197", after := #[], guard := none }
def bck20n_o1 : Oper := { dst := some 66, op := Op.move (Operand.tmp 4), type := 23, pos := "outright.go:197", after := #[], guard := none }
def bck20n_o2 : Oper := { dst := some 67, op := Op.call { callee := Callee.builtin Builtin.len, args := #[Operand.tmp 66], argTypes := #[23] }, type := 3, pos := "outright.go:197", after := #[{ on := 1, ground := Ground.data }], guard := none }
def bck20n_o3 : Oper := { dst := some 68, op := Op.binOp BinOp.sub 3 (Operand.tmp 65) (Operand.tmp 67) 3, type := 3, pos := "outright.go:197", after := #[{ on := 0, ground := Ground.data }, { on := 2, ground := Ground.data }], guard := none }
def bck20n_o4 : Oper := { dst := some 69, op := Op.move (Operand.tmp 6), type := 48, pos := "outright.go:197", after := #[], guard := none }
def bck20n_o5 : Oper := { dst := some 70, op := Op.call { callee := Callee.builtin Builtin.len, args := #[Operand.tmp 69], argTypes := #[48] }, type := 3, pos := "outright.go:197", after := #[{ on := 4, ground := Ground.data }], guard := none }
def bck20n_o6 : Oper := { dst := some 71, op := Op.binOp BinOp.lss 3 (Operand.tmp 68) (Operand.tmp 70) 3, type := 4, pos := "outright.go:197", after := #[{ on := 3, ground := Ground.data }, { on := 5, ground := Ground.data }], guard := none }
def bck20n_o7 : Oper := { dst := some 72, op := Op.move (Operand.tmp 71), type := 4, pos := "outright.go:197", after := #[{ on := 6, ground := Ground.data }], guard := none }
def bck20n_o8 : Oper := { dst := some 73, op := Op.move (Operand.tmp 6), type := 48, pos := "outright.go:197", after := #[{ on := 7, ground := Ground.guard }], guard := some (7, true) }
def bck20n_o9 : Oper := { dst := some 74, op := Op.move (Operand.tmp 13), type := 3, pos := "outright.go:197", after := #[{ on := 7, ground := Ground.guard }], guard := some (7, true) }
def bck20n_o10 : Oper := { dst := some 75, op := Op.move (Operand.tmp 4), type := 23, pos := "outright.go:197", after := #[{ on := 7, ground := Ground.guard }], guard := some (7, true) }
def bck20n_o11 : Oper := { dst := some 76, op := Op.call { callee := Callee.builtin Builtin.len, args := #[Operand.tmp 75], argTypes := #[23] }, type := 3, pos := "outright.go:197", after := #[{ on := 10, ground := Ground.data }, { on := 7, ground := Ground.guard }], guard := some (7, true) }
def bck20n_o12 : Oper := { dst := some 77, op := Op.binOp BinOp.sub 3 (Operand.tmp 74) (Operand.tmp 76) 3, type := 3, pos := "outright.go:197", after := #[{ on := 9, ground := Ground.data }, { on := 11, ground := Ground.data }, { on := 7, ground := Ground.guard }], guard := some (7, true) }
def bck20n_o13 : Oper := { dst := some 78, op := Op.indexAddr 48 (Operand.tmp 73) (Operand.tmp 77), type := 0, pos := "outright.go:197", after := #[{ on := 8, ground := Ground.data }, { on := 12, ground := Ground.data }, { on := 7, ground := Ground.guard }], guard := some (7, true) }
def bck20n_o14 : Oper := { dst := some 79, op := Op.load 4 (Operand.tmp 78), type := 4, pos := "outright.go:197", after := #[{ on := 13, ground := Ground.data }, { on := 7, ground := Ground.guard }], guard := some (7, true) }
def bck20n_o15 : Oper := { dst := some 80, op := Op.pick (Operand.tmp 72) (Operand.tmp 79) (Operand.const (Value.bool false)), type := 4, pos := "outright.go:197", after := #[{ on := 7, ground := Ground.data }, { on := 14, ground := Ground.data }], guard := none }
def bck20n_ops : Array Oper := #[bck20n_o0, bck20n_o1, bck20n_o2, bck20n_o3, bck20n_o4, bck20n_o5, bck20n_o6, bck20n_o7, bck20n_o8, bck20n_o9, bck20n_o10, bck20n_o11, bck20n_o12, bck20n_o13, bck20n_o14, bck20n_o15]
set_option maxRecDepth 100000 in
set_option maxHeartbeats 4000000 in
theorem bck20n {n sc i k un uc : Nat} {sa ua : Option Addr} (a : Act) (w : World) (Q : Exit → Act → World → Prop) (zz : a.tmps.size = 162)
    (t4 : a.tmps.getD 4 undef = .slice sa n sc)
    (t6 : a.tmps.getD 6 undef = .slice ua un uc)
    (t13 : a.tmps.getD 13 undef = .int .i64 (i : Int))
    (hk : n + k = i) (hb : i ≤ 9000000000000) (hr : decide (k < un) = false)
    (h : ∀ (a' : Act) (w' : World), w' = w → a' = ((((((((((((((((a).put (some 65) (.int .i64 (i : Int))).put (some 66) (.slice sa n sc)).put (some 67) (.int .i64 (n : Int))).put (some 68) (.int .i64 (k : Int))).put (some 69) (.slice ua un uc)).put (some 70) (.int .i64 (un : Int))).put (some 71) (.bool false)).put (some 72) (.bool false)).put (some 73) (undef)).put (some 74) (undef)).put (some 75) (undef)).put (some 76) (undef)).put (some 77) (undef)).put (some 78) (undef)).put (some 79) (undef)).put (some 80) (.bool false) → Q .normal a' w') :
    (Code.region 20 bck20n_ops false).wp Tryd.prog Q a w := by
  refine z0 rfl ?_
  refine zv rfl (exec_move rfl (zi t13 rfl)) ?_
  refine zv rfl (exec_move rfl (zi t4 rfl)) ?_
  refine zv rfl (exec_len rfl (zg zz rfl) (len_syl _ _ _ _ _)) ?_
  refine zv (v := .int .i64 (k : Int)) rfl (ex_subb hk hb rfl (zg zz rfl) (zg zz rfl)) ?_
  refine zv rfl (exec_move rfl (zi t6 rfl)) ?_
  refine zv rfl (exec_len rfl (zg zz rfl) (len_ul _ _ _ _ _)) ?_
  refine zv (v := .bool false) rfl (ex_lssb hr rfl (zg zz rfl) (zg zz rfl)) ?_
  refine zv rfl (exec_move rfl (zg zz rfl)) ?_
  refine zn (zx zz rfl rfl rfl (zg zz rfl)) ?_
  refine zn (zx zz rfl rfl rfl (zg zz rfl)) ?_
  refine zn (zx zz rfl rfl rfl (zg zz rfl)) ?_
  refine zn (zx zz rfl rfl rfl (zg zz rfl)) ?_
  refine zn (zx zz rfl rfl rfl (zg zz rfl)) ?_
  refine zn (zx zz rfl rfl rfl (zg zz rfl)) ?_
  refine zn (zx zz rfl rfl rfl (zg zz rfl)) ?_
  refine zv rfl (exec_pickF rfl (zg zz rfl) rfl) ?_
  exact ze rfl (h _ _ (rfl) rfl)
def bck20y_o0 : Oper := { dst := some 65, op := Op.move (Operand.tmp 13), type := 3, pos := "outright.go:197", after := #[], guard := none }
def bck20y_o1 : Oper := { dst := some 66, op := Op.move (Operand.tmp 4), type := 23, pos := "outright.go:197", after := #[], guard := none }
def bck20y_o2 : Oper := { dst := some 67, op := Op.call { callee := Callee.builtin Builtin.len, args := #[Operand.tmp 66], argTypes := #[23] }, type := 3, pos := "outright.go:197", after := #[{ on := 1, ground := Ground.data }], guard := none }
def bck20y_o3 : Oper := { dst := some 68, op := Op.binOp BinOp.sub 3 (Operand.tmp 65) (Operand.tmp 67) 3, type := 3, pos := "outright.go:197", after := #[{ on := 0, ground := Ground.data }, { on := 2, ground := Ground.data }], guard := none }
def bck20y_o4 : Oper := { dst := some 69, op := Op.move (Operand.tmp 6), type := 48, pos := "outright.go:197", after := #[], guard := none }
def bck20y_o5 : Oper := { dst := some 70, op := Op.call { callee := Callee.builtin Builtin.len, args := #[Operand.tmp 69], argTypes := #[48] }, type := 3, pos := "outright.go:197", after := #[{ on := 4, ground := Ground.data }], guard := none }
def bck20y_o6 : Oper := { dst := some 71, op := Op.binOp BinOp.lss 3 (Operand.tmp 68) (Operand.tmp 70) 3, type := 4, pos := "outright.go:197", after := #[{ on := 3, ground := Ground.data }, { on := 5, ground := Ground.data }], guard := none }
def bck20y_o7 : Oper := { dst := some 72, op := Op.move (Operand.tmp 71), type := 4, pos := "outright.go:197", after := #[{ on := 6, ground := Ground.data }], guard := none }
def bck20y_o8 : Oper := { dst := some 73, op := Op.move (Operand.tmp 6), type := 48, pos := "outright.go:197", after := #[{ on := 7, ground := Ground.guard }], guard := some (7, true) }
def bck20y_o9 : Oper := { dst := some 74, op := Op.move (Operand.tmp 13), type := 3, pos := "outright.go:197", after := #[{ on := 7, ground := Ground.guard }], guard := some (7, true) }
def bck20y_o10 : Oper := { dst := some 75, op := Op.move (Operand.tmp 4), type := 23, pos := "outright.go:197", after := #[{ on := 7, ground := Ground.guard }], guard := some (7, true) }
def bck20y_o11 : Oper := { dst := some 76, op := Op.call { callee := Callee.builtin Builtin.len, args := #[Operand.tmp 75], argTypes := #[23] }, type := 3, pos := "outright.go:197", after := #[{ on := 10, ground := Ground.data }, { on := 7, ground := Ground.guard }], guard := some (7, true) }
def bck20y_o12 : Oper := { dst := some 77, op := Op.binOp BinOp.sub 3 (Operand.tmp 74) (Operand.tmp 76) 3, type := 3, pos := "outright.go:197", after := #[{ on := 9, ground := Ground.data }, { on := 11, ground := Ground.data }, { on := 7, ground := Ground.guard }], guard := some (7, true) }
def bck20y_o13 : Oper := { dst := some 78, op := Op.indexAddr 48 (Operand.tmp 73) (Operand.tmp 77), type := 0, pos := "outright.go:197", after := #[{ on := 8, ground := Ground.data }, { on := 12, ground := Ground.data }, { on := 7, ground := Ground.guard }], guard := some (7, true) }
def bck20y_o14 : Oper := { dst := some 79, op := Op.load 4 (Operand.tmp 78), type := 4, pos := "outright.go:197", after := #[{ on := 13, ground := Ground.data }, { on := 7, ground := Ground.guard }], guard := some (7, true) }
def bck20y_o15 : Oper := { dst := some 80, op := Op.pick (Operand.tmp 72) (Operand.tmp 79) (Operand.const (Value.bool false)), type := 4, pos := "outright.go:197", after := #[{ on := 7, ground := Ground.data }, { on := 14, ground := Ground.data }], guard := none }
def bck20y_ops : Array Oper := #[bck20y_o0, bck20y_o1, bck20y_o2, bck20y_o3, bck20y_o4, bck20y_o5, bck20y_o6, bck20y_o7, bck20y_o8, bck20y_o9, bck20y_o10, bck20y_o11, bck20y_o12, bck20y_o13, bck20y_o14, bck20y_o15]
set_option maxRecDepth 100000 in
set_option maxHeartbeats 4000000 in
theorem bck20y {n sc i k ug uo un uc : Nat} {sa : Option Addr} {r : Bool} (a : Act) (w : World) (Q : Exit → Act → World → Prop) (zz : a.tmps.size = 162)
    (t4 : a.tmps.getD 4 undef = .slice sa n sc)
    (t6 : a.tmps.getD 6 undef = .slice (some ⟨ug, uo, none⟩) un uc)
    (t13 : a.tmps.getD 13 undef = .int .i64 (i : Int))
    (hs : n + k = i) (hb : i ≤ 9000000000000) (hk : k < un) (hm : un ≤ 9223372036854775807) (LB : ∀ W, W = w → (Instr.loadAt 4 (.pointer (some ⟨ug, uo + k, none⟩))).run Tryd.prog W = .ok (.bool r) W)
    (h : ∀ (a' : Act) (w' : World), w' = w → a' = ((((((((((((((((a).put (some 65) (.int .i64 (i : Int))).put (some 66) (.slice sa n sc)).put (some 67) (.int .i64 (n : Int))).put (some 68) (.int .i64 (k : Int))).put (some 69) (.slice (some ⟨ug, uo, none⟩) un uc)).put (some 70) (.int .i64 (un : Int))).put (some 71) (.bool true)).put (some 72) (.bool true)).put (some 73) (.slice (some ⟨ug, uo, none⟩) un uc)).put (some 74) (.int .i64 (i : Int))).put (some 75) (.slice sa n sc)).put (some 76) (.int .i64 (n : Int))).put (some 77) (.int .i64 (k : Int))).put (some 78) (.pointer (some ⟨ug, uo + k, none⟩))).put (some 79) (.bool r)).put (some 80) (.bool r) → Q .normal a' w') :
    (Code.region 20 bck20y_ops false).wp Tryd.prog Q a w := by
  refine z0 rfl ?_
  refine zv rfl (exec_move rfl (zi t13 rfl)) ?_
  refine zv rfl (exec_move rfl (zi t4 rfl)) ?_
  refine zv rfl (exec_len rfl (zg zz rfl) (len_syl _ _ _ _ _)) ?_
  refine zv (v := .int .i64 (k : Int)) rfl (ex_subb hs hb rfl (zg zz rfl) (zg zz rfl)) ?_
  refine zv rfl (exec_move rfl (zi t6 rfl)) ?_
  refine zv rfl (exec_len rfl (zg zz rfl) (len_ul _ _ _ _ _)) ?_
  refine zv (v := .bool true) rfl (ex_lssb (decide_eq_true hk) rfl (zg zz rfl) (zg zz rfl)) ?_
  refine zv rfl (exec_move rfl (zg zz rfl)) ?_
  refine zv (zw zz rfl rfl rfl (zg zz rfl)) (exec_move rfl (zi t6 rfl)) ?_
  refine zv (zw zz rfl rfl rfl (zg zz rfl)) (exec_move rfl (zi t13 rfl)) ?_
  refine zv (zw zz rfl rfl rfl (zg zz rfl)) (exec_move rfl (zi t4 rfl)) ?_
  refine zv (zw zz rfl rfl rfl (zg zz rfl)) (exec_len rfl (zg zz rfl) (len_syl _ _ _ _ _)) ?_
  refine zv (v := .int .i64 (k : Int)) (zw zz rfl rfl rfl (zg zz rfl)) (ex_subb hs hb rfl (zg zz rfl) (zg zz rfl)) ?_
  refine zv (zw zz rfl rfl rfl (zg zz rfl)) (exec_indexAt rfl (zg zz rfl) (zg zz rfl) (ix_ul hk hm _)) ?_
  refine zv (zw zz rfl rfl rfl (zg zz rfl)) (exec_load rfl (zg zz rfl) (LB _ rfl)) ?_
  refine zv rfl (exec_pickT rfl (zg zz rfl) (zg zz rfl)) ?_
  exact ze rfl (h _ _ (rfl) rfl)
def bck21_o0 : Oper := { dst := some 81, op := Op.move (Operand.tmp 7), type := 25, pos := "outright.go:198", after := #[], guard := none }
def bck21_o1 : Oper := { dst := some 82, op := Op.move (Operand.tmp 12), type := 51, pos := "outright.go:198", after := #[], guard := none }
def bck21_o2 : Oper := { dst := some 83, op := Op.move (Operand.tmp 12), type := 51, pos := "outright.go:198", after := #[], guard := none }
def bck21_o3 : Oper := { dst := some 84, op := Op.call { callee := Callee.builtin Builtin.len, args := #[Operand.tmp 83], argTypes := #[51] }, type := 3, pos := "outright.go:198", after := #[{ on := 2, ground := Ground.data }], guard := none }
def bck21_o4 : Oper := { dst := some 85, op := Op.binOp BinOp.sub 3 (Operand.tmp 84) (Operand.const (Value.int IntKind.i64 1)) 3, type := 3, pos := "outright.go:198", after := #[{ on := 3, ground := Ground.data }], guard := none }
def bck21_o5 : Oper := { dst := some 86, op := Op.indexAddr 51 (Operand.tmp 82) (Operand.tmp 85), type := 0, pos := "outright.go:198", after := #[{ on := 1, ground := Ground.data }, { on := 4, ground := Ground.data }], guard := none }
def bck21_o6 : Oper := { dst := some 87, op := Op.load 27 (Operand.tmp 86), type := 27, pos := "outright.go:198", after := #[{ on := 5, ground := Ground.data }], guard := none }
def bck21_o7 : Oper := { dst := some 88, op := Op.call { callee := Callee.value (Operand.func 13), args := #[Operand.tmp 81, Operand.tmp 87], argTypes := #[25, 27] }, type := 57, pos := "outright.go:198", after := #[{ on := 0, ground := Ground.data }, { on := 6, ground := Ground.data }], guard := none }
def bck21_o8 : Oper := { dst := some 89, op := Op.binOp BinOp.neq 57 (Operand.tmp 88) (Operand.const (Value.int IntKind.i64 0)) 57, type := 4, pos := "outright.go:198", after := #[{ on := 7, ground := Ground.data }], guard := none }
def bck21_ops : Array Oper := #[bck21_o0, bck21_o1, bck21_o2, bck21_o3, bck21_o4, bck21_o5, bck21_o6, bck21_o7, bck21_o8]
set_option maxRecDepth 100000 in
set_option maxHeartbeats 4000000 in
theorem bck21 {ro g ln c j bk : Nat} (Fin : World → Prop) (a : Act) (w : World) (Q : Exit → Act → World → Prop) (zz : a.tmps.size = 162)
    (t7 : a.tmps.getD 7 undef = .pointer (some ⟨ro, 0, none⟩))
    (t12 : a.tmps.getD 12 undef = .slice (some ⟨g, 0, none⟩) ln c)
    (hd : j + 1 = ln) (hs : ln ≤ 9223372036854775800) (hj : j < ln) (hm : ln ≤ 9223372036854775807) (L1 : ∀ W, W = w → (Instr.loadAt 27 (.pointer (some ⟨g, 0 + j, none⟩))).run Tryd.prog W = .ok (.pointer (some ⟨bk, 0, none⟩)) W) (CU : Calls Tryd.prog 13 #[.pointer (some ⟨ro, 0, none⟩), .pointer (some ⟨bk, 0, none⟩)] w fun e w' => e = .returned (.int .i64 0) ∧ Fin w')
    (h : ∀ (a' : Act) (w' : World), Fin w' → a' = (((((((((a).put (some 81) (.pointer (some ⟨ro, 0, none⟩))).put (some 82) (.slice (some ⟨g, 0, none⟩) ln c)).put (some 83) (.slice (some ⟨g, 0, none⟩) ln c)).put (some 84) (.int .i64 (ln : Int))).put (some 85) (.int .i64 (j : Int))).put (some 86) (.pointer (some ⟨g, 0 + j, none⟩))).put (some 87) (.pointer (some ⟨bk, 0, none⟩))).put (some 88) (.int .i64 0)).put (some 89) (.bool false) → Q .normal a' w') :
    (Code.region 21 bck21_ops false).wp Tryd.prog Q a w := by
  refine z0 rfl ?_
  refine zv rfl (exec_move rfl (zi t7 rfl)) ?_
  refine zv rfl (exec_move rfl (zi t12 rfl)) ?_
  refine zv rfl (exec_move rfl (zi t12 rfl)) ?_
  refine zv rfl (exec_len rfl (zg zz rfl) (len_bkl _ _ _ _ _)) ?_
  refine zv (v := .int .i64 (j : Int)) rfl (exec_sub1 rfl (zg zz rfl) rfl hd hs) ?_
  refine zv rfl (exec_indexAt rfl (zg zz rfl) (zg zz rfl) (ix_bkl hj hm _)) ?_
  refine zv rfl (exec_load rfl (zg zz rfl) (L1 _ rfl)) ?_
  refine zc rfl (exec_c2 rfl (zg zz rfl) (zg zz rfl)) (CU) (fun e x7 hx => ?_)
  obtain ⟨rfl, HF⟩ := hx
  refine ⟨_, rfl, ?_⟩
  refine zv (v := .bool false) rfl (ex_nez (.inr rfl) (by simp) rfl (zg zz rfl) rfl) ?_
  exact ze rfl (h _ _ (HF) rfl)
def bck23_o0 : Oper := { dst := some 90, op := Op.move (Operand.tmp 12), type := 51, pos := "outright.go:201", after := #[], guard := none }
def bck23_o1 : Oper := { dst := some 91, op := Op.move (Operand.tmp 12), type := 51, pos := "outright.go:201", after := #[], guard := none }
def bck23_o2 : Oper := { dst := some 92, op := Op.call { callee := Callee.builtin Builtin.len, args := #[Operand.tmp 91], argTypes := #[51] }, type := 3, pos := "outright.go:201", after := #[{ on := 1, ground := Ground.data }], guard := none }
def bck23_o3 : Oper := { dst := some 93, op := Op.binOp BinOp.sub 3 (Operand.tmp 92) (Operand.const (Value.int IntKind.i64 1)) 3, type := 3, pos := "outright.go:201", after := #[{ on := 2, ground := Ground.data }], guard := none }
def bck23_o4 : Oper := { dst := some 94, op := Op.slice 51 (Operand.tmp 90) none (some (Operand.tmp 93)) none, type := 51, pos := "outright.go:201", after := #[{ on := 0, ground := Ground.data }, { on := 3, ground := Ground.data }], guard := none }
def bck23_o5 : Oper := { dst := some 12, op := Op.assign (Operand.tmp 94), type := 51, pos := "outright.go:201", after := #[{ on := 4, ground := Ground.data }, { on := 0, ground := Ground.phase }, { on := 1, ground := Ground.phase }, { on := 2, ground := Ground.phase }, { on := 3, ground := Ground.phase }, { on := 4, ground := Ground.phase }], guard := none }
def bck23_ops : Array Oper := #[bck23_o0, bck23_o1, bck23_o2, bck23_o3, bck23_o4, bck23_o5]
set_option maxRecDepth 100000 in
set_option maxHeartbeats 4000000 in
theorem bck23 {g ln c j : Nat} (a : Act) (w : World) (Q : Exit → Act → World → Prop) (zz : a.tmps.size = 162)
    (t12 : a.tmps.getD 12 undef = .slice (some ⟨g, 0, none⟩) ln c)
    (hd : j + 1 = ln) (hs : ln ≤ 9223372036854775800) (hc : j ≤ c)
    (h : ∀ (a' : Act) (w' : World), w' = w → a' = ((((((a).put (some 90) (.slice (some ⟨g, 0, none⟩) ln c)).put (some 91) (.slice (some ⟨g, 0, none⟩) ln c)).put (some 92) (.int .i64 (ln : Int))).put (some 93) (.int .i64 (j : Int))).put (some 94) (.slice (some ⟨g, 0, none⟩) j c)).put (some 12) (.slice (some ⟨g, 0, none⟩) j c) → Q .normal a' w') :
    (Code.region 23 bck23_ops false).wp Tryd.prog Q a w := by
  refine z0 rfl ?_
  refine zv rfl (exec_move rfl (zi t12 rfl)) ?_
  refine zv rfl (exec_move rfl (zi t12 rfl)) ?_
  refine zv rfl (exec_len rfl (zg zz rfl) (len_bkl _ _ _ _ _)) ?_
  refine zv (v := .int .i64 (j : Int)) rfl (exec_sub1 rfl (zg zz rfl) rfl hd hs) ?_
  refine zv (v := .slice (some ⟨g, 0, none⟩) j c) rfl (exec_slb rfl (zg zz rfl) (zg zz rfl) (sl_bk hc _)) ?_
  refine zv rfl (exec_assign rfl (zg zz rfl)) ?_
  exact ze rfl (h _ _ (rfl) rfl)
def bck27z_o0 : Oper := { dst := some 102, op := Op.move (Operand.tmp 14), type := 3, pos := "outright.go:205", after := #[], guard := none }
def bck27z_o1 : Oper := { dst := some 103, op := Op.binOp BinOp.gtr 3 (Operand.tmp 102) (Operand.const (Value.int IntKind.i64 0)) 3, type := 4, pos := "outright.go:205", after := #[{ on := 0, ground := Ground.data }], guard := none }
def bck27z_o2 : Oper := { dst := some 104, op := Op.move (Operand.tmp 103), type := 4, pos := "outright.go:205", after := #[{ on := 1, ground := Ground.data }], guard := none }
def bck27z_o3 : Oper := { dst := some 105, op := Op.move (Operand.tmp 7), type := 25, pos := "outright.go:205", after := #[{ on := 2, ground := Ground.guard }], guard := some (2, true) }
def bck27z_o4 : Oper := { dst := some 106, op := Op.move (Operand.tmp 12), type := 51, pos := "outright.go:205", after := #[{ on := 2, ground := Ground.guard }], guard := some (2, true) }
def bck27z_o5 : Oper := { dst := some 107, op := Op.move (Operand.tmp 14), type := 3, pos := "outright.go:205", after := #[{ on := 2, ground := Ground.guard }], guard := some (2, true) }
def bck27z_o6 : Oper := { dst := some 108, op := Op.binOp BinOp.sub 3 (Operand.tmp 107) (Operand.const (Value.int IntKind.i64 1)) 3, type := 3, pos := "outright.go:205", after := #[{ on := 5, ground := Ground.data }, { on := 2, ground := Ground.guard }], guard := some (2, true) }
def bck27z_o7 : Oper := { dst := some 109, op := Op.indexAddr 51 (Operand.tmp 106) (Operand.tmp 108), type := 0, pos := "outright.go:205", after := #[{ on := 4, ground := Ground.data }, { on := 6, ground := Ground.data }, { on := 2, ground := Ground.guard }], guard := some (2, true) }
def bck27z_o8 : Oper := { dst := some 110, op := Op.load 27 (Operand.tmp 109), type := 27, pos := "outright.go:205", after := #[{ on := 7, ground := Ground.data }, { on := 2, ground := Ground.guard }], guard := some (2, true) }
def bck27z_o9 : Oper := { dst := some 111, op := Op.call { callee := Callee.value (Operand.func 13), args := #[Operand.tmp 105, Operand.tmp 110], argTypes := #[25, 27] }, type := 57, pos := "outright.go:205", after := #[{ on := 3, ground := Ground.data }, { on := 8, ground := Ground.data }, { on := 2, ground := Ground.chain }, { on := 2, ground := Ground.guard }], guard := some (2, true) }
def bck27z_o10 : Oper := { dst := some 112, op := Op.binOp BinOp.neq 57 (Operand.tmp 111) (Operand.const (Value.int IntKind.i64 2)) 57, type := 4, pos := "outright.go:205", after := #[{ on := 9, ground := Ground.data }, { on := 2, ground := Ground.guard }], guard := some (2, true) }
def bck27z_o11 : Oper := { dst := some 113, op := Op.pick (Operand.tmp 104) (Operand.tmp 112) (Operand.const (Value.bool false)), type := 4, pos := "outright.go:205", after := #[{ on := 2, ground := Ground.data }, { on := 10, ground := Ground.data }], guard := none }
def bck27z_ops : Array Oper := #[bck27z_o0, bck27z_o1, bck27z_o2, bck27z_o3, bck27z_o4, bck27z_o5, bck27z_o6, bck27z_o7, bck27z_o8, bck27z_o9, bck27z_o10, bck27z_o11]
set_option maxRecDepth 100000 in
set_option maxHeartbeats 4000000 in
theorem bck27z {i : Nat} (a : Act) (w : World) (Q : Exit → Act → World → Prop) (zz : a.tmps.size = 162)
    (t14 : a.tmps.getD 14 undef = .int .i64 (i : Int))
    (hr : decide (0 < i) = false)
    (h : ∀ (a' : Act) (w' : World), w' = w → a' = ((((((((((((a).put (some 102) (.int .i64 (i : Int))).put (some 103) (.bool false)).put (some 104) (.bool false)).put (some 105) (undef)).put (some 106) (undef)).put (some 107) (undef)).put (some 108) (undef)).put (some 109) (undef)).put (some 110) (undef)).put (some 111) (undef)).put (some 112) (undef)).put (some 113) (.bool false) → Q .normal a' w') :
    (Code.region 27 bck27z_ops false).wp Tryd.prog Q a w := by
  refine z0 rfl ?_
  refine zv rfl (exec_move rfl (zi t14 rfl)) ?_
  refine zv (v := .bool false) rfl (ex_gtzb hr rfl (zg zz rfl) rfl) ?_
  refine zv rfl (exec_move rfl (zg zz rfl)) ?_
  refine zn (zx zz rfl rfl rfl (zg zz rfl)) ?_
  refine zn (zx zz rfl rfl rfl (zg zz rfl)) ?_
  refine zn (zx zz rfl rfl rfl (zg zz rfl)) ?_
  refine zn (zx zz rfl rfl rfl (zg zz rfl)) ?_
  refine zn (zx zz rfl rfl rfl (zg zz rfl)) ?_
  refine zn (zx zz rfl rfl rfl (zg zz rfl)) ?_
  refine zn (zx zz rfl rfl rfl (zg zz rfl)) ?_
  refine zn (zx zz rfl rfl rfl (zg zz rfl)) ?_
  refine zv rfl (exec_pickF rfl (zg zz rfl) rfl) ?_
  exact ze rfl (h _ _ (rfl) rfl)
def bck27y_o0 : Oper := { dst := some 102, op := Op.move (Operand.tmp 14), type := 3, pos := "outright.go:205", after := #[], guard := none }
def bck27y_o1 : Oper := { dst := some 103, op := Op.binOp BinOp.gtr 3 (Operand.tmp 102) (Operand.const (Value.int IntKind.i64 0)) 3, type := 4, pos := "outright.go:205", after := #[{ on := 0, ground := Ground.data }], guard := none }
def bck27y_o2 : Oper := { dst := some 104, op := Op.move (Operand.tmp 103), type := 4, pos := "outright.go:205", after := #[{ on := 1, ground := Ground.data }], guard := none }
def bck27y_o3 : Oper := { dst := some 105, op := Op.move (Operand.tmp 7), type := 25, pos := "outright.go:205", after := #[{ on := 2, ground := Ground.guard }], guard := some (2, true) }
def bck27y_o4 : Oper := { dst := some 106, op := Op.move (Operand.tmp 12), type := 51, pos := "outright.go:205", after := #[{ on := 2, ground := Ground.guard }], guard := some (2, true) }
def bck27y_o5 : Oper := { dst := some 107, op := Op.move (Operand.tmp 14), type := 3, pos := "outright.go:205", after := #[{ on := 2, ground := Ground.guard }], guard := some (2, true) }
def bck27y_o6 : Oper := { dst := some 108, op := Op.binOp BinOp.sub 3 (Operand.tmp 107) (Operand.const (Value.int IntKind.i64 1)) 3, type := 3, pos := "outright.go:205", after := #[{ on := 5, ground := Ground.data }, { on := 2, ground := Ground.guard }], guard := some (2, true) }
def bck27y_o7 : Oper := { dst := some 109, op := Op.indexAddr 51 (Operand.tmp 106) (Operand.tmp 108), type := 0, pos := "outright.go:205", after := #[{ on := 4, ground := Ground.data }, { on := 6, ground := Ground.data }, { on := 2, ground := Ground.guard }], guard := some (2, true) }
def bck27y_o8 : Oper := { dst := some 110, op := Op.load 27 (Operand.tmp 109), type := 27, pos := "outright.go:205", after := #[{ on := 7, ground := Ground.data }, { on := 2, ground := Ground.guard }], guard := some (2, true) }
def bck27y_o9 : Oper := { dst := some 111, op := Op.call { callee := Callee.value (Operand.func 13), args := #[Operand.tmp 105, Operand.tmp 110], argTypes := #[25, 27] }, type := 57, pos := "outright.go:205", after := #[{ on := 3, ground := Ground.data }, { on := 8, ground := Ground.data }, { on := 2, ground := Ground.chain }, { on := 2, ground := Ground.guard }], guard := some (2, true) }
def bck27y_o10 : Oper := { dst := some 112, op := Op.binOp BinOp.neq 57 (Operand.tmp 111) (Operand.const (Value.int IntKind.i64 2)) 57, type := 4, pos := "outright.go:205", after := #[{ on := 9, ground := Ground.data }, { on := 2, ground := Ground.guard }], guard := some (2, true) }
def bck27y_o11 : Oper := { dst := some 113, op := Op.pick (Operand.tmp 104) (Operand.tmp 112) (Operand.const (Value.bool false)), type := 4, pos := "outright.go:205", after := #[{ on := 2, ground := Ground.data }, { on := 10, ground := Ground.data }], guard := none }
def bck27y_ops : Array Oper := #[bck27y_o0, bck27y_o1, bck27y_o2, bck27y_o3, bck27y_o4, bck27y_o5, bck27y_o6, bck27y_o7, bck27y_o8, bck27y_o9, bck27y_o10, bck27y_o11]
set_option maxRecDepth 100000 in
set_option maxHeartbeats 4000000 in
theorem bck27y {ro g ln c i j bk : Nat} (Fin : World → Prop) (a : Act) (w : World) (Q : Exit → Act → World → Prop) (zz : a.tmps.size = 162)
    (t7 : a.tmps.getD 7 undef = .pointer (some ⟨ro, 0, none⟩))
    (t12 : a.tmps.getD 12 undef = .slice (some ⟨g, 0, none⟩) ln c)
    (t14 : a.tmps.getD 14 undef = .int .i64 (i : Int))
    (hr : decide (0 < i) = true) (hd : j + 1 = i) (hs : i ≤ 9223372036854775800) (hj : j < ln) (hm : ln ≤ 9223372036854775807) (L1 : ∀ W, W = w → (Instr.loadAt 27 (.pointer (some ⟨g, 0 + j, none⟩))).run Tryd.prog W = .ok (.pointer (some ⟨bk, 0, none⟩)) W) (CU : Calls Tryd.prog 13 #[.pointer (some ⟨ro, 0, none⟩), .pointer (some ⟨bk, 0, none⟩)] w fun e w' => e = .returned (.int .i64 2) ∧ Fin w')
    (h : ∀ (a' : Act) (w' : World), Fin w' → a' = ((((((((((((a).put (some 102) (.int .i64 (i : Int))).put (some 103) (.bool true)).put (some 104) (.bool true)).put (some 105) (.pointer (some ⟨ro, 0, none⟩))).put (some 106) (.slice (some ⟨g, 0, none⟩) ln c)).put (some 107) (.int .i64 (i : Int))).put (some 108) (.int .i64 (j : Int))).put (some 109) (.pointer (some ⟨g, 0 + j, none⟩))).put (some 110) (.pointer (some ⟨bk, 0, none⟩))).put (some 111) (.int .i64 2)).put (some 112) (.bool false)).put (some 113) (.bool false) → Q .normal a' w') :
    (Code.region 27 bck27y_ops false).wp Tryd.prog Q a w := by
  refine z0 rfl ?_
  refine zv rfl (exec_move rfl (zi t14 rfl)) ?_
  refine zv (v := .bool true) rfl (ex_gtzb hr rfl (zg zz rfl) rfl) ?_
  refine zv rfl (exec_move rfl (zg zz rfl)) ?_
  refine zv (zw zz rfl rfl rfl (zg zz rfl)) (exec_move rfl (zi t7 rfl)) ?_
  refine zv (zw zz rfl rfl rfl (zg zz rfl)) (exec_move rfl (zi t12 rfl)) ?_
  refine zv (zw zz rfl rfl rfl (zg zz rfl)) (exec_move rfl (zi t14 rfl)) ?_
  refine zv (v := .int .i64 (j : Int)) (zw zz rfl rfl rfl (zg zz rfl)) (exec_sub1 rfl (zg zz rfl) rfl hd hs) ?_
  refine zv (zw zz rfl rfl rfl (zg zz rfl)) (exec_indexAt rfl (zg zz rfl) (zg zz rfl) (ix_bkl hj hm _)) ?_
  refine zv (zw zz rfl rfl rfl (zg zz rfl)) (exec_load rfl (zg zz rfl) (L1 _ rfl)) ?_
  refine zc (zw zz rfl rfl rfl (zg zz rfl)) (exec_c2 rfl (zg zz rfl) (zg zz rfl)) (CU) (fun e x9 hx => ?_)
  obtain ⟨rfl, HF⟩ := hx
  refine ⟨_, rfl, ?_⟩
  refine zv (v := .bool false) (zw zz rfl rfl rfl (zg zz rfl)) (ex_nez (.inr rfl) (by simp) rfl (zg zz rfl) rfl) ?_
  refine zv rfl (exec_pickT rfl (zg zz rfl) (zg zz rfl)) ?_
  exact ze rfl (h _ _ (HF) rfl)
def bck29_o0 : Oper := { dst := some 114, op := Op.move (Operand.tmp 7), type := 25, pos := "outright.go:208", after := #[], guard := none }
def bck29_o1 : Oper := { dst := some 115, op := Op.move (Operand.tmp 12), type := 51, pos := "outright.go:208", after := #[], guard := none }
def bck29_o2 : Oper := { dst := some 116, op := Op.move (Operand.tmp 14), type := 3, pos := "outright.go:208", after := #[], guard := none }
def bck29_o3 : Oper := { dst := some 117, op := Op.indexAddr 51 (Operand.tmp 115) (Operand.tmp 116), type := 0, pos := "outright.go:208", after := #[{ on := 1, ground := Ground.data }, { on := 2, ground := Ground.data }], guard := none }
def bck29_o4 : Oper := { dst := some 118, op := Op.load 27 (Operand.tmp 117), type := 27, pos := "outright.go:208", after := #[{ on := 3, ground := Ground.data }], guard := none }
def bck29_o5 : Oper := { dst := some 119, op := Op.call { callee := Callee.value (Operand.func 13), args := #[Operand.tmp 114, Operand.tmp 118], argTypes := #[25, 27] }, type := 57, pos := "outright.go:208", after := #[{ on := 0, ground := Ground.data }, { on := 4, ground := Ground.data }], guard := none }
def bck29_o6 : Oper := { dst := some 120, op := Op.binOp BinOp.neq 57 (Operand.tmp 119) (Operand.const (Value.int IntKind.i64 0)) 57, type := 4, pos := "outright.go:208", after := #[{ on := 5, ground := Ground.data }], guard := none }
def bck29_o7 : Oper := { dst := some 121, op := Op.move (Operand.tmp 120), type := 4, pos := "outright.go:208", after := #[{ on := 6, ground := Ground.data }, { on := 5, ground := Ground.chain }], guard := none }
def bck29_o8 : Oper := { dst := some 122, op := Op.move (Operand.tmp 7), type := 25, pos := "outright.go:208", after := #[{ on := 7, ground := Ground.guard }], guard := some (7, false) }
def bck29_o9 : Oper := { dst := some 123, op := Op.move (Operand.tmp 12), type := 51, pos := "outright.go:208", after := #[{ on := 7, ground := Ground.guard }], guard := some (7, false) }
def bck29_o10 : Oper := { dst := some 124, op := Op.move (Operand.tmp 14), type := 3, pos := "outright.go:208", after := #[{ on := 7, ground := Ground.guard }], guard := some (7, false) }
def bck29_o11 : Oper := { dst := some 125, op := Op.indexAddr 51 (Operand.tmp 123) (Operand.tmp 124), type := 0, pos := "outright.go:208", after := #[{ on := 9, ground := Ground.data }, { on := 10, ground := Ground.data }, { on := 7, ground := Ground.guard }], guard := some (7, false) }
def bck29_o12 : Oper := { dst := some 126, op := Op.load 27 (Operand.tmp 125), type := 27, pos := "outright.go:208", after := #[{ on := 11, ground := Ground.data }, { on := 7, ground := Ground.guard }], guard := some (7, false) }
def bck29_o13 : Oper := { dst := some 127, op := Op.call { callee := Callee.value (Operand.func 13), args := #[Operand.tmp 122, Operand.tmp 126], argTypes := #[25, 27] }, type := 57, pos := "outright.go:208", after := #[{ on := 8, ground := Ground.data }, { on := 12, ground := Ground.data }, { on := 7, ground := Ground.chain }, { on := 7, ground := Ground.guard }], guard := some (7, false) }
def bck29_o14 : Oper := { dst := some 128, op := Op.binOp BinOp.neq 57 (Operand.tmp 127) (Operand.const (Value.int IntKind.i64 2)) 57, type := 4, pos := "outright.go:208", after := #[{ on := 13, ground := Ground.data }, { on := 7, ground := Ground.guard }], guard := some (7, false) }
def bck29_o15 : Oper := { dst := some 129, op := Op.pick (Operand.tmp 121) (Operand.const (Value.bool true)) (Operand.tmp 128), type := 4, pos := "outright.go:208", after := #[{ on := 7, ground := Ground.data }, { on := 14, ground := Ground.data }], guard := none }
def bck29_ops : Array Oper := #[bck29_o0, bck29_o1, bck29_o2, bck29_o3, bck29_o4, bck29_o5, bck29_o6, bck29_o7, bck29_o8, bck29_o9, bck29_o10, bck29_o11, bck29_o12, bck29_o13, bck29_o14, bck29_o15]
set_option maxRecDepth 100000 in
set_option maxHeartbeats 4000000 in
theorem bck29 {ro g ln c i bk : Nat} (Fin : World → Prop) (a : Act) (w : World) (Q : Exit → Act → World → Prop) (zz : a.tmps.size = 162)
    (t7 : a.tmps.getD 7 undef = .pointer (some ⟨ro, 0, none⟩))
    (t12 : a.tmps.getD 12 undef = .slice (some ⟨g, 0, none⟩) ln c)
    (t14 : a.tmps.getD 14 undef = .int .i64 (i : Int))
    (hi : i < ln) (hm : ln ≤ 9223372036854775807) (L1 : ∀ W, W = w → (Instr.loadAt 27 (.pointer (some ⟨g, 0 + i, none⟩))).run Tryd.prog W = .ok (.pointer (some ⟨bk, 0, none⟩)) W) (CU : Calls Tryd.prog 13 #[.pointer (some ⟨ro, 0, none⟩), .pointer (some ⟨bk, 0, none⟩)] w fun e w1 => e = .returned (.int .i64 0) ∧ (Instr.loadAt 27 (.pointer (some ⟨g, 0 + i, none⟩))).run Tryd.prog w1 = .ok (.pointer (some ⟨bk, 0, none⟩)) w1 ∧ Calls Tryd.prog 13 #[.pointer (some ⟨ro, 0, none⟩), .pointer (some ⟨bk, 0, none⟩)] w1 fun e w2 => e = .returned (.int .i64 2) ∧ Fin w2)
    (h : ∀ (a' : Act) (w' : World), Fin w' → a' = ((((((((((((((((a).put (some 114) (.pointer (some ⟨ro, 0, none⟩))).put (some 115) (.slice (some ⟨g, 0, none⟩) ln c)).put (some 116) (.int .i64 (i : Int))).put (some 117) (.pointer (some ⟨g, 0 + i, none⟩))).put (some 118) (.pointer (some ⟨bk, 0, none⟩))).put (some 119) (.int .i64 0)).put (some 120) (.bool false)).put (some 121) (.bool false)).put (some 122) (.pointer (some ⟨ro, 0, none⟩))).put (some 123) (.slice (some ⟨g, 0, none⟩) ln c)).put (some 124) (.int .i64 (i : Int))).put (some 125) (.pointer (some ⟨g, 0 + i, none⟩))).put (some 126) (.pointer (some ⟨bk, 0, none⟩))).put (some 127) (.int .i64 2)).put (some 128) (.bool false)).put (some 129) (.bool false) → Q .normal a' w') :
    (Code.region 29 bck29_ops false).wp Tryd.prog Q a w := by
  refine z0 rfl ?_
  refine zv rfl (exec_move rfl (zi t7 rfl)) ?_
  refine zv rfl (exec_move rfl (zi t12 rfl)) ?_
  refine zv rfl (exec_move rfl (zi t14 rfl)) ?_
  refine zv rfl (exec_indexAt rfl (zg zz rfl) (zg zz rfl) (ix_bkl hi hm _)) ?_
  refine zv rfl (exec_load rfl (zg zz rfl) (L1 _ rfl)) ?_
  refine zc rfl (exec_c2 rfl (zg zz rfl) (zg zz rfl)) (CU) (fun e x5 hx => ?_)
  obtain ⟨rfl, L4, CV⟩ := hx
  refine ⟨_, rfl, ?_⟩
  refine zv (v := .bool false) rfl (ex_nez (.inr rfl) (by simp) rfl (zg zz rfl) rfl) ?_
  refine zv rfl (exec_move rfl (zg zz rfl)) ?_
  refine zv (zw zz rfl rfl rfl (zg zz rfl)) (exec_move rfl (zi t7 rfl)) ?_
  refine zv (zw zz rfl rfl rfl (zg zz rfl)) (exec_move rfl (zi t12 rfl)) ?_
  refine zv (zw zz rfl rfl rfl (zg zz rfl)) (exec_move rfl (zi t14 rfl)) ?_
  refine zv (zw zz rfl rfl rfl (zg zz rfl)) (exec_indexAt rfl (zg zz rfl) (zg zz rfl) (ix_bkl hi hm _)) ?_
  refine zv (zw zz rfl rfl rfl (zg zz rfl)) (exec_load rfl (zg zz rfl) L4) ?_
  refine zc (zw zz rfl rfl rfl (zg zz rfl)) (exec_c2 rfl (zg zz rfl) (zg zz rfl)) (CV) (fun e x13 hx => ?_)
  obtain ⟨rfl, HF⟩ := hx
  refine ⟨_, rfl, ?_⟩
  refine zv (v := .bool false) (zw zz rfl rfl rfl (zg zz rfl)) (ex_nez (.inr rfl) (by simp) rfl (zg zz rfl) rfl) ?_
  refine zv rfl (exec_pickF rfl (zg zz rfl) (zg zz rfl)) ?_
  exact ze rfl (h _ _ (HF) rfl)
def bck36_o0 : Oper := { dst := some 143, op := Op.move (Operand.tmp 7), type := 25, pos := "outright.go:216", after := #[], guard := none }
def bck36_o1 : Oper := { dst := some 144, op := Op.move (Operand.tmp 8), type := 51, pos := "outright.go:216", after := #[], guard := none }
def bck36_o2 : Oper := { dst := some 145, op := Op.move (Operand.tmp 15), type := 3, pos := "outright.go:216", after := #[], guard := none }
def bck36_o3 : Oper := { dst := some 146, op := Op.indexAddr 51 (Operand.tmp 144) (Operand.tmp 145), type := 0, pos := "outright.go:216", after := #[{ on := 1, ground := Ground.data }, { on := 2, ground := Ground.data }], guard := none }
def bck36_o4 : Oper := { dst := some 147, op := Op.load 27 (Operand.tmp 146), type := 27, pos := "outright.go:216", after := #[{ on := 3, ground := Ground.data }], guard := none }
def bck36_o5 : Oper := { dst := some 148, op := Op.call { callee := Callee.value (Operand.func 13), args := #[Operand.tmp 143, Operand.tmp 147], argTypes := #[25, 27] }, type := 57, pos := "outright.go:216", after := #[{ on := 0, ground := Ground.data }, { on := 4, ground := Ground.data }], guard := none }
def bck36_o6 : Oper := { dst := some 149, op := Op.binOp BinOp.neq 57 (Operand.tmp 148) (Operand.const (Value.int IntKind.i64 0)) 57, type := 4, pos := "outright.go:216", after := #[{ on := 5, ground := Ground.data }], guard := none }
def bck36_ops : Array Oper := #[bck36_o0, bck36_o1, bck36_o2, bck36_o3, bck36_o4, bck36_o5, bck36_o6]
set_option maxRecDepth 100000 in
set_option maxHeartbeats 4000000 in
theorem bck36 {ro g ln c i bk : Nat} (Fin : World → Prop) (a : Act) (w : World) (Q : Exit → Act → World → Prop) (zz : a.tmps.size = 162)
    (t7 : a.tmps.getD 7 undef = .pointer (some ⟨ro, 0, none⟩))
    (t8 : a.tmps.getD 8 undef = .slice (some ⟨g, 0, none⟩) ln c)
    (t15 : a.tmps.getD 15 undef = .int .i64 (i : Int))
    (hi : i < ln) (hm : ln ≤ 9223372036854775807) (L1 : ∀ W, W = w → (Instr.loadAt 27 (.pointer (some ⟨g, 0 + i, none⟩))).run Tryd.prog W = .ok (.pointer (some ⟨bk, 0, none⟩)) W) (CU : Calls Tryd.prog 13 #[.pointer (some ⟨ro, 0, none⟩), .pointer (some ⟨bk, 0, none⟩)] w fun e w' => e = .returned (.int .i64 0) ∧ Fin w')
    (h : ∀ (a' : Act) (w' : World), Fin w' → a' = (((((((a).put (some 143) (.pointer (some ⟨ro, 0, none⟩))).put (some 144) (.slice (some ⟨g, 0, none⟩) ln c)).put (some 145) (.int .i64 (i : Int))).put (some 146) (.pointer (some ⟨g, 0 + i, none⟩))).put (some 147) (.pointer (some ⟨bk, 0, none⟩))).put (some 148) (.int .i64 0)).put (some 149) (.bool false) → Q .normal a' w') :
    (Code.region 36 bck36_ops false).wp Tryd.prog Q a w := by
  refine z0 rfl ?_
  refine zv rfl (exec_move rfl (zi t7 rfl)) ?_
  refine zv rfl (exec_move rfl (zi t8 rfl)) ?_
  refine zv rfl (exec_move rfl (zi t15 rfl)) ?_
  refine zv rfl (exec_indexAt rfl (zg zz rfl) (zg zz rfl) (ix_bkl hi hm _)) ?_
  refine zv rfl (exec_load rfl (zg zz rfl) (L1 _ rfl)) ?_
  refine zc rfl (exec_c2 rfl (zg zz rfl) (zg zz rfl)) (CU) (fun e x5 hx => ?_)
  obtain ⟨rfl, HF⟩ := hx
  refine ⟨_, rfl, ?_⟩
  refine zv (v := .bool false) rfl (ex_nez (.inr rfl) (by simp) rfl (zg zz rfl) rfl) ?_
  exact ze rfl (h _ _ (HF) rfl)
def bck31_o0 : Oper := { dst := some 130, op := Op.move (Operand.tmp 7), type := 25, pos := "outright.go:212", after := #[], guard := none }
def bck31_o1 : Oper := { dst := some 131, op := Op.move (Operand.tmp 3), type := 22, pos := "outright.go:212", after := #[], guard := none }
def bck31_o2 : Oper := { dst := some 132, op := Op.call { callee := Callee.value (Operand.func 12), args := #[Operand.tmp 130, Operand.tmp 131], argTypes := #[25, 22] }, type := 55, pos := "outright.go:212", after := #[{ on := 0, ground := Ground.data }, { on := 1, ground := Ground.data }], guard := none }
def bck31_o3 : Oper := { dst := some 133, op := Op.load 55 (Operand.tmp 10), type := 55, pos := "outright.go:212", after := #[], guard := none }
def bck31_o4 : Oper := { dst := some 134, op := Op.call { callee := Callee.value (Operand.func 14), args := #[Operand.tmp 132, Operand.tmp 133], argTypes := #[55, 55] }, type := 4, pos := "outright.go:212", after := #[{ on := 2, ground := Ground.data }, { on := 3, ground := Ground.data }, { on := 2, ground := Ground.chain }], guard := none }
def bck31_o5 : Oper := { dst := some 135, op := Op.unOp UnOp.not 4 (Operand.tmp 134), type := 4, pos := "outright.go:212", after := #[{ on := 4, ground := Ground.data }], guard := none }
def bck31_ops : Array Oper := #[bck31_o0, bck31_o1, bck31_o2, bck31_o3, bck31_o4, bck31_o5]
set_option maxRecDepth 100000 in
set_option maxHeartbeats 4000000 in
theorem bck31 {ro wb pn pc : Nat} {pa : Option Addr} {tv : Value} (S : World → Prop) (a : Act) (w : World) (Q : Exit → Act → World → Prop) (zz : a.tmps.size = 162)
    (t3 : a.tmps.getD 3 undef = .slice pa pn pc)
    (t7 : a.tmps.getD 7 undef = .pointer (some ⟨ro, 0, none⟩))
    (t10 : a.tmps.getD 10 undef = .pointer (some ⟨wb, 0, none⟩))
    (h0 : S w.drew) (L1 : ∀ W, S W → (Instr.loadAt 55 (.pointer (some ⟨wb, 0, none⟩))).run Tryd.prog W = .ok (tv) W) (CT : Calls Tryd.prog 12 #[.pointer (some ⟨ro, 0, none⟩), .slice pa pn pc] w.drew fun e w1 => ∃ tu, e = .returned tu ∧ S w1 ∧ Calls Tryd.prog 14 #[tu, tv] w1 fun e w2 => e = .returned (.bool true) ∧ S w2)
    (h : ∀ (tu : Value) (a' : Act) (w' : World), S w' → a' = ((((((a).put (some 130) (.pointer (some ⟨ro, 0, none⟩))).put (some 131) (.slice pa pn pc)).put (some 133) (tv)).put (some 132) (tu)).put (some 134) (.bool true)).put (some 135) (.bool false) → Q .normal a' w') :
    (Code.region 31 bck31_ops true).wp Tryd.prog Q a w := by
  refine y0 (fun w' => S w') (h0) (fun hHeld => ?_)
  refine yv 0 rfl rfl (fun w1 hw => exec_move rfl (zi t7 rfl)) hHeld ?_
  refine yv 1 rfl rfl (fun w1 hw => exec_move rfl (zi t3 rfl)) hHeld ?_
  refine yv 3 rfl rfl (fun w1 hw => exec_load rfl (zi t10 rfl) (L1 _ hw)) hHeld ?_
  refine yc 2 rfl rfl (exec_c2 rfl (zg zz rfl) (zg zz rfl)) (CT) (fun e x2 hx => ?_)
  obtain ⟨tu, rfl, S1, CS⟩ := hx
  replace h := h tu
  refine ⟨_, rfl, S1, fun hHeld => ?_⟩
  refine yc 4 rfl rfl (exec_c2 rfl (zg zz rfl) (zg zz rfl)) (CS) (fun e x4 hx => ?_)
  obtain ⟨rfl, S2⟩ := hx
  refine ⟨_, rfl, S2, fun hHeld => ?_⟩
  refine yv 5 rfl rfl (fun w1 hw => exec_not rfl (zg zz rfl)) hHeld ?_
  exact ye rfl (h _ _ (S2) rfl)
def bck38_o0 : Oper := { dst := some 150, op := Op.move (Operand.tmp 7), type := 25, pos := "outright.go:220", after := #[], guard := none }
def bck38_o1 : Oper := { dst := some 151, op := Op.call { callee := Callee.value (Operand.func 11), args := #[Operand.tmp 150], argTypes := #[25] }, type := 3, pos := "outright.go:220", after := #[{ on := 0, ground := Ground.data }], guard := none }
def bck38_o2 : Oper := { dst := some 152, op := Op.binOp BinOp.eql 3 (Operand.tmp 151) (Operand.const (Value.int IntKind.i64 0)) 3, type := 4, pos := "outright.go:220", after := #[{ on := 1, ground := Ground.data }], guard := none }
def bck38_o3 : Oper := { dst := some 153, op := Op.move (Operand.tmp 152), type := 4, pos := "outright.go:220", after := #[{ on := 2, ground := Ground.data }, { on := 1, ground := Ground.chain }], guard := none }
def bck38_o4 : Oper := { dst := some 154, op := Op.move (Operand.tmp 7), type := 25, pos := "outright.go:220", after := #[{ on := 3, ground := Ground.guard }], guard := some (3, true) }
def bck38_o5 : Oper := { dst := some 155, op := Op.move (Operand.tmp 3), type := 22, pos := "outright.go:220", after := #[{ on := 3, ground := Ground.guard }], guard := some (3, true) }
def bck38_o6 : Oper := { dst := some 156, op := Op.call { callee := Callee.value (Operand.func 12), args := #[Operand.tmp 154, Operand.tmp 155], argTypes := #[25, 22] }, type := 55, pos := "outright.go:220", after := #[{ on := 4, ground := Ground.data }, { on := 5, ground := Ground.data }, { on := 3, ground := Ground.chain }, { on := 3, ground := Ground.guard }], guard := some (3, true) }
def bck38_o7 : Oper := { dst := some 157, op := Op.call { callee := Callee.value (Operand.func 6), args := #[], argTypes := #[] }, type := 25, pos := "outright.go:220", after := #[{ on := 6, ground := Ground.chain }, { on := 3, ground := Ground.guard }], guard := some (3, true) }
def bck38_o8 : Oper := { dst := some 158, op := Op.move (Operand.tmp 3), type := 22, pos := "outright.go:220", after := #[{ on := 3, ground := Ground.guard }], guard := some (3, true) }
def bck38_o9 : Oper := { dst := some 159, op := Op.call { callee := Callee.value (Operand.func 12), args := #[Operand.tmp 157, Operand.tmp 158], argTypes := #[25, 22] }, type := 55, pos := "outright.go:220", after := #[{ on := 7, ground := Ground.data }, { on := 8, ground := Ground.data }, { on := 7, ground := Ground.chain }, { on := 3, ground := Ground.guard }], guard := some (3, true) }
def bck38_o10 : Oper := { dst := some 160, op := Op.call { callee := Callee.value (Operand.func 14), args := #[Operand.tmp 156, Operand.tmp 159], argTypes := #[55, 55] }, type := 4, pos := "outright.go:220", after := #[{ on := 6, ground := Ground.data }, { on := 9, ground := Ground.data }, { on := 9, ground := Ground.chain }, { on := 3, ground := Ground.guard }], guard := some (3, true) }
def bck38_o11 : Oper := { dst := some 161, op := Op.pick (Operand.tmp 153) (Operand.tmp 160) (Operand.const (Value.bool false)), type := 4, pos := "outright.go:220", after := #[{ on := 3, ground := Ground.data }, { on := 10, ground := Ground.data }], guard := none }
def bck38_o12 : Oper := { dst := some 2, op := Op.assign (Operand.tmp 161), type := 4, pos := "outright.go:220", after := #[{ on := 11, ground := Ground.data }, { on := 10, ground := Ground.chain }, { on := 0, ground := Ground.phase }, { on := 1, ground := Ground.phase }, { on := 2, ground := Ground.phase }, { on := 3, ground := Ground.phase }, { on := 4, ground := Ground.phase }, { on := 5, ground := Ground.phase }, { on := 6, ground := Ground.phase }, { on := 7, ground := Ground.phase }, { on := 8, ground := Ground.phase }, { on := 9, ground := Ground.phase }, { on := 10, ground := Ground.phase }, { on := 11, ground := Ground.phase }], guard := none }
def bck38_ops : Array Oper := #[bck38_o0, bck38_o1, bck38_o2, bck38_o3, bck38_o4, bck38_o5, bck38_o6, bck38_o7, bck38_o8, bck38_o9, bck38_o10, bck38_o11, bck38_o12]
set_option maxRecDepth 100000 in
set_option maxHeartbeats 4000000 in
theorem bck38 {ro pn pc : Nat} {pa : Option Addr} (Fin : World → Prop) (a : Act) (w : World) (Q : Exit → Act → World → Prop) (zz : a.tmps.size = 162)
    (t3 : a.tmps.getD 3 undef = .slice pa pn pc)
    (t7 : a.tmps.getD 7 undef = .pointer (some ⟨ro, 0, none⟩))
    (CL : Calls Tryd.prog 11 #[.pointer (some ⟨ro, 0, none⟩)] w fun e w1 => e = .returned (.int .i64 0) ∧ Calls Tryd.prog 12 #[.pointer (some ⟨ro, 0, none⟩), .slice pa pn pc] w1 fun e w2 => ∃ t1, e = .returned t1 ∧ Calls Tryd.prog 6 #[] w2 fun e w3 => ∃ rn, e = .returned (.pointer (some ⟨rn, 0, none⟩)) ∧ Calls Tryd.prog 12 #[.pointer (some ⟨rn, 0, none⟩), .slice pa pn pc] w3 fun e w4 => ∃ t2, e = .returned t2 ∧ Calls Tryd.prog 14 #[t1, t2] w4 fun e w5 => e = .returned (.bool true) ∧ Fin w5)
    (h : ∀ (t1 : Value) (rn : Nat) (t2 : Value) (a' : Act) (w' : World), Fin w' → a' = (((((((((((((a).put (some 150) (.pointer (some ⟨ro, 0, none⟩))).put (some 151) (.int .i64 0)).put (some 152) (.bool true)).put (some 153) (.bool true)).put (some 154) (.pointer (some ⟨ro, 0, none⟩))).put (some 155) (.slice pa pn pc)).put (some 156) (t1)).put (some 157) (.pointer (some ⟨rn, 0, none⟩))).put (some 158) (.slice pa pn pc)).put (some 159) (t2)).put (some 160) (.bool true)).put (some 161) (.bool true)).put (some 2) (.bool true) → Q .normal a' w') :
    (Code.region 38 bck38_ops false).wp Tryd.prog Q a w := by
  refine z0 rfl ?_
  refine zv rfl (exec_move rfl (zi t7 rfl)) ?_
  refine zc rfl (exec_c1 rfl (zg zz rfl)) (CL) (fun e x1 hx => ?_)
  obtain ⟨rfl, CT⟩ := hx
  refine ⟨_, rfl, ?_⟩
  refine zv (v := .bool true) rfl (ex_eqz rfl (zg zz rfl) rfl) ?_
  refine zv rfl (exec_move rfl (zg zz rfl)) ?_
  refine zv (zw zz rfl rfl rfl (zg zz rfl)) (exec_move rfl (zi t7 rfl)) ?_
  refine zv (zw zz rfl rfl rfl (zg zz rfl)) (exec_move rfl (zi t3 rfl)) ?_
  refine zc (zw zz rfl rfl rfl (zg zz rfl)) (exec_c2 rfl (zg zz rfl) (zg zz rfl)) (CT) (fun e x6 hx => ?_)
  obtain ⟨t1, rfl, CN⟩ := hx
  replace h := h t1
  refine ⟨_, rfl, ?_⟩
  refine zc (zw zz rfl rfl rfl (zg zz rfl)) (exec_c0 rfl) (CN) (fun e x7 hx => ?_)
  obtain ⟨rn, rfl, CU⟩ := hx
  replace h := h rn
  refine ⟨_, rfl, ?_⟩
  refine zv (zw zz rfl rfl rfl (zg zz rfl)) (exec_move rfl (zi t3 rfl)) ?_
  refine zc (zw zz rfl rfl rfl (zg zz rfl)) (exec_c2 rfl (zg zz rfl) (zg zz rfl)) (CU) (fun e x9 hx => ?_)
  obtain ⟨t2, rfl, CS⟩ := hx
  replace h := h t2
  refine ⟨_, rfl, ?_⟩
  refine zc (zw zz rfl rfl rfl (zg zz rfl)) (exec_c2 rfl (zg zz rfl) (zg zz rfl)) (CS) (fun e x10 hx => ?_)
  obtain ⟨rfl, HF⟩ := hx
  refine ⟨_, rfl, ?_⟩
  refine zv rfl (exec_pickT rfl (zg zz rfl) (zg zz rfl)) ?_
  refine zv rfl (exec_assign rfl (zg zz rfl)) ?_
  exact ze rfl (h _ _ (HF) rfl)
end Go.Proofs.YtldlljobofnmmabDoor

namespace Go.Proofs.YtldlljobofnmmabDoor
open Go.Shelf
def keysA_ren : Go.Shelf.Ren := ⟨fun | 7 => 41 | 10 => 47 | n => n, fun | 23 => 97 | 26 => 9 | 3 => 98 | 28 => 95 | 0 => 0 | 27 => 94 | 33 => 104 | 4 => 4 | n => n, fun | n => n⟩
theorem keysA : Go.Proofs.SlLaysZ.n7 Tryd.prog keysA_ren := {
  mixed := by kernel_rfl
  f7 := ⟨Tryd.f41.name, by decide, Tryd.func41.trans (congrArg some (by kernel_rfl))⟩
  f10 := ⟨Tryd.f47.name, by decide, Tryd.func47.trans (congrArg some (by kernel_rfl))⟩
  t0 := Tryd.underlying0
  a0 := Tryd.isAgg0
  z0 := Tryd.sizeOf0
  v0 := Tryd.zeroValue0
  t4 := Tryd.underlying4
  a4 := Tryd.isAgg4
  z4 := Tryd.sizeOf4
  v4 := Tryd.zeroValue4
  t23 := Tryd.underlying97
  a23 := Tryd.isAgg97
  z23 := Tryd.sizeOf97
  v23 := Tryd.zeroValue97
  t26 := Tryd.underlying9
  a26 := Tryd.isAgg9
  z26 := Tryd.sizeOf9
  v26 := Tryd.zeroValue9
  t27 := Tryd.underlying94
  a27 := Tryd.isAgg94
  z27 := Tryd.sizeOf94
  v27 := Tryd.zeroValue94
  t28 := Tryd.underlying95
  a28 := Tryd.isAgg95
  z28 := Tryd.sizeOf95
  v28 := Tryd.zeroValue95
  t33 := Tryd.underlying104
  a33 := Tryd.isAgg104
  z33 := Tryd.sizeOf104
  v33 := Tryd.zeroValue104 }
def sortedA_ren : Go.Shelf.Ren := ⟨fun | 6 => 40 | 8 => 45 | 9 => 46 | 11 => 51 | 13 => 53 | 12 => 52 | 23 => 67 | 24 => 68 | 14 => 58 | 15 => 59 | 16 => 60 | 17 => 61 | 18 => 62 | 19 => 63 | 20 => 64 | 21 => 65 | 22 => 66 | 25 => 70 | 26 => 71 | 27 => 72 | 28 => 73 | 29 => 74 | 30 => 75 | 31 => 77 | n => n, fun | 26 => 9 | 28 => 95 | 24 => 77 | 0 => 0 | 3 => 3 | 37 => 92 | 48 => 127 | 50 => 105 | 4 => 4 | 40 => 119 | 39 => 118 | 45 => 124 | 5 => 5 | 9 => 9 | 51 => 130 | 55 => 134 | 57 => 137 | 58 => 138 | 33 => 104 | n => n, fun | n => n⟩
theorem sortedA : Go.Proofs.SlLaysZ.n6 Tryd.prog sortedA_ren := {
  mixed := by kernel_rfl
  f6 := ⟨Tryd.f40.name, by decide, Tryd.func40.trans (congrArg some (by kernel_rfl))⟩
  f8 := ⟨Tryd.f45.name, by decide, Tryd.func45.trans (congrArg some (by kernel_rfl))⟩
  f11 := ⟨Tryd.f51.name, by decide, Tryd.func51.trans (congrArg some (by kernel_rfl))⟩
  t0 := Tryd.underlying0
  a0 := Tryd.isAgg0
  z0 := Tryd.sizeOf0
  v0 := Tryd.zeroValue0
  t24 := Tryd.underlying77
  a24 := Tryd.isAgg77
  z24 := Tryd.sizeOf77
  v24 := Tryd.zeroValue77
  t26 := Tryd.underlying9
  a26 := Tryd.isAgg9
  z26 := Tryd.sizeOf9
  v26 := Tryd.zeroValue9
  t28 := Tryd.underlying95
  a28 := Tryd.isAgg95
  z28 := Tryd.sizeOf95
  v28 := Tryd.zeroValue95
  i26 := by kernel_rfl }
def sortA_ren : Go.Shelf.Ren := ⟨fun | 6 => 46 | 8 => 53 | 9 => 52 | 19 => 67 | 20 => 68 | 21 => 58 | 22 => 59 | 23 => 60 | 24 => 61 | 25 => 62 | 26 => 63 | 27 => 64 | 28 => 65 | 29 => 66 | 36 => 70 | 31 => 71 | 32 => 72 | 37 => 73 | 38 => 74 | 39 => 75 | 41 => 77 | n => n, fun | 27 => 77 | 29 => 9 | 3 => 3 | 32 => 92 | 26 => 77 | 0 => 0 | 44 => 127 | 46 => 105 | 4 => 4 | 36 => 119 | 35 => 118 | 41 => 124 | 5 => 5 | 9 => 9 | 53 => 130 | 57 => 134 | 63 => 137 | 64 => 138 | n => n, fun | n => n⟩
theorem sortA : Go.Proofs.SlLaysM.n6 Tryd.prog sortA_ren := {
  mixed := by kernel_rfl
  f6 := ⟨Tryd.f46.name, by decide, Tryd.func46.trans (congrArg some (by kernel_rfl))⟩
  f8 := Tryd.func53.trans (congrArg some (by kernel_rfl))
  f9 := ⟨Tryd.f52.name, by decide, Tryd.func52.trans (congrArg some (by kernel_rfl))⟩
  f19 := Tryd.func67.trans (congrArg some (by kernel_rfl))
  f20 := Tryd.func68.trans (congrArg some (by kernel_rfl))
  f21 := ⟨Tryd.f58.name, by decide, Tryd.func58.trans (congrArg some (by kernel_rfl))⟩
  f22 := ⟨Tryd.f59.name, by decide, Tryd.func59.trans (congrArg some (by kernel_rfl))⟩
  f23 := ⟨Tryd.f60.name, by decide, Tryd.func60.trans (congrArg some (by kernel_rfl))⟩
  f24 := ⟨Tryd.f61.name, by decide, Tryd.func61.trans (congrArg some (by kernel_rfl))⟩
  f25 := ⟨Tryd.f62.name, by decide, Tryd.func62.trans (congrArg some (by kernel_rfl))⟩
  f26 := ⟨Tryd.f63.name, by decide, Tryd.func63.trans (congrArg some (by kernel_rfl))⟩
  f27 := ⟨Tryd.f64.name, by decide, Tryd.func64.trans (congrArg some (by kernel_rfl))⟩
  f28 := ⟨Tryd.f65.name, by decide, Tryd.func65.trans (congrArg some (by kernel_rfl))⟩
  f29 := ⟨Tryd.f66.name, by decide, Tryd.func66.trans (congrArg some (by kernel_rfl))⟩
  f31 := Tryd.func71.trans (congrArg some (by kernel_rfl))
  f32 := Tryd.func72.trans (congrArg some (by kernel_rfl))
  f36 := ⟨Tryd.f70.name, by decide, Tryd.func70.trans (congrArg some (by kernel_rfl))⟩
  f37 := ⟨Tryd.f73.name, by decide, Tryd.func73.trans (congrArg some (by kernel_rfl))⟩
  f38 := ⟨Tryd.f74.name, by decide, Tryd.func74.trans (congrArg some (by kernel_rfl))⟩
  f39 := ⟨Tryd.f75.name, by decide, Tryd.func75.trans (congrArg some (by kernel_rfl))⟩
  f41 := ⟨Tryd.f77.name, by decide, Tryd.func77.trans (congrArg some (by kernel_rfl))⟩
  t0 := Tryd.underlying0
  a0 := Tryd.isAgg0
  z0 := Tryd.sizeOf0
  v0 := Tryd.zeroValue0
  t3 := Tryd.underlying3
  a3 := Tryd.isAgg3
  z3 := Tryd.sizeOf3
  v3 := Tryd.zeroValue3
  t4 := Tryd.underlying4
  a4 := Tryd.isAgg4
  z4 := Tryd.sizeOf4
  v4 := Tryd.zeroValue4
  t5 := Tryd.underlying5
  a5 := Tryd.isAgg5
  z5 := Tryd.sizeOf5
  v5 := Tryd.zeroValue5
  t9 := Tryd.underlying9
  a9 := Tryd.isAgg9
  z9 := Tryd.sizeOf9
  v9 := Tryd.zeroValue9
  t26 := Tryd.underlying77
  a26 := Tryd.isAgg77
  z26 := Tryd.sizeOf77
  v26 := Tryd.zeroValue77
  t27 := Tryd.underlying77
  a27 := Tryd.isAgg77
  z27 := Tryd.sizeOf77
  v27 := Tryd.zeroValue77
  t29 := Tryd.underlying9
  a29 := Tryd.isAgg9
  z29 := Tryd.sizeOf9
  v29 := Tryd.zeroValue9
  t32 := Tryd.underlying92
  a32 := Tryd.isAgg92
  z32 := Tryd.sizeOf92
  v32 := Tryd.zeroValue92
  t35 := Tryd.underlying118
  a35 := Tryd.isAgg118
  z35 := Tryd.sizeOf118
  v35 := Tryd.zeroValue118
  t36 := Tryd.underlying119
  a36 := Tryd.isAgg119
  z36 := Tryd.sizeOf119
  v36 := Tryd.zeroValue119
  t41 := Tryd.underlying124
  a41 := Tryd.isAgg124
  z41 := Tryd.sizeOf124
  v41 := Tryd.zeroValue124
  t44 := Tryd.underlying127
  a44 := Tryd.isAgg127
  z44 := Tryd.sizeOf127
  v44 := Tryd.zeroValue127
  t46 := Tryd.underlying105
  a46 := Tryd.isAgg105
  z46 := Tryd.sizeOf105
  v46 := Tryd.zeroValue105
  t53 := Tryd.underlying130
  a53 := Tryd.isAgg130
  z53 := Tryd.sizeOf130
  v53 := Tryd.zeroValue130
  t57 := Tryd.underlying134
  a57 := Tryd.isAgg134
  z57 := Tryd.sizeOf134
  v57 := Tryd.zeroValue134
  t63 := Tryd.underlying137
  a63 := Tryd.isAgg137
  z63 := Tryd.sizeOf137
  v63 := Tryd.zeroValue137
  t64 := Tryd.underlying138
  a64 := Tryd.isAgg138
  z64 := Tryd.sizeOf138
  v64 := Tryd.zeroValue138 }
end Go.Proofs.YtldlljobofnmmabDoor

namespace Go.Proofs.YtldlljobofnmmabDoor
open Go.RowKit
set_option linter.unusedVariables false
set_option linter.unusedSimpArgs false

theorem ix_txs {b o m c i : Nat} (hi : i < m) (hm : m ≤ 9223372036854775807) (W : World) : (Instr.indexAt 77 (.slice (some ⟨b, o, none⟩) m c) (.int .i64 (i : Int))).run Tryd.prog W = .ok (.pointer (some ⟨b, o + i, none⟩)) W := by
  go_simp
theorem ex_netx {w : World} {a : Act} {o : Oper} {x y : Operand} {s : ByteArray} (ho : o.op = .binOp .neq 9 x y 9) (hx : a.eval x = .string s) (hy : a.eval y = .string s) : (execOp a.eval o).run Tryd.prog w = .ok (.value (.bool false)) w := by
  refine exec_binOp ho hx hy ?_ ?_
  · kernel_rfl
  · have : (s.toList != s.toList) = false := by simp
    go_simp
def key3_o0 : Oper := { dst := some 7, op := Op.move (Operand.tmp 0), type := 25, pos := "regs.go:158", after := #[], guard := none }
def key3_o1 : Oper := { dst := some 8, op := Op.nilCheck (Operand.tmp 7), type := 0, pos := "regs.go:158", after := #[{ on := 0, ground := Ground.data }], guard := none }
def key3_o2 : Oper := { dst := some 9, op := Op.fieldAddr 69 (Operand.tmp 8) 1, type := 0, pos := "regs.go:158", after := #[{ on := 1, ground := Ground.data }], guard := none }
def key3_o3 : Oper := { dst := some 10, op := Op.load 67 (Operand.tmp 9), type := 67, pos := "regs.go:158", after := #[{ on := 2, ground := Ground.data }], guard := none }
def key3_o4 : Oper := { dst := some 11, op := Op.load 32 (Operand.tmp 3), type := 32, pos := "regs.go:158", after := #[], guard := none }
def key3_o5 : Oper := { dst := some 12, op := Op.lookup 67 (Operand.tmp 10) (Operand.tmp 11) false, type := 97, pos := "regs.go:158", after := #[{ on := 3, ground := Ground.data }, { on := 4, ground := Ground.data }], guard := none }
def key3_o6 : Oper := { dst := some 13, op := Op.call { callee := Callee.value (Operand.func 41), args := #[Operand.tmp 12], argTypes := #[97] }, type := 95, pos := "regs.go:158", after := #[{ on := 5, ground := Ground.data }], guard := none }
def key3_o7 : Oper := { dst := some 14, op := Op.call { callee := Callee.value (Operand.func 40), args := #[Operand.tmp 13], argTypes := #[95] }, type := 77, pos := "regs.go:158", after := #[{ on := 6, ground := Ground.data }, { on := 6, ground := Ground.chain }], guard := none }
def key3_o8 : Oper := { dst := some 4, op := Op.assign (Operand.tmp 14), type := 77, pos := "regs.go:158", after := #[{ on := 7, ground := Ground.data }, { on := 7, ground := Ground.chain }, { on := 0, ground := Ground.phase }, { on := 1, ground := Ground.phase }, { on := 2, ground := Ground.phase }, { on := 3, ground := Ground.phase }, { on := 4, ground := Ground.phase }, { on := 5, ground := Ground.phase }, { on := 6, ground := Ground.phase }, { on := 7, ground := Ground.phase }], guard := none }
def key3_ops : Array Oper := #[key3_o0, key3_o1, key3_o2, key3_o3, key3_o4, key3_o5, key3_o6, key3_o7, key3_o8]
set_option maxRecDepth 100000 in
set_option maxHeartbeats 4000000 in
theorem key3 {rb mb ob : Nat} {y : IdK} {mv : Value} (S : World → Prop) (Fin : Value → World → Prop) (a : Act) (w : World) (Q : Exit → Act → World → Prop) (zz : a.tmps.size = 15)
    (t0 : a.tmps.getD 0 undef = .pointer (some ⟨rb, 0, none⟩))
    (t3 : a.tmps.getD 3 undef = .pointer (some ⟨ob, 0, none⟩))
    (h0 : S w.drew) (L1 : ∀ W, S W → (Instr.loadAt 67 (.pointer (some ⟨rb, 0 + 1, none⟩))).run Tryd.prog W = .ok (.map (some mb)) W) (L2 : ∀ W, S W → (Instr.loadAt 32 (.pointer (some ⟨ob, 0, none⟩))).run Tryd.prog W = .ok (y.v) W) (LK : ∀ W, S W → (Instr.lookup 67 (.map (some mb)) y.v false).run Tryd.prog W = .ok mv W) (CK : Calls Tryd.prog 41 #[mv] w.drew fun e w1 => ∃ fv, e = .returned fv ∧ S w1 ∧ Calls Tryd.prog 40 #[fv] w1 fun e w' => ∃ u, e = .returned u ∧ S w' ∧ Fin u w')
    (h : ∀ (fv u : Value) (a' : Act) (w' : World), Fin u w' → a' = (((((((((a).put (some 7) (.pointer (some ⟨rb, 0, none⟩))).put (some 8) (.pointer (some ⟨rb, 0, none⟩))).put (some 9) (.pointer (some ⟨rb, 0 + 1, none⟩))).put (some 10) (.map (some mb))).put (some 11) (y.v)).put (some 12) (mv)).put (some 13) (fv)).put (some 14) (u)).put (some 4) (u) → Q .normal a' w') :
    (Code.region 3 key3_ops true).wp Tryd.prog Q a w := by
  refine y0 (fun w' => S w') (h0) (fun hHeld => ?_)
  refine yv 0 rfl rfl (fun w1 hw => exec_move rfl (zi t0 rfl)) hHeld ?_
  refine yv 1 rfl rfl (fun w1 hw => exec_nilCheck rfl (zg zz rfl)) hHeld ?_
  refine yv 2 rfl rfl (fun w1 hw => exec_fieldAt rfl (zg zz rfl) (fg_69_1 _ _ _)) hHeld ?_
  refine yv 3 rfl rfl (fun w1 hw => exec_load rfl (zg zz rfl) (L1 _ hw)) hHeld ?_
  refine yv 4 rfl rfl (fun w1 hw => exec_load rfl (zi t3 rfl) (L2 _ hw)) hHeld ?_
  refine yv (v := mv) 5 rfl rfl (fun w1 hw => exec_lookup rfl (zg zz rfl) (zg zz rfl) (LK _ hw)) hHeld ?_
  refine yc 6 rfl rfl (exec_c1 rfl (zg zz rfl)) (CK) (fun e x6 hx => ?_)
  obtain ⟨fv, rfl, S1, CS⟩ := hx
  replace h := h fv
  refine ⟨_, rfl, S1, fun hHeld => ?_⟩
  refine yc 7 rfl rfl (exec_c1 rfl (zg zz rfl)) (CS) (fun e x7 hx => ?_)
  obtain ⟨u, rfl, S2, HF⟩ := hx
  replace h := h u
  refine ⟨_, rfl, S2, fun hHeld => ?_⟩
  refine yv 8 rfl rfl (fun w1 hw => exec_assign rfl (zg zz rfl)) hHeld ?_
  exact ye rfl (h _ _ (HF) rfl)
def smt6_o0 : Oper := { dst := some 17, op := Op.move (Operand.tmp 0), type := 77, pos := "mem.go:153", after := #[], guard := none }
def smt6_o1 : Oper := { dst := some 18, op := Op.move (Operand.tmp 5), type := 3, pos := "mem.go:153", after := #[], guard := none }
def smt6_o2 : Oper := { dst := some 19, op := Op.indexAddr 77 (Operand.tmp 17) (Operand.tmp 18), type := 0, pos := "mem.go:153", after := #[{ on := 0, ground := Ground.data }, { on := 1, ground := Ground.data }], guard := none }
def smt6_o3 : Oper := { dst := some 20, op := Op.load 9 (Operand.tmp 19), type := 9, pos := "mem.go:153", after := #[{ on := 2, ground := Ground.data }], guard := none }
def smt6_o4 : Oper := { dst := some 21, op := Op.move (Operand.tmp 1), type := 77, pos := "mem.go:153", after := #[], guard := none }
def smt6_o5 : Oper := { dst := some 22, op := Op.move (Operand.tmp 5), type := 3, pos := "mem.go:153", after := #[], guard := none }
def smt6_o6 : Oper := { dst := some 23, op := Op.indexAddr 77 (Operand.tmp 21) (Operand.tmp 22), type := 0, pos := "mem.go:153", after := #[{ on := 4, ground := Ground.data }, { on := 5, ground := Ground.data }], guard := none }
def smt6_o7 : Oper := { dst := some 24, op := Op.load 9 (Operand.tmp 23), type := 9, pos := "mem.go:153", after := #[{ on := 6, ground := Ground.data }], guard := none }
def smt6_o8 : Oper := { dst := some 25, op := Op.binOp BinOp.neq 9 (Operand.tmp 20) (Operand.tmp 24) 9, type := 4, pos := "mem.go:153", after := #[{ on := 3, ground := Ground.data }, { on := 7, ground := Ground.data }], guard := none }
def smt6_ops : Array Oper := #[smt6_o0, smt6_o1, smt6_o2, smt6_o3, smt6_o4, smt6_o5, smt6_o6, smt6_o7, smt6_o8]
set_option maxRecDepth 100000 in
set_option maxHeartbeats 4000000 in
theorem smt6 {g o n c g2 o2 d i : Nat} {s : ByteArray} (a : Act) (w : World) (Q : Exit → Act → World → Prop) (zz : a.tmps.size = 26)
    (t0 : a.tmps.getD 0 undef = .slice (some ⟨g, o, none⟩) n c)
    (t1 : a.tmps.getD 1 undef = .slice (some ⟨g2, o2, none⟩) n d)
    (t5 : a.tmps.getD 5 undef = .int .i64 (i : Int))
    (hi : i < n) (hm : n ≤ 9223372036854775807) (L1 : ∀ W, W = w.drew → (Instr.loadAt 9 (.pointer (some ⟨g, o + i, none⟩))).run Tryd.prog W = .ok (.string s) W) (L2 : ∀ W, W = w.drew → (Instr.loadAt 9 (.pointer (some ⟨g2, o2 + i, none⟩))).run Tryd.prog W = .ok (.string s) W)
    (h : ∀ (a' : Act) (w' : World), w' = w.drew → a' = (((((((((a).put (some 17) (.slice (some ⟨g, o, none⟩) n c)).put (some 18) (.int .i64 (i : Int))).put (some 19) (.pointer (some ⟨g, o + i, none⟩))).put (some 20) (.string s)).put (some 21) (.slice (some ⟨g2, o2, none⟩) n d)).put (some 22) (.int .i64 (i : Int))).put (some 23) (.pointer (some ⟨g2, o2 + i, none⟩))).put (some 24) (.string s)).put (some 25) (.bool false) → Q .normal a' w') :
    (Code.region 6 smt6_ops true).wp Tryd.prog Q a w := by
  refine y0 (fun w' => w' = w.drew) (rfl) (fun hHeld => ?_)
  refine yv 0 rfl rfl (fun w1 hw => exec_move rfl (zi t0 rfl)) hHeld ?_
  refine yv 1 rfl rfl (fun w1 hw => exec_move rfl (zi t5 rfl)) hHeld ?_
  refine yv 2 rfl rfl (fun w1 hw => exec_indexAt rfl (zg zz rfl) (zg zz rfl) (ix_txs hi hm _)) hHeld ?_
  refine yv 3 rfl rfl (fun w1 hw => exec_load rfl (zg zz rfl) (L1 _ hw)) hHeld ?_
  refine yv 4 rfl rfl (fun w1 hw => exec_move rfl (zi t1 rfl)) hHeld ?_
  refine yv 5 rfl rfl (fun w1 hw => exec_move rfl (zi t5 rfl)) hHeld ?_
  refine yv 6 rfl rfl (fun w1 hw => exec_indexAt rfl (zg zz rfl) (zg zz rfl) (ix_txs hi hm _)) hHeld ?_
  refine yv 7 rfl rfl (fun w1 hw => exec_load rfl (zg zz rfl) (L2 _ hw)) hHeld ?_
  refine yv (v := .bool false) 8 rfl rfl (fun w1 hw => ex_netx rfl (zg zz rfl) (zg zz rfl)) hHeld ?_
  exact ye rfl (h _ _ (hHeld) rfl)
end Go.Proofs.YtldlljobofnmmabDoor

namespace Go.Proofs.YtldlljobofnmmabDoor
open Go.RowKit
set_option linter.unusedVariables false
set_option linter.unusedSimpArgs false

def pA : PlK := ⟨zId, ⟨#[97]⟩, zId⟩
theorem pA_ok : pA.ok := ⟨zId_ok, by decide, zId_ok⟩
def idN (n : Int) : IdK := { zId with n := n }
theorem idN_ok {n : Int} (h : -9223372036854775808 ≤ n ∧ n ≤ 9223372036854775807) : (idN n).ok := ⟨zId_ok.l, h.1, h.2⟩
set_option maxRecDepth 100000 in
theorem build_pA (w : World) : (Instr.build 34 #[(1, .string ⟨#[97]⟩)]).run Tryd.prog w = .ok pA.v w := by kernel_rfl
set_option maxRecDepth 100000 in
theorem build_i1 (w : World) : (Instr.build 32 #[(1, .int .i64 1)]).run Tryd.prog w = .ok (idN 1).v w := by kernel_rfl
set_option maxRecDepth 100000 in
theorem build_i2 (w : World) : (Instr.build 32 #[(1, .int .i64 2)]).run Tryd.prog w = .ok (idN 2).v w := by kernel_rfl
def vC (n : Int) : VaV := ⟨7, n, 0, ⟨#[]⟩⟩
theorem vC_ok {n : Int} (h : -9223372036854775808 ≤ n ∧ n ≤ 9223372036854775807) : (vC n).ok := ⟨by show (0 : Int) ≤ 7; decide, by show (7 : Int) ≤ 255; decide, h.1, h.2, by show (0 : Nat) < _; decide, by show (0 : Nat) ≤ _; decide⟩
theorem build_vC (w : World) : (Instr.build 39 #[(0, .int .u8 7), (1, .int .i64 5)]).run Tryd.prog w = .ok (vC 5).v w := by kernel_rfl
theorem build_v0 (w : World) : (Instr.build 39 #[]).run Tryd.prog w = .ok zVa.v w := by kernel_rfl
theorem sum_live : sumV 3 (vC 5) = vC 8 := by decide +kernel
/-- How many places there are, where only one has something. -/
theorem one_place {w : World} {base : Nat} {s : Rs} (m : RgM w base s) {p : PlK} (h : ∀ q, liOf s.P q ≠ [] ↔ q = p) : s.P.length = 1 := by
  have hk := m.places
  have hin : ∀ q ∈ s.P, q.1 = p := fun q hq => (h q.1).1 (by
    unfold liOf
    rw [M.look_of_mem hk (show (q.1, q.2) ∈ s.P from hq)]
    exact (m.en q hq).2.1)
  have hne : s.P ≠ [] := fun e => by
    have := (h p).2 rfl
    rw [e] at this
    exact this rfl
  match hP : s.P with
  | [] => exact absurd hP hne
  | [q] => rfl
  | q :: r :: l =>
    rw [hP] at hk hin
    have h1 := hin q (by simp)
    have h2 := hin r (by simp)
    simp [h1, h2] at hk
theorem RgM.geAll {w : World} {base : Nat} {s : Rs} (h : RgM w base s) {j : Nat} (hj : s.all j) : base ≤ j := by
  rcases hj with hj | ⟨q, hq, e⟩
  · exact h.lo j hj
  · exact ((h.en q hq).1.cells e).1
/-- live's state. -/
structure LSt (w : World) (r0 pb xb yb : Nat) (p : PlK) (x y : IdK) (s : Rs) (H : List Rec) (L : List EnV) (W : World) : Prop where
  ra : RgAt W w.heap.size s H
  bel : Below w.heap.size w W
  np : W.heap[pb]? = some (.cells p.c.toArray 34 (0, 0))
  nx : W.heap[xb]? = some (.cells x.c.toArray 32 (0, 0))
  ny : W.heap[yb]? = some (.cells y.c.toArray 32 (0, 0))
  li : ∀ q, liOf s.P q = if q = p then L else []
  r : s.r = r0
section
variable {w W W' : World} {r0 pb xb yb : Nat} {p : PlK} {x y : IdK} {s : Rs} {H : List Rec} {L : List EnV}
theorem LSt.below (h : LSt w r0 pb xb yb p x y s H L W) (b : Below W.heap.size W W') : LSt w r0 pb xb yb p x y s H L W' :=
  ⟨h.ra.below b, h.bel.trans (b.mono h.bel.size), (b.block _ (Array.getElem?_eq_some_iff.1 h.np).1).trans h.np, (b.block _ (Array.getElem?_eq_some_iff.1 h.nx).1).trans h.nx, (b.block _ (Array.getElem?_eq_some_iff.1 h.ny).1).trans h.ny, h.li, h.r⟩
theorem LSt.tch (h : LSt w r0 pb xb yb p x y s H L W) (t : Tch s.all W W') : Below w.heap.size w W' ∧ W'.heap[pb]? = some (.cells p.c.toArray 34 (0, 0)) ∧ W'.heap[xb]? = some (.cells x.c.toArray 32 (0, 0)) ∧ W'.heap[yb]? = some (.cells y.c.toArray 32 (0, 0)) := by
  have go : ∀ {j : Nat} {c : Array Value} {ty : TypeId}, W.heap[j]? = some (.cells c ty (0, 0)) → ty ≠ 69 → ty ≠ 65 → W'.heap[j]? = some (.cells c ty (0, 0)) := fun h1 h2 h3 => (t.block _ (Array.getElem?_eq_some_iff.1 h1).1 (h.ra.mem.other h1 h2 h3)).trans h1
  exact ⟨h.bel.trans (t.below h.bel.size (fun j hj => h.ra.mem.geAll hj)), go h.np (by decide) (by decide), go h.nx (by decide) (by decide), go h.ny (by decide) (by decide)⟩
theorem LSt.op (h : LSt w r0 pb xb yb p x y s H L W) {L' : List EnV} {rc : Rec} {s' : Rs} (o : OpN W w.heap.size s H p L' rc s' W') : LSt w r0 pb xb yb p x y s' (rc :: H) L' W' := by
  obtain ⟨h1, h2, h3, h4⟩ := h.tch o.tch
  refine ⟨o.at', h1, h2, h3, h4, fun q => ?_, o.r.trans h.r⟩
  rw [o.li]
  by_cases e : q = p
  · rw [if_pos e, if_pos e]
  · rw [if_neg e, if_neg e, h.li, if_neg e]
theorem LSt.here (h : LSt w r0 pb xb yb p x y s H L W) : liOf s.P p = L := by rw [h.li, if_pos rfl]
end
end Go.Proofs.YtldlljobofnmmabDoor

namespace Go.Proofs.YtldlljobofnmmabDoor
open Go.RowKit
set_option linter.unusedVariables false
set_option linter.unusedSimpArgs false

/-- live's state behind a step. -/
def LFin (w : World) (r0 pb xb yb : Nat) (p : PlK) (x y : IdK) (n0 : Nat) (L0 : List EnV) (H : List Rec) (L : List EnV) (bk : Nat) (W : World) : Prop := ∃ rc s', rc.bk = bk ∧ LSt w r0 pb xb yb p x y s' (rc :: H) L W ∧ n0 ≤ rc.bk ∧ rc.p = p ∧ rc.bef = L0
section
variable {w W : World} {r0 pb xb yb : Nat} {p : PlK} {x y : IdK} {s : Rs} {H : List Rec} {L L' : List EnV} {F : Nat} {vs : Array Value}
theorem LSt.fin (h : LSt w r0 pb xb yb p x y s H L W) (c : Calls Tryd.prog F vs W (OpE W w.heap.size s H p L')) : Calls Tryd.prog F vs W fun e w' => ∃ bk, e = .returned (.pointer (some ⟨bk, 0, none⟩)) ∧ LFin w r0 pb xb yb p x y W.heap.size L H L' bk w' := by
  refine c.mono ?_
  rintro e w' ⟨rc, s', rfl, o⟩
  exact ⟨_, rfl, rc, s', rfl, h.op o, o.new, o.rp, o.rb.trans h.here⟩
theorem LSt.put (h : LSt w r0 pb xb yb p x y s H L W) (hp : p.ok) {i : IdK} (hi : i.ok) {v : VaV} (hv : v.ok) (hn : L.length ≤ 1000) : Calls Tryd.prog 15 #[.pointer (some ⟨r0, 0, none⟩), p.v, i.v, v.v, .nilFunc] W fun e w' => ∃ bk, e = .returned (.pointer (some ⟨bk, 0, none⟩)) ∧ LFin w r0 pb xb yb p x y W.heap.size L H (L ++ [⟨i, v⟩]) bk w' := by
  have c := put_any h.ra h.bel.size hp hi hv (fv := .nilFunc) (sn := fun _ => false) (.inl ⟨rfl, fun _ => rfl⟩) (by rw [h.here]; omega)
  rw [h.here, h.r] at c
  have e : Rg.res (fun y : EnV => (fun _ : IdK => false) y.id) L = L := List.filter_eq_self.2 fun _ _ => rfl
  rw [e] at c
  exact h.fin c
theorem LSt.ld (h : LSt w r0 pb xb yb p x y s H L W) (hp : p.ok) : ∀ V, V = W → (Instr.loadAt 34 (.pointer (some ⟨pb, 0, none⟩))).run Tryd.prog V = .ok p.v V := fun V e => by rw [e]; exact ld_pl hp (rng_cells h.np)
theorem LSt.ldx (h : LSt w r0 pb xb yb p x y s H L W) (hx : x.ok) : ∀ V, V = W → (Instr.loadAt 32 (.pointer (some ⟨xb, 0, none⟩))).run Tryd.prog V = .ok x.v V := fun V e => by rw [e]; exact load_id hx h.nx
theorem LSt.ldy (h : LSt w r0 pb xb yb p x y s H L W) (hy : y.ok) : ∀ V, V = W → (Instr.loadAt 32 (.pointer (some ⟨yb, 0, none⟩))).run Tryd.prog V = .ok y.v V := fun V e => by rw [e]; exact load_id hy h.ny
theorem LSt.ent (h : LSt w r0 pb xb yb p x y s H L W) (hp : p.ok) (hn : L.length ≤ 1000) : Calls Tryd.prog 10 #[.pointer (some ⟨r0, 0, none⟩), p.v] W fun e w' => ∃ u, e = .returned u ∧ (RN.Own w' W.heap.size u L ∧ LSt w r0 pb xb yb p x y s H L w') := by
  have c := entries_any h.ra.mem hp (by rw [h.here]; omega)
  rw [h.here, h.r] at c
  refine c.mono ?_
  rintro e w' ⟨v, rfl, o, b⟩
  exact ⟨v, rfl, o, h.below b⟩
end
set_option maxRecDepth 100000 in
set_option maxHeartbeats 8000000 in
theorem live_gen (w : World) (p : PlK) (hp : p.ok) (x y : IdK) (hx : x.ok) (hy : y.ok) (v5 v8 v0 : VaV) (h5 : v5.ok) (h0 : v0.ok) (h8 : v8.n = 8) (hs : sumV 3 v5 = v8) (h8k : v8.ok)
    (BP : Hid (∀ w, (Instr.build 34 #[(1, .string ⟨#[97]⟩)]).run Tryd.prog w = .ok p.v w)) (BX : Hid (∀ w, (Instr.build 32 #[(1, .int .i64 1)]).run Tryd.prog w = .ok x.v w)) (BY : Hid (∀ w, (Instr.build 32 #[(1, .int .i64 2)]).run Tryd.prog w = .ok y.v w))
    (BV : Hid (∀ w, (Instr.build 39 #[(0, .int .u8 7), (1, .int .i64 5)]).run Tryd.prog w = .ok v5.v w)) (B0 : Hid (∀ w, (Instr.build 39 #[]).run Tryd.prog w = .ok v0.v w)) :
    Calls Tryd.prog 5 #[] w fun e w' => e = .returned (.bool true) ∧ Below w.heap.size w w' := by
  have HN := hidMk (newR_any w)
  have HV := hidMk (And.intro h5 (And.intro h0 (And.intro h8 (And.intro hs h8k))))
  clear h5 h0 h8 hs h8k
  go_enter Tryd.func5, Tryd.ntmps5
  go_upto_region 2 with (first
    | (go_at_call 6; refine HN.out.mono ?_; rintro e w1 ⟨s, rfl, ra, rl, rp, b1⟩; clear HN)
    | fail)
  obtain ⟨w2, w3, e2, e3, n3, b3⟩ := pl_new w1 hp
  obtain ⟨w4, w5, e4, e5, n5, b5⟩ := id_newR w3 hx
  obtain ⟨w6, w7, e6, e7, n7, b7⟩ := id_newR w5 hy
  have b37 := b5.trans (b7.mono b5.size)
  have b17 := b3.trans (b37.mono b3.size)
  have st7 : Hid (LSt w s.r w1.heap.size w3.heap.size w5.heap.size p x y s [] [] w7) := ⟨ra.below b17, b1.trans (b17.mono b1.size), (b37.block _ (Array.getElem?_eq_some_iff.1 n3).1).trans n3, (b7.block _ (Array.getElem?_eq_some_iff.1 n5).1).trans n5, n7, fun q => by rw [rl]; split <;> rfl, rfl⟩
  generalize w1.heap.size = pb at *
  generalize w3.heap.size = xb at *
  generalize w5.heap.size = yb at *
  generalize s.r = r0 at *
  have HE := hidMk (And.intro e2 (And.intro e3 (And.intro e4 (And.intro e5 (And.intro e6 e7)))))
  clear e2 e3 e4 e5 e6 e7 n3 b3 n5 b5 n7 b7 b37 b17 ra rl rp b1
  refine live2 (b := pb) (u := p.v) (w1 := w2) (w2 := w3) _ w1 _ rfl (BP.out _) HE.out.1 HE.out.2.1 ?_
  intro a' w' hw' ha
  subst ha
  subst hw'
  simp only [Act.put, List.setIfInBounds_toArray, List.set_cons_zero, List.set_cons_succ]
  go_upto_region 3 with fail
  refine live3 (b := xb) (u := x.v) (w1 := w4) (w2 := w5) _ _ _ rfl (BX.out _) HE.out.2.2.1 HE.out.2.2.2.1 ?_
  intro a' w' hw' ha
  subst ha
  subst hw'
  simp only [Act.put, List.setIfInBounds_toArray, List.set_cons_zero, List.set_cons_succ]
  go_upto_region 4 with fail
  refine live4 (b := yb) (u := y.v) (w1 := w6) (w2 := w7) _ _ _ rfl (BY.out _) HE.out.2.2.2.2.1 HE.out.2.2.2.2.2 ?_
  intro a' w' hw' ha
  subst ha
  subst hw'
  simp only [Act.put, List.setIfInBounds_toArray, List.set_cons_zero, List.set_cons_succ]
  clear HE BP BX BY
  go_upto_region 5 with fail
  refine live5 (rb := r0) (pb := pb) (xb := xb) (p := p) (x := x) (v := v5) (LFin w r0 pb xb yb p x y _ [] [] [⟨x, v5⟩]) _ _ _ rfl rfl rfl rfl (BV.out _) (st7.out.ld hp) (st7.out.ldx hx) (st7.out.put hp hx HV.out.1 (by simp)) ?_
  intro bk1 a' w8 hf ha
  subst ha
  simp only [Act.put, List.setIfInBounds_toArray, List.set_cons_zero, List.set_cons_succ]
  obtain ⟨r1, s1, rfl, st8', -⟩ := hf
  have st8 := hidMk st8'
  clear st8' st7
  have CA : Hid (Calls Tryd.prog 16 #[.pointer (some ⟨r0, 0, none⟩), p.v, .int .i64 3, .func (.func 17) #[] #[.pointer (some ⟨xb, 0, none⟩)]] w8 fun e w' => ∃ bk, e = .returned (.pointer (some ⟨bk, 0, none⟩)) ∧ LFin w r0 pb xb yb p x y w8.heap.size [⟨x, v5⟩] [r1] [⟨x, v8⟩] bk w') := by
    have h := st8.out
    have c := add_any h.ra h.bel.size hp (n := 3) (by decide) (.inr ⟨_, _, rfl, tells_live hx h.nx⟩) (by rw [h.here]; simp)
    rw [h.here, h.r] at c
    have e : chs (fun y : EnV => decide (y.id = x)) (sumV 3) [⟨x, v5⟩] = [⟨x, v8⟩] := by
      simp [chs, chg, HV.out.2.2.2.1]
    rw [e] at c
    exact h.fin c
  go_upto_region 6 with fail
  refine live6 (rb := r0) (pb := pb) (xb := xb) (p := p) (LFin w r0 pb xb yb p x y w8.heap.size [⟨x, v5⟩] [r1] [⟨x, v8⟩]) _ _ _ rfl rfl rfl rfl (st8.out.ld hp) CA.out ?_
  intro bk2 a' w9 hf ha
  subst ha
  simp only [Act.put, List.setIfInBounds_toArray, List.set_cons_zero, List.set_cons_succ]
  obtain ⟨r2, s2, rfl, st9', -⟩ := hf
  have st9 := hidMk st9'
  clear st9' CA st8 BV
  go_upto_region 7 with fail
  refine live7 (rb := r0) (pb := pb) (xb := yb) (p := p) (x := y) (v := v0) (LFin w r0 pb xb yb p x y w9.heap.size [⟨x, v8⟩] [r2, r1] [⟨x, v8⟩, ⟨y, v0⟩]) _ _ _ rfl rfl rfl rfl (B0.out _) (st9.out.ld hp) (st9.out.ldy hy) (st9.out.put hp hy HV.out.2.1 (by simp)) ?_
  intro bk3 a' w10 hf ha
  subst ha
  simp only [Act.put, List.setIfInBounds_toArray, List.set_cons_zero, List.set_cons_succ]
  obtain ⟨r3, s3, rfl, st10', hnew, hr3p, hr3b⟩ := hf
  have st10 := hidMk st10'
  have H13 : Hid (r1.bk ≠ r3.bk ∧ r3.p = p ∧ r3.bef = [⟨x, v8⟩]) := by
    have l1 := (Array.getElem?_eq_some_iff.1 st9.out.ra.hist.2.1.b).1
    exact ⟨by omega, hr3p, hr3b⟩
  clear st10' st9 B0 hnew hr3p hr3b
  go_upto_region 8 with fail
  refine live8 (rb := r0) (pb := pb) (p := p) (fun u w' => RN.Own w' w10.heap.size u [⟨x, v8⟩, ⟨y, v0⟩] ∧ LSt w r0 pb xb yb p x y s3 [r3, r2, r1] [⟨x, v8⟩, ⟨y, v0⟩] w') _ _ _ rfl rfl rfl (st10.out.ld hp) (st10.out.ent hp (by simp)) ?_
  intro u a' w11 hf ha
  subst ha
  simp only [Act.put, List.setIfInBounds_toArray, List.set_cons_zero, List.set_cons_succ]
  obtain ⟨ou, st11'⟩ := hf
  have ok2 : ∀ z ∈ ([⟨x, v8⟩, ⟨y, v0⟩] : List EnV), z.ok := fun z hz => by
    simp at hz
    rcases hz with rfl | rfl
    · exact ⟨hx, HV.out.2.2.2.2⟩
    · exact ⟨hy, HV.out.2.1⟩
  obtain ⟨ua, uc, rfl, hat, -⟩ := ou.lo.open RN_is ok2
  obtain ⟨g, o, rfl, hg1, hg2⟩ : ∃ g o, ua = some ⟨g, o, none⟩ ∧ w11.rangeAt g (o + 37 * 0) (EnV.c ⟨x, v8⟩) ∧ w11.rangeAt g (o + 37 * 1) (EnV.c ⟨y, v0⟩) := by
    rcases hat with h | ⟨g, o, e, h1, h2⟩
    · cases h
    · exact ⟨g, o, e, h2 0 _ rfl, h2 1 _ rfl⟩
  have st11 := hidMk (st11'.below (Below.refl w11.heap.size w11).drew)
  have LL : Hid ((∀ W, W = w11.drew → (Instr.loadAt 32 (.pointer (some ⟨g, o + 37 * 0 + 0, none⟩))).run Tryd.prog W = .ok x.v W) ∧ (∀ W, W = w11.drew → (Instr.loadAt 2 (.pointer (some ⟨g, o + 37 * 0 + 33 + 1, none⟩))).run Tryd.prog W = .ok (.int .i64 8) W) ∧ (∀ W, W = w11.drew → (Instr.loadAt 32 (.pointer (some ⟨g, o + 37 * 1 + 0, none⟩))).run Tryd.prog W = .ok y.v W)) := by
    refine ⟨fun W e => ?_, fun W e => ?_, fun W e => ?_⟩
    · rw [e]; exact en_id (x := ⟨x, v8⟩) (w := w11.drew) (ok2 _ (by simp)) hg1
    · rw [e]
      have hc : w11.drew.cell? ⟨g, o + 37 * 0 + 33 + 1, none⟩ = some (.int .i64 v8.n) := rng_va (x := ⟨x, v8⟩) (w := w11.drew) (ok2 _ (by simp)) hg1 1 _ rfl
      rw [HV.out.2.2.1] at hc
      go_simp
    · rw [e]; exact en_id (x := ⟨y, v0⟩) (w := w11.drew) (ok2 _ (by simp)) hg2
  have CL : Hid (Calls Tryd.prog 11 #[.pointer (some ⟨r0, 0, none⟩)] w11.drew fun e w' => e = .returned (.int .i64 1) ∧ w' = w11.drew) := by
    have c := len_any st11.out.ra.mem
    rw [one_place st11.out.ra.mem (p := p) (fun q => by
      rw [st11.out.li]
      by_cases e : q = p
      · simp [e]
      · simp [e]), st11.out.r] at c
    exact c
  have U1 : Hid (Calls Tryd.prog 13 #[.pointer (some ⟨r0, 0, none⟩), .pointer (some ⟨r1.bk, 0, none⟩)] w11.drew fun e w' => e = .returned (.int .i64 2) ∧ w' = w11.drew) := by
    have h := st11.out.ra
    have c := undo_not h (bk := r1.bk) ⟨_, h.hist.2.2.1.b⟩ (by
      show some (⟨r3.bk, 0, none⟩ : Addr) ≠ _
      intro e
      injection e with e
      injection e with e
      exact H13.out.1 e.symm)
    rw [st11.out.r] at c
    exact c
  have U2 : Hid (Calls Tryd.prog 13 #[.pointer (some ⟨r0, 0, none⟩), .pointer (some ⟨r3.bk, 0, none⟩)] w11.drew fun e w' => e = .returned (.int .i64 0) ∧ ∃ s4, LSt w r0 pb xb yb p x y s4 [r2, r1] [⟨x, v8⟩] w') := by
    have h := st11.out
    have c := undo_any h.ra h.bel.size
    rw [h.r] at c
    refine c.mono ?_
    rintro e w' ⟨rfl, s4, h4, r4, l4, a4, t4⟩
    obtain ⟨q1, q2, q3, q4⟩ := h.tch t4
    refine ⟨rfl, s4, h4, q1, q2, q3, q4, fun q => ?_, r4.trans h.r⟩
    rw [l4, H13.out.2.1, H13.out.2.2]
    by_cases e : q = p
    · rw [if_pos e, if_pos e]
    · rw [if_neg e, if_neg e, h.li, if_neg e]
  clear hg1 hg2 hat ou st11' ok2
  go_upto_region 9 with fail
  refine live9 (rb := r0) (xb := xb) (yb := yb) (g := g) (o := o) (lc := uc) (x := x) (y := y) _ w11 _ rfl rfl rfl rfl rfl hx hy LL.out.1 (st11.out.ldx hx) LL.out.2.1 LL.out.2.2 (st11.out.ldy hy) CL.out ?_
  intro a' w' hw' ha
  subst ha
  subst hw'
  simp only [Act.put, List.setIfInBounds_toArray, List.set_cons_zero, List.set_cons_succ]
  clear LL CL HV H13 st10 st11
  go_wp2_with (first
    | (go_at_call 13; refine U1.out.mono ?_; rintro e w12 ⟨rfl, rfl⟩; clear U1)
    | (go_at_call 13; refine U2.out.mono ?_; rintro e w13 ⟨rfl, s4, st'⟩; have LP := hidMk (st'.ld hp w13 rfl); have CE := hidMk (st'.ent hp (by simp)); clear U2 st')
    | (refine wpList_val rfl (exec_load (t := 34) (v := p.v) rfl rfl LP.out) ?_)
    | (go_at_call 10; refine CE.out.mono ?_; rintro e w14 ⟨u, rfl, ou, st14⟩; obtain ⟨ua, uc2, rfl⟩ := ou.form; have B := hidMk st14.bel; clear ou st14 CE)
    | fail)
  go_ret
  exact ⟨rfl, B.out⟩
theorem live_any (w : World) : Calls Tryd.prog 5 #[] w fun e w' => e = .returned (.bool true) ∧ Below w.heap.size w w' :=
  live_gen w pA pA_ok (idN 1) (idN 2) (idN_ok (by decide)) (idN_ok (by decide)) (vC 5) (vC 8) zVa (vC_ok (by decide)) zVa_ok rfl sum_live (vC_ok (by decide)) (hidMk build_pA) (hidMk build_i1) (hidMk build_i2) (hidMk build_vC) (hidMk build_v0)
end Go.Proofs.YtldlljobofnmmabDoor

namespace Go.Proofs.YtldlljobofnmmabDoor
open Go.RowKit
set_option linter.unusedVariables false
set_option linter.unusedSimpArgs false

theorem belN2 (w : World) (a b : Obj) : Below w.heap.size w ((w.alloc a).alloc b) := ((Below.refl _ _).alloc (Nat.le_refl _) _).alloc (by simp) _
set_option maxRecDepth 100000 in
set_option maxHeartbeats 1000000 in
theorem same_zero (w : World) : Calls Tryd.prog 23 #[zVa.v, zVa.v] w fun e w' => e = .returned (.bool true) ∧ Below w.heap.size w w' := by
  have z1 : (FloatKind.f64.format.order 0 0 == some .eq) = true := by decide +kernel
  have z2 : (FloatKind.f64.format.order 0 0 != some .eq) = false := by decide +kernel
  have z3 : (FloatKind.f64.format.order 9218868437227405312 9218868437227405312 == some .eq) = true := by decide +kernel
  have hq : ∀ W, (binOp .quo 37 (.float .f64 4607182418800017408) (.float .f64 0)).run Tryd.prog W = .ok (.float .f64 9218868437227405312) W := fun W => run_float_arith W .quo 37 .f64 _ _ _ (by decide +kernel)
  show Calls Tryd.prog 23 #[.agg #[.int .u8 0, .int .i64 0, .float .f64 0, .string ⟨#[]⟩], .agg #[.int .u8 0, .int .i64 0, .float .f64 0, .string ⟨#[]⟩]] w _
  go_enter Tryd.func23, Tryd.ntmps23
  go_wp2
  go_ret
  exact ⟨rfl, belN2 _ _ _⟩
/-- What stays while RegsNone runs: the other Regs, of lists at most so long. -/
structure NJ (w : World) (B ro : Nat) (s : Rs) (H : List Rec) (i : Nat) (W : World) : Prop where
  ra : RgAt W B s H
  r : s.r = ro
  bel : Below w.heap.size w W
  le : ∀ q, (liOf s.P q).length ≤ i
  lo : w.heap.size ≤ B
  hi : B ≤ W.heap.size
def Np (pb : Nat) (p : PlK) (W : World) : Prop := W.heap[pb]? = some (.cells p.c.toArray 34 (0, 0))
theorem Np.below {pb : Nat} {p : PlK} {W W' : World} (h : Np pb p W) (b : Below W.heap.size W W') : Np pb p W' := (b.block _ (Array.getElem?_eq_some_iff.1 h).1).trans h
section
variable {w W W' : World} {B ro i pb : Nat} {s : Rs} {H : List Rec} {p : PlK}
theorem NJ.below (h : NJ w B ro s H i W) (b : Below W.heap.size W W') : NJ w B ro s H i W' := ⟨h.ra.below b, h.r, h.bel.trans (b.mono h.bel.size), h.le, h.lo, Nat.le_trans h.hi b.size⟩
theorem put_nil (ra : RgAt W B s H) (hb : B ≤ W.heap.size) (hp : p.ok) {x : IdK} (hx : x.ok) {v : VaV} (hv : v.ok) (hn : (liOf s.P p).length + 1 ≤ 2500000000000) : Calls Tryd.prog 15 #[.pointer (some ⟨s.r, 0, none⟩), p.v, x.v, v.v, .nilFunc] W (OpE W B s H p (liOf s.P p ++ [⟨x, v⟩])) := by
  have c := put_any ra hb hp hx hv (fv := .nilFunc) (sn := fun _ => false) (.inl ⟨rfl, fun _ => rfl⟩) hn
  have e : Rg.res (fun y : EnV => (fun _ : IdK => false) y.id) (liOf s.P p) = liOf s.P p := List.filter_eq_self.2 fun _ _ => rfl
  rw [e] at c
  exact c
/-- Behind a Put of the other. -/
def NF (w : World) (B ro : Nat) (H : List Rec) (i pb : Nat) (p : PlK) (bk : Nat) (W : World) : Prop := ∃ rc s', rc.bk = bk ∧ NJ w B ro s' (rc :: H) i W ∧ Np pb p W
theorem NJ.put (h : NJ w B ro s H i W) (np : Np pb p W) (hp : p.ok) {x : IdK} (hx : x.ok) {v : VaV} (hv : v.ok) (hn : i + 1 ≤ 2500000000000) : Calls Tryd.prog 15 #[.pointer (some ⟨ro, 0, none⟩), p.v, x.v, v.v, .nilFunc] W fun e w' => ∃ bk, e = .returned (.pointer (some ⟨bk, 0, none⟩)) ∧ (Below w.heap.size w w' ∧ Np pb p w') ∧ NF w B ro H (i + 1) pb p bk w' := by
  have c := put_nil h.ra h.hi hp hx hv (by have := h.le p; omega)
  rw [h.r] at c
  refine c.mono ?_
  rintro e w' ⟨rc, s', rfl, o⟩
  have bw : Below w.heap.size w w' := h.bel.trans (o.tch.below h.bel.size (fun j hj => Nat.le_trans h.lo (h.ra.mem.geAll hj)))
  have np' : Np pb p w' := (o.tch.block _ (Array.getElem?_eq_some_iff.1 np).1 (h.ra.mem.other np (by decide) (by decide))).trans np
  refine ⟨_, rfl, ⟨bw, np'⟩, rc, s', rfl, ⟨o.at', o.r.trans h.r, bw, fun q => ?_, h.lo, Nat.le_trans h.hi o.tch.size⟩, np'⟩
  rw [o.li]
  by_cases e : q = p
  · rw [if_pos e, List.length_append]
    have := h.le p
    simp
    omega
  · rw [if_neg e]
    have := h.le q
    omega
/-- The fresh one, behind its Put. -/
structure NR (rf B2 : Nat) (s2 : Rs) (rc2 : Rec) (p : PlK) (W : World) : Prop where
  ra : RgAt W B2 s2 [rc2]
  r : s2.r = rf
  li : (liOf s2.P p).length = 1
theorem fresh_put {W1 : World} {s2 : Rs} (ra : RgAt W1 W.heap.size s2 []) (b1 : Below W.heap.size W W1) (rl : ∀ q, liOf s2.P q = []) (hp : p.ok) {x : IdK} (hx : x.ok) {v : VaV} (hv : v.ok) : Calls Tryd.prog 15 #[.pointer (some ⟨s2.r, 0, none⟩), p.v, x.v, v.v, .nilFunc] W1 fun e w' => ∃ bk, e = .returned (.pointer (some ⟨bk, 0, none⟩)) ∧ Below W.heap.size W w' ∧ (Below W.heap.size W w' ∧ ∃ rc s3, NR s2.r W.heap.size s3 rc p w' ∧ W.heap.size ≤ rc.bk) := by
  refine (put_nil ra b1.size hp hx hv (by rw [rl]; simp)).mono ?_
  rintro e w' ⟨rc, s', rfl, o⟩
  have bw : Below W.heap.size W w' := b1.trans (o.tch.below b1.size (fun j hj => ra.mem.geAll hj))
  refine ⟨_, rfl, bw, bw, rc, s', ⟨o.at', o.r, ?_⟩, Nat.le_trans b1.size o.new⟩
  rw [o.li, if_pos rfl, rl]
  rfl
theorem pl_obj (h : Np pb p W) (hp : p.ok) : (Instr.loadAt 32 (.pointer (some ⟨pb, 0 + 0, none⟩))).run Tryd.prog W = .ok p.o.v W :=
  run_loadAt_mid (P := Tryd.prog) W pb 0 32 p.o.c _ (fun j v hv => rng_cells h j v (by rw [PlK.c, List.getElem?_append_left (List.getElem?_eq_some_iff.1 hv).1]; exact hv)) Tryd.underlying32 rfl (by rw [IdK.len hp.o]; exact szId)
theorem op_plc {b o : Nat} {x : OpR} (h : W.rangeAt b o x.c) : (Instr.loadAt 3 (.pointer (some ⟨b, o + 1, none⟩))).run Tryd.prog W = .ok (.int .i64 x.pl) W := by
  have hc : W.cell? ⟨b, o + 1, none⟩ = some (.int .i64 x.pl) := h 1 _ rfl
  go_simp
theorem op_idc {b o : Nat} {x : OpR} (hx : x.id.ok) (h : W.rangeAt b o x.c) : (Instr.loadAt 32 (.pointer (some ⟨b, o + 2, none⟩))).run Tryd.prog W = .ok x.id.v W :=
  run_loadAt_mid (P := Tryd.prog) W b (o + 2) 32 x.id.c _ (fun j v hv => by
    rw [Nat.add_assoc]
    exact h (2 + j) v (by
      rw [OpR.c, Nat.add_comm 2 j, List.getElem?_cons_succ, List.getElem?_cons_succ, List.getElem?_append_left (List.getElem?_eq_some_iff.1 hv).1]
      exact hv)) Tryd.underlying32 rfl (by rw [IdK.len hx]; exact szId)
theorem op_vac {b o : Nat} {x : OpR} (hx : x.id.ok) (h : W.rangeAt b o x.c) : (Instr.loadAt 39 (.pointer (some ⟨b, o + 35, none⟩))).run Tryd.prog W = .ok x.v.v W := ld_va (fun j v hv => by
    rw [Nat.add_assoc]
    exact h (35 + j) v (by
      rw [OpR.c, show 35 + j = (33 + j) + 1 + 1 by omega, List.getElem?_cons_succ, List.getElem?_cons_succ, List.getElem?_append_right (by rw [IdK.len hx]; omega), IdK.len hx, show 33 + j - 33 = j by omega, List.getElem?_append_left (List.getElem?_eq_some_iff.1 hv).1]
      exact hv))
theorem op_nc {b o : Nat} {x : OpR} (hx : x.id.ok) (h : W.rangeAt b o x.c) : (Instr.loadAt 2 (.pointer (some ⟨b, o + 39, none⟩))).run Tryd.prog W = .ok (.int .i64 x.n) W := by
  have hc : W.cell? ⟨b, o + 39, none⟩ = some (.int .i64 x.n) := h 39 _ (by
    rw [OpR.c, show 39 = (33 + 4) + 1 + 1 by rfl, List.getElem?_cons_succ, List.getElem?_cons_succ, List.getElem?_append_right (by rw [IdK.len hx]; omega), IdK.len hx, List.getElem?_append_right (by rw [VaV.len]; omega), VaV.len]
    rfl)
  go_simp
end
end Go.Proofs.YtldlljobofnmmabDoor

namespace Go.Proofs.YtldlljobofnmmabDoor
open Go.RowKit
set_option linter.unusedVariables false
set_option linter.unusedSimpArgs false

section
open Ieee
theorem signed_zero {s : Bool} {m k : Nat} (h : signed s m k = 0) : m = 0 := by
  unfold signed at h
  rw [Nat.shiftLeft_eq] at h
  generalize hz : m * 2 ^ k = z at h
  have : m * 2 ^ k = 0 := by
    cases s
    · simp at h; omega
    · simp at h; omega
  rcases Nat.mul_eq_zero.1 this with h | h
  · exact h
  · exact absurd h (by have := Nat.two_pow_pos k; omega)
theorem ord_zero {f : Nat} (h : (Ieee.double.order f 0 == some .eq) = true) : f % 2 ^ 63 = 0 := by
  have e1 : Ieee.double.signWeight = 2 ^ 63 := rfl
  have e2 : Ieee.double.binade = 2 ^ 52 := rfl
  have e3 : Ieee.double.infRung = 2047 * 2 ^ 52 := rfl
  have h' : Ieee.double.order f 0 = some .eq := by simpa using h
  have z : Ieee.double.read 0 = .number false 0 Ieee.double.leastPlace := by decide +kernel
  have key : ∀ s m i, Datum.order (.number s m i) (.number false 0 Ieee.double.leastPlace) = some .eq → m = 0 := fun s m i q => by
    simp only [Datum.order, Option.some.injEq] at q
    have q2 := Std.LawfulEqCmp.eq_of_compare q
    have : signed false 0 (Ieee.double.leastPlace - min i Ieee.double.leastPlace).toNat = 0 := by simp [signed]
    rw [this] at q2
    exact signed_zero q2
  unfold Ieee.Format.order at h'
  rw [z] at h'
  unfold Ieee.Format.read at h'
  rw [e1, e2, e3] at h'
  simp only at h'
  split at h'
  · exact key _ _ _ h'
  · split at h'
    · have := key _ _ _ h'
      omega
    · split at h'
      · simp only [Datum.order, Option.some.injEq] at h'
        split at h' <;> cases h'
      · cases h'
end
theorem f_zero {f : Nat} (hf : f < 18446744073709551616) (h : (FloatKind.f64.format.order f 0 == some .eq) = true) : f = 0 ∨ f = 9223372036854775808 := by
  have := ord_zero h
  omega
set_option maxRecDepth 100000 in
set_option maxHeartbeats 2000000 in
/-- A value is the same as itself. -/
theorem same_self {x : VaV} (hx : x.ok) (w : World) : Calls Tryd.prog 23 #[x.v, x.v] w fun e w' => e = .returned (.bool true) ∧ Below w.heap.size w w' := by
  obtain ⟨k, n, f, t⟩ := x
  have hf := hx.ff
  simp only at hf
  clear hx
  show Calls Tryd.prog 23 #[.agg #[.int .u8 k, .int .i64 n, .float .f64 f, .string t], .agg #[.int .u8 k, .int .i64 n, .float .f64 f, .string t]] w _
  have k1 : (k != k) = false := by simp
  have n1 : (n != n) = false := by simp
  have t1 : (t.toList != t.toList) = false := by simp
  by_cases z1 : (FloatKind.f64.format.order f f == some .eq) = true
  · have z2 : (FloatKind.f64.format.order f f != some .eq) = false := by rw [bne, z1]; rfl
    by_cases z3 : (FloatKind.f64.format.order f 0 == some .eq) = true
    · have z4 : (FloatKind.f64.format.order f 0 != some .eq) = false := by rw [bne, z3]; rfl
      obtain ⟨q, hq, hqq⟩ : ∃ q, (∀ W, (binOp .quo 37 (.float .f64 4607182418800017408) (.float .f64 f)).run Tryd.prog W = .ok (.float .f64 q) W) ∧ (FloatKind.f64.format.order q q == some .eq) = true := by
        rcases f_zero hf z3 with rfl | rfl
        · exact ⟨9218868437227405312, fun W => run_float_arith W .quo 37 .f64 _ _ _ (by decide +kernel), by decide +kernel⟩
        · exact ⟨18442240474082181120, fun W => run_float_arith W .quo 37 .f64 _ _ _ (by decide +kernel), by decide +kernel⟩
      clear hf
      go_enter Tryd.func23, Tryd.ntmps23
      go_wp2
      go_ret
      exact ⟨rfl, belN2 _ _ _⟩
    · replace z3 : (FloatKind.f64.format.order f 0 == some .eq) = false := by simpa using z3
      have z4 : (FloatKind.f64.format.order f 0 != some .eq) = true := by rw [bne, z3]; rfl
      clear hf
      go_enter Tryd.func23, Tryd.ntmps23
      go_wp2
      go_ret
      exact ⟨rfl, belN2 _ _ _⟩
  · replace z1 : (FloatKind.f64.format.order f f == some .eq) = false := by simpa using z1
    have z2 : (FloatKind.f64.format.order f f != some .eq) = true := by rw [bne, z1]; rfl
    clear hf
    go_enter Tryd.func23, Tryd.ntmps23
    go_wp2
    go_ret
    exact ⟨rfl, belN2 _ _ _⟩
end Go.Proofs.YtldlljobofnmmabDoor

namespace Go.Proofs.YtldlljobofnmmabDoor
open Go.RowKit
set_option linter.unusedVariables false
set_option linter.unusedSimpArgs false

def sme6_o0 : Oper := { dst := some 17, op := Op.move (Operand.tmp 0), type := 44, pos := "mem.go:127", after := #[], guard := none }
def sme6_o1 : Oper := { dst := some 18, op := Op.move (Operand.tmp 5), type := 3, pos := "mem.go:127", after := #[], guard := none }
def sme6_o2 : Oper := { dst := some 19, op := Op.indexAddr 44 (Operand.tmp 17) (Operand.tmp 18), type := 0, pos := "mem.go:127", after := #[{ on := 0, ground := Ground.data }, { on := 1, ground := Ground.data }], guard := none }
def sme6_o3 : Oper := { dst := some 20, op := Op.fieldAddr 65 (Operand.tmp 19) 0, type := 0, pos := "mem.go:127", after := #[{ on := 2, ground := Ground.data }], guard := none }
def sme6_o4 : Oper := { dst := some 21, op := Op.load 32 (Operand.tmp 20), type := 32, pos := "mem.go:127", after := #[{ on := 3, ground := Ground.data }], guard := none }
def sme6_o5 : Oper := { dst := some 22, op := Op.move (Operand.tmp 1), type := 44, pos := "mem.go:127", after := #[], guard := none }
def sme6_o6 : Oper := { dst := some 23, op := Op.move (Operand.tmp 5), type := 3, pos := "mem.go:127", after := #[], guard := none }
def sme6_o7 : Oper := { dst := some 24, op := Op.indexAddr 44 (Operand.tmp 22) (Operand.tmp 23), type := 0, pos := "mem.go:127", after := #[{ on := 5, ground := Ground.data }, { on := 6, ground := Ground.data }], guard := none }
def sme6_o8 : Oper := { dst := some 25, op := Op.fieldAddr 65 (Operand.tmp 24) 0, type := 0, pos := "mem.go:127", after := #[{ on := 7, ground := Ground.data }], guard := none }
def sme6_o9 : Oper := { dst := some 26, op := Op.load 32 (Operand.tmp 25), type := 32, pos := "mem.go:127", after := #[{ on := 8, ground := Ground.data }], guard := none }
def sme6_o10 : Oper := { dst := some 27, op := Op.binOp BinOp.neq 32 (Operand.tmp 21) (Operand.tmp 26) 32, type := 4, pos := "mem.go:127", after := #[{ on := 4, ground := Ground.data }, { on := 9, ground := Ground.data }], guard := none }
def sme6_o11 : Oper := { dst := some 28, op := Op.move (Operand.tmp 27), type := 4, pos := "mem.go:127", after := #[{ on := 10, ground := Ground.data }], guard := none }
def sme6_o12 : Oper := { dst := some 29, op := Op.move (Operand.tmp 0), type := 44, pos := "mem.go:127", after := #[{ on := 11, ground := Ground.guard }], guard := some (11, false) }
def sme6_o13 : Oper := { dst := some 30, op := Op.move (Operand.tmp 5), type := 3, pos := "mem.go:127", after := #[{ on := 11, ground := Ground.guard }], guard := some (11, false) }
def sme6_o14 : Oper := { dst := some 31, op := Op.indexAddr 44 (Operand.tmp 29) (Operand.tmp 30), type := 0, pos := "mem.go:127", after := #[{ on := 12, ground := Ground.data }, { on := 13, ground := Ground.data }, { on := 11, ground := Ground.guard }], guard := some (11, false) }
def sme6_o15 : Oper := { dst := some 32, op := Op.fieldAddr 65 (Operand.tmp 31) 1, type := 0, pos := "mem.go:127", after := #[{ on := 14, ground := Ground.data }, { on := 11, ground := Ground.guard }], guard := some (11, false) }
def sme6_o16 : Oper := { dst := some 33, op := Op.load 39 (Operand.tmp 32), type := 39, pos := "mem.go:127", after := #[{ on := 15, ground := Ground.data }, { on := 11, ground := Ground.guard }], guard := some (11, false) }
def sme6_o17 : Oper := { dst := some 34, op := Op.move (Operand.tmp 1), type := 44, pos := "mem.go:127", after := #[{ on := 11, ground := Ground.guard }], guard := some (11, false) }
def sme6_o18 : Oper := { dst := some 35, op := Op.move (Operand.tmp 5), type := 3, pos := "mem.go:127", after := #[{ on := 11, ground := Ground.guard }], guard := some (11, false) }
def sme6_o19 : Oper := { dst := some 36, op := Op.indexAddr 44 (Operand.tmp 34) (Operand.tmp 35), type := 0, pos := "mem.go:127", after := #[{ on := 17, ground := Ground.data }, { on := 18, ground := Ground.data }, { on := 11, ground := Ground.guard }], guard := some (11, false) }
def sme6_o20 : Oper := { dst := some 37, op := Op.fieldAddr 65 (Operand.tmp 36) 1, type := 0, pos := "mem.go:127", after := #[{ on := 19, ground := Ground.data }, { on := 11, ground := Ground.guard }], guard := some (11, false) }
def sme6_o21 : Oper := { dst := some 38, op := Op.load 39 (Operand.tmp 37), type := 39, pos := "mem.go:127", after := #[{ on := 20, ground := Ground.data }, { on := 11, ground := Ground.guard }], guard := some (11, false) }
def sme6_o22 : Oper := { dst := some 39, op := Op.call { callee := Callee.value (Operand.func 23), args := #[Operand.tmp 33, Operand.tmp 38], argTypes := #[39, 39] }, type := 4, pos := "mem.go:127", after := #[{ on := 16, ground := Ground.data }, { on := 21, ground := Ground.data }, { on := 11, ground := Ground.chain }, { on := 11, ground := Ground.guard }], guard := some (11, false) }
def sme6_o23 : Oper := { dst := some 40, op := Op.unOp UnOp.not 4 (Operand.tmp 39), type := 4, pos := "mem.go:127", after := #[{ on := 22, ground := Ground.data }, { on := 11, ground := Ground.guard }], guard := some (11, false) }
def sme6_o24 : Oper := { dst := some 41, op := Op.pick (Operand.tmp 28) (Operand.const (Value.bool true)) (Operand.tmp 40), type := 4, pos := "mem.go:127", after := #[{ on := 11, ground := Ground.data }, { on := 23, ground := Ground.data }], guard := none }
def sme6_ops : Array Oper := #[sme6_o0, sme6_o1, sme6_o2, sme6_o3, sme6_o4, sme6_o5, sme6_o6, sme6_o7, sme6_o8, sme6_o9, sme6_o10, sme6_o11, sme6_o12, sme6_o13, sme6_o14, sme6_o15, sme6_o16, sme6_o17, sme6_o18, sme6_o19, sme6_o20, sme6_o21, sme6_o22, sme6_o23, sme6_o24]
set_option maxRecDepth 100000 in
set_option maxHeartbeats 4000000 in
theorem sme6 {g o n c k q d i : Nat} {x : EnV} (S : World → Prop) (a : Act) (w : World) (Q : Exit → Act → World → Prop) (zz : a.tmps.size = 42)
    (t0 : a.tmps.getD 0 undef = .slice (some ⟨g, o, none⟩) n c)
    (t1 : a.tmps.getD 1 undef = .slice (some ⟨k, q, none⟩) n d)
    (t5 : a.tmps.getD 5 undef = .int .i64 (i : Int))
    (hx : x.ok) (hi : i < n) (hm : n ≤ 9223372036854775807) (h0 : S w.drew) (L1 : ∀ W, S W → (Instr.loadAt 32 (.pointer (some ⟨g, o + 37 * i + 0, none⟩))).run Tryd.prog W = .ok (x.id.v) W) (L2 : ∀ W, S W → (Instr.loadAt 32 (.pointer (some ⟨k, q + 37 * i + 0, none⟩))).run Tryd.prog W = .ok (x.id.v) W) (L3 : ∀ W, S W → (Instr.loadAt 39 (.pointer (some ⟨g, o + 37 * i + 33, none⟩))).run Tryd.prog W = .ok (x.v.v) W) (L4 : ∀ W, S W → (Instr.loadAt 39 (.pointer (some ⟨k, q + 37 * i + 33, none⟩))).run Tryd.prog W = .ok (x.v.v) W) (CS : Calls Tryd.prog 23 #[x.v.v, x.v.v] w.drew fun e w' => e = .returned (.bool true) ∧ S w')
    (h : ∀ (a' : Act) (w' : World), S w' → a' = (((((((((((((((((((((((((a).put (some 17) (.slice (some ⟨g, o, none⟩) n c)).put (some 18) (.int .i64 (i : Int))).put (some 19) (.pointer (some ⟨g, o + 37 * i, none⟩))).put (some 20) (.pointer (some ⟨g, o + 37 * i + 0, none⟩))).put (some 21) (x.id.v)).put (some 22) (.slice (some ⟨k, q, none⟩) n d)).put (some 23) (.int .i64 (i : Int))).put (some 24) (.pointer (some ⟨k, q + 37 * i, none⟩))).put (some 25) (.pointer (some ⟨k, q + 37 * i + 0, none⟩))).put (some 26) (x.id.v)).put (some 27) (.bool false)).put (some 28) (.bool false)).put (some 29) (.slice (some ⟨g, o, none⟩) n c)).put (some 30) (.int .i64 (i : Int))).put (some 31) (.pointer (some ⟨g, o + 37 * i, none⟩))).put (some 32) (.pointer (some ⟨g, o + 37 * i + 33, none⟩))).put (some 33) (x.v.v)).put (some 34) (.slice (some ⟨k, q, none⟩) n d)).put (some 35) (.int .i64 (i : Int))).put (some 36) (.pointer (some ⟨k, q + 37 * i, none⟩))).put (some 37) (.pointer (some ⟨k, q + 37 * i + 33, none⟩))).put (some 38) (x.v.v)).put (some 39) (.bool true)).put (some 40) (.bool false)).put (some 41) (.bool false) → Q .normal a' w') :
    (Code.region 6 sme6_ops true).wp Tryd.prog Q a w := by
  refine y0 (fun w' => S w') (h0) (fun hHeld => ?_)
  refine yv 0 rfl rfl (fun w1 hw => exec_move rfl (zi t0 rfl)) hHeld ?_
  refine yv 1 rfl rfl (fun w1 hw => exec_move rfl (zi t5 rfl)) hHeld ?_
  refine yv 2 rfl rfl (fun w1 hw => exec_indexAt rfl (zg zz rfl) (zg zz rfl) (ix_en hi hm _)) hHeld ?_
  refine yv 3 rfl rfl (fun w1 hw => exec_fieldAt rfl (zg zz rfl) (fg_65_0 _ _ _)) hHeld ?_
  refine yv 4 rfl rfl (fun w1 hw => exec_load rfl (zg zz rfl) (L1 _ hw)) hHeld ?_
  refine yv 5 rfl rfl (fun w1 hw => exec_move rfl (zi t1 rfl)) hHeld ?_
  refine yv 6 rfl rfl (fun w1 hw => exec_move rfl (zi t5 rfl)) hHeld ?_
  refine yv 7 rfl rfl (fun w1 hw => exec_indexAt rfl (zg zz rfl) (zg zz rfl) (ix_en hi hm _)) hHeld ?_
  refine yv 8 rfl rfl (fun w1 hw => exec_fieldAt rfl (zg zz rfl) (fg_65_0 _ _ _)) hHeld ?_
  refine yv 9 rfl rfl (fun w1 hw => exec_load rfl (zg zz rfl) (L2 _ hw)) hHeld ?_
  refine yv (v := .bool false) 10 rfl rfl (fun w1 hw => ex_neqX hx.i rfl (zg zz rfl) (zg zz rfl)) hHeld ?_
  refine yv 11 rfl rfl (fun w1 hw => exec_move rfl (zg zz rfl)) hHeld ?_
  refine yv 12 rfl (zw zz rfl rfl rfl (zg zz rfl)) (fun w1 hw => exec_move rfl (zi t0 rfl)) hHeld ?_
  refine yv 13 rfl (zw zz rfl rfl rfl (zg zz rfl)) (fun w1 hw => exec_move rfl (zi t5 rfl)) hHeld ?_
  refine yv 14 rfl (zw zz rfl rfl rfl (zg zz rfl)) (fun w1 hw => exec_indexAt rfl (zg zz rfl) (zg zz rfl) (ix_en hi hm _)) hHeld ?_
  refine yv 15 rfl (zw zz rfl rfl rfl (zg zz rfl)) (fun w1 hw => exec_fieldAt rfl (zg zz rfl) (fg_65_1 _ _ _)) hHeld ?_
  refine yv 16 rfl (zw zz rfl rfl rfl (zg zz rfl)) (fun w1 hw => exec_load rfl (zg zz rfl) (L3 _ hw)) hHeld ?_
  refine yv 17 rfl (zw zz rfl rfl rfl (zg zz rfl)) (fun w1 hw => exec_move rfl (zi t1 rfl)) hHeld ?_
  refine yv 18 rfl (zw zz rfl rfl rfl (zg zz rfl)) (fun w1 hw => exec_move rfl (zi t5 rfl)) hHeld ?_
  refine yv 19 rfl (zw zz rfl rfl rfl (zg zz rfl)) (fun w1 hw => exec_indexAt rfl (zg zz rfl) (zg zz rfl) (ix_en hi hm _)) hHeld ?_
  refine yv 20 rfl (zw zz rfl rfl rfl (zg zz rfl)) (fun w1 hw => exec_fieldAt rfl (zg zz rfl) (fg_65_1 _ _ _)) hHeld ?_
  refine yv 21 rfl (zw zz rfl rfl rfl (zg zz rfl)) (fun w1 hw => exec_load rfl (zg zz rfl) (L4 _ hw)) hHeld ?_
  refine yc 22 rfl (zw zz rfl rfl rfl (zg zz rfl)) (exec_c2 rfl (zg zz rfl) (zg zz rfl)) (CS) (fun e x22 hx => ?_)
  obtain ⟨rfl, S1⟩ := hx
  refine ⟨_, rfl, S1, fun hHeld => ?_⟩
  refine yv 23 rfl (zw zz rfl rfl rfl (zg zz rfl)) (fun w1 hw => exec_not rfl (zg zz rfl)) hHeld ?_
  refine yv 24 rfl rfl (fun w1 hw => exec_pickF rfl (zg zz rfl) (zg zz rfl)) hHeld ?_
  exact ye rfl (h _ _ (S1) rfl)
end Go.Proofs.YtldlljobofnmmabDoor

namespace Go.Proofs.YtldlljobofnmmabDoor
open Go.RowKit
set_option linter.unusedVariables false
set_option linter.unusedSimpArgs false

set_option maxRecDepth 100000 in
set_option maxHeartbeats 4000000 in
/-- Two lists of the same entries. -/
theorem same_entries {w : World} {L : List EnV} (ok : ∀ x ∈ L, x.ok) (hn : L.length ≤ 2500000000000) {a b : Option Addr} {c d : Nat} (ha : RN.At w a L) (hb : RN.At w b L) :
    Calls Tryd.prog 9 #[.slice a L.length c, .slice b L.length d] w fun e w' => e = .returned (.bool true) ∧ Below w.heap.size w w' := by
  obtain ⟨n, hnn⟩ : ∃ n, L.length = n := ⟨_, rfl⟩
  have HL := hidMk (And.intro ha (And.intro hb (And.intro ok hnn)))
  rw [hnn] at hn ⊢
  clear ha hb ok hnn
  have hne : ((n : Int) != (n : Int)) = false := by simp
  go_enter Tryd.func9, Tryd.ntmps9
  go_wp2
  clear hne
  go_loopw [5] (fun v5 wr => ∃ i : Nat, v5 = .int .i64 (i : Int) ∧ i ≤ n ∧ Hid (Below w.heap.size w wr)) (fun v5 wr => n - (match v5 with | .int _ i => i.toNat | _ => 0))
  case atStart => exact ⟨0, rfl, Nat.zero_le _, Below.refl _ _⟩
  case round =>
    obtain ⟨i, rfl, hin, HI⟩ := hrel
    by_cases hi : i < n
    · obtain ⟨ha, hb, ok, hnn⟩ := HL.out
      obtain ⟨x, hxi⟩ : ∃ x, L[i]? = some x := ⟨_, List.getElem?_eq_getElem (by omega)⟩
      have hx : x.ok := ok x (List.mem_of_getElem? hxi)
      obtain ⟨g, o, rfl, lg, hr⟩ : ∃ g o, a = some ⟨g, o, none⟩ ∧ g < w.heap.size ∧ w.rangeAt g (o + 37 * i) x.c := by
        rcases ha with h | ⟨g, o, e, h1, h2⟩
        · rw [h] at hxi; cases hxi
        · exact ⟨g, o, e, h1, h2 i x hxi⟩
      obtain ⟨k, q, rfl, lk, hr2⟩ : ∃ g o, b = some ⟨g, o, none⟩ ∧ g < w.heap.size ∧ w.rangeAt g (o + 37 * i) x.c := by
        rcases hb with h | ⟨g, o, e, h1, h2⟩
        · rw [h] at hxi; cases hxi
        · exact ⟨g, o, e, h1, h2 i x hxi⟩
      have R1 := hidMk (fun (W : World) (hw : Below w.heap.size w W) => rangeAt_keep hr (hw.block _ lg))
      have R2 := hidMk (fun (W : World) (hw : Below w.heap.size w W) => rangeAt_keep hr2 (hw.block _ lk))
      have bd : Below w.heap.size w wr.drew := HI.out.drew
      have CS : Hid (Calls Tryd.prog 23 #[x.v.v, x.v.v] wr.drew fun e w' => e = .returned (.bool true) ∧ Below w.heap.size w w') := (same_self hx.w _).mono fun e w' ⟨h1, h2⟩ => ⟨h1, bd.trans (h2.mono bd.size)⟩
      have h63 : n ≤ 9223372036854775807 := by omega
      clear hxi hr hr2 lg lk ha hb ok hnn HI
      go_upto_region 6 with fail
      refine sme6 (g := g) (o := o) (n := n) (c := c) (k := k) (q := q) (d := d) (i := i) (x := x) (fun W => Below w.heap.size w W) _ wr _ rfl rfl rfl rfl hx hi h63 bd (fun W h => en_id hx (R1.out W h)) (fun W h => en_id hx (R2.out W h)) (fun W h => en_va hx (R1.out W h)) (fun W h => en_va hx (R2.out W h)) CS.out ?_
      intro a' w2 hf ha
      subst ha
      simp only [Act.put, List.setIfInBounds_toArray, List.set_cons_zero, List.set_cons_succ]
      have HF := hidMk hf
      clear hf CS R1 R2 bd
      go_wp2
      rw [show ((i : Int) + 1) = ((i + 1 : Nat) : Int) by omega]
      refine ⟨⟨i + 1, rfl, hi, HF.out⟩, ?_⟩
      show n - ((i + 1 : Nat) : Int).toNat < n - (i : Int).toNat
      omega
    · obtain rfl : i = n := by omega
      go_wp2
      go_ret
      exact ⟨rfl, HI.out⟩
end Go.Proofs.YtldlljobofnmmabDoor

namespace Go.Proofs.YtldlljobofnmmabDoor
open Go.RowKit
set_option linter.unusedVariables false
set_option linter.unusedSimpArgs false

/-- Values of one cell that lie in memory. -/
def Vals (w : World) (a : Option Addr) (X : List Value) : Prop := X = [] ∨ ∃ b off, a = some ⟨b, off, none⟩ ∧ ∀ j u, X[j]? = some u → w.cell? ⟨b, off + j, none⟩ = some u
/-- A row of the call's own. -/
def OwnV (w : World) (base : Nat) (e : TypeId) (v : Value) (X : List Value) : Prop := w.ownsRow base e 1 v X.length X
theorem Vals.below {w w' : World} {a : Option Addr} {X : List Value} (h : Vals w a X) (hb : Below w.heap.size w w') : Vals w' a X := by
  rcases h with rfl | ⟨b, off, rfl, hc⟩
  · exact .inl rfl
  · exact .inr ⟨b, off, rfl, fun j u hj => (hb.cell (p := ⟨b, off + j, none⟩) (block_lt_of_cell (hc j u hj))).trans (hc j u hj)⟩
theorem OwnV.below {w w' : World} {base : Nat} {e : TypeId} {v : Value} {X : List Value} (h : OwnV w base e v X) (hb : Below w.heap.size w w') : OwnV w' base e v X := by
  refine ⟨h.1, ?_⟩
  rcases h.2 with hn | ⟨g, cap, cur, rfl, hbg, hg, rest⟩
  · exact .inl hn
  · exact .inr ⟨g, cap, cur, rfl, hbg, by rw [hb.block g (Array.getElem?_eq_some_iff.1 hg).1]; exact hg, rest⟩
theorem OwnV.keep {w w' : World} {base : Nat} {e : TypeId} {v : Value} {X : List Value} (h : OwnV w base e v X) (hk : ∀ k, v.ownBlock = some k → w'.heap[k]? = w.heap[k]?) : OwnV w' base e v X := by
  refine ⟨h.1, ?_⟩
  rcases h.2 with hn | ⟨g, cap, cur, rfl, hbg, hg, rest⟩
  · exact .inl hn
  · exact .inr ⟨g, cap, cur, rfl, hbg, by rw [hk g rfl]; exact hg, rest⟩
theorem OwnV.ge {w : World} {base : Nat} {e : TypeId} {v : Value} {X : List Value} (h : OwnV w base e v X) : ∀ j, v.ownBlock = some j → base ≤ j ∧ ∃ c, w.heap[j]? = some (.cells c e (0, 0)) := by
  intro j hj
  rcases h.2 with ⟨rfl, hn⟩ | ⟨g, cap, cur, rfl, hbg, hg, rest⟩
  · cases hj
  · obtain rfl : g = j := by simpa [Value.ownBlock] using hj
    exact ⟨hbg, _, hg⟩
theorem OwnV.open {w : World} {base : Nat} {e : TypeId} {v : Value} {X : List Value} (h : OwnV w base e v X) :
    ∃ a cap, v = .slice a X.length cap ∧ X.length ≤ cap ∧ Vals w a X ∧ (a = none → X = [] ∧ cap = 0) := by
  rcases h.2 with ⟨rfl, hn⟩ | ⟨g, cap, cur, rfl, hbg, hg, hnc, hcm, hcs, htake⟩
  · obtain rfl : X = [] := List.eq_nil_of_length_eq_zero hn
    exact ⟨none, 0, rfl, Nat.le_refl _, .inl rfl, fun _ => ⟨rfl, rfl⟩⟩
  · refine ⟨some ⟨g, 0, none⟩, cap, rfl, hnc, .inr ⟨g, 0, rfl, fun j u hj => ?_⟩, fun h => by cases h⟩
    rw [Nat.zero_add, cell_of_row w g j cur e (0, 0) hg]
    rw [← htake, List.getElem?_take] at hj
    split at hj
    · simpa using hj
    · cases hj
theorem run_appV (T e y : TypeId) (z : Value) (ht : Tryd.prog.underlying T = some (.slice e)) (hi : (Tryd.prog.info? e).map (fun i => (i.zero, i.size, i.bytes)) = some (some z, 1, y)) (hy : y = 8 ∨ y = 24) (hz1 : z.cells.size = 1)
    (w : World) (base : Nat) (ty : TypeId) (v : Value) (L : List Value) (a : Option Addr) (M : List Value) (c : Nat) (hown : OwnV w base e v L) (hb : Vals w a M) (h1 : ∀ u ∈ M, u.oneCell' = true)
    (h : L.length + M.length ≤ 2000000000000) (hbase : base ≤ w.heap.size) :
    ∃ v' w', (Builtin.append_ #[T, T] ty #[v, .slice a M.length c]).run Tryd.prog w = .ok v' w' ∧ OwnV w' base e v' (L ++ M) ∧ w.grownBy w' v.ownBlock ∧ (v'.ownBlock = v.ownBlock ∨ v'.ownBlock = some w.heap.size) := by
  obtain ⟨i, hi, hz, hs, hby⟩ := info_parts hi
  cases a with
  | some ad =>
    have hnews : ∀ j u, M[j]? = some u → w.cell? (ad.add j) = some u := fun j u hj => by
      rcases hb with rfl | ⟨b, off, e, hc⟩
      · simp at hj
      · cases e
        rw [Addr.add_mid]
        exact hc j u hj
    obtain ⟨v', w', hr, h2, h3, h5⟩ := app_at (P := Tryd.prog) w base T ty e i z 1 y ht hi hz hs hby hz1 (by decide) v L.length L hown ad M.length c M (by omega) hnews h1 (by unfold maxLen; omega) (by rcases hy with rfl | rfl <;> omega) hbase
    refine ⟨v', w', hr, ?_, h3, h5⟩
    unfold OwnV
    rw [List.length_append]
    exact h2
  | none =>
    obtain rfl : M = [] := by
      rcases hb with rfl | ⟨b, off, e, _⟩
      · rfl
      · cases e
    rcases hown.2 with ⟨rfl, hn⟩ | ⟨g, cap, cur, rfl, hbg, hg, hnc, rest⟩
    · refine ⟨.slice none 0 0, w, ?_, by rw [List.append_nil]; exact hown, ⟨rfl, rfl, rfl, Nat.le_refl _, fun _ _ _ => rfl⟩, .inl rfl⟩
      simp [Builtin.append_, run_underlying ht, sizeOf, typeInfo, hi, Builtin.lenOf, Builtin.firstCells, loadCells, loadCellsFrom]
    · refine ⟨.slice (some ⟨g, 0, none⟩) L.length cap, w, ?_, by rw [List.append_nil]; exact hown, ⟨rfl, rfl, rfl, Nat.le_refl _, fun _ _ _ => rfl⟩, .inl rfl⟩
      simp [Builtin.append_, run_underlying ht, sizeOf, typeInfo, hi, Builtin.lenOf, Builtin.firstCells, hnc, storeCells]
end Go.Proofs.YtldlljobofnmmabDoor

namespace Go.Proofs.YtldlljobofnmmabDoor
open Go.RowKit Go.Maps Go.Sort Go.Shelf
set_option linter.unusedVariables false
set_option linter.unusedSimpArgs false

/-- slices.Sort's two contracts. -/
theorem sortsA (m : Nat) : AnyZ.SortsIn Tryd.prog sortedA_ren Fence.wide m :=
  ⟨fun blk off cap ss W hH hblk hsz => callsIn_wide.2 (AnyM.slices_Sort_string sortA blk off cap ss W hH hblk hsz),
   fun p cap W => callsIn_wide.2 (AnyM.slices_Sort_string_none sortA p cap W)⟩
/-- Texts as bytes, sorted. -/
def srtT (l : List ByteArray) : List (List UInt8) := (l.map (·.data.toList)).mergeSort leB
theorem srtT_perm {l l' : List ByteArray} (h : l.Perm l') : srtT l = srtT l' := mergeSort_of_perm (h.map _)
theorem srtT_len (l : List ByteArray) : (srtT l).length = l.length := by simp [srtT]
/-- The keys of an object. -/
def keyL (K : List (IdK × (Nat × List ByteArray))) (o : IdK) : List ByteArray := ((M.look K o).map (·.2)).getD []
def nilR : Value → Option (DataW Unit × List MemPlace) := fun _ => some (.nil, [])
theorem own_keys {w : World} {b : Nat} {l : List ByteArray} (h : M.MapAt w b tx txOk (entS l)) (hl : l.length ≤ maxLen) : ∃ D0 : DataW Unit, w.ownsMap Tryd.prog 9 nilR b l.length D0 ∧ (strKeys D0).Perm (l.map (·.data.toList)) ∧ Maps.size D0 = l.length := by
  obtain ⟨⟨es, clock, hb, hm, hst⟩, nd, hv⟩ := h
  have hk : es.toList.map (·.key) = l.map tx := by
    have := congrArg (List.map (·.1)) hm
    rw [List.map_map, List.map_map] at this
    have e1 : (entS l).map ((fun x => x.1) ∘ fun p => (tx p.1, p.2)) = l.map tx := by simp [entS, M.onV, Function.comp_def]
    rw [e1] at this
    exact this
  have hlen : es.size = l.length := by
    have := congrArg List.length hk
    simpa using this
  have hnd : l.Nodup := by
    have e1 : (entS l).map (·.1) = l := by simp [entS, M.onV, Function.comp_def]
    rw [e1] at nd
    exact nd
  have hkey : ∀ x ∈ es.toList, ∃ k ∈ l, x.key = .string k ∧ k.size ≤ maxLen := fun x hx => by
    have : x.key ∈ l.map tx := by rw [← hk]; exact List.mem_map.2 ⟨x, hx, rfl⟩
    obtain ⟨k, hkl, e⟩ := List.mem_map.1 this
    refine ⟨k, hkl, e.symm, ?_⟩
    have := hv (k, .agg #[]) (by simp [entS, M.onV]; exact hkl)
    exact this
  have hrd : ∀ x ∈ es.toList, ∀ k : ByteArray, x.key = .string k → k.size ≤ maxLen → Go.WideElems.rd Tryd.prog 9 nilR x = some (.string k.data.toList, .nil) := fun x hx k e hs => by
    unfold Go.WideElems.rd
    rw [e, Go.WideMaps.keyOf_string_mk Tryd.underlying9 hs]
    rfl
  refine ⟨.map ((es.toList.map (Go.WideElems.rg Tryd.prog 9 nilR)).foldr DataW.insert []), ⟨es, clock, hb, ⟨by rw [hlen]; exact hl, ⟨fun x hx => hst.1 _ (List.mem_map.2 ⟨x, hx, rfl⟩), hst.2, ?_⟩, fun x hx => ?_⟩, Nat.le_of_eq hlen, rfl⟩, ?_, ?_⟩
  · rw [hk]
    exact hnd.map (f := tx) (fun a b h e => h (by injection e))
  · obtain ⟨k, _, e, hs⟩ := hkey x hx
    exact ⟨_, hrd x hx k e hs⟩
  · show (((es.toList.map (Go.WideElems.rg Tryd.prog 9 nilR)).foldr DataW.insert []).map fun p => strOf p.1).Perm _
    refine (List.Perm.map _ (Go.WideShapes.sorted_perm _)).trans ?_
    rw [List.map_map]
    have : ∀ x ∈ es.toList, ((fun p : Lit × DataW Unit => strOf p.1) ∘ Go.WideElems.rg Tryd.prog 9 nilR) x = (match x.key with | .string k => k.data.toList | _ => []) := fun x hx => by
      obtain ⟨k, _, e, hs⟩ := hkey x hx
      have hrg : Go.WideElems.rg Tryd.prog 9 nilR x = (.string k.data.toList, .nil) := by
        unfold Go.WideElems.rg
        rw [hrd x hx k e hs]
        rfl
      rw [Function.comp_apply, hrg, e]
      rfl
    refine List.Perm.trans (List.Perm.of_eq (List.map_congr_left this)) ?_
    have e2 : es.toList.map (fun x => match x.key with | .string k => k.data.toList | _ => []) = (es.toList.map (·.key)).map (fun v => match v with | .string k => k.data.toList | _ => []) := by rw [List.map_map]; rfl
    rw [e2, hk, List.map_map]
    exact List.Perm.refl _
  · show ((es.toList.map (Go.WideElems.rg Tryd.prog 9 nilR)).foldr DataW.insert []).length = l.length
    rw [(Go.WideShapes.sorted_perm _).length_eq, List.length_map]
    simpa using hlen
theorem enc_own {w : World} {base : Nat} {v : Value} {ss : List (List UInt8)} {n : Nat} (hn : n = ss.length) (h : w.ownsRow base 9 1 v n (ss.map encStr)) : OwnV w base 9 v (ss.map encStr) := by
  unfold OwnV
  rw [List.length_map, ← hn]
  exact h
/-- maps.Keys, then slices.Sorted. -/
theorem keys_two {w : World} {b : Nat} {l : List ByteArray} {im : Option Nat} (h : (im = none ∧ l = []) ∨ (im = some b ∧ M.MapAt w b tx txOk (entS l))) (hl : l.length ≤ 8000000000000) (S : World → Prop) (hS : ∀ W, Below w.heap.size w W → S W) :
    Calls Tryd.prog 41 #[.map im] w fun e w1 => ∃ fv, e = .returned fv ∧ S w1 ∧ Calls Tryd.prog 40 #[fv] w1 fun e w' => ∃ u, e = .returned u ∧ S w' ∧ (OwnV w' w.heap.size 9 u ((srtT l).map encStr) ∧ Below w.heap.size w w') := by
  have cK : Calls Tryd.prog 41 #[.map im] w fun e w' => e = .returned (.func (.func 47) #[] #[.pointer (some ⟨w.heap.size, 0, none⟩)]) ∧ w' = w.alloc (.cells #[.map im] 97) := callsIn_wide.1 (AnyZ.keys_in keysA Fence.wide 5 trivial rfl im w)
  refine cK.mono ?_
  rintro e w1 ⟨rfl, rfl⟩
  have b1 : Below w.heap.size w (w.alloc (.cells #[.map im] 97)) := (Below.refl _ _).alloc (Nat.le_refl _) _
  refine ⟨_, rfl, hS _ b1, ?_⟩
  rcases h with ⟨rfl, rfl⟩ | ⟨rfl, hm⟩
  · have hseq : SeqGives Fence.wide 2 Tryd.prog 47 #[.pointer (some ⟨w.heap.size, 0, none⟩)] encStr (fun ss : List (List UInt8) => ss = []) 0 (w.alloc (.cells #[.map none] 97)) :=
      AnyZ.keys_gives_nil (ρ := keysA_ren) { keysA with } Fence.wide _ trivial rfl w.heap.size _ (by simp) (by simp)
    have cS := AnyZ.sorted_in sortedA Fence.wide 5 trivial trivial trivial trivial rfl (by omega) (sortsA _) (enters_of Tryd.func46 (by kernel_rfl) rfl) 47 #[.pointer (some ⟨w.heap.size, 0, none⟩)] trivial (enters_of Tryd.func47 (by kernel_rfl) rfl) _ 0 (Nat.zero_le _) (by omega) _ hseq
    change CallsIn _ _ Tryd.prog 40 _ _ _ at cS
    refine (callsIn_wide.1 cS).mono ?_
    rintro e w' ⟨v, ss, rfl, rfl, hrow, hnil, hb⟩
    have bb := b1.trans (hb.mono b1.size)
    exact ⟨v, rfl, hS _ bb, enc_own (by simp [srtT]) (ownsRow_base_a hrow b1.size), bb⟩
  · obtain ⟨D0, hown, hperm, hsz⟩ := own_keys hm (by unfold maxLen; omega)
    have hbl := hown.lt
    have hseq : SeqGives Fence.wide 2 Tryd.prog 47 #[.pointer (some ⟨w.heap.size, 0, none⟩)] encStr (fun ss => ss.Perm (strKeys D0)) (Maps.size D0) (w.alloc (.cells #[.map (some b)] 97)) :=
      AnyZ.keys_gives (ρ := keysA_ren) { keysA with } Fence.wide _ trivial rfl (by omega) w.heap.size b l.length D0 _ (by simp) (by simp) (by
        obtain ⟨es, clock, hb, Ft, hs, hD⟩ := hown
        exact ⟨es, clock, (Below.heap_alloc _ _ b hbl).trans hb, Ft, hs, hD⟩)
    have cS := AnyZ.sorted_in sortedA Fence.wide 5 trivial trivial trivial trivial rfl (by omega) (sortsA _) (enters_of Tryd.func46 (by kernel_rfl) rfl) 47 #[.pointer (some ⟨w.heap.size, 0, none⟩)] trivial (enters_of Tryd.func47 (by kernel_rfl) rfl) _ _ (by rw [hsz]; unfold maxLen; omega) (by rw [hsz]; omega) _ hseq
    change CallsIn _ _ Tryd.prog 40 _ _ _ at cS
    refine (callsIn_wide.1 cS).mono ?_
    rintro e w' ⟨v, ss, rfl, hp, hrow, hnil, hb⟩
    have bb := b1.trans (hb.mono b1.size)
    have e1 : ss.mergeSort leB = srtT l := mergeSort_of_perm (hp.trans hperm)
    have e2 : ss.length = (srtT l).length := by rw [← e1, List.length_mergeSort]
    have hr := ownsRow_base_a hrow b1.size
    change w'.ownsRow w.heap.size 9 1 v ss.length ((ss.mergeSort leB).map encStr) at hr
    rw [e1] at hr
    exact ⟨v, rfl, hS _ bb, enc_own e2 hr, bb⟩
end Go.Proofs.YtldlljobofnmmabDoor

