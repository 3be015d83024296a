import Derived.Test.YtldlljobofnmmabDoorRla
import Derived.Test.YtldlljobofnmmabDoorZr
import Derived.Laws.FloatArith
import Derived.Test.YtldlljobofnmmabDoorRnn0
namespace Go.Proofs.YtldlljobofnmmabDoor
set_option linter.unusedVariables false
set_option linter.unusedSimpArgs false
set_option linter.unusedSectionVars false

namespace Rv
/-- A call: its place, its kind, its value, what it had seen, and what it does to a value that it adds to. -/
structure Sy (P V : Type) where
  pl : P
  kd : Int
  v : V
  kn : Nat → Bool
  su : V → V
section
variable {I P V : Type} [DecidableEq I] [DecidableEq P]
def Sy.puts (s : Sy P V) : Bool := !(s.kd == 1) && !(s.kd == 2)
/-- What became of the value of the call i at the place p, behind m calls; and whether it is gone. -/
def tr (S : Nat → Sy P V) (p : P) (i : Nat) : Nat → V × Bool
  | 0 => ((S i).v, false)
  | m + 1 => if m ≤ i then ((S i).v, false) else if (S m).pl = p ∧ (S m).kn i = true then (if (S m).kd = 2 then ((S m).su (tr S p i m).1, (tr S p i m).2) else ((tr S p i m).1, true)) else tr S p i m
theorem tr_le (S : Nat → Sy P V) (p : P) (i : Nat) {m : Nat} (h : m ≤ i + 1) : tr S p i m = ((S i).v, false) := by
  cases m with
  | zero => rfl
  | succ m => unfold tr; rw [if_pos (by omega)]
theorem tr_succ (S : Nat → Sy P V) (p : P) {i m : Nat} (h : i < m) : tr S p i (m + 1) = if (S m).pl = p ∧ (S m).kn i = true then (if (S m).kd = 2 then ((S m).su (tr S p i m).1, (tr S p i m).2) else ((tr S p i m).1, true)) else tr S p i m := by
  rw [tr, if_neg (by omega)]
theorem tr_miss (S : Nat → Sy P V) (p : P) {i m : Nat} (h : i < m) (q : ¬ ((S m).pl = p ∧ (S m).kn i = true)) : tr S p i (m + 1) = tr S p i m := by rw [tr_succ S p h, if_neg q]
theorem tr_add (S : Nat → Sy P V) (p : P) {i m : Nat} (h : i < m) (q : (S m).pl = p ∧ (S m).kn i = true) (k : (S m).kd = 2) : tr S p i (m + 1) = ((S m).su (tr S p i m).1, (tr S p i m).2) := by rw [tr_succ S p h, if_pos q, if_pos k]
theorem tr_gone (S : Nat → Sy P V) (p : P) {i m : Nat} (h : i < m) (q : (S m).pl = p ∧ (S m).kn i = true) (k : ¬ (S m).kd = 2) : tr S p i (m + 1) = ((tr S p i m).1, true) := by rw [tr_succ S p h, if_pos q, if_neg k]
/-- What is left of the call i at p behind m calls. -/
def lf (nm : Nat → I) (S : Nat → Sy P V) (p : P) (m i : Nat) : Option (I × V) := if (S i).puts = true ∧ (S i).pl = p ∧ (tr S p i m).2 = false then some (nm i, (tr S p i m).1) else none
/-- What lies at p behind m calls. -/
def ls (nm : Nat → I) (S : Nat → Sy P V) (p : P) (m : Nat) : List (I × V) := (List.range m).filterMap (lf nm S p m)
/-- The calls that a call had seen. -/
def ids (nm : Nat → I) (s : Sy P V) (i : Nat) : List I := ((List.range i).filter s.kn).map nm
/-- What a call makes of what lies at its place. -/
def op (nm : Nat → I) (i : Nat) (s : Sy P V) (L : List (I × V)) : List (I × V) :=
  if s.kd = 1 then L.filter (fun x => !decide (x.1 ∈ ids nm s i))
  else if s.kd = 2 then L.map (fun x => if decide (x.1 ∈ ids nm s i) then (x.1, s.su x.2) else x)
  else L.filter (fun x => !decide (x.1 ∈ ids nm s i)) ++ [(nm i, s.v)]
theorem mem_ids {nm : Nat → I} (inj : ∀ i j, nm i = nm j → i = j) (s : Sy P V) {i j : Nat} (h : j < i) : decide (nm j ∈ ids nm s i) = s.kn j := by
  have : nm j ∈ ids nm s i ↔ s.kn j = true := by
    unfold ids
    rw [List.mem_map]
    constructor
    · rintro ⟨k, hk, e⟩
      rw [← inj _ _ e]
      exact (List.mem_filter.1 hk).2
    · intro hk
      exact ⟨j, List.mem_filter.2 ⟨List.mem_range.2 h, hk⟩, rfl⟩
  by_cases q : s.kn j = true
  · rw [q]; exact decide_eq_true (this.2 q)
  · rw [decide_eq_false (fun r => q (this.1 r))]; simpa using q
theorem ls_zero (nm : Nat → I) (S : Nat → Sy P V) (p : P) : ls nm S p 0 = [] := rfl
theorem fm_filter {α β : Type} (f : α → Option β) (q : β → Bool) (l : List α) : (l.filterMap f).filter q = l.filterMap (fun x => (f x).filter q) := by
  rw [← List.filterMap_eq_filter, List.filterMap_filterMap]
  refine congrArg (fun g => List.filterMap g l) (funext fun x => ?_)
  cases f x with
  | none => rfl
  | some y => cases h : q y <;> simp [Option.guard, Option.filter, h]
theorem fm_map {α β γ : Type} (f : α → Option β) (g : β → γ) (l : List α) : (l.filterMap f).map g = l.filterMap (fun x => (f x).map g) := by
  rw [List.map_filterMap]
theorem fm_congr {α β : Type} {f g : α → Option β} : ∀ {l : List α}, (∀ x ∈ l, f x = g x) → l.filterMap f = l.filterMap g
  | [], _ => rfl
  | x :: l, h => by
    have e := h x (by simp)
    have ih := fm_congr (l := l) (fun y hy => h y (by simp [hy]))
    rw [List.filterMap_cons, List.filterMap_cons, e, ih]
theorem lf_new (nm : Nat → I) (S : Nat → Sy P V) (p : P) (m : Nat) : lf nm S p (m + 1) m = if (S m).puts = true ∧ (S m).pl = p then some (nm m, (S m).v) else none := by
  unfold lf
  rw [tr_le S p m (Nat.le_refl _)]
  simp
/-- A call at its place. -/
theorem ls_here {nm : Nat → I} (inj : ∀ i j, nm i = nm j → i = j) (S : Nat → Sy P V) (p : P) (m : Nat) (h : (S m).pl = p) : ls nm S p (m + 1) = op nm m (S m) (ls nm S p m) := by
  unfold ls op
  rw [List.range_succ, List.filterMap_append, List.filterMap_cons, List.filterMap_nil, lf_new]
  have rem : (S m).kd ≠ 2 → List.filterMap (lf nm S p (m + 1)) (List.range m) = List.filter (fun x => !decide (x.1 ∈ ids nm (S m) m)) (List.filterMap (lf nm S p m) (List.range m)) := by
    intro h2
    rw [fm_filter]
    refine fm_congr fun i hi => ?_
    have hi := List.mem_range.1 hi
    unfold lf
    by_cases hk : (S m).kn i = true
    · rw [tr_gone S p hi ⟨h, hk⟩ h2, if_neg (by simp)]
      split
      · rw [Option.filter, mem_ids inj (S m) hi, hk]; rfl
      · rfl
    · rw [tr_miss S p hi (fun q => hk q.2)]
      split
      · rw [Option.filter, mem_ids inj (S m) hi, show (S m).kn i = false by simpa using hk]; rfl
      · rfl
  by_cases h1 : (S m).kd = 1
  · have hp : (S m).puts = false := by simp [Sy.puts, h1]
    rw [if_pos h1, hp, if_neg (by simp), rem (by omega)]
    simp
  · rw [if_neg h1]
    by_cases h2 : (S m).kd = 2
    · have hp : (S m).puts = false := by simp [Sy.puts, h2]
      rw [if_pos h2, hp, if_neg (by simp), fm_map]
      simp only [List.append_nil]
      refine fm_congr fun i hi => ?_
      have hi := List.mem_range.1 hi
      unfold lf
      by_cases hk : (S m).kn i = true
      · rw [tr_add S p hi ⟨h, hk⟩ h2]
        split
        · rw [Option.map_some, if_pos (by rw [mem_ids inj (S m) hi]; exact hk)]
        · rfl
      · rw [tr_miss S p hi (fun q => hk q.2)]
        split
        · rw [Option.map_some, if_neg (by rw [mem_ids inj (S m) hi]; exact hk)]
        · rfl
    · have hp : (S m).puts = true := by simp [Sy.puts, h1, h2]
      rw [if_neg h2, if_pos ⟨hp, h⟩, rem h2]
/-- A call elsewhere. -/
theorem ls_there (nm : Nat → I) (S : Nat → Sy P V) (p : P) (m : Nat) (h : (S m).pl ≠ p) : ls nm S p (m + 1) = ls nm S p m := by
  unfold ls
  rw [List.range_succ, List.filterMap_append, List.filterMap_cons, List.filterMap_nil, lf_new, if_neg (fun q => h q.2)]
  simp only [List.append_nil]
  refine fm_congr fun i hi => ?_
  unfold lf
  rw [tr_miss S p (List.mem_range.1 hi) (fun q => h q.1)]
theorem ls_len (nm : Nat → I) (S : Nat → Sy P V) (p : P) (m : Nat) : (ls nm S p m).length ≤ m := by
  have := List.length_filterMap_le (lf nm S p m) (List.range m)
  rw [List.length_range] at this
  exact this
/-- The law's own list, as it grows. -/
def wn (nm : Nat → I) (S : Nat → Sy P V) (p : P) (n i : Nat) : List (I × V) := (List.range i).filterMap (lf nm S p n)
theorem wn_succ (nm : Nat → I) (S : Nat → Sy P V) (p : P) (n i : Nat) : wn nm S p n (i + 1) = wn nm S p n i ++ (match lf nm S p n i with | none => [] | some x => [x]) := by
  unfold wn
  rw [List.range_succ, List.filterMap_append, List.filterMap_cons, List.filterMap_nil]
  cases lf nm S p n i <;> rfl
end
end Rv
end Go.Proofs.YtldlljobofnmmabDoor

namespace Go.Proofs.YtldlljobofnmmabDoor
open Go.ChangeShapes Go.WideShapes Go.ChangeAt Go.RowKit
set_option linter.unusedVariables false
set_option linter.unusedSimpArgs false

/-- A call of a row whose Ids are unlike, as it came in. -/
structure SyR where
  kind : Int
  pl : Int
  v : VaV
  n : Int
  seen : Value
  sl : List Int
def inC (z : Int) : List Value := [.int .i64 z]
def SyR.c (o : SyR) : List Value := (.int .i64 o.kind) :: (.int .i64 o.pl) :: (o.v.c ++ [.int .i64 o.n, o.seen])
def SyR.a (o : SyR) : Value := .agg o.c.toArray
structure SyR.ok (W : World) (o : SyR) : Prop where
  v : o.v.ok
  kind : -9223372036854775808 ≤ o.kind ∧ o.kind ≤ 9223372036854775807
  pl : -9223372036854775808 ≤ o.pl ∧ o.pl ≤ 9223372036854775807
  n : -9223372036854775808 ≤ o.n ∧ o.n ≤ 9223372036854775807
  seen : ∃ a cap, o.seen = .slice a o.sl.length cap ∧ RowAt 1 inC W a o.sl
  len : o.sl.length ≤ 9223372036854775807
  sls : ∀ z ∈ o.sl, -9223372036854775808 ≤ z ∧ z ≤ 9223372036854775807
theorem SyR.len8 (o : SyR) : o.c.length = 8 := by simp [SyR.c, VaV.len]
theorem SyR.ok.below {w w' : World} {o : SyR} (h : o.ok w) (b : Below w.heap.size w w') : o.ok w' := ⟨h.v, h.kind, h.pl, h.n, by
  obtain ⟨a, cap, e, r⟩ := h.seen
  exact ⟨a, cap, e, r.below b⟩, h.len, h.sls⟩
theorem cells_say : Tryd.prog.cellsOf 42 = 8 := by kernel_rfl
theorem cells_intl : Tryd.prog.cellsOf 40 = 1 := by kernel_rfl
section
variable {H : Type} {enc : TypeId × Value → H} {W : World}
set_option maxRecDepth 100000 in
theorem say_cells (fuel : Nat) (cs : List Value) (y : DataW H × List MemPlace) (h : DataW.trod enc Tryd.prog W 0 (fun _ => true) true fuel 42 cs = some y) : ∃ x : SyR, x.ok W ∧ cs = x.c := by
  obtain ⟨xs, n, _, hx, hcl, hlen, hfs⟩ := DataW.trod_struct Tryd.underlying42 h
  rw [cells_say] at hcl
  have hlen : xs.length = 5 := hlen
  obtain ⟨A, R, rfl, hA, hR⟩ := list_split (n := 2) (m := 6) hcl
  obtain ⟨C, D, rfl, hC, hD⟩ := list_split (n := 4) (m := 2) hR
  obtain ⟨a0, a1, rfl⟩ : ∃ a b, A = [a, b] := by
    match A, hA with
    | [a, b], _ => exact ⟨a, b, rfl⟩
  obtain ⟨d0, d1, rfl⟩ : ∃ a b, D = [a, b] := by
    match D, hD with
    | [a, b], _ => exact ⟨a, b, rfl⟩
  match xs, hlen with
  | [y0, y1, y2, y3, y4], _ =>
    have t0 : DataW.trod enc Tryd.prog W 0 (fun _ => true) true n 3 ((([a0, a1] ++ (C ++ [d0, d1])).drop 0).take (Tryd.prog.cellsOf 3)) = some y0 := hfs 0 _ rfl
    have t1 : DataW.trod enc Tryd.prog W 0 (fun _ => true) true n 3 ((([a0, a1] ++ (C ++ [d0, d1])).drop 1).take (Tryd.prog.cellsOf 3)) = some y1 := hfs 1 _ rfl
    have t2 : DataW.trod enc Tryd.prog W 0 (fun _ => true) true n 39 ((([a0, a1] ++ (C ++ [d0, d1])).drop 2).take (Tryd.prog.cellsOf 39)) = some y2 := hfs 2 _ rfl
    have t3 : DataW.trod enc Tryd.prog W 0 (fun _ => true) true n 2 ((([a0, a1] ++ (C ++ [d0, d1])).drop 6).take (Tryd.prog.cellsOf 2)) = some y3 := hfs 3 _ rfl
    have t4 : DataW.trod enc Tryd.prog W 0 (fun _ => true) true n 40 ((([a0, a1] ++ (C ++ [d0, d1])).drop 7).take (Tryd.prog.cellsOf 40)) = some y4 := hfs 4 _ rfl
    have dC : ([a0, a1] ++ (C ++ [d0, d1])).drop 2 = C ++ [d0, d1] := rfl
    have dD : ([a0, a1] ++ (C ++ [d0, d1])).drop 6 = [d0, d1] := by
      rw [show 6 = 2 + C.length by omega, ← List.drop_drop, dC, List.drop_left]
    have dE : ([a0, a1] ++ (C ++ [d0, d1])).drop 7 = [d1] := by
      rw [show 7 = 6 + 1 by omega, ← List.drop_drop, dD]; rfl
    rw [cells_int] at t0 t1
    rw [cells_va, dC, ← hC, List.take_left] at t2
    rw [cells_i64, dD] at t3
    rw [cells_intl, dE] at t4
    obtain ⟨z0, q0, _, w0⟩ := DataW.trod_int Tryd.underlying3 t0
    obtain ⟨z1, q1, _, w1⟩ := DataW.trod_int Tryd.underlying3 t1
    obtain ⟨x2, o2, q2⟩ := va_cells _ _ _ t2
    obtain ⟨z3, q3, _, w3⟩ := DataW.trod_int Tryd.underlying2 t3
    have t4' : DataW.trod enc Tryd.prog W 0 (fun _ => true) true n 40 [d1] = some y4 := t4
    obtain ⟨sa, sl, sc, hs, hm⟩ : ∃ a l c, d1 = .slice a l c ∧ l ≤ 9223372036854775807 := by
      rcases DataW.trod_slice Tryd.underlying40 t4' with ⟨e, _⟩ | ⟨ad, l, c, _, _, _, _, e, _, _, h1, h2, _⟩
      · exact ⟨none, 0, 0, (List.cons.inj e).1, by omega⟩
      · exact ⟨some ad, l, c, (List.cons.inj e).1, by unfold maxLen at h2; omega⟩
    subst hs
    obtain ⟨L, hl, hok, hat, _⟩ := view_rows (k := 1) (encd := inC) (ok := fun z => -9223372036854775808 ≤ z ∧ z ≤ 9223372036854775807) Tryd.underlying40 cells_int (by omega) (fun x hx => rfl) (fun fuel cs y h => by
      obtain ⟨z, q, _, w⟩ := DataW.trod_int Tryd.underlying3 h
      exact ⟨z, i64_wf w, q⟩) (d := y4.1) (p := y4.2) ⟨n, t4'⟩
    simp at q0 q1 q3
    subst q0 q1 q2 q3 hl
    exact ⟨⟨z0, z1, x2, z3, _, L⟩, ⟨o2, i64_wf w0, i64_wf w1, i64_wf w3, ⟨sa, sc, rfl, hat⟩, hm, hok⟩, rfl⟩
theorem view_says {a : Option Addr} {len cap : Nat} {d : DataW H} {p : List MemPlace} (h : DataW.Trod enc Tryd.prog W 0 (fun _ => true) true 23 (.slice a len cap) d p) :
    ∃ L : List SyR, L.length = len ∧ (∀ x ∈ L, x.ok W) ∧ RowAt 8 SyR.c W a L ∧ (d = .nil ∧ len = 0 ∨ ∃ el sp, d = .slice el sp ∧ el.length = len) :=
  view_rows (ok := SyR.ok W) Tryd.underlying23 cells_say (by omega) (fun x hx => SyR.len8 x) say_cells h
end
theorem bytes_say : Tryd.prog.bytesOf 42 = 88 := by kernel_rfl
theorem reach_says {H : Type} {ts : List TypeId} {ds : List (DataW H)} (hsz : (DataW.weightsEach Tryd.prog ts ds).all (· ≤ reachBytes) = true) (j : Nat) (ht : ts[j]? = some 23) {d : DataW H} (hd : ds[j]? = some d) {len : Nat}
    (h : d = .nil ∧ len = 0 ∨ ∃ el sp, d = .slice el sp ∧ el.length = len) : len ≤ 1599289640355 := by
  rcases h with ⟨_, rfl⟩ | ⟨el, sp, rfl, rfl⟩
  · omega
  · have := sized_slice hsz (j := j) (t := 23) (e := 42) ht hd Tryd.underlying23
    rw [bytes_say] at this
    simp only [reachBytes] at this
    omega
/-- What a call says, without memory. -/
def SyR.s (Ps : List PlK) (o : SyR) : Rv.Sy PlK VaV := ⟨atP Ps o.pl, o.kind, o.v, fun i => decide ((i : Int) ∈ o.sl), sumV o.n⟩
/-- The Id of the call of a number. -/
def nmI (i : Nat) : IdK := ⟨UInt8.ofNat i :: UInt8.ofNat (i / 256) :: UInt8.ofNat (i / 65536) :: List.replicate 29 0, (i : Int) + 1⟩
theorem nmI_inj (i j : Nat) (h : nmI i = nmI j) : i = j := by
  have := congrArg IdK.n h
  simp only [nmI] at this
  omega
end Go.Proofs.YtldlljobofnmmabDoor

namespace Go.Proofs.YtldlljobofnmmabDoor
open Go.RowKit
set_option linter.unusedVariables false
set_option linter.unusedSimpArgs false

theorem ix_idR {b o m c i : Nat} (hi : i < m) (hm : m ≤ 9223372036854775807) (W : World) : (Instr.indexAt 70 (.slice (some ⟨b, o, none⟩) m c) (.int .i64 (i : Int))).run Tryd.prog W = .ok (.pointer (some ⟨b, o + 33 * i, none⟩)) W := by
  rw [Nat.mul_comm]
  go_simp
theorem ex_eqlX {w : World} {a : Act} {o : Oper} {x y : Operand} {p q : IdK} (hp : p.ok) (hq : q.ok) (ho : o.op = .binOp .eql 32 x y 32) (hx : a.eval x = p.v) (hy : a.eval y = q.v) : (execOp a.eval o).run Tryd.prog w = .ok (.value (.bool (decide (p = q)))) w := exec_binOp ho hx hy (guard_idR _ _ _ _ _ _) (eql_idR p q hp hq w)
theorem guard_plR (x y : Operand) (a b : PlK) (w : World) (op : BinOp) : (eqGuard op 34 x y a.v b.v).run Tryd.prog w = .ok () w := by
  unfold eqGuard
  cases op <;> simp [PlK.v]
theorem eql_plR (a b : PlK) (ha : a.ok) (hb : b.ok) (w : World) : (binOp .eql 34 a.v b.v).run Tryd.prog w = .ok (.bool (decide (a = b))) w := by
  have h := eqPl 9996 a b ha hb w
  have : (Op.equal 34 a.v b.v).run Tryd.prog w = .ok (decide (a = b)) w := h
  unfold PlK.v at *
  simp only [binOp]
  simp [this]
theorem ex_eqlP {w : World} {a : Act} {o : Oper} {x y : Operand} {p q : PlK} (hp : p.ok) (hq : q.ok) (ho : o.op = .binOp .eql 34 x y 34) (hx : a.eval x = p.v) (hy : a.eval y = q.v) : (execOp a.eval o).run Tryd.prog w = .ok (.value (.bool (decide (p = q)))) w := exec_binOp ho hx hy (guard_plR _ _ _ _ _ _) (eql_plR p q hp hq w)
def saw4_o0 : Oper := { dst := some 12, op := Op.move (Operand.tmp 0), type := 70, pos := "ref.go:46", after := #[], guard := none }
def saw4_o1 : Oper := { dst := some 13, op := Op.move (Operand.tmp 5), type := 3, pos := "ref.go:46", after := #[], guard := none }
def saw4_o2 : Oper := { dst := some 14, op := Op.indexAddr 70 (Operand.tmp 12) (Operand.tmp 13), type := 0, pos := "ref.go:46", after := #[{ on := 0, ground := Ground.data }, { on := 1, ground := Ground.data }], guard := none }
def saw4_o3 : Oper := { dst := some 15, op := Op.load 32 (Operand.tmp 14), type := 32, pos := "ref.go:46", after := #[{ on := 2, ground := Ground.data }], guard := none }
def saw4_o4 : Oper := { dst := some 16, op := Op.load 32 (Operand.tmp 3), type := 32, pos := "ref.go:46", after := #[], guard := none }
def saw4_o5 : Oper := { dst := some 17, op := Op.binOp BinOp.eql 32 (Operand.tmp 15) (Operand.tmp 16) 32, type := 4, pos := "ref.go:46", after := #[{ on := 3, ground := Ground.data }, { on := 4, ground := Ground.data }], guard := none }
def saw4_ops : Array Oper := #[saw4_o0, saw4_o1, saw4_o2, saw4_o3, saw4_o4, saw4_o5]
set_option maxRecDepth 100000 in
set_option maxHeartbeats 4000000 in
theorem saw4 {g o n c i xb : Nat} {x y : IdK} (a : Act) (w : World) (Q : Exit → Act → World → Prop) (zz : a.tmps.size = 18)
    (t0 : a.tmps.getD 0 undef = .slice (some ⟨g, o, none⟩) n c)
    (t3 : a.tmps.getD 3 undef = .pointer (some ⟨xb, 0, none⟩))
    (t5 : a.tmps.getD 5 undef = .int .i64 (i : Int))
    (hx : x.ok) (hy : y.ok) (hi : i < n) (hm : n ≤ 9223372036854775807) (L1 : ∀ W, W = w.drew → (Instr.loadAt 32 (.pointer (some ⟨g, o + 33 * i, none⟩))).run Tryd.prog W = .ok (x.v) W) (L2 : ∀ W, W = w.drew → (Instr.loadAt 32 (.pointer (some ⟨xb, 0, none⟩))).run Tryd.prog W = .ok (y.v) W)
    (h : ∀ (a' : Act) (w' : World), w' = w.drew → a' = ((((((a).put (some 12) (.slice (some ⟨g, o, none⟩) n c)).put (some 13) (.int .i64 (i : Int))).put (some 14) (.pointer (some ⟨g, o + 33 * i, none⟩))).put (some 15) (x.v)).put (some 16) (y.v)).put (some 17) (.bool (decide (x = y))) → Q .normal a' w') :
    (Code.region 4 saw4_ops true).wp Tryd.prog Q a w := by
  refine y0 (fun w' => w' = w.drew) (rfl) (fun hHeld => ?_)
  refine yv 0 rfl rfl (fun w1 hw => exec_move rfl (zi t0 rfl)) hHeld ?_
  refine yv 1 rfl rfl (fun w1 hw => exec_move rfl (zi t5 rfl)) hHeld ?_
  refine yv 2 rfl rfl (fun w1 hw => exec_indexAt rfl (zg zz rfl) (zg zz rfl) (ix_idR hi hm _)) hHeld ?_
  refine yv 3 rfl rfl (fun w1 hw => exec_load rfl (zg zz rfl) (L1 _ hw)) hHeld ?_
  refine yv 4 rfl rfl (fun w1 hw => exec_load rfl (zi t3 rfl) (L2 _ hw)) hHeld ?_
  refine yv (v := .bool (decide (x = y))) 5 rfl rfl (fun w1 hw => ex_eqlX hx hy rfl (zg zz rfl) (zg zz rfl)) hHeld ?_
  exact ye rfl (h _ _ (hHeld) rfl)
end Go.Proofs.YtldlljobofnmmabDoor

namespace Go.Proofs.YtldlljobofnmmabDoor
open Go.RowKit
set_option linter.unusedVariables false
set_option linter.unusedSimpArgs false

theorem fg_42_0 (b o : Nat) (w : World) : (Instr.fieldAt 42 (.pointer (some ⟨b, o, none⟩)) 0).run Tryd.prog w = .ok (.pointer (some ⟨b, o + 0, none⟩)) w := by go_simp
theorem fg_42_1 (b o : Nat) (w : World) : (Instr.fieldAt 42 (.pointer (some ⟨b, o, none⟩)) 1).run Tryd.prog w = .ok (.pointer (some ⟨b, o + 1, none⟩)) w := by go_simp
theorem fg_42_2 (b o : Nat) (w : World) : (Instr.fieldAt 42 (.pointer (some ⟨b, o, none⟩)) 2).run Tryd.prog w = .ok (.pointer (some ⟨b, o + 2, none⟩)) w := by go_simp
theorem fg_42_3 (b o : Nat) (w : World) : (Instr.fieldAt 42 (.pointer (some ⟨b, o, none⟩)) 3).run Tryd.prog w = .ok (.pointer (some ⟨b, o + 6, none⟩)) w := by go_simp
theorem fg_42_4 (b o : Nat) (w : World) : (Instr.fieldAt 42 (.pointer (some ⟨b, o, none⟩)) 4).run Tryd.prog w = .ok (.pointer (some ⟨b, o + 7, none⟩)) w := by go_simp
theorem ix_say {b o m c i : Nat} (hi : i < m) (hm : m ≤ 9223372036854775807) (W : World) : (Instr.indexAt 23 (.slice (some ⟨b, o, none⟩) m c) (.int .i64 (i : Int))).run Tryd.prog W = .ok (.pointer (some ⟨b, o + 8 * i, none⟩)) W := by
  rw [Nat.mul_comm]
  go_simp
theorem neq_plR (a b : PlK) (ha : a.ok) (hb : b.ok) (w : World) : (binOp .neq 34 a.v b.v).run Tryd.prog w = .ok (.bool (decide (a ≠ b))) w := by
  have h := eqPl 9996 a b ha hb w
  have : (Op.equal 34 a.v b.v).run Tryd.prog w = .ok (decide (a = b)) w := h
  unfold PlK.v at *
  simp only [binOp]
  simp [this]
theorem ex_neqP {w : World} {a : Act} {o : Oper} {x y : Operand} {p q : PlK} {r : Bool} (hp : p.ok) (hq : q.ok) (hr : decide (p ≠ q) = r) (ho : o.op = .binOp .neq 34 x y 34) (hx : a.eval x = p.v) (hy : a.eval y = q.v) : (execOp a.eval o).run Tryd.prog w = .ok (.value (.bool r)) w := by
  subst hr
  exact exec_binOp ho hx hy (guard_plR _ _ _ _ _ _) (neq_plR p q hp hq w)
theorem ex_ne2 {w : World} {a : Act} {o : Oper} {x y : Operand} {c d : Int} (ho : o.op = .binOp .neq 3 x y 3) (hx : a.eval x = .int .i64 c) (hy : a.eval y = .int .i64 d) : (execOp a.eval o).run Tryd.prog w = .ok (.value (.bool (c != d))) w := by
  refine exec_binOp ho hx hy ?_ ?_
  · kernel_rfl
  · go_simp
theorem ex_gt0 {w : World} {a : Act} {o : Oper} {x y : Operand} {n : Nat} {r : Bool} (hr : decide (0 < n) = r) (ho : o.op = .binOp .gtr 3 x y 3) (hx : a.eval x = .int .i64 (n : Int)) (hy : a.eval y = .int .i64 0) : (execOp a.eval o).run Tryd.prog w = .ok (.value (.bool r)) w := by
  subst hr
  have h2 : decide ((n : Int) > 0) = decide (0 < n) := decide_eq_decide.2 (by omega)
  refine exec_binOp ho hx hy ?_ ?_
  · kernel_rfl
  · rw [← h2]
    go_simp
theorem ex_neb {w : World} {a : Act} {o : Oper} {x y : Operand} {r : Bool} (ho : o.op = .binOp .neq 4 x y 4) (hx : a.eval x = .bool r) (hy : a.eval y = .bool r) : (execOp a.eval o).run Tryd.prog w = .ok (.value (.bool false)) w := by
  refine exec_binOp ho hx hy ?_ ?_
  · unfold eqGuard; simp
  · cases r <;> kernel_rfl
theorem ex_addw {w : World} {a : Act} {o : Oper} {x y : Operand} {m n : Int} (ho : o.op = .binOp .add 2 x y 2) (hx : a.eval x = .int .i64 m) (hy : a.eval y = .int .i64 n) : (execOp a.eval o).run Tryd.prog w = .ok (.value (.int .i64 (IntKind.i64.wrap (m + n)))) w := by
  refine exec_binOp ho hx hy ?_ ?_
  · kernel_rfl
  · go_simp
def do5_o0 : Oper := { dst := some 18, op := Op.move (Operand.tmp 2), type := 23, pos := "outright.go:40", after := #[], guard := none }
def do5_o1 : Oper := { dst := some 19, op := Op.move (Operand.tmp 3), type := 3, pos := "outright.go:40", after := #[], guard := none }
def do5_o2 : Oper := { dst := some 20, op := Op.indexAddr 23 (Operand.tmp 18) (Operand.tmp 19), type := 0, pos := "outright.go:40", after := #[{ on := 0, ground := Ground.data }, { on := 1, ground := Ground.data }], guard := none }
def do5_o3 : Oper := { dst := some 21, op := Op.load 42 (Operand.tmp 20), type := 42, pos := "outright.go:40", after := #[{ on := 2, ground := Ground.data }], guard := none }
def do5_o4 : Oper := { dst := some 22, op := Op.move (Operand.tmp 10), type := 3, pos := "outright.go:40", after := #[], guard := none }
def do5_o5 : Oper := { dst := some 23, op := Op.call { callee := Callee.value (Operand.func 18), args := #[Operand.tmp 21, Operand.tmp 22], argTypes := #[42, 3] }, type := 4, pos := "outright.go:40", after := #[{ on := 3, ground := Ground.data }, { on := 4, ground := Ground.data }], guard := none }
def do5_ops : Array Oper := #[do5_o0, do5_o1, do5_o2, do5_o3, do5_o4, do5_o5]
set_option maxRecDepth 100000 in
set_option maxHeartbeats 4000000 in
theorem do5 {g o n c i k : Nat} {x : SyR} {r : Bool} (Fin : World → Prop) (a : Act) (w : World) (Q : Exit → Act → World → Prop) (zz : a.tmps.size = 70)
    (t2 : a.tmps.getD 2 undef = .slice (some ⟨g, o, none⟩) n c)
    (t3 : a.tmps.getD 3 undef = .int .i64 (i : Int))
    (t10 : a.tmps.getD 10 undef = .int .i64 (k : Int))
    (hi : i < n) (hm : n ≤ 9223372036854775807) (LS : ∀ W, W = w → (Instr.loadAt 42 (.pointer (some ⟨g, o + 8 * i, none⟩))).run Tryd.prog W = .ok (x.a) W) (CK : Calls Tryd.prog 18 #[x.a, .int .i64 (k : Int)] w fun e w' => e = .returned (.bool r) ∧ Fin w')
    (h : ∀ (a' : Act) (w' : World), Fin w' → a' = ((((((a).put (some 18) (.slice (some ⟨g, o, none⟩) n c)).put (some 19) (.int .i64 (i : Int))).put (some 20) (.pointer (some ⟨g, o + 8 * i, none⟩))).put (some 21) (x.a)).put (some 22) (.int .i64 (k : Int))).put (some 23) (.bool r) → Q .normal a' w') :
    (Code.region 5 do5_ops false).wp Tryd.prog Q a w := by
  refine z0 rfl ?_
  refine zv rfl (exec_move rfl (zi t2 rfl)) ?_
  refine zv rfl (exec_move rfl (zi t3 rfl)) ?_
  refine zv rfl (exec_indexAt rfl (zg zz rfl) (zg zz rfl) (ix_say hi hm _)) ?_
  refine zv rfl (exec_load rfl (zg zz rfl) (LS _ rfl)) ?_
  refine zv rfl (exec_move rfl (zi t10 rfl)) ?_
  refine zc rfl (exec_c2 rfl (zg zz rfl) (zg zz rfl)) (CK) (fun e x5 hx => ?_)
  obtain ⟨rfl, HF⟩ := hx
  refine ⟨_, rfl, ?_⟩
  exact ze rfl (h _ _ (HF) rfl)
def do6_o0 : Oper := { dst := some 24, op := Op.load 70 (Operand.tmp 9), type := 70, pos := "outright.go:41", after := #[], guard := none }
def do6_o1 : Oper := { dst := some 25, op := Op.move (Operand.tmp 10), type := 3, pos := "outright.go:41", after := #[], guard := none }
def do6_o2 : Oper := { dst := some 26, op := Op.call { callee := Callee.value (Operand.func 19), args := #[Operand.tmp 25], argTypes := #[3] }, type := 32, pos := "outright.go:41", after := #[{ on := 1, ground := Ground.data }], guard := none }
def do6_o3 : Oper := { dst := some 27, op := Op.buildSlice 70 1 #[(0, Operand.tmp 26)], type := 70, pos := "outright.go:41", after := #[{ on := 2, ground := Ground.data }], guard := none }
def do6_o4 : Oper := { dst := some 28, op := Op.call { callee := Callee.builtin Builtin.append, args := #[Operand.tmp 24, Operand.tmp 27], argTypes := #[70, 70] }, type := 70, pos := "outright.go:41", after := #[{ on := 0, ground := Ground.data }, { on := 3, ground := Ground.data }, { on := 2, ground := Ground.chain }], guard := none }
def do6_o5 : Oper := { dst := none, op := Op.store 70 (Operand.tmp 9) (Operand.tmp 28), type := 0, pos := "outright.go:41", after := #[{ on := 4, ground := Ground.data }, { on := 4, ground := Ground.chain }, { on := 0, ground := Ground.phase }, { on := 1, ground := Ground.phase }, { on := 2, ground := Ground.phase }, { on := 3, ground := Ground.phase }, { on := 4, ground := Ground.phase }], guard := none }
def do6_ops : Array Oper := #[do6_o0, do6_o1, do6_o2, do6_o3, do6_o4, do6_o5]
set_option maxRecDepth 100000 in
set_option maxHeartbeats 4000000 in
theorem do6 {ib k : Nat} {iv : Value} {y : IdK} (S Fin : World → Prop) (a : Act) (w : World) (Q : Exit → Act → World → Prop) (zz : a.tmps.size = 70)
    (t9 : a.tmps.getD 9 undef = .pointer (some ⟨ib, 0, none⟩))
    (t10 : a.tmps.getD 10 undef = .int .i64 (k : Int))
    (h0 : S w.drew) (LI : ∀ W, S W → (Instr.loadAt 70 (.pointer (some ⟨ib, 0, none⟩))).run Tryd.prog W = .ok (iv) W) (CN : Calls Tryd.prog 19 #[.int .i64 (k : Int)] w.drew fun e w' => e = .returned y.v ∧ S w' ∧ ∃ sv w1 u w2 w3, (Instr.buildSlice 70 1 #[(0, y.v)]).run Tryd.prog w' = .ok sv w1 ∧ S w1 ∧ (Builtin.append_ #[70, 70] 70 #[iv, sv]).run Tryd.prog w1 = .ok u w2 ∧ S w2 ∧ (Instr.storeAt 70 (.pointer (some ⟨ib, 0, none⟩)) u).run Tryd.prog w2 = .ok () w3 ∧ Fin w3)
    (h : ∀ (sv u : Value) (a' : Act) (w' : World), Fin w' → a' = (((((a).put (some 24) (iv)).put (some 25) (.int .i64 (k : Int))).put (some 26) (y.v)).put (some 27) (sv)).put (some 28) (u) → Q .normal a' w') :
    (Code.region 6 do6_ops true).wp Tryd.prog Q a w := by
  refine x0 5 (fun w' => S w') (h0) (fun hHeld => ?_)
  refine xv 0 rfl rfl (fun w1 hw => exec_load rfl (zi t9 rfl) (LI _ hw)) hHeld ?_
  refine xv 1 rfl rfl (fun w1 hw => exec_move rfl (zi t10 rfl)) hHeld ?_
  refine xc 2 rfl rfl (exec_c1 rfl (zg zz rfl)) (CN) (fun e x2 hx => ?_)
  obtain ⟨rfl, S1, sv, w1, u, w2, w3, EB, S2, EA, S3, ES, HF⟩ := hx
  replace h := h sv u
  refine ⟨_, rfl, fun _ => S1, fun hHeld => ?_⟩
  replace hHeld := hHeld (by decide)
  refine xr (v := sv) 3 rfl rfl (exec_buildSlice rfl (zg zz rfl) EB) (fun _ => S2) (fun hHeld => ?_)
  replace hHeld := hHeld (by decide)
  refine xr (v := u) 4 rfl rfl (exec_append rfl (zg zz rfl) (zg zz rfl) EA) (fun _ => S3) (fun hHeld => ?_)
  replace hHeld := hHeld (by decide)
  refine xs 5 rfl rfl (exec_store rfl (zi t9 rfl) (zg zz rfl) ES) (fun hne => absurd rfl hne) (fun _ => ?_)
  exact xe rfl (h _ _ (HF) rfl)
def do8_o0 : Oper := { dst := some 30, op := Op.move (Operand.tmp 1), type := 22, pos := "outright.go:45", after := #[], guard := none }
def do8_o1 : Oper := { dst := some 31, op := Op.move (Operand.tmp 2), type := 23, pos := "outright.go:45", after := #[], guard := none }
def do8_o2 : Oper := { dst := some 32, op := Op.move (Operand.tmp 3), type := 3, pos := "outright.go:45", after := #[], guard := none }
def do8_o3 : Oper := { dst := some 33, op := Op.indexAddr 23 (Operand.tmp 31) (Operand.tmp 32), type := 0, pos := "outright.go:45", after := #[{ on := 1, ground := Ground.data }, { on := 2, ground := Ground.data }], guard := none }
def do8_o4 : Oper := { dst := some 34, op := Op.fieldAddr 42 (Operand.tmp 33) 1, type := 0, pos := "outright.go:45", after := #[{ on := 3, ground := Ground.data }], guard := none }
def do8_o5 : Oper := { dst := some 35, op := Op.load 3 (Operand.tmp 34), type := 3, pos := "outright.go:45", after := #[{ on := 4, ground := Ground.data }], guard := none }
def do8_o6 : Oper := { dst := some 36, op := Op.call { callee := Callee.value (Operand.func 8), args := #[Operand.tmp 30, Operand.tmp 35], argTypes := #[22, 3] }, type := 34, pos := "outright.go:45", after := #[{ on := 0, ground := Ground.data }, { on := 5, ground := Ground.data }], guard := none }
def do8_o7 : Oper := { dst := some 12, op := Op.alloc 34, type := 0, pos := "outright.go:45", after := #[], guard := none }
def do8_o8 : Oper := { dst := none, op := Op.store 34 (Operand.tmp 12) (Operand.tmp 36), type := 0, pos := "outright.go:45", after := #[{ on := 7, ground := Ground.data }, { on := 6, ground := Ground.data }, { on := 6, ground := Ground.chain }, { on := 0, ground := Ground.phase }, { on := 1, ground := Ground.phase }, { on := 2, ground := Ground.phase }, { on := 3, ground := Ground.phase }, { on := 4, ground := Ground.phase }, { on := 5, ground := Ground.phase }, { on := 6, ground := Ground.phase }, { on := 7, ground := Ground.phase }], guard := none }
def do8_ops : Array Oper := #[do8_o0, do8_o1, do8_o2, do8_o3, do8_o4, do8_o5, do8_o6, do8_o7, do8_o8]
set_option maxRecDepth 100000 in
set_option maxHeartbeats 4000000 in
theorem do8 {g o n c i pn pc : Nat} {pa : Option Addr} {p : PlK} {x : SyR} (Fin : Nat → World → Prop) (a : Act) (w : World) (Q : Exit → Act → World → Prop) (zz : a.tmps.size = 70)
    (t1 : a.tmps.getD 1 undef = .slice pa pn pc)
    (t2 : a.tmps.getD 2 undef = .slice (some ⟨g, o, none⟩) n c)
    (t3 : a.tmps.getD 3 undef = .int .i64 (i : Int))
    (hi : i < n) (hm : n ≤ 9223372036854775807) (LQ : ∀ W, W = w → (Instr.loadAt 3 (.pointer (some ⟨g, o + 8 * i + 1, none⟩))).run Tryd.prog W = .ok (.int .i64 x.pl) W) (CA : Calls Tryd.prog 8 #[.slice pa pn pc, .int .i64 x.pl] w fun e w' => e = .returned p.v ∧ ∃ pb w1 w2, (Instr.alloc 34 true (.tuple #[])).run Tryd.prog w' = .ok (.pointer (some ⟨pb, 0, none⟩)) w1 ∧ (Instr.storeAt 34 (.pointer (some ⟨pb, 0, none⟩)) p.v).run Tryd.prog w1 = .ok () w2 ∧ Fin pb w2)
    (h : ∀ (pb : Nat) (a' : Act) (w' : World), Fin pb w' → a' = ((((((((a).put (some 30) (.slice pa pn pc)).put (some 31) (.slice (some ⟨g, o, none⟩) n c)).put (some 32) (.int .i64 (i : Int))).put (some 33) (.pointer (some ⟨g, o + 8 * i, none⟩))).put (some 34) (.pointer (some ⟨g, o + 8 * i + 1, none⟩))).put (some 35) (.int .i64 x.pl)).put (some 36) (p.v)).put (some 12) (.pointer (some ⟨pb, 0, none⟩)) → Q .normal a' w') :
    (Code.region 8 do8_ops false).wp Tryd.prog Q a w := by
  refine z0 rfl ?_
  refine zv rfl (exec_move rfl (zi t1 rfl)) ?_
  refine zv rfl (exec_move rfl (zi t2 rfl)) ?_
  refine zv rfl (exec_move rfl (zi t3 rfl)) ?_
  refine zv rfl (exec_indexAt rfl (zg zz rfl) (zg zz rfl) (ix_say hi hm _)) ?_
  refine zv rfl (exec_fieldAt rfl (zg zz rfl) (fg_42_1 _ _ _)) ?_
  refine zv rfl (exec_load rfl (zg zz rfl) (LQ _ rfl)) ?_
  refine zc rfl (exec_c2 rfl (zg zz rfl) (zg zz rfl)) (CA) (fun e x6 hx => ?_)
  obtain ⟨rfl, pb, w1, w2, EA, ES, HF⟩ := hx
  replace h := h pb
  refine ⟨_, rfl, ?_⟩
  refine zv (v := .pointer (some ⟨pb, 0, none⟩)) rfl (exec_alloc rfl EA) ?_
  refine zs rfl (exec_store rfl (zg zz rfl) (zg zz rfl) ES) ?_
  exact ze rfl (h _ _ (HF) rfl)
def do9_o0 : Oper := { dst := some 37, op := Op.move (Operand.tmp 2), type := 23, pos := "outright.go:46", after := #[], guard := none }
def do9_o1 : Oper := { dst := some 38, op := Op.move (Operand.tmp 3), type := 3, pos := "outright.go:46", after := #[], guard := none }
def do9_o2 : Oper := { dst := some 39, op := Op.indexAddr 23 (Operand.tmp 37) (Operand.tmp 38), type := 0, pos := "outright.go:46", after := #[{ on := 0, ground := Ground.data }, { on := 1, ground := Ground.data }], guard := none }
def do9_o3 : Oper := { dst := some 40, op := Op.fieldAddr 42 (Operand.tmp 39) 0, type := 0, pos := "outright.go:46", after := #[{ on := 2, ground := Ground.data }], guard := none }
def do9_o4 : Oper := { dst := some 41, op := Op.load 3 (Operand.tmp 40), type := 3, pos := "outright.go:46", after := #[{ on := 3, ground := Ground.data }], guard := none }
def do9_ops : Array Oper := #[do9_o0, do9_o1, do9_o2, do9_o3, do9_o4]
set_option maxRecDepth 100000 in
set_option maxHeartbeats 4000000 in
theorem do9 {g o n c i : Nat} {x : SyR} (a : Act) (w : World) (Q : Exit → Act → World → Prop) (zz : a.tmps.size = 70)
    (t2 : a.tmps.getD 2 undef = .slice (some ⟨g, o, none⟩) n c)
    (t3 : a.tmps.getD 3 undef = .int .i64 (i : Int))
    (hi : i < n) (hm : n ≤ 9223372036854775807) (LQ : ∀ W, W = w → (Instr.loadAt 3 (.pointer (some ⟨g, o + 8 * i + 0, none⟩))).run Tryd.prog W = .ok (.int .i64 x.kind) W)
    (h : ∀ (a' : Act) (w' : World), w' = w → a' = (((((a).put (some 37) (.slice (some ⟨g, o, none⟩) n c)).put (some 38) (.int .i64 (i : Int))).put (some 39) (.pointer (some ⟨g, o + 8 * i, none⟩))).put (some 40) (.pointer (some ⟨g, o + 8 * i + 0, none⟩))).put (some 41) (.int .i64 x.kind) → Q .normal a' w') :
    (Code.region 9 do9_ops false).wp Tryd.prog Q a w := by
  refine z0 rfl ?_
  refine zv rfl (exec_move rfl (zi t2 rfl)) ?_
  refine zv rfl (exec_move rfl (zi t3 rfl)) ?_
  refine zv rfl (exec_indexAt rfl (zg zz rfl) (zg zz rfl) (ix_say hi hm _)) ?_
  refine zv rfl (exec_fieldAt rfl (zg zz rfl) (fg_42_0 _ _ _)) ?_
  refine zv rfl (exec_load rfl (zg zz rfl) (LQ _ rfl)) ?_
  exact ze rfl (h _ _ (rfl) rfl)
def do11_o0 : Oper := { dst := some 44, op := Op.move (Operand.tmp 0), type := 25, pos := "outright.go:48", after := #[], guard := none }
def do11_o1 : Oper := { dst := some 45, op := Op.load 34 (Operand.tmp 12), type := 34, pos := "outright.go:48", after := #[], guard := none }
def do11_o2 : Oper := { dst := some 46, op := Op.move (Operand.tmp 11), type := 63, pos := "outright.go:48", after := #[], guard := none }
def do11_o3 : Oper := { dst := some 47, op := Op.call { callee := Callee.value (Operand.func 22), args := #[Operand.tmp 44, Operand.tmp 45, Operand.tmp 46], argTypes := #[25, 34, 63] }, type := 27, pos := "outright.go:48", after := #[{ on := 0, ground := Ground.data }, { on := 1, ground := Ground.data }, { on := 2, ground := Ground.data }], guard := none }
def do11_o4 : Oper := { dst := some 8, op := Op.assign (Operand.tmp 47), type := 27, pos := "outright.go:48", after := #[{ on := 3, ground := Ground.data }, { on := 3, ground := Ground.chain }, { on := 0, ground := Ground.phase }, { on := 1, ground := Ground.phase }, { on := 2, ground := Ground.phase }, { on := 3, ground := Ground.phase }], guard := none }
def do11_ops : Array Oper := #[do11_o0, do11_o1, do11_o2, do11_o3, do11_o4]
set_option maxRecDepth 100000 in
set_option maxHeartbeats 4000000 in
theorem do11 {rb pb : Nat} {fv : Value} {p : PlK} (Fin : Nat → World → Prop) (a : Act) (w : World) (Q : Exit → Act → World → Prop) (zz : a.tmps.size = 70)
    (t0 : a.tmps.getD 0 undef = .pointer (some ⟨rb, 0, none⟩))
    (t11 : a.tmps.getD 11 undef = fv)
    (t12 : a.tmps.getD 12 undef = .pointer (some ⟨pb, 0, none⟩))
    (LP : ∀ W, W = w → (Instr.loadAt 34 (.pointer (some ⟨pb, 0, none⟩))).run Tryd.prog W = .ok (p.v) W) (CD : Calls Tryd.prog 22 #[.pointer (some ⟨rb, 0, none⟩), p.v, fv] w fun e w' => ∃ bk, e = .returned (.pointer (some ⟨bk, 0, none⟩)) ∧ Fin bk w')
    (h : ∀ (bk : Nat) (a' : Act) (w' : World), Fin bk w' → a' = (((((a).put (some 44) (.pointer (some ⟨rb, 0, none⟩))).put (some 45) (p.v)).put (some 46) (fv)).put (some 47) (.pointer (some ⟨bk, 0, none⟩))).put (some 8) (.pointer (some ⟨bk, 0, none⟩)) → Q .normal a' w') :
    (Code.region 11 do11_ops false).wp Tryd.prog Q a w := by
  refine z0 rfl ?_
  refine zv rfl (exec_move rfl (zi t0 rfl)) ?_
  refine zv rfl (exec_load rfl (zi t12 rfl) (LP _ rfl)) ?_
  refine zv rfl (exec_move rfl (zi t11 rfl)) ?_
  refine zc rfl (exec_c3 rfl (zg zz rfl) (zg zz rfl) (zg zz rfl)) (CD) (fun e x3 hx => ?_)
  obtain ⟨bk, rfl, HF⟩ := hx
  replace h := h bk
  refine ⟨_, rfl, ?_⟩
  refine zv rfl (exec_assign rfl (zg zz rfl)) ?_
  exact ze rfl (h _ _ (HF) rfl)
def do13_o0 : Oper := { dst := some 50, op := Op.move (Operand.tmp 0), type := 25, pos := "outright.go:50", after := #[], guard := none }
def do13_o1 : Oper := { dst := some 51, op := Op.load 34 (Operand.tmp 12), type := 34, pos := "outright.go:50", after := #[], guard := none }
def do13_o2 : Oper := { dst := some 52, op := Op.move (Operand.tmp 2), type := 23, pos := "outright.go:50", after := #[], guard := none }
def do13_o3 : Oper := { dst := some 53, op := Op.move (Operand.tmp 3), type := 3, pos := "outright.go:50", after := #[], guard := none }
def do13_o4 : Oper := { dst := some 54, op := Op.indexAddr 23 (Operand.tmp 52) (Operand.tmp 53), type := 0, pos := "outright.go:50", after := #[{ on := 2, ground := Ground.data }, { on := 3, ground := Ground.data }], guard := none }
def do13_o5 : Oper := { dst := some 55, op := Op.fieldAddr 42 (Operand.tmp 54) 3, type := 0, pos := "outright.go:50", after := #[{ on := 4, ground := Ground.data }], guard := none }
def do13_o6 : Oper := { dst := some 56, op := Op.load 2 (Operand.tmp 55), type := 2, pos := "outright.go:50", after := #[{ on := 5, ground := Ground.data }], guard := none }
def do13_o7 : Oper := { dst := some 57, op := Op.move (Operand.tmp 11), type := 63, pos := "outright.go:50", after := #[], guard := none }
def do13_o8 : Oper := { dst := some 58, op := Op.call { callee := Callee.value (Operand.func 16), args := #[Operand.tmp 50, Operand.tmp 51, Operand.tmp 56, Operand.tmp 57], argTypes := #[25, 34, 2, 63] }, type := 27, pos := "outright.go:50", after := #[{ on := 0, ground := Ground.data }, { on := 1, ground := Ground.data }, { on := 6, ground := Ground.data }, { on := 7, ground := Ground.data }], guard := none }
def do13_o9 : Oper := { dst := some 8, op := Op.assign (Operand.tmp 58), type := 27, pos := "outright.go:50", after := #[{ on := 8, ground := Ground.data }, { on := 8, ground := Ground.chain }, { on := 0, ground := Ground.phase }, { on := 1, ground := Ground.phase }, { on := 2, ground := Ground.phase }, { on := 3, ground := Ground.phase }, { on := 4, ground := Ground.phase }, { on := 5, ground := Ground.phase }, { on := 6, ground := Ground.phase }, { on := 7, ground := Ground.phase }, { on := 8, ground := Ground.phase }], guard := none }
def do13_ops : Array Oper := #[do13_o0, do13_o1, do13_o2, do13_o3, do13_o4, do13_o5, do13_o6, do13_o7, do13_o8, do13_o9]
set_option maxRecDepth 100000 in
set_option maxHeartbeats 4000000 in
theorem do13 {rb pb g o n c i : Nat} {fv : Value} {p : PlK} {x : SyR} (S : World → Prop) (Fin : Nat → World → Prop) (a : Act) (w : World) (Q : Exit → Act → World → Prop) (zz : a.tmps.size = 70)
    (t0 : a.tmps.getD 0 undef = .pointer (some ⟨rb, 0, none⟩))
    (t2 : a.tmps.getD 2 undef = .slice (some ⟨g, o, none⟩) n c)
    (t3 : a.tmps.getD 3 undef = .int .i64 (i : Int))
    (t11 : a.tmps.getD 11 undef = fv)
    (t12 : a.tmps.getD 12 undef = .pointer (some ⟨pb, 0, none⟩))
    (hi : i < n) (hm : n ≤ 9223372036854775807) (h0 : S w.drew) (LP : ∀ W, S W → (Instr.loadAt 34 (.pointer (some ⟨pb, 0, none⟩))).run Tryd.prog W = .ok (p.v) W) (LN : ∀ W, S W → (Instr.loadAt 2 (.pointer (some ⟨g, o + 8 * i + 6, none⟩))).run Tryd.prog W = .ok (.int .i64 x.n) W) (CD : Calls Tryd.prog 16 #[.pointer (some ⟨rb, 0, none⟩), p.v, .int .i64 x.n, fv] w.drew fun e w' => ∃ bk, e = .returned (.pointer (some ⟨bk, 0, none⟩)) ∧ S w' ∧ Fin bk w')
    (h : ∀ (bk : Nat) (a' : Act) (w' : World), Fin bk w' → a' = ((((((((((a).put (some 50) (.pointer (some ⟨rb, 0, none⟩))).put (some 51) (p.v)).put (some 52) (.slice (some ⟨g, o, none⟩) n c)).put (some 53) (.int .i64 (i : Int))).put (some 54) (.pointer (some ⟨g, o + 8 * i, none⟩))).put (some 55) (.pointer (some ⟨g, o + 8 * i + 6, none⟩))).put (some 56) (.int .i64 x.n)).put (some 57) (fv)).put (some 58) (.pointer (some ⟨bk, 0, none⟩))).put (some 8) (.pointer (some ⟨bk, 0, none⟩)) → Q .normal a' w') :
    (Code.region 13 do13_ops true).wp Tryd.prog Q a w := by
  refine y0 (fun w' => S w') (h0) (fun hHeld => ?_)
  refine yv 0 rfl rfl (fun w1 hw => exec_move rfl (zi t0 rfl)) hHeld ?_
  refine yv 1 rfl rfl (fun w1 hw => exec_load rfl (zi t12 rfl) (LP _ hw)) hHeld ?_
  refine yv 2 rfl rfl (fun w1 hw => exec_move rfl (zi t2 rfl)) hHeld ?_
  refine yv 3 rfl rfl (fun w1 hw => exec_move rfl (zi t3 rfl)) hHeld ?_
  refine yv 4 rfl rfl (fun w1 hw => exec_indexAt rfl (zg zz rfl) (zg zz rfl) (ix_say hi hm _)) hHeld ?_
  refine yv 5 rfl rfl (fun w1 hw => exec_fieldAt rfl (zg zz rfl) (fg_42_3 _ _ _)) hHeld ?_
  refine yv 6 rfl rfl (fun w1 hw => exec_load rfl (zg zz rfl) (LN _ hw)) hHeld ?_
  refine yv 7 rfl rfl (fun w1 hw => exec_move rfl (zi t11 rfl)) hHeld ?_
  refine yc 8 rfl rfl (exec_c4 rfl (zg zz rfl) (zg zz rfl) (zg zz rfl) (zg zz rfl)) (CD) (fun e x8 hx => ?_)
  obtain ⟨bk, rfl, S1, HF⟩ := hx
  replace h := h bk
  refine ⟨_, rfl, S1, fun hHeld => ?_⟩
  refine yv 9 rfl rfl (fun w1 hw => exec_assign rfl (zg zz rfl)) hHeld ?_
  exact ye rfl (h _ _ (HF) rfl)
def do14_o0 : Oper := { dst := some 59, op := Op.move (Operand.tmp 0), type := 25, pos := "outright.go:52", after := #[], guard := none }
def do14_o1 : Oper := { dst := some 60, op := Op.load 34 (Operand.tmp 12), type := 34, pos := "outright.go:52", after := #[], guard := none }
def do14_o2 : Oper := { dst := some 61, op := Op.move (Operand.tmp 3), type := 3, pos := "outright.go:52", after := #[], guard := none }
def do14_o3 : Oper := { dst := some 62, op := Op.call { callee := Callee.value (Operand.func 19), args := #[Operand.tmp 61], argTypes := #[3] }, type := 32, pos := "outright.go:52", after := #[{ on := 2, ground := Ground.data }], guard := none }
def do14_o4 : Oper := { dst := some 63, op := Op.move (Operand.tmp 2), type := 23, pos := "outright.go:52", after := #[], guard := none }
def do14_o5 : Oper := { dst := some 64, op := Op.move (Operand.tmp 3), type := 3, pos := "outright.go:52", after := #[], guard := none }
def do14_o6 : Oper := { dst := some 65, op := Op.indexAddr 23 (Operand.tmp 63) (Operand.tmp 64), type := 0, pos := "outright.go:52", after := #[{ on := 4, ground := Ground.data }, { on := 5, ground := Ground.data }], guard := none }
def do14_o7 : Oper := { dst := some 66, op := Op.fieldAddr 42 (Operand.tmp 65) 2, type := 0, pos := "outright.go:52", after := #[{ on := 6, ground := Ground.data }], guard := none }
def do14_o8 : Oper := { dst := some 67, op := Op.load 39 (Operand.tmp 66), type := 39, pos := "outright.go:52", after := #[{ on := 7, ground := Ground.data }], guard := none }
def do14_o9 : Oper := { dst := some 68, op := Op.move (Operand.tmp 11), type := 63, pos := "outright.go:52", after := #[], guard := none }
def do14_o10 : Oper := { dst := some 69, op := Op.call { callee := Callee.value (Operand.func 15), args := #[Operand.tmp 59, Operand.tmp 60, Operand.tmp 62, Operand.tmp 67, Operand.tmp 68], argTypes := #[25, 34, 32, 39, 63] }, type := 27, pos := "outright.go:52", after := #[{ on := 0, ground := Ground.data }, { on := 1, ground := Ground.data }, { on := 3, ground := Ground.data }, { on := 8, ground := Ground.data }, { on := 9, ground := Ground.data }, { on := 3, ground := Ground.chain }], guard := none }
def do14_o11 : Oper := { dst := some 8, op := Op.assign (Operand.tmp 69), type := 27, pos := "outright.go:52", after := #[{ on := 10, ground := Ground.data }, { on := 10, ground := Ground.chain }, { on := 0, ground := Ground.phase }, { on := 1, ground := Ground.phase }, { on := 2, ground := Ground.phase }, { on := 3, ground := Ground.phase }, { on := 4, ground := Ground.phase }, { on := 5, ground := Ground.phase }, { on := 6, ground := Ground.phase }, { on := 7, ground := Ground.phase }, { on := 8, ground := Ground.phase }, { on := 9, ground := Ground.phase }, { on := 10, ground := Ground.phase }], guard := none }
def do14_ops : Array Oper := #[do14_o0, do14_o1, do14_o2, do14_o3, do14_o4, do14_o5, do14_o6, do14_o7, do14_o8, do14_o9, do14_o10, do14_o11]
set_option maxRecDepth 100000 in
set_option maxHeartbeats 4000000 in
theorem do14 {rb pb g o n c i : Nat} {fv : Value} {p : PlK} {x : SyR} {y : IdK} (S : World → Prop) (Fin : Nat → World → Prop) (a : Act) (w : World) (Q : Exit → Act → World → Prop) (zz : a.tmps.size = 70)
    (t0 : a.tmps.getD 0 undef = .pointer (some ⟨rb, 0, none⟩))
    (t2 : a.tmps.getD 2 undef = .slice (some ⟨g, o, none⟩) n c)
    (t3 : a.tmps.getD 3 undef = .int .i64 (i : Int))
    (t11 : a.tmps.getD 11 undef = fv)
    (t12 : a.tmps.getD 12 undef = .pointer (some ⟨pb, 0, none⟩))
    (hi : i < n) (hm : n ≤ 9223372036854775807) (h0 : S w.drew) (LP : ∀ W, S W → (Instr.loadAt 34 (.pointer (some ⟨pb, 0, none⟩))).run Tryd.prog W = .ok (p.v) W) (LV : ∀ W, S W → (Instr.loadAt 39 (.pointer (some ⟨g, o + 8 * i + 2, none⟩))).run Tryd.prog W = .ok (x.v.v) W) (CN : Calls Tryd.prog 19 #[.int .i64 (i : Int)] w.drew fun e w1 => e = .returned y.v ∧ S w1 ∧ Calls Tryd.prog 15 #[.pointer (some ⟨rb, 0, none⟩), p.v, y.v, x.v.v, fv] w1 fun e w' => ∃ bk, e = .returned (.pointer (some ⟨bk, 0, none⟩)) ∧ S w' ∧ Fin bk w')
    (h : ∀ (bk : Nat) (a' : Act) (w' : World), Fin bk w' → a' = ((((((((((((a).put (some 59) (.pointer (some ⟨rb, 0, none⟩))).put (some 60) (p.v)).put (some 61) (.int .i64 (i : Int))).put (some 63) (.slice (some ⟨g, o, none⟩) n c)).put (some 64) (.int .i64 (i : Int))).put (some 65) (.pointer (some ⟨g, o + 8 * i, none⟩))).put (some 66) (.pointer (some ⟨g, o + 8 * i + 2, none⟩))).put (some 67) (x.v.v)).put (some 68) (fv)).put (some 62) (y.v)).put (some 69) (.pointer (some ⟨bk, 0, none⟩))).put (some 8) (.pointer (some ⟨bk, 0, none⟩)) → Q .normal a' w') :
    (Code.region 14 do14_ops true).wp Tryd.prog Q a w := by
  refine y0 (fun w' => S w') (h0) (fun hHeld => ?_)
  refine yv 0 rfl rfl (fun w1 hw => exec_move rfl (zi t0 rfl)) hHeld ?_
  refine yv 1 rfl rfl (fun w1 hw => exec_load rfl (zi t12 rfl) (LP _ hw)) hHeld ?_
  refine yv 2 rfl rfl (fun w1 hw => exec_move rfl (zi t3 rfl)) hHeld ?_
  refine yv 4 rfl rfl (fun w1 hw => exec_move rfl (zi t2 rfl)) hHeld ?_
  refine yv 5 rfl rfl (fun w1 hw => exec_move rfl (zi t3 rfl)) hHeld ?_
  refine yv 6 rfl rfl (fun w1 hw => exec_indexAt rfl (zg zz rfl) (zg zz rfl) (ix_say hi hm _)) hHeld ?_
  refine yv 7 rfl rfl (fun w1 hw => exec_fieldAt rfl (zg zz rfl) (fg_42_2 _ _ _)) hHeld ?_
  refine yv 8 rfl rfl (fun w1 hw => exec_load rfl (zg zz rfl) (LV _ hw)) hHeld ?_
  refine yv 9 rfl rfl (fun w1 hw => exec_move rfl (zi t11 rfl)) hHeld ?_
  refine yc 3 rfl rfl (exec_c1 rfl (zg zz rfl)) (CN) (fun e x3 hx => ?_)
  obtain ⟨rfl, S1, CP⟩ := hx
  refine ⟨_, rfl, S1, fun hHeld => ?_⟩
  refine yc 10 rfl rfl (exec_c5 rfl (zg zz rfl) (zg zz rfl) (zg zz rfl) (zg zz rfl) (zg zz rfl)) (CP) (fun e x10 hx => ?_)
  obtain ⟨bk, rfl, S2, HF⟩ := hx
  replace h := h bk
  refine ⟨_, rfl, S2, fun hHeld => ?_⟩
  refine yv 11 rfl rfl (fun w1 hw => exec_assign rfl (zg zz rfl)) hHeld ?_
  exact ye rfl (h _ _ (HF) rfl)
end Go.Proofs.YtldlljobofnmmabDoor

namespace Go.Proofs.YtldlljobofnmmabDoor
open Go.RowKit
set_option linter.unusedVariables false
set_option linter.unusedSimpArgs false

def pA : PlK := ⟨zId, ⟨#[97]⟩, zId⟩
theorem pA_ok : pA.ok := ⟨zId_ok, by decide, zId_ok⟩
def idN (n : Int) : IdK := { zId with n := n }
theorem idN_ok {n : Int} (h : -9223372036854775808 ≤ n ∧ n ≤ 9223372036854775807) : (idN n).ok := ⟨zId_ok.l, h.1, h.2⟩
set_option maxRecDepth 100000 in
theorem build_pA (w : World) : (Instr.build 34 #[(1, .string ⟨#[97]⟩)]).run Tryd.prog w = .ok pA.v w := by kernel_rfl
set_option maxRecDepth 100000 in
theorem build_i1 (w : World) : (Instr.build 32 #[(1, .int .i64 1)]).run Tryd.prog w = .ok (idN 1).v w := by kernel_rfl
set_option maxRecDepth 100000 in
theorem build_i2 (w : World) : (Instr.build 32 #[(1, .int .i64 2)]).run Tryd.prog w = .ok (idN 2).v w := by kernel_rfl
def vC (n : Int) : VaV := ⟨7, n, 0, ⟨#[]⟩⟩
theorem vC_ok {n : Int} (h : -9223372036854775808 ≤ n ∧ n ≤ 9223372036854775807) : (vC n).ok := ⟨by show (0 : Int) ≤ 7; decide, by show (7 : Int) ≤ 255; decide, h.1, h.2, by show (0 : Nat) < _; decide, by show (0 : Nat) ≤ _; decide⟩
theorem build_vC (w : World) : (Instr.build 39 #[(0, .int .u8 7), (1, .int .i64 5)]).run Tryd.prog w = .ok (vC 5).v w := by kernel_rfl
theorem build_v0 (w : World) : (Instr.build 39 #[]).run Tryd.prog w = .ok zVa.v w := by kernel_rfl
theorem sum_live : sumV 3 (vC 5) = vC 8 := by decide +kernel
/-- How many places there are, where only one has something. -/
theorem one_place {w : World} {base : Nat} {s : Rs} (m : RgM w base s) {p : PlK} (h : ∀ q, liOf s.P q ≠ [] ↔ q = p) : s.P.length = 1 := by
  have hk := m.places
  have hin : ∀ q ∈ s.P, q.1 = p := fun q hq => (h q.1).1 (by
    unfold liOf
    rw [M.look_of_mem hk (show (q.1, q.2) ∈ s.P from hq)]
    exact (m.en q hq).2.1)
  have hne : s.P ≠ [] := fun e => by
    have := (h p).2 rfl
    rw [e] at this
    exact this rfl
  match hP : s.P with
  | [] => exact absurd hP hne
  | [q] => rfl
  | q :: r :: l =>
    rw [hP] at hk hin
    have h1 := hin q (by simp)
    have h2 := hin r (by simp)
    simp [h1, h2] at hk
theorem RgM.geAll {w : World} {base : Nat} {s : Rs} (h : RgM w base s) {j : Nat} (hj : s.all j) : base ≤ j := by
  rcases hj with hj | ⟨q, hq, e⟩
  · exact h.lo j hj
  · exact ((h.en q hq).1.cells e).1
/-- live's state. -/
structure LSt (w : World) (r0 pb xb yb : Nat) (p : PlK) (x y : IdK) (s : Rs) (H : List Rec) (L : List EnV) (W : World) : Prop where
  ra : RgAt W w.heap.size s H
  bel : Below w.heap.size w W
  np : W.heap[pb]? = some (.cells p.c.toArray 34 (0, 0))
  nx : W.heap[xb]? = some (.cells x.c.toArray 32 (0, 0))
  ny : W.heap[yb]? = some (.cells y.c.toArray 32 (0, 0))
  li : ∀ q, liOf s.P q = if q = p then L else []
  r : s.r = r0
section
variable {w W W' : World} {r0 pb xb yb : Nat} {p : PlK} {x y : IdK} {s : Rs} {H : List Rec} {L : List EnV}
theorem LSt.below (h : LSt w r0 pb xb yb p x y s H L W) (b : Below W.heap.size W W') : LSt w r0 pb xb yb p x y s H L W' :=
  ⟨h.ra.below b, h.bel.trans (b.mono h.bel.size), (b.block _ (Array.getElem?_eq_some_iff.1 h.np).1).trans h.np, (b.block _ (Array.getElem?_eq_some_iff.1 h.nx).1).trans h.nx, (b.block _ (Array.getElem?_eq_some_iff.1 h.ny).1).trans h.ny, h.li, h.r⟩
theorem LSt.tch (h : LSt w r0 pb xb yb p x y s H L W) (t : Tch s.all W W') : Below w.heap.size w W' ∧ W'.heap[pb]? = some (.cells p.c.toArray 34 (0, 0)) ∧ W'.heap[xb]? = some (.cells x.c.toArray 32 (0, 0)) ∧ W'.heap[yb]? = some (.cells y.c.toArray 32 (0, 0)) := by
  have go : ∀ {j : Nat} {c : Array Value} {ty : TypeId}, W.heap[j]? = some (.cells c ty (0, 0)) → ty ≠ 69 → ty ≠ 65 → W'.heap[j]? = some (.cells c ty (0, 0)) := fun h1 h2 h3 => (t.block _ (Array.getElem?_eq_some_iff.1 h1).1 (h.ra.mem.other h1 h2 h3)).trans h1
  exact ⟨h.bel.trans (t.below h.bel.size (fun j hj => h.ra.mem.geAll hj)), go h.np (by decide) (by decide), go h.nx (by decide) (by decide), go h.ny (by decide) (by decide)⟩
theorem LSt.op (h : LSt w r0 pb xb yb p x y s H L W) {L' : List EnV} {rc : Rec} {s' : Rs} (o : OpN W w.heap.size s H p L' rc s' W') : LSt w r0 pb xb yb p x y s' (rc :: H) L' W' := by
  obtain ⟨h1, h2, h3, h4⟩ := h.tch o.tch
  refine ⟨o.at', h1, h2, h3, h4, fun q => ?_, o.r.trans h.r⟩
  rw [o.li]
  by_cases e : q = p
  · rw [if_pos e, if_pos e]
  · rw [if_neg e, if_neg e, h.li, if_neg e]
theorem LSt.here (h : LSt w r0 pb xb yb p x y s H L W) : liOf s.P p = L := by rw [h.li, if_pos rfl]
end
end Go.Proofs.YtldlljobofnmmabDoor

namespace Go.Proofs.YtldlljobofnmmabDoor
open Go.RowKit
set_option linter.unusedVariables false
set_option linter.unusedSimpArgs false

/-- live's state behind a step. -/
def LFin (w : World) (r0 pb xb yb : Nat) (p : PlK) (x y : IdK) (n0 : Nat) (L0 : List EnV) (H : List Rec) (L : List EnV) (bk : Nat) (W : World) : Prop := ∃ rc s', rc.bk = bk ∧ LSt w r0 pb xb yb p x y s' (rc :: H) L W ∧ n0 ≤ rc.bk ∧ rc.p = p ∧ rc.bef = L0
section
variable {w W : World} {r0 pb xb yb : Nat} {p : PlK} {x y : IdK} {s : Rs} {H : List Rec} {L L' : List EnV} {F : Nat} {vs : Array Value}
theorem LSt.fin (h : LSt w r0 pb xb yb p x y s H L W) (c : Calls Tryd.prog F vs W (OpE W w.heap.size s H p L')) : Calls Tryd.prog F vs W fun e w' => ∃ bk, e = .returned (.pointer (some ⟨bk, 0, none⟩)) ∧ LFin w r0 pb xb yb p x y W.heap.size L H L' bk w' := by
  refine c.mono ?_
  rintro e w' ⟨rc, s', rfl, o⟩
  exact ⟨_, rfl, rc, s', rfl, h.op o, o.new, o.rp, o.rb.trans h.here⟩
theorem LSt.put (h : LSt w r0 pb xb yb p x y s H L W) (hp : p.ok) {i : IdK} (hi : i.ok) {v : VaV} (hv : v.ok) (hn : L.length ≤ 1000) : Calls Tryd.prog 15 #[.pointer (some ⟨r0, 0, none⟩), p.v, i.v, v.v, .nilFunc] W fun e w' => ∃ bk, e = .returned (.pointer (some ⟨bk, 0, none⟩)) ∧ LFin w r0 pb xb yb p x y W.heap.size L H (L ++ [⟨i, v⟩]) bk w' := by
  have c := put_any h.ra h.bel.size hp hi hv (fv := .nilFunc) (sn := fun _ => false) (.inl ⟨rfl, fun _ => rfl⟩) (by rw [h.here]; omega)
  rw [h.here, h.r] at c
  have e : Rg.res (fun y : EnV => (fun _ : IdK => false) y.id) L = L := List.filter_eq_self.2 fun _ _ => rfl
  rw [e] at c
  exact h.fin c
theorem LSt.ld (h : LSt w r0 pb xb yb p x y s H L W) (hp : p.ok) : ∀ V, V = W → (Instr.loadAt 34 (.pointer (some ⟨pb, 0, none⟩))).run Tryd.prog V = .ok p.v V := fun V e => by rw [e]; exact ld_pl hp (rng_cells h.np)
theorem LSt.ldx (h : LSt w r0 pb xb yb p x y s H L W) (hx : x.ok) : ∀ V, V = W → (Instr.loadAt 32 (.pointer (some ⟨xb, 0, none⟩))).run Tryd.prog V = .ok x.v V := fun V e => by rw [e]; exact load_id hx h.nx
theorem LSt.ldy (h : LSt w r0 pb xb yb p x y s H L W) (hy : y.ok) : ∀ V, V = W → (Instr.loadAt 32 (.pointer (some ⟨yb, 0, none⟩))).run Tryd.prog V = .ok y.v V := fun V e => by rw [e]; exact load_id hy h.ny
theorem LSt.ent (h : LSt w r0 pb xb yb p x y s H L W) (hp : p.ok) (hn : L.length ≤ 1000) : Calls Tryd.prog 10 #[.pointer (some ⟨r0, 0, none⟩), p.v] W fun e w' => ∃ u, e = .returned u ∧ (RN.Own w' W.heap.size u L ∧ LSt w r0 pb xb yb p x y s H L w') := by
  have c := entries_any h.ra.mem hp (by rw [h.here]; omega)
  rw [h.here, h.r] at c
  refine c.mono ?_
  rintro e w' ⟨v, rfl, o, b⟩
  exact ⟨v, rfl, o, h.below b⟩
end
set_option maxRecDepth 100000 in
set_option maxHeartbeats 8000000 in
theorem live_gen (w : World) (p : PlK) (hp : p.ok) (x y : IdK) (hx : x.ok) (hy : y.ok) (v5 v8 v0 : VaV) (h5 : v5.ok) (h0 : v0.ok) (h8 : v8.n = 8) (hs : sumV 3 v5 = v8) (h8k : v8.ok)
    (BP : Hid (∀ w, (Instr.build 34 #[(1, .string ⟨#[97]⟩)]).run Tryd.prog w = .ok p.v w)) (BX : Hid (∀ w, (Instr.build 32 #[(1, .int .i64 1)]).run Tryd.prog w = .ok x.v w)) (BY : Hid (∀ w, (Instr.build 32 #[(1, .int .i64 2)]).run Tryd.prog w = .ok y.v w))
    (BV : Hid (∀ w, (Instr.build 39 #[(0, .int .u8 7), (1, .int .i64 5)]).run Tryd.prog w = .ok v5.v w)) (B0 : Hid (∀ w, (Instr.build 39 #[]).run Tryd.prog w = .ok v0.v w)) :
    Calls Tryd.prog 5 #[] w fun e w' => e = .returned (.bool true) ∧ Below w.heap.size w w' := by
  have HN := hidMk (newR_any w)
  have HV := hidMk (And.intro h5 (And.intro h0 (And.intro h8 (And.intro hs h8k))))
  clear h5 h0 h8 hs h8k
  go_enter Tryd.func5, Tryd.ntmps5
  go_upto_region 2 with (first
    | (go_at_call 6; refine HN.out.mono ?_; rintro e w1 ⟨s, rfl, ra, rl, rp, b1⟩; clear HN)
    | fail)
  obtain ⟨w2, w3, e2, e3, n3, b3⟩ := pl_new w1 hp
  obtain ⟨w4, w5, e4, e5, n5, b5⟩ := id_newR w3 hx
  obtain ⟨w6, w7, e6, e7, n7, b7⟩ := id_newR w5 hy
  have b37 := b5.trans (b7.mono b5.size)
  have b17 := b3.trans (b37.mono b3.size)
  have st7 : Hid (LSt w s.r w1.heap.size w3.heap.size w5.heap.size p x y s [] [] w7) := ⟨ra.below b17, b1.trans (b17.mono b1.size), (b37.block _ (Array.getElem?_eq_some_iff.1 n3).1).trans n3, (b7.block _ (Array.getElem?_eq_some_iff.1 n5).1).trans n5, n7, fun q => by rw [rl]; split <;> rfl, rfl⟩
  generalize w1.heap.size = pb at *
  generalize w3.heap.size = xb at *
  generalize w5.heap.size = yb at *
  generalize s.r = r0 at *
  have HE := hidMk (And.intro e2 (And.intro e3 (And.intro e4 (And.intro e5 (And.intro e6 e7)))))
  clear e2 e3 e4 e5 e6 e7 n3 b3 n5 b5 n7 b7 b37 b17 ra rl rp b1
  refine live2 (b := pb) (u := p.v) (w1 := w2) (w2 := w3) _ w1 _ rfl (BP.out _) HE.out.1 HE.out.2.1 ?_
  intro a' w' hw' ha
  subst ha
  subst hw'
  simp only [Act.put, List.setIfInBounds_toArray, List.set_cons_zero, List.set_cons_succ]
  go_upto_region 3 with fail
  refine live3 (b := xb) (u := x.v) (w1 := w4) (w2 := w5) _ _ _ rfl (BX.out _) HE.out.2.2.1 HE.out.2.2.2.1 ?_
  intro a' w' hw' ha
  subst ha
  subst hw'
  simp only [Act.put, List.setIfInBounds_toArray, List.set_cons_zero, List.set_cons_succ]
  go_upto_region 4 with fail
  refine live4 (b := yb) (u := y.v) (w1 := w6) (w2 := w7) _ _ _ rfl (BY.out _) HE.out.2.2.2.2.1 HE.out.2.2.2.2.2 ?_
  intro a' w' hw' ha
  subst ha
  subst hw'
  simp only [Act.put, List.setIfInBounds_toArray, List.set_cons_zero, List.set_cons_succ]
  clear HE BP BX BY
  go_upto_region 5 with fail
  refine live5 (rb := r0) (pb := pb) (xb := xb) (p := p) (x := x) (v := v5) (LFin w r0 pb xb yb p x y _ [] [] [⟨x, v5⟩]) _ _ _ rfl rfl rfl rfl (BV.out _) (st7.out.ld hp) (st7.out.ldx hx) (st7.out.put hp hx HV.out.1 (by simp)) ?_
  intro bk1 a' w8 hf ha
  subst ha
  simp only [Act.put, List.setIfInBounds_toArray, List.set_cons_zero, List.set_cons_succ]
  obtain ⟨r1, s1, rfl, st8', -⟩ := hf
  have st8 := hidMk st8'
  clear st8' st7
  have CA : Hid (Calls Tryd.prog 16 #[.pointer (some ⟨r0, 0, none⟩), p.v, .int .i64 3, .func (.func 17) #[] #[.pointer (some ⟨xb, 0, none⟩)]] w8 fun e w' => ∃ bk, e = .returned (.pointer (some ⟨bk, 0, none⟩)) ∧ LFin w r0 pb xb yb p x y w8.heap.size [⟨x, v5⟩] [r1] [⟨x, v8⟩] bk w') := by
    have h := st8.out
    have c := add_any h.ra h.bel.size hp (n := 3) (by decide) (.inr ⟨_, _, rfl, tells_live hx h.nx⟩) (by rw [h.here]; simp)
    rw [h.here, h.r] at c
    have e : chs (fun y : EnV => decide (y.id = x)) (sumV 3) [⟨x, v5⟩] = [⟨x, v8⟩] := by
      simp [chs, chg, HV.out.2.2.2.1]
    rw [e] at c
    exact h.fin c
  go_upto_region 6 with fail
  refine live6 (rb := r0) (pb := pb) (xb := xb) (p := p) (LFin w r0 pb xb yb p x y w8.heap.size [⟨x, v5⟩] [r1] [⟨x, v8⟩]) _ _ _ rfl rfl rfl rfl (st8.out.ld hp) CA.out ?_
  intro bk2 a' w9 hf ha
  subst ha
  simp only [Act.put, List.setIfInBounds_toArray, List.set_cons_zero, List.set_cons_succ]
  obtain ⟨r2, s2, rfl, st9', -⟩ := hf
  have st9 := hidMk st9'
  clear st9' CA st8 BV
  go_upto_region 7 with fail
  refine live7 (rb := r0) (pb := pb) (xb := yb) (p := p) (x := y) (v := v0) (LFin w r0 pb xb yb p x y w9.heap.size [⟨x, v8⟩] [r2, r1] [⟨x, v8⟩, ⟨y, v0⟩]) _ _ _ rfl rfl rfl rfl (B0.out _) (st9.out.ld hp) (st9.out.ldy hy) (st9.out.put hp hy HV.out.2.1 (by simp)) ?_
  intro bk3 a' w10 hf ha
  subst ha
  simp only [Act.put, List.setIfInBounds_toArray, List.set_cons_zero, List.set_cons_succ]
  obtain ⟨r3, s3, rfl, st10', hnew, hr3p, hr3b⟩ := hf
  have st10 := hidMk st10'
  have H13 : Hid (r1.bk ≠ r3.bk ∧ r3.p = p ∧ r3.bef = [⟨x, v8⟩]) := by
    have l1 := (Array.getElem?_eq_some_iff.1 st9.out.ra.hist.2.1.b).1
    exact ⟨by omega, hr3p, hr3b⟩
  clear st10' st9 B0 hnew hr3p hr3b
  go_upto_region 8 with fail
  refine live8 (rb := r0) (pb := pb) (p := p) (fun u w' => RN.Own w' w10.heap.size u [⟨x, v8⟩, ⟨y, v0⟩] ∧ LSt w r0 pb xb yb p x y s3 [r3, r2, r1] [⟨x, v8⟩, ⟨y, v0⟩] w') _ _ _ rfl rfl rfl (st10.out.ld hp) (st10.out.ent hp (by simp)) ?_
  intro u a' w11 hf ha
  subst ha
  simp only [Act.put, List.setIfInBounds_toArray, List.set_cons_zero, List.set_cons_succ]
  obtain ⟨ou, st11'⟩ := hf
  have ok2 : ∀ z ∈ ([⟨x, v8⟩, ⟨y, v0⟩] : List EnV), z.ok := fun z hz => by
    simp at hz
    rcases hz with rfl | rfl
    · exact ⟨hx, HV.out.2.2.2.2⟩
    · exact ⟨hy, HV.out.2.1⟩
  obtain ⟨ua, uc, rfl, hat, -⟩ := ou.lo.open RN_is ok2
  obtain ⟨g, o, rfl, hg1, hg2⟩ : ∃ g o, ua = some ⟨g, o, none⟩ ∧ w11.rangeAt g (o + 37 * 0) (EnV.c ⟨x, v8⟩) ∧ w11.rangeAt g (o + 37 * 1) (EnV.c ⟨y, v0⟩) := by
    rcases hat with h | ⟨g, o, e, h1, h2⟩
    · cases h
    · exact ⟨g, o, e, h2 0 _ rfl, h2 1 _ rfl⟩
  have st11 := hidMk (st11'.below (Below.refl w11.heap.size w11).drew)
  have LL : Hid ((∀ W, W = w11.drew → (Instr.loadAt 32 (.pointer (some ⟨g, o + 37 * 0 + 0, none⟩))).run Tryd.prog W = .ok x.v W) ∧ (∀ W, W = w11.drew → (Instr.loadAt 2 (.pointer (some ⟨g, o + 37 * 0 + 33 + 1, none⟩))).run Tryd.prog W = .ok (.int .i64 8) W) ∧ (∀ W, W = w11.drew → (Instr.loadAt 32 (.pointer (some ⟨g, o + 37 * 1 + 0, none⟩))).run Tryd.prog W = .ok y.v W)) := by
    refine ⟨fun W e => ?_, fun W e => ?_, fun W e => ?_⟩
    · rw [e]; exact en_id (x := ⟨x, v8⟩) (w := w11.drew) (ok2 _ (by simp)) hg1
    · rw [e]
      have hc : w11.drew.cell? ⟨g, o + 37 * 0 + 33 + 1, none⟩ = some (.int .i64 v8.n) := rng_va (x := ⟨x, v8⟩) (w := w11.drew) (ok2 _ (by simp)) hg1 1 _ rfl
      rw [HV.out.2.2.1] at hc
      go_simp
    · rw [e]; exact en_id (x := ⟨y, v0⟩) (w := w11.drew) (ok2 _ (by simp)) hg2
  have CL : Hid (Calls Tryd.prog 11 #[.pointer (some ⟨r0, 0, none⟩)] w11.drew fun e w' => e = .returned (.int .i64 1) ∧ w' = w11.drew) := by
    have c := len_any st11.out.ra.mem
    rw [one_place st11.out.ra.mem (p := p) (fun q => by
      rw [st11.out.li]
      by_cases e : q = p
      · simp [e]
      · simp [e]), st11.out.r] at c
    exact c
  have U1 : Hid (Calls Tryd.prog 13 #[.pointer (some ⟨r0, 0, none⟩), .pointer (some ⟨r1.bk, 0, none⟩)] w11.drew fun e w' => e = .returned (.int .i64 2) ∧ w' = w11.drew) := by
    have h := st11.out.ra
    have c := undo_not h (bk := r1.bk) ⟨_, h.hist.2.2.1.b⟩ (by
      show some (⟨r3.bk, 0, none⟩ : Addr) ≠ _
      intro e
      injection e with e
      injection e with e
      exact H13.out.1 e.symm)
    rw [st11.out.r] at c
    exact c
  have U2 : Hid (Calls Tryd.prog 13 #[.pointer (some ⟨r0, 0, none⟩), .pointer (some ⟨r3.bk, 0, none⟩)] w11.drew fun e w' => e = .returned (.int .i64 0) ∧ ∃ s4, LSt w r0 pb xb yb p x y s4 [r2, r1] [⟨x, v8⟩] w') := by
    have h := st11.out
    have c := undo_any h.ra h.bel.size
    rw [h.r] at c
    refine c.mono ?_
    rintro e w' ⟨rfl, s4, h4, r4, l4, a4, t4⟩
    obtain ⟨q1, q2, q3, q4⟩ := h.tch t4
    refine ⟨rfl, s4, h4, q1, q2, q3, q4, fun q => ?_, r4.trans h.r⟩
    rw [l4, H13.out.2.1, H13.out.2.2]
    by_cases e : q = p
    · rw [if_pos e, if_pos e]
    · rw [if_neg e, if_neg e, h.li, if_neg e]
  clear hg1 hg2 hat ou st11' ok2
  go_upto_region 9 with fail
  refine live9 (rb := r0) (xb := xb) (yb := yb) (g := g) (o := o) (lc := uc) (x := x) (y := y) _ w11 _ rfl rfl rfl rfl rfl hx hy LL.out.1 (st11.out.ldx hx) LL.out.2.1 LL.out.2.2 (st11.out.ldy hy) CL.out ?_
  intro a' w' hw' ha
  subst ha
  subst hw'
  simp only [Act.put, List.setIfInBounds_toArray, List.set_cons_zero, List.set_cons_succ]
  clear LL CL HV H13 st10 st11
  go_wp2_with (first
    | (go_at_call 13; refine U1.out.mono ?_; rintro e w12 ⟨rfl, rfl⟩; clear U1)
    | (go_at_call 13; refine U2.out.mono ?_; rintro e w13 ⟨rfl, s4, st'⟩; have LP := hidMk (st'.ld hp w13 rfl); have CE := hidMk (st'.ent hp (by simp)); clear U2 st')
    | (refine wpList_val rfl (exec_load (t := 34) (v := p.v) rfl rfl LP.out) ?_)
    | (go_at_call 10; refine CE.out.mono ?_; rintro e w14 ⟨u, rfl, ou, st14⟩; obtain ⟨ua, uc2, rfl⟩ := ou.form; have B := hidMk st14.bel; clear ou st14 CE)
    | fail)
  go_ret
  exact ⟨rfl, B.out⟩
theorem live_any (w : World) : Calls Tryd.prog 5 #[] w fun e w' => e = .returned (.bool true) ∧ Below w.heap.size w w' :=
  live_gen w pA pA_ok (idN 1) (idN 2) (idN_ok (by decide)) (idN_ok (by decide)) (vC 5) (vC 8) zVa (vC_ok (by decide)) zVa_ok rfl sum_live (vC_ok (by decide)) (hidMk build_pA) (hidMk build_i1) (hidMk build_i2) (hidMk build_vC) (hidMk build_v0)
end Go.Proofs.YtldlljobofnmmabDoor

namespace Go.Proofs.YtldlljobofnmmabDoor
open Go.RowKit
set_option linter.unusedVariables false
set_option linter.unusedSimpArgs false

theorem belN2 (w : World) (a b : Obj) : Below w.heap.size w ((w.alloc a).alloc b) := ((Below.refl _ _).alloc (Nat.le_refl _) _).alloc (by simp) _
set_option maxRecDepth 100000 in
set_option maxHeartbeats 1000000 in
theorem same_zero (w : World) : Calls Tryd.prog 23 #[zVa.v, zVa.v] w fun e w' => e = .returned (.bool true) ∧ Below w.heap.size w w' := by
  have z1 : (FloatKind.f64.format.order 0 0 == some .eq) = true := by decide +kernel
  have z2 : (FloatKind.f64.format.order 0 0 != some .eq) = false := by decide +kernel
  have z3 : (FloatKind.f64.format.order 9218868437227405312 9218868437227405312 == some .eq) = true := by decide +kernel
  have hq : ∀ W, (binOp .quo 37 (.float .f64 4607182418800017408) (.float .f64 0)).run Tryd.prog W = .ok (.float .f64 9218868437227405312) W := fun W => run_float_arith W .quo 37 .f64 _ _ _ (by decide +kernel)
  show Calls Tryd.prog 23 #[.agg #[.int .u8 0, .int .i64 0, .float .f64 0, .string ⟨#[]⟩], .agg #[.int .u8 0, .int .i64 0, .float .f64 0, .string ⟨#[]⟩]] w _
  go_enter Tryd.func23, Tryd.ntmps23
  go_wp2
  go_ret
  exact ⟨rfl, belN2 _ _ _⟩
/-- What stays while RegsNone runs: the other Regs, of lists at most so long. -/
structure NJ (w : World) (B ro : Nat) (s : Rs) (H : List Rec) (i : Nat) (W : World) : Prop where
  ra : RgAt W B s H
  r : s.r = ro
  bel : Below w.heap.size w W
  le : ∀ q, (liOf s.P q).length ≤ i
  lo : w.heap.size ≤ B
  hi : B ≤ W.heap.size
def Np (pb : Nat) (p : PlK) (W : World) : Prop := W.heap[pb]? = some (.cells p.c.toArray 34 (0, 0))
theorem Np.below {pb : Nat} {p : PlK} {W W' : World} (h : Np pb p W) (b : Below W.heap.size W W') : Np pb p W' := (b.block _ (Array.getElem?_eq_some_iff.1 h).1).trans h
section
variable {w W W' : World} {B ro i pb : Nat} {s : Rs} {H : List Rec} {p : PlK}
theorem NJ.below (h : NJ w B ro s H i W) (b : Below W.heap.size W W') : NJ w B ro s H i W' := ⟨h.ra.below b, h.r, h.bel.trans (b.mono h.bel.size), h.le, h.lo, Nat.le_trans h.hi b.size⟩
theorem put_nil (ra : RgAt W B s H) (hb : B ≤ W.heap.size) (hp : p.ok) {x : IdK} (hx : x.ok) {v : VaV} (hv : v.ok) (hn : (liOf s.P p).length + 1 ≤ 2500000000000) : Calls Tryd.prog 15 #[.pointer (some ⟨s.r, 0, none⟩), p.v, x.v, v.v, .nilFunc] W (OpE W B s H p (liOf s.P p ++ [⟨x, v⟩])) := by
  have c := put_any ra hb hp hx hv (fv := .nilFunc) (sn := fun _ => false) (.inl ⟨rfl, fun _ => rfl⟩) hn
  have e : Rg.res (fun y : EnV => (fun _ : IdK => false) y.id) (liOf s.P p) = liOf s.P p := List.filter_eq_self.2 fun _ _ => rfl
  rw [e] at c
  exact c
/-- Behind a Put of the other. -/
def NF (w : World) (B ro : Nat) (H : List Rec) (i pb : Nat) (p : PlK) (bk : Nat) (W : World) : Prop := ∃ rc s', rc.bk = bk ∧ NJ w B ro s' (rc :: H) i W ∧ Np pb p W
theorem NJ.put (h : NJ w B ro s H i W) (np : Np pb p W) (hp : p.ok) {x : IdK} (hx : x.ok) {v : VaV} (hv : v.ok) (hn : i + 1 ≤ 2500000000000) : Calls Tryd.prog 15 #[.pointer (some ⟨ro, 0, none⟩), p.v, x.v, v.v, .nilFunc] W fun e w' => ∃ bk, e = .returned (.pointer (some ⟨bk, 0, none⟩)) ∧ (Below w.heap.size w w' ∧ Np pb p w') ∧ NF w B ro H (i + 1) pb p bk w' := by
  have c := put_nil h.ra h.hi hp hx hv (by have := h.le p; omega)
  rw [h.r] at c
  refine c.mono ?_
  rintro e w' ⟨rc, s', rfl, o⟩
  have bw : Below w.heap.size w w' := h.bel.trans (o.tch.below h.bel.size (fun j hj => Nat.le_trans h.lo (h.ra.mem.geAll hj)))
  have np' : Np pb p w' := (o.tch.block _ (Array.getElem?_eq_some_iff.1 np).1 (h.ra.mem.other np (by decide) (by decide))).trans np
  refine ⟨_, rfl, ⟨bw, np'⟩, rc, s', rfl, ⟨o.at', o.r.trans h.r, bw, fun q => ?_, h.lo, Nat.le_trans h.hi o.tch.size⟩, np'⟩
  rw [o.li]
  by_cases e : q = p
  · rw [if_pos e, List.length_append]
    have := h.le p
    simp
    omega
  · rw [if_neg e]
    have := h.le q
    omega
/-- The fresh one, behind its Put. -/
structure NR (rf B2 : Nat) (s2 : Rs) (rc2 : Rec) (p : PlK) (W : World) : Prop where
  ra : RgAt W B2 s2 [rc2]
  r : s2.r = rf
  li : (liOf s2.P p).length = 1
theorem fresh_put {W1 : World} {s2 : Rs} (ra : RgAt W1 W.heap.size s2 []) (b1 : Below W.heap.size W W1) (rl : ∀ q, liOf s2.P q = []) (hp : p.ok) {x : IdK} (hx : x.ok) {v : VaV} (hv : v.ok) : Calls Tryd.prog 15 #[.pointer (some ⟨s2.r, 0, none⟩), p.v, x.v, v.v, .nilFunc] W1 fun e w' => ∃ bk, e = .returned (.pointer (some ⟨bk, 0, none⟩)) ∧ Below W.heap.size W w' ∧ (Below W.heap.size W w' ∧ ∃ rc s3, NR s2.r W.heap.size s3 rc p w' ∧ W.heap.size ≤ rc.bk) := by
  refine (put_nil ra b1.size hp hx hv (by rw [rl]; simp)).mono ?_
  rintro e w' ⟨rc, s', rfl, o⟩
  have bw : Below W.heap.size W w' := b1.trans (o.tch.below b1.size (fun j hj => ra.mem.geAll hj))
  refine ⟨_, rfl, bw, bw, rc, s', ⟨o.at', o.r, ?_⟩, Nat.le_trans b1.size o.new⟩
  rw [o.li, if_pos rfl, rl]
  rfl
theorem pl_obj (h : Np pb p W) (hp : p.ok) : (Instr.loadAt 32 (.pointer (some ⟨pb, 0 + 0, none⟩))).run Tryd.prog W = .ok p.o.v W :=
  run_loadAt_mid (P := Tryd.prog) W pb 0 32 p.o.c _ (fun j v hv => rng_cells h j v (by rw [PlK.c, List.getElem?_append_left (List.getElem?_eq_some_iff.1 hv).1]; exact hv)) Tryd.underlying32 rfl (by rw [IdK.len hp.o]; exact szId)
theorem op_plc {b o : Nat} {x : OpR} (h : W.rangeAt b o x.c) : (Instr.loadAt 3 (.pointer (some ⟨b, o + 1, none⟩))).run Tryd.prog W = .ok (.int .i64 x.pl) W := by
  have hc : W.cell? ⟨b, o + 1, none⟩ = some (.int .i64 x.pl) := h 1 _ rfl
  go_simp
theorem op_idc {b o : Nat} {x : OpR} (hx : x.id.ok) (h : W.rangeAt b o x.c) : (Instr.loadAt 32 (.pointer (some ⟨b, o + 2, none⟩))).run Tryd.prog W = .ok x.id.v W :=
  run_loadAt_mid (P := Tryd.prog) W b (o + 2) 32 x.id.c _ (fun j v hv => by
    rw [Nat.add_assoc]
    exact h (2 + j) v (by
      rw [OpR.c, Nat.add_comm 2 j, List.getElem?_cons_succ, List.getElem?_cons_succ, List.getElem?_append_left (List.getElem?_eq_some_iff.1 hv).1]
      exact hv)) Tryd.underlying32 rfl (by rw [IdK.len hx]; exact szId)
theorem op_vac {b o : Nat} {x : OpR} (hx : x.id.ok) (h : W.rangeAt b o x.c) : (Instr.loadAt 39 (.pointer (some ⟨b, o + 35, none⟩))).run Tryd.prog W = .ok x.v.v W := ld_va (fun j v hv => by
    rw [Nat.add_assoc]
    exact h (35 + j) v (by
      rw [OpR.c, show 35 + j = (33 + j) + 1 + 1 by omega, List.getElem?_cons_succ, List.getElem?_cons_succ, List.getElem?_append_right (by rw [IdK.len hx]; omega), IdK.len hx, show 33 + j - 33 = j by omega, List.getElem?_append_left (List.getElem?_eq_some_iff.1 hv).1]
      exact hv))
theorem op_nc {b o : Nat} {x : OpR} (hx : x.id.ok) (h : W.rangeAt b o x.c) : (Instr.loadAt 2 (.pointer (some ⟨b, o + 39, none⟩))).run Tryd.prog W = .ok (.int .i64 x.n) W := by
  have hc : W.cell? ⟨b, o + 39, none⟩ = some (.int .i64 x.n) := h 39 _ (by
    rw [OpR.c, show 39 = (33 + 4) + 1 + 1 by rfl, List.getElem?_cons_succ, List.getElem?_cons_succ, List.getElem?_append_right (by rw [IdK.len hx]; omega), IdK.len hx, List.getElem?_append_right (by rw [VaV.len]; omega), VaV.len]
    rfl)
  go_simp
end
end Go.Proofs.YtldlljobofnmmabDoor

namespace Go.Proofs.YtldlljobofnmmabDoor
open Go.RowKit
set_option linter.unusedVariables false
set_option linter.unusedSimpArgs false

section
open Ieee
theorem signed_zero {s : Bool} {m k : Nat} (h : signed s m k = 0) : m = 0 := by
  unfold signed at h
  rw [Nat.shiftLeft_eq] at h
  generalize hz : m * 2 ^ k = z at h
  have : m * 2 ^ k = 0 := by
    cases s
    · simp at h; omega
    · simp at h; omega
  rcases Nat.mul_eq_zero.1 this with h | h
  · exact h
  · exact absurd h (by have := Nat.two_pow_pos k; omega)
theorem ord_zero {f : Nat} (h : (Ieee.double.order f 0 == some .eq) = true) : f % 2 ^ 63 = 0 := by
  have e1 : Ieee.double.signWeight = 2 ^ 63 := rfl
  have e2 : Ieee.double.binade = 2 ^ 52 := rfl
  have e3 : Ieee.double.infRung = 2047 * 2 ^ 52 := rfl
  have h' : Ieee.double.order f 0 = some .eq := by simpa using h
  have z : Ieee.double.read 0 = .number false 0 Ieee.double.leastPlace := by decide +kernel
  have key : ∀ s m i, Datum.order (.number s m i) (.number false 0 Ieee.double.leastPlace) = some .eq → m = 0 := fun s m i q => by
    simp only [Datum.order, Option.some.injEq] at q
    have q2 := Std.LawfulEqCmp.eq_of_compare q
    have : signed false 0 (Ieee.double.leastPlace - min i Ieee.double.leastPlace).toNat = 0 := by simp [signed]
    rw [this] at q2
    exact signed_zero q2
  unfold Ieee.Format.order at h'
  rw [z] at h'
  unfold Ieee.Format.read at h'
  rw [e1, e2, e3] at h'
  simp only at h'
  split at h'
  · exact key _ _ _ h'
  · split at h'
    · have := key _ _ _ h'
      omega
    · split at h'
      · simp only [Datum.order, Option.some.injEq] at h'
        split at h' <;> cases h'
      · cases h'
end
theorem f_zero {f : Nat} (hf : f < 18446744073709551616) (h : (FloatKind.f64.format.order f 0 == some .eq) = true) : f = 0 ∨ f = 9223372036854775808 := by
  have := ord_zero h
  omega
set_option maxRecDepth 100000 in
set_option maxHeartbeats 2000000 in
/-- A value is the same as itself. -/
theorem same_self {x : VaV} (hx : x.ok) (w : World) : Calls Tryd.prog 23 #[x.v, x.v] w fun e w' => e = .returned (.bool true) ∧ Below w.heap.size w w' := by
  obtain ⟨k, n, f, t⟩ := x
  have hf := hx.ff
  simp only at hf
  clear hx
  show Calls Tryd.prog 23 #[.agg #[.int .u8 k, .int .i64 n, .float .f64 f, .string t], .agg #[.int .u8 k, .int .i64 n, .float .f64 f, .string t]] w _
  have k1 : (k != k) = false := by simp
  have n1 : (n != n) = false := by simp
  have t1 : (t.toList != t.toList) = false := by simp
  by_cases z1 : (FloatKind.f64.format.order f f == some .eq) = true
  · have z2 : (FloatKind.f64.format.order f f != some .eq) = false := by rw [bne, z1]; rfl
    by_cases z3 : (FloatKind.f64.format.order f 0 == some .eq) = true
    · have z4 : (FloatKind.f64.format.order f 0 != some .eq) = false := by rw [bne, z3]; rfl
      obtain ⟨q, hq, hqq⟩ : ∃ q, (∀ W, (binOp .quo 37 (.float .f64 4607182418800017408) (.float .f64 f)).run Tryd.prog W = .ok (.float .f64 q) W) ∧ (FloatKind.f64.format.order q q == some .eq) = true := by
        rcases f_zero hf z3 with rfl | rfl
        · exact ⟨9218868437227405312, fun W => run_float_arith W .quo 37 .f64 _ _ _ (by decide +kernel), by decide +kernel⟩
        · exact ⟨18442240474082181120, fun W => run_float_arith W .quo 37 .f64 _ _ _ (by decide +kernel), by decide +kernel⟩
      clear hf
      go_enter Tryd.func23, Tryd.ntmps23
      go_wp2
      go_ret
      exact ⟨rfl, belN2 _ _ _⟩
    · replace z3 : (FloatKind.f64.format.order f 0 == some .eq) = false := by simpa using z3
      have z4 : (FloatKind.f64.format.order f 0 != some .eq) = true := by rw [bne, z3]; rfl
      clear hf
      go_enter Tryd.func23, Tryd.ntmps23
      go_wp2
      go_ret
      exact ⟨rfl, belN2 _ _ _⟩
  · replace z1 : (FloatKind.f64.format.order f f == some .eq) = false := by simpa using z1
    have z2 : (FloatKind.f64.format.order f f != some .eq) = true := by rw [bne, z1]; rfl
    clear hf
    go_enter Tryd.func23, Tryd.ntmps23
    go_wp2
    go_ret
    exact ⟨rfl, belN2 _ _ _⟩
end Go.Proofs.YtldlljobofnmmabDoor

namespace Go.Proofs.YtldlljobofnmmabDoor
open Go.RowKit
set_option linter.unusedVariables false
set_option linter.unusedSimpArgs false

theorem mem_take_succ {α : Type} {L : List α} {i : Nat} {x y : α} (h : L[i]? = some x) : y ∈ L.take (i + 1) ↔ y ∈ L.take i ∨ y = x := by
  rw [List.take_add_one, h]
  simp
set_option maxRecDepth 100000 in
set_option maxHeartbeats 4000000 in
/-- Whether an Id stands in a list. -/
theorem saw_any {w : World} {L : List IdK} (ok : ∀ x ∈ L, x.ok) (hn : L.length ≤ 9000000000000) {a : Option Addr} {c : Nat} (ha : RI.At w a L) {y : IdK} (hy : y.ok) :
    Calls Tryd.prog 21 #[.slice a L.length c, y.v] w fun e w' => e = .returned (.bool (decide (y ∈ L))) ∧ Below w.heap.size w w' := by
  obtain ⟨n, hnn⟩ : ∃ n, L.length = n := ⟨_, rfl⟩
  obtain ⟨w1, E1, n1, b1⟩ := box_id w y
  have H1 := hidMk E1
  have HL := hidMk (And.intro (ha.below b1) (And.intro ok (And.intro hnn (And.intro n1 b1))))
  rw [hnn] at hn ⊢
  obtain ⟨xb, hxb⟩ : ∃ xb, w.heap.size = xb := ⟨_, rfl⟩
  have HXB := hidMk hxb
  rw [hxb] at H1
  clear ha ok hnn E1 n1 b1 hxb
  go_enter Tryd.func21, Tryd.ntmps21
  go_wp2_with (first
    | (refine wpList_run rfl (exec_boxE (t := 32) (v := y.v) (u := .pointer (some ⟨xb, 0, none⟩)) (w2 := w1) rfl rfl H1.out) ?_)
    | fail)
  clear H1
  go_loopw [5] (fun v5 wr => ∃ i : Nat, v5 = .int .i64 (i : Int) ∧ i ≤ n ∧ Hid (Below w1.heap.size w1 wr ∧ ¬ y ∈ L.take i)) (fun v5 wr => n - (match v5 with | .int _ i => i.toNat | _ => 0))
  case atStart => exact ⟨0, rfl, Nat.zero_le _, Below.refl _ _, by simp⟩
  case round =>
    obtain ⟨i, rfl, hin, HI⟩ := hrel
    by_cases hi : i < n
    · obtain ⟨ha, ok, hnn, n1, b1⟩ := HL.out
      obtain ⟨x, hxi⟩ : ∃ x, L[i]? = some x := ⟨_, List.getElem?_eq_getElem (by omega)⟩
      have hx : x.ok := ok x (List.mem_of_getElem? hxi)
      obtain ⟨g, o, rfl, lg, hr⟩ : ∃ g o, a = some ⟨g, o, none⟩ ∧ g < w1.heap.size ∧ w1.rangeAt g (o + 33 * i) x.c := by
        rcases ha with h | ⟨g, o, e, h1, h2⟩
        · rw [h] at hxi; cases hxi
        · exact ⟨g, o, e, h1, h2 i x hxi⟩
      have bd : Below w1.heap.size w1 wr.drew := HI.out.1.drew
      have L1 : Hid ((Instr.loadAt 32 (.pointer (some ⟨g, o + 33 * i, none⟩))).run Tryd.prog wr.drew = .ok x.v wr.drew) := RowT.ld RI_is hx (rangeAt_keep hr (bd.block _ lg))
      have L2 : Hid ((Instr.loadAt 32 (.pointer (some ⟨xb, 0, none⟩))).run Tryd.prog wr.drew = .ok y.v wr.drew) := load_id hy ((bd.block xb (by have := (Array.getElem?_eq_some_iff.1 n1).1; rw [HXB.out] at this; exact this)).trans (by rw [← HXB.out]; exact n1))
      have HM := hidMk (And.intro bd (And.intro HI.out.2 (And.intro hxi (And.intro b1 hnn))))
      have h63 : n ≤ 9223372036854775807 := by omega
      clear hr lg ha ok hnn n1 b1 hxi bd HI
      go_upto_region 4 with fail
      refine saw4 (g := g) (o := o) (n := n) (c := c) (i := i) (xb := xb) (x := x) (y := y) _ wr _ rfl rfl rfl rfl hx hy hi h63 (fun W e => by rw [e]; exact L1.out) (fun W e => by rw [e]; exact L2.out) ?_
      intro a' w2 hf ha
      subst ha
      subst hf
      simp only [Act.put, List.setIfInBounds_toArray, List.set_cons_zero, List.set_cons_succ]
      clear L1 L2
      by_cases hxy : x = y
      · have HXY := hidMk hxy
        rw [show decide (x = y) = true from decide_eq_true hxy]
        clear hxy
        go_wp2
        go_ret
        obtain ⟨bd, h2, hxi, b1, hnn⟩ := HM.out
        refine ⟨?_, b1.trans (bd.mono b1.size)⟩
        rw [decide_eq_true (by rw [← HXY.out]; exact List.mem_of_getElem? hxi)]
        rfl
      · have HXY := hidMk hxy
        rw [show decide (x = y) = false from decide_eq_false hxy]
        clear hxy
        go_wp2
        rw [show ((i : Int) + 1) = ((i + 1 : Nat) : Int) by omega]
        refine ⟨⟨i + 1, rfl, hi, HM.out.1, ?_⟩, ?_⟩
        · rw [mem_take_succ HM.out.2.2.1]
          rintro (h | h)
          · exact HM.out.2.1 h
          · exact HXY.out h.symm
        · show n - ((i + 1 : Nat) : Int).toNat < n - (i : Int).toNat
          omega
    · obtain rfl : i = n := by omega
      go_wp2
      go_ret
      obtain ⟨ha, ok, hnn, n1, b1⟩ := HL.out
      refine ⟨?_, b1.trans (HI.out.1.mono b1.size)⟩
      have := HI.out.2
      rw [List.take_of_length_le (by omega)] at this
      rw [decide_eq_false this]
      rfl
/-- A slot: a place, and its list. -/
structure SlV where
  a : Option Addr
  n : Nat
  c : Nat
def SlV.v (x : SlV) : Value := .slice x.a x.n x.c
/-- Where a place stands. -/
def fndI (S : List (PlK × SlV)) (p : PlK) : Int := match S.findIdx? (fun x => decide (x.1 = p)) with | some i => (i : Int) | none => -1
theorem fnd_none {S : List (PlK × SlV)} {p : PlK} (h : ∀ x ∈ S, x.1 ≠ p) : fndI S p = -1 := by
  unfold fndI
  rw [List.findIdx?_eq_none_iff.2 (fun x hx => by simpa using h x hx)]
theorem fnd_at {S : List (PlK × SlV)} {p : PlK} {i : Nat} {x : PlK × SlV} (hx : S[i]? = some x) (he : x.1 = p) (h : ∀ y ∈ S.take i, y.1 ≠ p) : fndI S p = i := by
  have hi := (List.getElem?_eq_some_iff.1 hx).1
  have : S.findIdx? (fun x => decide (x.1 = p)) = some i := by
    rw [List.findIdx?_eq_some_iff_getElem]
    refine ⟨hi, by rw [(List.getElem?_eq_some_iff.1 hx).2]; simpa using he, fun j hj => ?_⟩
    have := h S[j] (List.mem_take_iff_getElem.2 ⟨j, by omega, rfl⟩)
    simpa using this
  unfold fndI
  rw [this]
end Go.Proofs.YtldlljobofnmmabDoor

namespace Go.Proofs.YtldlljobofnmmabDoor
open Go.RowKit
set_option linter.unusedVariables false
set_option linter.unusedSimpArgs false

theorem szSay : (Tryd.prog.info? 42).map (·.size) = some 8 := by kernel_rfl
theorem SyR.one {W : World} {o : SyR} (h : o.ok W) : ∀ v ∈ o.c, v.oneCell' = true := by
  intro v hv
  obtain ⟨a, cap, e, _⟩ := h.seen
  simp only [SyR.c, List.mem_cons, List.mem_append, List.not_mem_nil, or_false] at hv
  rcases hv with rfl | rfl | h | rfl | rfl
  · rfl
  · rfl
  · exact o.v.one v h
  · rfl
  · rw [e]; rfl
theorem ld_say {W : World} {b o : Nat} {x : SyR} (h : W.rangeAt b o x.c) : (Instr.loadAt 42 (.pointer (some ⟨b, o, none⟩))).run Tryd.prog W = .ok x.a W :=
  run_loadAt_mid (P := Tryd.prog) W b o 42 x.c _ h Tryd.underlying42 rfl (by rw [SyR.len8]; exact szSay)
theorem say_kind {W : World} {b o : Nat} {x : SyR} (h : W.rangeAt b o x.c) : (Instr.loadAt 3 (.pointer (some ⟨b, o + 0, none⟩))).run Tryd.prog W = .ok (.int .i64 x.kind) W := by
  have hc : W.cell? ⟨b, o, none⟩ = some (.int .i64 x.kind) := h 0 _ rfl
  go_simp
theorem say_pl {W : World} {b o : Nat} {x : SyR} (h : W.rangeAt b o x.c) : (Instr.loadAt 3 (.pointer (some ⟨b, o + 1, none⟩))).run Tryd.prog W = .ok (.int .i64 x.pl) W := by
  have hc : W.cell? ⟨b, o + 1, none⟩ = some (.int .i64 x.pl) := h 1 _ rfl
  go_simp
theorem say_va {W : World} {b o : Nat} {x : SyR} (h : W.rangeAt b o x.c) : (Instr.loadAt 39 (.pointer (some ⟨b, o + 2, none⟩))).run Tryd.prog W = .ok x.v.v W := ld_va (fun j v hv => by
    rw [Nat.add_assoc]
    exact h (2 + j) v (by
      rw [SyR.c, show 2 + j = j + 1 + 1 by omega, List.getElem?_cons_succ, List.getElem?_cons_succ, List.getElem?_append_left (List.getElem?_eq_some_iff.1 hv).1]
      exact hv))
theorem say_n {W : World} {b o : Nat} {x : SyR} (h : W.rangeAt b o x.c) : (Instr.loadAt 2 (.pointer (some ⟨b, o + 6, none⟩))).run Tryd.prog W = .ok (.int .i64 x.n) W := by
  have hc : W.cell? ⟨b, o + 6, none⟩ = some (.int .i64 x.n) := h 6 _ (by
    rw [SyR.c, show 6 = 4 + 1 + 1 by rfl, List.getElem?_cons_succ, List.getElem?_cons_succ, List.getElem?_append_right (by rw [VaV.len]; omega), VaV.len]
    rfl)
  go_simp
theorem say_seen {x : SyR} : x.c[7]? = some x.seen := by
    rw [SyR.c, show 7 = 5 + 1 + 1 by rfl, List.getElem?_cons_succ, List.getElem?_cons_succ, List.getElem?_append_right (by rw [VaV.len]; omega), VaV.len]
    rfl
theorem box_say (w : World) (x : SyR) : ∃ w1, (Instr.box 42 x.a).run Tryd.prog w = .ok (.pointer (some ⟨w.heap.size, 0, none⟩)) w1 ∧ w1.heap[w.heap.size]? = some (.cells x.c.toArray 42 (0, 0)) ∧ Below w.heap.size w w1 := ⟨_, by rw [run_box]; rfl, heap_alloc_new _ _, (Below.refl _ _).alloc (Nat.le_refl _) _⟩
def NotIn (w1 wr : World) (k : Int) (L : List Int) (i : Nat) : Prop := wr = w1 ∧ ¬ k ∈ L.take i
set_option maxRecDepth 100000 in
set_option maxHeartbeats 2000000 in
/-- Whether a call had seen another one. -/
theorem knows_any {w : World} {x : SyR} (hx : x.ok w) {k : Nat} (hk : k ≤ 9000000000000) :
    Calls Tryd.prog 18 #[x.a, .int .i64 (k : Int)] w fun e w' => e = .returned (.bool (decide ((k : Int) ∈ x.sl))) ∧ Below w.heap.size w w' := by
  obtain ⟨w1, E1, n1, b1⟩ := box_say w x
  obtain ⟨a, cap, es, hr⟩ := (hx.below b1).seen
  have hn := hx.len
  obtain ⟨n, hnn⟩ : ∃ n, x.sl.length = n := ⟨_, rfl⟩
  have c7 : w1.cell? ⟨w.heap.size, 7, none⟩ = some (.slice a n cap) := by
    rw [cell_of_row _ _ 7 _ _ _ n1, ← hnn, ← es]
    have := say_seen (x := x)
    simpa using this
  have H1 := hidMk E1
  have HL := hidMk (And.intro hr (And.intro hnn b1))
  rw [hnn] at hn
  obtain ⟨xb, hxb⟩ : ∃ xb, w.heap.size = xb := ⟨_, rfl⟩
  have HXB := hidMk hxb
  rw [hxb] at H1 c7
  clear hx E1 n1 b1 hr es hxb hnn
  obtain ⟨xa, hxa⟩ : ∃ xa, x.a = xa := ⟨_, rfl⟩
  rw [hxa] at H1 ⊢
  clear hxa
  go_enter Tryd.func18, Tryd.ntmps18
  go_wp2_with (first
    | (refine wpList_run rfl (exec_boxE (t := 42) (v := xa) (u := .pointer (some ⟨xb, 0, none⟩)) (w2 := w1) rfl rfl H1.out) ?_)
    | fail)
  clear H1
  go_loopw [5] (fun v5 wr => ∃ i : Nat, v5 = .int .i64 (i : Int) ∧ i ≤ n ∧ Hid (NotIn w1 wr (k : Int) x.sl i)) (fun v5 wr => n - (match v5 with | .int _ i => i.toNat | _ => 0))
  case atStart => exact ⟨0, rfl, Nat.zero_le _, rfl, by simp⟩
  case round =>
    obtain ⟨i, rfl, hin, HI0⟩ := hrel
    obtain rfl : w1 = wr := HI0.out.1.symm
    have HI := hidMk HI0.out.2
    clear HI0
    by_cases hi : i < n
    · obtain ⟨hr, hnn, b1⟩ := HL.out
      obtain ⟨z, hzi⟩ : ∃ z, x.sl[i]? = some z := ⟨_, List.getElem?_eq_getElem (by omega)⟩
      obtain ⟨g, o, rfl, lg, hz⟩ : ∃ g o, a = some ⟨g, o, none⟩ ∧ g < w1.heap.size ∧ w1.rangeAt g (o + i * 1) (inC z) := by
        rcases hr with h | ⟨g, o, e, h1, h2⟩
        · rw [h] at hzi; cases hzi
        · exact ⟨g, o, e, h1, h2 i z hzi⟩
      have ci : w1.cell? ⟨g, o + i, none⟩ = some (.int .i64 z) := by
        have := hz 0 _ rfl
        rw [Nat.mul_one] at this
        exact this
      have HM := hidMk (And.intro hzi (And.intro b1 hnn))
      clear hr hnn b1 hzi hz lg
      by_cases hzk : z = (k : Int)
      · have HZ := hidMk hzk
        have hq : (z == (k : Int)) = true := by simpa using hzk
        clear hzk
        go_wp2
        go_ret
        obtain ⟨hzi, b1, hnn⟩ := HM.out
        refine ⟨?_, b1⟩
        rw [decide_eq_true (by rw [← HZ.out]; exact List.mem_of_getElem? hzi)]
        rfl
      · have HZ := hidMk hzk
        have hq : (z == (k : Int)) = false := by simpa using hzk
        clear hzk
        go_wp2
        rw [show ((i : Int) + 1) = ((i + 1 : Nat) : Int) by omega]
        refine ⟨⟨i + 1, rfl, hi, rfl, ?_⟩, ?_⟩
        · rw [mem_take_succ HM.out.1]
          rintro (h | h)
          · exact HI.out h
          · exact HZ.out h.symm
        · show n - ((i + 1 : Nat) : Int).toNat < n - (i : Int).toNat
          omega
    · obtain rfl : i = n := by omega
      go_wp2
      go_ret
      obtain ⟨hr, hnn, b1⟩ := HL.out
      refine ⟨?_, b1⟩
      have := HI.out
      rw [List.take_of_length_le (by omega)] at this
      rw [decide_eq_false this]
      rfl
end Go.Proofs.YtldlljobofnmmabDoor

namespace Go.Proofs.YtldlljobofnmmabDoor
open Go.RowKit
set_option linter.unusedVariables false
set_option linter.unusedSimpArgs false

theorem nmI_ok {i : Nat} (h : i ≤ 9000000000000) : (nmI i).ok := ⟨by simp [nmI], by simp only [nmI]; omega, by simp only [nmI]; omega⟩
theorem nmI_v (i : Nat) : (nmI i).v = .agg #[.int .u8 ((i : Int) % 256), .int .u8 ((i : Int) / 256 % 256), .int .u8 ((i : Int) / 65536 % 256), .int .u8 0, .int .u8 0, .int .u8 0, .int .u8 0, .int .u8 0, .int .u8 0, .int .u8 0, .int .u8 0, .int .u8 0, .int .u8 0, .int .u8 0, .int .u8 0, .int .u8 0, .int .u8 0, .int .u8 0, .int .u8 0, .int .u8 0, .int .u8 0, .int .u8 0, .int .u8 0, .int .u8 0, .int .u8 0, .int .u8 0, .int .u8 0, .int .u8 0, .int .u8 0, .int .u8 0, .int .u8 0, .int .u8 0, .int .i64 ((i : Int) + 1)] := by
  have h : ∀ k : Nat, ((UInt8.ofNat k).toNat : Int) = (k : Int) % 256 := fun k => by
    rw [UInt8.toNat_ofNat']
    omega
  have e1 : ((i / 256 : Nat) : Int) = (i : Int) / 256 := by omega
  have e2 : ((i / 65536 : Nat) : Int) = (i : Int) / 65536 := by omega
  unfold IdK.v IdK.c
  simp only [nmI, hcs, bs, List.map_cons, List.map_replicate, h, e1, e2]
  rfl
set_option maxRecDepth 100000 in
set_option maxHeartbeats 2000000 in
/-- The Id of the call of a number. -/
theorem name_any (w : World) {i : Nat} (h : i ≤ 9000000000000) : Calls Tryd.prog 19 #[.int .i64 (i : Int)] w fun e w' => e = .returned (nmI i).v ∧ Below w.heap.size w w' := by
  obtain ⟨w1, w2, E1, E2, n2, b2⟩ := id_newR w (nmI_ok h)
  rw [nmI_v] at E2
  have H1 := hidMk E1
  have H2 := hidMk E2
  have HF := hidMk (And.intro n2 b2)
  have HL : Hid ((Tryd.prog.info? 32).map (·.size) = some (nmI i).c.toArray.size) := by
    show _ = _
    rw [List.size_toArray, IdK.len (nmI_ok h)]
    exact szId
  clear E1 E2 n2 b2
  go_enter Tryd.func19, Tryd.ntmps19
  go_wp2_with (first
    | (refine wpList_run rfl (exec_alloc (w2 := w1) rfl H1.out) ?_)
    | (refine wpList_skip rfl rfl (exec_store (w2 := w2) rfl rfl rfl H2.out) ?_)
    | fail)
  refine bodyPost_ret (results_cell_row Tryd.results19 _ _ w.heap.size _ _ _ _ rfl HF.out.1 Tryd.underlying32 rfl HL.out) rfl ?_
  exact ⟨rfl, HF.out.2⟩
end Go.Proofs.YtldlljobofnmmabDoor

namespace Go.Proofs.YtldlljobofnmmabDoor
open Go.RowKit
set_option linter.unusedVariables false
set_option linter.unusedSimpArgs false

def enP (q : IdK × VaV) : EnV := ⟨q.1, q.2⟩
def idsK (kn : Nat → Bool) (k : Nat) : List IdK := ((List.range k).filter kn).map nmI
theorem idsK_len (kn : Nat → Bool) (k : Nat) : (idsK kn k).length ≤ k := by
  have := List.length_filter_le kn (List.range k)
  simpa [idsK] using this
theorem idsK_succ (kn : Nat → Bool) (k : Nat) : idsK kn (k + 1) = if kn k = true then idsK kn k ++ [nmI k] else idsK kn k := by
  unfold idsK
  rw [List.range_succ, List.filter_append, List.map_append]
  by_cases h : kn k = true
  · rw [if_pos h, List.filter_cons_of_pos h]; simp
  · rw [if_neg h, List.filter_cons_of_neg h]; simp
theorem idsK_ok (kn : Nat → Bool) {k : Nat} (h : k ≤ 9000000000000) : ∀ x ∈ idsK kn k, x.ok := by
  intro x hx
  obtain ⟨i, hi, rfl⟩ := List.mem_map.1 hx
  have := List.mem_range.1 (List.mem_filter.1 hi).1
  exact nmI_ok (by omega)
/-- A box of a list of Ids, and the list. -/
structure IdB (W : World) (ib : Nat) (iv : Value) (I : List IdK) (W' : World) : Prop where
  b : W'.heap[ib]? = some (.cells #[iv] 70 (0, 0))
  o : RI.Own W' W.heap.size iv I
  bel : Below W.heap.size W W'
  sl : ∃ s : SlV, iv = s.v
theorem idl_store {W : World} {ib : Nat} {iv : Value} {s : SlV} (h : W.heap[ib]? = some (.cells #[iv] 70 (0, 0))) : ∃ W', (Instr.storeAt 70 (.pointer (some ⟨ib, 0, none⟩)) s.v).run Tryd.prog W = .ok () W' ∧ W'.heap[ib]? = some (.cells #[s.v] 70 (0, 0)) ∧ Tch (fun j => j = ib) W W' := by
  have c0 : W.cell? ⟨ib, 0, none⟩ = some iv := (cell_of_row W ib 0 _ _ _ h).trans rfl
  have f0 := frozen_of_row W ib 0 _ _ h
  refine ⟨W.setCell ⟨ib, 0, none⟩ (.slice s.a s.n s.c), ?_, ?_, ⟨rfl, rfl, rfl, by simp [World.setCell], fun j _ hj => Go.heap_setCell_other _ _ _ _ hj⟩⟩
  · unfold SlV.v
    go_simp
  · exact Go.heap_setCell_same W ib 0 _ 70 _ h
theorem idl_load {W : World} {ib : Nat} {s : SlV} (h : W.heap[ib]? = some (.cells #[s.v] 70 (0, 0))) : (Instr.loadAt 70 (.pointer (some ⟨ib, 0, none⟩))).run Tryd.prog W = .ok s.v W := by
  have c0 : W.cell? ⟨ib, 0, none⟩ = some (.slice s.a s.n s.c) := (cell_of_row W ib 0 _ _ _ h).trans rfl
  unfold SlV.v
  go_simp
theorem idl_new (W : World) : ∃ W', (Instr.alloc 70 true (.tuple #[])).run Tryd.prog W = .ok (.pointer (some ⟨W.heap.size, 0, none⟩)) W' ∧ IdB W W.heap.size (.slice none 0 0) [] W' :=
  ⟨W.alloc (.cells #[.slice none 0 0] 70), by kernel_rfl, heap_alloc_new _ _, RowT.own_nil RI _ _, (Below.refl _ _).alloc (Nat.le_refl _) _, ⟨none, 0, 0⟩, rfl⟩
theorem IdB.below {W W1 W2 : World} {ib : Nat} {iv : Value} {I : List IdK} (h : IdB W ib iv I W1) (b : Below W1.heap.size W1 W2) : IdB W ib iv I W2 := ⟨(b.block _ (Array.getElem?_eq_some_iff.1 h.b).1).trans h.b, h.o.below b, h.bel.trans (b.mono h.bel.size), h.sl⟩
/-- An Id more. -/
theorem IdB.push {W W1 : World} {ib : Nat} {iv : Value} {I : List IdK} (h : IdB W ib iv I W1) (hib : W.heap.size ≤ ib) {y : IdK} (hy : y.ok) (hn : I.length + 1 ≤ 5000000000000) :
    ∃ sv w1 u w2 w3, (Instr.buildSlice 70 1 #[(0, y.v)]).run Tryd.prog W1 = .ok sv w1 ∧ w1.heap[ib]? = some (.cells #[iv] 70 (0, 0)) ∧ (Builtin.append_ #[70, 70] 70 #[iv, sv]).run Tryd.prog w1 = .ok u w2 ∧ w2.heap[ib]? = some (.cells #[iv] 70 (0, 0)) ∧ (Instr.storeAt 70 (.pointer (some ⟨ib, 0, none⟩)) u).run Tryd.prog w2 = .ok () w3 ∧ ∃ iv', IdB W ib iv' (I ++ [y]) w3 := by
  have hb := h.bel.size
  obtain ⟨sv, w1, u, w2, E1, E2, o2, b1, z1, g2, q2⟩ := RowT.run_push RI_is W1 W.heap.size iv I y h.o hy (by unfold maxLen; omega) (by show _ * 40 ≤ _; omega) hb
  obtain ⟨oa, oc, eo⟩ := o2.form
  have hl := (Array.getElem?_eq_some_iff.1 h.b).1
  have n1 : w1.heap[ib]? = _ := (b1.block ib hl).trans h.b
  have hne : iv.ownBlock ≠ some ib := fun e => by
    obtain ⟨_, c, hc⟩ := h.o.cells e
    have := h.b
    rw [hc] at this
    injection this with this
    injection this with _ h2 _
    revert h2
    decide
  have n2 : w2.heap[ib]? = _ := (g2.block ib (Array.getElem?_eq_some_iff.1 n1).1 (fun e => hne e.symm)).trans n1
  obtain ⟨w3, E3, n3, t3⟩ := idl_store (s := ⟨oa, _, oc⟩) n2
  have hu : u.ownBlock ≠ some ib := fun e => by
    obtain ⟨_, c, hc⟩ := o2.cells e
    rw [hc] at n2
    injection n2 with n2
    injection n2 with _ h2 _
    revert h2
    decide
  have bel1 : Below W.heap.size W w1 := h.bel.trans (b1.mono hb)
  have bel2 : Below W.heap.size W w2 := bel1.grown g2 (Nat.le_trans hb b1.size) (fun k hk => (h.o.cells hk).1)
  refine ⟨sv, w1, u, w2, w3, E1, n1, E2, n2, by rw [eo]; exact E3, _, n3, ?_, bel2.trans (t3.below (Nat.le_trans hb (Nat.le_trans b1.size g2.size)) (fun j e => by rw [e]; exact hib)), ⟨oa, _, oc⟩, rfl⟩
  have : RI.Own w3 W.heap.size u (I ++ [y]) := o2.keep (fun k hk => t3.block k (o2.lt hk) (fun e => hu (by rw [← e]; exact hk)))
  rw [eo] at this
  exact this
set_option maxRecDepth 100000 in
set_option maxHeartbeats 2000000 in
/-- do's closure. -/
theorem tells_do {W : World} {ib : Nat} {s : SlV} {I : List IdK} (hb : W.heap[ib]? = some (.cells #[s.v] 70 (0, 0))) {base : Nat} (ho : RI.Own W base s.v I) (ok : ∀ x ∈ I, x.ok) (hn : I.length ≤ 9000000000000) : Tells W 20 #[.pointer (some ⟨ib, 0, none⟩)] (fun k => decide (k ∈ I)) := by
  refine ⟨enters_of Tryd.func20 (by kernel_rfl) rfl, fun w bW k hk => ?_⟩
  obtain ⟨w1, E1, n1, b1⟩ := box_id w k
  have h2 := (bW.block ib (Array.getElem?_eq_some_iff.1 hb).1).trans hb
  have hb1 := (b1.block ib (Array.getElem?_eq_some_iff.1 h2).1).trans h2
  have o1 := (ho.below bW).below b1
  obtain ⟨a, c, es, hat, _⟩ := o1.open RI_is ok
  have CS := hidMk (saw_any ok hn (c := c) hat hk)
  rw [← es] at CS
  have H1 := hidMk E1
  have L1 := hidMk (idl_load hb1)
  have L2 := hidMk (load_id hk n1)
  have HB := hidMk b1
  clear E1 n1 b1 hb1 o1 es hat bW hb ho h2
  show Calls Tryd.prog 20 #[k.v, .pointer (some ⟨ib, 0, none⟩)] w _
  go_enter Tryd.func20, Tryd.ntmps20
  go_wp2_with (first
    | (refine wpList_run rfl (exec_boxE (t := 32) (v := k.v) (u := .pointer (some ⟨w.heap.size, 0, none⟩)) (w2 := w1) rfl rfl H1.out) ?_)
    | (refine wpList_val rfl (exec_load (t := 70) (v := s.v) rfl rfl L1.out) ?_)
    | (refine wpList_val rfl (exec_load (t := 32) (v := k.v) rfl rfl L2.out) ?_)
    | (go_at_call 21; refine CS.out.mono ?_; rintro e w2 ⟨rfl, b2⟩; have B2 := hidMk b2; clear b2 CS)
    | fail)
  go_ret
  exact ⟨rfl, HB.out.trans (B2.out.mono HB.out.size)⟩
end Go.Proofs.YtldlljobofnmmabDoor

namespace Go.Proofs.YtldlljobofnmmabDoor
open Go.RowKit
set_option linter.unusedVariables false
set_option linter.unusedSimpArgs false

/-- What the law was handed. -/
structure LwI (w : World) (pa : Option Addr) (Ps : List PlK) (a : Option Addr) (L : List SyR) : Prop where
  hP : RowAt 67 PlK.c w pa Ps
  okP : ∀ x ∈ Ps, x.ok
  hPn : Ps.length ≤ 2000000000000
  hL : RowAt 8 SyR.c w a L
  okL : ∀ x ∈ L, x.ok w
  hLn : L.length ≤ 2000000000000
theorem OpN.from {W W3 w' : World} {base : Nat} {s s' : Rs} {H : List Rec} {p : PlK} {L : List EnV} {rc : Rec} (b : Below W.heap.size W W3) (h : OpN W3 base s H p L rc s' w') : OpN W base s H p L rc s' w' := ⟨h.at', h.r, h.li, fun j hj => (h.al j hj).imp id (Nat.le_trans b.size), (tch_of b _).trans' h.tch (fun j _ q => q), Nat.le_trans b.size h.new, h.rp, h.rb⟩
theorem res_enP (I : List IdK) (M : List (IdK × VaV)) : Rg.res (fun y : EnV => decide (y.id ∈ I)) (M.map enP) = (M.filter (fun x => !decide (x.1 ∈ I))).map enP := by
  unfold Rg.res
  rw [List.filter_map]
  rfl
theorem chs_enP (I : List IdK) (f : VaV → VaV) (M : List (IdK × VaV)) : chs (fun y : EnV => decide (y.id ∈ I)) f (M.map enP) = (M.map (fun x => if decide (x.1 ∈ I) then (x.1, f x.2) else x)).map enP := by
  unfold chs
  rw [List.map_map, List.map_map]
  refine List.map_congr_left fun x _ => ?_
  by_cases h : x.1 ∈ I <;> simp [enP, chg, h]
set_option maxRecDepth 100000 in
set_option maxHeartbeats 8000000 in
/-- do. -/
theorem do_any {w W : World} {B : Nat} {s : Rs} {H : List Rec} (ra : RgAt W B s H) (bel : Below w.heap.size w W) (hlo : w.heap.size ≤ B) (hhi : B ≤ W.heap.size) {pa : Option Addr} {pc : Nat} {Ps : List PlK} {a : Option Addr} {c : Nat} {L : List SyR} (li : LwI w pa Ps a L) {i : Nat} {x : SyR} (hx : L[i]? = some x)
    {M : List (IdK × VaV)} (hM : liOf s.P (atP Ps x.pl) = M.map enP) (hn : M.length + 1 ≤ 2500000000000) :
    Calls Tryd.prog 7 #[.pointer (some ⟨s.r, 0, none⟩), .slice pa Ps.length pc, .slice a L.length c, .int .i64 (i : Int)] W (OpE W B s H (atP Ps x.pl) ((Rv.op nmI i (x.s Ps) M).map enP)) := by
  have hi : i < L.length := (List.getElem?_eq_some_iff.1 hx).1
  have hxo : x.ok w := li.okL x (List.mem_of_getElem? hx)
  obtain ⟨g, o, rfl, lg, hr⟩ : ∃ g o, a = some ⟨g, o, none⟩ ∧ g < w.heap.size ∧ w.rangeAt g (o + 8 * i) x.c := by
    rcases li.hL with h | ⟨g, o, e, h1, h2⟩
    · rw [h] at hx; cases hx
    · exact ⟨g, o, e, h1, by rw [Nat.mul_comm]; exact h2 i x hx⟩
  have HX := hidMk (fun (W' : World) (hw : Below w.heap.size w W') => rangeAt_keep hr (hw.block _ lg))
  have hLn := li.hLn
  have HAT : Hid (∀ W', Below w.heap.size w W' → Calls Tryd.prog 8 #[.slice pa Ps.length pc, .int .i64 x.pl] W' fun e w' => e = .returned (atP Ps x.pl).v ∧ Below W'.heap.size W' w') := fun W' b => at_any (li.hP.below b) li.okP li.hPn hxo.pl
  have hp : (atP Ps x.pl).ok := atP_ok li.okP _
  obtain ⟨kn, hkn⟩ : ∃ kn, (x.s Ps).kn = kn := ⟨_, rfl⟩
  have HKN := hidMk (show ∀ k : Nat, decide ((k : Int) ∈ x.sl) = kn k by intro k; rw [← hkn]; rfl)
  have HOP : Hid ((x.kind = 1 → Rg.res (fun y : EnV => decide (y.id ∈ idsK kn i)) (liOf s.P (atP Ps x.pl)) = (Rv.op nmI i (x.s Ps) M).map enP) ∧ (x.kind = 2 → chs (fun y : EnV => decide (y.id ∈ idsK kn i)) (sumV x.n) (liOf s.P (atP Ps x.pl)) = (Rv.op nmI i (x.s Ps) M).map enP) ∧ (x.kind ≠ 1 → x.kind ≠ 2 → Rg.res (fun y : EnV => decide (y.id ∈ idsK kn i)) (liOf s.P (atP Ps x.pl)) ++ [⟨nmI i, x.v⟩] = (Rv.op nmI i (x.s Ps) M).map enP)) := by
    have e1 : Rv.ids nmI (x.s Ps) i = idsK kn i := by rw [← hkn]; rfl
    have e2 : (x.s Ps).kd = x.kind := rfl
    rw [hM]
    unfold Rv.op
    rw [e1, e2]
    refine ⟨fun h => ?_, fun h => ?_, fun h1 h2 => ?_⟩
    · rw [if_pos h, res_enP]
    · rw [if_neg (by omega), if_pos h, chs_enP]; rfl
    · rw [if_neg h1, if_neg h2, res_enP, List.map_append]; rfl
  have hln : (liOf s.P (atP Ps x.pl)).length + 1 ≤ 2500000000000 := by rw [hM, List.length_map]; exact hn
  obtain ⟨L', hL'⟩ : ∃ L', (Rv.op nmI i (x.s Ps) M).map enP = L' := ⟨_, rfl⟩
  rw [hL'] at HOP ⊢
  obtain ⟨p, hp0⟩ : ∃ p, atP Ps x.pl = p := ⟨_, rfl⟩
  rw [hp0] at HAT hp HOP hln ⊢
  obtain ⟨n, hnn⟩ : ∃ n, L.length = n := ⟨_, rfl⟩
  obtain ⟨pn, hpn⟩ : ∃ n, Ps.length = n := ⟨_, rfl⟩
  rw [hnn] at hi hLn ⊢
  rw [hpn] at HAT ⊢
  have h63 : n ≤ 9223372036854775807 := by omega
  have HRA := hidMk (And.intro ra (And.intro bel (And.intro hlo (And.intro hhi (And.intro hxo hln)))))
  obtain ⟨W1, E1, ib1⟩ := idl_new W
  have H1 := hidMk E1
  obtain ⟨ib, hib⟩ : ∃ b, W.heap.size = b := ⟨_, rfl⟩
  have HIB := hidMk hib
  have I1 : Hid (∃ iv, IdB W ib iv (idsK kn 0) W1) := ⟨_, by rw [← hib]; exact ib1⟩
  rw [hib] at H1
  clear ra bel hlo hhi hxo li hx hM hn hr lg hkn hL' hp0 hnn hpn E1 ib1 hln hib
  obtain ⟨sr, hsr⟩ : ∃ b, s.r = b := ⟨_, rfl⟩
  have HSR := hidMk hsr
  rw [hsr]
  clear hsr
  go_enter Tryd.func7, Tryd.ntmps7
  go_wp2_with (first
    | (refine wpList_run rfl (exec_alloc (w2 := W1) rfl H1.out) ?_)
    | fail)
  clear H1
  go_loopw [10] (fun v10 wr => ∃ k : Nat, v10 = .int .i64 (k : Int) ∧ k ≤ i ∧ Hid (∃ iv, IdB W ib iv (idsK kn k) wr)) (fun v10 wr => i - (match v10 with | .int _ i => i.toNat | _ => 0))
  case atStart => exact ⟨0, rfl, Nat.zero_le _, I1⟩
  case round =>
    clear I1
    obtain ⟨k, rfl, hki, HI⟩ := hrel
    by_cases hk : k < i
    · have CK : Hid (Calls Tryd.prog 18 #[x.a, .int .i64 (k : Int)] wr fun e w' => e = .returned (.bool (kn k)) ∧ ∃ iv, IdB W ib iv (idsK kn k) w') := by
        obtain ⟨iv, hb⟩ := HI.out
        have bw : Below w.heap.size w wr := HRA.out.2.1.trans (hb.bel.mono HRA.out.2.1.size)
        refine (knows_any (HRA.out.2.2.2.2.1.below bw) (k := k) (by omega)).mono ?_
        rintro e w' ⟨rfl, b⟩
        exact ⟨by rw [HKN.out], iv, hb.below b⟩
      have LS : Hid (∀ W', W' = wr → (Instr.loadAt 42 (.pointer (some ⟨g, o + 8 * i, none⟩))).run Tryd.prog W' = .ok x.a W') := fun W' e => by
        obtain ⟨iv, hb⟩ := HI.out
        rw [e]
        exact ld_say (HX.out wr (HRA.out.2.1.trans (hb.bel.mono HRA.out.2.1.size)))
      clear HI
      go_upto_region 5 with fail
      refine do5 (g := g) (o := o) (n := n) (c := c) (i := i) (k := k) (x := x) (r := kn k) (fun w' => ∃ iv, IdB W ib iv (idsK kn k) w') _ wr _ rfl rfl rfl rfl hi h63 LS.out CK.out ?_
      intro a' w3 hf ha
      subst ha
      simp only [Act.put, List.setIfInBounds_toArray, List.set_cons_zero, List.set_cons_succ]
      have H3 := hidMk hf
      clear hf CK LS
      by_cases hs : kn k = true
      · have HS := hidMk hs
        rw [hs]
        clear hs
        obtain ⟨iv, hb⟩ := H3.out
        obtain ⟨sv0, esv⟩ := hb.sl
        have hbd := hb.below (Below.refl w3.heap.size w3).drew
        have LI : Hid (∀ W' : World, W'.heap[ib]? = some (.cells #[iv] 70 (0, 0)) → (Instr.loadAt 70 (.pointer (some ⟨ib, 0, none⟩))).run Tryd.prog W' = .ok iv W') := fun W' h => by
          rw [esv] at h ⊢
          exact idl_load h
        have CN : Hid (Calls Tryd.prog 19 #[.int .i64 (k : Int)] w3.drew fun e w' => e = .returned (nmI k).v ∧ w'.heap[ib]? = some (.cells #[iv] 70 (0, 0)) ∧ ∃ sv w1 u w2 w3, (Instr.buildSlice 70 1 #[(0, (nmI k).v)]).run Tryd.prog w' = .ok sv w1 ∧ w1.heap[ib]? = some (.cells #[iv] 70 (0, 0)) ∧ (Builtin.append_ #[70, 70] 70 #[iv, sv]).run Tryd.prog w1 = .ok u w2 ∧ w2.heap[ib]? = some (.cells #[iv] 70 (0, 0)) ∧ (Instr.storeAt 70 (.pointer (some ⟨ib, 0, none⟩)) u).run Tryd.prog w2 = .ok () w3 ∧ ∃ iv', IdB W ib iv' (idsK kn (k + 1)) w3) := by
          refine (name_any w3.drew (i := k) (by omega)).mono ?_
          rintro e w' ⟨rfl, b⟩
          have h2 := hbd.below b
          refine ⟨rfl, h2.b, ?_⟩
          have := h2.push (by rw [HIB.out]; exact Nat.le_refl _) (nmI_ok (i := k) (by omega)) (by have := idsK_len kn k; omega)
          rw [idsK_succ, if_pos HS.out]
          exact this
        have HB := hidMk hbd.b
        clear hb hbd esv H3
        go_upto_region 6 with fail
        refine do6 (ib := ib) (k := k) (iv := iv) (y := nmI k) (fun W' => W'.heap[ib]? = some (.cells #[iv] 70 (0, 0))) (fun w' => ∃ iv', IdB W ib iv' (idsK kn (k + 1)) w') _ w3 _ rfl rfl rfl HB.out LI.out CN.out ?_
        intro sv u a' w4 hf ha
        subst ha
        simp only [Act.put, List.setIfInBounds_toArray, List.set_cons_zero, List.set_cons_succ]
        have H4 := hidMk hf
        clear hf CN LI HB
        go_wp2
        rw [show ((k : Int) + 1) = ((k + 1 : Nat) : Int) by omega]
        refine ⟨⟨k + 1, rfl, hk, H4.out⟩, ?_⟩
        show i - ((k + 1 : Nat) : Int).toNat < i - (k : Int).toNat
        omega
      · have HS := hidMk hs
        rw [show kn k = false by simpa using hs]
        clear hs
        go_wp2
        rw [show ((k : Int) + 1) = ((k + 1 : Nat) : Int) by omega]
        refine ⟨⟨k + 1, rfl, hk, by rw [idsK_succ, if_neg HS.out]; exact H3.out⟩, ?_⟩
        show i - ((k + 1 : Nat) : Int).toNat < i - (k : Int).toNat
        omega
    · obtain rfl : k = i := by omega
      have HI2 := hidMk HI.out
      clear HI hki hk
      have SEEN : Hid (∃ sn : SlV, IdB W ib sn.v (idsK kn k) wr ∧ ∀ W', Below wr.heap.size wr W' → Seen W' (.func (.func 20) #[] #[.pointer (some ⟨ib, 0, none⟩)]) (fun id => decide (id ∈ idsK kn k))) := by
        obtain ⟨iv, hb⟩ := HI2.out
        obtain ⟨sn, rfl⟩ := hb.sl
        exact ⟨sn, hb, fun W' b => Seen.below (.inr ⟨_, _, rfl, tells_do hb.b hb.o (idsK_ok kn (by omega)) (by have := idsK_len kn k; omega)⟩) b⟩
      clear HI2
      have BR : Hid (Below W.heap.size W wr ∧ Below w.heap.size w wr) := by
        obtain ⟨sn, hb, _⟩ := SEEN.out
        exact ⟨hb.bel, HRA.out.2.1.trans (hb.bel.mono HRA.out.2.1.size)⟩
      have CA : Hid (Calls Tryd.prog 8 #[.slice pa pn pc, .int .i64 x.pl] wr fun e w' => e = .returned p.v ∧ ∃ pb w1 w2, (Instr.alloc 34 true (.tuple #[])).run Tryd.prog w' = .ok (.pointer (some ⟨pb, 0, none⟩)) w1 ∧ (Instr.storeAt 34 (.pointer (some ⟨pb, 0, none⟩)) p.v).run Tryd.prog w1 = .ok () w2 ∧ (Below wr.heap.size wr w2 ∧ Np pb p w2)) := by
        refine (HAT.out wr BR.out.2).mono ?_
        rintro e w' ⟨rfl, b⟩
        obtain ⟨w1, w2, e1, e2, n2, b2⟩ := pl_new w' hp
        exact ⟨rfl, w'.heap.size, w1, w2, e1, e2, b.trans (b2.mono b.size), n2⟩
      go_upto_region 8 with fail
      refine do8 (g := g) (o := o) (n := n) (c := c) (i := k) (pn := pn) (pc := pc) (pa := pa) (p := p) (x := x) (fun pb w' => Below wr.heap.size wr w' ∧ Np pb p w') _ wr _ rfl rfl rfl rfl hi h63 (fun W' e => by rw [e]; exact say_pl (HX.out wr BR.out.2)) CA.out ?_
      intro pb a' w3 hf ha
      subst ha
      simp only [Act.put, List.setIfInBounds_toArray, List.set_cons_zero, List.set_cons_succ]
      have H3 : Hid (Below W.heap.size W w3 ∧ Below w.heap.size w w3 ∧ Np pb p w3 ∧ Seen w3 (.func (.func 20) #[] #[.pointer (some ⟨ib, 0, none⟩)]) (fun id => decide (id ∈ idsK kn k))) := by
        obtain ⟨sn, hb, hsn⟩ := SEEN.out
        exact ⟨BR.out.1.trans (hf.1.mono BR.out.1.size), BR.out.2.trans (hf.1.mono BR.out.2.size), hf.2, hsn w3 hf.1⟩
      -- what an op leaves
      have FIN : Hid (∀ W4, Below w3.heap.size w3 W4 → ∀ L2, L2 = L' → ∀ e w', OpE W4 B s H p L2 e w' → ∃ bk, e = .returned (.pointer (some ⟨bk, 0, none⟩)) ∧ (Below w.heap.size w w' ∧ Np pb p w') ∧ ∃ (rc : Rec) (s' : Rs), rc.bk = bk ∧ OpN W B s H p L' rc s' w') := by
        rintro W4 b4 L2 rfl e w' ⟨rc, s', rfl, o⟩
        have b34 := H3.out.1.trans (b4.mono H3.out.1.size)
        have o2 := o.from b34
        have ra := HRA.out.1
        have bw : Below w.heap.size w w' := HRA.out.2.1.trans (o2.tch.below HRA.out.2.1.size (fun j hj => Nat.le_trans HRA.out.2.2.1 (ra.mem.geAll hj)))
        have np4 := H3.out.2.2.1.below b4
        have np' : Np pb p w' := (o.tch.block _ (Array.getElem?_eq_some_iff.1 np4).1 ((ra.mem.below b34).other np4 (by decide) (by decide))).trans np4
        exact ⟨_, rfl, ⟨bw, np'⟩, rc, s', rfl, o2⟩
      clear hf CA SEEN BR
      go_upto_region 9 with fail
      refine do9 (g := g) (o := o) (n := n) (c := c) (i := k) (x := x) _ w3 _ rfl rfl rfl hi h63 (fun W' e => by rw [e]; exact say_kind (HX.out w3 H3.out.2.1)) ?_
      intro a' w4 hf ha
      subst ha
      obtain rfl : w3 = w4 := hf.symm
      simp only [Act.put, List.setIfInBounds_toArray, List.set_cons_zero, List.set_cons_succ]
      have bd : Below w3.heap.size w3 w3.drew := (Below.refl w3.heap.size w3).drew
      by_cases h1 : x.kind = 1
      · have HK := hidMk h1
        rw [h1]
        have CD : Hid (Calls Tryd.prog 22 #[.pointer (some ⟨sr, 0, none⟩), p.v, .func (.func 20) #[] #[.pointer (some ⟨ib, 0, none⟩)]] w3 fun e w' => ∃ bk, e = .returned (.pointer (some ⟨bk, 0, none⟩)) ∧ ∃ (rc : Rec) (s' : Rs), rc.bk = bk ∧ OpN W B s H p L' rc s' w') := by
          rw [← HSR.out]
          refine (delete_any (HRA.out.1.below H3.out.1) (Nat.le_trans HRA.out.2.2.2.1 H3.out.1.size) hp H3.out.2.2.2 (by have := HRA.out.2.2.2.2.2; omega)).mono ?_
          intro e w' ho
          obtain ⟨bk, e1, _, e2⟩ := FIN.out w3 (Below.refl _ _) _ (HOP.out.1 HK.out) e w' ho
          exact ⟨bk, e1, e2⟩
        have LP := hidMk (ld_pl hp (rng_cells H3.out.2.2.1))
        clear h1
        go_upto_region 11 with fail
        refine do11 (fv := .func (.func 20) #[] #[.pointer (some ⟨ib, 0, none⟩)]) (rb := sr) (pb := pb) (p := p) (fun bk w' => ∃ (rc : Rec) (s' : Rs), rc.bk = bk ∧ OpN W B s H p L' rc s' w') _ w3 _ rfl rfl rfl rfl (fun W' e => by rw [e]; exact LP.out) CD.out ?_
        intro bk a' w5 hf ha
        subst ha
        simp only [Act.put, List.setIfInBounds_toArray, List.set_cons_zero, List.set_cons_succ]
        have HF := hidMk hf
        clear hf CD
        go_wp2
        go_ret
        obtain ⟨rc, s', e, o⟩ := HF.out
        subst e
        exact ⟨rc, s', rfl, o⟩
      · have e1 : (x.kind == 1) = false := by simpa using h1
        by_cases h2 : x.kind = 2
        · have HK := hidMk h2
          rw [h2]
          have CD : Hid (Calls Tryd.prog 16 #[.pointer (some ⟨sr, 0, none⟩), p.v, .int .i64 x.n, .func (.func 20) #[] #[.pointer (some ⟨ib, 0, none⟩)]] w3.drew fun e w' => ∃ bk, e = .returned (.pointer (some ⟨bk, 0, none⟩)) ∧ (Below w.heap.size w w' ∧ Np pb p w') ∧ ∃ (rc : Rec) (s' : Rs), rc.bk = bk ∧ OpN W B s H p L' rc s' w') := by
            rw [← HSR.out]
            refine (add_any ((HRA.out.1.below H3.out.1).below bd) (Nat.le_trans HRA.out.2.2.2.1 H3.out.1.size) hp HRA.out.2.2.2.2.1.n (H3.out.2.2.2.below bd) (by have := HRA.out.2.2.2.2.2; omega)).mono ?_
            intro e w' ho
            exact FIN.out w3.drew bd _ (HOP.out.2.1 HK.out) e w' ho
          clear h1 h2 e1
          go_upto_region 13 with fail
          refine do13 (fv := .func (.func 20) #[] #[.pointer (some ⟨ib, 0, none⟩)]) (rb := sr) (pb := pb) (g := g) (o := o) (n := n) (c := c) (i := k) (p := p) (x := x) (fun W' => Below w.heap.size w W' ∧ Np pb p W') (fun bk w' => ∃ (rc : Rec) (s' : Rs), rc.bk = bk ∧ OpN W B s H p L' rc s' w') _ w3 _ rfl rfl rfl rfl rfl rfl hi h63 ⟨H3.out.2.1.drew, H3.out.2.2.1.below bd⟩ (fun W' h => ld_pl hp (rng_cells h.2)) (fun W' h => say_n (HX.out W' h.1)) CD.out ?_
          intro bk a' w5 hf ha
          subst ha
          simp only [Act.put, List.setIfInBounds_toArray, List.set_cons_zero, List.set_cons_succ]
          have HF := hidMk hf
          clear hf CD bd
          go_wp2
          go_ret
          obtain ⟨rc, s', e, o⟩ := HF.out
          subst e
          exact ⟨rc, s', rfl, o⟩
        · have e2 : (x.kind == 2) = false := by simpa using h2
          have HK := hidMk (And.intro h1 h2)
          have CD : Hid (Calls Tryd.prog 19 #[.int .i64 (k : Int)] w3.drew fun e w1 => e = .returned (nmI k).v ∧ (Below w.heap.size w w1 ∧ Np pb p w1) ∧ Calls Tryd.prog 15 #[.pointer (some ⟨sr, 0, none⟩), p.v, (nmI k).v, x.v.v, .func (.func 20) #[] #[.pointer (some ⟨ib, 0, none⟩)]] w1 fun e w' => ∃ bk, e = .returned (.pointer (some ⟨bk, 0, none⟩)) ∧ (Below w.heap.size w w' ∧ Np pb p w') ∧ ∃ (rc : Rec) (s' : Rs), rc.bk = bk ∧ OpN W B s H p L' rc s' w') := by
            rw [← HSR.out]
            refine (name_any w3.drew (i := k) (by omega)).mono ?_
            rintro e w1 ⟨rfl, b1⟩
            have b31 := bd.trans (b1.mono bd.size)
            refine ⟨rfl, ⟨H3.out.2.1.trans (b31.mono H3.out.2.1.size), H3.out.2.2.1.below b31⟩, ?_⟩
            refine (put_any ((HRA.out.1.below H3.out.1).below b31) (Nat.le_trans HRA.out.2.2.2.1 (Nat.le_trans H3.out.1.size b31.size)) hp (nmI_ok (i := k) (by omega)) HRA.out.2.2.2.2.1.v (H3.out.2.2.2.below b31) (by have := HRA.out.2.2.2.2.2; omega)).mono ?_
            intro e w' ho
            exact FIN.out w1 b31 _ (HOP.out.2.2 HK.out.1 HK.out.2) e w' ho
          clear h1 h2
          generalize x.kind = z at e1 e2 ⊢
          go_upto_region 14 with fail
          refine do14 (fv := .func (.func 20) #[] #[.pointer (some ⟨ib, 0, none⟩)]) (rb := sr) (pb := pb) (g := g) (o := o) (n := n) (c := c) (i := k) (p := p) (x := x) (y := nmI k) (fun W' => Below w.heap.size w W' ∧ Np pb p W') (fun bk w' => ∃ (rc : Rec) (s' : Rs), rc.bk = bk ∧ OpN W B s H p L' rc s' w') _ w3 _ rfl rfl rfl rfl rfl rfl hi h63 ⟨H3.out.2.1.drew, H3.out.2.2.1.below bd⟩ (fun W' h => ld_pl hp (rng_cells h.2)) (fun W' h => say_va (HX.out W' h.1)) CD.out ?_
          intro bk a' w5 hf ha
          subst ha
          simp only [Act.put, List.setIfInBounds_toArray, List.set_cons_zero, List.set_cons_succ]
          have HF := hidMk hf
          clear hf CD bd
          go_wp2
          go_ret
          obtain ⟨rc, s', e, o⟩ := HF.out
          subst e
          exact ⟨rc, s', rfl, o⟩
end Go.Proofs.YtldlljobofnmmabDoor

namespace Go.Proofs.YtldlljobofnmmabDoor
open Go.RowKit
set_option linter.unusedVariables false
set_option linter.unusedSimpArgs false

def sme6_o0 : Oper := { dst := some 17, op := Op.move (Operand.tmp 0), type := 44, pos := "mem.go:127", after := #[], guard := none }
def sme6_o1 : Oper := { dst := some 18, op := Op.move (Operand.tmp 5), type := 3, pos := "mem.go:127", after := #[], guard := none }
def sme6_o2 : Oper := { dst := some 19, op := Op.indexAddr 44 (Operand.tmp 17) (Operand.tmp 18), type := 0, pos := "mem.go:127", after := #[{ on := 0, ground := Ground.data }, { on := 1, ground := Ground.data }], guard := none }
def sme6_o3 : Oper := { dst := some 20, op := Op.fieldAddr 65 (Operand.tmp 19) 0, type := 0, pos := "mem.go:127", after := #[{ on := 2, ground := Ground.data }], guard := none }
def sme6_o4 : Oper := { dst := some 21, op := Op.load 32 (Operand.tmp 20), type := 32, pos := "mem.go:127", after := #[{ on := 3, ground := Ground.data }], guard := none }
def sme6_o5 : Oper := { dst := some 22, op := Op.move (Operand.tmp 1), type := 44, pos := "mem.go:127", after := #[], guard := none }
def sme6_o6 : Oper := { dst := some 23, op := Op.move (Operand.tmp 5), type := 3, pos := "mem.go:127", after := #[], guard := none }
def sme6_o7 : Oper := { dst := some 24, op := Op.indexAddr 44 (Operand.tmp 22) (Operand.tmp 23), type := 0, pos := "mem.go:127", after := #[{ on := 5, ground := Ground.data }, { on := 6, ground := Ground.data }], guard := none }
def sme6_o8 : Oper := { dst := some 25, op := Op.fieldAddr 65 (Operand.tmp 24) 0, type := 0, pos := "mem.go:127", after := #[{ on := 7, ground := Ground.data }], guard := none }
def sme6_o9 : Oper := { dst := some 26, op := Op.load 32 (Operand.tmp 25), type := 32, pos := "mem.go:127", after := #[{ on := 8, ground := Ground.data }], guard := none }
def sme6_o10 : Oper := { dst := some 27, op := Op.binOp BinOp.neq 32 (Operand.tmp 21) (Operand.tmp 26) 32, type := 4, pos := "mem.go:127", after := #[{ on := 4, ground := Ground.data }, { on := 9, ground := Ground.data }], guard := none }
def sme6_o11 : Oper := { dst := some 28, op := Op.move (Operand.tmp 27), type := 4, pos := "mem.go:127", after := #[{ on := 10, ground := Ground.data }], guard := none }
def sme6_o12 : Oper := { dst := some 29, op := Op.move (Operand.tmp 0), type := 44, pos := "mem.go:127", after := #[{ on := 11, ground := Ground.guard }], guard := some (11, false) }
def sme6_o13 : Oper := { dst := some 30, op := Op.move (Operand.tmp 5), type := 3, pos := "mem.go:127", after := #[{ on := 11, ground := Ground.guard }], guard := some (11, false) }
def sme6_o14 : Oper := { dst := some 31, op := Op.indexAddr 44 (Operand.tmp 29) (Operand.tmp 30), type := 0, pos := "mem.go:127", after := #[{ on := 12, ground := Ground.data }, { on := 13, ground := Ground.data }, { on := 11, ground := Ground.guard }], guard := some (11, false) }
def sme6_o15 : Oper := { dst := some 32, op := Op.fieldAddr 65 (Operand.tmp 31) 1, type := 0, pos := "mem.go:127", after := #[{ on := 14, ground := Ground.data }, { on := 11, ground := Ground.guard }], guard := some (11, false) }
def sme6_o16 : Oper := { dst := some 33, op := Op.load 39 (Operand.tmp 32), type := 39, pos := "mem.go:127", after := #[{ on := 15, ground := Ground.data }, { on := 11, ground := Ground.guard }], guard := some (11, false) }
def sme6_o17 : Oper := { dst := some 34, op := Op.move (Operand.tmp 1), type := 44, pos := "mem.go:127", after := #[{ on := 11, ground := Ground.guard }], guard := some (11, false) }
def sme6_o18 : Oper := { dst := some 35, op := Op.move (Operand.tmp 5), type := 3, pos := "mem.go:127", after := #[{ on := 11, ground := Ground.guard }], guard := some (11, false) }
def sme6_o19 : Oper := { dst := some 36, op := Op.indexAddr 44 (Operand.tmp 34) (Operand.tmp 35), type := 0, pos := "mem.go:127", after := #[{ on := 17, ground := Ground.data }, { on := 18, ground := Ground.data }, { on := 11, ground := Ground.guard }], guard := some (11, false) }
def sme6_o20 : Oper := { dst := some 37, op := Op.fieldAddr 65 (Operand.tmp 36) 1, type := 0, pos := "mem.go:127", after := #[{ on := 19, ground := Ground.data }, { on := 11, ground := Ground.guard }], guard := some (11, false) }
def sme6_o21 : Oper := { dst := some 38, op := Op.load 39 (Operand.tmp 37), type := 39, pos := "mem.go:127", after := #[{ on := 20, ground := Ground.data }, { on := 11, ground := Ground.guard }], guard := some (11, false) }
def sme6_o22 : Oper := { dst := some 39, op := Op.call { callee := Callee.value (Operand.func 23), args := #[Operand.tmp 33, Operand.tmp 38], argTypes := #[39, 39] }, type := 4, pos := "mem.go:127", after := #[{ on := 16, ground := Ground.data }, { on := 21, ground := Ground.data }, { on := 11, ground := Ground.chain }, { on := 11, ground := Ground.guard }], guard := some (11, false) }
def sme6_o23 : Oper := { dst := some 40, op := Op.unOp UnOp.not 4 (Operand.tmp 39), type := 4, pos := "mem.go:127", after := #[{ on := 22, ground := Ground.data }, { on := 11, ground := Ground.guard }], guard := some (11, false) }
def sme6_o24 : Oper := { dst := some 41, op := Op.pick (Operand.tmp 28) (Operand.const (Value.bool true)) (Operand.tmp 40), type := 4, pos := "mem.go:127", after := #[{ on := 11, ground := Ground.data }, { on := 23, ground := Ground.data }], guard := none }
def sme6_ops : Array Oper := #[sme6_o0, sme6_o1, sme6_o2, sme6_o3, sme6_o4, sme6_o5, sme6_o6, sme6_o7, sme6_o8, sme6_o9, sme6_o10, sme6_o11, sme6_o12, sme6_o13, sme6_o14, sme6_o15, sme6_o16, sme6_o17, sme6_o18, sme6_o19, sme6_o20, sme6_o21, sme6_o22, sme6_o23, sme6_o24]
set_option maxRecDepth 100000 in
set_option maxHeartbeats 4000000 in
theorem sme6 {g o n c k q d i : Nat} {x : EnV} (S : World → Prop) (a : Act) (w : World) (Q : Exit → Act → World → Prop) (zz : a.tmps.size = 42)
    (t0 : a.tmps.getD 0 undef = .slice (some ⟨g, o, none⟩) n c)
    (t1 : a.tmps.getD 1 undef = .slice (some ⟨k, q, none⟩) n d)
    (t5 : a.tmps.getD 5 undef = .int .i64 (i : Int))
    (hx : x.ok) (hi : i < n) (hm : n ≤ 9223372036854775807) (h0 : S w.drew) (L1 : ∀ W, S W → (Instr.loadAt 32 (.pointer (some ⟨g, o + 37 * i + 0, none⟩))).run Tryd.prog W = .ok (x.id.v) W) (L2 : ∀ W, S W → (Instr.loadAt 32 (.pointer (some ⟨k, q + 37 * i + 0, none⟩))).run Tryd.prog W = .ok (x.id.v) W) (L3 : ∀ W, S W → (Instr.loadAt 39 (.pointer (some ⟨g, o + 37 * i + 33, none⟩))).run Tryd.prog W = .ok (x.v.v) W) (L4 : ∀ W, S W → (Instr.loadAt 39 (.pointer (some ⟨k, q + 37 * i + 33, none⟩))).run Tryd.prog W = .ok (x.v.v) W) (CS : Calls Tryd.prog 23 #[x.v.v, x.v.v] w.drew fun e w' => e = .returned (.bool true) ∧ S w')
    (h : ∀ (a' : Act) (w' : World), S w' → a' = (((((((((((((((((((((((((a).put (some 17) (.slice (some ⟨g, o, none⟩) n c)).put (some 18) (.int .i64 (i : Int))).put (some 19) (.pointer (some ⟨g, o + 37 * i, none⟩))).put (some 20) (.pointer (some ⟨g, o + 37 * i + 0, none⟩))).put (some 21) (x.id.v)).put (some 22) (.slice (some ⟨k, q, none⟩) n d)).put (some 23) (.int .i64 (i : Int))).put (some 24) (.pointer (some ⟨k, q + 37 * i, none⟩))).put (some 25) (.pointer (some ⟨k, q + 37 * i + 0, none⟩))).put (some 26) (x.id.v)).put (some 27) (.bool false)).put (some 28) (.bool false)).put (some 29) (.slice (some ⟨g, o, none⟩) n c)).put (some 30) (.int .i64 (i : Int))).put (some 31) (.pointer (some ⟨g, o + 37 * i, none⟩))).put (some 32) (.pointer (some ⟨g, o + 37 * i + 33, none⟩))).put (some 33) (x.v.v)).put (some 34) (.slice (some ⟨k, q, none⟩) n d)).put (some 35) (.int .i64 (i : Int))).put (some 36) (.pointer (some ⟨k, q + 37 * i, none⟩))).put (some 37) (.pointer (some ⟨k, q + 37 * i + 33, none⟩))).put (some 38) (x.v.v)).put (some 39) (.bool true)).put (some 40) (.bool false)).put (some 41) (.bool false) → Q .normal a' w') :
    (Code.region 6 sme6_ops true).wp Tryd.prog Q a w := by
  refine y0 (fun w' => S w') (h0) (fun hHeld => ?_)
  refine yv 0 rfl rfl (fun w1 hw => exec_move rfl (zi t0 rfl)) hHeld ?_
  refine yv 1 rfl rfl (fun w1 hw => exec_move rfl (zi t5 rfl)) hHeld ?_
  refine yv 2 rfl rfl (fun w1 hw => exec_indexAt rfl (zg zz rfl) (zg zz rfl) (ix_en hi hm _)) hHeld ?_
  refine yv 3 rfl rfl (fun w1 hw => exec_fieldAt rfl (zg zz rfl) (fg_65_0 _ _ _)) hHeld ?_
  refine yv 4 rfl rfl (fun w1 hw => exec_load rfl (zg zz rfl) (L1 _ hw)) hHeld ?_
  refine yv 5 rfl rfl (fun w1 hw => exec_move rfl (zi t1 rfl)) hHeld ?_
  refine yv 6 rfl rfl (fun w1 hw => exec_move rfl (zi t5 rfl)) hHeld ?_
  refine yv 7 rfl rfl (fun w1 hw => exec_indexAt rfl (zg zz rfl) (zg zz rfl) (ix_en hi hm _)) hHeld ?_
  refine yv 8 rfl rfl (fun w1 hw => exec_fieldAt rfl (zg zz rfl) (fg_65_0 _ _ _)) hHeld ?_
  refine yv 9 rfl rfl (fun w1 hw => exec_load rfl (zg zz rfl) (L2 _ hw)) hHeld ?_
  refine yv (v := .bool false) 10 rfl rfl (fun w1 hw => ex_neqX hx.i rfl (zg zz rfl) (zg zz rfl)) hHeld ?_
  refine yv 11 rfl rfl (fun w1 hw => exec_move rfl (zg zz rfl)) hHeld ?_
  refine yv 12 rfl (zw zz rfl rfl rfl (zg zz rfl)) (fun w1 hw => exec_move rfl (zi t0 rfl)) hHeld ?_
  refine yv 13 rfl (zw zz rfl rfl rfl (zg zz rfl)) (fun w1 hw => exec_move rfl (zi t5 rfl)) hHeld ?_
  refine yv 14 rfl (zw zz rfl rfl rfl (zg zz rfl)) (fun w1 hw => exec_indexAt rfl (zg zz rfl) (zg zz rfl) (ix_en hi hm _)) hHeld ?_
  refine yv 15 rfl (zw zz rfl rfl rfl (zg zz rfl)) (fun w1 hw => exec_fieldAt rfl (zg zz rfl) (fg_65_1 _ _ _)) hHeld ?_
  refine yv 16 rfl (zw zz rfl rfl rfl (zg zz rfl)) (fun w1 hw => exec_load rfl (zg zz rfl) (L3 _ hw)) hHeld ?_
  refine yv 17 rfl (zw zz rfl rfl rfl (zg zz rfl)) (fun w1 hw => exec_move rfl (zi t1 rfl)) hHeld ?_
  refine yv 18 rfl (zw zz rfl rfl rfl (zg zz rfl)) (fun w1 hw => exec_move rfl (zi t5 rfl)) hHeld ?_
  refine yv 19 rfl (zw zz rfl rfl rfl (zg zz rfl)) (fun w1 hw => exec_indexAt rfl (zg zz rfl) (zg zz rfl) (ix_en hi hm _)) hHeld ?_
  refine yv 20 rfl (zw zz rfl rfl rfl (zg zz rfl)) (fun w1 hw => exec_fieldAt rfl (zg zz rfl) (fg_65_1 _ _ _)) hHeld ?_
  refine yv 21 rfl (zw zz rfl rfl rfl (zg zz rfl)) (fun w1 hw => exec_load rfl (zg zz rfl) (L4 _ hw)) hHeld ?_
  refine yc 22 rfl (zw zz rfl rfl rfl (zg zz rfl)) (exec_c2 rfl (zg zz rfl) (zg zz rfl)) (CS) (fun e x22 hx => ?_)
  obtain ⟨rfl, S1⟩ := hx
  refine ⟨_, rfl, S1, fun hHeld => ?_⟩
  refine yv 23 rfl (zw zz rfl rfl rfl (zg zz rfl)) (fun w1 hw => exec_not rfl (zg zz rfl)) hHeld ?_
  refine yv 24 rfl rfl (fun w1 hw => exec_pickF rfl (zg zz rfl) (zg zz rfl)) hHeld ?_
  exact ye rfl (h _ _ (S1) rfl)
end Go.Proofs.YtldlljobofnmmabDoor

namespace Go.Proofs.YtldlljobofnmmabDoor
open Go.RowKit
set_option linter.unusedVariables false
set_option linter.unusedSimpArgs false

set_option maxRecDepth 100000 in
set_option maxHeartbeats 4000000 in
/-- Two lists of the same entries. -/
theorem same_entries {w : World} {L : List EnV} (ok : ∀ x ∈ L, x.ok) (hn : L.length ≤ 2500000000000) {a b : Option Addr} {c d : Nat} (ha : RN.At w a L) (hb : RN.At w b L) :
    Calls Tryd.prog 9 #[.slice a L.length c, .slice b L.length d] w fun e w' => e = .returned (.bool true) ∧ Below w.heap.size w w' := by
  obtain ⟨n, hnn⟩ : ∃ n, L.length = n := ⟨_, rfl⟩
  have HL := hidMk (And.intro ha (And.intro hb (And.intro ok hnn)))
  rw [hnn] at hn ⊢
  clear ha hb ok hnn
  have hne : ((n : Int) != (n : Int)) = false := by simp
  go_enter Tryd.func9, Tryd.ntmps9
  go_wp2
  clear hne
  go_loopw [5] (fun v5 wr => ∃ i : Nat, v5 = .int .i64 (i : Int) ∧ i ≤ n ∧ Hid (Below w.heap.size w wr)) (fun v5 wr => n - (match v5 with | .int _ i => i.toNat | _ => 0))
  case atStart => exact ⟨0, rfl, Nat.zero_le _, Below.refl _ _⟩
  case round =>
    obtain ⟨i, rfl, hin, HI⟩ := hrel
    by_cases hi : i < n
    · obtain ⟨ha, hb, ok, hnn⟩ := HL.out
      obtain ⟨x, hxi⟩ : ∃ x, L[i]? = some x := ⟨_, List.getElem?_eq_getElem (by omega)⟩
      have hx : x.ok := ok x (List.mem_of_getElem? hxi)
      obtain ⟨g, o, rfl, lg, hr⟩ : ∃ g o, a = some ⟨g, o, none⟩ ∧ g < w.heap.size ∧ w.rangeAt g (o + 37 * i) x.c := by
        rcases ha with h | ⟨g, o, e, h1, h2⟩
        · rw [h] at hxi; cases hxi
        · exact ⟨g, o, e, h1, h2 i x hxi⟩
      obtain ⟨k, q, rfl, lk, hr2⟩ : ∃ g o, b = some ⟨g, o, none⟩ ∧ g < w.heap.size ∧ w.rangeAt g (o + 37 * i) x.c := by
        rcases hb with h | ⟨g, o, e, h1, h2⟩
        · rw [h] at hxi; cases hxi
        · exact ⟨g, o, e, h1, h2 i x hxi⟩
      have R1 := hidMk (fun (W : World) (hw : Below w.heap.size w W) => rangeAt_keep hr (hw.block _ lg))
      have R2 := hidMk (fun (W : World) (hw : Below w.heap.size w W) => rangeAt_keep hr2 (hw.block _ lk))
      have bd : Below w.heap.size w wr.drew := HI.out.drew
      have CS : Hid (Calls Tryd.prog 23 #[x.v.v, x.v.v] wr.drew fun e w' => e = .returned (.bool true) ∧ Below w.heap.size w w') := (same_self hx.w _).mono fun e w' ⟨h1, h2⟩ => ⟨h1, bd.trans (h2.mono bd.size)⟩
      have h63 : n ≤ 9223372036854775807 := by omega
      clear hxi hr hr2 lg lk ha hb ok hnn HI
      go_upto_region 6 with fail
      refine sme6 (g := g) (o := o) (n := n) (c := c) (k := k) (q := q) (d := d) (i := i) (x := x) (fun W => Below w.heap.size w W) _ wr _ rfl rfl rfl rfl hx hi h63 bd (fun W h => en_id hx (R1.out W h)) (fun W h => en_id hx (R2.out W h)) (fun W h => en_va hx (R1.out W h)) (fun W h => en_va hx (R2.out W h)) CS.out ?_
      intro a' w2 hf ha
      subst ha
      simp only [Act.put, List.setIfInBounds_toArray, List.set_cons_zero, List.set_cons_succ]
      have HF := hidMk hf
      clear hf CS R1 R2 bd
      go_wp2
      rw [show ((i : Int) + 1) = ((i + 1 : Nat) : Int) by omega]
      refine ⟨⟨i + 1, rfl, hi, HF.out⟩, ?_⟩
      show n - ((i + 1 : Nat) : Int).toNat < n - (i : Int).toNat
      omega
    · obtain rfl : i = n := by omega
      go_wp2
      go_ret
      exact ⟨rfl, HI.out⟩
end Go.Proofs.YtldlljobofnmmabDoor

namespace Go.Proofs.YtldlljobofnmmabDoor
open Go.RowKit
set_option linter.unusedVariables false
set_option linter.unusedSimpArgs false

/-- The calls, without memory. -/
def syF (Ps : List PlK) (L : List SyR) (i : Nat) : Rv.Sy PlK VaV := match L[i]? with | some x => x.s Ps | none => ⟨zPl, 0, zVa, fun _ => false, id⟩
theorem syF_at {Ps : List PlK} {L : List SyR} {i : Nat} {x : SyR} (h : L[i]? = some x) : syF Ps L i = x.s Ps := by unfold syF; rw [h]
/-- A Regs behind the first calls. -/
structure VS (w : World) (B ro : Nat) (Ps : List PlK) (L : List SyR) (i : Nat) (s : Rs) (H : List Rec) (W : World) : Prop where
  ra : RgAt W B s H
  r : s.r = ro
  bel : Below w.heap.size w W
  li : ∀ q, liOf s.P q = (Rv.ls nmI (syF Ps L) q i).map enP
  lo : w.heap.size ≤ B
  hi : B ≤ W.heap.size
section
variable {w W W' : World} {B ro i : Nat} {Ps : List PlK} {L : List SyR} {s : Rs} {H : List Rec}
theorem VS.below (h : VS w B ro Ps L i s H W) (b : Below W.heap.size W W') : VS w B ro Ps L i s H W' := ⟨h.ra.below b, h.r, h.bel.trans (b.mono h.bel.size), h.li, h.lo, Nat.le_trans h.hi b.size⟩
theorem VS.len (h : VS w B ro Ps L i s H W) (q : PlK) : (liOf s.P q).length ≤ i := by
  rw [h.li, List.length_map]
  exact Rv.ls_len _ _ _ _
theorem VS.do (h : VS w B ro Ps L i s H W) {pa : Option Addr} {pc : Nat} {a : Option Addr} {c : Nat} (li : LwI w pa Ps a L) (hi : i < L.length) :
    Calls Tryd.prog 7 #[.pointer (some ⟨ro, 0, none⟩), .slice pa Ps.length pc, .slice a L.length c, .int .i64 (i : Int)] W fun e w' => ∃ bk, e = .returned (.pointer (some ⟨bk, 0, none⟩)) ∧ ∃ s' H', VS w B ro Ps L (i + 1) s' H' w' := by
  obtain ⟨x, hx⟩ : ∃ x, L[i]? = some x := ⟨_, List.getElem?_eq_getElem hi⟩
  have hn := li.hLn
  have hl := Rv.ls_len nmI (syF Ps L) (atP Ps x.pl) i
  have c := do_any h.ra h.bel h.lo h.hi (pc := pc) (c := c) li hx (h.li _) (by omega)
  rw [h.r] at c
  refine c.mono ?_
  rintro e w' ⟨rc, s', rfl, o⟩
  have bw : Below w.heap.size w w' := h.bel.trans (o.tch.below h.bel.size (fun j hj => Nat.le_trans h.lo (h.ra.mem.geAll hj)))
  refine ⟨_, rfl, s', _, ⟨o.at', o.r.trans h.r, bw, fun q => ?_, h.lo, Nat.le_trans h.hi o.tch.size⟩⟩
  rw [o.li]
  have es := syF_at (Ps := Ps) hx
  have ep : (syF Ps L i).pl = atP Ps x.pl := by rw [es]; rfl
  by_cases e : q = atP Ps x.pl
  · rw [if_pos e, Rv.ls_here nmI_inj _ q i (by rw [ep, e]), es, e]
  · rw [if_neg e, h.li, Rv.ls_there _ _ q i (by rw [ep]; exact fun e2 => e e2.symm)]
end
theorem enP_ok {Ps : List PlK} {L : List SyR} {w : World} (okL : ∀ x ∈ L, x.ok w) (hn : L.length ≤ 2000000000000) (p : PlK) {i : Nat} (hi : i < L.length) (k : Nat) : (enP (nmI i, (Rv.tr (syF Ps L) p i k).1)).ok := by
  have base : ((syF Ps L) i).v.ok := by
    obtain ⟨x, hx⟩ : ∃ x, L[i]? = some x := ⟨_, List.getElem?_eq_getElem hi⟩
    rw [syF_at hx]
    exact (okL x (List.mem_of_getElem? hx)).v
  have su : ∀ m v, v.ok → (((syF Ps L) m).su v).ok := fun m v hv => by
    unfold syF
    cases L[m]? with
    | none => exact hv
    | some x => exact sumV_ok hv
  refine ⟨nmI_ok (by omega), ?_⟩
  show ((Rv.tr (syF Ps L) p i k).1).ok
  induction k with
  | zero => exact base
  | succ m ih =>
    unfold Rv.tr
    split
    · exact base
    · split
      · split
        · exact su _ _ ih
        · exact ih
      · exact ih
/-- The law's own list while it grows, beside an entry's box. -/
structure WJ (W0 : World) (v9 : Value) (M : List (IdK × VaV)) (W : World) : Prop where
  bel : Below W0.heap.size W0 W
  own : RN.Own W W0.heap.size v9 (M.map enP)
theorem WJ.below {W0 W W' : World} {v9 : Value} {M : List (IdK × VaV)} (h : WJ W0 v9 M W) (b : Below W.heap.size W W') : WJ W0 v9 M W' := ⟨h.bel.trans (b.mono h.bel.size), h.own.below b⟩
structure WE (W0 : World) (v9 : Value) (M : List (IdK × VaV)) (eb : Nat) (x : EnV) (W : World) : Prop where
  j : WJ W0 v9 M W
  bx : RN.Bx W eb x
  lo : W0.heap.size ≤ eb
  ne : v9.ownBlock ≠ some eb
theorem WE.below {W0 W W' : World} {v9 : Value} {M : List (IdK × VaV)} {eb : Nat} {x : EnV} (h : WE W0 v9 M eb x W) (b : Below W.heap.size W W') : WE W0 v9 M eb x W' := ⟨h.j.below b, h.bx.below b, h.lo, h.ne⟩
/-- The entry's number is changed. -/
theorem WE.addn {W0 W : World} {v9 : Value} {M : List (IdK × VaV)} {eb : Nat} {x : EnV} (h : WE W0 v9 M eb x W) (hx : x.id.ok) (z : Int) : ∃ W', (Instr.storeAt 2 (.pointer (some ⟨eb, 0 + 33 + 1, none⟩)) (.int .i64 z)).run Tryd.prog W = .ok () W' ∧ WE W0 v9 M eb { x with v := { x.v with n := z } } W' := by
  have hb : W.heap[eb]? = some (.cells x.c.toArray 65 (0, 0)) := h.bx
  have hl := IdK.len hx
  have c0 : W.cell? ⟨eb, 34, none⟩ = some (.int .i64 x.v.n) := by
    rw [cell_of_row W eb 34 _ _ _ hb]
    have : x.c[34]? = some (.int .i64 x.v.n) := by
      show (x.id.c ++ x.v.c)[34]? = _
      rw [List.getElem?_append_right (by rw [hl]; omega), hl]
      rfl
    simpa using this
  have f0 := frozen_of_row W eb 34 _ _ hb
  have t : Tch (fun j => j = eb) W (W.setCell ⟨eb, 34, none⟩ (.int .i64 z)) := ⟨rfl, rfl, rfl, by simp [World.setCell], fun j _ hj => Go.heap_setCell_other _ _ _ _ hj⟩
  refine ⟨W.setCell ⟨eb, 34, none⟩ (.int .i64 z), by go_simp, ⟨h.j.bel.trans (t.below h.j.bel.size (fun j e => by rw [e]; exact h.lo)), h.j.own.keep (fun k hk => t.block k (h.j.own.lt hk) (fun e => h.ne (by rw [← e]; exact hk)))⟩, ?_, h.lo, h.ne⟩
  have hs := Go.heap_setCell_same W eb 34 _ 65 (.int .i64 z) hb
  show (W.setCell ⟨eb, 34, none⟩ (.int .i64 z)).heap[eb]? = _
  rw [hs]
  congr 2
  show (x.id.c ++ x.v.c).toArray.setIfInBounds 34 (.int .i64 z) = _
  rw [List.setIfInBounds_toArray]
  congr 1
  show (x.id.c ++ x.v.c).set 34 _ = x.id.c ++ _
  rw [List.set_append_right _ _ (by rw [hl]; omega), hl]
  rfl
theorem bx_n {W : World} {eb : Nat} {x : EnV} (hb : RN.Bx W eb x) (hx : x.id.ok) : (Instr.loadAt 2 (.pointer (some ⟨eb, 0 + 33 + 1, none⟩))).run Tryd.prog W = .ok (.int .i64 x.v.n) W := by
  have hb' : W.heap[eb]? = some (.cells x.c.toArray 65 (0, 0)) := hb
  have hl := IdK.len hx
  have c0 : W.cell? ⟨eb, 34, none⟩ = some (.int .i64 x.v.n) := by
    rw [cell_of_row W eb 34 _ _ _ hb']
    have : x.c[34]? = some (.int .i64 x.v.n) := by
      show (x.id.c ++ x.v.c)[34]? = _
      rw [List.getElem?_append_right (by rw [hl]; omega), hl]
      rfl
    simpa using this
  go_simp
/-- The entry goes to the list. -/
theorem WE.push {W0 W : World} {v9 : Value} {M : List (IdK × VaV)} {eb : Nat} {q : IdK × VaV} (h : WE W0 v9 M eb (enP q) W) (hx : (enP q).ok) (hn : M.length + 1 ≤ 2500000000000) : ∃ sv w1 u w2, (Instr.buildSlice 44 1 #[(0, (enP q).a)]).run Tryd.prog W = .ok sv w1 ∧ (Builtin.append_ #[44, 44] 44 #[v9, sv]).run Tryd.prog w1 = .ok u w2 ∧ WJ W0 u (M ++ [q]) w2 ∧ ∃ s : SlV, u = s.v := by
  obtain ⟨sv, w1, u, w2, E1, E2, o2, b1, z1, g2, q2⟩ := RowT.run_push RN_is W W0.heap.size v9 (M.map enP) (enP q) h.j.own hx (by rw [List.length_map]; unfold maxLen; omega) (by rw [List.length_map]; show _ * 80 ≤ _; omega) h.j.bel.size
  obtain ⟨oa, oc, eo⟩ := o2.form
  have bel1 : Below W0.heap.size W0 w1 := h.j.bel.trans (b1.mono h.j.bel.size)
  refine ⟨sv, w1, u, w2, E1, E2, ⟨bel1.grown g2 bel1.size (fun k hk => (h.j.own.cells hk).1), ?_⟩, ⟨oa, _, oc⟩, eo⟩
  rw [List.map_append]
  exact o2
/-- A new box of an entry beside the list. -/
theorem WJ.box {W0 W : World} {v9 : Value} {M : List (IdK × VaV)} (h : WJ W0 v9 M W) : ∃ wa, (Instr.alloc 65 true (.tuple #[])).run Tryd.prog W = .ok (.pointer (some ⟨W.heap.size, 0, none⟩)) wa ∧ WJ W0 v9 M wa ∧ WE W0 v9 M W.heap.size zEn wa := by
  obtain ⟨wa, e, n, b⟩ := en_box W
  have hj := h.below b
  exact ⟨wa, e, hj, hj, n, h.bel.size, fun e2 => by have := h.own.lt e2; omega⟩
theorem WE.fill {W0 W : World} {v9 : Value} {M : List (IdK × VaV)} {eb : Nat} (h : WE W0 v9 M eb zEn W) {x : EnV} (hx : x.ok) : ∃ wb, (Instr.storeAt 65 (.pointer (some ⟨eb, 0, none⟩)) x.a).run Tryd.prog W = .ok () wb ∧ WJ W0 v9 M wb ∧ WE W0 v9 M eb x wb := by
  obtain ⟨wb, e, n, t⟩ := en_put zEn_ok hx h.bx
  have hj : WJ W0 v9 M wb := ⟨h.j.bel.trans (t.below h.j.bel.size (fun j e => by rw [e]; exact h.lo)), h.j.own.keep (fun k hk => t.block k (h.j.own.lt hk) (fun e => h.ne (by rw [← e]; exact hk)))⟩
  exact ⟨wb, e, hj, hj, n, h.lo, h.ne⟩
end Go.Proofs.YtldlljobofnmmabDoor

namespace Go.Proofs.YtldlljobofnmmabDoor
open Go.RowKit
set_option linter.unusedVariables false
set_option linter.unusedSimpArgs false

theorem ex_eqlPr {w : World} {a : Act} {o : Oper} {x y : Operand} {p q : PlK} {r : Bool} (hp : p.ok) (hq : q.ok) (hr : decide (p = q) = r) (ho : o.op = .binOp .eql 34 x y 34) (hx : a.eval x = p.v) (hy : a.eval y = q.v) : (execOp a.eval o).run Tryd.prog w = .ok (.value (.bool r)) w := by
  subst hr
  exact ex_eqlP hp hq ho hx hy
theorem ex_gt1 {w : World} {a : Act} {o : Oper} {x y : Operand} {n : Nat} (hn : n ≤ 1) (ho : o.op = .binOp .gtr 3 x y 3) (hx : a.eval x = .int .i64 (n : Int)) (hy : a.eval y = .int .i64 1) : (execOp a.eval o).run Tryd.prog w = .ok (.value (.bool false)) w := by
  have h2 : decide ((n : Int) > 1) = false := decide_eq_false (by omega)
  refine exec_binOp ho hx hy ?_ ?_
  · kernel_rfl
  · rw [← h2]
    go_simp
theorem ex_leqT {w : World} {a : Act} {o : Oper} {x y : Operand} {m n : Nat} (hn : m ≤ n) (ho : o.op = .binOp .leq 3 x y 3) (hx : a.eval x = .int .i64 (m : Int)) (hy : a.eval y = .int .i64 (n : Int)) : (execOp a.eval o).run Tryd.prog w = .ok (.value (.bool true)) w := by
  have h2 : decide ((m : Int) ≤ (n : Int)) = true := decide_eq_true (by omega)
  refine exec_binOp ho hx hy ?_ ?_
  · kernel_rfl
  · rw [← h2]
    go_simp
theorem ex_add1 {w : World} {a : Act} {o : Oper} {x y : Operand} {m : Nat} (hm : m ≤ 9000000000000) (ho : o.op = .binOp .add 3 x y 3) (hx : a.eval x = .int .i64 (m : Int)) (hy : a.eval y = .int .i64 1) : (execOp a.eval o).run Tryd.prog w = .ok (.value (.int .i64 ((m + 1 : Nat) : Int))) w := by
  refine exec_binOp ho hx hy ?_ ?_
  · kernel_rfl
  · have : IntKind.i64.wrap ((m : Int) + 1) = ((m + 1 : Nat) : Int) := by rw [IntKind.wrap_i64]; omega
    rw [← this]
    go_simp
def apt16_o0 : Oper := { dst := some 38, op := Op.move (Operand.tmp 0), type := 22, pos := "outright.go:121", after := #[], guard := none }
def apt16_o1 : Oper := { dst := some 39, op := Op.move (Operand.tmp 10), type := 3, pos := "outright.go:121", after := #[], guard := none }
def apt16_o2 : Oper := { dst := some 40, op := Op.indexAddr 22 (Operand.tmp 38) (Operand.tmp 39), type := 0, pos := "outright.go:121", after := #[{ on := 0, ground := Ground.data }, { on := 1, ground := Ground.data }], guard := none }
def apt16_o3 : Oper := { dst := some 41, op := Op.load 34 (Operand.tmp 40), type := 34, pos := "outright.go:121", after := #[{ on := 2, ground := Ground.data }], guard := none }
def apt16_o4 : Oper := { dst := some 42, op := Op.move (Operand.tmp 0), type := 22, pos := "outright.go:121", after := #[], guard := none }
def apt16_o5 : Oper := { dst := some 43, op := Op.move (Operand.tmp 8), type := 3, pos := "outright.go:121", after := #[], guard := none }
def apt16_o6 : Oper := { dst := some 44, op := Op.indexAddr 22 (Operand.tmp 42) (Operand.tmp 43), type := 0, pos := "outright.go:121", after := #[{ on := 4, ground := Ground.data }, { on := 5, ground := Ground.data }], guard := none }
def apt16_o7 : Oper := { dst := some 45, op := Op.load 34 (Operand.tmp 44), type := 34, pos := "outright.go:121", after := #[{ on := 6, ground := Ground.data }], guard := none }
def apt16_o8 : Oper := { dst := some 46, op := Op.binOp BinOp.eql 34 (Operand.tmp 41) (Operand.tmp 45) 34, type := 4, pos := "outright.go:121", after := #[{ on := 3, ground := Ground.data }, { on := 7, ground := Ground.data }], guard := none }
def apt16_ops : Array Oper := #[apt16_o0, apt16_o1, apt16_o2, apt16_o3, apt16_o4, apt16_o5, apt16_o6, apt16_o7, apt16_o8]
set_option maxRecDepth 100000 in
set_option maxHeartbeats 4000000 in
theorem apt16 {pg po pn pc m k : Nat} {p q : PlK} {r : Bool} (S : World → Prop) (a : Act) (w : World) (Q : Exit → Act → World → Prop) (zz : a.tmps.size = 106)
    (t0 : a.tmps.getD 0 undef = .slice (some ⟨pg, po, none⟩) pn pc)
    (t8 : a.tmps.getD 8 undef = .int .i64 (m : Int))
    (t10 : a.tmps.getD 10 undef = .int .i64 (k : Int))
    (hp : p.ok) (hq : q.ok) (hr : decide (q = p) = r) (hki : k < pn) (hmi : m < pn) (hpm : pn ≤ 9223372036854775807) (h0 : S w.drew) (LK : ∀ W, S W → (Instr.loadAt 34 (.pointer (some ⟨pg, po + k * 67, none⟩))).run Tryd.prog W = .ok (q.v) W) (LM : ∀ W, S W → (Instr.loadAt 34 (.pointer (some ⟨pg, po + m * 67, none⟩))).run Tryd.prog W = .ok (p.v) W)
    (h : ∀ (a' : Act) (w' : World), S w' → a' = (((((((((a).put (some 38) (.slice (some ⟨pg, po, none⟩) pn pc)).put (some 39) (.int .i64 (k : Int))).put (some 40) (.pointer (some ⟨pg, po + k * 67, none⟩))).put (some 41) (q.v)).put (some 42) (.slice (some ⟨pg, po, none⟩) pn pc)).put (some 43) (.int .i64 (m : Int))).put (some 44) (.pointer (some ⟨pg, po + m * 67, none⟩))).put (some 45) (p.v)).put (some 46) (.bool r) → Q .normal a' w') :
    (Code.region 16 apt16_ops true).wp Tryd.prog Q a w := by
  refine y0 (fun w' => S w') (h0) (fun hHeld => ?_)
  refine yv 0 rfl rfl (fun w1 hw => exec_move rfl (zi t0 rfl)) hHeld ?_
  refine yv 1 rfl rfl (fun w1 hw => exec_move rfl (zi t10 rfl)) hHeld ?_
  refine yv 2 rfl rfl (fun w1 hw => exec_indexAt rfl (zg zz rfl) (zg zz rfl) (ix_pl hki hpm _)) hHeld ?_
  refine yv 3 rfl rfl (fun w1 hw => exec_load rfl (zg zz rfl) (LK _ hw)) hHeld ?_
  refine yv 4 rfl rfl (fun w1 hw => exec_move rfl (zi t0 rfl)) hHeld ?_
  refine yv 5 rfl rfl (fun w1 hw => exec_move rfl (zi t8 rfl)) hHeld ?_
  refine yv 6 rfl rfl (fun w1 hw => exec_indexAt rfl (zg zz rfl) (zg zz rfl) (ix_pl hmi hpm _)) hHeld ?_
  refine yv 7 rfl rfl (fun w1 hw => exec_load rfl (zg zz rfl) (LM _ hw)) hHeld ?_
  refine yv (v := .bool r) 8 rfl rfl (fun w1 hw => ex_eqlPr hq hp hr rfl (zg zz rfl) (zg zz rfl)) hHeld ?_
  exact ye rfl (h _ _ (hHeld) rfl)
def apt22_o0 : Oper := { dst := some 54, op := Op.move (Operand.tmp 0), type := 22, pos := "outright.go:127", after := #[], guard := none }
def apt22_o1 : Oper := { dst := some 55, op := Op.move (Operand.tmp 1), type := 23, pos := "outright.go:127", after := #[], guard := none }
def apt22_o2 : Oper := { dst := some 56, op := Op.move (Operand.tmp 12), type := 3, pos := "outright.go:127", after := #[], guard := none }
def apt22_o3 : Oper := { dst := some 57, op := Op.indexAddr 23 (Operand.tmp 55) (Operand.tmp 56), type := 0, pos := "outright.go:127", after := #[{ on := 1, ground := Ground.data }, { on := 2, ground := Ground.data }], guard := none }
def apt22_o4 : Oper := { dst := some 58, op := Op.fieldAddr 42 (Operand.tmp 57) 1, type := 0, pos := "outright.go:127", after := #[{ on := 3, ground := Ground.data }], guard := none }
def apt22_o5 : Oper := { dst := some 59, op := Op.load 3 (Operand.tmp 58), type := 3, pos := "outright.go:127", after := #[{ on := 4, ground := Ground.data }], guard := none }
def apt22_o6 : Oper := { dst := some 60, op := Op.call { callee := Callee.value (Operand.func 8), args := #[Operand.tmp 54, Operand.tmp 59], argTypes := #[22, 3] }, type := 34, pos := "outright.go:127", after := #[{ on := 0, ground := Ground.data }, { on := 5, ground := Ground.data }], guard := none }
def apt22_o7 : Oper := { dst := some 61, op := Op.move (Operand.tmp 0), type := 22, pos := "outright.go:127", after := #[], guard := none }
def apt22_o8 : Oper := { dst := some 62, op := Op.move (Operand.tmp 8), type := 3, pos := "outright.go:127", after := #[], guard := none }
def apt22_o9 : Oper := { dst := some 63, op := Op.indexAddr 22 (Operand.tmp 61) (Operand.tmp 62), type := 0, pos := "outright.go:127", after := #[{ on := 7, ground := Ground.data }, { on := 8, ground := Ground.data }], guard := none }
def apt22_o10 : Oper := { dst := some 64, op := Op.load 34 (Operand.tmp 63), type := 34, pos := "outright.go:127", after := #[{ on := 9, ground := Ground.data }], guard := none }
def apt22_o11 : Oper := { dst := some 65, op := Op.binOp BinOp.eql 34 (Operand.tmp 60) (Operand.tmp 64) 34, type := 4, pos := "outright.go:127", after := #[{ on := 6, ground := Ground.data }, { on := 10, ground := Ground.data }], guard := none }
def apt22_ops : Array Oper := #[apt22_o0, apt22_o1, apt22_o2, apt22_o3, apt22_o4, apt22_o5, apt22_o6, apt22_o7, apt22_o8, apt22_o9, apt22_o10, apt22_o11]
set_option maxRecDepth 100000 in
set_option maxHeartbeats 4000000 in
theorem apt22 {pg po pn pc m g o n c i : Nat} {p q : PlK} {x : SyR} {r : Bool} (S : World → Prop) (a : Act) (w : World) (Q : Exit → Act → World → Prop) (zz : a.tmps.size = 106)
    (t0 : a.tmps.getD 0 undef = .slice (some ⟨pg, po, none⟩) pn pc)
    (t1 : a.tmps.getD 1 undef = .slice (some ⟨g, o, none⟩) n c)
    (t8 : a.tmps.getD 8 undef = .int .i64 (m : Int))
    (t12 : a.tmps.getD 12 undef = .int .i64 (i : Int))
    (hp : p.ok) (hq : q.ok) (hr : decide (q = p) = r) (hi : i < n) (hm : n ≤ 9223372036854775807) (hmi : m < pn) (hpm : pn ≤ 9223372036854775807) (h0 : S w.drew) (LQ : ∀ W, S W → (Instr.loadAt 3 (.pointer (some ⟨g, o + 8 * i + 1, none⟩))).run Tryd.prog W = .ok (.int .i64 x.pl) W) (LM : ∀ W, S W → (Instr.loadAt 34 (.pointer (some ⟨pg, po + m * 67, none⟩))).run Tryd.prog W = .ok (p.v) W) (CA : Calls Tryd.prog 8 #[.slice (some ⟨pg, po, none⟩) pn pc, .int .i64 x.pl] w.drew fun e w' => e = .returned q.v ∧ S w')
    (h : ∀ (a' : Act) (w' : World), S w' → a' = ((((((((((((a).put (some 54) (.slice (some ⟨pg, po, none⟩) pn pc)).put (some 55) (.slice (some ⟨g, o, none⟩) n c)).put (some 56) (.int .i64 (i : Int))).put (some 57) (.pointer (some ⟨g, o + 8 * i, none⟩))).put (some 58) (.pointer (some ⟨g, o + 8 * i + 1, none⟩))).put (some 59) (.int .i64 x.pl)).put (some 61) (.slice (some ⟨pg, po, none⟩) pn pc)).put (some 62) (.int .i64 (m : Int))).put (some 63) (.pointer (some ⟨pg, po + m * 67, none⟩))).put (some 64) (p.v)).put (some 60) (q.v)).put (some 65) (.bool r) → Q .normal a' w') :
    (Code.region 22 apt22_ops true).wp Tryd.prog Q a w := by
  refine y0 (fun w' => S w') (h0) (fun hHeld => ?_)
  refine yv 0 rfl rfl (fun w1 hw => exec_move rfl (zi t0 rfl)) hHeld ?_
  refine yv 1 rfl rfl (fun w1 hw => exec_move rfl (zi t1 rfl)) hHeld ?_
  refine yv 2 rfl rfl (fun w1 hw => exec_move rfl (zi t12 rfl)) hHeld ?_
  refine yv 3 rfl rfl (fun w1 hw => exec_indexAt rfl (zg zz rfl) (zg zz rfl) (ix_say hi hm _)) hHeld ?_
  refine yv 4 rfl rfl (fun w1 hw => exec_fieldAt rfl (zg zz rfl) (fg_42_1 _ _ _)) hHeld ?_
  refine yv 5 rfl rfl (fun w1 hw => exec_load rfl (zg zz rfl) (LQ _ hw)) hHeld ?_
  refine yv 7 rfl rfl (fun w1 hw => exec_move rfl (zi t0 rfl)) hHeld ?_
  refine yv 8 rfl rfl (fun w1 hw => exec_move rfl (zi t8 rfl)) hHeld ?_
  refine yv 9 rfl rfl (fun w1 hw => exec_indexAt rfl (zg zz rfl) (zg zz rfl) (ix_pl hmi hpm _)) hHeld ?_
  refine yv 10 rfl rfl (fun w1 hw => exec_load rfl (zg zz rfl) (LM _ hw)) hHeld ?_
  refine yc 6 rfl rfl (exec_c2 rfl (zg zz rfl) (zg zz rfl)) (CA) (fun e x6 hx => ?_)
  obtain ⟨rfl, S1⟩ := hx
  refine ⟨_, rfl, S1, fun hHeld => ?_⟩
  refine yv (v := .bool r) 11 rfl rfl (fun w1 hw => ex_eqlPr hq hp hr rfl (zg zz rfl) (zg zz rfl)) hHeld ?_
  exact ye rfl (h _ _ (S1) rfl)
def apt24_o0 : Oper := { dst := some 71, op := Op.move (Operand.tmp 11), type := 25, pos := "outright.go:131", after := #[], guard := none }
def apt24_o1 : Oper := { dst := some 72, op := Op.move (Operand.tmp 0), type := 22, pos := "outright.go:131", after := #[], guard := none }
def apt24_o2 : Oper := { dst := some 73, op := Op.move (Operand.tmp 8), type := 3, pos := "outright.go:131", after := #[], guard := none }
def apt24_o3 : Oper := { dst := some 74, op := Op.indexAddr 22 (Operand.tmp 72) (Operand.tmp 73), type := 0, pos := "outright.go:131", after := #[{ on := 1, ground := Ground.data }, { on := 2, ground := Ground.data }], guard := none }
def apt24_o4 : Oper := { dst := some 75, op := Op.load 34 (Operand.tmp 74), type := 34, pos := "outright.go:131", after := #[{ on := 3, ground := Ground.data }], guard := none }
def apt24_o5 : Oper := { dst := some 76, op := Op.call { callee := Callee.value (Operand.func 10), args := #[Operand.tmp 71, Operand.tmp 75], argTypes := #[25, 34] }, type := 44, pos := "outright.go:131", after := #[{ on := 0, ground := Ground.data }, { on := 4, ground := Ground.data }], guard := none }
def apt24_o6 : Oper := { dst := some 77, op := Op.move (Operand.tmp 5), type := 25, pos := "outright.go:131", after := #[], guard := none }
def apt24_o7 : Oper := { dst := some 78, op := Op.move (Operand.tmp 0), type := 22, pos := "outright.go:131", after := #[], guard := none }
def apt24_o8 : Oper := { dst := some 79, op := Op.move (Operand.tmp 8), type := 3, pos := "outright.go:131", after := #[], guard := none }
def apt24_o9 : Oper := { dst := some 80, op := Op.indexAddr 22 (Operand.tmp 78) (Operand.tmp 79), type := 0, pos := "outright.go:131", after := #[{ on := 7, ground := Ground.data }, { on := 8, ground := Ground.data }], guard := none }
def apt24_o10 : Oper := { dst := some 81, op := Op.load 34 (Operand.tmp 80), type := 34, pos := "outright.go:131", after := #[{ on := 9, ground := Ground.data }], guard := none }
def apt24_o11 : Oper := { dst := some 82, op := Op.call { callee := Callee.value (Operand.func 10), args := #[Operand.tmp 77, Operand.tmp 81], argTypes := #[25, 34] }, type := 44, pos := "outright.go:131", after := #[{ on := 6, ground := Ground.data }, { on := 10, ground := Ground.data }, { on := 5, ground := Ground.chain }], guard := none }
def apt24_o12 : Oper := { dst := some 83, op := Op.call { callee := Callee.value (Operand.func 9), args := #[Operand.tmp 76, Operand.tmp 82], argTypes := #[44, 44] }, type := 4, pos := "outright.go:131", after := #[{ on := 5, ground := Ground.data }, { on := 11, ground := Ground.data }, { on := 11, ground := Ground.chain }], guard := none }
def apt24_o13 : Oper := { dst := some 84, op := Op.unOp UnOp.not 4 (Operand.tmp 83), type := 4, pos := "outright.go:131", after := #[{ on := 12, ground := Ground.data }], guard := none }
def apt24_o14 : Oper := { dst := some 85, op := Op.move (Operand.tmp 84), type := 4, pos := "outright.go:131", after := #[{ on := 13, ground := Ground.data }, { on := 12, ground := Ground.chain }], guard := none }
def apt24_o15 : Oper := { dst := some 86, op := Op.move (Operand.tmp 11), type := 25, pos := "outright.go:131", after := #[{ on := 14, ground := Ground.guard }], guard := some (14, false) }
def apt24_o16 : Oper := { dst := some 87, op := Op.call { callee := Callee.value (Operand.func 11), args := #[Operand.tmp 86], argTypes := #[25] }, type := 3, pos := "outright.go:131", after := #[{ on := 15, ground := Ground.data }, { on := 14, ground := Ground.chain }, { on := 14, ground := Ground.guard }], guard := some (14, false) }
def apt24_o17 : Oper := { dst := some 88, op := Op.binOp BinOp.gtr 3 (Operand.tmp 87) (Operand.const (Value.int IntKind.i64 1)) 3, type := 4, pos := "outright.go:131", after := #[{ on := 16, ground := Ground.data }, { on := 14, ground := Ground.guard }], guard := some (14, false) }
def apt24_o18 : Oper := { dst := some 89, op := Op.pick (Operand.tmp 85) (Operand.const (Value.bool true)) (Operand.tmp 88), type := 4, pos := "outright.go:131", after := #[{ on := 14, ground := Ground.data }, { on := 17, ground := Ground.data }], guard := none }
def apt24_ops : Array Oper := #[apt24_o0, apt24_o1, apt24_o2, apt24_o3, apt24_o4, apt24_o5, apt24_o6, apt24_o7, apt24_o8, apt24_o9, apt24_o10, apt24_o11, apt24_o12, apt24_o13, apt24_o14, apt24_o15, apt24_o16, apt24_o17, apt24_o18]
set_option maxRecDepth 100000 in
set_option maxHeartbeats 4000000 in
theorem apt24 {pg po pn pc m ra rb ln : Nat} {p : PlK} (S : World → Prop) (a : Act) (w : World) (Q : Exit → Act → World → Prop) (zz : a.tmps.size = 106)
    (t0 : a.tmps.getD 0 undef = .slice (some ⟨pg, po, none⟩) pn pc)
    (t5 : a.tmps.getD 5 undef = .pointer (some ⟨rb, 0, none⟩))
    (t8 : a.tmps.getD 8 undef = .int .i64 (m : Int))
    (t11 : a.tmps.getD 11 undef = .pointer (some ⟨ra, 0, none⟩))
    (hln : ln ≤ 1) (hmi : m < pn) (hpm : pn ≤ 9223372036854775807) (h0 : S w.drew) (LM : ∀ W, S W → (Instr.loadAt 34 (.pointer (some ⟨pg, po + m * 67, none⟩))).run Tryd.prog W = .ok (p.v) W) (CE : Calls Tryd.prog 10 #[.pointer (some ⟨ra, 0, none⟩), p.v] w.drew fun e w1 => ∃ u, e = .returned u ∧ S w1 ∧ Calls Tryd.prog 10 #[.pointer (some ⟨rb, 0, none⟩), p.v] w1 fun e w2 => ∃ v, e = .returned v ∧ S w2 ∧ Calls Tryd.prog 9 #[u, v] w2 fun e w3 => e = .returned (.bool true) ∧ S w3 ∧ Calls Tryd.prog 11 #[.pointer (some ⟨ra, 0, none⟩)] w3 fun e w4 => e = .returned (.int .i64 (ln : Int)) ∧ S w4)
    (h : ∀ (u v : Value) (a' : Act) (w' : World), S w' → a' = (((((((((((((((((((a).put (some 71) (.pointer (some ⟨ra, 0, none⟩))).put (some 72) (.slice (some ⟨pg, po, none⟩) pn pc)).put (some 73) (.int .i64 (m : Int))).put (some 74) (.pointer (some ⟨pg, po + m * 67, none⟩))).put (some 75) (p.v)).put (some 77) (.pointer (some ⟨rb, 0, none⟩))).put (some 78) (.slice (some ⟨pg, po, none⟩) pn pc)).put (some 79) (.int .i64 (m : Int))).put (some 80) (.pointer (some ⟨pg, po + m * 67, none⟩))).put (some 81) (p.v)).put (some 76) (u)).put (some 82) (v)).put (some 83) (.bool true)).put (some 84) (.bool false)).put (some 85) (.bool false)).put (some 86) (.pointer (some ⟨ra, 0, none⟩))).put (some 87) (.int .i64 (ln : Int))).put (some 88) (.bool false)).put (some 89) (.bool false) → Q .normal a' w') :
    (Code.region 24 apt24_ops true).wp Tryd.prog Q a w := by
  refine y0 (fun w' => S w') (h0) (fun hHeld => ?_)
  refine yv 0 rfl rfl (fun w1 hw => exec_move rfl (zi t11 rfl)) hHeld ?_
  refine yv 1 rfl rfl (fun w1 hw => exec_move rfl (zi t0 rfl)) hHeld ?_
  refine yv 2 rfl rfl (fun w1 hw => exec_move rfl (zi t8 rfl)) hHeld ?_
  refine yv 3 rfl rfl (fun w1 hw => exec_indexAt rfl (zg zz rfl) (zg zz rfl) (ix_pl hmi hpm _)) hHeld ?_
  refine yv 4 rfl rfl (fun w1 hw => exec_load rfl (zg zz rfl) (LM _ hw)) hHeld ?_
  refine yv 6 rfl rfl (fun w1 hw => exec_move rfl (zi t5 rfl)) hHeld ?_
  refine yv 7 rfl rfl (fun w1 hw => exec_move rfl (zi t0 rfl)) hHeld ?_
  refine yv 8 rfl rfl (fun w1 hw => exec_move rfl (zi t8 rfl)) hHeld ?_
  refine yv 9 rfl rfl (fun w1 hw => exec_indexAt rfl (zg zz rfl) (zg zz rfl) (ix_pl hmi hpm _)) hHeld ?_
  refine yv 10 rfl rfl (fun w1 hw => exec_load rfl (zg zz rfl) (LM _ hw)) hHeld ?_
  refine yc 5 rfl rfl (exec_c2 rfl (zg zz rfl) (zg zz rfl)) (CE) (fun e x5 hx => ?_)
  obtain ⟨u, rfl, S1, CF⟩ := hx
  replace h := h u
  refine ⟨_, rfl, S1, fun hHeld => ?_⟩
  refine yc 11 rfl rfl (exec_c2 rfl (zg zz rfl) (zg zz rfl)) (CF) (fun e x11 hx => ?_)
  obtain ⟨v, rfl, S2, CS⟩ := hx
  replace h := h v
  refine ⟨_, rfl, S2, fun hHeld => ?_⟩
  refine yc 12 rfl rfl (exec_c2 rfl (zg zz rfl) (zg zz rfl)) (CS) (fun e x12 hx => ?_)
  obtain ⟨rfl, S3, CL⟩ := hx
  refine ⟨_, rfl, S3, fun hHeld => ?_⟩
  refine yv 13 rfl rfl (fun w1 hw => exec_not rfl (zg zz rfl)) hHeld ?_
  refine yv 14 rfl rfl (fun w1 hw => exec_move rfl (zg zz rfl)) hHeld ?_
  refine yv 15 rfl (zw zz rfl rfl rfl (zg zz rfl)) (fun w1 hw => exec_move rfl (zi t11 rfl)) hHeld ?_
  refine yc 16 rfl (zw zz rfl rfl rfl (zg zz rfl)) (exec_c1 rfl (zg zz rfl)) (CL) (fun e x16 hx => ?_)
  obtain ⟨rfl, S4⟩ := hx
  refine ⟨_, rfl, S4, fun hHeld => ?_⟩
  refine yv (v := .bool false) 17 rfl (zw zz rfl rfl rfl (zg zz rfl)) (fun w1 hw => ex_gt1 hln rfl (zg zz rfl) rfl) hHeld ?_
  refine yv 18 rfl rfl (fun w1 hw => exec_pickF rfl (zg zz rfl) (zg zz rfl)) hHeld ?_
  exact ye rfl (h _ _ (S4) rfl)
def apt28_o0 : Oper := { dst := some 95, op := Op.move (Operand.tmp 6), type := 3, pos := "outright.go:138", after := #[], guard := none }
def apt28_o1 : Oper := { dst := some 96, op := Op.move (Operand.tmp 5), type := 25, pos := "outright.go:138", after := #[], guard := none }
def apt28_o2 : Oper := { dst := some 97, op := Op.call { callee := Callee.value (Operand.func 11), args := #[Operand.tmp 96], argTypes := #[25] }, type := 3, pos := "outright.go:138", after := #[{ on := 1, ground := Ground.data }], guard := none }
def apt28_o3 : Oper := { dst := some 98, op := Op.binOp BinOp.leq 3 (Operand.tmp 95) (Operand.tmp 97) 3, type := 4, pos := "outright.go:138", after := #[{ on := 0, ground := Ground.data }, { on := 2, ground := Ground.data }], guard := none }
def apt28_o4 : Oper := { dst := some 99, op := Op.move (Operand.tmp 98), type := 4, pos := "outright.go:138", after := #[{ on := 3, ground := Ground.data }, { on := 2, ground := Ground.chain }], guard := none }
def apt28_o5 : Oper := { dst := some 100, op := Op.move (Operand.tmp 5), type := 25, pos := "outright.go:138", after := #[{ on := 4, ground := Ground.guard }], guard := some (4, true) }
def apt28_o6 : Oper := { dst := some 101, op := Op.call { callee := Callee.value (Operand.func 11), args := #[Operand.tmp 100], argTypes := #[25] }, type := 3, pos := "outright.go:138", after := #[{ on := 5, ground := Ground.data }, { on := 4, ground := Ground.chain }, { on := 4, ground := Ground.guard }], guard := some (4, true) }
def apt28_o7 : Oper := { dst := some 102, op := Op.move (Operand.tmp 6), type := 3, pos := "outright.go:138", after := #[{ on := 4, ground := Ground.guard }], guard := some (4, true) }
def apt28_o8 : Oper := { dst := some 103, op := Op.binOp BinOp.add 3 (Operand.tmp 102) (Operand.const (Value.int IntKind.i64 1)) 3, type := 3, pos := "outright.go:138", after := #[{ on := 7, ground := Ground.data }, { on := 4, ground := Ground.guard }], guard := some (4, true) }
def apt28_o9 : Oper := { dst := some 104, op := Op.binOp BinOp.leq 3 (Operand.tmp 101) (Operand.tmp 103) 3, type := 4, pos := "outright.go:138", after := #[{ on := 6, ground := Ground.data }, { on := 8, ground := Ground.data }, { on := 4, ground := Ground.guard }], guard := some (4, true) }
def apt28_o10 : Oper := { dst := some 105, op := Op.pick (Operand.tmp 99) (Operand.tmp 104) (Operand.const (Value.bool false)), type := 4, pos := "outright.go:138", after := #[{ on := 4, ground := Ground.data }, { on := 9, ground := Ground.data }], guard := none }
def apt28_o11 : Oper := { dst := some 4, op := Op.assign (Operand.tmp 105), type := 4, pos := "outright.go:138", after := #[{ on := 10, ground := Ground.data }, { on := 6, ground := Ground.chain }, { on := 0, ground := Ground.phase }, { on := 1, ground := Ground.phase }, { on := 2, ground := Ground.phase }, { on := 3, ground := Ground.phase }, { on := 4, ground := Ground.phase }, { on := 5, ground := Ground.phase }, { on := 6, ground := Ground.phase }, { on := 7, ground := Ground.phase }, { on := 8, ground := Ground.phase }, { on := 9, ground := Ground.phase }, { on := 10, ground := Ground.phase }], guard := none }
def apt28_ops : Array Oper := #[apt28_o0, apt28_o1, apt28_o2, apt28_o3, apt28_o4, apt28_o5, apt28_o6, apt28_o7, apt28_o8, apt28_o9, apt28_o10, apt28_o11]
set_option maxRecDepth 100000 in
set_option maxHeartbeats 4000000 in
theorem apt28 {rb sm ln : Nat} (a : Act) (w : World) (Q : Exit → Act → World → Prop) (zz : a.tmps.size = 106)
    (t5 : a.tmps.getD 5 undef = .pointer (some ⟨rb, 0, none⟩))
    (t6 : a.tmps.getD 6 undef = .int .i64 (sm : Int))
    (h1 : sm ≤ ln) (h2 : ln ≤ sm + 1) (h3 : sm ≤ 9000000000000) (CL : Calls Tryd.prog 11 #[.pointer (some ⟨rb, 0, none⟩)] w fun e w' => e = .returned (.int .i64 (ln : Int)) ∧ w' = w)
    (h : ∀ (a' : Act) (w' : World), w' = w → a' = ((((((((((((a).put (some 95) (.int .i64 (sm : Int))).put (some 96) (.pointer (some ⟨rb, 0, none⟩))).put (some 97) (.int .i64 (ln : Int))).put (some 98) (.bool true)).put (some 99) (.bool true)).put (some 100) (.pointer (some ⟨rb, 0, none⟩))).put (some 101) (.int .i64 (ln : Int))).put (some 102) (.int .i64 (sm : Int))).put (some 103) (.int .i64 (sm + 1 : Int))).put (some 104) (.bool true)).put (some 105) (.bool true)).put (some 4) (.bool true) → Q .normal a' w') :
    (Code.region 28 apt28_ops false).wp Tryd.prog Q a w := by
  refine z0 rfl ?_
  refine zv rfl (exec_move rfl (zi t6 rfl)) ?_
  refine zv rfl (exec_move rfl (zi t5 rfl)) ?_
  refine zc rfl (exec_c1 rfl (zg zz rfl)) (CL) (fun e x2 hx => ?_)
  obtain ⟨rfl, HW⟩ := hx
  subst HW
  refine ⟨_, rfl, ?_⟩
  refine zv (v := .bool true) rfl (ex_leqT h1 rfl (zg zz rfl) (zg zz rfl)) ?_
  refine zv rfl (exec_move rfl (zg zz rfl)) ?_
  refine zv (zw zz rfl rfl rfl (zg zz rfl)) (exec_move rfl (zi t5 rfl)) ?_
  refine zc (zw zz rfl rfl rfl (zg zz rfl)) (exec_c1 rfl (zg zz rfl)) (CL) (fun e x6 hx => ?_)
  obtain ⟨rfl, HW⟩ := hx
  refine ⟨_, rfl, ?_⟩
  refine zv (zw zz rfl rfl rfl (zg zz rfl)) (exec_move rfl (zi t6 rfl)) ?_
  refine zv (v := .int .i64 (sm + 1 : Int)) (zw zz rfl rfl rfl (zg zz rfl)) (ex_add1 h3 rfl (zg zz rfl) rfl) ?_
  refine zv (v := .bool true) (zw zz rfl rfl rfl (zg zz rfl)) (ex_leqT h2 rfl (zg zz rfl) (zg zz rfl)) ?_
  refine zv rfl (exec_pickT rfl (zg zz rfl) (zg zz rfl)) ?_
  refine zv rfl (exec_assign rfl (zg zz rfl)) ?_
  exact ze rfl (h _ _ (HW) rfl)
end Go.Proofs.YtldlljobofnmmabDoor

namespace Go.Proofs.YtldlljobofnmmabDoor
set_option linter.unusedVariables false
set_option linter.unusedSimpArgs false
set_option linter.unusedSectionVars false

namespace Rv
section
variable {P : Type} [DecidableEq P]
/-- How many unlike ones among the first so many have something. -/
def cn (Ps : List P) (f : P → Bool) : Nat → Nat
  | 0 => 0
  | n + 1 => cn Ps f n + (match Ps[n]? with | none => 0 | some p => if p ∉ Ps.take n ∧ f p = true then 1 else 0)
theorem countP_or {q r : P → Bool} : ∀ {K : List P}, (∀ x ∈ K, q x = true → r x = true → False) → K.countP (fun x => q x || r x) = K.countP q + K.countP r
  | [], _ => rfl
  | x :: K, h => by
    have ih := countP_or (K := K) (q := q) (r := r) (fun y hy => h y (by simp [hy]))
    have hx := h x (by simp)
    rw [List.countP_cons, List.countP_cons, List.countP_cons, ih]
    cases h1 : q x <;> cases h2 : r x <;> simp_all <;> omega
theorem countP_le_one {q : P → Bool} {z : P} : ∀ {K : List P}, K.Nodup → (∀ x ∈ K, q x = true → x = z) → K.countP q ≤ 1
  | [], _, _ => by simp
  | x :: K, hn, h => by
    rw [List.nodup_cons] at hn
    rw [List.countP_cons]
    by_cases hq : q x = true
    · have hx := h x (by simp) hq
      have : K.countP q = 0 := List.countP_eq_zero.2 fun y hy hy2 => hn.1 (by rw [hx, ← h y (by simp [hy]) hy2]; exact hy)
      rw [this, if_pos hq]
      omega
    · rw [if_neg hq]
      have := countP_le_one (K := K) hn.2 (fun y hy => h y (by simp [hy]))
      omega
theorem countP_one {q : P → Bool} {z : P} {K : List P} (hn : K.Nodup) (hz : z ∈ K) (hq : q z = true) (h : ∀ x ∈ K, q x = true → x = z) : K.countP q = 1 := by
  have h1 := countP_le_one hn h
  have h2 : 0 < K.countP q := List.countP_pos_iff.2 ⟨z, hz, hq⟩
  omega
theorem cn_eq {Ps : List P} {f : P → Bool} {K : List P} (hn : K.Nodup) (hK : ∀ p, p ∈ K ↔ f p = true) : ∀ n, n ≤ Ps.length → cn Ps f n = K.countP (fun p => decide (p ∈ Ps.take n))
  | 0, _ => by simp [cn]
  | n + 1, h => by
    rw [cn, cn_eq hn hK n (by omega)]
    obtain ⟨p, hp⟩ : ∃ p, Ps[n]? = some p := ⟨_, List.getElem?_eq_getElem (by omega)⟩
    rw [hp]
    have e : (fun q : P => decide (q ∈ Ps.take (n + 1))) = (fun q => decide (q ∈ Ps.take n) || decide (q = p ∧ q ∉ Ps.take n)) := by
      funext q
      rw [List.take_add_one, hp]
      by_cases h1 : q ∈ Ps.take n <;> by_cases h2 : q = p <;> simp [h1, h2]
    rw [e, countP_or (fun x _ h1 h2 => by simp at h1 h2; exact h2.2 h1)]
    congr 1
    show (if p ∉ Ps.take n ∧ f p = true then 1 else 0) = _
    split
    · next hc => exact (countP_one (z := p) hn ((hK p).2 hc.2) (by simp [hc.1]) (fun x _ hx => by simp at hx; exact hx.1)).symm
    · next hc =>
      refine (List.countP_eq_zero.2 fun x hx hx2 => hc ?_).symm
      simp at hx2
      rw [← hx2.1]
      exact ⟨hx2.2, (hK x).1 hx⟩
theorem cn_all {Ps : List P} {f : P → Bool} {K : List P} {z : P} (hn : K.Nodup) (hK : ∀ p, p ∈ K ↔ f p = true) (hs : ∀ p, f p = true → p ∈ Ps ∨ p = z) : cn Ps f Ps.length ≤ K.length ∧ K.length ≤ cn Ps f Ps.length + 1 := by
  rw [cn_eq hn hK Ps.length (Nat.le_refl _), List.take_length]
  have h1 := List.length_eq_countP_add_countP (fun p => decide (p ∈ Ps)) (l := K)
  have h2 : K.countP (fun a => decide ¬ (decide (a ∈ Ps) = true)) ≤ 1 := countP_le_one (z := z) hn (fun x hx hq => by
    simp at hq
    exact ((hs x ((hK x).1 hx)).resolve_left hq))
  omega
end
end Rv
end Go.Proofs.YtldlljobofnmmabDoor

namespace Go.Proofs.YtldlljobofnmmabDoor
open Go.RowKit
set_option linter.unusedVariables false
set_option linter.unusedSimpArgs false

/-- A Regs behind the first calls, of one place alone. -/
structure VA (w W1 : World) (B ro : Nat) (Ps : List PlK) (L : List SyR) (p : PlK) (i : Nat) (s : Rs) (H : List Rec) (W : World) : Prop where
  ra : RgAt W B s H
  r : s.r = ro
  bel : Below W1.heap.size W1 W
  b0 : Below w.heap.size w W1
  li : ∀ q, liOf s.P q = if q = p then (Rv.ls nmI (syF Ps L) q i).map enP else []
  lo : W1.heap.size ≤ B
  hi : B ≤ W.heap.size
section
variable {w W1 W W' : World} {B ro i : Nat} {Ps : List PlK} {L : List SyR} {p : PlK} {s : Rs} {H : List Rec}
theorem VA.below (h : VA w W1 B ro Ps L p i s H W) (b : Below W.heap.size W W') : VA w W1 B ro Ps L p i s H W' := ⟨h.ra.below b, h.r, h.bel.trans (b.mono h.bel.size), h.b0, h.li, h.lo, Nat.le_trans h.hi b.size⟩
theorem VA.belw (h : VA w W1 B ro Ps L p i s H W) : Below w.heap.size w W := h.b0.trans (h.bel.mono h.b0.size)
theorem VA.do (h : VA w W1 B ro Ps L p i s H W) {pa : Option Addr} {pc : Nat} {a : Option Addr} {c : Nat} (li : LwI w pa Ps a L) {x : SyR} (hx : L[i]? = some x) (hp : atP Ps x.pl = p) :
    Calls Tryd.prog 7 #[.pointer (some ⟨ro, 0, none⟩), .slice pa Ps.length pc, .slice a L.length c, .int .i64 (i : Int)] W fun e w' => ∃ bk, e = .returned (.pointer (some ⟨bk, 0, none⟩)) ∧ ∃ s' H', VA w W1 B ro Ps L p (i + 1) s' H' w' := by
  have hn := li.hLn
  have hi := (List.getElem?_eq_some_iff.1 hx).1
  have hl := Rv.ls_len nmI (syF Ps L) (atP Ps x.pl) i
  have c := do_any h.ra h.belw (Nat.le_trans h.b0.size h.lo) h.hi (pc := pc) (c := c) li hx (by rw [h.li, if_pos hp]) (by omega)
  rw [h.r] at c
  refine c.mono ?_
  rintro e w' ⟨rc, s', rfl, o⟩
  have bw : Below W1.heap.size W1 w' := h.bel.trans (o.tch.below h.bel.size (fun j hj => Nat.le_trans h.lo (h.ra.mem.geAll hj)))
  refine ⟨_, rfl, s', _, ⟨o.at', o.r.trans h.r, bw, h.b0, fun q => ?_, h.lo, Nat.le_trans h.hi o.tch.size⟩⟩
  rw [o.li]
  have es := syF_at (Ps := Ps) hx
  have ep : (syF Ps L i).pl = atP Ps x.pl := by rw [es]; rfl
  by_cases e : q = atP Ps x.pl
  · rw [if_pos e, if_pos (e.trans hp), Rv.ls_here nmI_inj _ q i (by rw [ep, e]), es, e]
  · rw [if_neg e, h.li, if_neg (by rw [← hp]; exact e), if_neg (by rw [← hp]; exact e)]
theorem VA.skip (h : VA w W1 B ro Ps L p i s H W) {x : SyR} (hx : L[i]? = some x) (hp : atP Ps x.pl ≠ p) : VA w W1 B ro Ps L p (i + 1) s H W := by
  refine ⟨h.ra, h.r, h.bel, h.b0, fun q => ?_, h.lo, h.hi⟩
  rw [h.li]
  have es := syF_at (Ps := Ps) hx
  have ep : (syF Ps L i).pl = atP Ps x.pl := by rw [es]; rfl
  by_cases e : q = p
  · rw [if_pos e, if_pos e, Rv.ls_there _ _ q i (by rw [ep, e]; exact hp)]
  · rw [if_neg e, if_neg e]
end
theorem liOf_mem {w : World} {B : Nat} {s : Rs} (h : RgM w B s) (q : PlK) : q ∈ s.P.map (·.1) ↔ (!(liOf s.P q).isEmpty) = true := by
  rw [look_memI]
  unfold liOf
  cases e : M.look s.P q with
  | none => simp
  | some v =>
    have := (h.en (q, v) (M.look_mem e)).2.1
    simp only [Option.isSome_some, true_iff]
    cases hv : v.2 with
    | nil => exact absurd hv this
    | cons a l => rw [Option.map_some, Option.getD_some, hv]; rfl
theorem one_len {w : World} {B : Nat} {s : Rs} (h : RgM w B s) (p : PlK) (hq : ∀ q, q ≠ p → liOf s.P q = []) : s.P.length = if (liOf s.P p).isEmpty then 0 else 1 := by
  have hn := h.places
  have hm := liOf_mem h
  have all : ∀ q ∈ s.P.map (·.1), q = p := fun q hqm => by
    refine Classical.byContradiction fun e => ?_
    have := (hm q).1 hqm
    rw [hq q e] at this
    cases this
  have hl : s.P.length = (s.P.map (·.1)).length := by simp
  rw [hl]
  generalize hK : s.P.map (·.1) = K at *
  have hp := hm p
  match K, hn, all, hp with
  | [], _, _, hp =>
    cases e : (liOf s.P p).isEmpty with
    | true => rfl
    | false => rw [e] at hp; simp at hp
  | [x], _, all, hp =>
    rw [all x (by simp)] at hp
    cases e : (liOf s.P p).isEmpty with
    | true => rw [e] at hp; simp at hp
    | false => rfl
  | x :: y :: K, hn, all, _ =>
    rw [List.nodup_cons] at hn
    exact absurd (by rw [all x (by simp), all y (by simp)]; simp : x ∈ y :: K) hn.1
/-- Places at which something lies. -/
def fP (Ps : List PlK) (L : List SyR) (q : PlK) : Bool := !(Rv.ls nmI (syF Ps L) q L.length).isEmpty
theorem fP_place {Ps : List PlK} {L : List SyR} {q : PlK} (h : fP Ps L q = true) : q ∈ Ps ∨ q = zPl := by
  unfold fP at h
  obtain ⟨x, hx⟩ : ∃ x, x ∈ Rv.ls nmI (syF Ps L) q L.length := by
    cases e : Rv.ls nmI (syF Ps L) q L.length with
    | nil => rw [e] at h; cases h
    | cons x l => exact ⟨x, by simp⟩
  unfold Rv.ls at hx
  obtain ⟨i, hi, e⟩ := List.mem_filterMap.1 hx
  have hi := List.mem_range.1 hi
  obtain ⟨y, hy⟩ : ∃ y, L[i]? = some y := ⟨_, List.getElem?_eq_getElem hi⟩
  unfold Rv.lf at e
  split at e
  · next hc =>
    have := hc.2.1
    rw [syF_at hy] at this
    have e2 : atP Ps y.pl = q := this
    rw [← e2]
    unfold atP
    split
    · exact .inr rfl
    · cases e3 : Ps[y.pl.toNat]? with
      | none => exact .inr rfl
      | some z => exact .inl (List.mem_of_getElem? e3)
  · cases e
end Go.Proofs.YtldlljobofnmmabDoor

namespace Go.Proofs.YtldlljobofnmmabDoor
open Go.RowKit
set_option linter.unusedVariables false
set_option linter.unusedSimpArgs false

theorem cn_le {P : Type} [DecidableEq P] (Ps : List P) (f : P → Bool) : ∀ n, Rv.cn Ps f n ≤ n
  | 0 => Nat.le_refl _
  | n + 1 => by
    have := cn_le Ps f n
    unfold Rv.cn
    split
    · omega
    · split <;> omega
set_option maxRecDepth 100000 in
set_option maxHeartbeats 8000000 in
theorem apart_all (pa : Option Addr) (pc : Nat) (Ps : List PlK) (a : Option Addr) (c : Nat) (L : List SyR) (w : World) (li : LwI w pa Ps a L) :
    Calls Tryd.prog 3 #[.slice pa Ps.length pc, .slice a L.length c] w fun e w' => e = .returned (.bool true) ∧ Below w.heap.size w w' := by
  have LI := hidMk li
  obtain ⟨n, hnn⟩ : ∃ n, L.length = n := ⟨_, rfl⟩
  obtain ⟨pn, hpn⟩ : ∃ n, Ps.length = n := ⟨_, rfl⟩
  have HN := hidMk (And.intro hnn hpn)
  have hn := li.hLn
  have hpn2 := li.hPn
  have HD : Hid (∀ W B ro i s H, i < n → VS w B ro Ps L i s H W → Calls Tryd.prog 7 #[.pointer (some ⟨ro, 0, none⟩), .slice pa pn pc, .slice a n c, .int .i64 (i : Int)] W fun e w' => ∃ bk, e = .returned (.pointer (some ⟨bk, 0, none⟩)) ∧ ∃ s' H', VS w B ro Ps L (i + 1) s' H' w') := by
    intro W B ro i s H hi h
    rw [← hnn, ← hpn]
    exact h.do li (by omega)
  have HDA : Hid (∀ W W1 B ro p i x s H, L[i]? = some x → atP Ps x.pl = p → VA w W1 B ro Ps L p i s H W → Calls Tryd.prog 7 #[.pointer (some ⟨ro, 0, none⟩), .slice pa pn pc, .slice a n c, .int .i64 (i : Int)] W fun e w' => ∃ bk, e = .returned (.pointer (some ⟨bk, 0, none⟩)) ∧ ∃ s' H', VA w W1 B ro Ps L p (i + 1) s' H' w') := by
    intro W W1 B ro p i x s H hx hp h
    rw [← hnn, ← hpn]
    exact h.do li hx hp
  have HAT : Hid (∀ W, Below w.heap.size w W → ∀ m : Int, -9223372036854775808 ≤ m ∧ m ≤ 9223372036854775807 → Calls Tryd.prog 8 #[.slice pa pn pc, .int .i64 m] W fun e w' => e = .returned (atP Ps m).v ∧ Below W.heap.size W w') := by
    intro W b m hm
    rw [← hpn]
    exact at_any (li.hP.below b) li.okP li.hPn hm
  have HOK := hidMk (fun m => atP_ok li.okP m)
  have HL : Hid (∀ i, i < n → ∃ x, L[i]? = some x ∧ x.ok w ∧ syF Ps L i = x.s Ps ∧ ∃ g o, a = some ⟨g, o, none⟩ ∧ ∀ W, Below w.heap.size w W → W.rangeAt g (o + 8 * i) x.c) := by
    intro i hi
    obtain ⟨x, hx⟩ : ∃ x, L[i]? = some x := ⟨_, List.getElem?_eq_getElem (by omega)⟩
    refine ⟨x, hx, li.okL x (List.mem_of_getElem? hx), syF_at hx, ?_⟩
    rcases li.hL with h | ⟨g, o, e, h1, h2⟩
    · rw [h] at hx; cases hx
    · exact ⟨g, o, e, fun W b => rangeAt_keep (by rw [Nat.mul_comm]; exact h2 i x hx) (b.block _ h1)⟩
  have HPL : Hid (∀ m, m < pn → ∃ p, Ps[m]? = some p ∧ p.ok ∧ ∃ g o, pa = some ⟨g, o, none⟩ ∧ ∀ W, Below w.heap.size w W → (Instr.loadAt 34 (.pointer (some ⟨g, o + m * 67, none⟩))).run Tryd.prog W = .ok p.v W) := by
    intro m hm
    obtain ⟨p, hp⟩ : ∃ x, Ps[m]? = some x := ⟨_, List.getElem?_eq_getElem (by omega)⟩
    have hpo := li.okP p (List.mem_of_getElem? hp)
    refine ⟨p, hp, hpo, ?_⟩
    rcases li.hP with h | ⟨g, o, e, h1, h2⟩
    · rw [h] at hp; cases hp
    · exact ⟨g, o, e, fun W b => ld_pl hpo (rangeAt_keep (h2 m p hp) (b.block _ h1))⟩
  rw [hnn] at hn ⊢
  rw [hpn] at hpn2 ⊢
  clear li hnn hpn
  have HA := hidMk (live_any w)
  have HNEW := hidMk newR_any
  go_enter Tryd.func3, Tryd.ntmps3
  go_wp2_with (first
    | (go_at_call 5; refine HA.out.mono ?_; rintro e w1 ⟨rfl, b1⟩; clear HA)
    | (go_at_call 6; refine (HNEW.out _).mono ?_; rintro e w2 ⟨so, rfl, ra, rl, rp, b2⟩)
    | fail)
  have hj0 : Hid (∃ s H, VS w w1.heap.size so.r Ps L 0 s H w2) := ⟨so, [], ra, rfl, b1.trans (b2.mono b1.size), fun q => by rw [rl]; rfl, b1.size, b2.size⟩
  clear ra rl rp b1 b2
  generalize so.r = ro at *
  generalize w1.heap.size = B at *
  go_loopw [7] (fun v7 wr => ∃ i : Nat, v7 = .int .i64 (i : Int) ∧ i ≤ n ∧ Hid (∃ s H, VS w B ro Ps L i s H wr)) (fun v7 wr => n - (match v7 with | .int _ i => i.toNat | _ => 0))
  case atStart => exact ⟨0, rfl, Nat.zero_le _, hj0⟩
  case round =>
    clear hj0
    obtain ⟨i, rfl, hin, HI⟩ := hrel
    by_cases hi : i < n
    · have CD : Hid (Calls Tryd.prog 7 #[.pointer (some ⟨ro, 0, none⟩), .slice pa pn pc, .slice a n c, .int .i64 (i : Int)] wr fun e w' => ∃ bk, e = .returned (.pointer (some ⟨bk, 0, none⟩)) ∧ ∃ s' H', VS w B ro Ps L (i + 1) s' H' w') := by
        obtain ⟨s, H, h⟩ := HI.out
        exact HD.out wr B ro i s H hi h
      clear HI
      go_wp2_with (first
        | (go_at_call 7; refine CD.out.mono ?_; rintro e w3 ⟨bk, rfl, hf⟩; have HF := hidMk hf; clear hf CD)
        | fail)
      rw [show ((i : Int) + 1) = ((i + 1 : Nat) : Int) by omega]
      refine ⟨⟨i + 1, rfl, hi, HF.out⟩, ?_⟩
      show n - ((i + 1 : Nat) : Int).toNat < n - (i : Int).toNat
      omega
    · obtain rfl : i = n := by omega
      clear hin hi HD
      obtain ⟨s, H, hvs⟩ := HI.out
      have HV := hidMk hvs
      have HS : Hid ((s.P.map (·.1)).Nodup ∧ (∀ q, q ∈ s.P.map (·.1) ↔ fP Ps L q = true) ∧ ∀ q, liOf s.P q = (Rv.ls nmI (syF Ps L) q i).map enP) := ⟨hvs.ra.mem.places, fun q => by
        rw [liOf_mem hvs.ra.mem, hvs.li]
        unfold fP
        rw [HN.out.1]
        cases Rv.ls nmI (syF Ps L) q i <;> simp, hvs.li⟩
      clear HI hvs
      go_wp2
      generalize wr = wA at *
      go_loopw [6, 8] (fun v6 v8 wx => ∃ m : Nat, v8 = .int .i64 (m : Int) ∧ m ≤ pn ∧ v6 = .int .i64 ((Rv.cn Ps (fP Ps L) m : Nat) : Int) ∧ Hid (VS w B ro Ps L i s H wx)) (fun _ v8 wx => pn - (match v8 with | .int _ i => i.toNat | _ => 0))
      case atStart => exact ⟨0, rfl, Nat.zero_le _, rfl, HV⟩
      case round =>
        clear HV
        obtain ⟨m, rfl, hm, rfl, HV⟩ := hrel
        have hcm := cn_le Ps (fP Ps L) m
        obtain ⟨sm, hsm⟩ : ∃ sm, Rv.cn Ps (fP Ps L) m = sm := ⟨_, rfl⟩
        have HSM := hidMk hsm
        rw [hsm] at hcm ⊢
        clear hsm
        by_cases hm2 : m < pn
        · obtain ⟨p, hpm, hp, pg, po, epa, hlp⟩ := HPL.out m hm2
          subst epa
          have HPM := hidMk (And.intro hpm hlp)
          have h63 : pn ≤ 9223372036854775807 := by omega
          clear hpm hlp
          generalize wr = wB at *
          go_wp2
          go_loopw [9, 10] (fun v9 v10 wx => ∃ k : Nat, v10 = .int .i64 (k : Int) ∧ k ≤ m ∧ v9 = .bool (decide (p ∉ Ps.take k)) ∧ Hid (VS w B ro Ps L i s H wx)) (fun _ v10 wx => m - (match v10 with | .int _ i => i.toNat | _ => 0))
          case atStart => exact ⟨0, rfl, Nat.zero_le _, by simp, HV⟩
          case round =>
            clear HV
            obtain ⟨k, rfl, hkm, rfl, HV⟩ := hrel
            obtain ⟨fl, hfl⟩ : ∃ fl, decide (p ∉ Ps.take k) = fl := ⟨_, rfl⟩
            have HFL := hidMk hfl
            rw [hfl]
            clear hfl
            by_cases hk : k < m
            · obtain ⟨q, hqk, hq, pg', po', epg, hlq⟩ := HPL.out k (by omega)
              have HQK : Hid (Ps[k]? = some q ∧ ∀ W, Below w.heap.size w W → (Instr.loadAt 34 (.pointer (some ⟨pg, po + k * 67, none⟩))).run Tryd.prog W = .ok q.v W) := ⟨hqk, fun W b => by
                injection epg with epg
                injection epg with e1 e2
                rw [e1, e2]
                exact hlq W b⟩
              clear hqk epg hlq
              obtain ⟨r, hr⟩ : ∃ r, decide (q = p) = r := ⟨_, rfl⟩
              have HR := hidMk hr
              have hki : k < pn := by omega
              go_upto_region 16 with fail
              refine apt16 (pg := pg) (po := po) (pn := pn) (pc := pc) (m := m) (k := k) (p := p) (q := q) (r := r) (VS w B ro Ps L i s H) _ wr _ rfl rfl rfl rfl hp hq hr hki hm2 h63 (HV.out.below (Below.refl wr.heap.size wr).drew) (fun W h => HQK.out.2 W h.bel) (fun W h => HPM.out.2 W h.bel) ?_
              intro a' w4 hf ha
              subst ha
              simp only [Act.put, List.setIfInBounds_toArray, List.set_cons_zero, List.set_cons_succ]
              have V4 := hidMk hf
              clear hf hr HV
              have ML : Hid (p ∈ Ps.take (k + 1) ↔ p ∈ Ps.take k ∨ p = q) := by
                exact mem_take_succ HQK.out.1
              cases r
              · have hqp : Hid (q ≠ p) := hidMk (by have := HR.out; simpa using this)
                go_wp2
                rw [show ((k : Int) + 1) = ((k + 1 : Nat) : Int) by omega]
                refine ⟨⟨k + 1, rfl, hk, ?_, V4.out⟩, ?_⟩
                · rw [← HFL.out]
                  congr 1
                  exact decide_eq_decide.2 (by rw [ML.out]; exact not_congr ⟨.inl, fun h => h.resolve_right (fun e => hqp.out e.symm)⟩)
                · show m - ((k + 1 : Nat) : Int).toNat < m - (k : Int).toNat
                  omega
              · have hqp : Hid (q = p) := hidMk (by have := HR.out; simpa using this)
                go_wp2
                rw [show ((k : Int) + 1) = ((k + 1 : Nat) : Int) by omega]
                refine ⟨⟨k + 1, rfl, hk, ?_, V4.out⟩, ?_⟩
                · congr 1
                  exact (decide_eq_false (fun h => h (by rw [ML.out]; exact .inr hqp.out.symm))).symm
                · show m - ((k + 1 : Nat) : Int).toNat < m - (k : Int).toNat
                  omega
            · obtain rfl : k = m := by omega
              have hkm2 := hkm
              clear hkm hk
              go_wp2_with (first
                | (go_at_call 6; refine (HNEW.out _).mono ?_; rintro e w5 ⟨sa, rfl, ra, rl, rp, b5⟩)
                | fail)
              have A0 : Hid (∃ s2 H2, VA w wr wr.heap.size sa.r Ps L p 0 s2 H2 w5) := ⟨sa, [], ra, rfl, b5, HV.out.bel, fun q => by rw [rl]; split <;> rfl, Nat.le_refl _, b5.size⟩
              clear ra rl rp b5
              generalize sa.r = ro2 at *
              generalize wr = wD at *
              go_loopw [12] (fun v12 wx => ∃ j : Nat, v12 = .int .i64 (j : Int) ∧ j ≤ i ∧ Hid (∃ s2 H2, VA w wD wD.heap.size ro2 Ps L p j s2 H2 wx)) (fun v12 wx => i - (match v12 with | .int _ i => i.toNat | _ => 0))
              case atStart => exact ⟨0, rfl, Nat.zero_le _, A0⟩
              case round =>
                clear A0
                obtain ⟨j, rfl, hj, HI⟩ := hrel
                obtain ⟨s2, H2, hva⟩ := HI.out
                have HVA := hidMk hva
                clear HI hva
                by_cases hj2 : j < i
                · obtain ⟨x, hx, hxo, hsx, g, o, ea, hr⟩ := HL.out j hj2
                  subst ea
                  have HX := hidMk (And.intro hr (And.intro hxo hx))
                  have h63i : i ≤ 9223372036854775807 := by omega
                  clear hx hxo hsx hr
                  obtain ⟨q, hq0⟩ : ∃ q, atP Ps x.pl = q := ⟨_, rfl⟩
                  have hq : q.ok := by rw [← hq0]; exact HOK.out _
                  have HQ := hidMk hq0
                  clear hq0
                  obtain ⟨r, hr⟩ : ∃ r, decide (q = p) = r := ⟨_, rfl⟩
                  have HR := hidMk hr
                  have vd := hidMk (HVA.out.below (Below.refl wr.heap.size wr).drew)
                  have CA : Hid (Calls Tryd.prog 8 #[.slice (some ⟨pg, po, none⟩) pn pc, .int .i64 x.pl] wr.drew fun e w' => e = .returned q.v ∧ VA w wD wD.heap.size ro2 Ps L p j s2 H2 w') := by
                    refine (HAT.out wr.drew vd.out.belw x.pl HX.out.2.1.pl).mono ?_
                    rintro e w' ⟨rfl, b⟩
                    exact ⟨by rw [HQ.out], vd.out.below b⟩
                  go_upto_region 22 with fail
                  refine apt22 (pg := pg) (po := po) (pn := pn) (pc := pc) (m := k) (g := g) (o := o) (n := i) (c := c) (i := j) (p := p) (q := q) (x := x) (r := r) (VA w wD wD.heap.size ro2 Ps L p j s2 H2) _ wr _ rfl rfl rfl rfl rfl hp hq hr hj2 h63i hm2 h63 vd.out (fun W h => say_pl (HX.out.1 W h.belw)) (fun W h => HPM.out.2 W h.belw) CA.out ?_
                  intro a' w6 hf ha
                  subst ha
                  simp only [Act.put, List.setIfInBounds_toArray, List.set_cons_zero, List.set_cons_succ]
                  have V6 := hidMk hf
                  clear hf CA vd HVA hr
                  cases r
                  · have hqp : Hid (q ≠ p) := hidMk (by have := HR.out; simpa using this)
                    go_wp2
                    rw [show ((j : Int) + 1) = ((j + 1 : Nat) : Int) by omega]
                    refine ⟨⟨j + 1, rfl, hj2, s2, H2, V6.out.skip HX.out.2.2 (by rw [HQ.out]; exact hqp.out)⟩, ?_⟩
                    show i - ((j + 1 : Nat) : Int).toNat < i - (j : Int).toNat
                    omega
                  · have hqp : Hid (q = p) := hidMk (by have := HR.out; simpa using this)
                    have CD : Hid (Calls Tryd.prog 7 #[.pointer (some ⟨ro2, 0, none⟩), .slice (some ⟨pg, po, none⟩) pn pc, .slice (some ⟨g, o, none⟩) i c, .int .i64 (j : Int)] w6 fun e w' => ∃ bk, e = .returned (.pointer (some ⟨bk, 0, none⟩)) ∧ ∃ s' H', VA w wD wD.heap.size ro2 Ps L p (j + 1) s' H' w') := HDA.out w6 wD _ ro2 p j x s2 H2 HX.out.2.2 (HQ.out.trans hqp.out) V6.out
                    clear V6
                    go_wp2_with (first
                      | (go_at_call 7; refine CD.out.mono ?_; rintro e w7 ⟨bk, rfl, hf⟩; have HF := hidMk hf; clear hf CD)
                      | fail)
                    rw [show ((j : Int) + 1) = ((j + 1 : Nat) : Int) by omega]
                    refine ⟨⟨j + 1, rfl, hj2, HF.out⟩, ?_⟩
                    show i - ((j + 1 : Nat) : Int).toNat < i - (j : Int).toNat
                    omega
                · obtain rfl : j = i := by omega
                  clear hj hj2
                  obtain ⟨M, hM⟩ : ∃ M, (Rv.ls nmI (syF Ps L) p j).map enP = M := ⟨_, rfl⟩
                  have VR := hidMk (HV.out.below HVA.out.bel)
                  have E1 : Hid (liOf s2.P p = M ∧ liOf s.P p = M) := ⟨by rw [HVA.out.li, if_pos rfl, hM], by rw [HS.out.2.2, hM]⟩
                  have okM : Hid (∀ x ∈ M, x.ok) := by
                    rw [← E1.out.1]
                    exact (HVA.out.ra.mem.list p).2
                  have hml : Hid (M.length ≤ 2500000000000) := hidMk (by
                    rw [← hM, List.length_map]
                    have := Rv.ls_len nmI (syF Ps L) p j
                    omega)
                  have LNE : Hid (s2.P.length = if M.isEmpty then 0 else 1) := by
                    have := one_len HVA.out.ra.mem p (fun q hq => by rw [HVA.out.li, if_neg hq])
                    rw [E1.out.1] at this
                    exact this
                  have FPE : Hid (fP Ps L p = !M.isEmpty) := by
                    unfold fP
                    rw [HN.out.1, ← hM]
                    cases Rv.ls nmI (syF Ps L) p j <;> rfl
                  obtain ⟨ln, hln⟩ : ∃ l, s2.P.length = l := ⟨_, rfl⟩
                  have hln1 : ln ≤ 1 := by
                    rw [← hln, LNE.out]
                    split <;> omega
                  have CLN : Hid (∀ W, Below wr.heap.size wr W → Calls Tryd.prog 11 #[.pointer (some ⟨ro2, 0, none⟩)] W fun e w' => e = .returned (.int .i64 (ln : Int)) ∧ w' = W) := fun W b => by
                    have cc := len_any (HVA.out.below b).ra.mem
                    rw [HVA.out.r, hln] at cc
                    exact cc
                  have bd : Below wr.heap.size wr wr.drew := (Below.refl wr.heap.size wr).drew
                  have CE : Hid (Calls Tryd.prog 10 #[.pointer (some ⟨ro2, 0, none⟩), p.v] wr.drew fun e w1 => ∃ u, e = .returned u ∧ Below wr.heap.size wr w1 ∧ Calls Tryd.prog 10 #[.pointer (some ⟨ro, 0, none⟩), p.v] w1 fun e w2 => ∃ v, e = .returned v ∧ Below wr.heap.size wr w2 ∧ Calls Tryd.prog 9 #[u, v] w2 fun e w3 => e = .returned (.bool true) ∧ Below wr.heap.size wr w3 ∧ Calls Tryd.prog 11 #[.pointer (some ⟨ro2, 0, none⟩)] w3 fun e w4 => e = .returned (.int .i64 (ln : Int)) ∧ Below wr.heap.size wr w4) := by
                    have c1 := entries_any (HVA.out.below bd).ra.mem hp (by rw [E1.out.1]; exact hml.out)
                    rw [HVA.out.r, E1.out.1] at c1
                    refine c1.mono ?_
                    rintro e w1 ⟨u, rfl, ou, b1⟩
                    have b01 := bd.trans (b1.mono bd.size)
                    refine ⟨u, rfl, b01, ?_⟩
                    have c2 := entries_any (VR.out.below b01).ra.mem hp (by rw [E1.out.2]; exact hml.out)
                    rw [VR.out.r, E1.out.2] at c2
                    refine c2.mono ?_
                    rintro e w2 ⟨v, rfl, ov, b2⟩
                    have b02 := b01.trans (b2.mono b01.size)
                    refine ⟨v, rfl, b02, ?_⟩
                    obtain ⟨ua, uc, eu, hatu, _⟩ := ou.open RN_is okM.out
                    obtain ⟨va, vc, ev, hatv, _⟩ := ov.open RN_is okM.out
                    rw [eu, ev]
                    refine (same_entries (w := w2) okM.out hml.out (c := uc) (d := vc) (hatu.below b2) hatv).mono ?_
                    rintro e w3 ⟨rfl, b3⟩
                    have b03 := b02.trans (b3.mono b02.size)
                    refine ⟨rfl, b03, (CLN.out w3 b03).mono ?_⟩
                    rintro e w4 ⟨rfl, rfl⟩
                    exact ⟨rfl, b03⟩
                  clear hM
                  go_upto_region 24 with fail
                  refine apt24 (pg := pg) (po := po) (pn := pn) (pc := pc) (m := k) (ra := ro2) (rb := ro) (ln := ln) (p := p) (fun W => Below wr.heap.size wr W) _ wr _ rfl rfl rfl rfl rfl hln1 hm2 h63 bd (fun W h => HPM.out.2 W (HVA.out.below h).belw) CE.out ?_
                  intro u v a' w8 hf ha
                  subst ha
                  simp only [Act.put, List.setIfInBounds_toArray, List.set_cons_zero, List.set_cons_succ]
                  have B8 := hidMk hf
                  have HLN := hidMk hln
                  clear hf CE bd hln
                  have CNX : Hid (Rv.cn Ps (fP Ps L) (k + 1) = if fl = true then sm + ln else sm) := by
                    rw [Rv.cn, HSM.out, HPM.out.1]
                    show sm + (if p ∉ Ps.take k ∧ fP Ps L p = true then 1 else 0) = _
                    have hf := HFL.out
                    have hl := LNE.out
                    rw [HLN.out] at hl
                    rw [FPE.out]
                    cases fl with
                    | true =>
                      have h1 : p ∉ Ps.take k := of_decide_eq_true hf
                      rw [if_pos rfl, hl]
                      cases hM : M.isEmpty with
                      | true => simp
                      | false => simp [h1]
                    | false =>
                      have h1 : ¬ p ∉ Ps.take k := of_decide_eq_false hf
                      rw [if_neg (fun h => h1 h.1)]
                      simp
                  have EV : Hid (VS w B ro Ps L j s H w8) := VR.out.below B8.out
                  have C8 := hidMk (CLN.out w8 B8.out)
                  clear CLN
                  cases fl
                  · have e := CNX.out
                    rw [if_neg (by simp)] at e
                    have HE := hidMk e
                    clear e
                    go_wp2
                    rw [show ((k : Int) + 1) = ((k + 1 : Nat) : Int) by omega]
                    refine ⟨⟨k + 1, rfl, hm2, by rw [HE.out], EV.out⟩, ?_⟩
                    show pn - ((k + 1 : Nat) : Int).toNat < pn - (k : Int).toNat
                    omega
                  · have e := CNX.out
                    rw [if_pos rfl] at e
                    have HE := hidMk e
                    clear e
                    go_wp2_with (first
                      | (go_at_call 11; refine C8.out.mono ?_; rintro e w9 ⟨rfl, rfl⟩; clear C8)
                      | fail)
                    rw [show ((k : Int) + 1) = ((k + 1 : Nat) : Int) by omega]
                    refine ⟨⟨k + 1, rfl, hm2, by rw [HE.out]; congr 1, EV.out⟩, ?_⟩
                    show pn - ((k + 1 : Nat) : Int).toNat < pn - (k : Int).toNat
                    omega
        · obtain rfl : m = pn := by omega
          have CL : Hid (Calls Tryd.prog 11 #[.pointer (some ⟨ro, 0, none⟩)] wr fun e w' => e = .returned (.int .i64 (s.P.length : Int)) ∧ w' = wr) := by
            have cc := len_any HV.out.ra.mem
            rw [HV.out.r] at cc
            exact cc
          obtain ⟨h1, h2⟩ := Rv.cn_all (Ps := Ps) (f := fP Ps L) (z := zPl) HS.out.1 HS.out.2.1 (fun p h => fP_place h)
          rw [HN.out.2, HSM.out, List.length_map] at h1 h2
          have BE := hidMk HV.out.bel
          clear HV
          go_upto_region 28 with fail
          refine apt28 (rb := ro) (sm := sm) (ln := s.P.length) _ wr _ rfl rfl rfl h1 h2 (by omega) CL.out ?_
          intro a' w4 hf ha
          subst ha
          obtain rfl : wr = w4 := hf.symm
          simp only [Act.put, List.setIfInBounds_toArray, List.set_cons_zero, List.set_cons_succ]
          clear CL h1 h2
          go_wp2
          go_ret
          exact ⟨rfl, BE.out⟩
end Go.Proofs.YtldlljobofnmmabDoor

