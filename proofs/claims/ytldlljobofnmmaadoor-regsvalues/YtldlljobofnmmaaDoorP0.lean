import Derived.Test.YtldlljobofnmmaaDoorRnn0
import Derived.Test.YtldlljobofnmmaaDoorZr
import Derived.Laws.FloatArith
namespace Go.Proofs.YtldlljobofnmmaaDoor
open Go.RowKit
set_option linter.unusedVariables false
set_option linter.unusedSimpArgs false

def RP : RowT PlK := ⟨PlK.c, PlK.ok, 67, 96, 52, 22, zPl⟩
theorem RP_is : RP.Is := ⟨zPl_ok, fun _ h => PlK.len h, PlK.one, Tryd.underlying22, by kernel_rfl, ⟨_, Tryd.underlying52, rfl⟩, by decide, by decide⟩
theorem szP {u : PlK} (h : u.ok) : (Tryd.prog.info? 52).map (·.size) = some (RP.c u).toArray.size := by
  rw [List.size_toArray]
  show _ = some u.c.length
  rw [PlK.len h]
  exact szPl
theorem pl_box (w : World) : ∃ w2, (Instr.alloc 52 true (.tuple #[])).run Tryd.prog w = .ok (.pointer (some ⟨w.heap.size, 0, none⟩)) w2 ∧ RP.Bx w2 w.heap.size zPl ∧ Below w.heap.size w w2 := ⟨_, RowT.bx_zero RP_is w, heap_alloc_new _ _, (Below.refl _ _).alloc (Nat.le_refl _) _⟩
theorem pl_put {w : World} {b : Nat} {x u : PlK} (hx : x.ok) (hu : u.ok) (h : RP.Bx w b x) : ∃ w', (Instr.storeAt 52 (.pointer (some ⟨b, 0, none⟩)) u.v).run Tryd.prog w = .ok () w' ∧ RP.Bx w' b u ∧ Tch (fun j => j = b) w w' := by
  have t := setRow_tch w b u.c.toArray
  refine ⟨_, RowT.bx_store RP_is hx hu h, setRow_heap w b _ _ _ _ h, t.mono (fun j _ e => ?_)⟩
  simp at e
  exact e.symm
/-- A place's box, written at once. -/
theorem pl_new (w : World) {u : PlK} (hu : u.ok) : ∃ w1 w2, (Instr.alloc 52 true (.tuple #[])).run Tryd.prog w = .ok (.pointer (some ⟨w.heap.size, 0, none⟩)) w1 ∧ (Instr.storeAt 52 (.pointer (some ⟨w.heap.size, 0, none⟩)) u.v).run Tryd.prog w1 = .ok () w2 ∧ RP.Bx w2 w.heap.size u ∧ Below w.heap.size w w2 := by
  obtain ⟨w1, e1, n1, b1⟩ := pl_box w
  obtain ⟨w2, e2, n2, t2⟩ := pl_put zPl_ok hu n1
  exact ⟨w1, w2, e1, e2, n2, b1.trans (t2.below b1.size (fun j e => by rw [e]; exact Nat.le_refl _))⟩
def RI : RowT IdK := ⟨IdK.c, IdK.ok, 33, 40, 38, 43, zId⟩
theorem RI_is : RI.Is := ⟨zId_ok, fun _ h => IdK.len h, IdK.one, Tryd.underlying43, by kernel_rfl, ⟨_, Tryd.underlying38, rfl⟩, by decide, by decide⟩
theorem id_newR (w : World) {u : IdK} (hu : u.ok) : ∃ w1 w2, (Instr.alloc 38 true (.tuple #[])).run Tryd.prog w = .ok (.pointer (some ⟨w.heap.size, 0, none⟩)) w1 ∧ (Instr.storeAt 38 (.pointer (some ⟨w.heap.size, 0, none⟩)) u.v).run Tryd.prog w1 = .ok () w2 ∧ w2.heap[w.heap.size]? = some (.cells u.c.toArray 38 (0, 0)) ∧ Below w.heap.size w w2 :=
  ⟨_, _, RowT.bx_zero RI_is w, RowT.bx_new RI_is w hu, heap_alloc_new _ _, (Below.refl _ _).alloc (Nat.le_refl _) _⟩
/-- The place of a number. -/
def atP (Ps : List PlK) (m : Int) : PlK := if m < 0 then zPl else (Ps[m.toNat]?).getD zPl
theorem atP_ok {Ps : List PlK} (h : ∀ x ∈ Ps, x.ok) (m : Int) : (atP Ps m).ok := by
  unfold atP
  split
  · exact zPl_ok
  · cases e : Ps[m.toNat]? with
    | none => exact zPl_ok
    | some x => exact h x (List.mem_of_getElem? e)
theorem build_pl (w : World) : (Instr.build 52 #[]).run Tryd.prog w = .ok zPl.v w := by kernel_rfl
theorem ix_pl {b o m c i : Nat} (hi : i < m) (hm : m ≤ 9223372036854775807) (W : World) : (Instr.indexAt 22 (.slice (some ⟨b, o, none⟩) m c) (.int .i64 (i : Int))).run Tryd.prog W = .ok (.pointer (some ⟨b, o + i * 67, none⟩)) W := by
  go_simp
set_option maxRecDepth 100000 in
set_option maxHeartbeats 2000000 in
theorem at_any {w : World} {a : Option Addr} {c : Nat} {Ps : List PlK} (hP : RowAt 67 PlK.c w a Ps) (ok : ∀ x ∈ Ps, x.ok) (hn : Ps.length ≤ 2000000000000) {m : Int} (hm : -9223372036854775808 ≤ m ∧ m ≤ 9223372036854775807) :
    Calls Tryd.prog 15 #[.slice a Ps.length c, .int .i64 m] w fun e w' => e = .returned (atP Ps m).v ∧ Below w.heap.size w w' := by
  obtain ⟨w1, e1, n1, b1⟩ := pl_box w
  have H1 := hidMk e1
  obtain ⟨u, hu⟩ : ∃ u, atP Ps m = u := ⟨_, rfl⟩
  have hok : u.ok := by rw [← hu]; exact atP_ok ok m
  obtain ⟨w2, e2, n2, t2⟩ := pl_put zPl_ok hok n1
  have b2 : Below w.heap.size w w2 := b1.trans (t2.below b1.size (fun j e => by rw [e]; exact Nat.le_refl _))
  have H2 := hidMk e2
  have HF := hidMk (And.intro n2 b2)
  rw [hu]
  obtain ⟨n, hnn⟩ : ∃ n, Ps.length = n := ⟨_, rfl⟩
  by_cases h0 : m < 0
  · have hz : u = zPl := by rw [← hu, atP, if_pos h0]
    subst hz
    rw [hnn]
    clear e1 n1 b1 e2 n2 t2 b2 hu hP hnn
    go_enter Tryd.func15, Tryd.ntmps15
    go_wp2_with (first
      | (refine wpList_run rfl (exec_alloc (w2 := w1) rfl H1.out) ?_)
      | (refine wpList_val rfl (exec_build0 rfl (build_pl _)) ?_)
      | (refine wpList_skip rfl rfl (exec_store (w2 := w2) rfl rfl rfl H2.out) ?_)
      | fail)
    refine bodyPost_ret (results_cell_row Tryd.results15 _ _ w.heap.size _ _ _ _ rfl HF.out.1 Tryd.underlying52 rfl (szP hok)) rfl ?_
    exact ⟨rfl, HF.out.2⟩
  · obtain ⟨k, rfl⟩ : ∃ k : Nat, m = (k : Int) := ⟨m.toNat, by omega⟩
    by_cases hk : k < n
    · obtain ⟨x, hx⟩ : ∃ x, Ps[k]? = some x := ⟨_, List.getElem?_eq_getElem (by omega)⟩
      have hz : u = x := by rw [← hu, atP, if_neg h0, Int.toNat_natCast, hx]; rfl
      subst hz
      obtain ⟨g, o, rfl, lg, hr⟩ : ∃ g o, a = some ⟨g, o, none⟩ ∧ g < w.heap.size ∧ w.rangeAt g (o + k * 67) u.c := by
        rcases hP with h | ⟨g, o, e, h1, h2⟩
        · rw [h] at hx; cases hx
        · exact ⟨g, o, e, h1, h2 k u hx⟩
      have HX := hidMk (ld_pl hok (rangeAt_keep hr (b1.block g lg)))
      have HI := hidMk (ix_pl (b := g) (o := o) (c := c) hk (by omega) w1)
      rw [hnn] at hn ⊢
      clear e1 n1 b1 e2 n2 t2 b2 hu hP hnn hr hx lg
      go_enter Tryd.func15, Tryd.ntmps15
      go_wp2_with (first
        | (refine wpList_run rfl (exec_alloc (w2 := w1) rfl H1.out) ?_)
        | (refine wpList_val rfl (exec_indexAt rfl rfl rfl HI.out) ?_)
        | (refine wpList_val rfl (exec_load rfl rfl HX.out) ?_)
        | (refine wpList_skip rfl rfl (exec_store (w2 := w2) rfl rfl rfl H2.out) ?_)
        | fail)
      refine bodyPost_ret (results_cell_row Tryd.results15 _ _ w.heap.size _ _ _ _ rfl HF.out.1 Tryd.underlying52 rfl (szP hok)) rfl ?_
      exact ⟨rfl, HF.out.2⟩
    · have hz : u = zPl := by rw [← hu, atP, if_neg h0, Int.toNat_natCast, List.getElem?_eq_none (by omega)]; rfl
      subst hz
      rw [hnn]
      clear e1 n1 b1 e2 n2 t2 b2 hu hP hnn
      go_enter Tryd.func15, Tryd.ntmps15
      go_wp2_with (first
        | (refine wpList_run rfl (exec_alloc (w2 := w1) rfl H1.out) ?_)
        | (refine wpList_val rfl (exec_build0 rfl (build_pl _)) ?_)
        | (refine wpList_skip rfl rfl (exec_store (w2 := w2) rfl rfl rfl H2.out) ?_)
        | fail)
      refine bodyPost_ret (results_cell_row Tryd.results15 _ _ w.heap.size _ _ _ _ rfl HF.out.1 Tryd.underlying52 rfl (szP hok)) rfl ?_
      exact ⟨rfl, HF.out.2⟩
set_option maxRecDepth 100000 in
set_option maxHeartbeats 2000000 in
/-- live's closure. -/
theorem tells_live {w : World} {xb : Nat} {x : IdK} (hx : x.ok) (hb : w.heap[xb]? = some (.cells x.c.toArray 38 (0, 0))) : Tells w 31 #[.pointer (some ⟨xb, 0, none⟩)] (fun k => decide (k = x)) := by
  refine ⟨enters_of Tryd.func31 (by kernel_rfl) rfl, fun W bW k hk => ?_⟩
  obtain ⟨w1, E1, n1, b1⟩ := box_id W k
  have hW := (bW.block xb (Array.getElem?_eq_some_iff.1 hb).1).trans hb
  have h1 := (b1.block xb (Array.getElem?_eq_some_iff.1 hW).1).trans hW
  have H1 := hidMk E1
  have L1 := hidMk (load_id hk n1)
  have L2 := hidMk (load_id hx h1)
  have HB := hidMk b1
  have EQ := hidMk (eql_idR k x hk hx w1)
  clear E1 n1 b1 hW h1 bW hb
  show Calls Tryd.prog 31 #[k.v, .pointer (some ⟨xb, 0, none⟩)] W _
  go_enter Tryd.func31, Tryd.ntmps31
  go_wp2_with (first
    | (refine wpList_run rfl (exec_boxE (t := 38) (v := k.v) (u := .pointer (some ⟨W.heap.size, 0, none⟩)) (w2 := w1) rfl rfl H1.out) ?_)
    | (refine wpList_val rfl (exec_load (v := k.v) rfl rfl L1.out) ?_)
    | (refine wpList_val rfl (exec_load (v := x.v) rfl rfl L2.out) ?_)
    | (refine wpList_val rfl (exec_binOp rfl rfl rfl (guard_idR _ _ _ _ _ _) EQ.out) ?_)
    | fail)
  go_ret
  exact ⟨rfl, HB.out⟩
end Go.Proofs.YtldlljobofnmmaaDoor

namespace Go.Proofs.YtldlljobofnmmaaDoor
set_option linter.unusedVariables false
set_option linter.unusedSimpArgs false
set_option linter.unusedSectionVars false

namespace Rv
/-- A call: its place, its kind, its value, what it had seen, and what it does to a value that it adds to. -/
structure Sy (P V : Type) where
  pl : P
  kd : Int
  v : V
  kn : Nat → Bool
  su : V → V
section
variable {I P V : Type} [DecidableEq I] [DecidableEq P]
def Sy.puts (s : Sy P V) : Bool := !(s.kd == 1) && !(s.kd == 2)
/-- What became of the value of the call i at the place p, behind m calls; and whether it is gone. -/
def tr (S : Nat → Sy P V) (p : P) (i : Nat) : Nat → V × Bool
  | 0 => ((S i).v, false)
  | m + 1 => if m ≤ i then ((S i).v, false) else if (S m).pl = p ∧ (S m).kn i = true then (if (S m).kd = 2 then ((S m).su (tr S p i m).1, (tr S p i m).2) else ((tr S p i m).1, true)) else tr S p i m
theorem tr_le (S : Nat → Sy P V) (p : P) (i : Nat) {m : Nat} (h : m ≤ i + 1) : tr S p i m = ((S i).v, false) := by
  cases m with
  | zero => rfl
  | succ m => unfold tr; rw [if_pos (by omega)]
theorem tr_succ (S : Nat → Sy P V) (p : P) {i m : Nat} (h : i < m) : tr S p i (m + 1) = if (S m).pl = p ∧ (S m).kn i = true then (if (S m).kd = 2 then ((S m).su (tr S p i m).1, (tr S p i m).2) else ((tr S p i m).1, true)) else tr S p i m := by
  rw [tr, if_neg (by omega)]
theorem tr_miss (S : Nat → Sy P V) (p : P) {i m : Nat} (h : i < m) (q : ¬ ((S m).pl = p ∧ (S m).kn i = true)) : tr S p i (m + 1) = tr S p i m := by rw [tr_succ S p h, if_neg q]
theorem tr_add (S : Nat → Sy P V) (p : P) {i m : Nat} (h : i < m) (q : (S m).pl = p ∧ (S m).kn i = true) (k : (S m).kd = 2) : tr S p i (m + 1) = ((S m).su (tr S p i m).1, (tr S p i m).2) := by rw [tr_succ S p h, if_pos q, if_pos k]
theorem tr_gone (S : Nat → Sy P V) (p : P) {i m : Nat} (h : i < m) (q : (S m).pl = p ∧ (S m).kn i = true) (k : ¬ (S m).kd = 2) : tr S p i (m + 1) = ((tr S p i m).1, true) := by rw [tr_succ S p h, if_pos q, if_neg k]
/-- What is left of the call i at p behind m calls. -/
def lf (nm : Nat → I) (S : Nat → Sy P V) (p : P) (m i : Nat) : Option (I × V) := if (S i).puts = true ∧ (S i).pl = p ∧ (tr S p i m).2 = false then some (nm i, (tr S p i m).1) else none
/-- What lies at p behind m calls. -/
def ls (nm : Nat → I) (S : Nat → Sy P V) (p : P) (m : Nat) : List (I × V) := (List.range m).filterMap (lf nm S p m)
/-- The calls that a call had seen. -/
def ids (nm : Nat → I) (s : Sy P V) (i : Nat) : List I := ((List.range i).filter s.kn).map nm
/-- What a call makes of what lies at its place. -/
def op (nm : Nat → I) (i : Nat) (s : Sy P V) (L : List (I × V)) : List (I × V) :=
  if s.kd = 1 then L.filter (fun x => !decide (x.1 ∈ ids nm s i))
  else if s.kd = 2 then L.map (fun x => if decide (x.1 ∈ ids nm s i) then (x.1, s.su x.2) else x)
  else L.filter (fun x => !decide (x.1 ∈ ids nm s i)) ++ [(nm i, s.v)]
theorem mem_ids {nm : Nat → I} (inj : ∀ i j, nm i = nm j → i = j) (s : Sy P V) {i j : Nat} (h : j < i) : decide (nm j ∈ ids nm s i) = s.kn j := by
  have : nm j ∈ ids nm s i ↔ s.kn j = true := by
    unfold ids
    rw [List.mem_map]
    constructor
    · rintro ⟨k, hk, e⟩
      rw [← inj _ _ e]
      exact (List.mem_filter.1 hk).2
    · intro hk
      exact ⟨j, List.mem_filter.2 ⟨List.mem_range.2 h, hk⟩, rfl⟩
  by_cases q : s.kn j = true
  · rw [q]; exact decide_eq_true (this.2 q)
  · rw [decide_eq_false (fun r => q (this.1 r))]; simpa using q
theorem ls_zero (nm : Nat → I) (S : Nat → Sy P V) (p : P) : ls nm S p 0 = [] := rfl
theorem fm_filter {α β : Type} (f : α → Option β) (q : β → Bool) (l : List α) : (l.filterMap f).filter q = l.filterMap (fun x => (f x).filter q) := by
  rw [← List.filterMap_eq_filter, List.filterMap_filterMap]
  refine congrArg (fun g => List.filterMap g l) (funext fun x => ?_)
  cases f x with
  | none => rfl
  | some y => cases h : q y <;> simp [Option.guard, Option.filter, h]
theorem fm_map {α β γ : Type} (f : α → Option β) (g : β → γ) (l : List α) : (l.filterMap f).map g = l.filterMap (fun x => (f x).map g) := by
  rw [List.map_filterMap]
theorem fm_congr {α β : Type} {f g : α → Option β} : ∀ {l : List α}, (∀ x ∈ l, f x = g x) → l.filterMap f = l.filterMap g
  | [], _ => rfl
  | x :: l, h => by
    have e := h x (by simp)
    have ih := fm_congr (l := l) (fun y hy => h y (by simp [hy]))
    rw [List.filterMap_cons, List.filterMap_cons, e, ih]
theorem lf_new (nm : Nat → I) (S : Nat → Sy P V) (p : P) (m : Nat) : lf nm S p (m + 1) m = if (S m).puts = true ∧ (S m).pl = p then some (nm m, (S m).v) else none := by
  unfold lf
  rw [tr_le S p m (Nat.le_refl _)]
  simp
/-- A call at its place. -/
theorem ls_here {nm : Nat → I} (inj : ∀ i j, nm i = nm j → i = j) (S : Nat → Sy P V) (p : P) (m : Nat) (h : (S m).pl = p) : ls nm S p (m + 1) = op nm m (S m) (ls nm S p m) := by
  unfold ls op
  rw [List.range_succ, List.filterMap_append, List.filterMap_cons, List.filterMap_nil, lf_new]
  have rem : (S m).kd ≠ 2 → List.filterMap (lf nm S p (m + 1)) (List.range m) = List.filter (fun x => !decide (x.1 ∈ ids nm (S m) m)) (List.filterMap (lf nm S p m) (List.range m)) := by
    intro h2
    rw [fm_filter]
    refine fm_congr fun i hi => ?_
    have hi := List.mem_range.1 hi
    unfold lf
    by_cases hk : (S m).kn i = true
    · rw [tr_gone S p hi ⟨h, hk⟩ h2, if_neg (by simp)]
      split
      · rw [Option.filter, mem_ids inj (S m) hi, hk]; rfl
      · rfl
    · rw [tr_miss S p hi (fun q => hk q.2)]
      split
      · rw [Option.filter, mem_ids inj (S m) hi, show (S m).kn i = false by simpa using hk]; rfl
      · rfl
  by_cases h1 : (S m).kd = 1
  · have hp : (S m).puts = false := by simp [Sy.puts, h1]
    rw [if_pos h1, hp, if_neg (by simp), rem (by omega)]
    simp
  · rw [if_neg h1]
    by_cases h2 : (S m).kd = 2
    · have hp : (S m).puts = false := by simp [Sy.puts, h2]
      rw [if_pos h2, hp, if_neg (by simp), fm_map]
      simp only [List.append_nil]
      refine fm_congr fun i hi => ?_
      have hi := List.mem_range.1 hi
      unfold lf
      by_cases hk : (S m).kn i = true
      · rw [tr_add S p hi ⟨h, hk⟩ h2]
        split
        · rw [Option.map_some, if_pos (by rw [mem_ids inj (S m) hi]; exact hk)]
        · rfl
      · rw [tr_miss S p hi (fun q => hk q.2)]
        split
        · rw [Option.map_some, if_neg (by rw [mem_ids inj (S m) hi]; exact hk)]
        · rfl
    · have hp : (S m).puts = true := by simp [Sy.puts, h1, h2]
      rw [if_neg h2, if_pos ⟨hp, h⟩, rem h2]
/-- A call elsewhere. -/
theorem ls_there (nm : Nat → I) (S : Nat → Sy P V) (p : P) (m : Nat) (h : (S m).pl ≠ p) : ls nm S p (m + 1) = ls nm S p m := by
  unfold ls
  rw [List.range_succ, List.filterMap_append, List.filterMap_cons, List.filterMap_nil, lf_new, if_neg (fun q => h q.2)]
  simp only [List.append_nil]
  refine fm_congr fun i hi => ?_
  unfold lf
  rw [tr_miss S p (List.mem_range.1 hi) (fun q => h q.1)]
theorem ls_len (nm : Nat → I) (S : Nat → Sy P V) (p : P) (m : Nat) : (ls nm S p m).length ≤ m := by
  have := List.length_filterMap_le (lf nm S p m) (List.range m)
  rw [List.length_range] at this
  exact this
/-- The law's own list, as it grows. -/
def wn (nm : Nat → I) (S : Nat → Sy P V) (p : P) (n i : Nat) : List (I × V) := (List.range i).filterMap (lf nm S p n)
theorem wn_succ (nm : Nat → I) (S : Nat → Sy P V) (p : P) (n i : Nat) : wn nm S p n (i + 1) = wn nm S p n i ++ (match lf nm S p n i with | none => [] | some x => [x]) := by
  unfold wn
  rw [List.range_succ, List.filterMap_append, List.filterMap_cons, List.filterMap_nil]
  cases lf nm S p n i <;> rfl
end
end Rv
end Go.Proofs.YtldlljobofnmmaaDoor

namespace Go.Proofs.YtldlljobofnmmaaDoor
open Go.ChangeShapes Go.WideShapes Go.ChangeAt Go.RowKit
set_option linter.unusedVariables false
set_option linter.unusedSimpArgs false

/-- A call of a row whose Ids are unlike, as it came in. -/
structure SyR where
  kind : Int
  pl : Int
  v : VaV
  n : Int
  seen : Value
  sl : List Int
def inC (z : Int) : List Value := [.int .i64 z]
def SyR.c (o : SyR) : List Value := (.int .i64 o.kind) :: (.int .i64 o.pl) :: (o.v.c ++ [.int .i64 o.n, o.seen])
def SyR.a (o : SyR) : Value := .agg o.c.toArray
structure SyR.ok (W : World) (o : SyR) : Prop where
  v : o.v.ok
  kind : -9223372036854775808 ≤ o.kind ∧ o.kind ≤ 9223372036854775807
  pl : -9223372036854775808 ≤ o.pl ∧ o.pl ≤ 9223372036854775807
  n : -9223372036854775808 ≤ o.n ∧ o.n ≤ 9223372036854775807
  seen : ∃ a cap, o.seen = .slice a o.sl.length cap ∧ RowAt 1 inC W a o.sl
  len : o.sl.length ≤ 9223372036854775807
  sls : ∀ z ∈ o.sl, -9223372036854775808 ≤ z ∧ z ≤ 9223372036854775807
theorem SyR.len8 (o : SyR) : o.c.length = 8 := by simp [SyR.c, VaV.len]
theorem SyR.ok.below {w w' : World} {o : SyR} (h : o.ok w) (b : Below w.heap.size w w') : o.ok w' := ⟨h.v, h.kind, h.pl, h.n, by
  obtain ⟨a, cap, e, r⟩ := h.seen
  exact ⟨a, cap, e, r.below b⟩, h.len, h.sls⟩
theorem cells_say : Tryd.prog.cellsOf 74 = 8 := by kernel_rfl
theorem cells_intl : Tryd.prog.cellsOf 31 = 1 := by kernel_rfl
section
variable {H : Type} {enc : TypeId × Value → H} {W : World}
set_option maxRecDepth 100000 in
theorem say_cells (fuel : Nat) (cs : List Value) (y : DataW H × List MemPlace) (h : DataW.trod enc Tryd.prog W 0 (fun _ => true) true fuel 74 cs = some y) : ∃ x : SyR, x.ok W ∧ cs = x.c := by
  obtain ⟨xs, n, _, hx, hcl, hlen, hfs⟩ := DataW.trod_struct Tryd.underlying74 h
  rw [cells_say] at hcl
  have hlen : xs.length = 5 := hlen
  obtain ⟨A, R, rfl, hA, hR⟩ := list_split (n := 2) (m := 6) hcl
  obtain ⟨C, D, rfl, hC, hD⟩ := list_split (n := 4) (m := 2) hR
  obtain ⟨a0, a1, rfl⟩ : ∃ a b, A = [a, b] := by
    match A, hA with
    | [a, b], _ => exact ⟨a, b, rfl⟩
  obtain ⟨d0, d1, rfl⟩ : ∃ a b, D = [a, b] := by
    match D, hD with
    | [a, b], _ => exact ⟨a, b, rfl⟩
  match xs, hlen with
  | [y0, y1, y2, y3, y4], _ =>
    have t0 : DataW.trod enc Tryd.prog W 0 (fun _ => true) true n 3 ((([a0, a1] ++ (C ++ [d0, d1])).drop 0).take (Tryd.prog.cellsOf 3)) = some y0 := hfs 0 _ rfl
    have t1 : DataW.trod enc Tryd.prog W 0 (fun _ => true) true n 3 ((([a0, a1] ++ (C ++ [d0, d1])).drop 1).take (Tryd.prog.cellsOf 3)) = some y1 := hfs 1 _ rfl
    have t2 : DataW.trod enc Tryd.prog W 0 (fun _ => true) true n 42 ((([a0, a1] ++ (C ++ [d0, d1])).drop 2).take (Tryd.prog.cellsOf 42)) = some y2 := hfs 2 _ rfl
    have t3 : DataW.trod enc Tryd.prog W 0 (fun _ => true) true n 2 ((([a0, a1] ++ (C ++ [d0, d1])).drop 6).take (Tryd.prog.cellsOf 2)) = some y3 := hfs 3 _ rfl
    have t4 : DataW.trod enc Tryd.prog W 0 (fun _ => true) true n 31 ((([a0, a1] ++ (C ++ [d0, d1])).drop 7).take (Tryd.prog.cellsOf 31)) = some y4 := hfs 4 _ rfl
    have dC : ([a0, a1] ++ (C ++ [d0, d1])).drop 2 = C ++ [d0, d1] := rfl
    have dD : ([a0, a1] ++ (C ++ [d0, d1])).drop 6 = [d0, d1] := by
      rw [show 6 = 2 + C.length by omega, ← List.drop_drop, dC, List.drop_left]
    have dE : ([a0, a1] ++ (C ++ [d0, d1])).drop 7 = [d1] := by
      rw [show 7 = 6 + 1 by omega, ← List.drop_drop, dD]; rfl
    rw [cells_int] at t0 t1
    rw [cells_va, dC, ← hC, List.take_left] at t2
    rw [cells_i64, dD] at t3
    rw [cells_intl, dE] at t4
    obtain ⟨z0, q0, _, w0⟩ := DataW.trod_int Tryd.underlying3 t0
    obtain ⟨z1, q1, _, w1⟩ := DataW.trod_int Tryd.underlying3 t1
    obtain ⟨x2, o2, q2⟩ := va_cells _ _ _ t2
    obtain ⟨z3, q3, _, w3⟩ := DataW.trod_int Tryd.underlying2 t3
    have t4' : DataW.trod enc Tryd.prog W 0 (fun _ => true) true n 31 [d1] = some y4 := t4
    obtain ⟨sa, sl, sc, hs, hm⟩ : ∃ a l c, d1 = .slice a l c ∧ l ≤ 9223372036854775807 := by
      rcases DataW.trod_slice Tryd.underlying31 t4' with ⟨e, _⟩ | ⟨ad, l, c, _, _, _, _, e, _, _, h1, h2, _⟩
      · exact ⟨none, 0, 0, (List.cons.inj e).1, by omega⟩
      · exact ⟨some ad, l, c, (List.cons.inj e).1, by unfold maxLen at h2; omega⟩
    subst hs
    obtain ⟨L, hl, hok, hat, _⟩ := view_rows (k := 1) (encd := inC) (ok := fun z => -9223372036854775808 ≤ z ∧ z ≤ 9223372036854775807) Tryd.underlying31 cells_int (by omega) (fun x hx => rfl) (fun fuel cs y h => by
      obtain ⟨z, q, _, w⟩ := DataW.trod_int Tryd.underlying3 h
      exact ⟨z, i64_wf w, q⟩) (d := y4.1) (p := y4.2) ⟨n, t4'⟩
    simp at q0 q1 q3
    subst q0 q1 q2 q3 hl
    exact ⟨⟨z0, z1, x2, z3, _, L⟩, ⟨o2, i64_wf w0, i64_wf w1, i64_wf w3, ⟨sa, sc, rfl, hat⟩, hm, hok⟩, rfl⟩
theorem view_says {a : Option Addr} {len cap : Nat} {d : DataW H} {p : List MemPlace} (h : DataW.Trod enc Tryd.prog W 0 (fun _ => true) true 70 (.slice a len cap) d p) :
    ∃ L : List SyR, L.length = len ∧ (∀ x ∈ L, x.ok W) ∧ RowAt 8 SyR.c W a L ∧ (d = .nil ∧ len = 0 ∨ ∃ el sp, d = .slice el sp ∧ el.length = len) :=
  view_rows (ok := SyR.ok W) Tryd.underlying70 cells_say (by omega) (fun x hx => SyR.len8 x) say_cells h
end
theorem bytes_say : Tryd.prog.bytesOf 74 = 88 := by kernel_rfl
theorem reach_says {H : Type} {ts : List TypeId} {ds : List (DataW H)} (hsz : (DataW.weightsEach Tryd.prog ts ds).all (· ≤ reachBytes) = true) (j : Nat) (ht : ts[j]? = some 70) {d : DataW H} (hd : ds[j]? = some d) {len : Nat}
    (h : d = .nil ∧ len = 0 ∨ ∃ el sp, d = .slice el sp ∧ el.length = len) : len ≤ 1599289640355 := by
  rcases h with ⟨_, rfl⟩ | ⟨el, sp, rfl, rfl⟩
  · omega
  · have := sized_slice hsz (j := j) (t := 70) (e := 74) ht hd Tryd.underlying70
    rw [bytes_say] at this
    simp only [reachBytes] at this
    omega
/-- What a call says, without memory. -/
def SyR.s (Ps : List PlK) (o : SyR) : Rv.Sy PlK VaV := ⟨atP Ps o.pl, o.kind, o.v, fun i => decide ((i : Int) ∈ o.sl), sumV o.n⟩
/-- The Id of the call of a number. -/
def nmI (i : Nat) : IdK := ⟨UInt8.ofNat i :: UInt8.ofNat (i / 256) :: UInt8.ofNat (i / 65536) :: List.replicate 29 0, (i : Int) + 1⟩
theorem nmI_inj (i j : Nat) (h : nmI i = nmI j) : i = j := by
  have := congrArg IdK.n h
  simp only [nmI] at this
  omega
end Go.Proofs.YtldlljobofnmmaaDoor

namespace Go.Proofs.YtldlljobofnmmaaDoor
open Go.RowKit
set_option linter.unusedVariables false
set_option linter.unusedSimpArgs false

theorem fg_88_0 (b o : Nat) (w : World) : (Instr.fieldAt 88 (.pointer (some ⟨b, o, none⟩)) 0).run Tryd.prog w = .ok (.pointer (some ⟨b, o + 0, none⟩)) w := by go_simp
theorem fg_88_1 (b o : Nat) (w : World) : (Instr.fieldAt 88 (.pointer (some ⟨b, o, none⟩)) 1).run Tryd.prog w = .ok (.pointer (some ⟨b, o + 1, none⟩)) w := by go_simp
theorem fg_122_0 (b o : Nat) (w : World) : (Instr.fieldAt 122 (.pointer (some ⟨b, o, none⟩)) 0).run Tryd.prog w = .ok (.pointer (some ⟨b, o + 0, none⟩)) w := by go_simp
theorem fg_122_1 (b o : Nat) (w : World) : (Instr.fieldAt 122 (.pointer (some ⟨b, o, none⟩)) 1).run Tryd.prog w = .ok (.pointer (some ⟨b, o + 67, none⟩)) w := by go_simp
theorem ix_idR {b o m c i : Nat} (hi : i < m) (hm : m ≤ 9223372036854775807) (W : World) : (Instr.indexAt 43 (.slice (some ⟨b, o, none⟩) m c) (.int .i64 (i : Int))).run Tryd.prog W = .ok (.pointer (some ⟨b, o + 33 * i, none⟩)) W := by
  rw [Nat.mul_comm]
  go_simp
theorem ix_sl {b o m c i : Nat} (hi : i < m) (hm : m ≤ 9223372036854775807) (W : World) : (Instr.indexAt 85 (.slice (some ⟨b, o, none⟩) m c) (.int .i64 (i : Int))).run Tryd.prog W = .ok (.pointer (some ⟨b, o + 68 * i, none⟩)) W := by
  rw [Nat.mul_comm]
  go_simp
theorem ex_eqlX {w : World} {a : Act} {o : Oper} {x y : Operand} {p q : IdK} (hp : p.ok) (hq : q.ok) (ho : o.op = .binOp .eql 38 x y 38) (hx : a.eval x = p.v) (hy : a.eval y = q.v) : (execOp a.eval o).run Tryd.prog w = .ok (.value (.bool (decide (p = q)))) w := exec_binOp ho hx hy (guard_idR _ _ _ _ _ _) (eql_idR p q hp hq w)
theorem guard_plR (x y : Operand) (a b : PlK) (w : World) (op : BinOp) : (eqGuard op 52 x y a.v b.v).run Tryd.prog w = .ok () w := by
  unfold eqGuard
  cases op <;> simp [PlK.v]
theorem eql_plR (a b : PlK) (ha : a.ok) (hb : b.ok) (w : World) : (binOp .eql 52 a.v b.v).run Tryd.prog w = .ok (.bool (decide (a = b))) w := by
  have h := eqPl 9996 a b ha hb w
  have : (Op.equal 52 a.v b.v).run Tryd.prog w = .ok (decide (a = b)) w := h
  unfold PlK.v at *
  simp only [binOp]
  simp [this]
theorem ex_eqlP {w : World} {a : Act} {o : Oper} {x y : Operand} {p q : PlK} (hp : p.ok) (hq : q.ok) (ho : o.op = .binOp .eql 52 x y 52) (hx : a.eval x = p.v) (hy : a.eval y = q.v) : (execOp a.eval o).run Tryd.prog w = .ok (.value (.bool (decide (p = q)))) w := exec_binOp ho hx hy (guard_plR _ _ _ _ _ _) (eql_plR p q hp hq w)
set_option maxRecDepth 100000 in
theorem build_sl0 (w : World) (ea : Option Addr) (en ec : Nat) (a0 a1 a2 a3 a4 a5 a6 a7 a8 a9 a10 a11 a12 a13 a14 a15 a16 a17 a18 a19 a20 a21 a22 a23 a24 a25 a26 a27 a28 a29 a30 a31 a32 a33 a34 a35 a36 a37 a38 a39 a40 a41 a42 a43 a44 a45 a46 a47 a48 a49 a50 a51 a52 a53 a54 a55 a56 a57 a58 a59 a60 a61 a62 a63 a64 a65 a66 : Value) : (Instr.build 122 #[(0, .agg [a0, a1, a2, a3, a4, a5, a6, a7, a8, a9, a10, a11, a12, a13, a14, a15, a16, a17, a18, a19, a20, a21, a22, a23, a24, a25, a26, a27, a28, a29, a30, a31, a32, a33, a34, a35, a36, a37, a38, a39, a40, a41, a42, a43, a44, a45, a46, a47, a48, a49, a50, a51, a52, a53, a54, a55, a56, a57, a58, a59, a60, a61, a62, a63, a64, a65, a66].toArray), (1, .slice ea en ec)]).run Tryd.prog w = .ok (.agg ([a0, a1, a2, a3, a4, a5, a6, a7, a8, a9, a10, a11, a12, a13, a14, a15, a16, a17, a18, a19, a20, a21, a22, a23, a24, a25, a26, a27, a28, a29, a30, a31, a32, a33, a34, a35, a36, a37, a38, a39, a40, a41, a42, a43, a44, a45, a46, a47, a48, a49, a50, a51, a52, a53, a54, a55, a56, a57, a58, a59, a60, a61, a62, a63, a64, a65, a66] ++ [Value.slice ea en ec]).toArray) w := by kernel_rfl
set_option maxRecDepth 100000 in
theorem build_sl (w : World) {p : PlK} (hp : p.ok) (ea : Option Addr) (en ec : Nat) : (Instr.build 122 #[(0, p.v), (1, .slice ea en ec)]).run Tryd.prog w = .ok (.agg (p.c ++ [Value.slice ea en ec]).toArray) w := by
  have h := PlK.len hp
  unfold PlK.v
  generalize p.c = l at *
  match l, h with
  | a0 :: a1 :: a2 :: a3 :: a4 :: a5 :: a6 :: a7 :: a8 :: a9 :: a10 :: a11 :: a12 :: a13 :: a14 :: a15 :: a16 :: a17 :: a18 :: a19 :: a20 :: a21 :: a22 :: a23 :: a24 :: a25 :: a26 :: a27 :: a28 :: a29 :: a30 :: a31 :: a32 :: a33 :: a34 :: a35 :: a36 :: a37 :: a38 :: a39 :: a40 :: a41 :: a42 :: a43 :: a44 :: a45 :: a46 :: a47 :: a48 :: a49 :: a50 :: a51 :: a52 :: a53 :: a54 :: a55 :: a56 :: a57 :: a58 :: a59 :: a60 :: a61 :: a62 :: a63 :: a64 :: a65 :: a66 :: [], _ => exact build_sl0 w ea en ec a0 a1 a2 a3 a4 a5 a6 a7 a8 a9 a10 a11 a12 a13 a14 a15 a16 a17 a18 a19 a20 a21 a22 a23 a24 a25 a26 a27 a28 a29 a30 a31 a32 a33 a34 a35 a36 a37 a38 a39 a40 a41 a42 a43 a44 a45 a46 a47 a48 a49 a50 a51 a52 a53 a54 a55 a56 a57 a58 a59 a60 a61 a62 a63 a64 a65 a66
theorem exec_bsl {w : World} {a : Act} {o : Oper} {x y : Operand} {p : PlK} {ea : Option Addr} {en ec : Nat} (hp : p.ok) (ho : o.op = .build 122 #[(0, x), (1, y)]) (hx : a.eval x = p.v) (hy : a.eval y = .slice ea en ec) : (execOp a.eval o).run Tryd.prog w = .ok (.value (.agg (p.c ++ [Value.slice ea en ec]).toArray)) w :=
  exec_build ho (by simp [hx, hy]) (build_sl w hp ea en ec)
def saw4_o0 : Oper := { dst := some 12, op := Op.move (Operand.tmp 0), type := 43, pos := "ref.go:46", after := #[], guard := none }
def saw4_o1 : Oper := { dst := some 13, op := Op.move (Operand.tmp 5), type := 3, pos := "ref.go:46", after := #[], guard := none }
def saw4_o2 : Oper := { dst := some 14, op := Op.indexAddr 43 (Operand.tmp 12) (Operand.tmp 13), type := 0, pos := "ref.go:46", after := #[{ on := 0, ground := Ground.data }, { on := 1, ground := Ground.data }], guard := none }
def saw4_o3 : Oper := { dst := some 15, op := Op.load 38 (Operand.tmp 14), type := 38, pos := "ref.go:46", after := #[{ on := 2, ground := Ground.data }], guard := none }
def saw4_o4 : Oper := { dst := some 16, op := Op.load 38 (Operand.tmp 3), type := 38, pos := "ref.go:46", after := #[], guard := none }
def saw4_o5 : Oper := { dst := some 17, op := Op.binOp BinOp.eql 38 (Operand.tmp 15) (Operand.tmp 16) 38, type := 4, pos := "ref.go:46", after := #[{ on := 3, ground := Ground.data }, { on := 4, ground := Ground.data }], guard := none }
def saw4_ops : Array Oper := #[saw4_o0, saw4_o1, saw4_o2, saw4_o3, saw4_o4, saw4_o5]
set_option maxRecDepth 100000 in
set_option maxHeartbeats 4000000 in
theorem saw4 {g o n c i xb : Nat} {x y : IdK} (a : Act) (w : World) (Q : Exit → Act → World → Prop) (zz : a.tmps.size = 18)
    (t0 : a.tmps.getD 0 undef = .slice (some ⟨g, o, none⟩) n c)
    (t3 : a.tmps.getD 3 undef = .pointer (some ⟨xb, 0, none⟩))
    (t5 : a.tmps.getD 5 undef = .int .i64 (i : Int))
    (hx : x.ok) (hy : y.ok) (hi : i < n) (hm : n ≤ 9223372036854775807) (L1 : ∀ W, W = w.drew → (Instr.loadAt 38 (.pointer (some ⟨g, o + 33 * i, none⟩))).run Tryd.prog W = .ok (x.v) W) (L2 : ∀ W, W = w.drew → (Instr.loadAt 38 (.pointer (some ⟨xb, 0, none⟩))).run Tryd.prog W = .ok (y.v) W)
    (h : ∀ (a' : Act) (w' : World), w' = w.drew → a' = ((((((a).put (some 12) (.slice (some ⟨g, o, none⟩) n c)).put (some 13) (.int .i64 (i : Int))).put (some 14) (.pointer (some ⟨g, o + 33 * i, none⟩))).put (some 15) (x.v)).put (some 16) (y.v)).put (some 17) (.bool (decide (x = y))) → Q .normal a' w') :
    (Code.region 4 saw4_ops true).wp Tryd.prog Q a w := by
  refine y0 (fun w' => w' = w.drew) (rfl) (fun hHeld => ?_)
  refine yv 0 rfl rfl (fun w1 hw => exec_move rfl (zi t0 rfl)) hHeld ?_
  refine yv 1 rfl rfl (fun w1 hw => exec_move rfl (zi t5 rfl)) hHeld ?_
  refine yv 2 rfl rfl (fun w1 hw => exec_indexAt rfl (zg zz rfl) (zg zz rfl) (ix_idR hi hm _)) hHeld ?_
  refine yv 3 rfl rfl (fun w1 hw => exec_load rfl (zg zz rfl) (L1 _ hw)) hHeld ?_
  refine yv 4 rfl rfl (fun w1 hw => exec_load rfl (zi t3 rfl) (L2 _ hw)) hHeld ?_
  refine yv (v := .bool (decide (x = y))) 5 rfl rfl (fun w1 hw => ex_eqlX hx hy rfl (zg zz rfl) (zg zz rfl)) hHeld ?_
  exact ye rfl (h _ _ (hHeld) rfl)
def fnd4_o0 : Oper := { dst := some 19, op := Op.move (Operand.tmp 0), type := 28, pos := "ref.go:56", after := #[], guard := none }
def fnd4_o1 : Oper := { dst := some 20, op := Op.nilCheck (Operand.tmp 19), type := 0, pos := "ref.go:56", after := #[{ on := 0, ground := Ground.data }], guard := none }
def fnd4_o2 : Oper := { dst := some 21, op := Op.fieldAddr 88 (Operand.tmp 20) 0, type := 0, pos := "ref.go:56", after := #[{ on := 1, ground := Ground.data }], guard := none }
def fnd4_o3 : Oper := { dst := some 22, op := Op.load 85 (Operand.tmp 21), type := 85, pos := "ref.go:56", after := #[{ on := 2, ground := Ground.data }], guard := none }
def fnd4_o4 : Oper := { dst := some 23, op := Op.move (Operand.tmp 5), type := 3, pos := "ref.go:56", after := #[], guard := none }
def fnd4_o5 : Oper := { dst := some 24, op := Op.indexAddr 85 (Operand.tmp 22) (Operand.tmp 23), type := 0, pos := "ref.go:56", after := #[{ on := 3, ground := Ground.data }, { on := 4, ground := Ground.data }], guard := none }
def fnd4_o6 : Oper := { dst := some 25, op := Op.fieldAddr 122 (Operand.tmp 24) 0, type := 0, pos := "ref.go:56", after := #[{ on := 5, ground := Ground.data }], guard := none }
def fnd4_o7 : Oper := { dst := some 26, op := Op.load 52 (Operand.tmp 25), type := 52, pos := "ref.go:56", after := #[{ on := 6, ground := Ground.data }], guard := none }
def fnd4_o8 : Oper := { dst := some 27, op := Op.load 52 (Operand.tmp 3), type := 52, pos := "ref.go:56", after := #[], guard := none }
def fnd4_o9 : Oper := { dst := some 28, op := Op.binOp BinOp.eql 52 (Operand.tmp 26) (Operand.tmp 27) 52, type := 4, pos := "ref.go:56", after := #[{ on := 7, ground := Ground.data }, { on := 8, ground := Ground.data }], guard := none }
def fnd4_ops : Array Oper := #[fnd4_o0, fnd4_o1, fnd4_o2, fnd4_o3, fnd4_o4, fnd4_o5, fnd4_o6, fnd4_o7, fnd4_o8, fnd4_o9]
set_option maxRecDepth 100000 in
set_option maxHeartbeats 4000000 in
theorem fnd4 {d g o n c i pb : Nat} {x p : PlK} (a : Act) (w : World) (Q : Exit → Act → World → Prop) (zz : a.tmps.size = 30)
    (t0 : a.tmps.getD 0 undef = .pointer (some ⟨d, 0, none⟩))
    (t3 : a.tmps.getD 3 undef = .pointer (some ⟨pb, 0, none⟩))
    (t5 : a.tmps.getD 5 undef = .int .i64 (i : Int))
    (hx : x.ok) (hp : p.ok) (hi : i < n) (hm : n ≤ 9223372036854775807) (L1 : ∀ W, W = w.drew → (Instr.loadAt 85 (.pointer (some ⟨d, 0 + 0, none⟩))).run Tryd.prog W = .ok (.slice (some ⟨g, o, none⟩) n c) W) (L2 : ∀ W, W = w.drew → (Instr.loadAt 52 (.pointer (some ⟨g, o + 68 * i + 0, none⟩))).run Tryd.prog W = .ok (x.v) W) (L3 : ∀ W, W = w.drew → (Instr.loadAt 52 (.pointer (some ⟨pb, 0, none⟩))).run Tryd.prog W = .ok (p.v) W)
    (h : ∀ (a' : Act) (w' : World), w' = w.drew → a' = ((((((((((a).put (some 19) (.pointer (some ⟨d, 0, none⟩))).put (some 20) (.pointer (some ⟨d, 0, none⟩))).put (some 21) (.pointer (some ⟨d, 0 + 0, none⟩))).put (some 22) (.slice (some ⟨g, o, none⟩) n c)).put (some 23) (.int .i64 (i : Int))).put (some 24) (.pointer (some ⟨g, o + 68 * i, none⟩))).put (some 25) (.pointer (some ⟨g, o + 68 * i + 0, none⟩))).put (some 26) (x.v)).put (some 27) (p.v)).put (some 28) (.bool (decide (x = p))) → Q .normal a' w') :
    (Code.region 4 fnd4_ops true).wp Tryd.prog Q a w := by
  refine y0 (fun w' => w' = w.drew) (rfl) (fun hHeld => ?_)
  refine yv 0 rfl rfl (fun w1 hw => exec_move rfl (zi t0 rfl)) hHeld ?_
  refine yv 1 rfl rfl (fun w1 hw => exec_nilCheck rfl (zg zz rfl)) hHeld ?_
  refine yv 2 rfl rfl (fun w1 hw => exec_fieldAt rfl (zg zz rfl) (fg_88_0 _ _ _)) hHeld ?_
  refine yv 3 rfl rfl (fun w1 hw => exec_load rfl (zg zz rfl) (L1 _ hw)) hHeld ?_
  refine yv 4 rfl rfl (fun w1 hw => exec_move rfl (zi t5 rfl)) hHeld ?_
  refine yv 5 rfl rfl (fun w1 hw => exec_indexAt rfl (zg zz rfl) (zg zz rfl) (ix_sl hi hm _)) hHeld ?_
  refine yv 6 rfl rfl (fun w1 hw => exec_fieldAt rfl (zg zz rfl) (fg_122_0 _ _ _)) hHeld ?_
  refine yv 7 rfl rfl (fun w1 hw => exec_load rfl (zg zz rfl) (L2 _ hw)) hHeld ?_
  refine yv 8 rfl rfl (fun w1 hw => exec_load rfl (zi t3 rfl) (L3 _ hw)) hHeld ?_
  refine yv (v := .bool (decide (x = p))) 9 rfl rfl (fun w1 hw => ex_eqlP hx hp rfl (zg zz rfl) (zg zz rfl)) hHeld ?_
  exact ye rfl (h _ _ (hHeld) rfl)
def cpy5_o0 : Oper := { dst := some 11, op := Op.move (Operand.tmp 3), type := 85, pos := "ref.go:27", after := #[], guard := none }
def cpy5_o1 : Oper := { dst := some 12, op := Op.move (Operand.tmp 0), type := 85, pos := "ref.go:27", after := #[], guard := none }
def cpy5_o2 : Oper := { dst := some 13, op := Op.move (Operand.tmp 4), type := 3, pos := "ref.go:27", after := #[], guard := none }
def cpy5_o3 : Oper := { dst := some 14, op := Op.indexAddr 85 (Operand.tmp 12) (Operand.tmp 13), type := 0, pos := "ref.go:27", after := #[{ on := 1, ground := Ground.data }, { on := 2, ground := Ground.data }], guard := none }
def cpy5_o4 : Oper := { dst := some 15, op := Op.fieldAddr 122 (Operand.tmp 14) 0, type := 0, pos := "ref.go:27", after := #[{ on := 3, ground := Ground.data }], guard := none }
def cpy5_o5 : Oper := { dst := some 16, op := Op.load 52 (Operand.tmp 15), type := 52, pos := "ref.go:27", after := #[{ on := 4, ground := Ground.data }], guard := none }
def cpy5_o6 : Oper := { dst := some 17, op := Op.buildSlice 60 0 #[], type := 60, pos := "ref.go:27", after := #[], guard := none }
def cpy5_o7 : Oper := { dst := some 18, op := Op.move (Operand.tmp 0), type := 85, pos := "ref.go:27", after := #[], guard := none }
def cpy5_o8 : Oper := { dst := some 19, op := Op.move (Operand.tmp 4), type := 3, pos := "ref.go:27", after := #[], guard := none }
def cpy5_o9 : Oper := { dst := some 20, op := Op.indexAddr 85 (Operand.tmp 18) (Operand.tmp 19), type := 0, pos := "ref.go:27", after := #[{ on := 7, ground := Ground.data }, { on := 8, ground := Ground.data }], guard := none }
def cpy5_o10 : Oper := { dst := some 21, op := Op.fieldAddr 122 (Operand.tmp 20) 1, type := 0, pos := "ref.go:27", after := #[{ on := 9, ground := Ground.data }], guard := none }
def cpy5_o11 : Oper := { dst := some 22, op := Op.load 60 (Operand.tmp 21), type := 60, pos := "ref.go:27", after := #[{ on := 10, ground := Ground.data }], guard := none }
def cpy5_o12 : Oper := { dst := some 23, op := Op.call { callee := Callee.builtin Builtin.append, args := #[Operand.tmp 17, Operand.tmp 22], argTypes := #[60, 60] }, type := 60, pos := "ref.go:27", after := #[{ on := 6, ground := Ground.data }, { on := 11, ground := Ground.data }], guard := none }
def cpy5_o13 : Oper := { dst := some 24, op := Op.build 122 #[(0, Operand.tmp 16), (1, Operand.tmp 23)], type := 122, pos := "ref.go:27", after := #[{ on := 5, ground := Ground.data }, { on := 12, ground := Ground.data }], guard := none }
def cpy5_o14 : Oper := { dst := some 25, op := Op.buildSlice 85 1 #[(0, Operand.tmp 24)], type := 85, pos := "ref.go:27", after := #[{ on := 13, ground := Ground.data }], guard := none }
def cpy5_o15 : Oper := { dst := some 26, op := Op.call { callee := Callee.builtin Builtin.append, args := #[Operand.tmp 11, Operand.tmp 25], argTypes := #[85, 85] }, type := 85, pos := "ref.go:27", after := #[{ on := 0, ground := Ground.data }, { on := 14, ground := Ground.data }, { on := 12, ground := Ground.chain }], guard := none }
def cpy5_o16 : Oper := { dst := some 3, op := Op.assign (Operand.tmp 26), type := 85, pos := "ref.go:27", after := #[{ on := 15, ground := Ground.data }, { on := 15, ground := Ground.chain }, { on := 0, ground := Ground.phase }, { on := 1, ground := Ground.phase }, { on := 2, ground := Ground.phase }, { on := 3, ground := Ground.phase }, { on := 4, ground := Ground.phase }, { on := 5, ground := Ground.phase }, { on := 6, ground := Ground.phase }, { on := 7, ground := Ground.phase }, { on := 8, ground := Ground.phase }, { on := 9, ground := Ground.phase }, { on := 10, ground := Ground.phase }, { on := 11, ground := Ground.phase }, { on := 12, ground := Ground.phase }, { on := 13, ground := Ground.phase }, { on := 14, ground := Ground.phase }, { on := 15, ground := Ground.phase }], guard := none }
def cpy5_ops : Array Oper := #[cpy5_o0, cpy5_o1, cpy5_o2, cpy5_o3, cpy5_o4, cpy5_o5, cpy5_o6, cpy5_o7, cpy5_o8, cpy5_o9, cpy5_o10, cpy5_o11, cpy5_o12, cpy5_o13, cpy5_o14, cpy5_o15, cpy5_o16]
set_option maxRecDepth 100000 in
set_option maxHeartbeats 4000000 in
theorem cpy5 {g o n c i en ec : Nat} {ea : Option Addr} {p : PlK} {lv ov e0 bv ov2 : Value} {w1 w2 w3 w4 : World} (S : World → Prop) (a : Act) (w : World) (Q : Exit → Act → World → Prop) (zz : a.tmps.size = 28)
    (t0 : a.tmps.getD 0 undef = .slice (some ⟨g, o, none⟩) n c)
    (t3 : a.tmps.getD 3 undef = ov)
    (t4 : a.tmps.getD 4 undef = .int .i64 (i : Int))
    (hp : p.ok) (hi : i < n) (hm : n ≤ 9223372036854775807) (h0 : S w.drew) (L1 : ∀ W, S W → (Instr.loadAt 52 (.pointer (some ⟨g, o + 68 * i + 0, none⟩))).run Tryd.prog W = .ok (p.v) W) (L2 : ∀ W, S W → (Instr.loadAt 60 (.pointer (some ⟨g, o + 68 * i + 67, none⟩))).run Tryd.prog W = .ok (lv) W) (E1 : (Instr.buildSlice 60 0 #[]).run Tryd.prog w.drew = .ok e0 w1) (S1 : S w1) (E2 : (Builtin.append_ #[60, 60] 60 #[e0, lv]).run Tryd.prog w1 = .ok (.slice ea en ec) w2) (S2 : S w2) (E3 : (Instr.buildSlice 85 1 #[(0, .agg (p.c ++ [Value.slice ea en ec]).toArray)]).run Tryd.prog w2 = .ok bv w3) (S3 : S w3) (E4 : (Builtin.append_ #[85, 85] 85 #[ov, bv]).run Tryd.prog w3 = .ok ov2 w4) (S4 : S w4)
    (h : ∀ (a' : Act) (w' : World), w' = w4 → a' = (((((((((((((((((a).put (some 11) (ov)).put (some 12) (.slice (some ⟨g, o, none⟩) n c)).put (some 13) (.int .i64 (i : Int))).put (some 14) (.pointer (some ⟨g, o + 68 * i, none⟩))).put (some 15) (.pointer (some ⟨g, o + 68 * i + 0, none⟩))).put (some 16) (p.v)).put (some 18) (.slice (some ⟨g, o, none⟩) n c)).put (some 19) (.int .i64 (i : Int))).put (some 20) (.pointer (some ⟨g, o + 68 * i, none⟩))).put (some 21) (.pointer (some ⟨g, o + 68 * i + 67, none⟩))).put (some 22) (lv)).put (some 17) (e0)).put (some 23) (.slice ea en ec)).put (some 24) (.agg (p.c ++ [Value.slice ea en ec]).toArray)).put (some 25) (bv)).put (some 26) (ov2)).put (some 3) (ov2) → Q .normal a' w') :
    (Code.region 5 cpy5_ops true).wp Tryd.prog Q a w := by
  refine y0 (fun w' => S w') (h0) (fun hHeld => ?_)
  refine yv 0 rfl rfl (fun w1 hw => exec_move rfl (zi t3 rfl)) hHeld ?_
  refine yv 1 rfl rfl (fun w1 hw => exec_move rfl (zi t0 rfl)) hHeld ?_
  refine yv 2 rfl rfl (fun w1 hw => exec_move rfl (zi t4 rfl)) hHeld ?_
  refine yv 3 rfl rfl (fun w1 hw => exec_indexAt rfl (zg zz rfl) (zg zz rfl) (ix_sl hi hm _)) hHeld ?_
  refine yv 4 rfl rfl (fun w1 hw => exec_fieldAt rfl (zg zz rfl) (fg_122_0 _ _ _)) hHeld ?_
  refine yv 5 rfl rfl (fun w1 hw => exec_load rfl (zg zz rfl) (L1 _ hw)) hHeld ?_
  refine yv 7 rfl rfl (fun w1 hw => exec_move rfl (zi t0 rfl)) hHeld ?_
  refine yv 8 rfl rfl (fun w1 hw => exec_move rfl (zi t4 rfl)) hHeld ?_
  refine yv 9 rfl rfl (fun w1 hw => exec_indexAt rfl (zg zz rfl) (zg zz rfl) (ix_sl hi hm _)) hHeld ?_
  refine yv 10 rfl rfl (fun w1 hw => exec_fieldAt rfl (zg zz rfl) (fg_122_1 _ _ _)) hHeld ?_
  refine yv 11 rfl rfl (fun w1 hw => exec_load rfl (zg zz rfl) (L2 _ hw)) hHeld ?_
  refine yr (v := e0) 6 rfl rfl (exec_bs0 rfl E1) (S1) (fun hHeld => ?_)
  refine yr (v := .slice ea en ec) 12 rfl rfl (exec_append rfl (zg zz rfl) (zg zz rfl) E2) (S2) (fun hHeld => ?_)
  refine yv (v := .agg (p.c ++ [Value.slice ea en ec]).toArray) 13 rfl rfl (fun w1 hw => exec_bsl hp rfl (zg zz rfl) (zg zz rfl)) hHeld ?_
  refine yr (v := bv) 14 rfl rfl (exec_buildSlice rfl (zg zz rfl) E3) (S3) (fun hHeld => ?_)
  refine yr (v := ov2) 15 rfl rfl (exec_append rfl (zg zz rfl) (zg zz rfl) E4) (S4) (fun hHeld => ?_)
  refine yv 16 rfl rfl (fun w1 hw => exec_assign rfl (zg zz rfl)) hHeld ?_
  exact ye rfl (h _ _ (rfl) rfl)
end Go.Proofs.YtldlljobofnmmaaDoor

namespace Go.Proofs.YtldlljobofnmmaaDoor
open Go.RowKit
set_option linter.unusedVariables false
set_option linter.unusedSimpArgs false

theorem fg_74_0 (b o : Nat) (w : World) : (Instr.fieldAt 74 (.pointer (some ⟨b, o, none⟩)) 0).run Tryd.prog w = .ok (.pointer (some ⟨b, o + 0, none⟩)) w := by go_simp
theorem fg_74_1 (b o : Nat) (w : World) : (Instr.fieldAt 74 (.pointer (some ⟨b, o, none⟩)) 1).run Tryd.prog w = .ok (.pointer (some ⟨b, o + 1, none⟩)) w := by go_simp
theorem fg_74_2 (b o : Nat) (w : World) : (Instr.fieldAt 74 (.pointer (some ⟨b, o, none⟩)) 2).run Tryd.prog w = .ok (.pointer (some ⟨b, o + 2, none⟩)) w := by go_simp
theorem fg_74_3 (b o : Nat) (w : World) : (Instr.fieldAt 74 (.pointer (some ⟨b, o, none⟩)) 3).run Tryd.prog w = .ok (.pointer (some ⟨b, o + 6, none⟩)) w := by go_simp
theorem fg_74_4 (b o : Nat) (w : World) : (Instr.fieldAt 74 (.pointer (some ⟨b, o, none⟩)) 4).run Tryd.prog w = .ok (.pointer (some ⟨b, o + 7, none⟩)) w := by go_simp
theorem ix_say {b o m c i : Nat} (hi : i < m) (hm : m ≤ 9223372036854775807) (W : World) : (Instr.indexAt 70 (.slice (some ⟨b, o, none⟩) m c) (.int .i64 (i : Int))).run Tryd.prog W = .ok (.pointer (some ⟨b, o + 8 * i, none⟩)) W := by
  rw [Nat.mul_comm]
  go_simp
theorem neq_plR (a b : PlK) (ha : a.ok) (hb : b.ok) (w : World) : (binOp .neq 52 a.v b.v).run Tryd.prog w = .ok (.bool (decide (a ≠ b))) w := by
  have h := eqPl 9996 a b ha hb w
  have : (Op.equal 52 a.v b.v).run Tryd.prog w = .ok (decide (a = b)) w := h
  unfold PlK.v at *
  simp only [binOp]
  simp [this]
theorem ex_neqP {w : World} {a : Act} {o : Oper} {x y : Operand} {p q : PlK} {r : Bool} (hp : p.ok) (hq : q.ok) (hr : decide (p ≠ q) = r) (ho : o.op = .binOp .neq 52 x y 52) (hx : a.eval x = p.v) (hy : a.eval y = q.v) : (execOp a.eval o).run Tryd.prog w = .ok (.value (.bool r)) w := by
  subst hr
  exact exec_binOp ho hx hy (guard_plR _ _ _ _ _ _) (neq_plR p q hp hq w)
theorem ex_ne2 {w : World} {a : Act} {o : Oper} {x y : Operand} {c d : Int} (ho : o.op = .binOp .neq 3 x y 3) (hx : a.eval x = .int .i64 c) (hy : a.eval y = .int .i64 d) : (execOp a.eval o).run Tryd.prog w = .ok (.value (.bool (c != d))) w := by
  refine exec_binOp ho hx hy ?_ ?_
  · kernel_rfl
  · go_simp
theorem ex_gt0 {w : World} {a : Act} {o : Oper} {x y : Operand} {n : Nat} {r : Bool} (hr : decide (0 < n) = r) (ho : o.op = .binOp .gtr 3 x y 3) (hx : a.eval x = .int .i64 (n : Int)) (hy : a.eval y = .int .i64 0) : (execOp a.eval o).run Tryd.prog w = .ok (.value (.bool r)) w := by
  subst hr
  have h2 : decide ((n : Int) > 0) = decide (0 < n) := decide_eq_decide.2 (by omega)
  refine exec_binOp ho hx hy ?_ ?_
  · kernel_rfl
  · rw [← h2]
    go_simp
theorem ex_neb {w : World} {a : Act} {o : Oper} {x y : Operand} {r : Bool} (ho : o.op = .binOp .neq 4 x y 4) (hx : a.eval x = .bool r) (hy : a.eval y = .bool r) : (execOp a.eval o).run Tryd.prog w = .ok (.value (.bool false)) w := by
  refine exec_binOp ho hx hy ?_ ?_
  · unfold eqGuard; simp
  · cases r <;> kernel_rfl
theorem ex_addw {w : World} {a : Act} {o : Oper} {x y : Operand} {m n : Int} (ho : o.op = .binOp .add 2 x y 2) (hx : a.eval x = .int .i64 m) (hy : a.eval y = .int .i64 n) : (execOp a.eval o).run Tryd.prog w = .ok (.value (.int .i64 (IntKind.i64.wrap (m + n)))) w := by
  refine exec_binOp ho hx hy ?_ ?_
  · kernel_rfl
  · go_simp
def do5_o0 : Oper := { dst := some 18, op := Op.move (Operand.tmp 2), type := 70, pos := "outright.go:40", after := #[], guard := none }
def do5_o1 : Oper := { dst := some 19, op := Op.move (Operand.tmp 3), type := 3, pos := "outright.go:40", after := #[], guard := none }
def do5_o2 : Oper := { dst := some 20, op := Op.indexAddr 70 (Operand.tmp 18) (Operand.tmp 19), type := 0, pos := "outright.go:40", after := #[{ on := 0, ground := Ground.data }, { on := 1, ground := Ground.data }], guard := none }
def do5_o3 : Oper := { dst := some 21, op := Op.load 74 (Operand.tmp 20), type := 74, pos := "outright.go:40", after := #[{ on := 2, ground := Ground.data }], guard := none }
def do5_o4 : Oper := { dst := some 22, op := Op.move (Operand.tmp 10), type := 3, pos := "outright.go:40", after := #[], guard := none }
def do5_o5 : Oper := { dst := some 23, op := Op.call { callee := Callee.value (Operand.func 28), args := #[Operand.tmp 21, Operand.tmp 22], argTypes := #[74, 3] }, type := 4, pos := "outright.go:40", after := #[{ on := 3, ground := Ground.data }, { on := 4, ground := Ground.data }], guard := none }
def do5_ops : Array Oper := #[do5_o0, do5_o1, do5_o2, do5_o3, do5_o4, do5_o5]
set_option maxRecDepth 100000 in
set_option maxHeartbeats 4000000 in
theorem do5 {g o n c i k : Nat} {x : SyR} {r : Bool} (Fin : World → Prop) (a : Act) (w : World) (Q : Exit → Act → World → Prop) (zz : a.tmps.size = 70)
    (t2 : a.tmps.getD 2 undef = .slice (some ⟨g, o, none⟩) n c)
    (t3 : a.tmps.getD 3 undef = .int .i64 (i : Int))
    (t10 : a.tmps.getD 10 undef = .int .i64 (k : Int))
    (hi : i < n) (hm : n ≤ 9223372036854775807) (LS : ∀ W, W = w → (Instr.loadAt 74 (.pointer (some ⟨g, o + 8 * i, none⟩))).run Tryd.prog W = .ok (x.a) W) (CK : Calls Tryd.prog 28 #[x.a, .int .i64 (k : Int)] w fun e w' => e = .returned (.bool r) ∧ Fin w')
    (h : ∀ (a' : Act) (w' : World), Fin w' → a' = ((((((a).put (some 18) (.slice (some ⟨g, o, none⟩) n c)).put (some 19) (.int .i64 (i : Int))).put (some 20) (.pointer (some ⟨g, o + 8 * i, none⟩))).put (some 21) (x.a)).put (some 22) (.int .i64 (k : Int))).put (some 23) (.bool r) → Q .normal a' w') :
    (Code.region 5 do5_ops false).wp Tryd.prog Q a w := by
  refine z0 rfl ?_
  refine zv rfl (exec_move rfl (zi t2 rfl)) ?_
  refine zv rfl (exec_move rfl (zi t3 rfl)) ?_
  refine zv rfl (exec_indexAt rfl (zg zz rfl) (zg zz rfl) (ix_say hi hm _)) ?_
  refine zv rfl (exec_load rfl (zg zz rfl) (LS _ rfl)) ?_
  refine zv rfl (exec_move rfl (zi t10 rfl)) ?_
  refine zc rfl (exec_c2 rfl (zg zz rfl) (zg zz rfl)) (CK) (fun e x5 hx => ?_)
  obtain ⟨rfl, HF⟩ := hx
  refine ⟨_, rfl, ?_⟩
  exact ze rfl (h _ _ (HF) rfl)
def do6_o0 : Oper := { dst := some 24, op := Op.load 43 (Operand.tmp 9), type := 43, pos := "outright.go:41", after := #[], guard := none }
def do6_o1 : Oper := { dst := some 25, op := Op.move (Operand.tmp 10), type := 3, pos := "outright.go:41", after := #[], guard := none }
def do6_o2 : Oper := { dst := some 26, op := Op.call { callee := Callee.value (Operand.func 27), args := #[Operand.tmp 25], argTypes := #[3] }, type := 38, pos := "outright.go:41", after := #[{ on := 1, ground := Ground.data }], guard := none }
def do6_o3 : Oper := { dst := some 27, op := Op.buildSlice 43 1 #[(0, Operand.tmp 26)], type := 43, pos := "outright.go:41", after := #[{ on := 2, ground := Ground.data }], guard := none }
def do6_o4 : Oper := { dst := some 28, op := Op.call { callee := Callee.builtin Builtin.append, args := #[Operand.tmp 24, Operand.tmp 27], argTypes := #[43, 43] }, type := 43, pos := "outright.go:41", after := #[{ on := 0, ground := Ground.data }, { on := 3, ground := Ground.data }, { on := 2, ground := Ground.chain }], guard := none }
def do6_o5 : Oper := { dst := none, op := Op.store 43 (Operand.tmp 9) (Operand.tmp 28), type := 0, pos := "outright.go:41", after := #[{ on := 4, ground := Ground.data }, { on := 4, ground := Ground.chain }, { on := 0, ground := Ground.phase }, { on := 1, ground := Ground.phase }, { on := 2, ground := Ground.phase }, { on := 3, ground := Ground.phase }, { on := 4, ground := Ground.phase }], guard := none }
def do6_ops : Array Oper := #[do6_o0, do6_o1, do6_o2, do6_o3, do6_o4, do6_o5]
set_option maxRecDepth 100000 in
set_option maxHeartbeats 4000000 in
theorem do6 {ib k : Nat} {iv : Value} {y : IdK} (S Fin : World → Prop) (a : Act) (w : World) (Q : Exit → Act → World → Prop) (zz : a.tmps.size = 70)
    (t9 : a.tmps.getD 9 undef = .pointer (some ⟨ib, 0, none⟩))
    (t10 : a.tmps.getD 10 undef = .int .i64 (k : Int))
    (h0 : S w.drew) (LI : ∀ W, S W → (Instr.loadAt 43 (.pointer (some ⟨ib, 0, none⟩))).run Tryd.prog W = .ok (iv) W) (CN : Calls Tryd.prog 27 #[.int .i64 (k : Int)] w.drew fun e w' => e = .returned y.v ∧ S w' ∧ ∃ sv w1 u w2 w3, (Instr.buildSlice 43 1 #[(0, y.v)]).run Tryd.prog w' = .ok sv w1 ∧ S w1 ∧ (Builtin.append_ #[43, 43] 43 #[iv, sv]).run Tryd.prog w1 = .ok u w2 ∧ S w2 ∧ (Instr.storeAt 43 (.pointer (some ⟨ib, 0, none⟩)) u).run Tryd.prog w2 = .ok () w3 ∧ Fin w3)
    (h : ∀ (sv u : Value) (a' : Act) (w' : World), Fin w' → a' = (((((a).put (some 24) (iv)).put (some 25) (.int .i64 (k : Int))).put (some 26) (y.v)).put (some 27) (sv)).put (some 28) (u) → Q .normal a' w') :
    (Code.region 6 do6_ops true).wp Tryd.prog Q a w := by
  refine x0 5 (fun w' => S w') (h0) (fun hHeld => ?_)
  refine xv 0 rfl rfl (fun w1 hw => exec_load rfl (zi t9 rfl) (LI _ hw)) hHeld ?_
  refine xv 1 rfl rfl (fun w1 hw => exec_move rfl (zi t10 rfl)) hHeld ?_
  refine xc 2 rfl rfl (exec_c1 rfl (zg zz rfl)) (CN) (fun e x2 hx => ?_)
  obtain ⟨rfl, S1, sv, w1, u, w2, w3, EB, S2, EA, S3, ES, HF⟩ := hx
  replace h := h sv u
  refine ⟨_, rfl, fun _ => S1, fun hHeld => ?_⟩
  replace hHeld := hHeld (by decide)
  refine xr (v := sv) 3 rfl rfl (exec_buildSlice rfl (zg zz rfl) EB) (fun _ => S2) (fun hHeld => ?_)
  replace hHeld := hHeld (by decide)
  refine xr (v := u) 4 rfl rfl (exec_append rfl (zg zz rfl) (zg zz rfl) EA) (fun _ => S3) (fun hHeld => ?_)
  replace hHeld := hHeld (by decide)
  refine xs 5 rfl rfl (exec_store rfl (zi t9 rfl) (zg zz rfl) ES) (fun hne => absurd rfl hne) (fun _ => ?_)
  exact xe rfl (h _ _ (HF) rfl)
def do8_o0 : Oper := { dst := some 30, op := Op.move (Operand.tmp 1), type := 22, pos := "outright.go:45", after := #[], guard := none }
def do8_o1 : Oper := { dst := some 31, op := Op.move (Operand.tmp 2), type := 70, pos := "outright.go:45", after := #[], guard := none }
def do8_o2 : Oper := { dst := some 32, op := Op.move (Operand.tmp 3), type := 3, pos := "outright.go:45", after := #[], guard := none }
def do8_o3 : Oper := { dst := some 33, op := Op.indexAddr 70 (Operand.tmp 31) (Operand.tmp 32), type := 0, pos := "outright.go:45", after := #[{ on := 1, ground := Ground.data }, { on := 2, ground := Ground.data }], guard := none }
def do8_o4 : Oper := { dst := some 34, op := Op.fieldAddr 74 (Operand.tmp 33) 1, type := 0, pos := "outright.go:45", after := #[{ on := 3, ground := Ground.data }], guard := none }
def do8_o5 : Oper := { dst := some 35, op := Op.load 3 (Operand.tmp 34), type := 3, pos := "outright.go:45", after := #[{ on := 4, ground := Ground.data }], guard := none }
def do8_o6 : Oper := { dst := some 36, op := Op.call { callee := Callee.value (Operand.func 15), args := #[Operand.tmp 30, Operand.tmp 35], argTypes := #[22, 3] }, type := 52, pos := "outright.go:45", after := #[{ on := 0, ground := Ground.data }, { on := 5, ground := Ground.data }], guard := none }
def do8_o7 : Oper := { dst := some 12, op := Op.alloc 52, type := 0, pos := "outright.go:45", after := #[], guard := none }
def do8_o8 : Oper := { dst := none, op := Op.store 52 (Operand.tmp 12) (Operand.tmp 36), type := 0, pos := "outright.go:45", after := #[{ on := 7, ground := Ground.data }, { on := 6, ground := Ground.data }, { on := 6, ground := Ground.chain }, { on := 0, ground := Ground.phase }, { on := 1, ground := Ground.phase }, { on := 2, ground := Ground.phase }, { on := 3, ground := Ground.phase }, { on := 4, ground := Ground.phase }, { on := 5, ground := Ground.phase }, { on := 6, ground := Ground.phase }, { on := 7, ground := Ground.phase }], guard := none }
def do8_ops : Array Oper := #[do8_o0, do8_o1, do8_o2, do8_o3, do8_o4, do8_o5, do8_o6, do8_o7, do8_o8]
set_option maxRecDepth 100000 in
set_option maxHeartbeats 4000000 in
theorem do8 {g o n c i pn pc : Nat} {pa : Option Addr} {p : PlK} {x : SyR} (Fin : Nat → World → Prop) (a : Act) (w : World) (Q : Exit → Act → World → Prop) (zz : a.tmps.size = 70)
    (t1 : a.tmps.getD 1 undef = .slice pa pn pc)
    (t2 : a.tmps.getD 2 undef = .slice (some ⟨g, o, none⟩) n c)
    (t3 : a.tmps.getD 3 undef = .int .i64 (i : Int))
    (hi : i < n) (hm : n ≤ 9223372036854775807) (LQ : ∀ W, W = w → (Instr.loadAt 3 (.pointer (some ⟨g, o + 8 * i + 1, none⟩))).run Tryd.prog W = .ok (.int .i64 x.pl) W) (CA : Calls Tryd.prog 15 #[.slice pa pn pc, .int .i64 x.pl] w fun e w' => e = .returned p.v ∧ ∃ pb w1 w2, (Instr.alloc 52 true (.tuple #[])).run Tryd.prog w' = .ok (.pointer (some ⟨pb, 0, none⟩)) w1 ∧ (Instr.storeAt 52 (.pointer (some ⟨pb, 0, none⟩)) p.v).run Tryd.prog w1 = .ok () w2 ∧ Fin pb w2)
    (h : ∀ (pb : Nat) (a' : Act) (w' : World), Fin pb w' → a' = ((((((((a).put (some 30) (.slice pa pn pc)).put (some 31) (.slice (some ⟨g, o, none⟩) n c)).put (some 32) (.int .i64 (i : Int))).put (some 33) (.pointer (some ⟨g, o + 8 * i, none⟩))).put (some 34) (.pointer (some ⟨g, o + 8 * i + 1, none⟩))).put (some 35) (.int .i64 x.pl)).put (some 36) (p.v)).put (some 12) (.pointer (some ⟨pb, 0, none⟩)) → Q .normal a' w') :
    (Code.region 8 do8_ops false).wp Tryd.prog Q a w := by
  refine z0 rfl ?_
  refine zv rfl (exec_move rfl (zi t1 rfl)) ?_
  refine zv rfl (exec_move rfl (zi t2 rfl)) ?_
  refine zv rfl (exec_move rfl (zi t3 rfl)) ?_
  refine zv rfl (exec_indexAt rfl (zg zz rfl) (zg zz rfl) (ix_say hi hm _)) ?_
  refine zv rfl (exec_fieldAt rfl (zg zz rfl) (fg_74_1 _ _ _)) ?_
  refine zv rfl (exec_load rfl (zg zz rfl) (LQ _ rfl)) ?_
  refine zc rfl (exec_c2 rfl (zg zz rfl) (zg zz rfl)) (CA) (fun e x6 hx => ?_)
  obtain ⟨rfl, pb, w1, w2, EA, ES, HF⟩ := hx
  replace h := h pb
  refine ⟨_, rfl, ?_⟩
  refine zv (v := .pointer (some ⟨pb, 0, none⟩)) rfl (exec_alloc rfl EA) ?_
  refine zs rfl (exec_store rfl (zg zz rfl) (zg zz rfl) ES) ?_
  exact ze rfl (h _ _ (HF) rfl)
def do9_o0 : Oper := { dst := some 37, op := Op.move (Operand.tmp 2), type := 70, pos := "outright.go:46", after := #[], guard := none }
def do9_o1 : Oper := { dst := some 38, op := Op.move (Operand.tmp 3), type := 3, pos := "outright.go:46", after := #[], guard := none }
def do9_o2 : Oper := { dst := some 39, op := Op.indexAddr 70 (Operand.tmp 37) (Operand.tmp 38), type := 0, pos := "outright.go:46", after := #[{ on := 0, ground := Ground.data }, { on := 1, ground := Ground.data }], guard := none }
def do9_o3 : Oper := { dst := some 40, op := Op.fieldAddr 74 (Operand.tmp 39) 0, type := 0, pos := "outright.go:46", after := #[{ on := 2, ground := Ground.data }], guard := none }
def do9_o4 : Oper := { dst := some 41, op := Op.load 3 (Operand.tmp 40), type := 3, pos := "outright.go:46", after := #[{ on := 3, ground := Ground.data }], guard := none }
def do9_ops : Array Oper := #[do9_o0, do9_o1, do9_o2, do9_o3, do9_o4]
set_option maxRecDepth 100000 in
set_option maxHeartbeats 4000000 in
theorem do9 {g o n c i : Nat} {x : SyR} (a : Act) (w : World) (Q : Exit → Act → World → Prop) (zz : a.tmps.size = 70)
    (t2 : a.tmps.getD 2 undef = .slice (some ⟨g, o, none⟩) n c)
    (t3 : a.tmps.getD 3 undef = .int .i64 (i : Int))
    (hi : i < n) (hm : n ≤ 9223372036854775807) (LQ : ∀ W, W = w → (Instr.loadAt 3 (.pointer (some ⟨g, o + 8 * i + 0, none⟩))).run Tryd.prog W = .ok (.int .i64 x.kind) W)
    (h : ∀ (a' : Act) (w' : World), w' = w → a' = (((((a).put (some 37) (.slice (some ⟨g, o, none⟩) n c)).put (some 38) (.int .i64 (i : Int))).put (some 39) (.pointer (some ⟨g, o + 8 * i, none⟩))).put (some 40) (.pointer (some ⟨g, o + 8 * i + 0, none⟩))).put (some 41) (.int .i64 x.kind) → Q .normal a' w') :
    (Code.region 9 do9_ops false).wp Tryd.prog Q a w := by
  refine z0 rfl ?_
  refine zv rfl (exec_move rfl (zi t2 rfl)) ?_
  refine zv rfl (exec_move rfl (zi t3 rfl)) ?_
  refine zv rfl (exec_indexAt rfl (zg zz rfl) (zg zz rfl) (ix_say hi hm _)) ?_
  refine zv rfl (exec_fieldAt rfl (zg zz rfl) (fg_74_0 _ _ _)) ?_
  refine zv rfl (exec_load rfl (zg zz rfl) (LQ _ rfl)) ?_
  exact ze rfl (h _ _ (rfl) rfl)
def do11_o0 : Oper := { dst := some 44, op := Op.move (Operand.tmp 0), type := 26, pos := "outright.go:48", after := #[], guard := none }
def do11_o1 : Oper := { dst := some 45, op := Op.load 52 (Operand.tmp 12), type := 52, pos := "outright.go:48", after := #[], guard := none }
def do11_o2 : Oper := { dst := some 46, op := Op.move (Operand.tmp 11), type := 80, pos := "outright.go:48", after := #[], guard := none }
def do11_o3 : Oper := { dst := some 47, op := Op.call { callee := Callee.value (Operand.func 17), args := #[Operand.tmp 44, Operand.tmp 45, Operand.tmp 46], argTypes := #[26, 52, 80] }, type := 54, pos := "outright.go:48", after := #[{ on := 0, ground := Ground.data }, { on := 1, ground := Ground.data }, { on := 2, ground := Ground.data }], guard := none }
def do11_o4 : Oper := { dst := some 8, op := Op.assign (Operand.tmp 47), type := 54, pos := "outright.go:48", after := #[{ on := 3, ground := Ground.data }, { on := 3, ground := Ground.chain }, { on := 0, ground := Ground.phase }, { on := 1, ground := Ground.phase }, { on := 2, ground := Ground.phase }, { on := 3, ground := Ground.phase }], guard := none }
def do11_ops : Array Oper := #[do11_o0, do11_o1, do11_o2, do11_o3, do11_o4]
set_option maxRecDepth 100000 in
set_option maxHeartbeats 4000000 in
theorem do11 {rb pb : Nat} {fv : Value} {p : PlK} (Fin : Nat → World → Prop) (a : Act) (w : World) (Q : Exit → Act → World → Prop) (zz : a.tmps.size = 70)
    (t0 : a.tmps.getD 0 undef = .pointer (some ⟨rb, 0, none⟩))
    (t11 : a.tmps.getD 11 undef = fv)
    (t12 : a.tmps.getD 12 undef = .pointer (some ⟨pb, 0, none⟩))
    (LP : ∀ W, W = w → (Instr.loadAt 52 (.pointer (some ⟨pb, 0, none⟩))).run Tryd.prog W = .ok (p.v) W) (CD : Calls Tryd.prog 17 #[.pointer (some ⟨rb, 0, none⟩), p.v, fv] w fun e w' => ∃ bk, e = .returned (.pointer (some ⟨bk, 0, none⟩)) ∧ Fin bk w')
    (h : ∀ (bk : Nat) (a' : Act) (w' : World), Fin bk w' → a' = (((((a).put (some 44) (.pointer (some ⟨rb, 0, none⟩))).put (some 45) (p.v)).put (some 46) (fv)).put (some 47) (.pointer (some ⟨bk, 0, none⟩))).put (some 8) (.pointer (some ⟨bk, 0, none⟩)) → Q .normal a' w') :
    (Code.region 11 do11_ops false).wp Tryd.prog Q a w := by
  refine z0 rfl ?_
  refine zv rfl (exec_move rfl (zi t0 rfl)) ?_
  refine zv rfl (exec_load rfl (zi t12 rfl) (LP _ rfl)) ?_
  refine zv rfl (exec_move rfl (zi t11 rfl)) ?_
  refine zc rfl (exec_c3 rfl (zg zz rfl) (zg zz rfl) (zg zz rfl)) (CD) (fun e x3 hx => ?_)
  obtain ⟨bk, rfl, HF⟩ := hx
  replace h := h bk
  refine ⟨_, rfl, ?_⟩
  refine zv rfl (exec_assign rfl (zg zz rfl)) ?_
  exact ze rfl (h _ _ (HF) rfl)
def do13_o0 : Oper := { dst := some 50, op := Op.move (Operand.tmp 0), type := 26, pos := "outright.go:50", after := #[], guard := none }
def do13_o1 : Oper := { dst := some 51, op := Op.load 52 (Operand.tmp 12), type := 52, pos := "outright.go:50", after := #[], guard := none }
def do13_o2 : Oper := { dst := some 52, op := Op.move (Operand.tmp 2), type := 70, pos := "outright.go:50", after := #[], guard := none }
def do13_o3 : Oper := { dst := some 53, op := Op.move (Operand.tmp 3), type := 3, pos := "outright.go:50", after := #[], guard := none }
def do13_o4 : Oper := { dst := some 54, op := Op.indexAddr 70 (Operand.tmp 52) (Operand.tmp 53), type := 0, pos := "outright.go:50", after := #[{ on := 2, ground := Ground.data }, { on := 3, ground := Ground.data }], guard := none }
def do13_o5 : Oper := { dst := some 55, op := Op.fieldAddr 74 (Operand.tmp 54) 3, type := 0, pos := "outright.go:50", after := #[{ on := 4, ground := Ground.data }], guard := none }
def do13_o6 : Oper := { dst := some 56, op := Op.load 2 (Operand.tmp 55), type := 2, pos := "outright.go:50", after := #[{ on := 5, ground := Ground.data }], guard := none }
def do13_o7 : Oper := { dst := some 57, op := Op.move (Operand.tmp 11), type := 80, pos := "outright.go:50", after := #[], guard := none }
def do13_o8 : Oper := { dst := some 58, op := Op.call { callee := Callee.value (Operand.func 18), args := #[Operand.tmp 50, Operand.tmp 51, Operand.tmp 56, Operand.tmp 57], argTypes := #[26, 52, 2, 80] }, type := 54, pos := "outright.go:50", after := #[{ on := 0, ground := Ground.data }, { on := 1, ground := Ground.data }, { on := 6, ground := Ground.data }, { on := 7, ground := Ground.data }], guard := none }
def do13_o9 : Oper := { dst := some 8, op := Op.assign (Operand.tmp 58), type := 54, pos := "outright.go:50", after := #[{ on := 8, ground := Ground.data }, { on := 8, ground := Ground.chain }, { on := 0, ground := Ground.phase }, { on := 1, ground := Ground.phase }, { on := 2, ground := Ground.phase }, { on := 3, ground := Ground.phase }, { on := 4, ground := Ground.phase }, { on := 5, ground := Ground.phase }, { on := 6, ground := Ground.phase }, { on := 7, ground := Ground.phase }, { on := 8, ground := Ground.phase }], guard := none }
def do13_ops : Array Oper := #[do13_o0, do13_o1, do13_o2, do13_o3, do13_o4, do13_o5, do13_o6, do13_o7, do13_o8, do13_o9]
set_option maxRecDepth 100000 in
set_option maxHeartbeats 4000000 in
theorem do13 {rb pb g o n c i : Nat} {fv : Value} {p : PlK} {x : SyR} (S : World → Prop) (Fin : Nat → World → Prop) (a : Act) (w : World) (Q : Exit → Act → World → Prop) (zz : a.tmps.size = 70)
    (t0 : a.tmps.getD 0 undef = .pointer (some ⟨rb, 0, none⟩))
    (t2 : a.tmps.getD 2 undef = .slice (some ⟨g, o, none⟩) n c)
    (t3 : a.tmps.getD 3 undef = .int .i64 (i : Int))
    (t11 : a.tmps.getD 11 undef = fv)
    (t12 : a.tmps.getD 12 undef = .pointer (some ⟨pb, 0, none⟩))
    (hi : i < n) (hm : n ≤ 9223372036854775807) (h0 : S w.drew) (LP : ∀ W, S W → (Instr.loadAt 52 (.pointer (some ⟨pb, 0, none⟩))).run Tryd.prog W = .ok (p.v) W) (LN : ∀ W, S W → (Instr.loadAt 2 (.pointer (some ⟨g, o + 8 * i + 6, none⟩))).run Tryd.prog W = .ok (.int .i64 x.n) W) (CD : Calls Tryd.prog 18 #[.pointer (some ⟨rb, 0, none⟩), p.v, .int .i64 x.n, fv] w.drew fun e w' => ∃ bk, e = .returned (.pointer (some ⟨bk, 0, none⟩)) ∧ S w' ∧ Fin bk w')
    (h : ∀ (bk : Nat) (a' : Act) (w' : World), Fin bk w' → a' = ((((((((((a).put (some 50) (.pointer (some ⟨rb, 0, none⟩))).put (some 51) (p.v)).put (some 52) (.slice (some ⟨g, o, none⟩) n c)).put (some 53) (.int .i64 (i : Int))).put (some 54) (.pointer (some ⟨g, o + 8 * i, none⟩))).put (some 55) (.pointer (some ⟨g, o + 8 * i + 6, none⟩))).put (some 56) (.int .i64 x.n)).put (some 57) (fv)).put (some 58) (.pointer (some ⟨bk, 0, none⟩))).put (some 8) (.pointer (some ⟨bk, 0, none⟩)) → Q .normal a' w') :
    (Code.region 13 do13_ops true).wp Tryd.prog Q a w := by
  refine y0 (fun w' => S w') (h0) (fun hHeld => ?_)
  refine yv 0 rfl rfl (fun w1 hw => exec_move rfl (zi t0 rfl)) hHeld ?_
  refine yv 1 rfl rfl (fun w1 hw => exec_load rfl (zi t12 rfl) (LP _ hw)) hHeld ?_
  refine yv 2 rfl rfl (fun w1 hw => exec_move rfl (zi t2 rfl)) hHeld ?_
  refine yv 3 rfl rfl (fun w1 hw => exec_move rfl (zi t3 rfl)) hHeld ?_
  refine yv 4 rfl rfl (fun w1 hw => exec_indexAt rfl (zg zz rfl) (zg zz rfl) (ix_say hi hm _)) hHeld ?_
  refine yv 5 rfl rfl (fun w1 hw => exec_fieldAt rfl (zg zz rfl) (fg_74_3 _ _ _)) hHeld ?_
  refine yv 6 rfl rfl (fun w1 hw => exec_load rfl (zg zz rfl) (LN _ hw)) hHeld ?_
  refine yv 7 rfl rfl (fun w1 hw => exec_move rfl (zi t11 rfl)) hHeld ?_
  refine yc 8 rfl rfl (exec_c4 rfl (zg zz rfl) (zg zz rfl) (zg zz rfl) (zg zz rfl)) (CD) (fun e x8 hx => ?_)
  obtain ⟨bk, rfl, S1, HF⟩ := hx
  replace h := h bk
  refine ⟨_, rfl, S1, fun hHeld => ?_⟩
  refine yv 9 rfl rfl (fun w1 hw => exec_assign rfl (zg zz rfl)) hHeld ?_
  exact ye rfl (h _ _ (HF) rfl)
def do14_o0 : Oper := { dst := some 59, op := Op.move (Operand.tmp 0), type := 26, pos := "outright.go:52", after := #[], guard := none }
def do14_o1 : Oper := { dst := some 60, op := Op.load 52 (Operand.tmp 12), type := 52, pos := "outright.go:52", after := #[], guard := none }
def do14_o2 : Oper := { dst := some 61, op := Op.move (Operand.tmp 3), type := 3, pos := "outright.go:52", after := #[], guard := none }
def do14_o3 : Oper := { dst := some 62, op := Op.call { callee := Callee.value (Operand.func 27), args := #[Operand.tmp 61], argTypes := #[3] }, type := 38, pos := "outright.go:52", after := #[{ on := 2, ground := Ground.data }], guard := none }
def do14_o4 : Oper := { dst := some 63, op := Op.move (Operand.tmp 2), type := 70, pos := "outright.go:52", after := #[], guard := none }
def do14_o5 : Oper := { dst := some 64, op := Op.move (Operand.tmp 3), type := 3, pos := "outright.go:52", after := #[], guard := none }
def do14_o6 : Oper := { dst := some 65, op := Op.indexAddr 70 (Operand.tmp 63) (Operand.tmp 64), type := 0, pos := "outright.go:52", after := #[{ on := 4, ground := Ground.data }, { on := 5, ground := Ground.data }], guard := none }
def do14_o7 : Oper := { dst := some 66, op := Op.fieldAddr 74 (Operand.tmp 65) 2, type := 0, pos := "outright.go:52", after := #[{ on := 6, ground := Ground.data }], guard := none }
def do14_o8 : Oper := { dst := some 67, op := Op.load 42 (Operand.tmp 66), type := 42, pos := "outright.go:52", after := #[{ on := 7, ground := Ground.data }], guard := none }
def do14_o9 : Oper := { dst := some 68, op := Op.move (Operand.tmp 11), type := 80, pos := "outright.go:52", after := #[], guard := none }
def do14_o10 : Oper := { dst := some 69, op := Op.call { callee := Callee.value (Operand.func 16), args := #[Operand.tmp 59, Operand.tmp 60, Operand.tmp 62, Operand.tmp 67, Operand.tmp 68], argTypes := #[26, 52, 38, 42, 80] }, type := 54, pos := "outright.go:52", after := #[{ on := 0, ground := Ground.data }, { on := 1, ground := Ground.data }, { on := 3, ground := Ground.data }, { on := 8, ground := Ground.data }, { on := 9, ground := Ground.data }, { on := 3, ground := Ground.chain }], guard := none }
def do14_o11 : Oper := { dst := some 8, op := Op.assign (Operand.tmp 69), type := 54, pos := "outright.go:52", after := #[{ on := 10, ground := Ground.data }, { on := 10, ground := Ground.chain }, { on := 0, ground := Ground.phase }, { on := 1, ground := Ground.phase }, { on := 2, ground := Ground.phase }, { on := 3, ground := Ground.phase }, { on := 4, ground := Ground.phase }, { on := 5, ground := Ground.phase }, { on := 6, ground := Ground.phase }, { on := 7, ground := Ground.phase }, { on := 8, ground := Ground.phase }, { on := 9, ground := Ground.phase }, { on := 10, ground := Ground.phase }], guard := none }
def do14_ops : Array Oper := #[do14_o0, do14_o1, do14_o2, do14_o3, do14_o4, do14_o5, do14_o6, do14_o7, do14_o8, do14_o9, do14_o10, do14_o11]
set_option maxRecDepth 100000 in
set_option maxHeartbeats 4000000 in
theorem do14 {rb pb g o n c i : Nat} {fv : Value} {p : PlK} {x : SyR} {y : IdK} (S : World → Prop) (Fin : Nat → World → Prop) (a : Act) (w : World) (Q : Exit → Act → World → Prop) (zz : a.tmps.size = 70)
    (t0 : a.tmps.getD 0 undef = .pointer (some ⟨rb, 0, none⟩))
    (t2 : a.tmps.getD 2 undef = .slice (some ⟨g, o, none⟩) n c)
    (t3 : a.tmps.getD 3 undef = .int .i64 (i : Int))
    (t11 : a.tmps.getD 11 undef = fv)
    (t12 : a.tmps.getD 12 undef = .pointer (some ⟨pb, 0, none⟩))
    (hi : i < n) (hm : n ≤ 9223372036854775807) (h0 : S w.drew) (LP : ∀ W, S W → (Instr.loadAt 52 (.pointer (some ⟨pb, 0, none⟩))).run Tryd.prog W = .ok (p.v) W) (LV : ∀ W, S W → (Instr.loadAt 42 (.pointer (some ⟨g, o + 8 * i + 2, none⟩))).run Tryd.prog W = .ok (x.v.v) W) (CN : Calls Tryd.prog 27 #[.int .i64 (i : Int)] w.drew fun e w1 => e = .returned y.v ∧ S w1 ∧ Calls Tryd.prog 16 #[.pointer (some ⟨rb, 0, none⟩), p.v, y.v, x.v.v, fv] w1 fun e w' => ∃ bk, e = .returned (.pointer (some ⟨bk, 0, none⟩)) ∧ S w' ∧ Fin bk w')
    (h : ∀ (bk : Nat) (a' : Act) (w' : World), Fin bk w' → a' = ((((((((((((a).put (some 59) (.pointer (some ⟨rb, 0, none⟩))).put (some 60) (p.v)).put (some 61) (.int .i64 (i : Int))).put (some 63) (.slice (some ⟨g, o, none⟩) n c)).put (some 64) (.int .i64 (i : Int))).put (some 65) (.pointer (some ⟨g, o + 8 * i, none⟩))).put (some 66) (.pointer (some ⟨g, o + 8 * i + 2, none⟩))).put (some 67) (x.v.v)).put (some 68) (fv)).put (some 62) (y.v)).put (some 69) (.pointer (some ⟨bk, 0, none⟩))).put (some 8) (.pointer (some ⟨bk, 0, none⟩)) → Q .normal a' w') :
    (Code.region 14 do14_ops true).wp Tryd.prog Q a w := by
  refine y0 (fun w' => S w') (h0) (fun hHeld => ?_)
  refine yv 0 rfl rfl (fun w1 hw => exec_move rfl (zi t0 rfl)) hHeld ?_
  refine yv 1 rfl rfl (fun w1 hw => exec_load rfl (zi t12 rfl) (LP _ hw)) hHeld ?_
  refine yv 2 rfl rfl (fun w1 hw => exec_move rfl (zi t3 rfl)) hHeld ?_
  refine yv 4 rfl rfl (fun w1 hw => exec_move rfl (zi t2 rfl)) hHeld ?_
  refine yv 5 rfl rfl (fun w1 hw => exec_move rfl (zi t3 rfl)) hHeld ?_
  refine yv 6 rfl rfl (fun w1 hw => exec_indexAt rfl (zg zz rfl) (zg zz rfl) (ix_say hi hm _)) hHeld ?_
  refine yv 7 rfl rfl (fun w1 hw => exec_fieldAt rfl (zg zz rfl) (fg_74_2 _ _ _)) hHeld ?_
  refine yv 8 rfl rfl (fun w1 hw => exec_load rfl (zg zz rfl) (LV _ hw)) hHeld ?_
  refine yv 9 rfl rfl (fun w1 hw => exec_move rfl (zi t11 rfl)) hHeld ?_
  refine yc 3 rfl rfl (exec_c1 rfl (zg zz rfl)) (CN) (fun e x3 hx => ?_)
  obtain ⟨rfl, S1, CP⟩ := hx
  refine ⟨_, rfl, S1, fun hHeld => ?_⟩
  refine yc 10 rfl rfl (exec_c5 rfl (zg zz rfl) (zg zz rfl) (zg zz rfl) (zg zz rfl) (zg zz rfl)) (CP) (fun e x10 hx => ?_)
  obtain ⟨bk, rfl, S2, HF⟩ := hx
  replace h := h bk
  refine ⟨_, rfl, S2, fun hHeld => ?_⟩
  refine yv 11 rfl rfl (fun w1 hw => exec_assign rfl (zg zz rfl)) hHeld ?_
  exact ye rfl (h _ _ (HF) rfl)
def val12_o0 : Oper := { dst := some 37, op := Op.move (Operand.tmp 0), type := 22, pos := "outright.go:70", after := #[], guard := none }
def val12_o1 : Oper := { dst := some 38, op := Op.move (Operand.tmp 7), type := 3, pos := "outright.go:70", after := #[], guard := none }
def val12_o2 : Oper := { dst := some 39, op := Op.call { callee := Callee.value (Operand.func 15), args := #[Operand.tmp 37, Operand.tmp 38], argTypes := #[22, 3] }, type := 52, pos := "outright.go:70", after := #[{ on := 0, ground := Ground.data }, { on := 1, ground := Ground.data }], guard := none }
def val12_o3 : Oper := { dst := some 8, op := Op.alloc 52, type := 0, pos := "outright.go:70", after := #[], guard := none }
def val12_o4 : Oper := { dst := none, op := Op.store 52 (Operand.tmp 8) (Operand.tmp 39), type := 0, pos := "outright.go:70", after := #[{ on := 3, ground := Ground.data }, { on := 2, ground := Ground.data }, { on := 2, ground := Ground.chain }, { on := 0, ground := Ground.phase }, { on := 1, ground := Ground.phase }, { on := 2, ground := Ground.phase }, { on := 3, ground := Ground.phase }], guard := none }
def val12_ops : Array Oper := #[val12_o0, val12_o1, val12_o2, val12_o3, val12_o4]
set_option maxRecDepth 100000 in
set_option maxHeartbeats 4000000 in
theorem val12 {m pn pc : Nat} {pa : Option Addr} {p : PlK} (Fin : Nat → World → Prop) (a : Act) (w : World) (Q : Exit → Act → World → Prop) (zz : a.tmps.size = 168)
    (t0 : a.tmps.getD 0 undef = .slice pa pn pc)
    (t7 : a.tmps.getD 7 undef = .int .i64 (m : Int))
    (CA : Calls Tryd.prog 15 #[.slice pa pn pc, .int .i64 (m : Int)] w fun e w' => e = .returned p.v ∧ ∃ pb w1 w2, (Instr.alloc 52 true (.tuple #[])).run Tryd.prog w' = .ok (.pointer (some ⟨pb, 0, none⟩)) w1 ∧ (Instr.storeAt 52 (.pointer (some ⟨pb, 0, none⟩)) p.v).run Tryd.prog w1 = .ok () w2 ∧ Fin pb w2)
    (h : ∀ (pb : Nat) (a' : Act) (w' : World), Fin pb w' → a' = ((((a).put (some 37) (.slice pa pn pc)).put (some 38) (.int .i64 (m : Int))).put (some 39) (p.v)).put (some 8) (.pointer (some ⟨pb, 0, none⟩)) → Q .normal a' w') :
    (Code.region 12 val12_ops false).wp Tryd.prog Q a w := by
  refine z0 rfl ?_
  refine zv rfl (exec_move rfl (zi t0 rfl)) ?_
  refine zv rfl (exec_move rfl (zi t7 rfl)) ?_
  refine zc rfl (exec_c2 rfl (zg zz rfl) (zg zz rfl)) (CA) (fun e x2 hx => ?_)
  obtain ⟨rfl, pb, w1, w2, EA, ES, HF⟩ := hx
  replace h := h pb
  refine ⟨_, rfl, ?_⟩
  refine zv (v := .pointer (some ⟨pb, 0, none⟩)) rfl (exec_alloc rfl EA) ?_
  refine zs rfl (exec_store rfl (zg zz rfl) (zg zz rfl) ES) ?_
  exact ze rfl (h _ _ (HF) rfl)
def val17n_o0 : Oper := { dst := some 46, op := Op.move (Operand.tmp 1), type := 70, pos := "outright.go:73", after := #[], guard := none }
def val17n_o1 : Oper := { dst := some 47, op := Op.move (Operand.tmp 10), type := 3, pos := "outright.go:73", after := #[], guard := none }
def val17n_o2 : Oper := { dst := some 48, op := Op.indexAddr 70 (Operand.tmp 46) (Operand.tmp 47), type := 0, pos := "outright.go:73", after := #[{ on := 0, ground := Ground.data }, { on := 1, ground := Ground.data }], guard := none }
def val17n_o3 : Oper := { dst := some 49, op := Op.load 74 (Operand.tmp 48), type := 74, pos := "outright.go:73", after := #[{ on := 2, ground := Ground.data }], guard := none }
def val17n_o4 : Oper := { dst := some 50, op := Op.call { callee := Callee.value (Operand.func 26), args := #[Operand.tmp 49], argTypes := #[74] }, type := 4, pos := "outright.go:73", after := #[{ on := 3, ground := Ground.data }], guard := none }
def val17n_o5 : Oper := { dst := some 51, op := Op.unOp UnOp.not 4 (Operand.tmp 50), type := 4, pos := "outright.go:73", after := #[{ on := 4, ground := Ground.data }], guard := none }
def val17n_o6 : Oper := { dst := some 52, op := Op.move (Operand.tmp 51), type := 4, pos := "outright.go:73", after := #[{ on := 5, ground := Ground.data }, { on := 4, ground := Ground.chain }], guard := none }
def val17n_o7 : Oper := { dst := some 53, op := Op.move (Operand.tmp 0), type := 22, pos := "outright.go:73", after := #[{ on := 6, ground := Ground.guard }], guard := some (6, false) }
def val17n_o8 : Oper := { dst := some 54, op := Op.move (Operand.tmp 1), type := 70, pos := "outright.go:73", after := #[{ on := 6, ground := Ground.guard }], guard := some (6, false) }
def val17n_o9 : Oper := { dst := some 55, op := Op.move (Operand.tmp 10), type := 3, pos := "outright.go:73", after := #[{ on := 6, ground := Ground.guard }], guard := some (6, false) }
def val17n_o10 : Oper := { dst := some 56, op := Op.indexAddr 70 (Operand.tmp 54) (Operand.tmp 55), type := 0, pos := "outright.go:73", after := #[{ on := 8, ground := Ground.data }, { on := 9, ground := Ground.data }, { on := 6, ground := Ground.guard }], guard := some (6, false) }
def val17n_o11 : Oper := { dst := some 57, op := Op.fieldAddr 74 (Operand.tmp 56) 1, type := 0, pos := "outright.go:73", after := #[{ on := 10, ground := Ground.data }, { on := 6, ground := Ground.guard }], guard := some (6, false) }
def val17n_o12 : Oper := { dst := some 58, op := Op.load 3 (Operand.tmp 57), type := 3, pos := "outright.go:73", after := #[{ on := 11, ground := Ground.data }, { on := 6, ground := Ground.guard }], guard := some (6, false) }
def val17n_o13 : Oper := { dst := some 59, op := Op.call { callee := Callee.value (Operand.func 15), args := #[Operand.tmp 53, Operand.tmp 58], argTypes := #[22, 3] }, type := 52, pos := "outright.go:73", after := #[{ on := 7, ground := Ground.data }, { on := 12, ground := Ground.data }, { on := 6, ground := Ground.chain }, { on := 6, ground := Ground.guard }], guard := some (6, false) }
def val17n_o14 : Oper := { dst := some 60, op := Op.load 52 (Operand.tmp 8), type := 52, pos := "outright.go:73", after := #[{ on := 6, ground := Ground.guard }], guard := some (6, false) }
def val17n_o15 : Oper := { dst := some 61, op := Op.binOp BinOp.neq 52 (Operand.tmp 59) (Operand.tmp 60) 52, type := 4, pos := "outright.go:73", after := #[{ on := 13, ground := Ground.data }, { on := 14, ground := Ground.data }, { on := 6, ground := Ground.guard }], guard := some (6, false) }
def val17n_o16 : Oper := { dst := some 62, op := Op.pick (Operand.tmp 52) (Operand.const (Value.bool true)) (Operand.tmp 61), type := 4, pos := "outright.go:73", after := #[{ on := 6, ground := Ground.data }, { on := 15, ground := Ground.data }], guard := none }
def val17n_ops : Array Oper := #[val17n_o0, val17n_o1, val17n_o2, val17n_o3, val17n_o4, val17n_o5, val17n_o6, val17n_o7, val17n_o8, val17n_o9, val17n_o10, val17n_o11, val17n_o12, val17n_o13, val17n_o14, val17n_o15, val17n_o16]
set_option maxRecDepth 100000 in
set_option maxHeartbeats 4000000 in
theorem val17n {g o n c i pn pc pb : Nat} {pa : Option Addr} {p q : PlK} {x : SyR} (S : World → Prop) (a : Act) (w : World) (Q : Exit → Act → World → Prop) (zz : a.tmps.size = 168)
    (t0 : a.tmps.getD 0 undef = .slice pa pn pc)
    (t1 : a.tmps.getD 1 undef = .slice (some ⟨g, o, none⟩) n c)
    (t8 : a.tmps.getD 8 undef = .pointer (some ⟨pb, 0, none⟩))
    (t10 : a.tmps.getD 10 undef = .int .i64 (i : Int))
    (hi : i < n) (hm : n ≤ 9223372036854775807) (h0 : S w.drew) (LS : ∀ W, S W → (Instr.loadAt 74 (.pointer (some ⟨g, o + 8 * i, none⟩))).run Tryd.prog W = .ok (x.a) W) (CP : Calls Tryd.prog 26 #[x.a] w.drew fun e w' => e = .returned (.bool false) ∧ S w')
    (h : ∀ (a' : Act) (w' : World), S w' → a' = (((((((((((((((((a).put (some 46) (.slice (some ⟨g, o, none⟩) n c)).put (some 47) (.int .i64 (i : Int))).put (some 48) (.pointer (some ⟨g, o + 8 * i, none⟩))).put (some 49) (x.a)).put (some 50) (.bool false)).put (some 51) (.bool true)).put (some 52) (.bool true)).put (some 53) (undef)).put (some 54) (undef)).put (some 55) (undef)).put (some 56) (undef)).put (some 57) (undef)).put (some 58) (undef)).put (some 59) (undef)).put (some 60) (undef)).put (some 61) (undef)).put (some 62) (.bool true) → Q .normal a' w') :
    (Code.region 17 val17n_ops true).wp Tryd.prog Q a w := by
  refine y0 (fun w' => S w') (h0) (fun hHeld => ?_)
  refine yv 0 rfl rfl (fun w1 hw => exec_move rfl (zi t1 rfl)) hHeld ?_
  refine yv 1 rfl rfl (fun w1 hw => exec_move rfl (zi t10 rfl)) hHeld ?_
  refine yv 2 rfl rfl (fun w1 hw => exec_indexAt rfl (zg zz rfl) (zg zz rfl) (ix_say hi hm _)) hHeld ?_
  refine yv 3 rfl rfl (fun w1 hw => exec_load rfl (zg zz rfl) (LS _ hw)) hHeld ?_
  refine yc 4 rfl rfl (exec_c1 rfl (zg zz rfl)) (CP) (fun e x4 hx => ?_)
  obtain ⟨rfl, S1⟩ := hx
  refine ⟨_, rfl, S1, fun hHeld => ?_⟩
  refine yv 5 rfl rfl (fun w1 hw => exec_not rfl (zg zz rfl)) hHeld ?_
  refine yv 6 rfl rfl (fun w1 hw => exec_move rfl (zg zz rfl)) hHeld ?_
  refine yn 7 rfl (zx zz rfl rfl rfl (zg zz rfl)) hHeld ?_
  refine yn 8 rfl (zx zz rfl rfl rfl (zg zz rfl)) hHeld ?_
  refine yn 9 rfl (zx zz rfl rfl rfl (zg zz rfl)) hHeld ?_
  refine yn 10 rfl (zx zz rfl rfl rfl (zg zz rfl)) hHeld ?_
  refine yn 11 rfl (zx zz rfl rfl rfl (zg zz rfl)) hHeld ?_
  refine yn 12 rfl (zx zz rfl rfl rfl (zg zz rfl)) hHeld ?_
  refine yn 13 rfl (zx zz rfl rfl rfl (zg zz rfl)) hHeld ?_
  refine yn 14 rfl (zx zz rfl rfl rfl (zg zz rfl)) hHeld ?_
  refine yn 15 rfl (zx zz rfl rfl rfl (zg zz rfl)) hHeld ?_
  refine yv 16 rfl rfl (fun w1 hw => exec_pickT rfl (zg zz rfl) rfl) hHeld ?_
  exact ye rfl (h _ _ (S1) rfl)
def val17y_o0 : Oper := { dst := some 46, op := Op.move (Operand.tmp 1), type := 70, pos := "outright.go:73", after := #[], guard := none }
def val17y_o1 : Oper := { dst := some 47, op := Op.move (Operand.tmp 10), type := 3, pos := "outright.go:73", after := #[], guard := none }
def val17y_o2 : Oper := { dst := some 48, op := Op.indexAddr 70 (Operand.tmp 46) (Operand.tmp 47), type := 0, pos := "outright.go:73", after := #[{ on := 0, ground := Ground.data }, { on := 1, ground := Ground.data }], guard := none }
def val17y_o3 : Oper := { dst := some 49, op := Op.load 74 (Operand.tmp 48), type := 74, pos := "outright.go:73", after := #[{ on := 2, ground := Ground.data }], guard := none }
def val17y_o4 : Oper := { dst := some 50, op := Op.call { callee := Callee.value (Operand.func 26), args := #[Operand.tmp 49], argTypes := #[74] }, type := 4, pos := "outright.go:73", after := #[{ on := 3, ground := Ground.data }], guard := none }
def val17y_o5 : Oper := { dst := some 51, op := Op.unOp UnOp.not 4 (Operand.tmp 50), type := 4, pos := "outright.go:73", after := #[{ on := 4, ground := Ground.data }], guard := none }
def val17y_o6 : Oper := { dst := some 52, op := Op.move (Operand.tmp 51), type := 4, pos := "outright.go:73", after := #[{ on := 5, ground := Ground.data }, { on := 4, ground := Ground.chain }], guard := none }
def val17y_o7 : Oper := { dst := some 53, op := Op.move (Operand.tmp 0), type := 22, pos := "outright.go:73", after := #[{ on := 6, ground := Ground.guard }], guard := some (6, false) }
def val17y_o8 : Oper := { dst := some 54, op := Op.move (Operand.tmp 1), type := 70, pos := "outright.go:73", after := #[{ on := 6, ground := Ground.guard }], guard := some (6, false) }
def val17y_o9 : Oper := { dst := some 55, op := Op.move (Operand.tmp 10), type := 3, pos := "outright.go:73", after := #[{ on := 6, ground := Ground.guard }], guard := some (6, false) }
def val17y_o10 : Oper := { dst := some 56, op := Op.indexAddr 70 (Operand.tmp 54) (Operand.tmp 55), type := 0, pos := "outright.go:73", after := #[{ on := 8, ground := Ground.data }, { on := 9, ground := Ground.data }, { on := 6, ground := Ground.guard }], guard := some (6, false) }
def val17y_o11 : Oper := { dst := some 57, op := Op.fieldAddr 74 (Operand.tmp 56) 1, type := 0, pos := "outright.go:73", after := #[{ on := 10, ground := Ground.data }, { on := 6, ground := Ground.guard }], guard := some (6, false) }
def val17y_o12 : Oper := { dst := some 58, op := Op.load 3 (Operand.tmp 57), type := 3, pos := "outright.go:73", after := #[{ on := 11, ground := Ground.data }, { on := 6, ground := Ground.guard }], guard := some (6, false) }
def val17y_o13 : Oper := { dst := some 59, op := Op.call { callee := Callee.value (Operand.func 15), args := #[Operand.tmp 53, Operand.tmp 58], argTypes := #[22, 3] }, type := 52, pos := "outright.go:73", after := #[{ on := 7, ground := Ground.data }, { on := 12, ground := Ground.data }, { on := 6, ground := Ground.chain }, { on := 6, ground := Ground.guard }], guard := some (6, false) }
def val17y_o14 : Oper := { dst := some 60, op := Op.load 52 (Operand.tmp 8), type := 52, pos := "outright.go:73", after := #[{ on := 6, ground := Ground.guard }], guard := some (6, false) }
def val17y_o15 : Oper := { dst := some 61, op := Op.binOp BinOp.neq 52 (Operand.tmp 59) (Operand.tmp 60) 52, type := 4, pos := "outright.go:73", after := #[{ on := 13, ground := Ground.data }, { on := 14, ground := Ground.data }, { on := 6, ground := Ground.guard }], guard := some (6, false) }
def val17y_o16 : Oper := { dst := some 62, op := Op.pick (Operand.tmp 52) (Operand.const (Value.bool true)) (Operand.tmp 61), type := 4, pos := "outright.go:73", after := #[{ on := 6, ground := Ground.data }, { on := 15, ground := Ground.data }], guard := none }
def val17y_ops : Array Oper := #[val17y_o0, val17y_o1, val17y_o2, val17y_o3, val17y_o4, val17y_o5, val17y_o6, val17y_o7, val17y_o8, val17y_o9, val17y_o10, val17y_o11, val17y_o12, val17y_o13, val17y_o14, val17y_o15, val17y_o16]
set_option maxRecDepth 100000 in
set_option maxHeartbeats 4000000 in
theorem val17y {g o n c i pn pc pb : Nat} {pa : Option Addr} {p q : PlK} {x : SyR} (S : World → Prop) {r : Bool} (a : Act) (w : World) (Q : Exit → Act → World → Prop) (zz : a.tmps.size = 168)
    (t0 : a.tmps.getD 0 undef = .slice pa pn pc)
    (t1 : a.tmps.getD 1 undef = .slice (some ⟨g, o, none⟩) n c)
    (t8 : a.tmps.getD 8 undef = .pointer (some ⟨pb, 0, none⟩))
    (t10 : a.tmps.getD 10 undef = .int .i64 (i : Int))
    (hp : p.ok) (hq : q.ok) (hr : decide (q ≠ p) = r) (hi : i < n) (hm : n ≤ 9223372036854775807) (h0 : S w.drew) (LS : ∀ W, S W → (Instr.loadAt 74 (.pointer (some ⟨g, o + 8 * i, none⟩))).run Tryd.prog W = .ok (x.a) W) (LQ : ∀ W, S W → (Instr.loadAt 3 (.pointer (some ⟨g, o + 8 * i + 1, none⟩))).run Tryd.prog W = .ok (.int .i64 x.pl) W) (LP : ∀ W, S W → (Instr.loadAt 52 (.pointer (some ⟨pb, 0, none⟩))).run Tryd.prog W = .ok (p.v) W) (CP : Calls Tryd.prog 26 #[x.a] w.drew fun e w1 => e = .returned (.bool true) ∧ S w1 ∧ Calls Tryd.prog 15 #[.slice pa pn pc, .int .i64 x.pl] w1 fun e w' => e = .returned q.v ∧ S w')
    (h : ∀ (a' : Act) (w' : World), S w' → a' = (((((((((((((((((a).put (some 46) (.slice (some ⟨g, o, none⟩) n c)).put (some 47) (.int .i64 (i : Int))).put (some 48) (.pointer (some ⟨g, o + 8 * i, none⟩))).put (some 49) (x.a)).put (some 50) (.bool true)).put (some 51) (.bool false)).put (some 52) (.bool false)).put (some 53) (.slice pa pn pc)).put (some 54) (.slice (some ⟨g, o, none⟩) n c)).put (some 55) (.int .i64 (i : Int))).put (some 56) (.pointer (some ⟨g, o + 8 * i, none⟩))).put (some 57) (.pointer (some ⟨g, o + 8 * i + 1, none⟩))).put (some 58) (.int .i64 x.pl)).put (some 60) (p.v)).put (some 59) (q.v)).put (some 61) (.bool r)).put (some 62) (.bool r) → Q .normal a' w') :
    (Code.region 17 val17y_ops true).wp Tryd.prog Q a w := by
  refine y0 (fun w' => S w') (h0) (fun hHeld => ?_)
  refine yv 0 rfl rfl (fun w1 hw => exec_move rfl (zi t1 rfl)) hHeld ?_
  refine yv 1 rfl rfl (fun w1 hw => exec_move rfl (zi t10 rfl)) hHeld ?_
  refine yv 2 rfl rfl (fun w1 hw => exec_indexAt rfl (zg zz rfl) (zg zz rfl) (ix_say hi hm _)) hHeld ?_
  refine yv 3 rfl rfl (fun w1 hw => exec_load rfl (zg zz rfl) (LS _ hw)) hHeld ?_
  refine yc 4 rfl rfl (exec_c1 rfl (zg zz rfl)) (CP) (fun e x4 hx => ?_)
  obtain ⟨rfl, S1, CA⟩ := hx
  refine ⟨_, rfl, S1, fun hHeld => ?_⟩
  refine yv 5 rfl rfl (fun w1 hw => exec_not rfl (zg zz rfl)) hHeld ?_
  refine yv 6 rfl rfl (fun w1 hw => exec_move rfl (zg zz rfl)) hHeld ?_
  refine yv 7 rfl (zw zz rfl rfl rfl (zg zz rfl)) (fun w1 hw => exec_move rfl (zi t0 rfl)) hHeld ?_
  refine yv 8 rfl (zw zz rfl rfl rfl (zg zz rfl)) (fun w1 hw => exec_move rfl (zi t1 rfl)) hHeld ?_
  refine yv 9 rfl (zw zz rfl rfl rfl (zg zz rfl)) (fun w1 hw => exec_move rfl (zi t10 rfl)) hHeld ?_
  refine yv 10 rfl (zw zz rfl rfl rfl (zg zz rfl)) (fun w1 hw => exec_indexAt rfl (zg zz rfl) (zg zz rfl) (ix_say hi hm _)) hHeld ?_
  refine yv 11 rfl (zw zz rfl rfl rfl (zg zz rfl)) (fun w1 hw => exec_fieldAt rfl (zg zz rfl) (fg_74_1 _ _ _)) hHeld ?_
  refine yv 12 rfl (zw zz rfl rfl rfl (zg zz rfl)) (fun w1 hw => exec_load rfl (zg zz rfl) (LQ _ hw)) hHeld ?_
  refine yv 14 rfl (zw zz rfl rfl rfl (zg zz rfl)) (fun w1 hw => exec_load rfl (zi t8 rfl) (LP _ hw)) hHeld ?_
  refine yc 13 rfl (zw zz rfl rfl rfl (zg zz rfl)) (exec_c2 rfl (zg zz rfl) (zg zz rfl)) (CA) (fun e x13 hx => ?_)
  obtain ⟨rfl, S2⟩ := hx
  refine ⟨_, rfl, S2, fun hHeld => ?_⟩
  refine yv (v := .bool r) 15 rfl (zw zz rfl rfl rfl (zg zz rfl)) (fun w1 hw => ex_neqP hq hp hr rfl (zg zz rfl) (zg zz rfl)) hHeld ?_
  refine yv 16 rfl rfl (fun w1 hw => exec_pickF rfl (zg zz rfl) (zg zz rfl)) hHeld ?_
  exact ye rfl (h _ _ (S2) rfl)
def val18_o0 : Oper := { dst := some 63, op := Op.move (Operand.tmp 10), type := 3, pos := "outright.go:76", after := #[], guard := none }
def val18_o1 : Oper := { dst := some 64, op := Op.call { callee := Callee.value (Operand.func 27), args := #[Operand.tmp 63], argTypes := #[3] }, type := 38, pos := "outright.go:76", after := #[{ on := 0, ground := Ground.data }], guard := none }
def val18_o2 : Oper := { dst := some 65, op := Op.move (Operand.tmp 1), type := 70, pos := "outright.go:76", after := #[], guard := none }
def val18_o3 : Oper := { dst := some 66, op := Op.move (Operand.tmp 10), type := 3, pos := "outright.go:76", after := #[], guard := none }
def val18_o4 : Oper := { dst := some 67, op := Op.indexAddr 70 (Operand.tmp 65) (Operand.tmp 66), type := 0, pos := "outright.go:76", after := #[{ on := 2, ground := Ground.data }, { on := 3, ground := Ground.data }], guard := none }
def val18_o5 : Oper := { dst := some 68, op := Op.fieldAddr 74 (Operand.tmp 67) 2, type := 0, pos := "outright.go:76", after := #[{ on := 4, ground := Ground.data }], guard := none }
def val18_o6 : Oper := { dst := some 69, op := Op.load 42 (Operand.tmp 68), type := 42, pos := "outright.go:76", after := #[{ on := 5, ground := Ground.data }], guard := none }
def val18_o7 : Oper := { dst := some 70, op := Op.build 63 #[(0, Operand.tmp 64), (1, Operand.tmp 69)], type := 63, pos := "outright.go:76", after := #[{ on := 1, ground := Ground.data }, { on := 6, ground := Ground.data }], guard := none }
def val18_o8 : Oper := { dst := some 11, op := Op.alloc 63, type := 0, pos := "outright.go:76", after := #[], guard := none }
def val18_o9 : Oper := { dst := none, op := Op.store 63 (Operand.tmp 11) (Operand.tmp 70), type := 0, pos := "outright.go:76", after := #[{ on := 8, ground := Ground.data }, { on := 7, ground := Ground.data }, { on := 1, ground := Ground.chain }, { on := 0, ground := Ground.phase }, { on := 1, ground := Ground.phase }, { on := 2, ground := Ground.phase }, { on := 3, ground := Ground.phase }, { on := 4, ground := Ground.phase }, { on := 5, ground := Ground.phase }, { on := 6, ground := Ground.phase }, { on := 7, ground := Ground.phase }, { on := 8, ground := Ground.phase }], guard := none }
def val18_ops : Array Oper := #[val18_o0, val18_o1, val18_o2, val18_o3, val18_o4, val18_o5, val18_o6, val18_o7, val18_o8, val18_o9]
set_option maxRecDepth 100000 in
set_option maxHeartbeats 4000000 in
theorem val18 {g o n c i eb2 : Nat} {x : SyR} {y : IdK} {y1 : World} (S : World → Prop) (Fin : Nat → World → Prop) (a : Act) (w : World) (Q : Exit → Act → World → Prop) (hsz : a.tmps.size = 168)
    (t1 : a.tmps.getD 1 undef = .slice (some ⟨g, o, none⟩) n c)
    (t10 : a.tmps.getD 10 undef = .int .i64 (i : Int))
    (hi : i < n) (hm : n ≤ 9223372036854775807) (hy : y.ok) (h0 : S w.drew) (LV : ∀ W, S W → (Instr.loadAt 42 (.pointer (some ⟨g, o + 8 * i + 2, none⟩))).run Tryd.prog W = .ok (x.v.v) W) (CA : Calls Tryd.prog 27 #[.int .i64 (i : Int)] w.drew fun e w' => ∃ eb wa wb, e = .returned y.v ∧ S w' ∧ (Instr.alloc 63 true (.tuple #[])).run Tryd.prog w' = .ok (.pointer (some ⟨eb, 0, none⟩)) wa ∧ S wa ∧ (Instr.storeAt 63 (.pointer (some ⟨eb, 0, none⟩)) (EnV.a ⟨y, x.v⟩)).run Tryd.prog wa = .ok () wb ∧ S wb ∧ Fin eb wb) (EB : (Instr.alloc 63 true (.tuple #[])).run Tryd.prog w.drew = .ok (.pointer (some ⟨eb2, 0, none⟩)) y1) (S4 : S y1) (CB : Calls Tryd.prog 27 #[.int .i64 (i : Int)] y1 fun e w' => ∃ wb, e = .returned y.v ∧ S w' ∧ (Instr.storeAt 63 (.pointer (some ⟨eb2, 0, none⟩)) (EnV.a ⟨y, x.v⟩)).run Tryd.prog w' = .ok () wb ∧ S wb ∧ Fin eb2 wb)
    (h1 : ∀ (eb : Nat) (a' : Act) (w' : World), Fin eb w' → a' = (((((((((a).put (some 63) (.int .i64 (i : Int))).put (some 65) (.slice (some ⟨g, o, none⟩) n c)).put (some 66) (.int .i64 (i : Int))).put (some 67) (.pointer (some ⟨g, o + 8 * i, none⟩))).put (some 68) (.pointer (some ⟨g, o + 8 * i + 2, none⟩))).put (some 69) (x.v.v)).put (some 64) (y.v)).put (some 70) (EnV.a ⟨y, x.v⟩)).put (some 11) (.pointer (some ⟨eb, 0, none⟩)) → Q .normal a' w')
    (h2 : ∀ (a' : Act) (w' : World), Fin eb2 w' → a' = (((((((((a).put (some 63) (.int .i64 (i : Int))).put (some 65) (.slice (some ⟨g, o, none⟩) n c)).put (some 66) (.int .i64 (i : Int))).put (some 67) (.pointer (some ⟨g, o + 8 * i, none⟩))).put (some 68) (.pointer (some ⟨g, o + 8 * i + 2, none⟩))).put (some 69) (x.v.v)).put (some 11) (.pointer (some ⟨eb2, 0, none⟩))).put (some 64) (y.v)).put (some 70) (EnV.a ⟨y, x.v⟩) → Q .normal a' w') :
    (Code.region 18 val18_ops true).wp Tryd.prog Q a w := by
  refine wp_region_noPanic ?_
  refine wp_region_held_drew (S := fun w' => S w') (by kernel_rfl) (h0) (fun hHeld => ?_)
  refine wpAnyH_take (i := 0) (oi := val18_o0) (v := .int .i64 (i : Int)) rfl (by kernel_rfl) (by kernel_rfl) (by kernel_rfl) (fun _ _ _ h => h) (Or.inl ⟨by rfl, fun w1 hw => exec_move rfl t10⟩) hHeld ?_
  change wpAnyH _ _ _ _ _ _ _ (a.put (some 63) (.int .i64 (i : Int))) _
  obtain ⟨a1, e1⟩ : ∃ act, act = a.put (some 63) (.int .i64 (i : Int)) := ⟨_, rfl⟩
  rw [← e1] at h1 h2 ⊢
  have z1 := pz e1 hsz
  replace t1 := pk e1 t1 (by decide)
  replace t10 := pk e1 t10 (by decide)
  have t63 := pq e1 hsz (by decide)
  clear e1 hsz
  refine wpAnyH_take (i := 2) (oi := val18_o2) (v := .slice (some ⟨g, o, none⟩) n c) rfl (by kernel_rfl) (by kernel_rfl) (by kernel_rfl) (fun _ _ _ h => h) (Or.inl ⟨by rfl, fun w1 hw => exec_move rfl t1⟩) hHeld ?_
  change wpAnyH _ _ _ _ _ _ _ (a1.put (some 65) (.slice (some ⟨g, o, none⟩) n c)) _
  obtain ⟨a2, e2⟩ : ∃ act, act = a1.put (some 65) (.slice (some ⟨g, o, none⟩) n c) := ⟨_, rfl⟩
  rw [← e2] at h1 h2 ⊢
  have z2 := pz e2 z1
  replace t10 := pk e2 t10 (by decide)
  replace t63 := pk e2 t63 (by decide)
  clear t1
  have t65 := pq e2 z1 (by decide)
  clear e2 z1
  refine wpAnyH_take (i := 3) (oi := val18_o3) (v := .int .i64 (i : Int)) rfl (by kernel_rfl) (by kernel_rfl) (by kernel_rfl) (fun _ _ _ h => h) (Or.inl ⟨by rfl, fun w1 hw => exec_move rfl t10⟩) hHeld ?_
  change wpAnyH _ _ _ _ _ _ _ (a2.put (some 66) (.int .i64 (i : Int))) _
  obtain ⟨a3, e3⟩ : ∃ act, act = a2.put (some 66) (.int .i64 (i : Int)) := ⟨_, rfl⟩
  rw [← e3] at h1 h2 ⊢
  have z3 := pz e3 z2
  replace t63 := pk e3 t63 (by decide)
  replace t65 := pk e3 t65 (by decide)
  clear t10
  have t66 := pq e3 z2 (by decide)
  clear e3 z2
  refine wpAnyH_take (i := 4) (oi := val18_o4) (v := .pointer (some ⟨g, o + 8 * i, none⟩)) rfl (by kernel_rfl) (by kernel_rfl) (by kernel_rfl) (fun _ _ _ h => h) (Or.inl ⟨by rfl, fun w1 hw => exec_indexAt rfl t65 t66 (ix_say hi hm _)⟩) hHeld ?_
  change wpAnyH _ _ _ _ _ _ _ (a3.put (some 67) (.pointer (some ⟨g, o + 8 * i, none⟩))) _
  obtain ⟨a4, e4⟩ : ∃ act, act = a3.put (some 67) (.pointer (some ⟨g, o + 8 * i, none⟩)) := ⟨_, rfl⟩
  rw [← e4] at h1 h2 ⊢
  have z4 := pz e4 z3
  replace t63 := pk e4 t63 (by decide)
  clear t65 t66
  have t67 := pq e4 z3 (by decide)
  clear e4 z3
  refine wpAnyH_take (i := 5) (oi := val18_o5) (v := .pointer (some ⟨g, o + 8 * i + 2, none⟩)) rfl (by kernel_rfl) (by kernel_rfl) (by kernel_rfl) (fun _ _ _ h => h) (Or.inl ⟨by rfl, fun w1 hw => exec_fieldAt rfl t67 (fg_74_2 _ _ _)⟩) hHeld ?_
  change wpAnyH _ _ _ _ _ _ _ (a4.put (some 68) (.pointer (some ⟨g, o + 8 * i + 2, none⟩))) _
  obtain ⟨a5, e5⟩ : ∃ act, act = a4.put (some 68) (.pointer (some ⟨g, o + 8 * i + 2, none⟩)) := ⟨_, rfl⟩
  rw [← e5] at h1 h2 ⊢
  have z5 := pz e5 z4
  replace t63 := pk e5 t63 (by decide)
  clear t67
  have t68 := pq e5 z4 (by decide)
  clear e5 z4
  refine wpAnyH_take (i := 6) (oi := val18_o6) (v := x.v.v) rfl (by kernel_rfl) (by kernel_rfl) (by kernel_rfl) (fun _ _ _ h => h) (Or.inl ⟨by rfl, fun w1 hw => exec_load rfl t68 (LV _ hw)⟩) hHeld ?_
  change wpAnyH _ _ _ _ _ _ _ (a5.put (some 69) (x.v.v)) _
  obtain ⟨a6, e6⟩ : ∃ act, act = a5.put (some 69) (x.v.v) := ⟨_, rfl⟩
  rw [← e6] at h1 h2 ⊢
  have z6 := pz e6 z5
  replace t63 := pk e6 t63 (by decide)
  clear t68
  have t69 := pq e6 z5 (by decide)
  clear e6 z5
  refine wpAnyH_ready (rs := [1, 8]) (by kernel_rfl) (by simp) ?_
  refine AllReadyH.cons (o := val18_o1) rfl (fun K hK => ?_) (AllReadyH.cons (o := val18_o8) rfl (fun K hK => ?_) (AllReadyH.nil))
  · clear h2
    rw [if_pos (by rfl)]
    unfold val18_o1 at hK ⊢
    go_simp
    refine (CA).mono ?_
    rintro e x7 ⟨eb, wa, wb, rfl, S1, EA, S2, ES, S3, HF⟩
    try go_wp2_with fail
    replace h1 := h1 eb
    refine hK.out _ _ (S1) (fun hHeld => ?_)
    clear hK K
    change wpAnyH _ _ _ _ _ _ _ (a6.put (some 64) (y.v)) _
    obtain ⟨a7, e7⟩ : ∃ act, act = a6.put (some 64) (y.v) := ⟨_, rfl⟩
    rw [← e7] at h1 ⊢
    have z7 := pz e7 z6
    replace t69 := pk e7 t69 (by decide)
    clear t63
    have t64 := pq e7 z6 (by decide)
    clear e7 z6
    refine wpAnyH_take (i := 7) (oi := val18_o7) (v := EnV.a ⟨y, x.v⟩) rfl (by kernel_rfl) (by kernel_rfl) (by kernel_rfl) (fun _ _ _ h => h) (Or.inl ⟨by rfl, fun w1 hw => exec_ben hy rfl t64 t69⟩) hHeld ?_
    change wpAnyH _ _ _ _ _ _ _ (a7.put (some 70) (EnV.a ⟨y, x.v⟩)) _
    obtain ⟨a8, e8⟩ : ∃ act, act = a7.put (some 70) (EnV.a ⟨y, x.v⟩) := ⟨_, rfl⟩
    rw [← e8] at h1 ⊢
    have z8 := pz e8 z7
    clear t69 t64
    have t70 := pq e8 z7 (by decide)
    clear e8 z7
    refine wpAnyH_ready (rs := [8]) (by kernel_rfl) (by simp) ?_
    refine AllReadyH.cons (o := val18_o8) rfl (fun K hK => ?_) AllReadyH.nil
    have X := exec_alloc (P := Tryd.prog) (a := a8) (o := val18_o8) rfl EA
    rw [if_pos (by rfl), Oper.wp, X]
    show K _ _
    clear X
    refine hK.out _ _ (S2) (fun hHeld => ?_)
    clear hK K
    change wpAnyH _ _ _ _ _ _ _ (a8.put (some 11) (.pointer (some ⟨eb, 0, none⟩))) _
    obtain ⟨a9, e9⟩ : ∃ act, act = a8.put (some 11) (.pointer (some ⟨eb, 0, none⟩)) := ⟨_, rfl⟩
    rw [← e9] at h1 ⊢
    have z9 := pz e9 z8
    replace t70 := pk e9 t70 (by decide)
    have t11 := pq e9 z8 (by decide)
    clear e9 z8
    refine wpAnyH_ready (rs := [9]) (by kernel_rfl) (by simp) ?_
    refine AllReadyH.cons (o := val18_o9) rfl (fun K hK => ?_) AllReadyH.nil
    have X := exec_store (P := Tryd.prog) (a := a9) (o := val18_o9) rfl t11 t70 ES
    rw [if_pos (by rfl), Oper.wp, X]
    show K _ _
    clear X
    refine hK.out _ _ (S3) (fun hHeld => ?_)
    clear hK K
    exact wpAnyH_done (by kernel_rfl) (NoPanic.normal (h1 _ _ (HF) rfl)) _
  · clear h1
    have X := exec_alloc (P := Tryd.prog) (a := a6) (o := val18_o8) rfl EB
    rw [if_pos (by rfl), Oper.wp, X]
    show K _ _
    clear X
    refine hK.out _ _ (S4) (fun hHeld => ?_)
    clear hK K
    change wpAnyH _ _ _ _ _ _ _ (a6.put (some 11) (.pointer (some ⟨eb2, 0, none⟩))) _
    obtain ⟨a11, e11⟩ : ∃ act, act = a6.put (some 11) (.pointer (some ⟨eb2, 0, none⟩)) := ⟨_, rfl⟩
    rw [← e11] at h2 ⊢
    have z11 := pz e11 z6
    replace t63 := pk e11 t63 (by decide)
    replace t69 := pk e11 t69 (by decide)
    have t11 := pq e11 z6 (by decide)
    clear e11 z6
    refine wpAnyH_ready (rs := [1]) (by kernel_rfl) (by simp) ?_
    refine AllReadyH.cons (o := val18_o1) rfl (fun K hK => ?_) AllReadyH.nil
    rw [if_pos (by rfl)]
    unfold val18_o1 at hK ⊢
    go_simp
    refine (CB).mono ?_
    rintro e x12 ⟨wb, rfl, S5, ES, S6, HF⟩
    try go_wp2_with fail
    skip
    refine hK.out _ _ (S5) (fun hHeld => ?_)
    clear hK K
    change wpAnyH _ _ _ _ _ _ _ (a11.put (some 64) (y.v)) _
    obtain ⟨a12, e12⟩ : ∃ act, act = a11.put (some 64) (y.v) := ⟨_, rfl⟩
    rw [← e12] at h2 ⊢
    have z12 := pz e12 z11
    replace t69 := pk e12 t69 (by decide)
    replace t11 := pk e12 t11 (by decide)
    clear t63
    have t64 := pq e12 z11 (by decide)
    clear e12 z11
    refine wpAnyH_take (i := 7) (oi := val18_o7) (v := EnV.a ⟨y, x.v⟩) rfl (by kernel_rfl) (by kernel_rfl) (by kernel_rfl) (fun _ _ _ h => h) (Or.inl ⟨by rfl, fun w1 hw => exec_ben hy rfl t64 t69⟩) hHeld ?_
    change wpAnyH _ _ _ _ _ _ _ (a12.put (some 70) (EnV.a ⟨y, x.v⟩)) _
    obtain ⟨a13, e13⟩ : ∃ act, act = a12.put (some 70) (EnV.a ⟨y, x.v⟩) := ⟨_, rfl⟩
    rw [← e13] at h2 ⊢
    have z13 := pz e13 z12
    replace t11 := pk e13 t11 (by decide)
    clear t69 t64
    have t70 := pq e13 z12 (by decide)
    clear e13 z12
    refine wpAnyH_ready (rs := [9]) (by kernel_rfl) (by simp) ?_
    refine AllReadyH.cons (o := val18_o9) rfl (fun K hK => ?_) AllReadyH.nil
    have X := exec_store (P := Tryd.prog) (a := a13) (o := val18_o9) rfl t11 t70 ES
    rw [if_pos (by rfl), Oper.wp, X]
    show K _ _
    clear X
    refine hK.out _ _ (S6) (fun hHeld => ?_)
    clear hK K
    exact wpAnyH_done (by kernel_rfl) (NoPanic.normal (h2 _ _ (HF) rfl)) _
def val23n_o0 : Oper := { dst := some 79, op := Op.move (Operand.tmp 0), type := 22, pos := "outright.go:79", after := #[], guard := none }
def val23n_o1 : Oper := { dst := some 80, op := Op.move (Operand.tmp 1), type := 70, pos := "outright.go:79", after := #[], guard := none }
def val23n_o2 : Oper := { dst := some 81, op := Op.move (Operand.tmp 13), type := 3, pos := "outright.go:79", after := #[], guard := none }
def val23n_o3 : Oper := { dst := some 82, op := Op.indexAddr 70 (Operand.tmp 80) (Operand.tmp 81), type := 0, pos := "outright.go:79", after := #[{ on := 1, ground := Ground.data }, { on := 2, ground := Ground.data }], guard := none }
def val23n_o4 : Oper := { dst := some 83, op := Op.fieldAddr 74 (Operand.tmp 82) 1, type := 0, pos := "outright.go:79", after := #[{ on := 3, ground := Ground.data }], guard := none }
def val23n_o5 : Oper := { dst := some 84, op := Op.load 3 (Operand.tmp 83), type := 3, pos := "outright.go:79", after := #[{ on := 4, ground := Ground.data }], guard := none }
def val23n_o6 : Oper := { dst := some 85, op := Op.call { callee := Callee.value (Operand.func 15), args := #[Operand.tmp 79, Operand.tmp 84], argTypes := #[22, 3] }, type := 52, pos := "outright.go:79", after := #[{ on := 0, ground := Ground.data }, { on := 5, ground := Ground.data }], guard := none }
def val23n_o7 : Oper := { dst := some 86, op := Op.load 52 (Operand.tmp 8), type := 52, pos := "outright.go:79", after := #[], guard := none }
def val23n_o8 : Oper := { dst := some 87, op := Op.binOp BinOp.neq 52 (Operand.tmp 85) (Operand.tmp 86) 52, type := 4, pos := "outright.go:79", after := #[{ on := 6, ground := Ground.data }, { on := 7, ground := Ground.data }], guard := none }
def val23n_o9 : Oper := { dst := some 88, op := Op.move (Operand.tmp 87), type := 4, pos := "outright.go:79", after := #[{ on := 8, ground := Ground.data }, { on := 6, ground := Ground.chain }], guard := none }
def val23n_o10 : Oper := { dst := some 89, op := Op.move (Operand.tmp 1), type := 70, pos := "outright.go:79", after := #[{ on := 9, ground := Ground.guard }], guard := some (9, false) }
def val23n_o11 : Oper := { dst := some 90, op := Op.move (Operand.tmp 13), type := 3, pos := "outright.go:79", after := #[{ on := 9, ground := Ground.guard }], guard := some (9, false) }
def val23n_o12 : Oper := { dst := some 91, op := Op.indexAddr 70 (Operand.tmp 89) (Operand.tmp 90), type := 0, pos := "outright.go:79", after := #[{ on := 10, ground := Ground.data }, { on := 11, ground := Ground.data }, { on := 9, ground := Ground.guard }], guard := some (9, false) }
def val23n_o13 : Oper := { dst := some 92, op := Op.load 74 (Operand.tmp 91), type := 74, pos := "outright.go:79", after := #[{ on := 12, ground := Ground.data }, { on := 9, ground := Ground.guard }], guard := some (9, false) }
def val23n_o14 : Oper := { dst := some 93, op := Op.move (Operand.tmp 10), type := 3, pos := "outright.go:79", after := #[{ on := 9, ground := Ground.guard }], guard := some (9, false) }
def val23n_o15 : Oper := { dst := some 94, op := Op.call { callee := Callee.value (Operand.func 28), args := #[Operand.tmp 92, Operand.tmp 93], argTypes := #[74, 3] }, type := 4, pos := "outright.go:79", after := #[{ on := 13, ground := Ground.data }, { on := 14, ground := Ground.data }, { on := 9, ground := Ground.chain }, { on := 9, ground := Ground.guard }], guard := some (9, false) }
def val23n_o16 : Oper := { dst := some 95, op := Op.unOp UnOp.not 4 (Operand.tmp 94), type := 4, pos := "outright.go:79", after := #[{ on := 15, ground := Ground.data }, { on := 9, ground := Ground.guard }], guard := some (9, false) }
def val23n_o17 : Oper := { dst := some 96, op := Op.pick (Operand.tmp 88) (Operand.const (Value.bool true)) (Operand.tmp 95), type := 4, pos := "outright.go:79", after := #[{ on := 9, ground := Ground.data }, { on := 16, ground := Ground.data }], guard := none }
def val23n_ops : Array Oper := #[val23n_o0, val23n_o1, val23n_o2, val23n_o3, val23n_o4, val23n_o5, val23n_o6, val23n_o7, val23n_o8, val23n_o9, val23n_o10, val23n_o11, val23n_o12, val23n_o13, val23n_o14, val23n_o15, val23n_o16, val23n_o17]
set_option maxRecDepth 100000 in
set_option maxHeartbeats 4000000 in
theorem val23n {g o n c i k pn pc pb : Nat} {pa : Option Addr} {p q : PlK} {x : SyR} (S : World → Prop) (a : Act) (w : World) (Q : Exit → Act → World → Prop) (zz : a.tmps.size = 168)
    (t0 : a.tmps.getD 0 undef = .slice pa pn pc)
    (t1 : a.tmps.getD 1 undef = .slice (some ⟨g, o, none⟩) n c)
    (t8 : a.tmps.getD 8 undef = .pointer (some ⟨pb, 0, none⟩))
    (t10 : a.tmps.getD 10 undef = .int .i64 (i : Int))
    (t13 : a.tmps.getD 13 undef = .int .i64 (k : Int))
    (hp : p.ok) (hq : q.ok) (hne : q ≠ p) (hk : k < n) (hm : n ≤ 9223372036854775807) (h0 : S w.drew) (LQ : ∀ W, S W → (Instr.loadAt 3 (.pointer (some ⟨g, o + 8 * k + 1, none⟩))).run Tryd.prog W = .ok (.int .i64 x.pl) W) (LP : ∀ W, S W → (Instr.loadAt 52 (.pointer (some ⟨pb, 0, none⟩))).run Tryd.prog W = .ok (p.v) W) (CA : Calls Tryd.prog 15 #[.slice pa pn pc, .int .i64 x.pl] w.drew fun e w' => e = .returned q.v ∧ S w')
    (h : ∀ (a' : Act) (w' : World), S w' → a' = ((((((((((((((((((a).put (some 79) (.slice pa pn pc)).put (some 80) (.slice (some ⟨g, o, none⟩) n c)).put (some 81) (.int .i64 (k : Int))).put (some 82) (.pointer (some ⟨g, o + 8 * k, none⟩))).put (some 83) (.pointer (some ⟨g, o + 8 * k + 1, none⟩))).put (some 84) (.int .i64 x.pl)).put (some 86) (p.v)).put (some 85) (q.v)).put (some 87) (.bool true)).put (some 88) (.bool true)).put (some 89) (undef)).put (some 90) (undef)).put (some 91) (undef)).put (some 92) (undef)).put (some 93) (undef)).put (some 94) (undef)).put (some 95) (undef)).put (some 96) (.bool true) → Q .normal a' w') :
    (Code.region 23 val23n_ops true).wp Tryd.prog Q a w := by
  refine y0 (fun w' => S w') (h0) (fun hHeld => ?_)
  refine yv 0 rfl rfl (fun w1 hw => exec_move rfl (zi t0 rfl)) hHeld ?_
  refine yv 1 rfl rfl (fun w1 hw => exec_move rfl (zi t1 rfl)) hHeld ?_
  refine yv 2 rfl rfl (fun w1 hw => exec_move rfl (zi t13 rfl)) hHeld ?_
  refine yv 3 rfl rfl (fun w1 hw => exec_indexAt rfl (zg zz rfl) (zg zz rfl) (ix_say hk hm _)) hHeld ?_
  refine yv 4 rfl rfl (fun w1 hw => exec_fieldAt rfl (zg zz rfl) (fg_74_1 _ _ _)) hHeld ?_
  refine yv 5 rfl rfl (fun w1 hw => exec_load rfl (zg zz rfl) (LQ _ hw)) hHeld ?_
  refine yv 7 rfl rfl (fun w1 hw => exec_load rfl (zi t8 rfl) (LP _ hw)) hHeld ?_
  refine yc 6 rfl rfl (exec_c2 rfl (zg zz rfl) (zg zz rfl)) (CA) (fun e x6 hx => ?_)
  obtain ⟨rfl, S1⟩ := hx
  refine ⟨_, rfl, S1, fun hHeld => ?_⟩
  refine yv (v := .bool true) 8 rfl rfl (fun w1 hw => ex_neqP hq hp (decide_eq_true hne) rfl (zg zz rfl) (zg zz rfl)) hHeld ?_
  refine yv 9 rfl rfl (fun w1 hw => exec_move rfl (zg zz rfl)) hHeld ?_
  refine yn 10 rfl (zx zz rfl rfl rfl (zg zz rfl)) hHeld ?_
  refine yn 11 rfl (zx zz rfl rfl rfl (zg zz rfl)) hHeld ?_
  refine yn 12 rfl (zx zz rfl rfl rfl (zg zz rfl)) hHeld ?_
  refine yn 13 rfl (zx zz rfl rfl rfl (zg zz rfl)) hHeld ?_
  refine yn 14 rfl (zx zz rfl rfl rfl (zg zz rfl)) hHeld ?_
  refine yn 15 rfl (zx zz rfl rfl rfl (zg zz rfl)) hHeld ?_
  refine yn 16 rfl (zx zz rfl rfl rfl (zg zz rfl)) hHeld ?_
  refine yv 17 rfl rfl (fun w1 hw => exec_pickT rfl (zg zz rfl) rfl) hHeld ?_
  exact ye rfl (h _ _ (S1) rfl)
def val23y_o0 : Oper := { dst := some 79, op := Op.move (Operand.tmp 0), type := 22, pos := "outright.go:79", after := #[], guard := none }
def val23y_o1 : Oper := { dst := some 80, op := Op.move (Operand.tmp 1), type := 70, pos := "outright.go:79", after := #[], guard := none }
def val23y_o2 : Oper := { dst := some 81, op := Op.move (Operand.tmp 13), type := 3, pos := "outright.go:79", after := #[], guard := none }
def val23y_o3 : Oper := { dst := some 82, op := Op.indexAddr 70 (Operand.tmp 80) (Operand.tmp 81), type := 0, pos := "outright.go:79", after := #[{ on := 1, ground := Ground.data }, { on := 2, ground := Ground.data }], guard := none }
def val23y_o4 : Oper := { dst := some 83, op := Op.fieldAddr 74 (Operand.tmp 82) 1, type := 0, pos := "outright.go:79", after := #[{ on := 3, ground := Ground.data }], guard := none }
def val23y_o5 : Oper := { dst := some 84, op := Op.load 3 (Operand.tmp 83), type := 3, pos := "outright.go:79", after := #[{ on := 4, ground := Ground.data }], guard := none }
def val23y_o6 : Oper := { dst := some 85, op := Op.call { callee := Callee.value (Operand.func 15), args := #[Operand.tmp 79, Operand.tmp 84], argTypes := #[22, 3] }, type := 52, pos := "outright.go:79", after := #[{ on := 0, ground := Ground.data }, { on := 5, ground := Ground.data }], guard := none }
def val23y_o7 : Oper := { dst := some 86, op := Op.load 52 (Operand.tmp 8), type := 52, pos := "outright.go:79", after := #[], guard := none }
def val23y_o8 : Oper := { dst := some 87, op := Op.binOp BinOp.neq 52 (Operand.tmp 85) (Operand.tmp 86) 52, type := 4, pos := "outright.go:79", after := #[{ on := 6, ground := Ground.data }, { on := 7, ground := Ground.data }], guard := none }
def val23y_o9 : Oper := { dst := some 88, op := Op.move (Operand.tmp 87), type := 4, pos := "outright.go:79", after := #[{ on := 8, ground := Ground.data }, { on := 6, ground := Ground.chain }], guard := none }
def val23y_o10 : Oper := { dst := some 89, op := Op.move (Operand.tmp 1), type := 70, pos := "outright.go:79", after := #[{ on := 9, ground := Ground.guard }], guard := some (9, false) }
def val23y_o11 : Oper := { dst := some 90, op := Op.move (Operand.tmp 13), type := 3, pos := "outright.go:79", after := #[{ on := 9, ground := Ground.guard }], guard := some (9, false) }
def val23y_o12 : Oper := { dst := some 91, op := Op.indexAddr 70 (Operand.tmp 89) (Operand.tmp 90), type := 0, pos := "outright.go:79", after := #[{ on := 10, ground := Ground.data }, { on := 11, ground := Ground.data }, { on := 9, ground := Ground.guard }], guard := some (9, false) }
def val23y_o13 : Oper := { dst := some 92, op := Op.load 74 (Operand.tmp 91), type := 74, pos := "outright.go:79", after := #[{ on := 12, ground := Ground.data }, { on := 9, ground := Ground.guard }], guard := some (9, false) }
def val23y_o14 : Oper := { dst := some 93, op := Op.move (Operand.tmp 10), type := 3, pos := "outright.go:79", after := #[{ on := 9, ground := Ground.guard }], guard := some (9, false) }
def val23y_o15 : Oper := { dst := some 94, op := Op.call { callee := Callee.value (Operand.func 28), args := #[Operand.tmp 92, Operand.tmp 93], argTypes := #[74, 3] }, type := 4, pos := "outright.go:79", after := #[{ on := 13, ground := Ground.data }, { on := 14, ground := Ground.data }, { on := 9, ground := Ground.chain }, { on := 9, ground := Ground.guard }], guard := some (9, false) }
def val23y_o16 : Oper := { dst := some 95, op := Op.unOp UnOp.not 4 (Operand.tmp 94), type := 4, pos := "outright.go:79", after := #[{ on := 15, ground := Ground.data }, { on := 9, ground := Ground.guard }], guard := some (9, false) }
def val23y_o17 : Oper := { dst := some 96, op := Op.pick (Operand.tmp 88) (Operand.const (Value.bool true)) (Operand.tmp 95), type := 4, pos := "outright.go:79", after := #[{ on := 9, ground := Ground.data }, { on := 16, ground := Ground.data }], guard := none }
def val23y_ops : Array Oper := #[val23y_o0, val23y_o1, val23y_o2, val23y_o3, val23y_o4, val23y_o5, val23y_o6, val23y_o7, val23y_o8, val23y_o9, val23y_o10, val23y_o11, val23y_o12, val23y_o13, val23y_o14, val23y_o15, val23y_o16, val23y_o17]
set_option maxRecDepth 100000 in
set_option maxHeartbeats 4000000 in
theorem val23y {g o n c i k pn pc pb : Nat} {pa : Option Addr} {p q : PlK} {x : SyR} (S : World → Prop) {r : Bool} (a : Act) (w : World) (Q : Exit → Act → World → Prop) (zz : a.tmps.size = 168)
    (t0 : a.tmps.getD 0 undef = .slice pa pn pc)
    (t1 : a.tmps.getD 1 undef = .slice (some ⟨g, o, none⟩) n c)
    (t8 : a.tmps.getD 8 undef = .pointer (some ⟨pb, 0, none⟩))
    (t10 : a.tmps.getD 10 undef = .int .i64 (i : Int))
    (t13 : a.tmps.getD 13 undef = .int .i64 (k : Int))
    (hp : p.ok) (hq : q.ok) (he : q = p) (hk : k < n) (hm : n ≤ 9223372036854775807) (h0 : S w.drew) (LQ : ∀ W, S W → (Instr.loadAt 3 (.pointer (some ⟨g, o + 8 * k + 1, none⟩))).run Tryd.prog W = .ok (.int .i64 x.pl) W) (LP : ∀ W, S W → (Instr.loadAt 52 (.pointer (some ⟨pb, 0, none⟩))).run Tryd.prog W = .ok (p.v) W) (LS : ∀ W, S W → (Instr.loadAt 74 (.pointer (some ⟨g, o + 8 * k, none⟩))).run Tryd.prog W = .ok (x.a) W) (CA : Calls Tryd.prog 15 #[.slice pa pn pc, .int .i64 x.pl] w.drew fun e w' => e = .returned q.v ∧ S w' ∧ Calls Tryd.prog 28 #[x.a, .int .i64 (i : Int)] w' fun e w2 => e = .returned (.bool r) ∧ S w2)
    (h : ∀ (a' : Act) (w' : World), S w' → a' = ((((((((((((((((((a).put (some 79) (.slice pa pn pc)).put (some 80) (.slice (some ⟨g, o, none⟩) n c)).put (some 81) (.int .i64 (k : Int))).put (some 82) (.pointer (some ⟨g, o + 8 * k, none⟩))).put (some 83) (.pointer (some ⟨g, o + 8 * k + 1, none⟩))).put (some 84) (.int .i64 x.pl)).put (some 86) (p.v)).put (some 85) (q.v)).put (some 87) (.bool false)).put (some 88) (.bool false)).put (some 89) (.slice (some ⟨g, o, none⟩) n c)).put (some 90) (.int .i64 (k : Int))).put (some 91) (.pointer (some ⟨g, o + 8 * k, none⟩))).put (some 92) (x.a)).put (some 93) (.int .i64 (i : Int))).put (some 94) (.bool r)).put (some 95) (.bool (!r))).put (some 96) (.bool (!r)) → Q .normal a' w') :
    (Code.region 23 val23y_ops true).wp Tryd.prog Q a w := by
  refine y0 (fun w' => S w') (h0) (fun hHeld => ?_)
  refine yv 0 rfl rfl (fun w1 hw => exec_move rfl (zi t0 rfl)) hHeld ?_
  refine yv 1 rfl rfl (fun w1 hw => exec_move rfl (zi t1 rfl)) hHeld ?_
  refine yv 2 rfl rfl (fun w1 hw => exec_move rfl (zi t13 rfl)) hHeld ?_
  refine yv 3 rfl rfl (fun w1 hw => exec_indexAt rfl (zg zz rfl) (zg zz rfl) (ix_say hk hm _)) hHeld ?_
  refine yv 4 rfl rfl (fun w1 hw => exec_fieldAt rfl (zg zz rfl) (fg_74_1 _ _ _)) hHeld ?_
  refine yv 5 rfl rfl (fun w1 hw => exec_load rfl (zg zz rfl) (LQ _ hw)) hHeld ?_
  refine yv 7 rfl rfl (fun w1 hw => exec_load rfl (zi t8 rfl) (LP _ hw)) hHeld ?_
  refine yc 6 rfl rfl (exec_c2 rfl (zg zz rfl) (zg zz rfl)) (CA) (fun e x6 hx => ?_)
  obtain ⟨rfl, S1, CK⟩ := hx
  refine ⟨_, rfl, S1, fun hHeld => ?_⟩
  refine yv (v := .bool false) 8 rfl rfl (fun w1 hw => ex_neqP hq hp (decide_eq_false (fun h => h he)) rfl (zg zz rfl) (zg zz rfl)) hHeld ?_
  refine yv 9 rfl rfl (fun w1 hw => exec_move rfl (zg zz rfl)) hHeld ?_
  refine yv 10 rfl (zw zz rfl rfl rfl (zg zz rfl)) (fun w1 hw => exec_move rfl (zi t1 rfl)) hHeld ?_
  refine yv 11 rfl (zw zz rfl rfl rfl (zg zz rfl)) (fun w1 hw => exec_move rfl (zi t13 rfl)) hHeld ?_
  refine yv 12 rfl (zw zz rfl rfl rfl (zg zz rfl)) (fun w1 hw => exec_indexAt rfl (zg zz rfl) (zg zz rfl) (ix_say hk hm _)) hHeld ?_
  refine yv 13 rfl (zw zz rfl rfl rfl (zg zz rfl)) (fun w1 hw => exec_load rfl (zg zz rfl) (LS _ hw)) hHeld ?_
  refine yv 14 rfl (zw zz rfl rfl rfl (zg zz rfl)) (fun w1 hw => exec_move rfl (zi t10 rfl)) hHeld ?_
  refine yc 15 rfl (zw zz rfl rfl rfl (zg zz rfl)) (exec_c2 rfl (zg zz rfl) (zg zz rfl)) (CK) (fun e x15 hx => ?_)
  obtain ⟨rfl, S2⟩ := hx
  refine ⟨_, rfl, S2, fun hHeld => ?_⟩
  refine yv 16 rfl (zw zz rfl rfl rfl (zg zz rfl)) (fun w1 hw => exec_not rfl (zg zz rfl)) hHeld ?_
  refine yv 17 rfl rfl (fun w1 hw => exec_pickF rfl (zg zz rfl) (zg zz rfl)) hHeld ?_
  exact ye rfl (h _ _ (S2) rfl)
def val24_o0 : Oper := { dst := some 97, op := Op.move (Operand.tmp 1), type := 70, pos := "outright.go:82", after := #[], guard := none }
def val24_o1 : Oper := { dst := some 98, op := Op.move (Operand.tmp 13), type := 3, pos := "outright.go:82", after := #[], guard := none }
def val24_o2 : Oper := { dst := some 99, op := Op.indexAddr 70 (Operand.tmp 97) (Operand.tmp 98), type := 0, pos := "outright.go:82", after := #[{ on := 0, ground := Ground.data }, { on := 1, ground := Ground.data }], guard := none }
def val24_o3 : Oper := { dst := some 100, op := Op.fieldAddr 74 (Operand.tmp 99) 0, type := 0, pos := "outright.go:82", after := #[{ on := 2, ground := Ground.data }], guard := none }
def val24_o4 : Oper := { dst := some 101, op := Op.load 3 (Operand.tmp 100), type := 3, pos := "outright.go:82", after := #[{ on := 3, ground := Ground.data }], guard := none }
def val24_o5 : Oper := { dst := some 102, op := Op.binOp BinOp.neq 3 (Operand.tmp 101) (Operand.const (Value.int IntKind.i64 2)) 3, type := 4, pos := "outright.go:82", after := #[{ on := 4, ground := Ground.data }], guard := none }
def val24_ops : Array Oper := #[val24_o0, val24_o1, val24_o2, val24_o3, val24_o4, val24_o5]
set_option maxRecDepth 100000 in
set_option maxHeartbeats 4000000 in
theorem val24 {g o n c k : Nat} {x : SyR} (a : Act) (w : World) (Q : Exit → Act → World → Prop) (zz : a.tmps.size = 168)
    (t1 : a.tmps.getD 1 undef = .slice (some ⟨g, o, none⟩) n c)
    (t13 : a.tmps.getD 13 undef = .int .i64 (k : Int))
    (hk : k < n) (hm : n ≤ 9223372036854775807) (LQ : ∀ W, W = w → (Instr.loadAt 3 (.pointer (some ⟨g, o + 8 * k + 0, none⟩))).run Tryd.prog W = .ok (.int .i64 x.kind) W)
    (h : ∀ (a' : Act) (w' : World), w' = w → a' = ((((((a).put (some 97) (.slice (some ⟨g, o, none⟩) n c)).put (some 98) (.int .i64 (k : Int))).put (some 99) (.pointer (some ⟨g, o + 8 * k, none⟩))).put (some 100) (.pointer (some ⟨g, o + 8 * k + 0, none⟩))).put (some 101) (.int .i64 x.kind)).put (some 102) (.bool (x.kind != 2)) → Q .normal a' w') :
    (Code.region 24 val24_ops false).wp Tryd.prog Q a w := by
  refine z0 rfl ?_
  refine zv rfl (exec_move rfl (zi t1 rfl)) ?_
  refine zv rfl (exec_move rfl (zi t13 rfl)) ?_
  refine zv rfl (exec_indexAt rfl (zg zz rfl) (zg zz rfl) (ix_say hk hm _)) ?_
  refine zv rfl (exec_fieldAt rfl (zg zz rfl) (fg_74_0 _ _ _)) ?_
  refine zv rfl (exec_load rfl (zg zz rfl) (LQ _ rfl)) ?_
  refine zv (v := .bool (x.kind != 2)) rfl (ex_ne2 rfl (zg zz rfl) rfl) ?_
  exact ze rfl (h _ _ (rfl) rfl)
def val26_o0 : Oper := { dst := some 103, op := Op.fieldAddr 63 (Operand.tmp 11) 1, type := 0, pos := "outright.go:84", after := #[], guard := none }
def val26_o1 : Oper := { dst := some 104, op := Op.load 42 (Operand.tmp 103), type := 42, pos := "outright.go:84", after := #[{ on := 0, ground := Ground.data }], guard := none }
def val26_o2 : Oper := { dst := some 105, op := Op.call { callee := Callee.value (Operand.func 29), args := #[Operand.tmp 104], argTypes := #[42] }, type := 4, pos := "outright.go:84", after := #[{ on := 1, ground := Ground.data }], guard := none }
def val26_ops : Array Oper := #[val26_o0, val26_o1, val26_o2]
set_option maxRecDepth 100000 in
set_option maxHeartbeats 4000000 in
theorem val26 {eb : Nat} {v : VaV} {r : Bool} (Fin : World → Prop) (a : Act) (w : World) (Q : Exit → Act → World → Prop) (zz : a.tmps.size = 168)
    (t11 : a.tmps.getD 11 undef = .pointer (some ⟨eb, 0, none⟩))
    (LV : ∀ W, W = w → (Instr.loadAt 42 (.pointer (some ⟨eb, 0 + 33, none⟩))).run Tryd.prog W = .ok (v.v) W) (CC : Calls Tryd.prog 29 #[v.v] w fun e w' => e = .returned (.bool r) ∧ Fin w')
    (h : ∀ (a' : Act) (w' : World), Fin w' → a' = (((a).put (some 103) (.pointer (some ⟨eb, 0 + 33, none⟩))).put (some 104) (v.v)).put (some 105) (.bool r) → Q .normal a' w') :
    (Code.region 26 val26_ops false).wp Tryd.prog Q a w := by
  refine z0 rfl ?_
  refine zv rfl (exec_fieldAt rfl (zi t11 rfl) (fg_63_1 _ _ _)) ?_
  refine zv rfl (exec_load rfl (zg zz rfl) (LV _ rfl)) ?_
  refine zc rfl (exec_c1 rfl (zg zz rfl)) (CC) (fun e x2 hx => ?_)
  obtain ⟨rfl, HF⟩ := hx
  refine ⟨_, rfl, ?_⟩
  exact ze rfl (h _ _ (HF) rfl)
def val27_o0 : Oper := { dst := some 106, op := Op.fieldAddr 63 (Operand.tmp 11) 1, type := 0, pos := "outright.go:85", after := #[], guard := none }
def val27_o1 : Oper := { dst := some 107, op := Op.fieldAddr 42 (Operand.tmp 106) 1, type := 0, pos := "outright.go:85", after := #[{ on := 0, ground := Ground.data }], guard := none }
def val27_o2 : Oper := { dst := some 108, op := Op.load 2 (Operand.tmp 107), type := 2, pos := "outright.go:85", after := #[{ on := 1, ground := Ground.data }], guard := none }
def val27_o3 : Oper := { dst := some 109, op := Op.move (Operand.tmp 1), type := 70, pos := "outright.go:85", after := #[], guard := none }
def val27_o4 : Oper := { dst := some 110, op := Op.move (Operand.tmp 13), type := 3, pos := "outright.go:85", after := #[], guard := none }
def val27_o5 : Oper := { dst := some 111, op := Op.indexAddr 70 (Operand.tmp 109) (Operand.tmp 110), type := 0, pos := "outright.go:85", after := #[{ on := 3, ground := Ground.data }, { on := 4, ground := Ground.data }], guard := none }
def val27_o6 : Oper := { dst := some 112, op := Op.fieldAddr 74 (Operand.tmp 111) 3, type := 0, pos := "outright.go:85", after := #[{ on := 5, ground := Ground.data }], guard := none }
def val27_o7 : Oper := { dst := some 113, op := Op.load 2 (Operand.tmp 112), type := 2, pos := "outright.go:85", after := #[{ on := 6, ground := Ground.data }], guard := none }
def val27_o8 : Oper := { dst := some 114, op := Op.binOp BinOp.add 2 (Operand.tmp 108) (Operand.tmp 113) 2, type := 2, pos := "outright.go:85", after := #[{ on := 2, ground := Ground.data }, { on := 7, ground := Ground.data }], guard := none }
def val27_o9 : Oper := { dst := some 115, op := Op.fieldAddr 63 (Operand.tmp 11) 1, type := 0, pos := "outright.go:85", after := #[{ on := 0, ground := Ground.phase }, { on := 1, ground := Ground.phase }, { on := 2, ground := Ground.phase }, { on := 3, ground := Ground.phase }, { on := 4, ground := Ground.phase }, { on := 5, ground := Ground.phase }, { on := 6, ground := Ground.phase }, { on := 7, ground := Ground.phase }, { on := 8, ground := Ground.phase }], guard := none }
def val27_o10 : Oper := { dst := some 116, op := Op.fieldAddr 42 (Operand.tmp 115) 1, type := 0, pos := "outright.go:85", after := #[{ on := 9, ground := Ground.data }, { on := 0, ground := Ground.phase }, { on := 1, ground := Ground.phase }, { on := 2, ground := Ground.phase }, { on := 3, ground := Ground.phase }, { on := 4, ground := Ground.phase }, { on := 5, ground := Ground.phase }, { on := 6, ground := Ground.phase }, { on := 7, ground := Ground.phase }, { on := 8, ground := Ground.phase }], guard := none }
def val27_o11 : Oper := { dst := none, op := Op.store 2 (Operand.tmp 116) (Operand.tmp 114), type := 0, pos := "outright.go:85", after := #[{ on := 10, ground := Ground.data }, { on := 8, ground := Ground.data }, { on := 0, ground := Ground.phase }, { on := 1, ground := Ground.phase }, { on := 2, ground := Ground.phase }, { on := 3, ground := Ground.phase }, { on := 4, ground := Ground.phase }, { on := 5, ground := Ground.phase }, { on := 6, ground := Ground.phase }, { on := 7, ground := Ground.phase }, { on := 8, ground := Ground.phase }], guard := none }
def val27_ops : Array Oper := #[val27_o0, val27_o1, val27_o2, val27_o3, val27_o4, val27_o5, val27_o6, val27_o7, val27_o8, val27_o9, val27_o10, val27_o11]
set_option maxRecDepth 100000 in
set_option maxHeartbeats 4000000 in
theorem val27 {g o n c k eb : Nat} {m : Int} {x : SyR} {w1 : World} (S : World → Prop) (a : Act) (w : World) (Q : Exit → Act → World → Prop) (zz : a.tmps.size = 168)
    (t1 : a.tmps.getD 1 undef = .slice (some ⟨g, o, none⟩) n c)
    (t11 : a.tmps.getD 11 undef = .pointer (some ⟨eb, 0, none⟩))
    (t13 : a.tmps.getD 13 undef = .int .i64 (k : Int))
    (hk : k < n) (hm : n ≤ 9223372036854775807) (h0 : S w.drew) (LE : ∀ W, S W → (Instr.loadAt 2 (.pointer (some ⟨eb, 0 + 33 + 1, none⟩))).run Tryd.prog W = .ok (.int .i64 m) W) (LN : ∀ W, S W → (Instr.loadAt 2 (.pointer (some ⟨g, o + 8 * k + 6, none⟩))).run Tryd.prog W = .ok (.int .i64 x.n) W) (ES : (Instr.storeAt 2 (.pointer (some ⟨eb, 0 + 33 + 1, none⟩)) (.int .i64 (IntKind.i64.wrap (m + x.n)))).run Tryd.prog w.drew = .ok () w1)
    (h : ∀ (a' : Act) (w' : World), w' = w1 → a' = (((((((((((a).put (some 106) (.pointer (some ⟨eb, 0 + 33, none⟩))).put (some 107) (.pointer (some ⟨eb, 0 + 33 + 1, none⟩))).put (some 108) (.int .i64 m)).put (some 109) (.slice (some ⟨g, o, none⟩) n c)).put (some 110) (.int .i64 (k : Int))).put (some 111) (.pointer (some ⟨g, o + 8 * k, none⟩))).put (some 112) (.pointer (some ⟨g, o + 8 * k + 6, none⟩))).put (some 113) (.int .i64 x.n)).put (some 114) (.int .i64 (IntKind.i64.wrap (m + x.n)))).put (some 115) (.pointer (some ⟨eb, 0 + 33, none⟩))).put (some 116) (.pointer (some ⟨eb, 0 + 33 + 1, none⟩)) → Q .normal a' w') :
    (Code.region 27 val27_ops true).wp Tryd.prog Q a w := by
  refine x0 11 (fun w' => S w') (h0) (fun hHeld => ?_)
  refine xv 0 rfl rfl (fun w1 hw => exec_fieldAt rfl (zi t11 rfl) (fg_63_1 _ _ _)) hHeld ?_
  refine xv 1 rfl rfl (fun w1 hw => exec_fieldAt rfl (zg zz rfl) (fg_42_1 _ _ _)) hHeld ?_
  refine xv 2 rfl rfl (fun w1 hw => exec_load rfl (zg zz rfl) (LE _ hw)) hHeld ?_
  refine xv 3 rfl rfl (fun w1 hw => exec_move rfl (zi t1 rfl)) hHeld ?_
  refine xv 4 rfl rfl (fun w1 hw => exec_move rfl (zi t13 rfl)) hHeld ?_
  refine xv 5 rfl rfl (fun w1 hw => exec_indexAt rfl (zg zz rfl) (zg zz rfl) (ix_say hk hm _)) hHeld ?_
  refine xv 6 rfl rfl (fun w1 hw => exec_fieldAt rfl (zg zz rfl) (fg_74_3 _ _ _)) hHeld ?_
  refine xv 7 rfl rfl (fun w1 hw => exec_load rfl (zg zz rfl) (LN _ hw)) hHeld ?_
  refine xv (v := .int .i64 (IntKind.i64.wrap (m + x.n))) 8 rfl rfl (fun w1 hw => ex_addw rfl (zg zz rfl) (zg zz rfl)) hHeld ?_
  refine xv 9 rfl rfl (fun w1 hw => exec_fieldAt rfl (zi t11 rfl) (fg_63_1 _ _ _)) hHeld ?_
  refine xv 10 rfl rfl (fun w1 hw => exec_fieldAt rfl (zg zz rfl) (fg_42_1 _ _ _)) hHeld ?_
  refine xs 11 rfl rfl (exec_store rfl (zg zz rfl) (zg zz rfl) ES) (fun hne => absurd rfl hne) (fun _ => ?_)
  exact xe rfl (h _ _ (rfl) rfl)
def val29_o0 : Oper := { dst := some 119, op := Op.move (Operand.tmp 9), type := 60, pos := "outright.go:89", after := #[], guard := none }
def val29_o1 : Oper := { dst := some 120, op := Op.load 63 (Operand.tmp 11), type := 63, pos := "outright.go:89", after := #[], guard := none }
def val29_o2 : Oper := { dst := some 121, op := Op.buildSlice 60 1 #[(0, Operand.tmp 120)], type := 60, pos := "outright.go:89", after := #[{ on := 1, ground := Ground.data }], guard := none }
def val29_o3 : Oper := { dst := some 122, op := Op.call { callee := Callee.builtin Builtin.append, args := #[Operand.tmp 119, Operand.tmp 121], argTypes := #[60, 60] }, type := 60, pos := "outright.go:89", after := #[{ on := 0, ground := Ground.data }, { on := 2, ground := Ground.data }], guard := none }
def val29_o4 : Oper := { dst := some 9, op := Op.assign (Operand.tmp 122), type := 60, pos := "outright.go:89", after := #[{ on := 3, ground := Ground.data }, { on := 3, ground := Ground.chain }, { on := 0, ground := Ground.phase }, { on := 1, ground := Ground.phase }, { on := 2, ground := Ground.phase }, { on := 3, ground := Ground.phase }], guard := none }
def val29_ops : Array Oper := #[val29_o0, val29_o1, val29_o2, val29_o3, val29_o4]
set_option maxRecDepth 100000 in
set_option maxHeartbeats 4000000 in
theorem val29 {eb : Nat} {wv sv u : Value} {x : EnV} {w1 w2 : World} (a : Act) (w : World) (Q : Exit → Act → World → Prop) (zz : a.tmps.size = 168)
    (t9 : a.tmps.getD 9 undef = wv)
    (t11 : a.tmps.getD 11 undef = .pointer (some ⟨eb, 0, none⟩))
    (LE : ∀ W, W = w → (Instr.loadAt 63 (.pointer (some ⟨eb, 0, none⟩))).run Tryd.prog W = .ok (x.a) W) (EB : (Instr.buildSlice 60 1 #[(0, x.a)]).run Tryd.prog w = .ok sv w1) (EA : (Builtin.append_ #[60, 60] 60 #[wv, sv]).run Tryd.prog w1 = .ok u w2)
    (h : ∀ (a' : Act) (w' : World), w' = w2 → a' = (((((a).put (some 119) (wv)).put (some 120) (x.a)).put (some 121) (sv)).put (some 122) (u)).put (some 9) (u) → Q .normal a' w') :
    (Code.region 29 val29_ops false).wp Tryd.prog Q a w := by
  refine z0 rfl ?_
  refine zv rfl (exec_move rfl (zi t9 rfl)) ?_
  refine zv rfl (exec_load rfl (zi t11 rfl) (LE _ rfl)) ?_
  refine zv (v := sv) rfl (exec_buildSlice rfl (zg zz rfl) EB) ?_
  refine zv (v := u) rfl (exec_append rfl (zg zz rfl) (zg zz rfl) EA) ?_
  refine zv rfl (exec_assign rfl (zg zz rfl)) ?_
  exact ze rfl (h _ _ (rfl) rfl)
def val30_o0 : Oper := { dst := some 123, op := Op.move (Operand.tmp 5), type := 26, pos := "outright.go:92", after := #[], guard := none }
def val30_o1 : Oper := { dst := some 124, op := Op.load 52 (Operand.tmp 8), type := 52, pos := "outright.go:92", after := #[], guard := none }
def val30_o2 : Oper := { dst := some 125, op := Op.call { callee := Callee.value (Operand.func 20), args := #[Operand.tmp 123, Operand.tmp 124], argTypes := #[26, 52] }, type := 60, pos := "outright.go:92", after := #[{ on := 0, ground := Ground.data }, { on := 1, ground := Ground.data }], guard := none }
def val30_o3 : Oper := { dst := some 126, op := Op.move (Operand.tmp 9), type := 60, pos := "outright.go:92", after := #[], guard := none }
def val30_o4 : Oper := { dst := some 127, op := Op.call { callee := Callee.value (Operand.func 30), args := #[Operand.tmp 125, Operand.tmp 126], argTypes := #[60, 60] }, type := 4, pos := "outright.go:92", after := #[{ on := 2, ground := Ground.data }, { on := 3, ground := Ground.data }, { on := 2, ground := Ground.chain }], guard := none }
def val30_o5 : Oper := { dst := some 128, op := Op.unOp UnOp.not 4 (Operand.tmp 127), type := 4, pos := "outright.go:92", after := #[{ on := 4, ground := Ground.data }], guard := none }
def val30_ops : Array Oper := #[val30_o0, val30_o1, val30_o2, val30_o3, val30_o4, val30_o5]
set_option maxRecDepth 100000 in
set_option maxHeartbeats 4000000 in
theorem val30 {rb pb : Nat} {wv : Value} {p : PlK} (Fin : World → Prop) (a : Act) (w : World) (Q : Exit → Act → World → Prop) (zz : a.tmps.size = 168)
    (t5 : a.tmps.getD 5 undef = .pointer (some ⟨rb, 0, none⟩))
    (t8 : a.tmps.getD 8 undef = .pointer (some ⟨pb, 0, none⟩))
    (t9 : a.tmps.getD 9 undef = wv)
    (LP : ∀ W, W = w → (Instr.loadAt 52 (.pointer (some ⟨pb, 0, none⟩))).run Tryd.prog W = .ok (p.v) W) (CE : Calls Tryd.prog 20 #[.pointer (some ⟨rb, 0, none⟩), p.v] w fun e w1 => ∃ u, e = .returned u ∧ Calls Tryd.prog 30 #[u, wv] w1 fun e w' => e = .returned (.bool true) ∧ Fin w')
    (h : ∀ (u : Value) (a' : Act) (w' : World), Fin w' → a' = ((((((a).put (some 123) (.pointer (some ⟨rb, 0, none⟩))).put (some 124) (p.v)).put (some 125) (u)).put (some 126) (wv)).put (some 127) (.bool true)).put (some 128) (.bool false) → Q .normal a' w') :
    (Code.region 30 val30_ops false).wp Tryd.prog Q a w := by
  refine z0 rfl ?_
  refine zv rfl (exec_move rfl (zi t5 rfl)) ?_
  refine zv rfl (exec_load rfl (zi t8 rfl) (LP _ rfl)) ?_
  refine zc rfl (exec_c2 rfl (zg zz rfl) (zg zz rfl)) (CE) (fun e x2 hx => ?_)
  obtain ⟨u, rfl, CS⟩ := hx
  replace h := h u
  refine ⟨_, rfl, ?_⟩
  refine zv rfl (exec_move rfl (zi t9 rfl)) ?_
  refine zc rfl (exec_c2 rfl (zg zz rfl) (zg zz rfl)) (CS) (fun e x4 hx => ?_)
  obtain ⟨rfl, HF⟩ := hx
  refine ⟨_, rfl, ?_⟩
  refine zv rfl (exec_not rfl (zg zz rfl)) ?_
  exact ze rfl (h _ _ (HF) rfl)
def val32_o0 : Oper := { dst := some 130, op := Op.move (Operand.tmp 5), type := 26, pos := "outright.go:95", after := #[], guard := none }
def val32_o1 : Oper := { dst := some 131, op := Op.load 52 (Operand.tmp 8), type := 52, pos := "outright.go:95", after := #[], guard := none }
def val32_o2 : Oper := { dst := some 132, op := Op.call { callee := Callee.value (Operand.func 21), args := #[Operand.tmp 130, Operand.tmp 131], argTypes := #[26, 52] }, type := 64, pos := "outright.go:95", after := #[{ on := 0, ground := Ground.data }, { on := 1, ground := Ground.data }], guard := none }
def val32_o3 : Oper := { dst := some 129, op := Op.move (Operand.tmp 132), type := 64, pos := "outright.go:95", after := #[{ on := 2, ground := Ground.data }], guard := none }
def val32_o4 : Oper := { dst := some 133, op := Op.extract (Operand.tmp 129) 0, type := 63, pos := "outright.go:95", after := #[{ on := 3, ground := Ground.data }], guard := none }
def val32_o5 : Oper := { dst := some 134, op := Op.extract (Operand.tmp 129) 1, type := 4, pos := "outright.go:95", after := #[{ on := 3, ground := Ground.data }, { on := 7, ground := Ground.gcOnly Departure.lateStores }], guard := none }
def val32_o6 : Oper := { dst := some 14, op := Op.alloc 63, type := 0, pos := "outright.go:95", after := #[], guard := none }
def val32_o7 : Oper := { dst := none, op := Op.store 63 (Operand.tmp 14) (Operand.tmp 133), type := 0, pos := "outright.go:95", after := #[{ on := 6, ground := Ground.data }, { on := 4, ground := Ground.data }, { on := 2, ground := Ground.chain }, { on := 0, ground := Ground.phase }, { on := 1, ground := Ground.phase }, { on := 2, ground := Ground.phase }, { on := 3, ground := Ground.phase }, { on := 4, ground := Ground.phase }, { on := 5, ground := Ground.textOnly Departure.lateStores }, { on := 6, ground := Ground.phase }], guard := none }
def val32_o8 : Oper := { dst := some 15, op := Op.assign (Operand.tmp 134), type := 4, pos := "outright.go:95", after := #[{ on := 5, ground := Ground.data }, { on := 7, ground := Ground.chain }, { on := 0, ground := Ground.phase }, { on := 1, ground := Ground.phase }, { on := 2, ground := Ground.phase }, { on := 3, ground := Ground.phase }, { on := 4, ground := Ground.phase }, { on := 5, ground := Ground.phase }, { on := 6, ground := Ground.phase }, { on := 7, ground := Ground.phase }], guard := none }
def val32_ops : Array Oper := #[val32_o0, val32_o1, val32_o2, val32_o3, val32_o4, val32_o5, val32_o6, val32_o7, val32_o8]
set_option maxRecDepth 100000 in
set_option maxHeartbeats 4000000 in
theorem val32 {rb pb : Nat} {p : PlK} {x : EnV} {r : Bool} (Fin : Nat → World → Prop) (a : Act) (w : World) (Q : Exit → Act → World → Prop) (zz : a.tmps.size = 168)
    (t5 : a.tmps.getD 5 undef = .pointer (some ⟨rb, 0, none⟩))
    (t8 : a.tmps.getD 8 undef = .pointer (some ⟨pb, 0, none⟩))
    (LP : ∀ W, W = w → (Instr.loadAt 52 (.pointer (some ⟨pb, 0, none⟩))).run Tryd.prog W = .ok (p.v) W) (CT : Calls Tryd.prog 21 #[.pointer (some ⟨rb, 0, none⟩), p.v] w fun e w' => e = .returned (.tuple #[x.a, .bool r]) ∧ ∃ eb w1 w2, (Instr.alloc 63 true (.tuple #[])).run Tryd.prog w' = .ok (.pointer (some ⟨eb, 0, none⟩)) w1 ∧ (Instr.storeAt 63 (.pointer (some ⟨eb, 0, none⟩)) x.a).run Tryd.prog w1 = .ok () w2 ∧ Fin eb w2)
    (h : ∀ (eb : Nat) (a' : Act) (w' : World), Fin eb w' → a' = ((((((((a).put (some 130) (.pointer (some ⟨rb, 0, none⟩))).put (some 131) (p.v)).put (some 132) (.tuple #[x.a, .bool r])).put (some 129) (.tuple #[x.a, .bool r])).put (some 133) (x.a)).put (some 134) (.bool r)).put (some 14) (.pointer (some ⟨eb, 0, none⟩))).put (some 15) (.bool r) → Q .normal a' w') :
    (Code.region 32 val32_ops false).wp Tryd.prog Q a w := by
  refine z0 rfl ?_
  refine zv rfl (exec_move rfl (zi t5 rfl)) ?_
  refine zv rfl (exec_load rfl (zi t8 rfl) (LP _ rfl)) ?_
  refine zc rfl (exec_c2 rfl (zg zz rfl) (zg zz rfl)) (CT) (fun e x2 hx => ?_)
  obtain ⟨rfl, eb, w1, w2, EA, ES, HF⟩ := hx
  replace h := h eb
  refine ⟨_, rfl, ?_⟩
  refine zv rfl (exec_move rfl (zg zz rfl)) ?_
  refine zv rfl (exec_extract rfl (zg zz rfl) rfl) ?_
  refine zv rfl (exec_extract rfl (zg zz rfl) rfl) ?_
  refine zv (v := .pointer (some ⟨eb, 0, none⟩)) rfl (exec_alloc rfl EA) ?_
  refine zs rfl (exec_store rfl (zg zz rfl) (zg zz rfl) ES) ?_
  refine zv rfl (exec_assign rfl (zg zz rfl)) ?_
  exact ze rfl (h _ _ (HF) rfl)
def val33n_o0 : Oper := { dst := some 135, op := Op.move (Operand.tmp 15), type := 4, pos := "outright.go:96", after := #[], guard := none }
def val33n_o1 : Oper := { dst := some 136, op := Op.move (Operand.tmp 9), type := 60, pos := "outright.go:96", after := #[], guard := none }
def val33n_o2 : Oper := { dst := some 137, op := Op.call { callee := Callee.builtin Builtin.len, args := #[Operand.tmp 136], argTypes := #[60] }, type := 3, pos := "outright.go:96", after := #[{ on := 1, ground := Ground.data }], guard := none }
def val33n_o3 : Oper := { dst := some 138, op := Op.binOp BinOp.gtr 3 (Operand.tmp 137) (Operand.const (Value.int IntKind.i64 0)) 3, type := 4, pos := "outright.go:96", after := #[{ on := 2, ground := Ground.data }], guard := none }
def val33n_o4 : Oper := { dst := some 139, op := Op.binOp BinOp.neq 4 (Operand.tmp 135) (Operand.tmp 138) 4, type := 4, pos := "outright.go:96", after := #[{ on := 0, ground := Ground.data }, { on := 3, ground := Ground.data }], guard := none }
def val33n_o5 : Oper := { dst := some 140, op := Op.move (Operand.tmp 139), type := 4, pos := "outright.go:96", after := #[{ on := 4, ground := Ground.data }], guard := none }
def val33n_o6 : Oper := { dst := some 141, op := Op.move (Operand.tmp 15), type := 4, pos := "outright.go:96", after := #[{ on := 5, ground := Ground.guard }], guard := some (5, false) }
def val33n_o7 : Oper := { dst := some 142, op := Op.move (Operand.tmp 141), type := 4, pos := "outright.go:96", after := #[{ on := 6, ground := Ground.data }, { on := 5, ground := Ground.chain }, { on := 5, ground := Ground.guard }], guard := some (5, false) }
def val33n_o8 : Oper := { dst := some 143, op := Op.fieldAddr 63 (Operand.tmp 14) 0, type := 0, pos := "outright.go:96", after := #[{ on := 7, ground := Ground.guard }], guard := some (7, true) }
def val33n_o9 : Oper := { dst := some 144, op := Op.load 38 (Operand.tmp 143), type := 38, pos := "outright.go:96", after := #[{ on := 8, ground := Ground.data }, { on := 7, ground := Ground.guard }], guard := some (7, true) }
def val33n_o10 : Oper := { dst := some 145, op := Op.move (Operand.tmp 9), type := 60, pos := "outright.go:96", after := #[{ on := 7, ground := Ground.guard }], guard := some (7, true) }
def val33n_o11 : Oper := { dst := some 146, op := Op.move (Operand.tmp 9), type := 60, pos := "outright.go:96", after := #[{ on := 7, ground := Ground.guard }], guard := some (7, true) }
def val33n_o12 : Oper := { dst := some 147, op := Op.call { callee := Callee.builtin Builtin.len, args := #[Operand.tmp 146], argTypes := #[60] }, type := 3, pos := "outright.go:96", after := #[{ on := 11, ground := Ground.data }, { on := 7, ground := Ground.guard }], guard := some (7, true) }
def val33n_o13 : Oper := { dst := some 148, op := Op.binOp BinOp.sub 3 (Operand.tmp 147) (Operand.const (Value.int IntKind.i64 1)) 3, type := 3, pos := "outright.go:96", after := #[{ on := 12, ground := Ground.data }, { on := 7, ground := Ground.guard }], guard := some (7, true) }
def val33n_o14 : Oper := { dst := some 149, op := Op.indexAddr 60 (Operand.tmp 145) (Operand.tmp 148), type := 0, pos := "outright.go:96", after := #[{ on := 10, ground := Ground.data }, { on := 13, ground := Ground.data }, { on := 7, ground := Ground.guard }], guard := some (7, true) }
def val33n_o15 : Oper := { dst := some 150, op := Op.fieldAddr 63 (Operand.tmp 149) 0, type := 0, pos := "outright.go:96", after := #[{ on := 14, ground := Ground.data }, { on := 7, ground := Ground.guard }], guard := some (7, true) }
def val33n_o16 : Oper := { dst := some 151, op := Op.load 38 (Operand.tmp 150), type := 38, pos := "outright.go:96", after := #[{ on := 15, ground := Ground.data }, { on := 7, ground := Ground.guard }], guard := some (7, true) }
def val33n_o17 : Oper := { dst := some 152, op := Op.binOp BinOp.neq 38 (Operand.tmp 144) (Operand.tmp 151) 38, type := 4, pos := "outright.go:96", after := #[{ on := 9, ground := Ground.data }, { on := 16, ground := Ground.data }, { on := 7, ground := Ground.guard }], guard := some (7, true) }
def val33n_o18 : Oper := { dst := some 153, op := Op.move (Operand.tmp 152), type := 4, pos := "outright.go:96", after := #[{ on := 17, ground := Ground.data }, { on := 7, ground := Ground.chain }, { on := 7, ground := Ground.guard }], guard := some (7, true) }
def val33n_o19 : Oper := { dst := some 154, op := Op.fieldAddr 63 (Operand.tmp 14) 1, type := 0, pos := "outright.go:96", after := #[{ on := 18, ground := Ground.guard }], guard := some (18, false) }
def val33n_o20 : Oper := { dst := some 155, op := Op.load 42 (Operand.tmp 154), type := 42, pos := "outright.go:96", after := #[{ on := 19, ground := Ground.data }, { on := 18, ground := Ground.guard }], guard := some (18, false) }
def val33n_o21 : Oper := { dst := some 156, op := Op.move (Operand.tmp 9), type := 60, pos := "outright.go:96", after := #[{ on := 18, ground := Ground.guard }], guard := some (18, false) }
def val33n_o22 : Oper := { dst := some 157, op := Op.move (Operand.tmp 9), type := 60, pos := "outright.go:96", after := #[{ on := 18, ground := Ground.guard }], guard := some (18, false) }
def val33n_o23 : Oper := { dst := some 158, op := Op.call { callee := Callee.builtin Builtin.len, args := #[Operand.tmp 157], argTypes := #[60] }, type := 3, pos := "outright.go:96", after := #[{ on := 22, ground := Ground.data }, { on := 18, ground := Ground.guard }], guard := some (18, false) }
def val33n_o24 : Oper := { dst := some 159, op := Op.binOp BinOp.sub 3 (Operand.tmp 158) (Operand.const (Value.int IntKind.i64 1)) 3, type := 3, pos := "outright.go:96", after := #[{ on := 23, ground := Ground.data }, { on := 18, ground := Ground.guard }], guard := some (18, false) }
def val33n_o25 : Oper := { dst := some 160, op := Op.indexAddr 60 (Operand.tmp 156) (Operand.tmp 159), type := 0, pos := "outright.go:96", after := #[{ on := 21, ground := Ground.data }, { on := 24, ground := Ground.data }, { on := 18, ground := Ground.guard }], guard := some (18, false) }
def val33n_o26 : Oper := { dst := some 161, op := Op.fieldAddr 63 (Operand.tmp 160) 1, type := 0, pos := "outright.go:96", after := #[{ on := 25, ground := Ground.data }, { on := 18, ground := Ground.guard }], guard := some (18, false) }
def val33n_o27 : Oper := { dst := some 162, op := Op.load 42 (Operand.tmp 161), type := 42, pos := "outright.go:96", after := #[{ on := 26, ground := Ground.data }, { on := 18, ground := Ground.guard }], guard := some (18, false) }
def val33n_o28 : Oper := { dst := some 163, op := Op.call { callee := Callee.value (Operand.func 22), args := #[Operand.tmp 155, Operand.tmp 162], argTypes := #[42, 42] }, type := 4, pos := "outright.go:96", after := #[{ on := 20, ground := Ground.data }, { on := 27, ground := Ground.data }, { on := 18, ground := Ground.chain }, { on := 18, ground := Ground.guard }], guard := some (18, false) }
def val33n_o29 : Oper := { dst := some 164, op := Op.unOp UnOp.not 4 (Operand.tmp 163), type := 4, pos := "outright.go:96", after := #[{ on := 28, ground := Ground.data }, { on := 18, ground := Ground.guard }], guard := some (18, false) }
def val33n_o30 : Oper := { dst := some 165, op := Op.pick (Operand.tmp 153) (Operand.const (Value.bool true)) (Operand.tmp 164), type := 4, pos := "outright.go:96", after := #[{ on := 18, ground := Ground.data }, { on := 29, ground := Ground.data }, { on := 7, ground := Ground.guard }], guard := some (7, true) }
def val33n_o31 : Oper := { dst := some 166, op := Op.pick (Operand.tmp 142) (Operand.tmp 165) (Operand.const (Value.bool false)), type := 4, pos := "outright.go:96", after := #[{ on := 7, ground := Ground.data }, { on := 30, ground := Ground.data }, { on := 5, ground := Ground.guard }], guard := some (5, false) }
def val33n_o32 : Oper := { dst := some 167, op := Op.pick (Operand.tmp 140) (Operand.const (Value.bool true)) (Operand.tmp 166), type := 4, pos := "outright.go:96", after := #[{ on := 5, ground := Ground.data }, { on := 31, ground := Ground.data }], guard := none }
def val33n_ops : Array Oper := #[val33n_o0, val33n_o1, val33n_o2, val33n_o3, val33n_o4, val33n_o5, val33n_o6, val33n_o7, val33n_o8, val33n_o9, val33n_o10, val33n_o11, val33n_o12, val33n_o13, val33n_o14, val33n_o15, val33n_o16, val33n_o17, val33n_o18, val33n_o19, val33n_o20, val33n_o21, val33n_o22, val33n_o23, val33n_o24, val33n_o25, val33n_o26, val33n_o27, val33n_o28, val33n_o29, val33n_o30, val33n_o31, val33n_o32]
set_option maxRecDepth 100000 in
set_option maxHeartbeats 4000000 in
theorem val33n {eb lc : Nat} {la : Option Addr} (a : Act) (w : World) (Q : Exit → Act → World → Prop) (zz : a.tmps.size = 168)
    (t9 : a.tmps.getD 9 undef = .slice la (0 : Nat) lc)
    (t14 : a.tmps.getD 14 undef = .pointer (some ⟨eb, 0, none⟩))
    (t15 : a.tmps.getD 15 undef = .bool false)
    (h : ∀ (a' : Act) (w' : World), w' = w.drew → a' = (((((((((((((((((((((((((((((((((a).put (some 135) (.bool false)).put (some 136) (.slice la (0 : Nat) lc)).put (some 137) (.int .i64 ((0 : Nat) : Int))).put (some 138) (.bool false)).put (some 139) (.bool false)).put (some 140) (.bool false)).put (some 141) (.bool false)).put (some 142) (.bool false)).put (some 143) (undef)).put (some 144) (undef)).put (some 145) (undef)).put (some 146) (undef)).put (some 147) (undef)).put (some 148) (undef)).put (some 149) (undef)).put (some 150) (undef)).put (some 151) (undef)).put (some 152) (undef)).put (some 153) (undef)).put (some 154) (undef)).put (some 155) (undef)).put (some 156) (undef)).put (some 157) (undef)).put (some 158) (undef)).put (some 159) (undef)).put (some 160) (undef)).put (some 161) (undef)).put (some 162) (undef)).put (some 163) (undef)).put (some 164) (undef)).put (some 165) (undef)).put (some 166) (.bool false)).put (some 167) (.bool false) → Q .normal a' w') :
    (Code.region 33 val33n_ops true).wp Tryd.prog Q a w := by
  refine y0 (fun w' => w' = w.drew) (rfl) (fun hHeld => ?_)
  refine yv 0 rfl rfl (fun w1 hw => exec_move rfl (zi t15 rfl)) hHeld ?_
  refine yv 1 rfl rfl (fun w1 hw => exec_move rfl (zi t9 rfl)) hHeld ?_
  refine yv 2 rfl rfl (fun w1 hw => exec_len rfl (zg zz rfl) (len_en _ _ _ _ _)) hHeld ?_
  refine yv (v := .bool false) 3 rfl rfl (fun w1 hw => ex_gt0 (by decide) rfl (zg zz rfl) rfl) hHeld ?_
  refine yv (v := .bool false) 4 rfl rfl (fun w1 hw => ex_neb rfl (zg zz rfl) (zg zz rfl)) hHeld ?_
  refine yv 5 rfl rfl (fun w1 hw => exec_move rfl (zg zz rfl)) hHeld ?_
  refine yv 6 rfl (zw zz rfl rfl rfl (zg zz rfl)) (fun w1 hw => exec_move rfl (zi t15 rfl)) hHeld ?_
  refine yv 7 rfl (zw zz rfl rfl rfl (zg zz rfl)) (fun w1 hw => exec_move rfl (zg zz rfl)) hHeld ?_
  refine yn 8 rfl (zx zz rfl rfl rfl (zg zz rfl)) hHeld ?_
  refine yn 9 rfl (zx zz rfl rfl rfl (zg zz rfl)) hHeld ?_
  refine yn 10 rfl (zx zz rfl rfl rfl (zg zz rfl)) hHeld ?_
  refine yn 11 rfl (zx zz rfl rfl rfl (zg zz rfl)) hHeld ?_
  refine yn 12 rfl (zx zz rfl rfl rfl (zg zz rfl)) hHeld ?_
  refine yn 13 rfl (zx zz rfl rfl rfl (zg zz rfl)) hHeld ?_
  refine yn 14 rfl (zx zz rfl rfl rfl (zg zz rfl)) hHeld ?_
  refine yn 15 rfl (zx zz rfl rfl rfl (zg zz rfl)) hHeld ?_
  refine yn 16 rfl (zx zz rfl rfl rfl (zg zz rfl)) hHeld ?_
  refine yn 17 rfl (zx zz rfl rfl rfl (zg zz rfl)) hHeld ?_
  refine yn 18 rfl (zx zz rfl rfl rfl (zg zz rfl)) hHeld ?_
  refine yn 19 rfl (zx zz rfl rfl rfl (zg zz rfl)) hHeld ?_
  refine yn 20 rfl (zx zz rfl rfl rfl (zg zz rfl)) hHeld ?_
  refine yn 21 rfl (zx zz rfl rfl rfl (zg zz rfl)) hHeld ?_
  refine yn 22 rfl (zx zz rfl rfl rfl (zg zz rfl)) hHeld ?_
  refine yn 23 rfl (zx zz rfl rfl rfl (zg zz rfl)) hHeld ?_
  refine yn 24 rfl (zx zz rfl rfl rfl (zg zz rfl)) hHeld ?_
  refine yn 25 rfl (zx zz rfl rfl rfl (zg zz rfl)) hHeld ?_
  refine yn 26 rfl (zx zz rfl rfl rfl (zg zz rfl)) hHeld ?_
  refine yn 27 rfl (zx zz rfl rfl rfl (zg zz rfl)) hHeld ?_
  refine yn 28 rfl (zx zz rfl rfl rfl (zg zz rfl)) hHeld ?_
  refine yn 29 rfl (zx zz rfl rfl rfl (zg zz rfl)) hHeld ?_
  refine yn 30 rfl (zx zz rfl rfl rfl (zg zz rfl)) hHeld ?_
  refine yv 31 rfl (zw zz rfl rfl rfl (zg zz rfl)) (fun w1 hw => exec_pickF rfl (zg zz rfl) rfl) hHeld ?_
  refine yv 32 rfl rfl (fun w1 hw => exec_pickF rfl (zg zz rfl) (zg zz rfl)) hHeld ?_
  exact ye rfl (h _ _ (hHeld) rfl)
def val33y_o0 : Oper := { dst := some 135, op := Op.move (Operand.tmp 15), type := 4, pos := "outright.go:96", after := #[], guard := none }
def val33y_o1 : Oper := { dst := some 136, op := Op.move (Operand.tmp 9), type := 60, pos := "outright.go:96", after := #[], guard := none }
def val33y_o2 : Oper := { dst := some 137, op := Op.call { callee := Callee.builtin Builtin.len, args := #[Operand.tmp 136], argTypes := #[60] }, type := 3, pos := "outright.go:96", after := #[{ on := 1, ground := Ground.data }], guard := none }
def val33y_o3 : Oper := { dst := some 138, op := Op.binOp BinOp.gtr 3 (Operand.tmp 137) (Operand.const (Value.int IntKind.i64 0)) 3, type := 4, pos := "outright.go:96", after := #[{ on := 2, ground := Ground.data }], guard := none }
def val33y_o4 : Oper := { dst := some 139, op := Op.binOp BinOp.neq 4 (Operand.tmp 135) (Operand.tmp 138) 4, type := 4, pos := "outright.go:96", after := #[{ on := 0, ground := Ground.data }, { on := 3, ground := Ground.data }], guard := none }
def val33y_o5 : Oper := { dst := some 140, op := Op.move (Operand.tmp 139), type := 4, pos := "outright.go:96", after := #[{ on := 4, ground := Ground.data }], guard := none }
def val33y_o6 : Oper := { dst := some 141, op := Op.move (Operand.tmp 15), type := 4, pos := "outright.go:96", after := #[{ on := 5, ground := Ground.guard }], guard := some (5, false) }
def val33y_o7 : Oper := { dst := some 142, op := Op.move (Operand.tmp 141), type := 4, pos := "outright.go:96", after := #[{ on := 6, ground := Ground.data }, { on := 5, ground := Ground.chain }, { on := 5, ground := Ground.guard }], guard := some (5, false) }
def val33y_o8 : Oper := { dst := some 143, op := Op.fieldAddr 63 (Operand.tmp 14) 0, type := 0, pos := "outright.go:96", after := #[{ on := 7, ground := Ground.guard }], guard := some (7, true) }
def val33y_o9 : Oper := { dst := some 144, op := Op.load 38 (Operand.tmp 143), type := 38, pos := "outright.go:96", after := #[{ on := 8, ground := Ground.data }, { on := 7, ground := Ground.guard }], guard := some (7, true) }
def val33y_o10 : Oper := { dst := some 145, op := Op.move (Operand.tmp 9), type := 60, pos := "outright.go:96", after := #[{ on := 7, ground := Ground.guard }], guard := some (7, true) }
def val33y_o11 : Oper := { dst := some 146, op := Op.move (Operand.tmp 9), type := 60, pos := "outright.go:96", after := #[{ on := 7, ground := Ground.guard }], guard := some (7, true) }
def val33y_o12 : Oper := { dst := some 147, op := Op.call { callee := Callee.builtin Builtin.len, args := #[Operand.tmp 146], argTypes := #[60] }, type := 3, pos := "outright.go:96", after := #[{ on := 11, ground := Ground.data }, { on := 7, ground := Ground.guard }], guard := some (7, true) }
def val33y_o13 : Oper := { dst := some 148, op := Op.binOp BinOp.sub 3 (Operand.tmp 147) (Operand.const (Value.int IntKind.i64 1)) 3, type := 3, pos := "outright.go:96", after := #[{ on := 12, ground := Ground.data }, { on := 7, ground := Ground.guard }], guard := some (7, true) }
def val33y_o14 : Oper := { dst := some 149, op := Op.indexAddr 60 (Operand.tmp 145) (Operand.tmp 148), type := 0, pos := "outright.go:96", after := #[{ on := 10, ground := Ground.data }, { on := 13, ground := Ground.data }, { on := 7, ground := Ground.guard }], guard := some (7, true) }
def val33y_o15 : Oper := { dst := some 150, op := Op.fieldAddr 63 (Operand.tmp 149) 0, type := 0, pos := "outright.go:96", after := #[{ on := 14, ground := Ground.data }, { on := 7, ground := Ground.guard }], guard := some (7, true) }
def val33y_o16 : Oper := { dst := some 151, op := Op.load 38 (Operand.tmp 150), type := 38, pos := "outright.go:96", after := #[{ on := 15, ground := Ground.data }, { on := 7, ground := Ground.guard }], guard := some (7, true) }
def val33y_o17 : Oper := { dst := some 152, op := Op.binOp BinOp.neq 38 (Operand.tmp 144) (Operand.tmp 151) 38, type := 4, pos := "outright.go:96", after := #[{ on := 9, ground := Ground.data }, { on := 16, ground := Ground.data }, { on := 7, ground := Ground.guard }], guard := some (7, true) }
def val33y_o18 : Oper := { dst := some 153, op := Op.move (Operand.tmp 152), type := 4, pos := "outright.go:96", after := #[{ on := 17, ground := Ground.data }, { on := 7, ground := Ground.chain }, { on := 7, ground := Ground.guard }], guard := some (7, true) }
def val33y_o19 : Oper := { dst := some 154, op := Op.fieldAddr 63 (Operand.tmp 14) 1, type := 0, pos := "outright.go:96", after := #[{ on := 18, ground := Ground.guard }], guard := some (18, false) }
def val33y_o20 : Oper := { dst := some 155, op := Op.load 42 (Operand.tmp 154), type := 42, pos := "outright.go:96", after := #[{ on := 19, ground := Ground.data }, { on := 18, ground := Ground.guard }], guard := some (18, false) }
def val33y_o21 : Oper := { dst := some 156, op := Op.move (Operand.tmp 9), type := 60, pos := "outright.go:96", after := #[{ on := 18, ground := Ground.guard }], guard := some (18, false) }
def val33y_o22 : Oper := { dst := some 157, op := Op.move (Operand.tmp 9), type := 60, pos := "outright.go:96", after := #[{ on := 18, ground := Ground.guard }], guard := some (18, false) }
def val33y_o23 : Oper := { dst := some 158, op := Op.call { callee := Callee.builtin Builtin.len, args := #[Operand.tmp 157], argTypes := #[60] }, type := 3, pos := "outright.go:96", after := #[{ on := 22, ground := Ground.data }, { on := 18, ground := Ground.guard }], guard := some (18, false) }
def val33y_o24 : Oper := { dst := some 159, op := Op.binOp BinOp.sub 3 (Operand.tmp 158) (Operand.const (Value.int IntKind.i64 1)) 3, type := 3, pos := "outright.go:96", after := #[{ on := 23, ground := Ground.data }, { on := 18, ground := Ground.guard }], guard := some (18, false) }
def val33y_o25 : Oper := { dst := some 160, op := Op.indexAddr 60 (Operand.tmp 156) (Operand.tmp 159), type := 0, pos := "outright.go:96", after := #[{ on := 21, ground := Ground.data }, { on := 24, ground := Ground.data }, { on := 18, ground := Ground.guard }], guard := some (18, false) }
def val33y_o26 : Oper := { dst := some 161, op := Op.fieldAddr 63 (Operand.tmp 160) 1, type := 0, pos := "outright.go:96", after := #[{ on := 25, ground := Ground.data }, { on := 18, ground := Ground.guard }], guard := some (18, false) }
def val33y_o27 : Oper := { dst := some 162, op := Op.load 42 (Operand.tmp 161), type := 42, pos := "outright.go:96", after := #[{ on := 26, ground := Ground.data }, { on := 18, ground := Ground.guard }], guard := some (18, false) }
def val33y_o28 : Oper := { dst := some 163, op := Op.call { callee := Callee.value (Operand.func 22), args := #[Operand.tmp 155, Operand.tmp 162], argTypes := #[42, 42] }, type := 4, pos := "outright.go:96", after := #[{ on := 20, ground := Ground.data }, { on := 27, ground := Ground.data }, { on := 18, ground := Ground.chain }, { on := 18, ground := Ground.guard }], guard := some (18, false) }
def val33y_o29 : Oper := { dst := some 164, op := Op.unOp UnOp.not 4 (Operand.tmp 163), type := 4, pos := "outright.go:96", after := #[{ on := 28, ground := Ground.data }, { on := 18, ground := Ground.guard }], guard := some (18, false) }
def val33y_o30 : Oper := { dst := some 165, op := Op.pick (Operand.tmp 153) (Operand.const (Value.bool true)) (Operand.tmp 164), type := 4, pos := "outright.go:96", after := #[{ on := 18, ground := Ground.data }, { on := 29, ground := Ground.data }, { on := 7, ground := Ground.guard }], guard := some (7, true) }
def val33y_o31 : Oper := { dst := some 166, op := Op.pick (Operand.tmp 142) (Operand.tmp 165) (Operand.const (Value.bool false)), type := 4, pos := "outright.go:96", after := #[{ on := 7, ground := Ground.data }, { on := 30, ground := Ground.data }, { on := 5, ground := Ground.guard }], guard := some (5, false) }
def val33y_o32 : Oper := { dst := some 167, op := Op.pick (Operand.tmp 140) (Operand.const (Value.bool true)) (Operand.tmp 166), type := 4, pos := "outright.go:96", after := #[{ on := 5, ground := Ground.data }, { on := 31, ground := Ground.data }], guard := none }
def val33y_ops : Array Oper := #[val33y_o0, val33y_o1, val33y_o2, val33y_o3, val33y_o4, val33y_o5, val33y_o6, val33y_o7, val33y_o8, val33y_o9, val33y_o10, val33y_o11, val33y_o12, val33y_o13, val33y_o14, val33y_o15, val33y_o16, val33y_o17, val33y_o18, val33y_o19, val33y_o20, val33y_o21, val33y_o22, val33y_o23, val33y_o24, val33y_o25, val33y_o26, val33y_o27, val33y_o28, val33y_o29, val33y_o30, val33y_o31, val33y_o32]
set_option maxRecDepth 100000 in
set_option maxHeartbeats 4000000 in
theorem val33y {eb g o n lc d : Nat} {x : EnV} (S : World → Prop) (a : Act) (w : World) (Q : Exit → Act → World → Prop) (zz : a.tmps.size = 168)
    (t9 : a.tmps.getD 9 undef = .slice (some ⟨g, o, none⟩) n lc)
    (t14 : a.tmps.getD 14 undef = .pointer (some ⟨eb, 0, none⟩))
    (t15 : a.tmps.getD 15 undef = .bool true)
    (hd : d + 1 = n) (hs : n ≤ 9223372036854775800) (hx : x.id.ok) (h0 : S w.drew) (L1 : ∀ W, S W → (Instr.loadAt 38 (.pointer (some ⟨eb, 0 + 0, none⟩))).run Tryd.prog W = .ok (x.id.v) W) (L2 : ∀ W, S W → (Instr.loadAt 38 (.pointer (some ⟨g, o + 37 * d + 0, none⟩))).run Tryd.prog W = .ok (x.id.v) W) (L3 : ∀ W, S W → (Instr.loadAt 42 (.pointer (some ⟨eb, 0 + 33, none⟩))).run Tryd.prog W = .ok (x.v.v) W) (L4 : ∀ W, S W → (Instr.loadAt 42 (.pointer (some ⟨g, o + 37 * d + 33, none⟩))).run Tryd.prog W = .ok (x.v.v) W) (CS : Calls Tryd.prog 22 #[x.v.v, x.v.v] w.drew fun e w' => e = .returned (.bool true) ∧ S w')
    (h : ∀ (a' : Act) (w' : World), S w' → a' = (((((((((((((((((((((((((((((((((a).put (some 135) (.bool true)).put (some 136) (.slice (some ⟨g, o, none⟩) n lc)).put (some 137) (.int .i64 (n : Int))).put (some 138) (.bool true)).put (some 139) (.bool false)).put (some 140) (.bool false)).put (some 141) (.bool true)).put (some 142) (.bool true)).put (some 143) (.pointer (some ⟨eb, 0 + 0, none⟩))).put (some 144) (x.id.v)).put (some 145) (.slice (some ⟨g, o, none⟩) n lc)).put (some 146) (.slice (some ⟨g, o, none⟩) n lc)).put (some 147) (.int .i64 (n : Int))).put (some 148) (.int .i64 (d : Int))).put (some 149) (.pointer (some ⟨g, o + 37 * d, none⟩))).put (some 150) (.pointer (some ⟨g, o + 37 * d + 0, none⟩))).put (some 151) (x.id.v)).put (some 152) (.bool false)).put (some 153) (.bool false)).put (some 154) (.pointer (some ⟨eb, 0 + 33, none⟩))).put (some 155) (x.v.v)).put (some 156) (.slice (some ⟨g, o, none⟩) n lc)).put (some 157) (.slice (some ⟨g, o, none⟩) n lc)).put (some 158) (.int .i64 (n : Int))).put (some 159) (.int .i64 (d : Int))).put (some 160) (.pointer (some ⟨g, o + 37 * d, none⟩))).put (some 161) (.pointer (some ⟨g, o + 37 * d + 33, none⟩))).put (some 162) (x.v.v)).put (some 163) (.bool true)).put (some 164) (.bool false)).put (some 165) (.bool false)).put (some 166) (.bool false)).put (some 167) (.bool false) → Q .normal a' w') :
    (Code.region 33 val33y_ops true).wp Tryd.prog Q a w := by
  refine y0 (fun w' => S w') (h0) (fun hHeld => ?_)
  refine yv 0 rfl rfl (fun w1 hw => exec_move rfl (zi t15 rfl)) hHeld ?_
  refine yv 1 rfl rfl (fun w1 hw => exec_move rfl (zi t9 rfl)) hHeld ?_
  refine yv 2 rfl rfl (fun w1 hw => exec_len rfl (zg zz rfl) (len_en _ _ _ _ _)) hHeld ?_
  refine yv (v := .bool true) 3 rfl rfl (fun w1 hw => ex_gt0 (decide_eq_true (by omega)) rfl (zg zz rfl) rfl) hHeld ?_
  refine yv (v := .bool false) 4 rfl rfl (fun w1 hw => ex_neb rfl (zg zz rfl) (zg zz rfl)) hHeld ?_
  refine yv 5 rfl rfl (fun w1 hw => exec_move rfl (zg zz rfl)) hHeld ?_
  refine yv 6 rfl (zw zz rfl rfl rfl (zg zz rfl)) (fun w1 hw => exec_move rfl (zi t15 rfl)) hHeld ?_
  refine yv 7 rfl (zw zz rfl rfl rfl (zg zz rfl)) (fun w1 hw => exec_move rfl (zg zz rfl)) hHeld ?_
  refine yv 8 rfl (zw zz rfl rfl rfl (zg zz rfl)) (fun w1 hw => exec_fieldAt rfl (zi t14 rfl) (fg_63_0 _ _ _)) hHeld ?_
  refine yv 9 rfl (zw zz rfl rfl rfl (zg zz rfl)) (fun w1 hw => exec_load rfl (zg zz rfl) (L1 _ hw)) hHeld ?_
  refine yv 10 rfl (zw zz rfl rfl rfl (zg zz rfl)) (fun w1 hw => exec_move rfl (zi t9 rfl)) hHeld ?_
  refine yv 11 rfl (zw zz rfl rfl rfl (zg zz rfl)) (fun w1 hw => exec_move rfl (zi t9 rfl)) hHeld ?_
  refine yv 12 rfl (zw zz rfl rfl rfl (zg zz rfl)) (fun w1 hw => exec_len rfl (zg zz rfl) (len_en _ _ _ _ _)) hHeld ?_
  refine yv (v := .int .i64 (d : Int)) 13 rfl (zw zz rfl rfl rfl (zg zz rfl)) (fun w1 hw => exec_sub1 rfl (zg zz rfl) rfl hd hs) hHeld ?_
  refine yv 14 rfl (zw zz rfl rfl rfl (zg zz rfl)) (fun w1 hw => exec_indexAt rfl (zg zz rfl) (zg zz rfl) (ix_en (show d < n by omega) (show n ≤ 9223372036854775807 by omega) _)) hHeld ?_
  refine yv 15 rfl (zw zz rfl rfl rfl (zg zz rfl)) (fun w1 hw => exec_fieldAt rfl (zg zz rfl) (fg_63_0 _ _ _)) hHeld ?_
  refine yv 16 rfl (zw zz rfl rfl rfl (zg zz rfl)) (fun w1 hw => exec_load rfl (zg zz rfl) (L2 _ hw)) hHeld ?_
  refine yv (v := .bool false) 17 rfl (zw zz rfl rfl rfl (zg zz rfl)) (fun w1 hw => ex_neqX hx rfl (zg zz rfl) (zg zz rfl)) hHeld ?_
  refine yv 18 rfl (zw zz rfl rfl rfl (zg zz rfl)) (fun w1 hw => exec_move rfl (zg zz rfl)) hHeld ?_
  refine yv 19 rfl (zw zz rfl rfl rfl (zg zz rfl)) (fun w1 hw => exec_fieldAt rfl (zi t14 rfl) (fg_63_1 _ _ _)) hHeld ?_
  refine yv 20 rfl (zw zz rfl rfl rfl (zg zz rfl)) (fun w1 hw => exec_load rfl (zg zz rfl) (L3 _ hw)) hHeld ?_
  refine yv 21 rfl (zw zz rfl rfl rfl (zg zz rfl)) (fun w1 hw => exec_move rfl (zi t9 rfl)) hHeld ?_
  refine yv 22 rfl (zw zz rfl rfl rfl (zg zz rfl)) (fun w1 hw => exec_move rfl (zi t9 rfl)) hHeld ?_
  refine yv 23 rfl (zw zz rfl rfl rfl (zg zz rfl)) (fun w1 hw => exec_len rfl (zg zz rfl) (len_en _ _ _ _ _)) hHeld ?_
  refine yv (v := .int .i64 (d : Int)) 24 rfl (zw zz rfl rfl rfl (zg zz rfl)) (fun w1 hw => exec_sub1 rfl (zg zz rfl) rfl hd hs) hHeld ?_
  refine yv 25 rfl (zw zz rfl rfl rfl (zg zz rfl)) (fun w1 hw => exec_indexAt rfl (zg zz rfl) (zg zz rfl) (ix_en (show d < n by omega) (show n ≤ 9223372036854775807 by omega) _)) hHeld ?_
  refine yv 26 rfl (zw zz rfl rfl rfl (zg zz rfl)) (fun w1 hw => exec_fieldAt rfl (zg zz rfl) (fg_63_1 _ _ _)) hHeld ?_
  refine yv 27 rfl (zw zz rfl rfl rfl (zg zz rfl)) (fun w1 hw => exec_load rfl (zg zz rfl) (L4 _ hw)) hHeld ?_
  refine yc 28 rfl (zw zz rfl rfl rfl (zg zz rfl)) (exec_c2 rfl (zg zz rfl) (zg zz rfl)) (CS) (fun e x28 hx => ?_)
  obtain ⟨rfl, S1⟩ := hx
  refine ⟨_, rfl, S1, fun hHeld => ?_⟩
  refine yv 29 rfl (zw zz rfl rfl rfl (zg zz rfl)) (fun w1 hw => exec_not rfl (zg zz rfl)) hHeld ?_
  refine yv 30 rfl (zw zz rfl rfl rfl (zg zz rfl)) (fun w1 hw => exec_pickF rfl (zg zz rfl) (zg zz rfl)) hHeld ?_
  refine yv 31 rfl (zw zz rfl rfl rfl (zg zz rfl)) (fun w1 hw => exec_pickT rfl (zg zz rfl) (zg zz rfl)) hHeld ?_
  refine yv 32 rfl rfl (fun w1 hw => exec_pickF rfl (zg zz rfl) (zg zz rfl)) hHeld ?_
  exact ye rfl (h _ _ (S1) rfl)
end Go.Proofs.YtldlljobofnmmaaDoor

namespace Go.Proofs.YtldlljobofnmmaaDoor
open Go.RowKit
set_option linter.unusedVariables false
set_option linter.unusedSimpArgs false

def pA : PlK := ⟨zId, ⟨#[97]⟩, zId⟩
theorem pA_ok : pA.ok := ⟨zId_ok, by decide, zId_ok⟩
def idN (n : Int) : IdK := { zId with n := n }
theorem idN_ok {n : Int} (h : -9223372036854775808 ≤ n ∧ n ≤ 9223372036854775807) : (idN n).ok := ⟨zId_ok.l, h.1, h.2⟩
set_option maxRecDepth 100000 in
theorem build_pA (w : World) : (Instr.build 52 #[(1, .string ⟨#[97]⟩)]).run Tryd.prog w = .ok pA.v w := by kernel_rfl
set_option maxRecDepth 100000 in
theorem build_i1 (w : World) : (Instr.build 38 #[(1, .int .i64 1)]).run Tryd.prog w = .ok (idN 1).v w := by kernel_rfl
set_option maxRecDepth 100000 in
theorem build_i2 (w : World) : (Instr.build 38 #[(1, .int .i64 2)]).run Tryd.prog w = .ok (idN 2).v w := by kernel_rfl
def vC (n : Int) : VaV := ⟨7, n, 0, ⟨#[]⟩⟩
theorem vC_ok {n : Int} (h : -9223372036854775808 ≤ n ∧ n ≤ 9223372036854775807) : (vC n).ok := ⟨by show (0 : Int) ≤ 7; decide, by show (7 : Int) ≤ 255; decide, h.1, h.2, by show (0 : Nat) < _; decide, by show (0 : Nat) ≤ _; decide⟩
theorem build_vC (w : World) : (Instr.build 42 #[(0, .int .u8 7), (1, .int .i64 5)]).run Tryd.prog w = .ok (vC 5).v w := by kernel_rfl
theorem build_v0 (w : World) : (Instr.build 42 #[]).run Tryd.prog w = .ok zVa.v w := by kernel_rfl
theorem sum_live : sumV 3 (vC 5) = vC 8 := by decide +kernel
/-- How many places there are, where only one has something. -/
theorem one_place {w : World} {base : Nat} {s : Rs} (m : RgM w base s) {p : PlK} (h : ∀ q, liOf s.P q ≠ [] ↔ q = p) : s.P.length = 1 := by
  have hk := m.places
  have hin : ∀ q ∈ s.P, q.1 = p := fun q hq => (h q.1).1 (by
    unfold liOf
    rw [M.look_of_mem hk (show (q.1, q.2) ∈ s.P from hq)]
    exact (m.en q hq).2.1)
  have hne : s.P ≠ [] := fun e => by
    have := (h p).2 rfl
    rw [e] at this
    exact this rfl
  match hP : s.P with
  | [] => exact absurd hP hne
  | [q] => rfl
  | q :: r :: l =>
    rw [hP] at hk hin
    have h1 := hin q (by simp)
    have h2 := hin r (by simp)
    simp [h1, h2] at hk
theorem RgM.geAll {w : World} {base : Nat} {s : Rs} (h : RgM w base s) {j : Nat} (hj : s.all j) : base ≤ j := by
  rcases hj with hj | ⟨q, hq, e⟩
  · exact h.lo j hj
  · exact ((h.en q hq).1.cells e).1
/-- live's state. -/
structure LSt (w : World) (r0 pb xb yb : Nat) (p : PlK) (x y : IdK) (s : Rs) (H : List Rec) (L : List EnV) (W : World) : Prop where
  ra : RgAt W w.heap.size s H
  bel : Below w.heap.size w W
  np : W.heap[pb]? = some (.cells p.c.toArray 52 (0, 0))
  nx : W.heap[xb]? = some (.cells x.c.toArray 38 (0, 0))
  ny : W.heap[yb]? = some (.cells y.c.toArray 38 (0, 0))
  li : ∀ q, liOf s.P q = if q = p then L else []
  r : s.r = r0
section
variable {w W W' : World} {r0 pb xb yb : Nat} {p : PlK} {x y : IdK} {s : Rs} {H : List Rec} {L : List EnV}
theorem LSt.below (h : LSt w r0 pb xb yb p x y s H L W) (b : Below W.heap.size W W') : LSt w r0 pb xb yb p x y s H L W' :=
  ⟨h.ra.below b, h.bel.trans (b.mono h.bel.size), (b.block _ (Array.getElem?_eq_some_iff.1 h.np).1).trans h.np, (b.block _ (Array.getElem?_eq_some_iff.1 h.nx).1).trans h.nx, (b.block _ (Array.getElem?_eq_some_iff.1 h.ny).1).trans h.ny, h.li, h.r⟩
theorem LSt.tch (h : LSt w r0 pb xb yb p x y s H L W) (t : Tch s.all W W') : Below w.heap.size w W' ∧ W'.heap[pb]? = some (.cells p.c.toArray 52 (0, 0)) ∧ W'.heap[xb]? = some (.cells x.c.toArray 38 (0, 0)) ∧ W'.heap[yb]? = some (.cells y.c.toArray 38 (0, 0)) := by
  have go : ∀ {j : Nat} {c : Array Value} {ty : TypeId}, W.heap[j]? = some (.cells c ty (0, 0)) → ty ≠ 84 → ty ≠ 63 → W'.heap[j]? = some (.cells c ty (0, 0)) := fun h1 h2 h3 => (t.block _ (Array.getElem?_eq_some_iff.1 h1).1 (h.ra.mem.other h1 h2 h3)).trans h1
  exact ⟨h.bel.trans (t.below h.bel.size (fun j hj => h.ra.mem.geAll hj)), go h.np (by decide) (by decide), go h.nx (by decide) (by decide), go h.ny (by decide) (by decide)⟩
theorem LSt.op (h : LSt w r0 pb xb yb p x y s H L W) {L' : List EnV} {rc : Rec} {s' : Rs} (o : OpN W w.heap.size s H p L' rc s' W') : LSt w r0 pb xb yb p x y s' (rc :: H) L' W' := by
  obtain ⟨h1, h2, h3, h4⟩ := h.tch o.tch
  refine ⟨o.at', h1, h2, h3, h4, fun q => ?_, o.r.trans h.r⟩
  rw [o.li]
  by_cases e : q = p
  · rw [if_pos e, if_pos e]
  · rw [if_neg e, if_neg e, h.li, if_neg e]
theorem LSt.here (h : LSt w r0 pb xb yb p x y s H L W) : liOf s.P p = L := by rw [h.li, if_pos rfl]
end
end Go.Proofs.YtldlljobofnmmaaDoor

namespace Go.Proofs.YtldlljobofnmmaaDoor
open Go.RowKit
set_option linter.unusedVariables false
set_option linter.unusedSimpArgs false

/-- live's state behind a step. -/
def LFin (w : World) (r0 pb xb yb : Nat) (p : PlK) (x y : IdK) (n0 : Nat) (L0 : List EnV) (H : List Rec) (L : List EnV) (bk : Nat) (W : World) : Prop := ∃ rc s', rc.bk = bk ∧ LSt w r0 pb xb yb p x y s' (rc :: H) L W ∧ n0 ≤ rc.bk ∧ rc.p = p ∧ rc.bef = L0
section
variable {w W : World} {r0 pb xb yb : Nat} {p : PlK} {x y : IdK} {s : Rs} {H : List Rec} {L L' : List EnV} {F : Nat} {vs : Array Value}
theorem LSt.fin (h : LSt w r0 pb xb yb p x y s H L W) (c : Calls Tryd.prog F vs W (OpE W w.heap.size s H p L')) : Calls Tryd.prog F vs W fun e w' => ∃ bk, e = .returned (.pointer (some ⟨bk, 0, none⟩)) ∧ LFin w r0 pb xb yb p x y W.heap.size L H L' bk w' := by
  refine c.mono ?_
  rintro e w' ⟨rc, s', rfl, o⟩
  exact ⟨_, rfl, rc, s', rfl, h.op o, o.new, o.rp, o.rb.trans h.here⟩
theorem LSt.put (h : LSt w r0 pb xb yb p x y s H L W) (hp : p.ok) {i : IdK} (hi : i.ok) {v : VaV} (hv : v.ok) (hn : L.length ≤ 1000) : Calls Tryd.prog 16 #[.pointer (some ⟨r0, 0, none⟩), p.v, i.v, v.v, .nilFunc] W fun e w' => ∃ bk, e = .returned (.pointer (some ⟨bk, 0, none⟩)) ∧ LFin w r0 pb xb yb p x y W.heap.size L H (L ++ [⟨i, v⟩]) bk w' := by
  have c := put_any h.ra h.bel.size hp hi hv (fv := .nilFunc) (sn := fun _ => false) (.inl ⟨rfl, fun _ => rfl⟩) (by rw [h.here]; omega)
  rw [h.here, h.r] at c
  have e : Rg.res (fun y : EnV => (fun _ : IdK => false) y.id) L = L := List.filter_eq_self.2 fun _ _ => rfl
  rw [e] at c
  exact h.fin c
theorem LSt.ld (h : LSt w r0 pb xb yb p x y s H L W) (hp : p.ok) : ∀ V, V = W → (Instr.loadAt 52 (.pointer (some ⟨pb, 0, none⟩))).run Tryd.prog V = .ok p.v V := fun V e => by rw [e]; exact ld_pl hp (rng_cells h.np)
theorem LSt.ldx (h : LSt w r0 pb xb yb p x y s H L W) (hx : x.ok) : ∀ V, V = W → (Instr.loadAt 38 (.pointer (some ⟨xb, 0, none⟩))).run Tryd.prog V = .ok x.v V := fun V e => by rw [e]; exact load_id hx h.nx
theorem LSt.ldy (h : LSt w r0 pb xb yb p x y s H L W) (hy : y.ok) : ∀ V, V = W → (Instr.loadAt 38 (.pointer (some ⟨yb, 0, none⟩))).run Tryd.prog V = .ok y.v V := fun V e => by rw [e]; exact load_id hy h.ny
theorem LSt.ent (h : LSt w r0 pb xb yb p x y s H L W) (hp : p.ok) (hn : L.length ≤ 1000) : Calls Tryd.prog 20 #[.pointer (some ⟨r0, 0, none⟩), p.v] W fun e w' => ∃ u, e = .returned u ∧ (RN.Own w' W.heap.size u L ∧ LSt w r0 pb xb yb p x y s H L w') := by
  have c := entries_any h.ra.mem hp (by rw [h.here]; omega)
  rw [h.here, h.r] at c
  refine c.mono ?_
  rintro e w' ⟨v, rfl, o, b⟩
  exact ⟨v, rfl, o, h.below b⟩
end
set_option maxRecDepth 100000 in
set_option maxHeartbeats 8000000 in
theorem live_gen (w : World) (p : PlK) (hp : p.ok) (x y : IdK) (hx : x.ok) (hy : y.ok) (v5 v8 v0 : VaV) (h5 : v5.ok) (h0 : v0.ok) (h8 : v8.n = 8) (hs : sumV 3 v5 = v8) (h8k : v8.ok)
    (BP : Hid (∀ w, (Instr.build 52 #[(1, .string ⟨#[97]⟩)]).run Tryd.prog w = .ok p.v w)) (BX : Hid (∀ w, (Instr.build 38 #[(1, .int .i64 1)]).run Tryd.prog w = .ok x.v w)) (BY : Hid (∀ w, (Instr.build 38 #[(1, .int .i64 2)]).run Tryd.prog w = .ok y.v w))
    (BV : Hid (∀ w, (Instr.build 42 #[(0, .int .u8 7), (1, .int .i64 5)]).run Tryd.prog w = .ok v5.v w)) (B0 : Hid (∀ w, (Instr.build 42 #[]).run Tryd.prog w = .ok v0.v w)) :
    Calls Tryd.prog 8 #[] w fun e w' => e = .returned (.bool true) ∧ Below w.heap.size w w' := by
  have HN := hidMk (newR_any w)
  have HV := hidMk (And.intro h5 (And.intro h0 (And.intro h8 (And.intro hs h8k))))
  clear h5 h0 h8 hs h8k
  go_enter Tryd.func8, Tryd.ntmps8
  go_upto_region 2 with (first
    | (go_at_call 9; refine HN.out.mono ?_; rintro e w1 ⟨s, rfl, ra, rl, rp, b1⟩; clear HN)
    | fail)
  obtain ⟨w2, w3, e2, e3, n3, b3⟩ := pl_new w1 hp
  obtain ⟨w4, w5, e4, e5, n5, b5⟩ := id_newR w3 hx
  obtain ⟨w6, w7, e6, e7, n7, b7⟩ := id_newR w5 hy
  have b37 := b5.trans (b7.mono b5.size)
  have b17 := b3.trans (b37.mono b3.size)
  have st7 : Hid (LSt w s.r w1.heap.size w3.heap.size w5.heap.size p x y s [] [] w7) := ⟨ra.below b17, b1.trans (b17.mono b1.size), (b37.block _ (Array.getElem?_eq_some_iff.1 n3).1).trans n3, (b7.block _ (Array.getElem?_eq_some_iff.1 n5).1).trans n5, n7, fun q => by rw [rl]; split <;> rfl, rfl⟩
  generalize w1.heap.size = pb at *
  generalize w3.heap.size = xb at *
  generalize w5.heap.size = yb at *
  generalize s.r = r0 at *
  have HE := hidMk (And.intro e2 (And.intro e3 (And.intro e4 (And.intro e5 (And.intro e6 e7)))))
  clear e2 e3 e4 e5 e6 e7 n3 b3 n5 b5 n7 b7 b37 b17 ra rl rp b1
  refine live2 (b := pb) (u := p.v) (w1 := w2) (w2 := w3) _ w1 _ rfl (BP.out _) HE.out.1 HE.out.2.1 ?_
  intro a' w' hw' ha
  subst ha
  subst hw'
  simp only [Act.put, List.setIfInBounds_toArray, List.set_cons_zero, List.set_cons_succ]
  go_upto_region 3 with fail
  refine live3 (b := xb) (u := x.v) (w1 := w4) (w2 := w5) _ _ _ rfl (BX.out _) HE.out.2.2.1 HE.out.2.2.2.1 ?_
  intro a' w' hw' ha
  subst ha
  subst hw'
  simp only [Act.put, List.setIfInBounds_toArray, List.set_cons_zero, List.set_cons_succ]
  go_upto_region 4 with fail
  refine live4 (b := yb) (u := y.v) (w1 := w6) (w2 := w7) _ _ _ rfl (BY.out _) HE.out.2.2.2.2.1 HE.out.2.2.2.2.2 ?_
  intro a' w' hw' ha
  subst ha
  subst hw'
  simp only [Act.put, List.setIfInBounds_toArray, List.set_cons_zero, List.set_cons_succ]
  clear HE BP BX BY
  go_upto_region 5 with fail
  refine live5 (rb := r0) (pb := pb) (xb := xb) (p := p) (x := x) (v := v5) (LFin w r0 pb xb yb p x y _ [] [] [⟨x, v5⟩]) _ _ _ rfl rfl rfl rfl (BV.out _) (st7.out.ld hp) (st7.out.ldx hx) (st7.out.put hp hx HV.out.1 (by simp)) ?_
  intro bk1 a' w8 hf ha
  subst ha
  simp only [Act.put, List.setIfInBounds_toArray, List.set_cons_zero, List.set_cons_succ]
  obtain ⟨r1, s1, rfl, st8', -⟩ := hf
  have st8 := hidMk st8'
  clear st8' st7
  have CA : Hid (Calls Tryd.prog 18 #[.pointer (some ⟨r0, 0, none⟩), p.v, .int .i64 3, .func (.func 31) #[] #[.pointer (some ⟨xb, 0, none⟩)]] w8 fun e w' => ∃ bk, e = .returned (.pointer (some ⟨bk, 0, none⟩)) ∧ LFin w r0 pb xb yb p x y w8.heap.size [⟨x, v5⟩] [r1] [⟨x, v8⟩] bk w') := by
    have h := st8.out
    have c := add_any h.ra h.bel.size hp (n := 3) (by decide) (.inr ⟨_, _, rfl, tells_live hx h.nx⟩) (by rw [h.here]; simp)
    rw [h.here, h.r] at c
    have e : chs (fun y : EnV => decide (y.id = x)) (sumV 3) [⟨x, v5⟩] = [⟨x, v8⟩] := by
      simp [chs, chg, HV.out.2.2.2.1]
    rw [e] at c
    exact h.fin c
  go_upto_region 6 with fail
  refine live6 (rb := r0) (pb := pb) (xb := xb) (p := p) (LFin w r0 pb xb yb p x y w8.heap.size [⟨x, v5⟩] [r1] [⟨x, v8⟩]) _ _ _ rfl rfl rfl rfl (st8.out.ld hp) CA.out ?_
  intro bk2 a' w9 hf ha
  subst ha
  simp only [Act.put, List.setIfInBounds_toArray, List.set_cons_zero, List.set_cons_succ]
  obtain ⟨r2, s2, rfl, st9', -⟩ := hf
  have st9 := hidMk st9'
  clear st9' CA st8 BV
  go_upto_region 7 with fail
  refine live7 (rb := r0) (pb := pb) (xb := yb) (p := p) (x := y) (v := v0) (LFin w r0 pb xb yb p x y w9.heap.size [⟨x, v8⟩] [r2, r1] [⟨x, v8⟩, ⟨y, v0⟩]) _ _ _ rfl rfl rfl rfl (B0.out _) (st9.out.ld hp) (st9.out.ldy hy) (st9.out.put hp hy HV.out.2.1 (by simp)) ?_
  intro bk3 a' w10 hf ha
  subst ha
  simp only [Act.put, List.setIfInBounds_toArray, List.set_cons_zero, List.set_cons_succ]
  obtain ⟨r3, s3, rfl, st10', hnew, hr3p, hr3b⟩ := hf
  have st10 := hidMk st10'
  have H13 : Hid (r1.bk ≠ r3.bk ∧ r3.p = p ∧ r3.bef = [⟨x, v8⟩]) := by
    have l1 := (Array.getElem?_eq_some_iff.1 st9.out.ra.hist.2.1.b).1
    exact ⟨by omega, hr3p, hr3b⟩
  clear st10' st9 B0 hnew hr3p hr3b
  go_upto_region 8 with fail
  refine live8 (rb := r0) (pb := pb) (p := p) (fun u w' => RN.Own w' w10.heap.size u [⟨x, v8⟩, ⟨y, v0⟩] ∧ LSt w r0 pb xb yb p x y s3 [r3, r2, r1] [⟨x, v8⟩, ⟨y, v0⟩] w') _ _ _ rfl rfl rfl (st10.out.ld hp) (st10.out.ent hp (by simp)) ?_
  intro u a' w11 hf ha
  subst ha
  simp only [Act.put, List.setIfInBounds_toArray, List.set_cons_zero, List.set_cons_succ]
  obtain ⟨ou, st11'⟩ := hf
  have ok2 : ∀ z ∈ ([⟨x, v8⟩, ⟨y, v0⟩] : List EnV), z.ok := fun z hz => by
    simp at hz
    rcases hz with rfl | rfl
    · exact ⟨hx, HV.out.2.2.2.2⟩
    · exact ⟨hy, HV.out.2.1⟩
  obtain ⟨ua, uc, rfl, hat, -⟩ := ou.lo.open RN_is ok2
  obtain ⟨g, o, rfl, hg1, hg2⟩ : ∃ g o, ua = some ⟨g, o, none⟩ ∧ w11.rangeAt g (o + 37 * 0) (EnV.c ⟨x, v8⟩) ∧ w11.rangeAt g (o + 37 * 1) (EnV.c ⟨y, v0⟩) := by
    rcases hat with h | ⟨g, o, e, h1, h2⟩
    · cases h
    · exact ⟨g, o, e, h2 0 _ rfl, h2 1 _ rfl⟩
  have st11 := hidMk (st11'.below (Below.refl w11.heap.size w11).drew)
  have LL : Hid ((∀ W, W = w11.drew → (Instr.loadAt 38 (.pointer (some ⟨g, o + 37 * 0 + 0, none⟩))).run Tryd.prog W = .ok x.v W) ∧ (∀ W, W = w11.drew → (Instr.loadAt 2 (.pointer (some ⟨g, o + 37 * 0 + 33 + 1, none⟩))).run Tryd.prog W = .ok (.int .i64 8) W) ∧ (∀ W, W = w11.drew → (Instr.loadAt 38 (.pointer (some ⟨g, o + 37 * 1 + 0, none⟩))).run Tryd.prog W = .ok y.v W)) := by
    refine ⟨fun W e => ?_, fun W e => ?_, fun W e => ?_⟩
    · rw [e]; exact en_id (x := ⟨x, v8⟩) (w := w11.drew) (ok2 _ (by simp)) hg1
    · rw [e]
      have hc : w11.drew.cell? ⟨g, o + 37 * 0 + 33 + 1, none⟩ = some (.int .i64 v8.n) := rng_va (x := ⟨x, v8⟩) (w := w11.drew) (ok2 _ (by simp)) hg1 1 _ rfl
      rw [HV.out.2.2.1] at hc
      go_simp
    · rw [e]; exact en_id (x := ⟨y, v0⟩) (w := w11.drew) (ok2 _ (by simp)) hg2
  have CL : Hid (Calls Tryd.prog 24 #[.pointer (some ⟨r0, 0, none⟩)] w11.drew fun e w' => e = .returned (.int .i64 1) ∧ w' = w11.drew) := by
    have c := len_any st11.out.ra.mem
    rw [one_place st11.out.ra.mem (p := p) (fun q => by
      rw [st11.out.li]
      by_cases e : q = p
      · simp [e]
      · simp [e]), st11.out.r] at c
    exact c
  have U1 : Hid (Calls Tryd.prog 19 #[.pointer (some ⟨r0, 0, none⟩), .pointer (some ⟨r1.bk, 0, none⟩)] w11.drew fun e w' => e = .returned (.int .i64 2) ∧ w' = w11.drew) := by
    have h := st11.out.ra
    have c := undo_not h (bk := r1.bk) ⟨_, h.hist.2.2.1.b⟩ (by
      show some (⟨r3.bk, 0, none⟩ : Addr) ≠ _
      intro e
      injection e with e
      injection e with e
      exact H13.out.1 e.symm)
    rw [st11.out.r] at c
    exact c
  have U2 : Hid (Calls Tryd.prog 19 #[.pointer (some ⟨r0, 0, none⟩), .pointer (some ⟨r3.bk, 0, none⟩)] w11.drew fun e w' => e = .returned (.int .i64 0) ∧ ∃ s4, LSt w r0 pb xb yb p x y s4 [r2, r1] [⟨x, v8⟩] w') := by
    have h := st11.out
    have c := undo_any h.ra h.bel.size
    rw [h.r] at c
    refine c.mono ?_
    rintro e w' ⟨rfl, s4, h4, r4, l4, a4, t4⟩
    obtain ⟨q1, q2, q3, q4⟩ := h.tch t4
    refine ⟨rfl, s4, h4, q1, q2, q3, q4, fun q => ?_, r4.trans h.r⟩
    rw [l4, H13.out.2.1, H13.out.2.2]
    by_cases e : q = p
    · rw [if_pos e, if_pos e]
    · rw [if_neg e, if_neg e, h.li, if_neg e]
  clear hg1 hg2 hat ou st11' ok2
  go_upto_region 9 with fail
  refine live9 (rb := r0) (xb := xb) (yb := yb) (g := g) (o := o) (lc := uc) (x := x) (y := y) _ w11 _ rfl rfl rfl rfl rfl hx hy LL.out.1 (st11.out.ldx hx) LL.out.2.1 LL.out.2.2 (st11.out.ldy hy) CL.out ?_
  intro a' w' hw' ha
  subst ha
  subst hw'
  simp only [Act.put, List.setIfInBounds_toArray, List.set_cons_zero, List.set_cons_succ]
  clear LL CL HV H13 st10 st11
  go_wp2_with (first
    | (go_at_call 19; refine U1.out.mono ?_; rintro e w12 ⟨rfl, rfl⟩; clear U1)
    | (go_at_call 19; refine U2.out.mono ?_; rintro e w13 ⟨rfl, s4, st'⟩; have LP := hidMk (st'.ld hp w13 rfl); have CE := hidMk (st'.ent hp (by simp)); clear U2 st')
    | (refine wpList_val rfl (exec_load (t := 52) (v := p.v) rfl rfl LP.out) ?_)
    | (go_at_call 20; refine CE.out.mono ?_; rintro e w14 ⟨u, rfl, ou, st14⟩; obtain ⟨ua, uc2, rfl⟩ := ou.form; have B := hidMk st14.bel; clear ou st14 CE)
    | fail)
  go_ret
  exact ⟨rfl, B.out⟩
theorem live_any (w : World) : Calls Tryd.prog 8 #[] w fun e w' => e = .returned (.bool true) ∧ Below w.heap.size w w' :=
  live_gen w pA pA_ok (idN 1) (idN 2) (idN_ok (by decide)) (idN_ok (by decide)) (vC 5) (vC 8) zVa (vC_ok (by decide)) zVa_ok rfl sum_live (vC_ok (by decide)) (hidMk build_pA) (hidMk build_i1) (hidMk build_i2) (hidMk build_vC) (hidMk build_v0)
end Go.Proofs.YtldlljobofnmmaaDoor

namespace Go.Proofs.YtldlljobofnmmaaDoor
open Go.RowKit
set_option linter.unusedVariables false
set_option linter.unusedSimpArgs false

theorem belN2 (w : World) (a b : Obj) : Below w.heap.size w ((w.alloc a).alloc b) := ((Below.refl _ _).alloc (Nat.le_refl _) _).alloc (by simp) _
set_option maxRecDepth 100000 in
set_option maxHeartbeats 1000000 in
theorem same_zero (w : World) : Calls Tryd.prog 22 #[zVa.v, zVa.v] w fun e w' => e = .returned (.bool true) ∧ Below w.heap.size w w' := by
  have z1 : (FloatKind.f64.format.order 0 0 == some .eq) = true := by decide +kernel
  have z2 : (FloatKind.f64.format.order 0 0 != some .eq) = false := by decide +kernel
  have z3 : (FloatKind.f64.format.order 9218868437227405312 9218868437227405312 == some .eq) = true := by decide +kernel
  have hq : ∀ W, (binOp .quo 40 (.float .f64 4607182418800017408) (.float .f64 0)).run Tryd.prog W = .ok (.float .f64 9218868437227405312) W := fun W => run_float_arith W .quo 40 .f64 _ _ _ (by decide +kernel)
  show Calls Tryd.prog 22 #[.agg #[.int .u8 0, .int .i64 0, .float .f64 0, .string ⟨#[]⟩], .agg #[.int .u8 0, .int .i64 0, .float .f64 0, .string ⟨#[]⟩]] w _
  go_enter Tryd.func22, Tryd.ntmps22
  go_wp2
  go_ret
  exact ⟨rfl, belN2 _ _ _⟩
/-- What stays while RegsNone runs: the other Regs, of lists at most so long. -/
structure NJ (w : World) (B ro : Nat) (s : Rs) (H : List Rec) (i : Nat) (W : World) : Prop where
  ra : RgAt W B s H
  r : s.r = ro
  bel : Below w.heap.size w W
  le : ∀ q, (liOf s.P q).length ≤ i
  lo : w.heap.size ≤ B
  hi : B ≤ W.heap.size
def Np (pb : Nat) (p : PlK) (W : World) : Prop := W.heap[pb]? = some (.cells p.c.toArray 52 (0, 0))
theorem Np.below {pb : Nat} {p : PlK} {W W' : World} (h : Np pb p W) (b : Below W.heap.size W W') : Np pb p W' := (b.block _ (Array.getElem?_eq_some_iff.1 h).1).trans h
section
variable {w W W' : World} {B ro i pb : Nat} {s : Rs} {H : List Rec} {p : PlK}
theorem NJ.below (h : NJ w B ro s H i W) (b : Below W.heap.size W W') : NJ w B ro s H i W' := ⟨h.ra.below b, h.r, h.bel.trans (b.mono h.bel.size), h.le, h.lo, Nat.le_trans h.hi b.size⟩
theorem put_nil (ra : RgAt W B s H) (hb : B ≤ W.heap.size) (hp : p.ok) {x : IdK} (hx : x.ok) {v : VaV} (hv : v.ok) (hn : (liOf s.P p).length + 1 ≤ 2500000000000) : Calls Tryd.prog 16 #[.pointer (some ⟨s.r, 0, none⟩), p.v, x.v, v.v, .nilFunc] W (OpE W B s H p (liOf s.P p ++ [⟨x, v⟩])) := by
  have c := put_any ra hb hp hx hv (fv := .nilFunc) (sn := fun _ => false) (.inl ⟨rfl, fun _ => rfl⟩) hn
  have e : Rg.res (fun y : EnV => (fun _ : IdK => false) y.id) (liOf s.P p) = liOf s.P p := List.filter_eq_self.2 fun _ _ => rfl
  rw [e] at c
  exact c
/-- Behind a Put of the other. -/
def NF (w : World) (B ro : Nat) (H : List Rec) (i pb : Nat) (p : PlK) (bk : Nat) (W : World) : Prop := ∃ rc s', rc.bk = bk ∧ NJ w B ro s' (rc :: H) i W ∧ Np pb p W
theorem NJ.put (h : NJ w B ro s H i W) (np : Np pb p W) (hp : p.ok) {x : IdK} (hx : x.ok) {v : VaV} (hv : v.ok) (hn : i + 1 ≤ 2500000000000) : Calls Tryd.prog 16 #[.pointer (some ⟨ro, 0, none⟩), p.v, x.v, v.v, .nilFunc] W fun e w' => ∃ bk, e = .returned (.pointer (some ⟨bk, 0, none⟩)) ∧ (Below w.heap.size w w' ∧ Np pb p w') ∧ NF w B ro H (i + 1) pb p bk w' := by
  have c := put_nil h.ra h.hi hp hx hv (by have := h.le p; omega)
  rw [h.r] at c
  refine c.mono ?_
  rintro e w' ⟨rc, s', rfl, o⟩
  have bw : Below w.heap.size w w' := h.bel.trans (o.tch.below h.bel.size (fun j hj => Nat.le_trans h.lo (h.ra.mem.geAll hj)))
  have np' : Np pb p w' := (o.tch.block _ (Array.getElem?_eq_some_iff.1 np).1 (h.ra.mem.other np (by decide) (by decide))).trans np
  refine ⟨_, rfl, ⟨bw, np'⟩, rc, s', rfl, ⟨o.at', o.r.trans h.r, bw, fun q => ?_, h.lo, Nat.le_trans h.hi o.tch.size⟩, np'⟩
  rw [o.li]
  by_cases e : q = p
  · rw [if_pos e, List.length_append]
    have := h.le p
    simp
    omega
  · rw [if_neg e]
    have := h.le q
    omega
/-- The fresh one, behind its Put. -/
structure NR (rf B2 : Nat) (s2 : Rs) (rc2 : Rec) (p : PlK) (W : World) : Prop where
  ra : RgAt W B2 s2 [rc2]
  r : s2.r = rf
  li : (liOf s2.P p).length = 1
theorem fresh_put {W1 : World} {s2 : Rs} (ra : RgAt W1 W.heap.size s2 []) (b1 : Below W.heap.size W W1) (rl : ∀ q, liOf s2.P q = []) (hp : p.ok) {x : IdK} (hx : x.ok) {v : VaV} (hv : v.ok) : Calls Tryd.prog 16 #[.pointer (some ⟨s2.r, 0, none⟩), p.v, x.v, v.v, .nilFunc] W1 fun e w' => ∃ bk, e = .returned (.pointer (some ⟨bk, 0, none⟩)) ∧ Below W.heap.size W w' ∧ (Below W.heap.size W w' ∧ ∃ rc s3, NR s2.r W.heap.size s3 rc p w' ∧ W.heap.size ≤ rc.bk) := by
  refine (put_nil ra b1.size hp hx hv (by rw [rl]; simp)).mono ?_
  rintro e w' ⟨rc, s', rfl, o⟩
  have bw : Below W.heap.size W w' := b1.trans (o.tch.below b1.size (fun j hj => ra.mem.geAll hj))
  refine ⟨_, rfl, bw, bw, rc, s', ⟨o.at', o.r, ?_⟩, Nat.le_trans b1.size o.new⟩
  rw [o.li, if_pos rfl, rl]
  rfl
theorem pl_obj (h : Np pb p W) (hp : p.ok) : (Instr.loadAt 38 (.pointer (some ⟨pb, 0 + 0, none⟩))).run Tryd.prog W = .ok p.o.v W :=
  run_loadAt_mid (P := Tryd.prog) W pb 0 38 p.o.c _ (fun j v hv => rng_cells h j v (by rw [PlK.c, List.getElem?_append_left (List.getElem?_eq_some_iff.1 hv).1]; exact hv)) Tryd.underlying38 rfl (by rw [IdK.len hp.o]; exact szId)
theorem op_plc {b o : Nat} {x : OpR} (h : W.rangeAt b o x.c) : (Instr.loadAt 3 (.pointer (some ⟨b, o + 1, none⟩))).run Tryd.prog W = .ok (.int .i64 x.pl) W := by
  have hc : W.cell? ⟨b, o + 1, none⟩ = some (.int .i64 x.pl) := h 1 _ rfl
  go_simp
theorem op_idc {b o : Nat} {x : OpR} (hx : x.id.ok) (h : W.rangeAt b o x.c) : (Instr.loadAt 38 (.pointer (some ⟨b, o + 2, none⟩))).run Tryd.prog W = .ok x.id.v W :=
  run_loadAt_mid (P := Tryd.prog) W b (o + 2) 38 x.id.c _ (fun j v hv => by
    rw [Nat.add_assoc]
    exact h (2 + j) v (by
      rw [OpR.c, Nat.add_comm 2 j, List.getElem?_cons_succ, List.getElem?_cons_succ, List.getElem?_append_left (List.getElem?_eq_some_iff.1 hv).1]
      exact hv)) Tryd.underlying38 rfl (by rw [IdK.len hx]; exact szId)
theorem op_vac {b o : Nat} {x : OpR} (hx : x.id.ok) (h : W.rangeAt b o x.c) : (Instr.loadAt 42 (.pointer (some ⟨b, o + 35, none⟩))).run Tryd.prog W = .ok x.v.v W := ld_va (fun j v hv => by
    rw [Nat.add_assoc]
    exact h (35 + j) v (by
      rw [OpR.c, show 35 + j = (33 + j) + 1 + 1 by omega, List.getElem?_cons_succ, List.getElem?_cons_succ, List.getElem?_append_right (by rw [IdK.len hx]; omega), IdK.len hx, show 33 + j - 33 = j by omega, List.getElem?_append_left (List.getElem?_eq_some_iff.1 hv).1]
      exact hv))
theorem op_nc {b o : Nat} {x : OpR} (hx : x.id.ok) (h : W.rangeAt b o x.c) : (Instr.loadAt 2 (.pointer (some ⟨b, o + 39, none⟩))).run Tryd.prog W = .ok (.int .i64 x.n) W := by
  have hc : W.cell? ⟨b, o + 39, none⟩ = some (.int .i64 x.n) := h 39 _ (by
    rw [OpR.c, show 39 = (33 + 4) + 1 + 1 by rfl, List.getElem?_cons_succ, List.getElem?_cons_succ, List.getElem?_append_right (by rw [IdK.len hx]; omega), IdK.len hx, List.getElem?_append_right (by rw [VaV.len]; omega), VaV.len]
    rfl)
  go_simp
end
end Go.Proofs.YtldlljobofnmmaaDoor

namespace Go.Proofs.YtldlljobofnmmaaDoor
open Go.RowKit
set_option linter.unusedVariables false
set_option linter.unusedSimpArgs false

section
open Ieee
theorem signed_zero {s : Bool} {m k : Nat} (h : signed s m k = 0) : m = 0 := by
  unfold signed at h
  rw [Nat.shiftLeft_eq] at h
  generalize hz : m * 2 ^ k = z at h
  have : m * 2 ^ k = 0 := by
    cases s
    · simp at h; omega
    · simp at h; omega
  rcases Nat.mul_eq_zero.1 this with h | h
  · exact h
  · exact absurd h (by have := Nat.two_pow_pos k; omega)
theorem ord_zero {f : Nat} (h : (Ieee.double.order f 0 == some .eq) = true) : f % 2 ^ 63 = 0 := by
  have e1 : Ieee.double.signWeight = 2 ^ 63 := rfl
  have e2 : Ieee.double.binade = 2 ^ 52 := rfl
  have e3 : Ieee.double.infRung = 2047 * 2 ^ 52 := rfl
  have h' : Ieee.double.order f 0 = some .eq := by simpa using h
  have z : Ieee.double.read 0 = .number false 0 Ieee.double.leastPlace := by decide +kernel
  have key : ∀ s m i, Datum.order (.number s m i) (.number false 0 Ieee.double.leastPlace) = some .eq → m = 0 := fun s m i q => by
    simp only [Datum.order, Option.some.injEq] at q
    have q2 := Std.LawfulEqCmp.eq_of_compare q
    have : signed false 0 (Ieee.double.leastPlace - min i Ieee.double.leastPlace).toNat = 0 := by simp [signed]
    rw [this] at q2
    exact signed_zero q2
  unfold Ieee.Format.order at h'
  rw [z] at h'
  unfold Ieee.Format.read at h'
  rw [e1, e2, e3] at h'
  simp only at h'
  split at h'
  · exact key _ _ _ h'
  · split at h'
    · have := key _ _ _ h'
      omega
    · split at h'
      · simp only [Datum.order, Option.some.injEq] at h'
        split at h' <;> cases h'
      · cases h'
end
theorem f_zero {f : Nat} (hf : f < 18446744073709551616) (h : (FloatKind.f64.format.order f 0 == some .eq) = true) : f = 0 ∨ f = 9223372036854775808 := by
  have := ord_zero h
  omega
set_option maxRecDepth 100000 in
set_option maxHeartbeats 2000000 in
/-- A value is the same as itself. -/
theorem same_self {x : VaV} (hx : x.ok) (w : World) : Calls Tryd.prog 22 #[x.v, x.v] w fun e w' => e = .returned (.bool true) ∧ Below w.heap.size w w' := by
  obtain ⟨k, n, f, t⟩ := x
  have hf := hx.ff
  simp only at hf
  clear hx
  show Calls Tryd.prog 22 #[.agg #[.int .u8 k, .int .i64 n, .float .f64 f, .string t], .agg #[.int .u8 k, .int .i64 n, .float .f64 f, .string t]] w _
  have k1 : (k != k) = false := by simp
  have n1 : (n != n) = false := by simp
  have t1 : (t.toList != t.toList) = false := by simp
  by_cases z1 : (FloatKind.f64.format.order f f == some .eq) = true
  · have z2 : (FloatKind.f64.format.order f f != some .eq) = false := by rw [bne, z1]; rfl
    by_cases z3 : (FloatKind.f64.format.order f 0 == some .eq) = true
    · have z4 : (FloatKind.f64.format.order f 0 != some .eq) = false := by rw [bne, z3]; rfl
      obtain ⟨q, hq, hqq⟩ : ∃ q, (∀ W, (binOp .quo 40 (.float .f64 4607182418800017408) (.float .f64 f)).run Tryd.prog W = .ok (.float .f64 q) W) ∧ (FloatKind.f64.format.order q q == some .eq) = true := by
        rcases f_zero hf z3 with rfl | rfl
        · exact ⟨9218868437227405312, fun W => run_float_arith W .quo 40 .f64 _ _ _ (by decide +kernel), by decide +kernel⟩
        · exact ⟨18442240474082181120, fun W => run_float_arith W .quo 40 .f64 _ _ _ (by decide +kernel), by decide +kernel⟩
      clear hf
      go_enter Tryd.func22, Tryd.ntmps22
      go_wp2
      go_ret
      exact ⟨rfl, belN2 _ _ _⟩
    · replace z3 : (FloatKind.f64.format.order f 0 == some .eq) = false := by simpa using z3
      have z4 : (FloatKind.f64.format.order f 0 != some .eq) = true := by rw [bne, z3]; rfl
      clear hf
      go_enter Tryd.func22, Tryd.ntmps22
      go_wp2
      go_ret
      exact ⟨rfl, belN2 _ _ _⟩
  · replace z1 : (FloatKind.f64.format.order f f == some .eq) = false := by simpa using z1
    have z2 : (FloatKind.f64.format.order f f != some .eq) = true := by rw [bne, z1]; rfl
    clear hf
    go_enter Tryd.func22, Tryd.ntmps22
    go_wp2
    go_ret
    exact ⟨rfl, belN2 _ _ _⟩
end Go.Proofs.YtldlljobofnmmaaDoor

