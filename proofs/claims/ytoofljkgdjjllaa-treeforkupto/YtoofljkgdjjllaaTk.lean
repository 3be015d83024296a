import Derived.Test.YtoofljkgdjjllaaTj
namespace Go.Proofs.Ytoofljkgdjjllaa
open Go.RowKit
set_option linter.unusedVariables false
set_option linter.unusedSimpArgs false

theorem exec_build {P : Program} {w : World} {a : Act} {o : Oper} {t : TypeId} {parts : Array (Nat × Operand)} {pv : Array (Nat × Value)} {v : Value} (ho : o.op = .build t parts) (hp : (parts.map fun (i, x) => (i, a.eval x)) = pv) (hl : (Instr.build t pv).run P w = .ok v w) : (execOp a.eval o).run P w = .ok (.value v) w := by
  unfold execOp; simp only [ho, hp, Sem.run_bind, hl, Result.andThen_ok, Sem.run_pure]
set_option maxRecDepth 100000 in
theorem build_node0 (w : World) (a0 a1 a2 a3 a4 a5 a6 a7 a8 a9 a10 a11 a12 a13 a14 a15 a16 a17 a18 a19 a20 a21 a22 a23 a24 a25 a26 a27 a28 a29 a30 a31 a32 : Value) (key : ByteArray) : (Instr.build 94 #[(0, .agg [a0, a1, a2, a3, a4, a5, a6, a7, a8, a9, a10, a11, a12, a13, a14, a15, a16, a17, a18, a19, a20, a21, a22, a23, a24, a25, a26, a27, a28, a29, a30, a31, a32].toArray), (1, .string key)]).run Try.prog w = .ok (.agg ([a0, a1, a2, a3, a4, a5, a6, a7, a8, a9, a10, a11, a12, a13, a14, a15, a16, a17, a18, a19, a20, a21, a22, a23, a24, a25, a26, a27, a28, a29, a30, a31, a32] ++ [Value.string key, Value.bool false]).toArray) w := by kernel_rfl
set_option maxRecDepth 100000 in
theorem build_node (w : World) (u : IdK) (hu : u.ok) (key : ByteArray) : (Instr.build 94 #[(0, u.v), (1, .string key)]).run Try.prog w = .ok (NodeV.v ⟨u, key, false⟩) w := by
  have h := IdK.len hu
  unfold NodeV.v NodeV.c IdK.v
  simp only
  generalize u.c = l at *
  match l, h with
  | a0 :: a1 :: a2 :: a3 :: a4 :: a5 :: a6 :: a7 :: a8 :: a9 :: a10 :: a11 :: a12 :: a13 :: a14 :: a15 :: a16 :: a17 :: a18 :: a19 :: a20 :: a21 :: a22 :: a23 :: a24 :: a25 :: a26 :: a27 :: a28 :: a29 :: a30 :: a31 :: a32 :: [], _ => exact build_node0 w a0 a1 a2 a3 a4 a5 a6 a7 a8 a9 a10 a11 a12 a13 a14 a15 a16 a17 a18 a19 a20 a21 a22 a23 a24 a25 a26 a27 a28 a29 a30 a31 a32 key
theorem build_pruned (w : World) : (Instr.build 94 #[(2, .bool true)]).run Try.prog w = .ok (NodeV.v ⟨zId, ⟨#[]⟩, true⟩) w := by kernel_rfl

theorem exec_bn {w : World} {a : Act} {o : Oper} {x y : Operand} (u : IdK) (hu : u.ok) (key : ByteArray) (ho : o.op = .build 94 #[(0, x), (1, y)]) (hx : a.eval x = u.v) (hy : a.eval y = .string key) : (execOp a.eval o).run Try.prog w = .ok (.value (NodeV.v ⟨u, key, false⟩)) w :=
  exec_build ho (by simp [hx, hy]) (build_node w u hu key)
theorem exec_bp {w : World} {a : Act} {o : Oper} {x : Operand} (ho : o.op = .build 94 #[(2, x)]) (hx : a.eval x = .bool true) : (execOp a.eval o).run Try.prog w = .ok (.value (NodeV.v ⟨zId, ⟨#[]⟩, true⟩)) w :=
  exec_build ho (by simp [hx]) (build_pruned w)

/-- A step that was done: its Back, the boxes that its closure holds, whom it did, and what was there (none: it grew). -/
structure Rec where
  bk : Nat
  ib : Nat
  nb : Nat
  k : IdK
  o : Option NodeV
def Rec.bl (r : Rec) : List Nat := [r.bk, r.ib, r.nb]
def Rec.at (w : World) (r : Rec) (last : Option Addr) : Prop := match r.o with
  | none => w.heap[r.bk]? = some (.cells #[.pointer last, .func (.func 48) #[] #[.pointer (some ⟨r.ib, 0, none⟩)]] 103 (0, 0)) ∧ IdAt w r.ib r.k ∧ r.nb = r.ib
  | some n => w.heap[r.bk]? = some (.cells #[.pointer last, .func (.func 81) #[] #[.pointer (some ⟨r.ib, 0, none⟩), .pointer (some ⟨r.nb, 0, none⟩)]] 103 (0, 0)) ∧ IdAt w r.ib r.k ∧ NodeAt w r.nb n
def ptr : List Rec → Option Addr
  | [] => none
  | r :: _ => some ⟨r.bk, 0, none⟩
def Hist (w : World) : List Rec → Prop
  | [] => True
  | r :: t => Rec.at w r (ptr t) ∧ Hist w t
theorem Rec.at_same {w w' : World} {r : Rec} {l : Option Addr} (h : Rec.at w r l) (hb : ∀ b ∈ r.bl, w'.heap[b]? = w.heap[b]?) : Rec.at w' r l := by
  have h1 := hb r.bk (by simp [Rec.bl])
  have h2 := hb r.ib (by simp [Rec.bl])
  have h3 := hb r.nb (by simp [Rec.bl])
  unfold Rec.at at h ⊢
  cases e : r.o with
  | none => rw [e] at h; exact ⟨h1.trans h.1, h2.trans h.2.1, h.2.2⟩
  | some n => rw [e] at h; exact ⟨h1.trans h.1, h2.trans h.2.1, h3.trans h.2.2⟩
theorem Rec.at_lt {w : World} {r : Rec} {l : Option Addr} (h : Rec.at w r l) : ∀ b ∈ r.bl, b < w.heap.size := by
  intro b hb
  unfold Rec.at at h
  have lt : ∀ {i : Nat} {o : Obj}, w.heap[i]? = some o → i < w.heap.size := fun h => (Array.getElem?_eq_some_iff.1 h).1
  simp only [Rec.bl, List.mem_cons, List.not_mem_nil, or_false] at hb
  cases e : r.o with
  | none =>
    rw [e] at h
    rcases hb with rfl | rfl | rfl
    · exact lt h.1
    · exact lt h.2.1
    · rw [h.2.2]; exact lt h.2.1
  | some n =>
    rw [e] at h
    rcases hb with rfl | rfl | rfl
    · exact lt h.1
    · exact lt h.2.1
    · exact lt h.2.2
theorem Hist.same {w w' : World} {H : List Rec} (h : Hist w H) (hb : ∀ r ∈ H, ∀ b ∈ r.bl, w'.heap[b]? = w.heap[b]?) : Hist w' H := by
  induction H with
  | nil => trivial
  | cons r t ih => exact ⟨Rec.at_same h.1 (hb r (List.mem_cons_self ..)), ih h.2 (fun x hx => hb x (List.mem_cons_of_mem _ hx))⟩
theorem Hist.lt {w : World} {H : List Rec} (h : Hist w H) : ∀ r ∈ H, ∀ b ∈ r.bl, b < w.heap.size := by
  induction H with
  | nil => intro r hr; cases hr
  | cons r t ih =>
    intro x hx
    rcases List.mem_cons.1 hx with rfl | hx
    · exact Rec.at_lt h.1
    · exact ih h.2 x hx
/-- A tree with the steps that can be undone. -/
structure TreeAt (w : World) (s : Tr) (H : List Rec) : Prop where
  tr : TrAt w s
  rows : RowsOk s.R (shN s.N)
  last : s.last = ptr H
  hist : Hist w H
  apart : ∀ r ∈ H, ∀ b ∈ r.bl, b ∉ s.bl
  ok : ∀ r ∈ H, r.k.ok ∧ ∀ n, r.o = some n → n.u.ok
theorem TreeAt.keep {w w' : World} {s : Tr} {H : List Rec} {O : Nat → Prop} (h : TreeAt w s H) (t : Tch O w w') (h1 : ∀ j ∈ s.bl, ¬ O j) (h2 : ∀ r ∈ H, ∀ b ∈ r.bl, ¬ O b) : TreeAt w' s H :=
  ⟨h.tr.same fun j hj => t.block j (h.tr.lt j hj) (h1 j hj), h.rows, h.last, h.hist.same fun r hr b hb => t.block b (h.hist.lt r hr b hb) (h2 r hr b hb), h.apart, h.ok⟩
theorem TreeAt.below {w w' : World} {s : Tr} {H : List Rec} (h : TreeAt w s H) (b : Below w.heap.size w w') : TreeAt w' s H :=
  ⟨h.tr.below b, h.rows, h.last, h.hist.same fun r hr x hx => b.block x (h.hist.lt r hr x hx), h.apart, h.ok⟩
theorem TreeAt.nodes {w : World} {s : Tr} {H : List Rec} (h : TreeAt w s H) : (s.N.map (·.1)).Nodup := by have := h.tr.nodes.2.1; rwa [entN, M.onV_keys] at this
/-- What a step that is done gives. -/
def Did (s : Tr) (H : List Rec) (k : IdK) (n : NodeV) (w : World) (e : Ending) (w' : World) : Prop := ∃ (s' : Tr) (r : Rec), e = .returned (.tuple #[.pointer (some ⟨r.bk, 0, none⟩), .int .i64 0]) ∧ TreeAt w' s' (r :: H) ∧ s'.N = M.put s.N k n ∧ s'.t = s.t ∧ r.k = k ∧ r.o = lookN s.N k ∧
  Tch (fun j => j ∈ s.bl) w w' ∧ (∀ j ∈ s'.bl, j ∈ s.bl ∨ w.heap.size ≤ j) ∧ (∀ b ∈ r.bl, w.heap.size ≤ b)
def No (c : Int) (w : World) (e : Ending) (w' : World) : Prop := e = .returned (.tuple #[.pointer none, .int .i64 c]) ∧ Below w.heap.size w w'
end Go.Proofs.Ytoofljkgdjjllaa
