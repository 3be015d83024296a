import Derived.Test.YtoofljkgdjjllabP2
import Derived.Test.YtoofljkgdjjllabP1
namespace Go.Proofs.Ytoofljkgdjjllab
open Go.RowKit
set_option linter.unusedVariables false
set_option linter.unusedSimpArgs false

def kids16_o0 : Oper := { dst := some 46, op := Op.move (Operand.tmp 4), type := 30, pos := "outright.go:125", after := #[], guard := none }
def kids16_o1 : Oper := { dst := some 47, op := Op.move (Operand.tmp 8), type := 3, pos := "outright.go:125", after := #[], guard := none }
def kids16_o2 : Oper := { dst := some 48, op := Op.indexAddr 30 (Operand.tmp 46) (Operand.tmp 47), type := 0, pos := "outright.go:125", after := #[{ on := 0, ground := Ground.data }, { on := 1, ground := Ground.data }], guard := none }
def kids16_o3 : Oper := { dst := some 49, op := Op.load 35 (Operand.tmp 48), type := 35, pos := "outright.go:125", after := #[{ on := 2, ground := Ground.data }], guard := none }
def kids16_o4 : Oper := { dst := some 50, op := Op.move (Operand.tmp 4), type := 30, pos := "outright.go:125", after := #[], guard := none }
def kids16_o5 : Oper := { dst := some 51, op := Op.move (Operand.tmp 6), type := 3, pos := "outright.go:125", after := #[], guard := none }
def kids16_o6 : Oper := { dst := some 52, op := Op.indexAddr 30 (Operand.tmp 50) (Operand.tmp 51), type := 0, pos := "outright.go:125", after := #[{ on := 4, ground := Ground.data }, { on := 5, ground := Ground.data }], guard := none }
def kids16_o7 : Oper := { dst := some 53, op := Op.load 35 (Operand.tmp 52), type := 35, pos := "outright.go:125", after := #[{ on := 6, ground := Ground.data }], guard := none }
def kids16_o8 : Oper := { dst := some 54, op := Op.binOp BinOp.eql 35 (Operand.tmp 49) (Operand.tmp 53) 35, type := 4, pos := "outright.go:125", after := #[{ on := 3, ground := Ground.data }, { on := 7, ground := Ground.data }], guard := none }
def kids16_ops : Array Oper := #[kids16_o0, kids16_o1, kids16_o2, kids16_o3, kids16_o4, kids16_o5, kids16_o6, kids16_o7, kids16_o8]
set_option maxRecDepth 100000 in
set_option maxHeartbeats 4000000 in
theorem kids16 (S : World → Prop) (lv kv iv ppk pi xv yv cv : Value) (a : Act) (w : World) (Q : Exit → Act → World → Prop) (hsz : a.tmps.size = 183)
    (t4 : a.tmps.getD 4 undef = lv)
    (t8 : a.tmps.getD 8 undef = kv)
    (t6 : a.tmps.getD 6 undef = iv)
    (h0 : S w.drew)
    (G1 : ∀ W, (Instr.indexAt 30 (lv) (kv)).run Try.prog W = .ok (ppk) W)
    (G2 : ∀ W, S W → (Instr.loadAt 35 (ppk)).run Try.prog W = .ok (yv) W)
    (G3 : ∀ W, (Instr.indexAt 30 (lv) (iv)).run Try.prog W = .ok (pi) W)
    (G4 : ∀ W, S W → (Instr.loadAt 35 (pi)).run Try.prog W = .ok (xv) W)
    (G5 : ∀ W, (eqGuard BinOp.eql 35 (Operand.tmp 49) (Operand.tmp 53) (yv) (xv)).run Try.prog W = .ok () W)
    (G6 : ∀ W, S W → (binOp BinOp.eql 35 (yv) (xv)).run Try.prog W = .ok (cv) W)
    (h : ∀ (a' : Act) (w' : World), S w' → a' = (((((((((a).put (some 46) (lv)).put (some 47) (kv)).put (some 48) (ppk)).put (some 49) (yv)).put (some 50) (lv)).put (some 51) (iv)).put (some 52) (pi)).put (some 53) (xv)).put (some 54) (cv) → Q .normal a' w') :
    (Code.region 16 kids16_ops true).wp Try.prog Q a w := by
  refine wp_region_noPanic ?_
  refine wp_region_held_drew (S := fun w' => S w') (by kernel_rfl) (h0) (fun hHeld => ?_)
  refine wpAnyH_take (i := 0) (oi := kids16_o0) (v := lv) rfl (by kernel_rfl) (by kernel_rfl) (by kernel_rfl) (fun _ _ _ h => h) (Or.inl ⟨by rfl, fun w1 hw => exec_move rfl t4⟩) hHeld ?_
  change wpAnyH _ _ _ _ _ _ _ (a.put (some 46) (lv)) _
  obtain ⟨a1, e1⟩ : ∃ act, act = a.put (some 46) (lv) := ⟨_, rfl⟩
  rw [← e1] at h ⊢
  have z1 := pz e1 hsz
  replace t4 := pk e1 t4 (by decide)
  replace t8 := pk e1 t8 (by decide)
  replace t6 := pk e1 t6 (by decide)
  have t46 := pq e1 hsz (by decide)
  clear e1 hsz
  refine wpAnyH_take (i := 1) (oi := kids16_o1) (v := kv) rfl (by kernel_rfl) (by kernel_rfl) (by kernel_rfl) (fun _ _ _ h => h) (Or.inl ⟨by rfl, fun w1 hw => exec_move rfl t8⟩) hHeld ?_
  change wpAnyH _ _ _ _ _ _ _ (a1.put (some 47) (kv)) _
  obtain ⟨a2, e2⟩ : ∃ act, act = a1.put (some 47) (kv) := ⟨_, rfl⟩
  rw [← e2] at h ⊢
  have z2 := pz e2 z1
  replace t4 := pk e2 t4 (by decide)
  replace t6 := pk e2 t6 (by decide)
  replace t46 := pk e2 t46 (by decide)
  clear t8
  have t47 := pq e2 z1 (by decide)
  clear e2 z1
  refine wpAnyH_take (i := 2) (oi := kids16_o2) (v := ppk) rfl (by kernel_rfl) (by kernel_rfl) (by kernel_rfl) (fun _ _ _ h => h) (Or.inl ⟨by rfl, fun w1 hw => exec_indexAt rfl t46 t47 (G1 _)⟩) hHeld ?_
  change wpAnyH _ _ _ _ _ _ _ (a2.put (some 48) (ppk)) _
  obtain ⟨a3, e3⟩ : ∃ act, act = a2.put (some 48) (ppk) := ⟨_, rfl⟩
  rw [← e3] at h ⊢
  have z3 := pz e3 z2
  replace t4 := pk e3 t4 (by decide)
  replace t6 := pk e3 t6 (by decide)
  clear t46 t47
  have t48 := pq e3 z2 (by decide)
  clear e3 z2
  refine wpAnyH_take (i := 3) (oi := kids16_o3) (v := yv) rfl (by kernel_rfl) (by kernel_rfl) (by kernel_rfl) (fun _ _ _ h => h) (Or.inl ⟨by rfl, fun w1 hw => exec_load rfl t48 (G2 _ hw)⟩) hHeld ?_
  change wpAnyH _ _ _ _ _ _ _ (a3.put (some 49) (yv)) _
  obtain ⟨a4, e4⟩ : ∃ act, act = a3.put (some 49) (yv) := ⟨_, rfl⟩
  rw [← e4] at h ⊢
  have z4 := pz e4 z3
  replace t4 := pk e4 t4 (by decide)
  replace t6 := pk e4 t6 (by decide)
  clear t48
  have t49 := pq e4 z3 (by decide)
  clear e4 z3
  refine wpAnyH_take (i := 4) (oi := kids16_o4) (v := lv) rfl (by kernel_rfl) (by kernel_rfl) (by kernel_rfl) (fun _ _ _ h => h) (Or.inl ⟨by rfl, fun w1 hw => exec_move rfl t4⟩) hHeld ?_
  change wpAnyH _ _ _ _ _ _ _ (a4.put (some 50) (lv)) _
  obtain ⟨a5, e5⟩ : ∃ act, act = a4.put (some 50) (lv) := ⟨_, rfl⟩
  rw [← e5] at h ⊢
  have z5 := pz e5 z4
  replace t6 := pk e5 t6 (by decide)
  replace t49 := pk e5 t49 (by decide)
  clear t4
  have t50 := pq e5 z4 (by decide)
  clear e5 z4
  refine wpAnyH_take (i := 5) (oi := kids16_o5) (v := iv) rfl (by kernel_rfl) (by kernel_rfl) (by kernel_rfl) (fun _ _ _ h => h) (Or.inl ⟨by rfl, fun w1 hw => exec_move rfl t6⟩) hHeld ?_
  change wpAnyH _ _ _ _ _ _ _ (a5.put (some 51) (iv)) _
  obtain ⟨a6, e6⟩ : ∃ act, act = a5.put (some 51) (iv) := ⟨_, rfl⟩
  rw [← e6] at h ⊢
  have z6 := pz e6 z5
  replace t49 := pk e6 t49 (by decide)
  replace t50 := pk e6 t50 (by decide)
  clear t6
  have t51 := pq e6 z5 (by decide)
  clear e6 z5
  refine wpAnyH_take (i := 6) (oi := kids16_o6) (v := pi) rfl (by kernel_rfl) (by kernel_rfl) (by kernel_rfl) (fun _ _ _ h => h) (Or.inl ⟨by rfl, fun w1 hw => exec_indexAt rfl t50 t51 (G3 _)⟩) hHeld ?_
  change wpAnyH _ _ _ _ _ _ _ (a6.put (some 52) (pi)) _
  obtain ⟨a7, e7⟩ : ∃ act, act = a6.put (some 52) (pi) := ⟨_, rfl⟩
  rw [← e7] at h ⊢
  have z7 := pz e7 z6
  replace t49 := pk e7 t49 (by decide)
  clear t50 t51
  have t52 := pq e7 z6 (by decide)
  clear e7 z6
  refine wpAnyH_take (i := 7) (oi := kids16_o7) (v := xv) rfl (by kernel_rfl) (by kernel_rfl) (by kernel_rfl) (fun _ _ _ h => h) (Or.inl ⟨by rfl, fun w1 hw => exec_load rfl t52 (G4 _ hw)⟩) hHeld ?_
  change wpAnyH _ _ _ _ _ _ _ (a7.put (some 53) (xv)) _
  obtain ⟨a8, e8⟩ : ∃ act, act = a7.put (some 53) (xv) := ⟨_, rfl⟩
  rw [← e8] at h ⊢
  have z8 := pz e8 z7
  replace t49 := pk e8 t49 (by decide)
  clear t52
  have t53 := pq e8 z7 (by decide)
  clear e8 z7
  refine wpAnyH_take (i := 8) (oi := kids16_o8) (v := cv) rfl (by kernel_rfl) (by kernel_rfl) (by kernel_rfl) (fun _ _ _ h => h) (Or.inl ⟨by rfl, fun w1 hw => exec_binOp rfl t49 t53 (G5 _) (G6 _ hw)⟩) hHeld ?_
  change wpAnyH _ _ _ _ _ _ _ (a8.put (some 54) (cv)) _
  obtain ⟨a9, e9⟩ : ∃ act, act = a8.put (some 54) (cv) := ⟨_, rfl⟩
  rw [← e9] at h ⊢
  have z9 := pz e9 z8
  clear t49 t53
  clear e9 z8
  exact wpAnyH_done (by kernel_rfl) (NoPanic.normal (h _ _ (hHeld) rfl)) _
def kids40_o0 : Oper := { dst := some 169, op := Op.move (Operand.tmp 5), type := 30, pos := "outright.go:153", after := #[], guard := none }
def kids40_o1 : Oper := { dst := some 170, op := Op.move (Operand.tmp 21), type := 3, pos := "outright.go:153", after := #[], guard := none }
def kids40_o2 : Oper := { dst := some 171, op := Op.indexAddr 30 (Operand.tmp 169) (Operand.tmp 170), type := 0, pos := "outright.go:153", after := #[{ on := 0, ground := Ground.data }, { on := 1, ground := Ground.data }], guard := none }
def kids40_o3 : Oper := { dst := some 172, op := Op.load 35 (Operand.tmp 171), type := 35, pos := "outright.go:153", after := #[{ on := 2, ground := Ground.data }], guard := none }
def kids40_o4 : Oper := { dst := some 173, op := Op.move (Operand.tmp 5), type := 30, pos := "outright.go:153", after := #[], guard := none }
def kids40_o5 : Oper := { dst := some 174, op := Op.move (Operand.tmp 20), type := 3, pos := "outright.go:153", after := #[], guard := none }
def kids40_o6 : Oper := { dst := some 175, op := Op.indexAddr 30 (Operand.tmp 173) (Operand.tmp 174), type := 0, pos := "outright.go:153", after := #[{ on := 4, ground := Ground.data }, { on := 5, ground := Ground.data }], guard := none }
def kids40_o7 : Oper := { dst := some 176, op := Op.load 35 (Operand.tmp 175), type := 35, pos := "outright.go:153", after := #[{ on := 6, ground := Ground.data }], guard := none }
def kids40_o8 : Oper := { dst := some 177, op := Op.binOp BinOp.eql 35 (Operand.tmp 172) (Operand.tmp 176) 35, type := 4, pos := "outright.go:153", after := #[{ on := 3, ground := Ground.data }, { on := 7, ground := Ground.data }], guard := none }
def kids40_ops : Array Oper := #[kids40_o0, kids40_o1, kids40_o2, kids40_o3, kids40_o4, kids40_o5, kids40_o6, kids40_o7, kids40_o8]
set_option maxRecDepth 100000 in
set_option maxHeartbeats 4000000 in
theorem kids40 (S : World → Prop) (lv kv iv ppk pi xv yv cv : Value) (a : Act) (w : World) (Q : Exit → Act → World → Prop) (hsz : a.tmps.size = 183)
    (t5 : a.tmps.getD 5 undef = lv)
    (t21 : a.tmps.getD 21 undef = kv)
    (t20 : a.tmps.getD 20 undef = iv)
    (h0 : S w.drew)
    (G1 : ∀ W, (Instr.indexAt 30 (lv) (kv)).run Try.prog W = .ok (ppk) W)
    (G2 : ∀ W, S W → (Instr.loadAt 35 (ppk)).run Try.prog W = .ok (yv) W)
    (G3 : ∀ W, (Instr.indexAt 30 (lv) (iv)).run Try.prog W = .ok (pi) W)
    (G4 : ∀ W, S W → (Instr.loadAt 35 (pi)).run Try.prog W = .ok (xv) W)
    (G5 : ∀ W, (eqGuard BinOp.eql 35 (Operand.tmp 172) (Operand.tmp 176) (yv) (xv)).run Try.prog W = .ok () W)
    (G6 : ∀ W, S W → (binOp BinOp.eql 35 (yv) (xv)).run Try.prog W = .ok (cv) W)
    (h : ∀ (a' : Act) (w' : World), S w' → a' = (((((((((a).put (some 169) (lv)).put (some 170) (kv)).put (some 171) (ppk)).put (some 172) (yv)).put (some 173) (lv)).put (some 174) (iv)).put (some 175) (pi)).put (some 176) (xv)).put (some 177) (cv) → Q .normal a' w') :
    (Code.region 40 kids40_ops true).wp Try.prog Q a w := by
  refine wp_region_noPanic ?_
  refine wp_region_held_drew (S := fun w' => S w') (by kernel_rfl) (h0) (fun hHeld => ?_)
  refine wpAnyH_take (i := 0) (oi := kids40_o0) (v := lv) rfl (by kernel_rfl) (by kernel_rfl) (by kernel_rfl) (fun _ _ _ h => h) (Or.inl ⟨by rfl, fun w1 hw => exec_move rfl t5⟩) hHeld ?_
  change wpAnyH _ _ _ _ _ _ _ (a.put (some 169) (lv)) _
  obtain ⟨a1, e1⟩ : ∃ act, act = a.put (some 169) (lv) := ⟨_, rfl⟩
  rw [← e1] at h ⊢
  have z1 := pz e1 hsz
  replace t5 := pk e1 t5 (by decide)
  replace t21 := pk e1 t21 (by decide)
  replace t20 := pk e1 t20 (by decide)
  have t169 := pq e1 hsz (by decide)
  clear e1 hsz
  refine wpAnyH_take (i := 1) (oi := kids40_o1) (v := kv) rfl (by kernel_rfl) (by kernel_rfl) (by kernel_rfl) (fun _ _ _ h => h) (Or.inl ⟨by rfl, fun w1 hw => exec_move rfl t21⟩) hHeld ?_
  change wpAnyH _ _ _ _ _ _ _ (a1.put (some 170) (kv)) _
  obtain ⟨a2, e2⟩ : ∃ act, act = a1.put (some 170) (kv) := ⟨_, rfl⟩
  rw [← e2] at h ⊢
  have z2 := pz e2 z1
  replace t5 := pk e2 t5 (by decide)
  replace t20 := pk e2 t20 (by decide)
  replace t169 := pk e2 t169 (by decide)
  clear t21
  have t170 := pq e2 z1 (by decide)
  clear e2 z1
  refine wpAnyH_take (i := 2) (oi := kids40_o2) (v := ppk) rfl (by kernel_rfl) (by kernel_rfl) (by kernel_rfl) (fun _ _ _ h => h) (Or.inl ⟨by rfl, fun w1 hw => exec_indexAt rfl t169 t170 (G1 _)⟩) hHeld ?_
  change wpAnyH _ _ _ _ _ _ _ (a2.put (some 171) (ppk)) _
  obtain ⟨a3, e3⟩ : ∃ act, act = a2.put (some 171) (ppk) := ⟨_, rfl⟩
  rw [← e3] at h ⊢
  have z3 := pz e3 z2
  replace t5 := pk e3 t5 (by decide)
  replace t20 := pk e3 t20 (by decide)
  clear t169 t170
  have t171 := pq e3 z2 (by decide)
  clear e3 z2
  refine wpAnyH_take (i := 3) (oi := kids40_o3) (v := yv) rfl (by kernel_rfl) (by kernel_rfl) (by kernel_rfl) (fun _ _ _ h => h) (Or.inl ⟨by rfl, fun w1 hw => exec_load rfl t171 (G2 _ hw)⟩) hHeld ?_
  change wpAnyH _ _ _ _ _ _ _ (a3.put (some 172) (yv)) _
  obtain ⟨a4, e4⟩ : ∃ act, act = a3.put (some 172) (yv) := ⟨_, rfl⟩
  rw [← e4] at h ⊢
  have z4 := pz e4 z3
  replace t5 := pk e4 t5 (by decide)
  replace t20 := pk e4 t20 (by decide)
  clear t171
  have t172 := pq e4 z3 (by decide)
  clear e4 z3
  refine wpAnyH_take (i := 4) (oi := kids40_o4) (v := lv) rfl (by kernel_rfl) (by kernel_rfl) (by kernel_rfl) (fun _ _ _ h => h) (Or.inl ⟨by rfl, fun w1 hw => exec_move rfl t5⟩) hHeld ?_
  change wpAnyH _ _ _ _ _ _ _ (a4.put (some 173) (lv)) _
  obtain ⟨a5, e5⟩ : ∃ act, act = a4.put (some 173) (lv) := ⟨_, rfl⟩
  rw [← e5] at h ⊢
  have z5 := pz e5 z4
  replace t20 := pk e5 t20 (by decide)
  replace t172 := pk e5 t172 (by decide)
  clear t5
  have t173 := pq e5 z4 (by decide)
  clear e5 z4
  refine wpAnyH_take (i := 5) (oi := kids40_o5) (v := iv) rfl (by kernel_rfl) (by kernel_rfl) (by kernel_rfl) (fun _ _ _ h => h) (Or.inl ⟨by rfl, fun w1 hw => exec_move rfl t20⟩) hHeld ?_
  change wpAnyH _ _ _ _ _ _ _ (a5.put (some 174) (iv)) _
  obtain ⟨a6, e6⟩ : ∃ act, act = a5.put (some 174) (iv) := ⟨_, rfl⟩
  rw [← e6] at h ⊢
  have z6 := pz e6 z5
  replace t172 := pk e6 t172 (by decide)
  replace t173 := pk e6 t173 (by decide)
  clear t20
  have t174 := pq e6 z5 (by decide)
  clear e6 z5
  refine wpAnyH_take (i := 6) (oi := kids40_o6) (v := pi) rfl (by kernel_rfl) (by kernel_rfl) (by kernel_rfl) (fun _ _ _ h => h) (Or.inl ⟨by rfl, fun w1 hw => exec_indexAt rfl t173 t174 (G3 _)⟩) hHeld ?_
  change wpAnyH _ _ _ _ _ _ _ (a6.put (some 175) (pi)) _
  obtain ⟨a7, e7⟩ : ∃ act, act = a6.put (some 175) (pi) := ⟨_, rfl⟩
  rw [← e7] at h ⊢
  have z7 := pz e7 z6
  replace t172 := pk e7 t172 (by decide)
  clear t173 t174
  have t175 := pq e7 z6 (by decide)
  clear e7 z6
  refine wpAnyH_take (i := 7) (oi := kids40_o7) (v := xv) rfl (by kernel_rfl) (by kernel_rfl) (by kernel_rfl) (fun _ _ _ h => h) (Or.inl ⟨by rfl, fun w1 hw => exec_load rfl t175 (G4 _ hw)⟩) hHeld ?_
  change wpAnyH _ _ _ _ _ _ _ (a7.put (some 176) (xv)) _
  obtain ⟨a8, e8⟩ : ∃ act, act = a7.put (some 176) (xv) := ⟨_, rfl⟩
  rw [← e8] at h ⊢
  have z8 := pz e8 z7
  replace t172 := pk e8 t172 (by decide)
  clear t175
  have t176 := pq e8 z7 (by decide)
  clear e8 z7
  refine wpAnyH_take (i := 8) (oi := kids40_o8) (v := cv) rfl (by kernel_rfl) (by kernel_rfl) (by kernel_rfl) (fun _ _ _ h => h) (Or.inl ⟨by rfl, fun w1 hw => exec_binOp rfl t172 t176 (G5 _) (G6 _ hw)⟩) hHeld ?_
  change wpAnyH _ _ _ _ _ _ _ (a8.put (some 177) (cv)) _
  obtain ⟨a9, e9⟩ : ∃ act, act = a8.put (some 177) (cv) := ⟨_, rfl⟩
  rw [← e9] at h ⊢
  have z9 := pz e9 z8
  clear t172 t176
  clear e9 z8
  exact wpAnyH_done (by kernel_rfl) (NoPanic.normal (h _ _ (hHeld) rfl)) _
def kids27_o0 : Oper := { dst := some 107, op := Op.move (Operand.tmp 16), type := 4, pos := "outright.go:139", after := #[], guard := none }
def kids27_o1 : Oper := { dst := some 108, op := Op.unOp UnOp.not 4 (Operand.tmp 107), type := 4, pos := "outright.go:139", after := #[{ on := 0, ground := Ground.data }], guard := none }
def kids27_o2 : Oper := { dst := some 109, op := Op.move (Operand.tmp 108), type := 4, pos := "outright.go:139", after := #[{ on := 1, ground := Ground.data }], guard := none }
def kids27_o3 : Oper := { dst := some 110, op := Op.load 35 (Operand.tmp 14), type := 35, pos := "outright.go:139", after := #[{ on := 2, ground := Ground.guard }], guard := some (2, false) }
def kids27_o4 : Oper := { dst := some 111, op := Op.move (Operand.tmp 4), type := 30, pos := "outright.go:139", after := #[{ on := 2, ground := Ground.guard }], guard := some (2, false) }
def kids27_o5 : Oper := { dst := some 112, op := Op.move (Operand.tmp 6), type := 3, pos := "outright.go:139", after := #[{ on := 2, ground := Ground.guard }], guard := some (2, false) }
def kids27_o6 : Oper := { dst := some 113, op := Op.indexAddr 30 (Operand.tmp 111) (Operand.tmp 112), type := 0, pos := "outright.go:139", after := #[{ on := 4, ground := Ground.data }, { on := 5, ground := Ground.data }, { on := 2, ground := Ground.guard }], guard := some (2, false) }
def kids27_o7 : Oper := { dst := some 114, op := Op.load 35 (Operand.tmp 113), type := 35, pos := "outright.go:139", after := #[{ on := 6, ground := Ground.data }, { on := 2, ground := Ground.guard }], guard := some (2, false) }
def kids27_o8 : Oper := { dst := some 115, op := Op.binOp BinOp.neq 35 (Operand.tmp 110) (Operand.tmp 114) 35, type := 4, pos := "outright.go:139", after := #[{ on := 3, ground := Ground.data }, { on := 7, ground := Ground.data }, { on := 2, ground := Ground.guard }], guard := some (2, false) }
def kids27_o9 : Oper := { dst := some 116, op := Op.pick (Operand.tmp 109) (Operand.const (Value.bool true)) (Operand.tmp 115), type := 4, pos := "outright.go:139", after := #[{ on := 2, ground := Ground.data }, { on := 8, ground := Ground.data }], guard := none }
def kids27_ops : Array Oper := #[kids27_o0, kids27_o1, kids27_o2, kids27_o3, kids27_o4, kids27_o5, kids27_o6, kids27_o7, kids27_o8, kids27_o9]
set_option maxRecDepth 100000 in
set_option maxHeartbeats 4000000 in
theorem kids27 (S : World → Prop) (bu : Nat) (lv iv pi xv : Value) (a : Act) (w : World) (Q : Exit → Act → World → Prop) (hsz : a.tmps.size = 183)
    (t16 : a.tmps.getD 16 undef = .bool true)
    (t14 : a.tmps.getD 14 undef = .pointer (some ⟨bu, 0, none⟩))
    (t4 : a.tmps.getD 4 undef = lv)
    (t6 : a.tmps.getD 6 undef = iv)
    (h0 : S w.drew)
    (G1 : ∀ W, S W → (Instr.loadAt 35 (.pointer (some ⟨bu, 0, none⟩))).run Try.prog W = .ok (xv) W)
    (G2 : ∀ W, (Instr.indexAt 30 (lv) (iv)).run Try.prog W = .ok (pi) W)
    (G3 : ∀ W, S W → (Instr.loadAt 35 (pi)).run Try.prog W = .ok (xv) W)
    (G4 : ∀ W, (eqGuard BinOp.neq 35 (Operand.tmp 110) (Operand.tmp 114) (xv) (xv)).run Try.prog W = .ok () W)
    (G5 : ∀ W, S W → (binOp BinOp.neq 35 (xv) (xv)).run Try.prog W = .ok (.bool false) W)
    (h : ∀ (a' : Act) (w' : World), S w' → a' = ((((((((((a).put (some 107) (.bool true)).put (some 108) (.bool false)).put (some 109) (.bool false)).put (some 110) (xv)).put (some 111) (lv)).put (some 112) (iv)).put (some 113) (pi)).put (some 114) (xv)).put (some 115) (.bool false)).put (some 116) (.bool false) → Q .normal a' w') :
    (Code.region 27 kids27_ops true).wp Try.prog Q a w := by
  refine wp_region_noPanic ?_
  refine wp_region_held_drew (S := fun w' => S w') (by kernel_rfl) (h0) (fun hHeld => ?_)
  refine wpAnyH_take (i := 0) (oi := kids27_o0) (v := .bool true) rfl (by kernel_rfl) (by kernel_rfl) (by kernel_rfl) (fun _ _ _ h => h) (Or.inl ⟨by rfl, fun w1 hw => exec_move rfl t16⟩) hHeld ?_
  change wpAnyH _ _ _ _ _ _ _ (a.put (some 107) (.bool true)) _
  obtain ⟨a1, e1⟩ : ∃ act, act = a.put (some 107) (.bool true) := ⟨_, rfl⟩
  rw [← e1] at h ⊢
  have z1 := pz e1 hsz
  replace t14 := pk e1 t14 (by decide)
  replace t4 := pk e1 t4 (by decide)
  replace t6 := pk e1 t6 (by decide)
  clear t16
  have t107 := pq e1 hsz (by decide)
  clear e1 hsz
  refine wpAnyH_take (i := 1) (oi := kids27_o1) (v := .bool false) rfl (by kernel_rfl) (by kernel_rfl) (by kernel_rfl) (fun _ _ _ h => h) (Or.inl ⟨by rfl, fun w1 hw => by unfold kids27_o1; go_simp⟩) hHeld ?_
  change wpAnyH _ _ _ _ _ _ _ (a1.put (some 108) (.bool false)) _
  obtain ⟨a2, e2⟩ : ∃ act, act = a1.put (some 108) (.bool false) := ⟨_, rfl⟩
  rw [← e2] at h ⊢
  have z2 := pz e2 z1
  replace t14 := pk e2 t14 (by decide)
  replace t4 := pk e2 t4 (by decide)
  replace t6 := pk e2 t6 (by decide)
  clear t107
  have t108 := pq e2 z1 (by decide)
  clear e2 z1
  refine wpAnyH_take (i := 2) (oi := kids27_o2) (v := .bool false) rfl (by kernel_rfl) (by kernel_rfl) (by kernel_rfl) (fun _ _ _ h => h) (Or.inl ⟨by rfl, fun w1 hw => exec_move rfl t108⟩) hHeld ?_
  change wpAnyH _ _ _ _ _ _ _ (a2.put (some 109) (.bool false)) _
  obtain ⟨a3, e3⟩ : ∃ act, act = a2.put (some 109) (.bool false) := ⟨_, rfl⟩
  rw [← e3] at h ⊢
  have z3 := pz e3 z2
  replace t14 := pk e3 t14 (by decide)
  replace t4 := pk e3 t4 (by decide)
  replace t6 := pk e3 t6 (by decide)
  clear t108
  have t109 := pq e3 z2 (by decide)
  clear e3 z2
  refine wpAnyH_take (i := 3) (oi := kids27_o3) (v := xv) rfl (by kernel_rfl) (by kernel_rfl) (by kernel_rfl) (fun _ _ _ h => h) (Or.inl ⟨by simp [Region.wanted, yielded, kids27_ops, kids27_o3, kids27_o2, tget z3 (by decide) t109], fun w1 hw => exec_load rfl t14 (G1 _ hw)⟩) hHeld ?_
  change wpAnyH _ _ _ _ _ _ _ (a3.put (some 110) (xv)) _
  obtain ⟨a4, e4⟩ : ∃ act, act = a3.put (some 110) (xv) := ⟨_, rfl⟩
  rw [← e4] at h ⊢
  have z4 := pz e4 z3
  replace t4 := pk e4 t4 (by decide)
  replace t6 := pk e4 t6 (by decide)
  replace t109 := pk e4 t109 (by decide)
  clear t14
  have t110 := pq e4 z3 (by decide)
  clear e4 z3
  refine wpAnyH_take (i := 4) (oi := kids27_o4) (v := lv) rfl (by kernel_rfl) (by kernel_rfl) (by kernel_rfl) (fun _ _ _ h => h) (Or.inl ⟨by simp [Region.wanted, yielded, kids27_ops, kids27_o4, kids27_o2, tget z4 (by decide) t109], fun w1 hw => exec_move rfl t4⟩) hHeld ?_
  change wpAnyH _ _ _ _ _ _ _ (a4.put (some 111) (lv)) _
  obtain ⟨a5, e5⟩ : ∃ act, act = a4.put (some 111) (lv) := ⟨_, rfl⟩
  rw [← e5] at h ⊢
  have z5 := pz e5 z4
  replace t6 := pk e5 t6 (by decide)
  replace t109 := pk e5 t109 (by decide)
  replace t110 := pk e5 t110 (by decide)
  clear t4
  have t111 := pq e5 z4 (by decide)
  clear e5 z4
  refine wpAnyH_take (i := 5) (oi := kids27_o5) (v := iv) rfl (by kernel_rfl) (by kernel_rfl) (by kernel_rfl) (fun _ _ _ h => h) (Or.inl ⟨by simp [Region.wanted, yielded, kids27_ops, kids27_o5, kids27_o2, tget z5 (by decide) t109], fun w1 hw => exec_move rfl t6⟩) hHeld ?_
  change wpAnyH _ _ _ _ _ _ _ (a5.put (some 112) (iv)) _
  obtain ⟨a6, e6⟩ : ∃ act, act = a5.put (some 112) (iv) := ⟨_, rfl⟩
  rw [← e6] at h ⊢
  have z6 := pz e6 z5
  replace t109 := pk e6 t109 (by decide)
  replace t110 := pk e6 t110 (by decide)
  replace t111 := pk e6 t111 (by decide)
  clear t6
  have t112 := pq e6 z5 (by decide)
  clear e6 z5
  refine wpAnyH_take (i := 6) (oi := kids27_o6) (v := pi) rfl (by kernel_rfl) (by kernel_rfl) (by kernel_rfl) (fun _ _ _ h => h) (Or.inl ⟨by simp [Region.wanted, yielded, kids27_ops, kids27_o6, kids27_o2, tget z6 (by decide) t109], fun w1 hw => exec_indexAt rfl t111 t112 (G2 _)⟩) hHeld ?_
  change wpAnyH _ _ _ _ _ _ _ (a6.put (some 113) (pi)) _
  obtain ⟨a7, e7⟩ : ∃ act, act = a6.put (some 113) (pi) := ⟨_, rfl⟩
  rw [← e7] at h ⊢
  have z7 := pz e7 z6
  replace t109 := pk e7 t109 (by decide)
  replace t110 := pk e7 t110 (by decide)
  clear t111 t112
  have t113 := pq e7 z6 (by decide)
  clear e7 z6
  refine wpAnyH_take (i := 7) (oi := kids27_o7) (v := xv) rfl (by kernel_rfl) (by kernel_rfl) (by kernel_rfl) (fun _ _ _ h => h) (Or.inl ⟨by simp [Region.wanted, yielded, kids27_ops, kids27_o7, kids27_o2, tget z7 (by decide) t109], fun w1 hw => exec_load rfl t113 (G3 _ hw)⟩) hHeld ?_
  change wpAnyH _ _ _ _ _ _ _ (a7.put (some 114) (xv)) _
  obtain ⟨a8, e8⟩ : ∃ act, act = a7.put (some 114) (xv) := ⟨_, rfl⟩
  rw [← e8] at h ⊢
  have z8 := pz e8 z7
  replace t109 := pk e8 t109 (by decide)
  replace t110 := pk e8 t110 (by decide)
  clear t113
  have t114 := pq e8 z7 (by decide)
  clear e8 z7
  refine wpAnyH_take (i := 8) (oi := kids27_o8) (v := .bool false) rfl (by kernel_rfl) (by kernel_rfl) (by kernel_rfl) (fun _ _ _ h => h) (Or.inl ⟨by simp [Region.wanted, yielded, kids27_ops, kids27_o8, kids27_o2, tget z8 (by decide) t109], fun w1 hw => exec_binOp rfl t110 t114 (G4 _) (G5 _ hw)⟩) hHeld ?_
  change wpAnyH _ _ _ _ _ _ _ (a8.put (some 115) (.bool false)) _
  obtain ⟨a9, e9⟩ : ∃ act, act = a8.put (some 115) (.bool false) := ⟨_, rfl⟩
  rw [← e9] at h ⊢
  have z9 := pz e9 z8
  replace t109 := pk e9 t109 (by decide)
  clear t110 t114
  have t115 := pq e9 z8 (by decide)
  clear e9 z8
  refine wpAnyH_take (i := 9) (oi := kids27_o9) (v := .bool false) rfl (by kernel_rfl) (by kernel_rfl) (by kernel_rfl) (fun _ _ _ h => h) (Or.inl ⟨by rfl, fun w1 hw => by unfold kids27_o9; go_simp⟩) hHeld ?_
  change wpAnyH _ _ _ _ _ _ _ (a9.put (some 116) (.bool false)) _
  obtain ⟨a10, e10⟩ : ∃ act, act = a9.put (some 116) (.bool false) := ⟨_, rfl⟩
  rw [← e10] at h ⊢
  have z10 := pz e10 z9
  clear t109 t115
  clear e10 z9
  exact wpAnyH_done (by kernel_rfl) (NoPanic.normal (h _ _ (hHeld) rfl)) _
def kids31l_o0 : Oper := { dst := some 130, op := Op.move (Operand.tmp 18), type := 9, pos := "outright.go:144", after := #[], guard := none }
def kids31l_o1 : Oper := { dst := some 131, op := Op.move (Operand.tmp 15), type := 9, pos := "outright.go:144", after := #[], guard := none }
def kids31l_o2 : Oper := { dst := some 132, op := Op.binOp BinOp.gtr 9 (Operand.tmp 130) (Operand.tmp 131) 9, type := 4, pos := "outright.go:144", after := #[{ on := 0, ground := Ground.data }, { on := 1, ground := Ground.data }], guard := none }
def kids31l_o3 : Oper := { dst := some 133, op := Op.move (Operand.tmp 132), type := 4, pos := "outright.go:144", after := #[{ on := 2, ground := Ground.data }], guard := none }
def kids31l_o4 : Oper := { dst := some 134, op := Op.move (Operand.tmp 18), type := 9, pos := "outright.go:144", after := #[{ on := 3, ground := Ground.guard }], guard := some (3, false) }
def kids31l_o5 : Oper := { dst := some 135, op := Op.move (Operand.tmp 15), type := 9, pos := "outright.go:144", after := #[{ on := 3, ground := Ground.guard }], guard := some (3, false) }
def kids31l_o6 : Oper := { dst := some 136, op := Op.binOp BinOp.eql 9 (Operand.tmp 134) (Operand.tmp 135) 9, type := 4, pos := "outright.go:144", after := #[{ on := 4, ground := Ground.data }, { on := 5, ground := Ground.data }, { on := 3, ground := Ground.guard }], guard := some (3, false) }
def kids31l_o7 : Oper := { dst := some 137, op := Op.move (Operand.tmp 136), type := 4, pos := "outright.go:144", after := #[{ on := 6, ground := Ground.data }, { on := 3, ground := Ground.chain }, { on := 3, ground := Ground.guard }], guard := some (3, false) }
def kids31l_o8 : Oper := { dst := some 138, op := Op.move (Operand.tmp 12), type := 30, pos := "outright.go:144", after := #[{ on := 7, ground := Ground.guard }], guard := some (7, true) }
def kids31l_o9 : Oper := { dst := some 139, op := Op.move (Operand.tmp 13), type := 3, pos := "outright.go:144", after := #[{ on := 7, ground := Ground.guard }], guard := some (7, true) }
def kids31l_o10 : Oper := { dst := some 140, op := Op.binOp BinOp.sub 3 (Operand.tmp 139) (Operand.const (Value.int IntKind.i64 1)) 3, type := 3, pos := "outright.go:144", after := #[{ on := 9, ground := Ground.data }, { on := 7, ground := Ground.guard }], guard := some (7, true) }
def kids31l_o11 : Oper := { dst := some 141, op := Op.indexAddr 30 (Operand.tmp 138) (Operand.tmp 140), type := 0, pos := "outright.go:144", after := #[{ on := 8, ground := Ground.data }, { on := 10, ground := Ground.data }, { on := 7, ground := Ground.guard }], guard := some (7, true) }
def kids31l_o12 : Oper := { dst := some 142, op := Op.load 35 (Operand.tmp 141), type := 35, pos := "outright.go:144", after := #[{ on := 11, ground := Ground.data }, { on := 7, ground := Ground.guard }], guard := some (7, true) }
def kids31l_o13 : Oper := { dst := some 143, op := Op.move (Operand.tmp 12), type := 30, pos := "outright.go:144", after := #[{ on := 7, ground := Ground.guard }], guard := some (7, true) }
def kids31l_o14 : Oper := { dst := some 144, op := Op.move (Operand.tmp 13), type := 3, pos := "outright.go:144", after := #[{ on := 7, ground := Ground.guard }], guard := some (7, true) }
def kids31l_o15 : Oper := { dst := some 145, op := Op.indexAddr 30 (Operand.tmp 143) (Operand.tmp 144), type := 0, pos := "outright.go:144", after := #[{ on := 13, ground := Ground.data }, { on := 14, ground := Ground.data }, { on := 7, ground := Ground.guard }], guard := some (7, true) }
def kids31l_o16 : Oper := { dst := some 146, op := Op.load 35 (Operand.tmp 145), type := 35, pos := "outright.go:144", after := #[{ on := 15, ground := Ground.data }, { on := 7, ground := Ground.guard }], guard := some (7, true) }
def kids31l_o17 : Oper := { dst := some 147, op := Op.call { callee := Callee.value (Operand.func 20), args := #[Operand.tmp 142, Operand.tmp 146], argTypes := #[35, 35] }, type := 4, pos := "outright.go:144", after := #[{ on := 12, ground := Ground.data }, { on := 16, ground := Ground.data }, { on := 7, ground := Ground.chain }, { on := 7, ground := Ground.guard }], guard := some (7, true) }
def kids31l_o18 : Oper := { dst := some 148, op := Op.unOp UnOp.not 4 (Operand.tmp 147), type := 4, pos := "outright.go:144", after := #[{ on := 17, ground := Ground.data }, { on := 7, ground := Ground.guard }], guard := some (7, true) }
def kids31l_o19 : Oper := { dst := some 149, op := Op.pick (Operand.tmp 137) (Operand.tmp 148) (Operand.const (Value.bool false)), type := 4, pos := "outright.go:144", after := #[{ on := 7, ground := Ground.data }, { on := 18, ground := Ground.data }, { on := 3, ground := Ground.guard }], guard := some (3, false) }
def kids31l_o20 : Oper := { dst := some 150, op := Op.pick (Operand.tmp 133) (Operand.const (Value.bool true)) (Operand.tmp 149), type := 4, pos := "outright.go:144", after := #[{ on := 3, ground := Ground.data }, { on := 19, ground := Ground.data }], guard := none }
def kids31l_ops : Array Oper := #[kids31l_o0, kids31l_o1, kids31l_o2, kids31l_o3, kids31l_o4, kids31l_o5, kids31l_o6, kids31l_o7, kids31l_o8, kids31l_o9, kids31l_o10, kids31l_o11, kids31l_o12, kids31l_o13, kids31l_o14, kids31l_o15, kids31l_o16, kids31l_o17, kids31l_o18, kids31l_o19, kids31l_o20]
set_option maxRecDepth 100000 in
set_option maxHeartbeats 4000000 in
theorem kids31l (S : World → Prop) (ka kb : ByteArray) (lv iv : Value) (a : Act) (w : World) (Q : Exit → Act → World → Prop) (hsz : a.tmps.size = 183)
    (t18 : a.tmps.getD 18 undef = .string ka)
    (t15 : a.tmps.getD 15 undef = .string kb)
    (t12 : a.tmps.getD 12 undef = lv)
    (t13 : a.tmps.getD 13 undef = iv)
    (h0 : S w.drew)
    (G1 : ∀ W, (eqGuard BinOp.gtr 9 (Operand.tmp 130) (Operand.tmp 131) (.string ka) (.string kb)).run Try.prog W = .ok () W)
    (G2 : ∀ W, S W → (binOp BinOp.gtr 9 (.string ka) (.string kb)).run Try.prog W = .ok (.bool false) W)
    (G3 : ∀ W, (eqGuard BinOp.eql 9 (Operand.tmp 134) (Operand.tmp 135) (.string ka) (.string kb)).run Try.prog W = .ok () W)
    (G4 : ∀ W, S W → (binOp BinOp.eql 9 (.string ka) (.string kb)).run Try.prog W = .ok (.bool false) W)
    (h : ∀ (a' : Act) (w' : World), S w' → a' = (((((((((((((((((((((a).put (some 130) (.string ka)).put (some 131) (.string kb)).put (some 132) (.bool false)).put (some 133) (.bool false)).put (some 134) (.string ka)).put (some 135) (.string kb)).put (some 136) (.bool false)).put (some 137) (.bool false)).put (some 138) (undef)).put (some 139) (undef)).put (some 140) (undef)).put (some 141) (undef)).put (some 142) (undef)).put (some 143) (undef)).put (some 144) (undef)).put (some 145) (undef)).put (some 146) (undef)).put (some 147) (undef)).put (some 148) (undef)).put (some 149) (.bool false)).put (some 150) (.bool false) → Q .normal a' w') :
    (Code.region 31 kids31l_ops true).wp Try.prog Q a w := by
  refine wp_region_noPanic ?_
  refine wp_region_held_drew (S := fun w' => S w') (by kernel_rfl) (h0) (fun hHeld => ?_)
  refine wpAnyH_take (i := 0) (oi := kids31l_o0) (v := .string ka) rfl (by kernel_rfl) (by kernel_rfl) (by kernel_rfl) (fun _ _ _ h => h) (Or.inl ⟨by rfl, fun w1 hw => exec_move rfl t18⟩) hHeld ?_
  change wpAnyH _ _ _ _ _ _ _ (a.put (some 130) (.string ka)) _
  obtain ⟨a1, e1⟩ : ∃ act, act = a.put (some 130) (.string ka) := ⟨_, rfl⟩
  rw [← e1] at h ⊢
  have z1 := pz e1 hsz
  replace t18 := pk e1 t18 (by decide)
  replace t15 := pk e1 t15 (by decide)
  replace t12 := pk e1 t12 (by decide)
  replace t13 := pk e1 t13 (by decide)
  have t130 := pq e1 hsz (by decide)
  clear e1 hsz
  refine wpAnyH_take (i := 1) (oi := kids31l_o1) (v := .string kb) rfl (by kernel_rfl) (by kernel_rfl) (by kernel_rfl) (fun _ _ _ h => h) (Or.inl ⟨by rfl, fun w1 hw => exec_move rfl t15⟩) hHeld ?_
  change wpAnyH _ _ _ _ _ _ _ (a1.put (some 131) (.string kb)) _
  obtain ⟨a2, e2⟩ : ∃ act, act = a1.put (some 131) (.string kb) := ⟨_, rfl⟩
  rw [← e2] at h ⊢
  have z2 := pz e2 z1
  replace t18 := pk e2 t18 (by decide)
  replace t15 := pk e2 t15 (by decide)
  replace t12 := pk e2 t12 (by decide)
  replace t13 := pk e2 t13 (by decide)
  replace t130 := pk e2 t130 (by decide)
  have t131 := pq e2 z1 (by decide)
  clear e2 z1
  refine wpAnyH_take (i := 2) (oi := kids31l_o2) (v := .bool false) rfl (by kernel_rfl) (by kernel_rfl) (by kernel_rfl) (fun _ _ _ h => h) (Or.inl ⟨by rfl, fun w1 hw => exec_binOp rfl t130 t131 (G1 _) (G2 _ hw)⟩) hHeld ?_
  change wpAnyH _ _ _ _ _ _ _ (a2.put (some 132) (.bool false)) _
  obtain ⟨a3, e3⟩ : ∃ act, act = a2.put (some 132) (.bool false) := ⟨_, rfl⟩
  rw [← e3] at h ⊢
  have z3 := pz e3 z2
  replace t18 := pk e3 t18 (by decide)
  replace t15 := pk e3 t15 (by decide)
  replace t12 := pk e3 t12 (by decide)
  replace t13 := pk e3 t13 (by decide)
  clear t130 t131
  have t132 := pq e3 z2 (by decide)
  clear e3 z2
  refine wpAnyH_take (i := 3) (oi := kids31l_o3) (v := .bool false) rfl (by kernel_rfl) (by kernel_rfl) (by kernel_rfl) (fun _ _ _ h => h) (Or.inl ⟨by rfl, fun w1 hw => exec_move rfl t132⟩) hHeld ?_
  change wpAnyH _ _ _ _ _ _ _ (a3.put (some 133) (.bool false)) _
  obtain ⟨a4, e4⟩ : ∃ act, act = a3.put (some 133) (.bool false) := ⟨_, rfl⟩
  rw [← e4] at h ⊢
  have z4 := pz e4 z3
  replace t18 := pk e4 t18 (by decide)
  replace t15 := pk e4 t15 (by decide)
  replace t12 := pk e4 t12 (by decide)
  replace t13 := pk e4 t13 (by decide)
  clear t132
  have t133 := pq e4 z3 (by decide)
  clear e4 z3
  refine wpAnyH_take (i := 4) (oi := kids31l_o4) (v := .string ka) rfl (by kernel_rfl) (by kernel_rfl) (by kernel_rfl) (fun _ _ _ h => h) (Or.inl ⟨by simp [Region.wanted, yielded, kids31l_ops, kids31l_o4, kids31l_o3, tget z4 (by decide) t133], fun w1 hw => exec_move rfl t18⟩) hHeld ?_
  change wpAnyH _ _ _ _ _ _ _ (a4.put (some 134) (.string ka)) _
  obtain ⟨a5, e5⟩ : ∃ act, act = a4.put (some 134) (.string ka) := ⟨_, rfl⟩
  rw [← e5] at h ⊢
  have z5 := pz e5 z4
  replace t15 := pk e5 t15 (by decide)
  replace t12 := pk e5 t12 (by decide)
  replace t13 := pk e5 t13 (by decide)
  replace t133 := pk e5 t133 (by decide)
  clear t18
  have t134 := pq e5 z4 (by decide)
  clear e5 z4
  refine wpAnyH_take (i := 5) (oi := kids31l_o5) (v := .string kb) rfl (by kernel_rfl) (by kernel_rfl) (by kernel_rfl) (fun _ _ _ h => h) (Or.inl ⟨by simp [Region.wanted, yielded, kids31l_ops, kids31l_o5, kids31l_o3, tget z5 (by decide) t133], fun w1 hw => exec_move rfl t15⟩) hHeld ?_
  change wpAnyH _ _ _ _ _ _ _ (a5.put (some 135) (.string kb)) _
  obtain ⟨a6, e6⟩ : ∃ act, act = a5.put (some 135) (.string kb) := ⟨_, rfl⟩
  rw [← e6] at h ⊢
  have z6 := pz e6 z5
  replace t12 := pk e6 t12 (by decide)
  replace t13 := pk e6 t13 (by decide)
  replace t133 := pk e6 t133 (by decide)
  replace t134 := pk e6 t134 (by decide)
  clear t15
  have t135 := pq e6 z5 (by decide)
  clear e6 z5
  refine wpAnyH_take (i := 6) (oi := kids31l_o6) (v := .bool false) rfl (by kernel_rfl) (by kernel_rfl) (by kernel_rfl) (fun _ _ _ h => h) (Or.inl ⟨by simp [Region.wanted, yielded, kids31l_ops, kids31l_o6, kids31l_o3, tget z6 (by decide) t133], fun w1 hw => exec_binOp rfl t134 t135 (G3 _) (G4 _ hw)⟩) hHeld ?_
  change wpAnyH _ _ _ _ _ _ _ (a6.put (some 136) (.bool false)) _
  obtain ⟨a7, e7⟩ : ∃ act, act = a6.put (some 136) (.bool false) := ⟨_, rfl⟩
  rw [← e7] at h ⊢
  have z7 := pz e7 z6
  replace t12 := pk e7 t12 (by decide)
  replace t13 := pk e7 t13 (by decide)
  replace t133 := pk e7 t133 (by decide)
  clear t134 t135
  have t136 := pq e7 z6 (by decide)
  clear e7 z6
  refine wpAnyH_take (i := 7) (oi := kids31l_o7) (v := .bool false) rfl (by kernel_rfl) (by kernel_rfl) (by kernel_rfl) (fun _ _ _ h => h) (Or.inl ⟨by simp [Region.wanted, yielded, kids31l_ops, kids31l_o7, kids31l_o3, tget z7 (by decide) t133], fun w1 hw => exec_move rfl t136⟩) hHeld ?_
  change wpAnyH _ _ _ _ _ _ _ (a7.put (some 137) (.bool false)) _
  obtain ⟨a8, e8⟩ : ∃ act, act = a7.put (some 137) (.bool false) := ⟨_, rfl⟩
  rw [← e8] at h ⊢
  have z8 := pz e8 z7
  replace t12 := pk e8 t12 (by decide)
  replace t13 := pk e8 t13 (by decide)
  replace t133 := pk e8 t133 (by decide)
  clear t136
  have t137 := pq e8 z7 (by decide)
  clear e8 z7
  refine wpAnyH_take (i := 8) (oi := kids31l_o8) (v := undef) rfl (by kernel_rfl) (by kernel_rfl) (by kernel_rfl) (fun _ _ _ h => h) (Or.inr ⟨by simp [Region.wanted, yielded, kids31l_ops, kids31l_o8, kids31l_o7, tget z8 (by decide) t137], rfl⟩) hHeld ?_
  change wpAnyH _ _ _ _ _ _ _ (a8.put (some 138) (undef)) _
  obtain ⟨a9, e9⟩ : ∃ act, act = a8.put (some 138) (undef) := ⟨_, rfl⟩
  rw [← e9] at h ⊢
  have z9 := pz e9 z8
  replace t12 := pk e9 t12 (by decide)
  replace t13 := pk e9 t13 (by decide)
  replace t133 := pk e9 t133 (by decide)
  replace t137 := pk e9 t137 (by decide)
  have t138 := pq e9 z8 (by decide)
  clear e9 z8
  refine wpAnyH_take (i := 9) (oi := kids31l_o9) (v := undef) rfl (by kernel_rfl) (by kernel_rfl) (by kernel_rfl) (fun _ _ _ h => h) (Or.inr ⟨by simp [Region.wanted, yielded, kids31l_ops, kids31l_o9, kids31l_o7, tget z9 (by decide) t137], rfl⟩) hHeld ?_
  change wpAnyH _ _ _ _ _ _ _ (a9.put (some 139) (undef)) _
  obtain ⟨a10, e10⟩ : ∃ act, act = a9.put (some 139) (undef) := ⟨_, rfl⟩
  rw [← e10] at h ⊢
  have z10 := pz e10 z9
  replace t12 := pk e10 t12 (by decide)
  replace t13 := pk e10 t13 (by decide)
  replace t133 := pk e10 t133 (by decide)
  replace t137 := pk e10 t137 (by decide)
  replace t138 := pk e10 t138 (by decide)
  have t139 := pq e10 z9 (by decide)
  clear e10 z9
  refine wpAnyH_take (i := 10) (oi := kids31l_o10) (v := undef) rfl (by kernel_rfl) (by kernel_rfl) (by kernel_rfl) (fun _ _ _ h => h) (Or.inr ⟨by simp [Region.wanted, yielded, kids31l_ops, kids31l_o10, kids31l_o7, tget z10 (by decide) t137], rfl⟩) hHeld ?_
  change wpAnyH _ _ _ _ _ _ _ (a10.put (some 140) (undef)) _
  obtain ⟨a11, e11⟩ : ∃ act, act = a10.put (some 140) (undef) := ⟨_, rfl⟩
  rw [← e11] at h ⊢
  have z11 := pz e11 z10
  replace t12 := pk e11 t12 (by decide)
  replace t13 := pk e11 t13 (by decide)
  replace t133 := pk e11 t133 (by decide)
  replace t137 := pk e11 t137 (by decide)
  replace t138 := pk e11 t138 (by decide)
  clear t139
  have t140 := pq e11 z10 (by decide)
  clear e11 z10
  refine wpAnyH_take (i := 11) (oi := kids31l_o11) (v := undef) rfl (by kernel_rfl) (by kernel_rfl) (by kernel_rfl) (fun _ _ _ h => h) (Or.inr ⟨by simp [Region.wanted, yielded, kids31l_ops, kids31l_o11, kids31l_o7, tget z11 (by decide) t137], rfl⟩) hHeld ?_
  change wpAnyH _ _ _ _ _ _ _ (a11.put (some 141) (undef)) _
  obtain ⟨a12, e12⟩ : ∃ act, act = a11.put (some 141) (undef) := ⟨_, rfl⟩
  rw [← e12] at h ⊢
  have z12 := pz e12 z11
  replace t12 := pk e12 t12 (by decide)
  replace t13 := pk e12 t13 (by decide)
  replace t133 := pk e12 t133 (by decide)
  replace t137 := pk e12 t137 (by decide)
  clear t138 t140
  have t141 := pq e12 z11 (by decide)
  clear e12 z11
  refine wpAnyH_take (i := 12) (oi := kids31l_o12) (v := undef) rfl (by kernel_rfl) (by kernel_rfl) (by kernel_rfl) (fun _ _ _ h => h) (Or.inr ⟨by simp [Region.wanted, yielded, kids31l_ops, kids31l_o12, kids31l_o7, tget z12 (by decide) t137], rfl⟩) hHeld ?_
  change wpAnyH _ _ _ _ _ _ _ (a12.put (some 142) (undef)) _
  obtain ⟨a13, e13⟩ : ∃ act, act = a12.put (some 142) (undef) := ⟨_, rfl⟩
  rw [← e13] at h ⊢
  have z13 := pz e13 z12
  replace t12 := pk e13 t12 (by decide)
  replace t13 := pk e13 t13 (by decide)
  replace t133 := pk e13 t133 (by decide)
  replace t137 := pk e13 t137 (by decide)
  clear t141
  have t142 := pq e13 z12 (by decide)
  clear e13 z12
  refine wpAnyH_take (i := 13) (oi := kids31l_o13) (v := undef) rfl (by kernel_rfl) (by kernel_rfl) (by kernel_rfl) (fun _ _ _ h => h) (Or.inr ⟨by simp [Region.wanted, yielded, kids31l_ops, kids31l_o13, kids31l_o7, tget z13 (by decide) t137], rfl⟩) hHeld ?_
  change wpAnyH _ _ _ _ _ _ _ (a13.put (some 143) (undef)) _
  obtain ⟨a14, e14⟩ : ∃ act, act = a13.put (some 143) (undef) := ⟨_, rfl⟩
  rw [← e14] at h ⊢
  have z14 := pz e14 z13
  replace t13 := pk e14 t13 (by decide)
  replace t133 := pk e14 t133 (by decide)
  replace t137 := pk e14 t137 (by decide)
  replace t142 := pk e14 t142 (by decide)
  clear t12
  have t143 := pq e14 z13 (by decide)
  clear e14 z13
  refine wpAnyH_take (i := 14) (oi := kids31l_o14) (v := undef) rfl (by kernel_rfl) (by kernel_rfl) (by kernel_rfl) (fun _ _ _ h => h) (Or.inr ⟨by simp [Region.wanted, yielded, kids31l_ops, kids31l_o14, kids31l_o7, tget z14 (by decide) t137], rfl⟩) hHeld ?_
  change wpAnyH _ _ _ _ _ _ _ (a14.put (some 144) (undef)) _
  obtain ⟨a15, e15⟩ : ∃ act, act = a14.put (some 144) (undef) := ⟨_, rfl⟩
  rw [← e15] at h ⊢
  have z15 := pz e15 z14
  replace t133 := pk e15 t133 (by decide)
  replace t137 := pk e15 t137 (by decide)
  replace t142 := pk e15 t142 (by decide)
  replace t143 := pk e15 t143 (by decide)
  clear t13
  have t144 := pq e15 z14 (by decide)
  clear e15 z14
  refine wpAnyH_take (i := 15) (oi := kids31l_o15) (v := undef) rfl (by kernel_rfl) (by kernel_rfl) (by kernel_rfl) (fun _ _ _ h => h) (Or.inr ⟨by simp [Region.wanted, yielded, kids31l_ops, kids31l_o15, kids31l_o7, tget z15 (by decide) t137], rfl⟩) hHeld ?_
  change wpAnyH _ _ _ _ _ _ _ (a15.put (some 145) (undef)) _
  obtain ⟨a16, e16⟩ : ∃ act, act = a15.put (some 145) (undef) := ⟨_, rfl⟩
  rw [← e16] at h ⊢
  have z16 := pz e16 z15
  replace t133 := pk e16 t133 (by decide)
  replace t137 := pk e16 t137 (by decide)
  replace t142 := pk e16 t142 (by decide)
  clear t143 t144
  have t145 := pq e16 z15 (by decide)
  clear e16 z15
  refine wpAnyH_take (i := 16) (oi := kids31l_o16) (v := undef) rfl (by kernel_rfl) (by kernel_rfl) (by kernel_rfl) (fun _ _ _ h => h) (Or.inr ⟨by simp [Region.wanted, yielded, kids31l_ops, kids31l_o16, kids31l_o7, tget z16 (by decide) t137], rfl⟩) hHeld ?_
  change wpAnyH _ _ _ _ _ _ _ (a16.put (some 146) (undef)) _
  obtain ⟨a17, e17⟩ : ∃ act, act = a16.put (some 146) (undef) := ⟨_, rfl⟩
  rw [← e17] at h ⊢
  have z17 := pz e17 z16
  replace t133 := pk e17 t133 (by decide)
  replace t137 := pk e17 t137 (by decide)
  replace t142 := pk e17 t142 (by decide)
  clear t145
  have t146 := pq e17 z16 (by decide)
  clear e17 z16
  refine wpAnyH_take (i := 17) (oi := kids31l_o17) (v := undef) rfl (by kernel_rfl) (by kernel_rfl) (by kernel_rfl) (fun _ _ _ h => h) (Or.inr ⟨by simp [Region.wanted, yielded, kids31l_ops, kids31l_o17, kids31l_o7, tget z17 (by decide) t137], rfl⟩) hHeld ?_
  change wpAnyH _ _ _ _ _ _ _ (a17.put (some 147) (undef)) _
  obtain ⟨a18, e18⟩ : ∃ act, act = a17.put (some 147) (undef) := ⟨_, rfl⟩
  rw [← e18] at h ⊢
  have z18 := pz e18 z17
  replace t133 := pk e18 t133 (by decide)
  replace t137 := pk e18 t137 (by decide)
  clear t142 t146
  have t147 := pq e18 z17 (by decide)
  clear e18 z17
  refine wpAnyH_take (i := 18) (oi := kids31l_o18) (v := undef) rfl (by kernel_rfl) (by kernel_rfl) (by kernel_rfl) (fun _ _ _ h => h) (Or.inr ⟨by simp [Region.wanted, yielded, kids31l_ops, kids31l_o18, kids31l_o7, tget z18 (by decide) t137], rfl⟩) hHeld ?_
  change wpAnyH _ _ _ _ _ _ _ (a18.put (some 148) (undef)) _
  obtain ⟨a19, e19⟩ : ∃ act, act = a18.put (some 148) (undef) := ⟨_, rfl⟩
  rw [← e19] at h ⊢
  have z19 := pz e19 z18
  replace t133 := pk e19 t133 (by decide)
  replace t137 := pk e19 t137 (by decide)
  clear t147
  have t148 := pq e19 z18 (by decide)
  clear e19 z18
  refine wpAnyH_take (i := 19) (oi := kids31l_o19) (v := .bool false) rfl (by kernel_rfl) (by kernel_rfl) (by kernel_rfl) (fun _ _ _ h => h) (Or.inl ⟨by simp [Region.wanted, yielded, kids31l_ops, kids31l_o19, kids31l_o3, tget z19 (by decide) t133], fun w1 hw => by unfold kids31l_o19; go_simp⟩) hHeld ?_
  change wpAnyH _ _ _ _ _ _ _ (a19.put (some 149) (.bool false)) _
  obtain ⟨a20, e20⟩ : ∃ act, act = a19.put (some 149) (.bool false) := ⟨_, rfl⟩
  rw [← e20] at h ⊢
  have z20 := pz e20 z19
  replace t133 := pk e20 t133 (by decide)
  clear t137 t148
  have t149 := pq e20 z19 (by decide)
  clear e20 z19
  refine wpAnyH_take (i := 20) (oi := kids31l_o20) (v := .bool false) rfl (by kernel_rfl) (by kernel_rfl) (by kernel_rfl) (fun _ _ _ h => h) (Or.inl ⟨by rfl, fun w1 hw => by unfold kids31l_o20; go_simp⟩) hHeld ?_
  change wpAnyH _ _ _ _ _ _ _ (a20.put (some 150) (.bool false)) _
  obtain ⟨a21, e21⟩ : ∃ act, act = a20.put (some 150) (.bool false) := ⟨_, rfl⟩
  rw [← e21] at h ⊢
  have z21 := pz e21 z20
  clear t133 t149
  clear e21 z20
  exact wpAnyH_done (by kernel_rfl) (NoPanic.normal (h _ _ (hHeld) rfl)) _
def kids31e_o0 : Oper := { dst := some 130, op := Op.move (Operand.tmp 18), type := 9, pos := "outright.go:144", after := #[], guard := none }
def kids31e_o1 : Oper := { dst := some 131, op := Op.move (Operand.tmp 15), type := 9, pos := "outright.go:144", after := #[], guard := none }
def kids31e_o2 : Oper := { dst := some 132, op := Op.binOp BinOp.gtr 9 (Operand.tmp 130) (Operand.tmp 131) 9, type := 4, pos := "outright.go:144", after := #[{ on := 0, ground := Ground.data }, { on := 1, ground := Ground.data }], guard := none }
def kids31e_o3 : Oper := { dst := some 133, op := Op.move (Operand.tmp 132), type := 4, pos := "outright.go:144", after := #[{ on := 2, ground := Ground.data }], guard := none }
def kids31e_o4 : Oper := { dst := some 134, op := Op.move (Operand.tmp 18), type := 9, pos := "outright.go:144", after := #[{ on := 3, ground := Ground.guard }], guard := some (3, false) }
def kids31e_o5 : Oper := { dst := some 135, op := Op.move (Operand.tmp 15), type := 9, pos := "outright.go:144", after := #[{ on := 3, ground := Ground.guard }], guard := some (3, false) }
def kids31e_o6 : Oper := { dst := some 136, op := Op.binOp BinOp.eql 9 (Operand.tmp 134) (Operand.tmp 135) 9, type := 4, pos := "outright.go:144", after := #[{ on := 4, ground := Ground.data }, { on := 5, ground := Ground.data }, { on := 3, ground := Ground.guard }], guard := some (3, false) }
def kids31e_o7 : Oper := { dst := some 137, op := Op.move (Operand.tmp 136), type := 4, pos := "outright.go:144", after := #[{ on := 6, ground := Ground.data }, { on := 3, ground := Ground.chain }, { on := 3, ground := Ground.guard }], guard := some (3, false) }
def kids31e_o8 : Oper := { dst := some 138, op := Op.move (Operand.tmp 12), type := 30, pos := "outright.go:144", after := #[{ on := 7, ground := Ground.guard }], guard := some (7, true) }
def kids31e_o9 : Oper := { dst := some 139, op := Op.move (Operand.tmp 13), type := 3, pos := "outright.go:144", after := #[{ on := 7, ground := Ground.guard }], guard := some (7, true) }
def kids31e_o10 : Oper := { dst := some 140, op := Op.binOp BinOp.sub 3 (Operand.tmp 139) (Operand.const (Value.int IntKind.i64 1)) 3, type := 3, pos := "outright.go:144", after := #[{ on := 9, ground := Ground.data }, { on := 7, ground := Ground.guard }], guard := some (7, true) }
def kids31e_o11 : Oper := { dst := some 141, op := Op.indexAddr 30 (Operand.tmp 138) (Operand.tmp 140), type := 0, pos := "outright.go:144", after := #[{ on := 8, ground := Ground.data }, { on := 10, ground := Ground.data }, { on := 7, ground := Ground.guard }], guard := some (7, true) }
def kids31e_o12 : Oper := { dst := some 142, op := Op.load 35 (Operand.tmp 141), type := 35, pos := "outright.go:144", after := #[{ on := 11, ground := Ground.data }, { on := 7, ground := Ground.guard }], guard := some (7, true) }
def kids31e_o13 : Oper := { dst := some 143, op := Op.move (Operand.tmp 12), type := 30, pos := "outright.go:144", after := #[{ on := 7, ground := Ground.guard }], guard := some (7, true) }
def kids31e_o14 : Oper := { dst := some 144, op := Op.move (Operand.tmp 13), type := 3, pos := "outright.go:144", after := #[{ on := 7, ground := Ground.guard }], guard := some (7, true) }
def kids31e_o15 : Oper := { dst := some 145, op := Op.indexAddr 30 (Operand.tmp 143) (Operand.tmp 144), type := 0, pos := "outright.go:144", after := #[{ on := 13, ground := Ground.data }, { on := 14, ground := Ground.data }, { on := 7, ground := Ground.guard }], guard := some (7, true) }
def kids31e_o16 : Oper := { dst := some 146, op := Op.load 35 (Operand.tmp 145), type := 35, pos := "outright.go:144", after := #[{ on := 15, ground := Ground.data }, { on := 7, ground := Ground.guard }], guard := some (7, true) }
def kids31e_o17 : Oper := { dst := some 147, op := Op.call { callee := Callee.value (Operand.func 20), args := #[Operand.tmp 142, Operand.tmp 146], argTypes := #[35, 35] }, type := 4, pos := "outright.go:144", after := #[{ on := 12, ground := Ground.data }, { on := 16, ground := Ground.data }, { on := 7, ground := Ground.chain }, { on := 7, ground := Ground.guard }], guard := some (7, true) }
def kids31e_o18 : Oper := { dst := some 148, op := Op.unOp UnOp.not 4 (Operand.tmp 147), type := 4, pos := "outright.go:144", after := #[{ on := 17, ground := Ground.data }, { on := 7, ground := Ground.guard }], guard := some (7, true) }
def kids31e_o19 : Oper := { dst := some 149, op := Op.pick (Operand.tmp 137) (Operand.tmp 148) (Operand.const (Value.bool false)), type := 4, pos := "outright.go:144", after := #[{ on := 7, ground := Ground.data }, { on := 18, ground := Ground.data }, { on := 3, ground := Ground.guard }], guard := some (3, false) }
def kids31e_o20 : Oper := { dst := some 150, op := Op.pick (Operand.tmp 133) (Operand.const (Value.bool true)) (Operand.tmp 149), type := 4, pos := "outright.go:144", after := #[{ on := 3, ground := Ground.data }, { on := 19, ground := Ground.data }], guard := none }
def kids31e_ops : Array Oper := #[kids31e_o0, kids31e_o1, kids31e_o2, kids31e_o3, kids31e_o4, kids31e_o5, kids31e_o6, kids31e_o7, kids31e_o8, kids31e_o9, kids31e_o10, kids31e_o11, kids31e_o12, kids31e_o13, kids31e_o14, kids31e_o15, kids31e_o16, kids31e_o17, kids31e_o18, kids31e_o19, kids31e_o20]
set_option maxRecDepth 100000 in
set_option maxHeartbeats 4000000 in
theorem kids31e (S : World → Prop) (ka kb : ByteArray) (lv iv jv pj pi xv yv : Value) (a : Act) (w : World) (Q : Exit → Act → World → Prop) (hsz : a.tmps.size = 183)
    (t18 : a.tmps.getD 18 undef = .string ka)
    (t15 : a.tmps.getD 15 undef = .string kb)
    (t12 : a.tmps.getD 12 undef = lv)
    (t13 : a.tmps.getD 13 undef = iv)
    (h0 : S w.drew) (CL : ∀ W, S W → Calls Try.prog 20 #[yv, xv] W fun e w' => e = .returned (.bool true) ∧ S w')
    (G1 : ∀ W, (eqGuard BinOp.gtr 9 (Operand.tmp 130) (Operand.tmp 131) (.string ka) (.string kb)).run Try.prog W = .ok () W)
    (G2 : ∀ W, S W → (binOp BinOp.gtr 9 (.string ka) (.string kb)).run Try.prog W = .ok (.bool false) W)
    (G3 : ∀ W, (eqGuard BinOp.eql 9 (Operand.tmp 134) (Operand.tmp 135) (.string ka) (.string kb)).run Try.prog W = .ok () W)
    (G4 : ∀ W, S W → (binOp BinOp.eql 9 (.string ka) (.string kb)).run Try.prog W = .ok (.bool true) W)
    (G5 : ∀ W, (eqGuard BinOp.sub 3 (Operand.tmp 139) (Operand.const (Value.int IntKind.i64 1)) (iv) (.int .i64 1)).run Try.prog W = .ok () W)
    (G6 : ∀ W, S W → (binOp BinOp.sub 3 (iv) (.int .i64 1)).run Try.prog W = .ok (jv) W)
    (G7 : ∀ W, (Instr.indexAt 30 (lv) (jv)).run Try.prog W = .ok (pj) W)
    (G8 : ∀ W, S W → (Instr.loadAt 35 (pj)).run Try.prog W = .ok (yv) W)
    (G9 : ∀ W, (Instr.indexAt 30 (lv) (iv)).run Try.prog W = .ok (pi) W)
    (G10 : ∀ W, S W → (Instr.loadAt 35 (pi)).run Try.prog W = .ok (xv) W)
    (h : ∀ (a' : Act) (w' : World), S w' → a' = (((((((((((((((((((((a).put (some 130) (.string ka)).put (some 131) (.string kb)).put (some 132) (.bool false)).put (some 133) (.bool false)).put (some 134) (.string ka)).put (some 135) (.string kb)).put (some 136) (.bool true)).put (some 137) (.bool true)).put (some 138) (lv)).put (some 139) (iv)).put (some 140) (jv)).put (some 141) (pj)).put (some 142) (yv)).put (some 143) (lv)).put (some 144) (iv)).put (some 145) (pi)).put (some 146) (xv)).put (some 147) (.bool true)).put (some 148) (.bool false)).put (some 149) (.bool false)).put (some 150) (.bool false) → Q .normal a' w') :
    (Code.region 31 kids31e_ops true).wp Try.prog Q a w := by
  refine wp_region_noPanic ?_
  refine wp_region_held_drew (S := fun w' => S w') (by kernel_rfl) (h0) (fun hHeld => ?_)
  refine wpAnyH_take (i := 0) (oi := kids31e_o0) (v := .string ka) rfl (by kernel_rfl) (by kernel_rfl) (by kernel_rfl) (fun _ _ _ h => h) (Or.inl ⟨by rfl, fun w1 hw => exec_move rfl t18⟩) hHeld ?_
  change wpAnyH _ _ _ _ _ _ _ (a.put (some 130) (.string ka)) _
  obtain ⟨a1, e1⟩ : ∃ act, act = a.put (some 130) (.string ka) := ⟨_, rfl⟩
  rw [← e1] at h ⊢
  have z1 := pz e1 hsz
  replace t18 := pk e1 t18 (by decide)
  replace t15 := pk e1 t15 (by decide)
  replace t12 := pk e1 t12 (by decide)
  replace t13 := pk e1 t13 (by decide)
  have t130 := pq e1 hsz (by decide)
  clear e1 hsz
  refine wpAnyH_take (i := 1) (oi := kids31e_o1) (v := .string kb) rfl (by kernel_rfl) (by kernel_rfl) (by kernel_rfl) (fun _ _ _ h => h) (Or.inl ⟨by rfl, fun w1 hw => exec_move rfl t15⟩) hHeld ?_
  change wpAnyH _ _ _ _ _ _ _ (a1.put (some 131) (.string kb)) _
  obtain ⟨a2, e2⟩ : ∃ act, act = a1.put (some 131) (.string kb) := ⟨_, rfl⟩
  rw [← e2] at h ⊢
  have z2 := pz e2 z1
  replace t18 := pk e2 t18 (by decide)
  replace t15 := pk e2 t15 (by decide)
  replace t12 := pk e2 t12 (by decide)
  replace t13 := pk e2 t13 (by decide)
  replace t130 := pk e2 t130 (by decide)
  have t131 := pq e2 z1 (by decide)
  clear e2 z1
  refine wpAnyH_take (i := 2) (oi := kids31e_o2) (v := .bool false) rfl (by kernel_rfl) (by kernel_rfl) (by kernel_rfl) (fun _ _ _ h => h) (Or.inl ⟨by rfl, fun w1 hw => exec_binOp rfl t130 t131 (G1 _) (G2 _ hw)⟩) hHeld ?_
  change wpAnyH _ _ _ _ _ _ _ (a2.put (some 132) (.bool false)) _
  obtain ⟨a3, e3⟩ : ∃ act, act = a2.put (some 132) (.bool false) := ⟨_, rfl⟩
  rw [← e3] at h ⊢
  have z3 := pz e3 z2
  replace t18 := pk e3 t18 (by decide)
  replace t15 := pk e3 t15 (by decide)
  replace t12 := pk e3 t12 (by decide)
  replace t13 := pk e3 t13 (by decide)
  clear t130 t131
  have t132 := pq e3 z2 (by decide)
  clear e3 z2
  refine wpAnyH_take (i := 3) (oi := kids31e_o3) (v := .bool false) rfl (by kernel_rfl) (by kernel_rfl) (by kernel_rfl) (fun _ _ _ h => h) (Or.inl ⟨by rfl, fun w1 hw => exec_move rfl t132⟩) hHeld ?_
  change wpAnyH _ _ _ _ _ _ _ (a3.put (some 133) (.bool false)) _
  obtain ⟨a4, e4⟩ : ∃ act, act = a3.put (some 133) (.bool false) := ⟨_, rfl⟩
  rw [← e4] at h ⊢
  have z4 := pz e4 z3
  replace t18 := pk e4 t18 (by decide)
  replace t15 := pk e4 t15 (by decide)
  replace t12 := pk e4 t12 (by decide)
  replace t13 := pk e4 t13 (by decide)
  clear t132
  have t133 := pq e4 z3 (by decide)
  clear e4 z3
  refine wpAnyH_take (i := 4) (oi := kids31e_o4) (v := .string ka) rfl (by kernel_rfl) (by kernel_rfl) (by kernel_rfl) (fun _ _ _ h => h) (Or.inl ⟨by simp [Region.wanted, yielded, kids31e_ops, kids31e_o4, kids31e_o3, tget z4 (by decide) t133], fun w1 hw => exec_move rfl t18⟩) hHeld ?_
  change wpAnyH _ _ _ _ _ _ _ (a4.put (some 134) (.string ka)) _
  obtain ⟨a5, e5⟩ : ∃ act, act = a4.put (some 134) (.string ka) := ⟨_, rfl⟩
  rw [← e5] at h ⊢
  have z5 := pz e5 z4
  replace t15 := pk e5 t15 (by decide)
  replace t12 := pk e5 t12 (by decide)
  replace t13 := pk e5 t13 (by decide)
  replace t133 := pk e5 t133 (by decide)
  clear t18
  have t134 := pq e5 z4 (by decide)
  clear e5 z4
  refine wpAnyH_take (i := 5) (oi := kids31e_o5) (v := .string kb) rfl (by kernel_rfl) (by kernel_rfl) (by kernel_rfl) (fun _ _ _ h => h) (Or.inl ⟨by simp [Region.wanted, yielded, kids31e_ops, kids31e_o5, kids31e_o3, tget z5 (by decide) t133], fun w1 hw => exec_move rfl t15⟩) hHeld ?_
  change wpAnyH _ _ _ _ _ _ _ (a5.put (some 135) (.string kb)) _
  obtain ⟨a6, e6⟩ : ∃ act, act = a5.put (some 135) (.string kb) := ⟨_, rfl⟩
  rw [← e6] at h ⊢
  have z6 := pz e6 z5
  replace t12 := pk e6 t12 (by decide)
  replace t13 := pk e6 t13 (by decide)
  replace t133 := pk e6 t133 (by decide)
  replace t134 := pk e6 t134 (by decide)
  clear t15
  have t135 := pq e6 z5 (by decide)
  clear e6 z5
  refine wpAnyH_take (i := 6) (oi := kids31e_o6) (v := .bool true) rfl (by kernel_rfl) (by kernel_rfl) (by kernel_rfl) (fun _ _ _ h => h) (Or.inl ⟨by simp [Region.wanted, yielded, kids31e_ops, kids31e_o6, kids31e_o3, tget z6 (by decide) t133], fun w1 hw => exec_binOp rfl t134 t135 (G3 _) (G4 _ hw)⟩) hHeld ?_
  change wpAnyH _ _ _ _ _ _ _ (a6.put (some 136) (.bool true)) _
  obtain ⟨a7, e7⟩ : ∃ act, act = a6.put (some 136) (.bool true) := ⟨_, rfl⟩
  rw [← e7] at h ⊢
  have z7 := pz e7 z6
  replace t12 := pk e7 t12 (by decide)
  replace t13 := pk e7 t13 (by decide)
  replace t133 := pk e7 t133 (by decide)
  clear t134 t135
  have t136 := pq e7 z6 (by decide)
  clear e7 z6
  refine wpAnyH_take (i := 7) (oi := kids31e_o7) (v := .bool true) rfl (by kernel_rfl) (by kernel_rfl) (by kernel_rfl) (fun _ _ _ h => h) (Or.inl ⟨by simp [Region.wanted, yielded, kids31e_ops, kids31e_o7, kids31e_o3, tget z7 (by decide) t133], fun w1 hw => exec_move rfl t136⟩) hHeld ?_
  change wpAnyH _ _ _ _ _ _ _ (a7.put (some 137) (.bool true)) _
  obtain ⟨a8, e8⟩ : ∃ act, act = a7.put (some 137) (.bool true) := ⟨_, rfl⟩
  rw [← e8] at h ⊢
  have z8 := pz e8 z7
  replace t12 := pk e8 t12 (by decide)
  replace t13 := pk e8 t13 (by decide)
  replace t133 := pk e8 t133 (by decide)
  clear t136
  have t137 := pq e8 z7 (by decide)
  clear e8 z7
  refine wpAnyH_take (i := 8) (oi := kids31e_o8) (v := lv) rfl (by kernel_rfl) (by kernel_rfl) (by kernel_rfl) (fun _ _ _ h => h) (Or.inl ⟨by simp [Region.wanted, yielded, kids31e_ops, kids31e_o8, kids31e_o7, tget z8 (by decide) t137], fun w1 hw => exec_move rfl t12⟩) hHeld ?_
  change wpAnyH _ _ _ _ _ _ _ (a8.put (some 138) (lv)) _
  obtain ⟨a9, e9⟩ : ∃ act, act = a8.put (some 138) (lv) := ⟨_, rfl⟩
  rw [← e9] at h ⊢
  have z9 := pz e9 z8
  replace t12 := pk e9 t12 (by decide)
  replace t13 := pk e9 t13 (by decide)
  replace t133 := pk e9 t133 (by decide)
  replace t137 := pk e9 t137 (by decide)
  have t138 := pq e9 z8 (by decide)
  clear e9 z8
  refine wpAnyH_take (i := 9) (oi := kids31e_o9) (v := iv) rfl (by kernel_rfl) (by kernel_rfl) (by kernel_rfl) (fun _ _ _ h => h) (Or.inl ⟨by simp [Region.wanted, yielded, kids31e_ops, kids31e_o9, kids31e_o7, tget z9 (by decide) t137], fun w1 hw => exec_move rfl t13⟩) hHeld ?_
  change wpAnyH _ _ _ _ _ _ _ (a9.put (some 139) (iv)) _
  obtain ⟨a10, e10⟩ : ∃ act, act = a9.put (some 139) (iv) := ⟨_, rfl⟩
  rw [← e10] at h ⊢
  have z10 := pz e10 z9
  replace t12 := pk e10 t12 (by decide)
  replace t13 := pk e10 t13 (by decide)
  replace t133 := pk e10 t133 (by decide)
  replace t137 := pk e10 t137 (by decide)
  replace t138 := pk e10 t138 (by decide)
  have t139 := pq e10 z9 (by decide)
  clear e10 z9
  refine wpAnyH_take (i := 10) (oi := kids31e_o10) (v := jv) rfl (by kernel_rfl) (by kernel_rfl) (by kernel_rfl) (fun _ _ _ h => h) (Or.inl ⟨by simp [Region.wanted, yielded, kids31e_ops, kids31e_o10, kids31e_o7, tget z10 (by decide) t137], fun w1 hw => exec_binOp rfl t139 rfl (G5 _) (G6 _ hw)⟩) hHeld ?_
  change wpAnyH _ _ _ _ _ _ _ (a10.put (some 140) (jv)) _
  obtain ⟨a11, e11⟩ : ∃ act, act = a10.put (some 140) (jv) := ⟨_, rfl⟩
  rw [← e11] at h ⊢
  have z11 := pz e11 z10
  replace t12 := pk e11 t12 (by decide)
  replace t13 := pk e11 t13 (by decide)
  replace t133 := pk e11 t133 (by decide)
  replace t137 := pk e11 t137 (by decide)
  replace t138 := pk e11 t138 (by decide)
  clear t139
  have t140 := pq e11 z10 (by decide)
  clear e11 z10
  refine wpAnyH_take (i := 11) (oi := kids31e_o11) (v := pj) rfl (by kernel_rfl) (by kernel_rfl) (by kernel_rfl) (fun _ _ _ h => h) (Or.inl ⟨by simp [Region.wanted, yielded, kids31e_ops, kids31e_o11, kids31e_o7, tget z11 (by decide) t137], fun w1 hw => exec_indexAt rfl t138 t140 (G7 _)⟩) hHeld ?_
  change wpAnyH _ _ _ _ _ _ _ (a11.put (some 141) (pj)) _
  obtain ⟨a12, e12⟩ : ∃ act, act = a11.put (some 141) (pj) := ⟨_, rfl⟩
  rw [← e12] at h ⊢
  have z12 := pz e12 z11
  replace t12 := pk e12 t12 (by decide)
  replace t13 := pk e12 t13 (by decide)
  replace t133 := pk e12 t133 (by decide)
  replace t137 := pk e12 t137 (by decide)
  clear t138 t140
  have t141 := pq e12 z11 (by decide)
  clear e12 z11
  refine wpAnyH_take (i := 12) (oi := kids31e_o12) (v := yv) rfl (by kernel_rfl) (by kernel_rfl) (by kernel_rfl) (fun _ _ _ h => h) (Or.inl ⟨by simp [Region.wanted, yielded, kids31e_ops, kids31e_o12, kids31e_o7, tget z12 (by decide) t137], fun w1 hw => exec_load rfl t141 (G8 _ hw)⟩) hHeld ?_
  change wpAnyH _ _ _ _ _ _ _ (a12.put (some 142) (yv)) _
  obtain ⟨a13, e13⟩ : ∃ act, act = a12.put (some 142) (yv) := ⟨_, rfl⟩
  rw [← e13] at h ⊢
  have z13 := pz e13 z12
  replace t12 := pk e13 t12 (by decide)
  replace t13 := pk e13 t13 (by decide)
  replace t133 := pk e13 t133 (by decide)
  replace t137 := pk e13 t137 (by decide)
  clear t141
  have t142 := pq e13 z12 (by decide)
  clear e13 z12
  refine wpAnyH_take (i := 13) (oi := kids31e_o13) (v := lv) rfl (by kernel_rfl) (by kernel_rfl) (by kernel_rfl) (fun _ _ _ h => h) (Or.inl ⟨by simp [Region.wanted, yielded, kids31e_ops, kids31e_o13, kids31e_o7, tget z13 (by decide) t137], fun w1 hw => exec_move rfl t12⟩) hHeld ?_
  change wpAnyH _ _ _ _ _ _ _ (a13.put (some 143) (lv)) _
  obtain ⟨a14, e14⟩ : ∃ act, act = a13.put (some 143) (lv) := ⟨_, rfl⟩
  rw [← e14] at h ⊢
  have z14 := pz e14 z13
  replace t13 := pk e14 t13 (by decide)
  replace t133 := pk e14 t133 (by decide)
  replace t137 := pk e14 t137 (by decide)
  replace t142 := pk e14 t142 (by decide)
  clear t12
  have t143 := pq e14 z13 (by decide)
  clear e14 z13
  refine wpAnyH_take (i := 14) (oi := kids31e_o14) (v := iv) rfl (by kernel_rfl) (by kernel_rfl) (by kernel_rfl) (fun _ _ _ h => h) (Or.inl ⟨by simp [Region.wanted, yielded, kids31e_ops, kids31e_o14, kids31e_o7, tget z14 (by decide) t137], fun w1 hw => exec_move rfl t13⟩) hHeld ?_
  change wpAnyH _ _ _ _ _ _ _ (a14.put (some 144) (iv)) _
  obtain ⟨a15, e15⟩ : ∃ act, act = a14.put (some 144) (iv) := ⟨_, rfl⟩
  rw [← e15] at h ⊢
  have z15 := pz e15 z14
  replace t133 := pk e15 t133 (by decide)
  replace t137 := pk e15 t137 (by decide)
  replace t142 := pk e15 t142 (by decide)
  replace t143 := pk e15 t143 (by decide)
  clear t13
  have t144 := pq e15 z14 (by decide)
  clear e15 z14
  refine wpAnyH_take (i := 15) (oi := kids31e_o15) (v := pi) rfl (by kernel_rfl) (by kernel_rfl) (by kernel_rfl) (fun _ _ _ h => h) (Or.inl ⟨by simp [Region.wanted, yielded, kids31e_ops, kids31e_o15, kids31e_o7, tget z15 (by decide) t137], fun w1 hw => exec_indexAt rfl t143 t144 (G9 _)⟩) hHeld ?_
  change wpAnyH _ _ _ _ _ _ _ (a15.put (some 145) (pi)) _
  obtain ⟨a16, e16⟩ : ∃ act, act = a15.put (some 145) (pi) := ⟨_, rfl⟩
  rw [← e16] at h ⊢
  have z16 := pz e16 z15
  replace t133 := pk e16 t133 (by decide)
  replace t137 := pk e16 t137 (by decide)
  replace t142 := pk e16 t142 (by decide)
  clear t143 t144
  have t145 := pq e16 z15 (by decide)
  clear e16 z15
  refine wpAnyH_take (i := 16) (oi := kids31e_o16) (v := xv) rfl (by kernel_rfl) (by kernel_rfl) (by kernel_rfl) (fun _ _ _ h => h) (Or.inl ⟨by simp [Region.wanted, yielded, kids31e_ops, kids31e_o16, kids31e_o7, tget z16 (by decide) t137], fun w1 hw => exec_load rfl t145 (G10 _ hw)⟩) hHeld ?_
  change wpAnyH _ _ _ _ _ _ _ (a16.put (some 146) (xv)) _
  obtain ⟨a17, e17⟩ : ∃ act, act = a16.put (some 146) (xv) := ⟨_, rfl⟩
  rw [← e17] at h ⊢
  have z17 := pz e17 z16
  replace t133 := pk e17 t133 (by decide)
  replace t137 := pk e17 t137 (by decide)
  replace t142 := pk e17 t142 (by decide)
  clear t145
  have t146 := pq e17 z16 (by decide)
  clear e17 z16
  refine wpAnyH_ready (rs := [17]) (by kernel_rfl) (by simp) ?_
  refine AllReadyH.cons (o := kids31e_o17) rfl (fun K hK => ?_) AllReadyH.nil
  rw [if_pos (by simp [Region.wanted, yielded, kids31e_ops, kids31e_o17, kids31e_o7, tget z17 (by decide) t137])]
  unfold kids31e_o17 at hK ⊢
  go_simp
  refine (CL _ hHeld).mono ?_
  rintro e x18 ⟨rfl, hs⟩
  try go_wp2_with fail
  skip
  refine hK.out _ _ (hs) (fun hHeld => ?_)
  clear hK K
  change wpAnyH _ _ _ _ _ _ _ (a17.put (some 147) (.bool true)) _
  obtain ⟨a18, e18⟩ : ∃ act, act = a17.put (some 147) (.bool true) := ⟨_, rfl⟩
  rw [← e18] at h ⊢
  have z18 := pz e18 z17
  replace t133 := pk e18 t133 (by decide)
  replace t137 := pk e18 t137 (by decide)
  clear t142 t146
  have t147 := pq e18 z17 (by decide)
  clear e18 z17
  refine wpAnyH_take (i := 18) (oi := kids31e_o18) (v := .bool false) rfl (by kernel_rfl) (by kernel_rfl) (by kernel_rfl) (fun _ _ _ h => h) (Or.inl ⟨by simp [Region.wanted, yielded, kids31e_ops, kids31e_o18, kids31e_o7, tget z18 (by decide) t137], fun w1 hw => by unfold kids31e_o18; go_simp⟩) hHeld ?_
  change wpAnyH _ _ _ _ _ _ _ (a18.put (some 148) (.bool false)) _
  obtain ⟨a19, e19⟩ : ∃ act, act = a18.put (some 148) (.bool false) := ⟨_, rfl⟩
  rw [← e19] at h ⊢
  have z19 := pz e19 z18
  replace t133 := pk e19 t133 (by decide)
  replace t137 := pk e19 t137 (by decide)
  clear t147
  have t148 := pq e19 z18 (by decide)
  clear e19 z18
  refine wpAnyH_take (i := 19) (oi := kids31e_o19) (v := .bool false) rfl (by kernel_rfl) (by kernel_rfl) (by kernel_rfl) (fun _ _ _ h => h) (Or.inl ⟨by simp [Region.wanted, yielded, kids31e_ops, kids31e_o19, kids31e_o3, tget z19 (by decide) t133], fun w1 hw => by unfold kids31e_o19; go_simp⟩) hHeld ?_
  change wpAnyH _ _ _ _ _ _ _ (a19.put (some 149) (.bool false)) _
  obtain ⟨a20, e20⟩ : ∃ act, act = a19.put (some 149) (.bool false) := ⟨_, rfl⟩
  rw [← e20] at h ⊢
  have z20 := pz e20 z19
  replace t133 := pk e20 t133 (by decide)
  clear t137 t148
  have t149 := pq e20 z19 (by decide)
  clear e20 z19
  refine wpAnyH_take (i := 20) (oi := kids31e_o20) (v := .bool false) rfl (by kernel_rfl) (by kernel_rfl) (by kernel_rfl) (fun _ _ _ h => h) (Or.inl ⟨by rfl, fun w1 hw => by unfold kids31e_o20; go_simp⟩) hHeld ?_
  change wpAnyH _ _ _ _ _ _ _ (a20.put (some 150) (.bool false)) _
  obtain ⟨a21, e21⟩ : ∃ act, act = a20.put (some 150) (.bool false) := ⟨_, rfl⟩
  rw [← e21] at h ⊢
  have z21 := pz e21 z20
  clear t133 t149
  clear e21 z20
  exact wpAnyH_done (by kernel_rfl) (NoPanic.normal (h _ _ (hHeld) rfl)) _
def kids19_o0 : Oper := { dst := some 58, op := Op.move (Operand.tmp 3), type := 24, pos := "outright.go:132", after := #[], guard := none }
def kids19_o1 : Oper := { dst := some 59, op := Op.move (Operand.tmp 4), type := 30, pos := "outright.go:132", after := #[], guard := none }
def kids19_o2 : Oper := { dst := some 60, op := Op.move (Operand.tmp 6), type := 3, pos := "outright.go:132", after := #[], guard := none }
def kids19_o3 : Oper := { dst := some 61, op := Op.indexAddr 30 (Operand.tmp 59) (Operand.tmp 60), type := 0, pos := "outright.go:132", after := #[{ on := 1, ground := Ground.data }, { on := 2, ground := Ground.data }], guard := none }
def kids19_o4 : Oper := { dst := some 62, op := Op.load 35 (Operand.tmp 61), type := 35, pos := "outright.go:132", after := #[{ on := 3, ground := Ground.data }], guard := none }
def kids19_o5 : Oper := { dst := some 63, op := Op.call { callee := Callee.value (Operand.func 14), args := #[Operand.tmp 58, Operand.tmp 62], argTypes := #[24, 35] }, type := 36, pos := "outright.go:132", after := #[{ on := 0, ground := Ground.data }, { on := 4, ground := Ground.data }], guard := none }
def kids19_o6 : Oper := { dst := some 57, op := Op.move (Operand.tmp 63), type := 36, pos := "outright.go:132", after := #[{ on := 5, ground := Ground.data }], guard := none }
def kids19_o7 : Oper := { dst := some 64, op := Op.extract (Operand.tmp 57) 0, type := 35, pos := "outright.go:132", after := #[{ on := 6, ground := Ground.data }], guard := none }
def kids19_o8 : Oper := { dst := some 65, op := Op.extract (Operand.tmp 57) 1, type := 9, pos := "outright.go:132", after := #[{ on := 6, ground := Ground.data }, { on := 11, ground := Ground.gcOnly Departure.lateStores }], guard := none }
def kids19_o9 : Oper := { dst := some 66, op := Op.extract (Operand.tmp 57) 2, type := 4, pos := "outright.go:132", after := #[{ on := 6, ground := Ground.data }, { on := 12, ground := Ground.gcOnly Departure.lateStores }], guard := none }
def kids19_o10 : Oper := { dst := some 9, op := Op.alloc 35, type := 0, pos := "outright.go:132", after := #[], guard := none }
def kids19_o11 : Oper := { dst := none, op := Op.store 35 (Operand.tmp 9) (Operand.tmp 64), type := 0, pos := "outright.go:132", after := #[{ on := 10, ground := Ground.data }, { on := 7, ground := Ground.data }, { on := 5, ground := Ground.chain }, { on := 0, ground := Ground.phase }, { on := 1, ground := Ground.phase }, { on := 2, ground := Ground.phase }, { on := 3, ground := Ground.phase }, { on := 4, ground := Ground.phase }, { on := 5, ground := Ground.phase }, { on := 6, ground := Ground.phase }, { on := 7, ground := Ground.phase }, { on := 8, ground := Ground.textOnly Departure.lateStores }, { on := 9, ground := Ground.textOnly Departure.lateStores }, { on := 10, ground := Ground.phase }], guard := none }
def kids19_o12 : Oper := { dst := some 10, op := Op.assign (Operand.tmp 65), type := 9, pos := "outright.go:132", after := #[{ on := 8, ground := Ground.data }, { on := 11, ground := Ground.chain }, { on := 0, ground := Ground.phase }, { on := 1, ground := Ground.phase }, { on := 2, ground := Ground.phase }, { on := 3, ground := Ground.phase }, { on := 4, ground := Ground.phase }, { on := 5, ground := Ground.phase }, { on := 6, ground := Ground.phase }, { on := 7, ground := Ground.phase }, { on := 8, ground := Ground.phase }, { on := 9, ground := Ground.textOnly Departure.lateStores }, { on := 10, ground := Ground.phase }, { on := 11, ground := Ground.phase }], guard := none }
def kids19_o13 : Oper := { dst := some 11, op := Op.assign (Operand.tmp 66), type := 4, pos := "outright.go:132", after := #[{ on := 9, ground := Ground.data }, { on := 12, ground := Ground.chain }, { on := 0, ground := Ground.phase }, { on := 1, ground := Ground.phase }, { on := 2, ground := Ground.phase }, { on := 3, ground := Ground.phase }, { on := 4, ground := Ground.phase }, { on := 5, ground := Ground.phase }, { on := 6, ground := Ground.phase }, { on := 7, ground := Ground.phase }, { on := 8, ground := Ground.phase }, { on := 9, ground := Ground.phase }, { on := 10, ground := Ground.phase }, { on := 11, ground := Ground.phase }, { on := 12, ground := Ground.phase }], guard := none }
def kids19_ops : Array Oper := #[kids19_o0, kids19_o1, kids19_o2, kids19_o3, kids19_o4, kids19_o5, kids19_o6, kids19_o7, kids19_o8, kids19_o9, kids19_o10, kids19_o11, kids19_o12, kids19_o13]
set_option maxRecDepth 100000 in
set_option maxHeartbeats 4000000 in
theorem kids19 (tv lv iv pi xv uv kv okv : Value) (Fin : Value → World → Prop) (a : Act) (w : World) (Q : Exit → Act → World → Prop) (hsz : a.tmps.size = 183)
    (t3 : a.tmps.getD 3 undef = tv)
    (t4 : a.tmps.getD 4 undef = lv)
    (t6 : a.tmps.getD 6 undef = iv)
    (CU : Calls Try.prog 14 #[tv, xv] w fun e w' => e = .returned (.tuple #[uv, kv, okv]) ∧ ∃ p w1 w2, (Instr.alloc 35 true (.tuple #[])).run Try.prog w' = .ok p w1 ∧ (Instr.storeAt 35 p uv).run Try.prog w1 = .ok () w2 ∧ Fin p w2)
    (G1 : ∀ W, (Instr.indexAt 30 (lv) (iv)).run Try.prog W = .ok (pi) W)
    (G2 : (Instr.loadAt 35 (pi)).run Try.prog w = .ok (xv) w)
    (h : ∀ (p : Value) (a' : Act) (w' : World), Fin p w' → a' = (((((((((((((a).put (some 58) (tv)).put (some 59) (lv)).put (some 60) (iv)).put (some 61) (pi)).put (some 62) (xv)).put (some 63) (.tuple #[uv, kv, okv])).put (some 57) (.tuple #[uv, kv, okv])).put (some 64) (uv)).put (some 65) (kv)).put (some 66) (okv)).put (some 9) (p)).put (some 10) (kv)).put (some 11) (okv) → Q .normal a' w') :
    (Code.region 19 kids19_ops false).wp Try.prog Q a w := by
  refine wp_region_list ?_
  change wpList _ _ _ [kids19_o0, kids19_o1, kids19_o2, kids19_o3, kids19_o4, kids19_o5, kids19_o6, kids19_o7, kids19_o8, kids19_o9, kids19_o10, kids19_o11, kids19_o12, kids19_o13] _ _
  refine qv (v := tv) (by rfl) (exec_move rfl t3) (fun a0 e0 => ?_)
  rw [← e0] at h
  have z0 := pz e0 hsz
  replace t4 := pk e0 t4
  replace t6 := pk e0 t6
  clear t3
  have t58 := pq e0 hsz
  clear e0 hsz
  refine qv (v := lv) (by rfl) (exec_move rfl t4) (fun a1 e1 => ?_)
  rw [← e1] at h
  have z1 := pz e1 z0
  replace t6 := pk e1 t6
  replace t58 := pk e1 t58
  clear t4
  have t59 := pq e1 z0
  clear e1 z0
  refine qv (v := iv) (by rfl) (exec_move rfl t6) (fun a2 e2 => ?_)
  rw [← e2] at h
  have z2 := pz e2 z1
  replace t58 := pk e2 t58
  replace t59 := pk e2 t59
  clear t6
  have t60 := pq e2 z1
  clear e2 z1
  refine qv (v := pi) (by rfl) (exec_indexAt rfl t59 t60 (G1 _)) (fun a3 e3 => ?_)
  rw [← e3] at h
  have z3 := pz e3 z2
  replace t58 := pk e3 t58
  clear t59 t60
  have t61 := pq e3 z2
  clear e3 z2
  refine qv (v := xv) (by rfl) (exec_load rfl t61 G2) (fun a4 e4 => ?_)
  rw [← e4] at h
  have z4 := pz e4 z3
  replace t58 := pk e4 t58
  clear t61
  have t62 := pq e4 z3
  clear e4 z3
  refine qc (by rfl) (by unfold kids19_o5; go_simp) (CU) (fun e x5 hx => ?_)
  obtain ⟨rfl, p, w1, w2, EA, ES, HF⟩ := hx
  replace h := h p
  refine ⟨_, rfl, fun a5 e5 => ?_⟩
  rw [← e5] at h
  have z5 := pz e5 z4
  clear t58 t62
  have t63 := pq e5 z4
  clear e5 z4
  refine qv (v := .tuple #[uv, kv, okv]) (by rfl) (exec_move rfl t63) (fun a6 e6 => ?_)
  rw [← e6] at h
  have z6 := pz e6 z5
  clear t63
  have t57 := pq e6 z5
  clear e6 z5
  refine qv (v := uv) (by rfl) (exec_extract rfl t57 rfl) (fun a7 e7 => ?_)
  rw [← e7] at h
  have z7 := pz e7 z6
  replace t57 := pk e7 t57
  have t64 := pq e7 z6
  clear e7 z6
  refine qv (v := kv) (by rfl) (exec_extract rfl t57 rfl) (fun a8 e8 => ?_)
  rw [← e8] at h
  have z8 := pz e8 z7
  replace t57 := pk e8 t57
  replace t64 := pk e8 t64
  have t65 := pq e8 z7
  clear e8 z7
  refine qv (v := okv) (by rfl) (exec_extract rfl t57 rfl) (fun a9 e9 => ?_)
  rw [← e9] at h
  have z9 := pz e9 z8
  replace t64 := pk e9 t64
  replace t65 := pk e9 t65
  clear t57
  have t66 := pq e9 z8
  clear e9 z8
  refine qk (v := p) (by rfl) (exec_alloc rfl EA) (fun a10 e10 => ?_)
  rw [← e10] at h
  have z10 := pz e10 z9
  replace t64 := pk e10 t64
  replace t65 := pk e10 t65
  replace t66 := pk e10 t66
  have t9 := pq e10 z9
  clear e10 z9
  refine qs (by rfl) (exec_store rfl t9 t64 ES) ?_
  refine qv (v := kv) (by rfl) (exec_assign rfl t65) (fun a12 e12 => ?_)
  rw [← e12] at h
  have z12 := pz e12 z10
  replace t66 := pk e12 t66
  clear t64 t65 t9
  clear e12 z10
  refine qv (v := okv) (by rfl) (exec_assign rfl t66) (fun a13 e13 => ?_)
  rw [← e13] at h
  have z13 := pz e13 z12
  clear t66
  clear e13 z12
  exact wpList_nil (h _ _ (HF) rfl)
def kids26_o0 : Oper := { dst := some 98, op := Op.move (Operand.tmp 3), type := 24, pos := "outright.go:138", after := #[], guard := none }
def kids26_o1 : Oper := { dst := some 99, op := Op.move (Operand.tmp 12), type := 30, pos := "outright.go:138", after := #[], guard := none }
def kids26_o2 : Oper := { dst := some 100, op := Op.move (Operand.tmp 13), type := 3, pos := "outright.go:138", after := #[], guard := none }
def kids26_o3 : Oper := { dst := some 101, op := Op.indexAddr 30 (Operand.tmp 99) (Operand.tmp 100), type := 0, pos := "outright.go:138", after := #[{ on := 1, ground := Ground.data }, { on := 2, ground := Ground.data }], guard := none }
def kids26_o4 : Oper := { dst := some 102, op := Op.load 35 (Operand.tmp 101), type := 35, pos := "outright.go:138", after := #[{ on := 3, ground := Ground.data }], guard := none }
def kids26_o5 : Oper := { dst := some 103, op := Op.call { callee := Callee.value (Operand.func 14), args := #[Operand.tmp 98, Operand.tmp 102], argTypes := #[24, 35] }, type := 36, pos := "outright.go:138", after := #[{ on := 0, ground := Ground.data }, { on := 4, ground := Ground.data }], guard := none }
def kids26_o6 : Oper := { dst := some 97, op := Op.move (Operand.tmp 103), type := 36, pos := "outright.go:138", after := #[{ on := 5, ground := Ground.data }], guard := none }
def kids26_o7 : Oper := { dst := some 104, op := Op.extract (Operand.tmp 97) 0, type := 35, pos := "outright.go:138", after := #[{ on := 6, ground := Ground.data }], guard := none }
def kids26_o8 : Oper := { dst := some 105, op := Op.extract (Operand.tmp 97) 1, type := 9, pos := "outright.go:138", after := #[{ on := 6, ground := Ground.data }, { on := 11, ground := Ground.gcOnly Departure.lateStores }], guard := none }
def kids26_o9 : Oper := { dst := some 106, op := Op.extract (Operand.tmp 97) 2, type := 4, pos := "outright.go:138", after := #[{ on := 6, ground := Ground.data }, { on := 12, ground := Ground.gcOnly Departure.lateStores }], guard := none }
def kids26_o10 : Oper := { dst := some 14, op := Op.alloc 35, type := 0, pos := "outright.go:138", after := #[], guard := none }
def kids26_o11 : Oper := { dst := none, op := Op.store 35 (Operand.tmp 14) (Operand.tmp 104), type := 0, pos := "outright.go:138", after := #[{ on := 10, ground := Ground.data }, { on := 7, ground := Ground.data }, { on := 5, ground := Ground.chain }, { on := 0, ground := Ground.phase }, { on := 1, ground := Ground.phase }, { on := 2, ground := Ground.phase }, { on := 3, ground := Ground.phase }, { on := 4, ground := Ground.phase }, { on := 5, ground := Ground.phase }, { on := 6, ground := Ground.phase }, { on := 7, ground := Ground.phase }, { on := 8, ground := Ground.textOnly Departure.lateStores }, { on := 9, ground := Ground.textOnly Departure.lateStores }, { on := 10, ground := Ground.phase }], guard := none }
def kids26_o12 : Oper := { dst := some 15, op := Op.assign (Operand.tmp 105), type := 9, pos := "outright.go:138", after := #[{ on := 8, ground := Ground.data }, { on := 11, ground := Ground.chain }, { on := 0, ground := Ground.phase }, { on := 1, ground := Ground.phase }, { on := 2, ground := Ground.phase }, { on := 3, ground := Ground.phase }, { on := 4, ground := Ground.phase }, { on := 5, ground := Ground.phase }, { on := 6, ground := Ground.phase }, { on := 7, ground := Ground.phase }, { on := 8, ground := Ground.phase }, { on := 9, ground := Ground.textOnly Departure.lateStores }, { on := 10, ground := Ground.phase }, { on := 11, ground := Ground.phase }], guard := none }
def kids26_o13 : Oper := { dst := some 16, op := Op.assign (Operand.tmp 106), type := 4, pos := "outright.go:138", after := #[{ on := 9, ground := Ground.data }, { on := 12, ground := Ground.chain }, { on := 0, ground := Ground.phase }, { on := 1, ground := Ground.phase }, { on := 2, ground := Ground.phase }, { on := 3, ground := Ground.phase }, { on := 4, ground := Ground.phase }, { on := 5, ground := Ground.phase }, { on := 6, ground := Ground.phase }, { on := 7, ground := Ground.phase }, { on := 8, ground := Ground.phase }, { on := 9, ground := Ground.phase }, { on := 10, ground := Ground.phase }, { on := 11, ground := Ground.phase }, { on := 12, ground := Ground.phase }], guard := none }
def kids26_ops : Array Oper := #[kids26_o0, kids26_o1, kids26_o2, kids26_o3, kids26_o4, kids26_o5, kids26_o6, kids26_o7, kids26_o8, kids26_o9, kids26_o10, kids26_o11, kids26_o12, kids26_o13]
set_option maxRecDepth 100000 in
set_option maxHeartbeats 4000000 in
theorem kids26 (tv lv iv pi xv uv kv okv : Value) (Fin : Value → World → Prop) (a : Act) (w : World) (Q : Exit → Act → World → Prop) (hsz : a.tmps.size = 183)
    (t3 : a.tmps.getD 3 undef = tv)
    (t12 : a.tmps.getD 12 undef = lv)
    (t13 : a.tmps.getD 13 undef = iv)
    (CU : Calls Try.prog 14 #[tv, xv] w fun e w' => e = .returned (.tuple #[uv, kv, okv]) ∧ ∃ p w1 w2, (Instr.alloc 35 true (.tuple #[])).run Try.prog w' = .ok p w1 ∧ (Instr.storeAt 35 p uv).run Try.prog w1 = .ok () w2 ∧ Fin p w2)
    (G1 : ∀ W, (Instr.indexAt 30 (lv) (iv)).run Try.prog W = .ok (pi) W)
    (G2 : (Instr.loadAt 35 (pi)).run Try.prog w = .ok (xv) w)
    (h : ∀ (p : Value) (a' : Act) (w' : World), Fin p w' → a' = (((((((((((((a).put (some 98) (tv)).put (some 99) (lv)).put (some 100) (iv)).put (some 101) (pi)).put (some 102) (xv)).put (some 103) (.tuple #[uv, kv, okv])).put (some 97) (.tuple #[uv, kv, okv])).put (some 104) (uv)).put (some 105) (kv)).put (some 106) (okv)).put (some 14) (p)).put (some 15) (kv)).put (some 16) (okv) → Q .normal a' w') :
    (Code.region 26 kids26_ops false).wp Try.prog Q a w := by
  refine wp_region_list ?_
  change wpList _ _ _ [kids26_o0, kids26_o1, kids26_o2, kids26_o3, kids26_o4, kids26_o5, kids26_o6, kids26_o7, kids26_o8, kids26_o9, kids26_o10, kids26_o11, kids26_o12, kids26_o13] _ _
  refine qv (v := tv) (by rfl) (exec_move rfl t3) (fun a0 e0 => ?_)
  rw [← e0] at h
  have z0 := pz e0 hsz
  replace t12 := pk e0 t12
  replace t13 := pk e0 t13
  clear t3
  have t98 := pq e0 hsz
  clear e0 hsz
  refine qv (v := lv) (by rfl) (exec_move rfl t12) (fun a1 e1 => ?_)
  rw [← e1] at h
  have z1 := pz e1 z0
  replace t13 := pk e1 t13
  replace t98 := pk e1 t98
  clear t12
  have t99 := pq e1 z0
  clear e1 z0
  refine qv (v := iv) (by rfl) (exec_move rfl t13) (fun a2 e2 => ?_)
  rw [← e2] at h
  have z2 := pz e2 z1
  replace t98 := pk e2 t98
  replace t99 := pk e2 t99
  clear t13
  have t100 := pq e2 z1
  clear e2 z1
  refine qv (v := pi) (by rfl) (exec_indexAt rfl t99 t100 (G1 _)) (fun a3 e3 => ?_)
  rw [← e3] at h
  have z3 := pz e3 z2
  replace t98 := pk e3 t98
  clear t99 t100
  have t101 := pq e3 z2
  clear e3 z2
  refine qv (v := xv) (by rfl) (exec_load rfl t101 G2) (fun a4 e4 => ?_)
  rw [← e4] at h
  have z4 := pz e4 z3
  replace t98 := pk e4 t98
  clear t101
  have t102 := pq e4 z3
  clear e4 z3
  refine qc (by rfl) (by unfold kids26_o5; go_simp) (CU) (fun e x5 hx => ?_)
  obtain ⟨rfl, p, w1, w2, EA, ES, HF⟩ := hx
  replace h := h p
  refine ⟨_, rfl, fun a5 e5 => ?_⟩
  rw [← e5] at h
  have z5 := pz e5 z4
  clear t98 t102
  have t103 := pq e5 z4
  clear e5 z4
  refine qv (v := .tuple #[uv, kv, okv]) (by rfl) (exec_move rfl t103) (fun a6 e6 => ?_)
  rw [← e6] at h
  have z6 := pz e6 z5
  clear t103
  have t97 := pq e6 z5
  clear e6 z5
  refine qv (v := uv) (by rfl) (exec_extract rfl t97 rfl) (fun a7 e7 => ?_)
  rw [← e7] at h
  have z7 := pz e7 z6
  replace t97 := pk e7 t97
  have t104 := pq e7 z6
  clear e7 z6
  refine qv (v := kv) (by rfl) (exec_extract rfl t97 rfl) (fun a8 e8 => ?_)
  rw [← e8] at h
  have z8 := pz e8 z7
  replace t97 := pk e8 t97
  replace t104 := pk e8 t104
  have t105 := pq e8 z7
  clear e8 z7
  refine qv (v := okv) (by rfl) (exec_extract rfl t97 rfl) (fun a9 e9 => ?_)
  rw [← e9] at h
  have z9 := pz e9 z8
  replace t104 := pk e9 t104
  replace t105 := pk e9 t105
  clear t97
  have t106 := pq e9 z8
  clear e9 z8
  refine qk (v := p) (by rfl) (exec_alloc rfl EA) (fun a10 e10 => ?_)
  rw [← e10] at h
  have z10 := pz e10 z9
  replace t104 := pk e10 t104
  replace t105 := pk e10 t105
  replace t106 := pk e10 t106
  have t14 := pq e10 z9
  clear e10 z9
  refine qs (by rfl) (exec_store rfl t14 t104 ES) ?_
  refine qv (v := kv) (by rfl) (exec_assign rfl t105) (fun a12 e12 => ?_)
  rw [← e12] at h
  have z12 := pz e12 z10
  replace t106 := pk e12 t106
  clear t104 t105 t14
  clear e12 z10
  refine qv (v := okv) (by rfl) (exec_assign rfl t106) (fun a13 e13 => ?_)
  rw [← e13] at h
  have z13 := pz e13 z12
  clear t106
  clear e13 z12
  exact wpList_nil (h _ _ (HF) rfl)
def kids30_o0 : Oper := { dst := some 120, op := Op.move (Operand.tmp 3), type := 24, pos := "outright.go:143", after := #[], guard := none }
def kids30_o1 : Oper := { dst := some 121, op := Op.move (Operand.tmp 12), type := 30, pos := "outright.go:143", after := #[], guard := none }
def kids30_o2 : Oper := { dst := some 122, op := Op.move (Operand.tmp 13), type := 3, pos := "outright.go:143", after := #[], guard := none }
def kids30_o3 : Oper := { dst := some 123, op := Op.binOp BinOp.sub 3 (Operand.tmp 122) (Operand.const (Value.int IntKind.i64 1)) 3, type := 3, pos := "outright.go:143", after := #[{ on := 2, ground := Ground.data }], guard := none }
def kids30_o4 : Oper := { dst := some 124, op := Op.indexAddr 30 (Operand.tmp 121) (Operand.tmp 123), type := 0, pos := "outright.go:143", after := #[{ on := 1, ground := Ground.data }, { on := 3, ground := Ground.data }], guard := none }
def kids30_o5 : Oper := { dst := some 125, op := Op.load 35 (Operand.tmp 124), type := 35, pos := "outright.go:143", after := #[{ on := 4, ground := Ground.data }], guard := none }
def kids30_o6 : Oper := { dst := some 126, op := Op.call { callee := Callee.value (Operand.func 14), args := #[Operand.tmp 120, Operand.tmp 125], argTypes := #[24, 35] }, type := 36, pos := "outright.go:143", after := #[{ on := 0, ground := Ground.data }, { on := 5, ground := Ground.data }], guard := none }
def kids30_o7 : Oper := { dst := some 119, op := Op.move (Operand.tmp 126), type := 36, pos := "outright.go:143", after := #[{ on := 6, ground := Ground.data }], guard := none }
def kids30_o8 : Oper := { dst := some 127, op := Op.extract (Operand.tmp 119) 0, type := 35, pos := "outright.go:143", after := #[{ on := 7, ground := Ground.data }], guard := none }
def kids30_o9 : Oper := { dst := some 128, op := Op.extract (Operand.tmp 119) 1, type := 9, pos := "outright.go:143", after := #[{ on := 7, ground := Ground.data }, { on := 12, ground := Ground.gcOnly Departure.lateStores }], guard := none }
def kids30_o10 : Oper := { dst := some 129, op := Op.extract (Operand.tmp 119) 2, type := 4, pos := "outright.go:143", after := #[{ on := 7, ground := Ground.data }, { on := 13, ground := Ground.gcOnly Departure.lateStores }], guard := none }
def kids30_o11 : Oper := { dst := some 17, op := Op.alloc 35, type := 0, pos := "outright.go:143", after := #[], guard := none }
def kids30_o12 : Oper := { dst := none, op := Op.store 35 (Operand.tmp 17) (Operand.tmp 127), type := 0, pos := "outright.go:143", after := #[{ on := 11, ground := Ground.data }, { on := 8, ground := Ground.data }, { on := 6, ground := Ground.chain }, { on := 0, ground := Ground.phase }, { on := 1, ground := Ground.phase }, { on := 2, ground := Ground.phase }, { on := 3, ground := Ground.phase }, { on := 4, ground := Ground.phase }, { on := 5, ground := Ground.phase }, { on := 6, ground := Ground.phase }, { on := 7, ground := Ground.phase }, { on := 8, ground := Ground.phase }, { on := 9, ground := Ground.textOnly Departure.lateStores }, { on := 10, ground := Ground.textOnly Departure.lateStores }, { on := 11, ground := Ground.phase }], guard := none }
def kids30_o13 : Oper := { dst := some 18, op := Op.assign (Operand.tmp 128), type := 9, pos := "outright.go:143", after := #[{ on := 9, ground := Ground.data }, { on := 12, ground := Ground.chain }, { on := 0, ground := Ground.phase }, { on := 1, ground := Ground.phase }, { on := 2, ground := Ground.phase }, { on := 3, ground := Ground.phase }, { on := 4, ground := Ground.phase }, { on := 5, ground := Ground.phase }, { on := 6, ground := Ground.phase }, { on := 7, ground := Ground.phase }, { on := 8, ground := Ground.phase }, { on := 9, ground := Ground.phase }, { on := 10, ground := Ground.textOnly Departure.lateStores }, { on := 11, ground := Ground.phase }, { on := 12, ground := Ground.phase }], guard := none }
def kids30_o14 : Oper := { dst := some 19, op := Op.assign (Operand.tmp 129), type := 4, pos := "outright.go:143", after := #[{ on := 10, ground := Ground.data }, { on := 13, ground := Ground.chain }, { on := 0, ground := Ground.phase }, { on := 1, ground := Ground.phase }, { on := 2, ground := Ground.phase }, { on := 3, ground := Ground.phase }, { on := 4, ground := Ground.phase }, { on := 5, ground := Ground.phase }, { on := 6, ground := Ground.phase }, { on := 7, ground := Ground.phase }, { on := 8, ground := Ground.phase }, { on := 9, ground := Ground.phase }, { on := 10, ground := Ground.phase }, { on := 11, ground := Ground.phase }, { on := 12, ground := Ground.phase }, { on := 13, ground := Ground.phase }], guard := none }
def kids30_ops : Array Oper := #[kids30_o0, kids30_o1, kids30_o2, kids30_o3, kids30_o4, kids30_o5, kids30_o6, kids30_o7, kids30_o8, kids30_o9, kids30_o10, kids30_o11, kids30_o12, kids30_o13, kids30_o14]
set_option maxRecDepth 100000 in
set_option maxHeartbeats 4000000 in
theorem kids30 (tv lv iv jv pi xv uv kv okv : Value) (Fin : Value → World → Prop) (a : Act) (w : World) (Q : Exit → Act → World → Prop) (hsz : a.tmps.size = 183)
    (t3 : a.tmps.getD 3 undef = tv)
    (t12 : a.tmps.getD 12 undef = lv)
    (t13 : a.tmps.getD 13 undef = iv)
    (CU : Calls Try.prog 14 #[tv, xv] w fun e w' => e = .returned (.tuple #[uv, kv, okv]) ∧ ∃ p w1 w2, (Instr.alloc 35 true (.tuple #[])).run Try.prog w' = .ok p w1 ∧ (Instr.storeAt 35 p uv).run Try.prog w1 = .ok () w2 ∧ Fin p w2)
    (G1 : ∀ W, (eqGuard BinOp.sub 3 (Operand.tmp 122) (Operand.const (Value.int IntKind.i64 1)) (iv) (.int .i64 1)).run Try.prog W = .ok () W)
    (G2 : ∀ W, (binOp BinOp.sub 3 (iv) (.int .i64 1)).run Try.prog W = .ok (jv) W)
    (G3 : ∀ W, (Instr.indexAt 30 (lv) (jv)).run Try.prog W = .ok (pi) W)
    (G4 : (Instr.loadAt 35 (pi)).run Try.prog w = .ok (xv) w)
    (h : ∀ (p : Value) (a' : Act) (w' : World), Fin p w' → a' = ((((((((((((((a).put (some 120) (tv)).put (some 121) (lv)).put (some 122) (iv)).put (some 123) (jv)).put (some 124) (pi)).put (some 125) (xv)).put (some 126) (.tuple #[uv, kv, okv])).put (some 119) (.tuple #[uv, kv, okv])).put (some 127) (uv)).put (some 128) (kv)).put (some 129) (okv)).put (some 17) (p)).put (some 18) (kv)).put (some 19) (okv) → Q .normal a' w') :
    (Code.region 30 kids30_ops false).wp Try.prog Q a w := by
  refine wp_region_list ?_
  change wpList _ _ _ [kids30_o0, kids30_o1, kids30_o2, kids30_o3, kids30_o4, kids30_o5, kids30_o6, kids30_o7, kids30_o8, kids30_o9, kids30_o10, kids30_o11, kids30_o12, kids30_o13, kids30_o14] _ _
  refine qv (v := tv) (by rfl) (exec_move rfl t3) (fun a0 e0 => ?_)
  rw [← e0] at h
  have z0 := pz e0 hsz
  replace t12 := pk e0 t12
  replace t13 := pk e0 t13
  clear t3
  have t120 := pq e0 hsz
  clear e0 hsz
  refine qv (v := lv) (by rfl) (exec_move rfl t12) (fun a1 e1 => ?_)
  rw [← e1] at h
  have z1 := pz e1 z0
  replace t13 := pk e1 t13
  replace t120 := pk e1 t120
  clear t12
  have t121 := pq e1 z0
  clear e1 z0
  refine qv (v := iv) (by rfl) (exec_move rfl t13) (fun a2 e2 => ?_)
  rw [← e2] at h
  have z2 := pz e2 z1
  replace t120 := pk e2 t120
  replace t121 := pk e2 t121
  clear t13
  have t122 := pq e2 z1
  clear e2 z1
  refine qv (v := jv) (by rfl) (exec_binOp rfl t122 rfl (G1 _) (G2 _)) (fun a3 e3 => ?_)
  rw [← e3] at h
  have z3 := pz e3 z2
  replace t120 := pk e3 t120
  replace t121 := pk e3 t121
  clear t122
  have t123 := pq e3 z2
  clear e3 z2
  refine qv (v := pi) (by rfl) (exec_indexAt rfl t121 t123 (G3 _)) (fun a4 e4 => ?_)
  rw [← e4] at h
  have z4 := pz e4 z3
  replace t120 := pk e4 t120
  clear t121 t123
  have t124 := pq e4 z3
  clear e4 z3
  refine qv (v := xv) (by rfl) (exec_load rfl t124 G4) (fun a5 e5 => ?_)
  rw [← e5] at h
  have z5 := pz e5 z4
  replace t120 := pk e5 t120
  clear t124
  have t125 := pq e5 z4
  clear e5 z4
  refine qc (by rfl) (by unfold kids30_o6; go_simp) (CU) (fun e x6 hx => ?_)
  obtain ⟨rfl, p, w1, w2, EA, ES, HF⟩ := hx
  replace h := h p
  refine ⟨_, rfl, fun a6 e6 => ?_⟩
  rw [← e6] at h
  have z6 := pz e6 z5
  clear t120 t125
  have t126 := pq e6 z5
  clear e6 z5
  refine qv (v := .tuple #[uv, kv, okv]) (by rfl) (exec_move rfl t126) (fun a7 e7 => ?_)
  rw [← e7] at h
  have z7 := pz e7 z6
  clear t126
  have t119 := pq e7 z6
  clear e7 z6
  refine qv (v := uv) (by rfl) (exec_extract rfl t119 rfl) (fun a8 e8 => ?_)
  rw [← e8] at h
  have z8 := pz e8 z7
  replace t119 := pk e8 t119
  have t127 := pq e8 z7
  clear e8 z7
  refine qv (v := kv) (by rfl) (exec_extract rfl t119 rfl) (fun a9 e9 => ?_)
  rw [← e9] at h
  have z9 := pz e9 z8
  replace t119 := pk e9 t119
  replace t127 := pk e9 t127
  have t128 := pq e9 z8
  clear e9 z8
  refine qv (v := okv) (by rfl) (exec_extract rfl t119 rfl) (fun a10 e10 => ?_)
  rw [← e10] at h
  have z10 := pz e10 z9
  replace t127 := pk e10 t127
  replace t128 := pk e10 t128
  clear t119
  have t129 := pq e10 z9
  clear e10 z9
  refine qk (v := p) (by rfl) (exec_alloc rfl EA) (fun a11 e11 => ?_)
  rw [← e11] at h
  have z11 := pz e11 z10
  replace t127 := pk e11 t127
  replace t128 := pk e11 t128
  replace t129 := pk e11 t129
  have t17 := pq e11 z10
  clear e11 z10
  refine qs (by rfl) (exec_store rfl t17 t127 ES) ?_
  refine qv (v := kv) (by rfl) (exec_assign rfl t128) (fun a13 e13 => ?_)
  rw [← e13] at h
  have z13 := pz e13 z11
  replace t129 := pk e13 t129
  clear t127 t128 t17
  clear e13 z11
  refine qv (v := okv) (by rfl) (exec_assign rfl t129) (fun a14 e14 => ?_)
  rw [← e14] at h
  have z14 := pz e14 z13
  clear t129
  clear e14 z13
  exact wpList_nil (h _ _ (HF) rfl)
def kids20a_o0 : Oper := { dst := some 67, op := Op.move (Operand.tmp 3), type := 24, pos := "outright.go:133", after := #[], guard := none }
def kids20a_o1 : Oper := { dst := some 68, op := Op.move (Operand.tmp 4), type := 30, pos := "outright.go:133", after := #[], guard := none }
def kids20a_o2 : Oper := { dst := some 69, op := Op.move (Operand.tmp 6), type := 3, pos := "outright.go:133", after := #[], guard := none }
def kids20a_o3 : Oper := { dst := some 70, op := Op.indexAddr 30 (Operand.tmp 68) (Operand.tmp 69), type := 0, pos := "outright.go:133", after := #[{ on := 1, ground := Ground.data }, { on := 2, ground := Ground.data }], guard := none }
def kids20a_o4 : Oper := { dst := some 71, op := Op.load 35 (Operand.tmp 70), type := 35, pos := "outright.go:133", after := #[{ on := 3, ground := Ground.data }], guard := none }
def kids20a_o5 : Oper := { dst := some 72, op := Op.call { callee := Callee.value (Operand.func 18), args := #[Operand.tmp 67, Operand.tmp 71], argTypes := #[24, 35] }, type := 3, pos := "outright.go:133", after := #[{ on := 0, ground := Ground.data }, { on := 4, ground := Ground.data }], guard := none }
def kids20a_o6 : Oper := { dst := some 73, op := Op.binOp BinOp.geq 3 (Operand.tmp 72) (Operand.const (Value.int IntKind.i64 0)) 3, type := 4, pos := "outright.go:133", after := #[{ on := 5, ground := Ground.data }], guard := none }
def kids20a_o7 : Oper := { dst := some 74, op := Op.move (Operand.tmp 73), type := 4, pos := "outright.go:133", after := #[{ on := 6, ground := Ground.data }, { on := 5, ground := Ground.chain }], guard := none }
def kids20a_o8 : Oper := { dst := some 75, op := Op.move (Operand.tmp 11), type := 4, pos := "outright.go:133", after := #[{ on := 7, ground := Ground.guard }], guard := some (7, true) }
def kids20a_o9 : Oper := { dst := some 76, op := Op.unOp UnOp.not 4 (Operand.tmp 75), type := 4, pos := "outright.go:133", after := #[{ on := 8, ground := Ground.data }, { on := 7, ground := Ground.guard }], guard := some (7, true) }
def kids20a_o10 : Oper := { dst := some 77, op := Op.pick (Operand.tmp 74) (Operand.tmp 76) (Operand.const (Value.bool false)), type := 4, pos := "outright.go:133", after := #[{ on := 7, ground := Ground.data }, { on := 9, ground := Ground.data }], guard := none }
def kids20a_ops : Array Oper := #[kids20a_o0, kids20a_o1, kids20a_o2, kids20a_o3, kids20a_o4, kids20a_o5, kids20a_o6, kids20a_o7, kids20a_o8, kids20a_o9, kids20a_o10]
set_option maxRecDepth 100000 in
set_option maxHeartbeats 4000000 in
theorem kids20a (tv lv iv pi xv dv : Value) (Fin : World → Prop) (a : Act) (w : World) (Q : Exit → Act → World → Prop) (hsz : a.tmps.size = 183)
    (t3 : a.tmps.getD 3 undef = tv)
    (t4 : a.tmps.getD 4 undef = lv)
    (t6 : a.tmps.getD 6 undef = iv)
    (t11 : a.tmps.getD 11 undef = .bool false)
    (CD : Calls Try.prog 18 #[tv, xv] w fun e w' => e = .returned dv ∧ Fin w')
    (G1 : ∀ W, (Instr.indexAt 30 (lv) (iv)).run Try.prog W = .ok (pi) W)
    (G2 : (Instr.loadAt 35 (pi)).run Try.prog w = .ok (xv) w)
    (G3 : ∀ W, (eqGuard BinOp.geq 3 (Operand.tmp 72) (Operand.const (Value.int IntKind.i64 0)) (dv) (.int .i64 0)).run Try.prog W = .ok () W)
    (G4 : ∀ W, (binOp BinOp.geq 3 (dv) (.int .i64 0)).run Try.prog W = .ok (.bool true) W)
    (h : ∀ (a' : Act) (w' : World), Fin w' → a' = (((((((((((a).put (some 67) (tv)).put (some 68) (lv)).put (some 69) (iv)).put (some 70) (pi)).put (some 71) (xv)).put (some 72) (dv)).put (some 73) (.bool true)).put (some 74) (.bool true)).put (some 75) (.bool false)).put (some 76) (.bool true)).put (some 77) (.bool true) → Q .normal a' w') :
    (Code.region 20 kids20a_ops false).wp Try.prog Q a w := by
  refine wp_region_list ?_
  change wpList _ _ _ [kids20a_o0, kids20a_o1, kids20a_o2, kids20a_o3, kids20a_o4, kids20a_o5, kids20a_o6, kids20a_o7, kids20a_o8, kids20a_o9, kids20a_o10] _ _
  refine qv (v := tv) (by rfl) (exec_move rfl t3) (fun a0 e0 => ?_)
  rw [← e0] at h
  have z0 := pz e0 hsz
  replace t4 := pk e0 t4
  replace t6 := pk e0 t6
  replace t11 := pk e0 t11
  clear t3
  have t67 := pq e0 hsz
  clear e0 hsz
  refine qv (v := lv) (by rfl) (exec_move rfl t4) (fun a1 e1 => ?_)
  rw [← e1] at h
  have z1 := pz e1 z0
  replace t6 := pk e1 t6
  replace t11 := pk e1 t11
  replace t67 := pk e1 t67
  clear t4
  have t68 := pq e1 z0
  clear e1 z0
  refine qv (v := iv) (by rfl) (exec_move rfl t6) (fun a2 e2 => ?_)
  rw [← e2] at h
  have z2 := pz e2 z1
  replace t11 := pk e2 t11
  replace t67 := pk e2 t67
  replace t68 := pk e2 t68
  clear t6
  have t69 := pq e2 z1
  clear e2 z1
  refine qv (v := pi) (by rfl) (exec_indexAt rfl t68 t69 (G1 _)) (fun a3 e3 => ?_)
  rw [← e3] at h
  have z3 := pz e3 z2
  replace t11 := pk e3 t11
  replace t67 := pk e3 t67
  clear t68 t69
  have t70 := pq e3 z2
  clear e3 z2
  refine qv (v := xv) (by rfl) (exec_load rfl t70 G2) (fun a4 e4 => ?_)
  rw [← e4] at h
  have z4 := pz e4 z3
  replace t11 := pk e4 t11
  replace t67 := pk e4 t67
  clear t70
  have t71 := pq e4 z3
  clear e4 z3
  refine qc (by rfl) (by unfold kids20a_o5; go_simp) (CD) (fun e x5 hx => ?_)
  obtain ⟨rfl, HF⟩ := hx
  refine ⟨_, rfl, fun a5 e5 => ?_⟩
  rw [← e5] at h
  have z5 := pz e5 z4
  replace t11 := pk e5 t11
  clear t67 t71
  have t72 := pq e5 z4
  clear e5 z4
  refine qv (v := .bool true) (by rfl) (exec_binOp rfl t72 rfl (G3 _) (G4 _)) (fun a6 e6 => ?_)
  rw [← e6] at h
  have z6 := pz e6 z5
  replace t11 := pk e6 t11
  clear t72
  have t73 := pq e6 z5
  clear e6 z5
  refine qv (v := .bool true) (by rfl) (exec_move rfl t73) (fun a7 e7 => ?_)
  rw [← e7] at h
  have z7 := pz e7 z6
  replace t11 := pk e7 t11
  clear t73
  have t74 := pq e7 z6
  clear e7 z6
  refine qv (v := .bool false) (by simp [Region.wanted, yielded, kids20a_ops, kids20a_o8, kids20a_o7, tget z7 (by decide) t74]) (exec_move rfl t11) (fun a8 e8 => ?_)
  rw [← e8] at h
  have z8 := pz e8 z7
  replace t74 := pk e8 t74
  clear t11
  have t75 := pq e8 z7
  clear e8 z7
  refine qv (v := .bool true) (by simp [Region.wanted, yielded, kids20a_ops, kids20a_o9, kids20a_o7, tget z8 (by decide) t74]) (by unfold kids20a_o9; go_simp) (fun a9 e9 => ?_)
  rw [← e9] at h
  have z9 := pz e9 z8
  replace t74 := pk e9 t74
  clear t75
  have t76 := pq e9 z8
  clear e9 z8
  refine qv (v := .bool true) (by rfl) (by unfold kids20a_o10; go_simp) (fun a10 e10 => ?_)
  rw [← e10] at h
  have z10 := pz e10 z9
  clear t74 t76
  clear e10 z9
  exact wpList_nil (h _ _ (HF) rfl)
def kids20b_o0 : Oper := { dst := some 67, op := Op.move (Operand.tmp 3), type := 24, pos := "outright.go:133", after := #[], guard := none }
def kids20b_o1 : Oper := { dst := some 68, op := Op.move (Operand.tmp 4), type := 30, pos := "outright.go:133", after := #[], guard := none }
def kids20b_o2 : Oper := { dst := some 69, op := Op.move (Operand.tmp 6), type := 3, pos := "outright.go:133", after := #[], guard := none }
def kids20b_o3 : Oper := { dst := some 70, op := Op.indexAddr 30 (Operand.tmp 68) (Operand.tmp 69), type := 0, pos := "outright.go:133", after := #[{ on := 1, ground := Ground.data }, { on := 2, ground := Ground.data }], guard := none }
def kids20b_o4 : Oper := { dst := some 71, op := Op.load 35 (Operand.tmp 70), type := 35, pos := "outright.go:133", after := #[{ on := 3, ground := Ground.data }], guard := none }
def kids20b_o5 : Oper := { dst := some 72, op := Op.call { callee := Callee.value (Operand.func 18), args := #[Operand.tmp 67, Operand.tmp 71], argTypes := #[24, 35] }, type := 3, pos := "outright.go:133", after := #[{ on := 0, ground := Ground.data }, { on := 4, ground := Ground.data }], guard := none }
def kids20b_o6 : Oper := { dst := some 73, op := Op.binOp BinOp.geq 3 (Operand.tmp 72) (Operand.const (Value.int IntKind.i64 0)) 3, type := 4, pos := "outright.go:133", after := #[{ on := 5, ground := Ground.data }], guard := none }
def kids20b_o7 : Oper := { dst := some 74, op := Op.move (Operand.tmp 73), type := 4, pos := "outright.go:133", after := #[{ on := 6, ground := Ground.data }, { on := 5, ground := Ground.chain }], guard := none }
def kids20b_o8 : Oper := { dst := some 75, op := Op.move (Operand.tmp 11), type := 4, pos := "outright.go:133", after := #[{ on := 7, ground := Ground.guard }], guard := some (7, true) }
def kids20b_o9 : Oper := { dst := some 76, op := Op.unOp UnOp.not 4 (Operand.tmp 75), type := 4, pos := "outright.go:133", after := #[{ on := 8, ground := Ground.data }, { on := 7, ground := Ground.guard }], guard := some (7, true) }
def kids20b_o10 : Oper := { dst := some 77, op := Op.pick (Operand.tmp 74) (Operand.tmp 76) (Operand.const (Value.bool false)), type := 4, pos := "outright.go:133", after := #[{ on := 7, ground := Ground.data }, { on := 9, ground := Ground.data }], guard := none }
def kids20b_ops : Array Oper := #[kids20b_o0, kids20b_o1, kids20b_o2, kids20b_o3, kids20b_o4, kids20b_o5, kids20b_o6, kids20b_o7, kids20b_o8, kids20b_o9, kids20b_o10]
set_option maxRecDepth 100000 in
set_option maxHeartbeats 4000000 in
theorem kids20b (tv lv iv pi xv dv : Value) (Fin : World → Prop) (a : Act) (w : World) (Q : Exit → Act → World → Prop) (hsz : a.tmps.size = 183)
    (t3 : a.tmps.getD 3 undef = tv)
    (t4 : a.tmps.getD 4 undef = lv)
    (t6 : a.tmps.getD 6 undef = iv)
    (t11 : a.tmps.getD 11 undef = .bool true)
    (CD : Calls Try.prog 18 #[tv, xv] w fun e w' => e = .returned dv ∧ Fin w')
    (G1 : ∀ W, (Instr.indexAt 30 (lv) (iv)).run Try.prog W = .ok (pi) W)
    (G2 : (Instr.loadAt 35 (pi)).run Try.prog w = .ok (xv) w)
    (G3 : ∀ W, (eqGuard BinOp.geq 3 (Operand.tmp 72) (Operand.const (Value.int IntKind.i64 0)) (dv) (.int .i64 0)).run Try.prog W = .ok () W)
    (G4 : ∀ W, (binOp BinOp.geq 3 (dv) (.int .i64 0)).run Try.prog W = .ok (.bool true) W)
    (h : ∀ (a' : Act) (w' : World), Fin w' → a' = (((((((((((a).put (some 67) (tv)).put (some 68) (lv)).put (some 69) (iv)).put (some 70) (pi)).put (some 71) (xv)).put (some 72) (dv)).put (some 73) (.bool true)).put (some 74) (.bool true)).put (some 75) (.bool true)).put (some 76) (.bool false)).put (some 77) (.bool false) → Q .normal a' w') :
    (Code.region 20 kids20b_ops false).wp Try.prog Q a w := by
  refine wp_region_list ?_
  change wpList _ _ _ [kids20b_o0, kids20b_o1, kids20b_o2, kids20b_o3, kids20b_o4, kids20b_o5, kids20b_o6, kids20b_o7, kids20b_o8, kids20b_o9, kids20b_o10] _ _
  refine qv (v := tv) (by rfl) (exec_move rfl t3) (fun a0 e0 => ?_)
  rw [← e0] at h
  have z0 := pz e0 hsz
  replace t4 := pk e0 t4
  replace t6 := pk e0 t6
  replace t11 := pk e0 t11
  clear t3
  have t67 := pq e0 hsz
  clear e0 hsz
  refine qv (v := lv) (by rfl) (exec_move rfl t4) (fun a1 e1 => ?_)
  rw [← e1] at h
  have z1 := pz e1 z0
  replace t6 := pk e1 t6
  replace t11 := pk e1 t11
  replace t67 := pk e1 t67
  clear t4
  have t68 := pq e1 z0
  clear e1 z0
  refine qv (v := iv) (by rfl) (exec_move rfl t6) (fun a2 e2 => ?_)
  rw [← e2] at h
  have z2 := pz e2 z1
  replace t11 := pk e2 t11
  replace t67 := pk e2 t67
  replace t68 := pk e2 t68
  clear t6
  have t69 := pq e2 z1
  clear e2 z1
  refine qv (v := pi) (by rfl) (exec_indexAt rfl t68 t69 (G1 _)) (fun a3 e3 => ?_)
  rw [← e3] at h
  have z3 := pz e3 z2
  replace t11 := pk e3 t11
  replace t67 := pk e3 t67
  clear t68 t69
  have t70 := pq e3 z2
  clear e3 z2
  refine qv (v := xv) (by rfl) (exec_load rfl t70 G2) (fun a4 e4 => ?_)
  rw [← e4] at h
  have z4 := pz e4 z3
  replace t11 := pk e4 t11
  replace t67 := pk e4 t67
  clear t70
  have t71 := pq e4 z3
  clear e4 z3
  refine qc (by rfl) (by unfold kids20b_o5; go_simp) (CD) (fun e x5 hx => ?_)
  obtain ⟨rfl, HF⟩ := hx
  refine ⟨_, rfl, fun a5 e5 => ?_⟩
  rw [← e5] at h
  have z5 := pz e5 z4
  replace t11 := pk e5 t11
  clear t67 t71
  have t72 := pq e5 z4
  clear e5 z4
  refine qv (v := .bool true) (by rfl) (exec_binOp rfl t72 rfl (G3 _) (G4 _)) (fun a6 e6 => ?_)
  rw [← e6] at h
  have z6 := pz e6 z5
  replace t11 := pk e6 t11
  clear t72
  have t73 := pq e6 z5
  clear e6 z5
  refine qv (v := .bool true) (by rfl) (exec_move rfl t73) (fun a7 e7 => ?_)
  rw [← e7] at h
  have z7 := pz e7 z6
  replace t11 := pk e7 t11
  clear t73
  have t74 := pq e7 z6
  clear e7 z6
  refine qv (v := .bool true) (by simp [Region.wanted, yielded, kids20b_ops, kids20b_o8, kids20b_o7, tget z7 (by decide) t74]) (exec_move rfl t11) (fun a8 e8 => ?_)
  rw [← e8] at h
  have z8 := pz e8 z7
  replace t74 := pk e8 t74
  clear t11
  have t75 := pq e8 z7
  clear e8 z7
  refine qv (v := .bool false) (by simp [Region.wanted, yielded, kids20b_ops, kids20b_o9, kids20b_o7, tget z8 (by decide) t74]) (by unfold kids20b_o9; go_simp) (fun a9 e9 => ?_)
  rw [← e9] at h
  have z9 := pz e9 z8
  replace t74 := pk e9 t74
  clear t75
  have t76 := pq e9 z8
  clear e9 z8
  refine qv (v := .bool false) (by rfl) (by unfold kids20b_o10; go_simp) (fun a10 e10 => ?_)
  rw [← e10] at h
  have z10 := pz e10 z9
  clear t74 t76
  clear e10 z9
  exact wpList_nil (h _ _ (HF) rfl)
def kids20c_o0 : Oper := { dst := some 67, op := Op.move (Operand.tmp 3), type := 24, pos := "outright.go:133", after := #[], guard := none }
def kids20c_o1 : Oper := { dst := some 68, op := Op.move (Operand.tmp 4), type := 30, pos := "outright.go:133", after := #[], guard := none }
def kids20c_o2 : Oper := { dst := some 69, op := Op.move (Operand.tmp 6), type := 3, pos := "outright.go:133", after := #[], guard := none }
def kids20c_o3 : Oper := { dst := some 70, op := Op.indexAddr 30 (Operand.tmp 68) (Operand.tmp 69), type := 0, pos := "outright.go:133", after := #[{ on := 1, ground := Ground.data }, { on := 2, ground := Ground.data }], guard := none }
def kids20c_o4 : Oper := { dst := some 71, op := Op.load 35 (Operand.tmp 70), type := 35, pos := "outright.go:133", after := #[{ on := 3, ground := Ground.data }], guard := none }
def kids20c_o5 : Oper := { dst := some 72, op := Op.call { callee := Callee.value (Operand.func 18), args := #[Operand.tmp 67, Operand.tmp 71], argTypes := #[24, 35] }, type := 3, pos := "outright.go:133", after := #[{ on := 0, ground := Ground.data }, { on := 4, ground := Ground.data }], guard := none }
def kids20c_o6 : Oper := { dst := some 73, op := Op.binOp BinOp.geq 3 (Operand.tmp 72) (Operand.const (Value.int IntKind.i64 0)) 3, type := 4, pos := "outright.go:133", after := #[{ on := 5, ground := Ground.data }], guard := none }
def kids20c_o7 : Oper := { dst := some 74, op := Op.move (Operand.tmp 73), type := 4, pos := "outright.go:133", after := #[{ on := 6, ground := Ground.data }, { on := 5, ground := Ground.chain }], guard := none }
def kids20c_o8 : Oper := { dst := some 75, op := Op.move (Operand.tmp 11), type := 4, pos := "outright.go:133", after := #[{ on := 7, ground := Ground.guard }], guard := some (7, true) }
def kids20c_o9 : Oper := { dst := some 76, op := Op.unOp UnOp.not 4 (Operand.tmp 75), type := 4, pos := "outright.go:133", after := #[{ on := 8, ground := Ground.data }, { on := 7, ground := Ground.guard }], guard := some (7, true) }
def kids20c_o10 : Oper := { dst := some 77, op := Op.pick (Operand.tmp 74) (Operand.tmp 76) (Operand.const (Value.bool false)), type := 4, pos := "outright.go:133", after := #[{ on := 7, ground := Ground.data }, { on := 9, ground := Ground.data }], guard := none }
def kids20c_ops : Array Oper := #[kids20c_o0, kids20c_o1, kids20c_o2, kids20c_o3, kids20c_o4, kids20c_o5, kids20c_o6, kids20c_o7, kids20c_o8, kids20c_o9, kids20c_o10]
set_option maxRecDepth 100000 in
set_option maxHeartbeats 4000000 in
theorem kids20c (tv lv iv pi xv dv : Value) (Fin : World → Prop) (a : Act) (w : World) (Q : Exit → Act → World → Prop) (hsz : a.tmps.size = 183)
    (t3 : a.tmps.getD 3 undef = tv)
    (t4 : a.tmps.getD 4 undef = lv)
    (t6 : a.tmps.getD 6 undef = iv)
    (t11 : a.tmps.getD 11 undef = .bool false)
    (CD : Calls Try.prog 18 #[tv, xv] w fun e w' => e = .returned dv ∧ Fin w')
    (G1 : ∀ W, (Instr.indexAt 30 (lv) (iv)).run Try.prog W = .ok (pi) W)
    (G2 : (Instr.loadAt 35 (pi)).run Try.prog w = .ok (xv) w)
    (G3 : ∀ W, (eqGuard BinOp.geq 3 (Operand.tmp 72) (Operand.const (Value.int IntKind.i64 0)) (dv) (.int .i64 0)).run Try.prog W = .ok () W)
    (G4 : ∀ W, (binOp BinOp.geq 3 (dv) (.int .i64 0)).run Try.prog W = .ok (.bool false) W)
    (h : ∀ (a' : Act) (w' : World), Fin w' → a' = (((((((((((a).put (some 67) (tv)).put (some 68) (lv)).put (some 69) (iv)).put (some 70) (pi)).put (some 71) (xv)).put (some 72) (dv)).put (some 73) (.bool false)).put (some 74) (.bool false)).put (some 75) (undef)).put (some 76) (undef)).put (some 77) (.bool false) → Q .normal a' w') :
    (Code.region 20 kids20c_ops false).wp Try.prog Q a w := by
  refine wp_region_list ?_
  change wpList _ _ _ [kids20c_o0, kids20c_o1, kids20c_o2, kids20c_o3, kids20c_o4, kids20c_o5, kids20c_o6, kids20c_o7, kids20c_o8, kids20c_o9, kids20c_o10] _ _
  refine qv (v := tv) (by rfl) (exec_move rfl t3) (fun a0 e0 => ?_)
  rw [← e0] at h
  have z0 := pz e0 hsz
  replace t4 := pk e0 t4
  replace t6 := pk e0 t6
  replace t11 := pk e0 t11
  clear t3
  have t67 := pq e0 hsz
  clear e0 hsz
  refine qv (v := lv) (by rfl) (exec_move rfl t4) (fun a1 e1 => ?_)
  rw [← e1] at h
  have z1 := pz e1 z0
  replace t6 := pk e1 t6
  replace t11 := pk e1 t11
  replace t67 := pk e1 t67
  clear t4
  have t68 := pq e1 z0
  clear e1 z0
  refine qv (v := iv) (by rfl) (exec_move rfl t6) (fun a2 e2 => ?_)
  rw [← e2] at h
  have z2 := pz e2 z1
  replace t11 := pk e2 t11
  replace t67 := pk e2 t67
  replace t68 := pk e2 t68
  clear t6
  have t69 := pq e2 z1
  clear e2 z1
  refine qv (v := pi) (by rfl) (exec_indexAt rfl t68 t69 (G1 _)) (fun a3 e3 => ?_)
  rw [← e3] at h
  have z3 := pz e3 z2
  replace t11 := pk e3 t11
  replace t67 := pk e3 t67
  clear t68 t69
  have t70 := pq e3 z2
  clear e3 z2
  refine qv (v := xv) (by rfl) (exec_load rfl t70 G2) (fun a4 e4 => ?_)
  rw [← e4] at h
  have z4 := pz e4 z3
  replace t11 := pk e4 t11
  replace t67 := pk e4 t67
  clear t70
  have t71 := pq e4 z3
  clear e4 z3
  refine qc (by rfl) (by unfold kids20c_o5; go_simp) (CD) (fun e x5 hx => ?_)
  obtain ⟨rfl, HF⟩ := hx
  refine ⟨_, rfl, fun a5 e5 => ?_⟩
  rw [← e5] at h
  have z5 := pz e5 z4
  replace t11 := pk e5 t11
  clear t67 t71
  have t72 := pq e5 z4
  clear e5 z4
  refine qv (v := .bool false) (by rfl) (exec_binOp rfl t72 rfl (G3 _) (G4 _)) (fun a6 e6 => ?_)
  rw [← e6] at h
  have z6 := pz e6 z5
  replace t11 := pk e6 t11
  clear t72
  have t73 := pq e6 z5
  clear e6 z5
  refine qv (v := .bool false) (by rfl) (exec_move rfl t73) (fun a7 e7 => ?_)
  rw [← e7] at h
  have z7 := pz e7 z6
  replace t11 := pk e7 t11
  clear t73
  have t74 := pq e7 z6
  clear e7 z6
  refine qn (by simp [Region.wanted, yielded, kids20c_ops, kids20c_o8, kids20c_o7, tget z7 (by decide) t74]) (fun a8 e8 => ?_)
  rw [← e8] at h
  have z8 := pz e8 z7
  replace t74 := pk e8 t74
  clear t11
  have t75 := pq e8 z7
  clear e8 z7
  refine qn (by simp [Region.wanted, yielded, kids20c_ops, kids20c_o9, kids20c_o7, tget z8 (by decide) t74]) (fun a9 e9 => ?_)
  rw [← e9] at h
  have z9 := pz e9 z8
  replace t74 := pk e9 t74
  clear t75
  have t76 := pq e9 z8
  clear e9 z8
  refine qv (v := .bool false) (by rfl) (by unfold kids20c_o10; go_simp) (fun a10 e10 => ?_)
  rw [← e10] at h
  have z10 := pz e10 z9
  clear t74 t76
  clear e10 z9
  exact wpList_nil (h _ _ (HF) rfl)
def kids21_o0 : Oper := { dst := some 78, op := Op.move (Operand.tmp 5), type := 30, pos := "outright.go:134", after := #[], guard := none }
def kids21_o1 : Oper := { dst := some 79, op := Op.move (Operand.tmp 4), type := 30, pos := "outright.go:134", after := #[], guard := none }
def kids21_o2 : Oper := { dst := some 80, op := Op.move (Operand.tmp 6), type := 3, pos := "outright.go:134", after := #[], guard := none }
def kids21_o3 : Oper := { dst := some 81, op := Op.indexAddr 30 (Operand.tmp 79) (Operand.tmp 80), type := 0, pos := "outright.go:134", after := #[{ on := 1, ground := Ground.data }, { on := 2, ground := Ground.data }], guard := none }
def kids21_o4 : Oper := { dst := some 82, op := Op.load 35 (Operand.tmp 81), type := 35, pos := "outright.go:134", after := #[{ on := 3, ground := Ground.data }], guard := none }
def kids21_o5 : Oper := { dst := some 83, op := Op.buildSlice 30 1 #[(0, Operand.tmp 82)], type := 30, pos := "outright.go:134", after := #[{ on := 4, ground := Ground.data }], guard := none }
def kids21_o6 : Oper := { dst := some 84, op := Op.call { callee := Callee.builtin Builtin.append, args := #[Operand.tmp 78, Operand.tmp 83], argTypes := #[30, 30] }, type := 30, pos := "outright.go:134", after := #[{ on := 0, ground := Ground.data }, { on := 5, ground := Ground.data }], guard := none }
def kids21_o7 : Oper := { dst := some 5, op := Op.assign (Operand.tmp 84), type := 30, pos := "outright.go:134", after := #[{ on := 6, ground := Ground.data }, { on := 6, ground := Ground.chain }, { on := 0, ground := Ground.phase }, { on := 1, ground := Ground.phase }, { on := 2, ground := Ground.phase }, { on := 3, ground := Ground.phase }, { on := 4, ground := Ground.phase }, { on := 5, ground := Ground.phase }, { on := 6, ground := Ground.phase }], guard := none }
def kids21_ops : Array Oper := #[kids21_o0, kids21_o1, kids21_o2, kids21_o3, kids21_o4, kids21_o5, kids21_o6, kids21_o7]
set_option maxRecDepth 100000 in
set_option maxHeartbeats 4000000 in
theorem kids21 (av lv iv pi xv sv rv : Value) (w1 w2 : World) (a : Act) (w : World) (Q : Exit → Act → World → Prop) (hsz : a.tmps.size = 183)
    (t5 : a.tmps.getD 5 undef = av)
    (t4 : a.tmps.getD 4 undef = lv)
    (t6 : a.tmps.getD 6 undef = iv)
    (EB : (Instr.buildSlice 30 1 #[(0, xv)]).run Try.prog w = .ok sv w1) (EA : (Builtin.append_ #[30, 30] 30 #[av, sv]).run Try.prog w1 = .ok rv w2)
    (G1 : ∀ W, (Instr.indexAt 30 (lv) (iv)).run Try.prog W = .ok (pi) W)
    (G2 : (Instr.loadAt 35 (pi)).run Try.prog w = .ok (xv) w)
    (h : ∀ (a' : Act) (w' : World), w' = w2 → a' = ((((((((a).put (some 78) (av)).put (some 79) (lv)).put (some 80) (iv)).put (some 81) (pi)).put (some 82) (xv)).put (some 83) (sv)).put (some 84) (rv)).put (some 5) (rv) → Q .normal a' w') :
    (Code.region 21 kids21_ops false).wp Try.prog Q a w := by
  refine wp_region_list ?_
  change wpList _ _ _ [kids21_o0, kids21_o1, kids21_o2, kids21_o3, kids21_o4, kids21_o5, kids21_o6, kids21_o7] _ _
  refine qv (v := av) (by rfl) (exec_move rfl t5) (fun a0 e0 => ?_)
  rw [← e0] at h
  have z0 := pz e0 hsz
  replace t4 := pk e0 t4
  replace t6 := pk e0 t6
  clear t5
  have t78 := pq e0 hsz
  clear e0 hsz
  refine qv (v := lv) (by rfl) (exec_move rfl t4) (fun a1 e1 => ?_)
  rw [← e1] at h
  have z1 := pz e1 z0
  replace t6 := pk e1 t6
  replace t78 := pk e1 t78
  clear t4
  have t79 := pq e1 z0
  clear e1 z0
  refine qv (v := iv) (by rfl) (exec_move rfl t6) (fun a2 e2 => ?_)
  rw [← e2] at h
  have z2 := pz e2 z1
  replace t78 := pk e2 t78
  replace t79 := pk e2 t79
  clear t6
  have t80 := pq e2 z1
  clear e2 z1
  refine qv (v := pi) (by rfl) (exec_indexAt rfl t79 t80 (G1 _)) (fun a3 e3 => ?_)
  rw [← e3] at h
  have z3 := pz e3 z2
  replace t78 := pk e3 t78
  clear t79 t80
  have t81 := pq e3 z2
  clear e3 z2
  refine qv (v := xv) (by rfl) (exec_load rfl t81 G2) (fun a4 e4 => ?_)
  rw [← e4] at h
  have z4 := pz e4 z3
  replace t78 := pk e4 t78
  clear t81
  have t82 := pq e4 z3
  clear e4 z3
  refine qk (v := sv) (by rfl) (exec_buildSlice rfl t82 EB) (fun a5 e5 => ?_)
  rw [← e5] at h
  have z5 := pz e5 z4
  replace t78 := pk e5 t78
  clear t82
  have t83 := pq e5 z4
  clear e5 z4
  refine qk (v := rv) (by rfl) (exec_append rfl t78 t83 EA) (fun a6 e6 => ?_)
  rw [← e6] at h
  have z6 := pz e6 z5
  clear t78 t83
  have t84 := pq e6 z5
  clear e6 z5
  refine qv (v := rv) (by rfl) (exec_assign rfl t84) (fun a7 e7 => ?_)
  rw [← e7] at h
  have z7 := pz e7 z6
  clear t84
  clear e7 z6
  exact wpList_nil (h _ _ (rfl) rfl)
def kids33_o0 : Oper := { dst := some 151, op := Op.move (Operand.tmp 5), type := 30, pos := "outright.go:148", after := #[], guard := none }
def kids33_o1 : Oper := { dst := some 152, op := Op.move (Operand.tmp 12), type := 30, pos := "outright.go:148", after := #[], guard := none }
def kids33_o2 : Oper := { dst := some 153, op := Op.move (Operand.tmp 13), type := 3, pos := "outright.go:148", after := #[], guard := none }
def kids33_o3 : Oper := { dst := some 154, op := Op.indexAddr 30 (Operand.tmp 152) (Operand.tmp 153), type := 0, pos := "outright.go:148", after := #[{ on := 1, ground := Ground.data }, { on := 2, ground := Ground.data }], guard := none }
def kids33_o4 : Oper := { dst := some 155, op := Op.load 35 (Operand.tmp 154), type := 35, pos := "outright.go:148", after := #[{ on := 3, ground := Ground.data }], guard := none }
def kids33_o5 : Oper := { dst := some 156, op := Op.buildSlice 30 1 #[(0, Operand.tmp 155)], type := 30, pos := "outright.go:148", after := #[{ on := 4, ground := Ground.data }], guard := none }
def kids33_o6 : Oper := { dst := some 157, op := Op.call { callee := Callee.builtin Builtin.append, args := #[Operand.tmp 151, Operand.tmp 156], argTypes := #[30, 30] }, type := 30, pos := "outright.go:148", after := #[{ on := 0, ground := Ground.data }, { on := 5, ground := Ground.data }], guard := none }
def kids33_o7 : Oper := { dst := some 5, op := Op.assign (Operand.tmp 157), type := 30, pos := "outright.go:148", after := #[{ on := 6, ground := Ground.data }, { on := 6, ground := Ground.chain }, { on := 0, ground := Ground.phase }, { on := 1, ground := Ground.phase }, { on := 2, ground := Ground.phase }, { on := 3, ground := Ground.phase }, { on := 4, ground := Ground.phase }, { on := 5, ground := Ground.phase }, { on := 6, ground := Ground.phase }], guard := none }
def kids33_ops : Array Oper := #[kids33_o0, kids33_o1, kids33_o2, kids33_o3, kids33_o4, kids33_o5, kids33_o6, kids33_o7]
set_option maxRecDepth 100000 in
set_option maxHeartbeats 4000000 in
theorem kids33 (av lv iv pi xv sv rv : Value) (w1 w2 : World) (a : Act) (w : World) (Q : Exit → Act → World → Prop) (hsz : a.tmps.size = 183)
    (t5 : a.tmps.getD 5 undef = av)
    (t12 : a.tmps.getD 12 undef = lv)
    (t13 : a.tmps.getD 13 undef = iv)
    (EB : (Instr.buildSlice 30 1 #[(0, xv)]).run Try.prog w = .ok sv w1) (EA : (Builtin.append_ #[30, 30] 30 #[av, sv]).run Try.prog w1 = .ok rv w2)
    (G1 : ∀ W, (Instr.indexAt 30 (lv) (iv)).run Try.prog W = .ok (pi) W)
    (G2 : (Instr.loadAt 35 (pi)).run Try.prog w = .ok (xv) w)
    (h : ∀ (a' : Act) (w' : World), w' = w2 → a' = ((((((((a).put (some 151) (av)).put (some 152) (lv)).put (some 153) (iv)).put (some 154) (pi)).put (some 155) (xv)).put (some 156) (sv)).put (some 157) (rv)).put (some 5) (rv) → Q .normal a' w') :
    (Code.region 33 kids33_ops false).wp Try.prog Q a w := by
  refine wp_region_list ?_
  change wpList _ _ _ [kids33_o0, kids33_o1, kids33_o2, kids33_o3, kids33_o4, kids33_o5, kids33_o6, kids33_o7] _ _
  refine qv (v := av) (by rfl) (exec_move rfl t5) (fun a0 e0 => ?_)
  rw [← e0] at h
  have z0 := pz e0 hsz
  replace t12 := pk e0 t12
  replace t13 := pk e0 t13
  clear t5
  have t151 := pq e0 hsz
  clear e0 hsz
  refine qv (v := lv) (by rfl) (exec_move rfl t12) (fun a1 e1 => ?_)
  rw [← e1] at h
  have z1 := pz e1 z0
  replace t13 := pk e1 t13
  replace t151 := pk e1 t151
  clear t12
  have t152 := pq e1 z0
  clear e1 z0
  refine qv (v := iv) (by rfl) (exec_move rfl t13) (fun a2 e2 => ?_)
  rw [← e2] at h
  have z2 := pz e2 z1
  replace t151 := pk e2 t151
  replace t152 := pk e2 t152
  clear t13
  have t153 := pq e2 z1
  clear e2 z1
  refine qv (v := pi) (by rfl) (exec_indexAt rfl t152 t153 (G1 _)) (fun a3 e3 => ?_)
  rw [← e3] at h
  have z3 := pz e3 z2
  replace t151 := pk e3 t151
  clear t152 t153
  have t154 := pq e3 z2
  clear e3 z2
  refine qv (v := xv) (by rfl) (exec_load rfl t154 G2) (fun a4 e4 => ?_)
  rw [← e4] at h
  have z4 := pz e4 z3
  replace t151 := pk e4 t151
  clear t154
  have t155 := pq e4 z3
  clear e4 z3
  refine qk (v := sv) (by rfl) (exec_buildSlice rfl t155 EB) (fun a5 e5 => ?_)
  rw [← e5] at h
  have z5 := pz e5 z4
  replace t151 := pk e5 t151
  clear t155
  have t156 := pq e5 z4
  clear e5 z4
  refine qk (v := rv) (by rfl) (exec_append rfl t151 t156 EA) (fun a6 e6 => ?_)
  rw [← e6] at h
  have z6 := pz e6 z5
  clear t151 t156
  have t157 := pq e6 z5
  clear e6 z5
  refine qv (v := rv) (by rfl) (exec_assign rfl t157) (fun a7 e7 => ?_)
  rw [← e7] at h
  have z7 := pz e7 z6
  clear t157
  clear e7 z6
  exact wpList_nil (h _ _ (rfl) rfl)
def kids22_o0 : Oper := { dst := some 85, op := Op.move (Operand.tmp 3), type := 24, pos := "outright.go:136", after := #[], guard := none }
def kids22_o1 : Oper := { dst := some 86, op := Op.move (Operand.tmp 4), type := 30, pos := "outright.go:136", after := #[], guard := none }
def kids22_o2 : Oper := { dst := some 87, op := Op.move (Operand.tmp 6), type := 3, pos := "outright.go:136", after := #[], guard := none }
def kids22_o3 : Oper := { dst := some 88, op := Op.indexAddr 30 (Operand.tmp 86) (Operand.tmp 87), type := 0, pos := "outright.go:136", after := #[{ on := 1, ground := Ground.data }, { on := 2, ground := Ground.data }], guard := none }
def kids22_o4 : Oper := { dst := some 89, op := Op.load 35 (Operand.tmp 88), type := 35, pos := "outright.go:136", after := #[{ on := 3, ground := Ground.data }], guard := none }
def kids22_o5 : Oper := { dst := some 90, op := Op.call { callee := Callee.value (Operand.func 19), args := #[Operand.tmp 85, Operand.tmp 89], argTypes := #[24, 35] }, type := 30, pos := "outright.go:136", after := #[{ on := 0, ground := Ground.data }, { on := 4, ground := Ground.data }], guard := none }
def kids22_o6 : Oper := { dst := some 12, op := Op.assign (Operand.tmp 90), type := 30, pos := "outright.go:136", after := #[{ on := 5, ground := Ground.data }, { on := 5, ground := Ground.chain }, { on := 0, ground := Ground.phase }, { on := 1, ground := Ground.phase }, { on := 2, ground := Ground.phase }, { on := 3, ground := Ground.phase }, { on := 4, ground := Ground.phase }, { on := 5, ground := Ground.phase }], guard := none }
def kids22_ops : Array Oper := #[kids22_o0, kids22_o1, kids22_o2, kids22_o3, kids22_o4, kids22_o5, kids22_o6]
set_option maxRecDepth 100000 in
set_option maxHeartbeats 4000000 in
theorem kids22 (tv lv iv pi xv : Value) (Fin : Value → World → Prop) (a : Act) (w : World) (Q : Exit → Act → World → Prop) (hsz : a.tmps.size = 183)
    (t3 : a.tmps.getD 3 undef = tv)
    (t4 : a.tmps.getD 4 undef = lv)
    (t6 : a.tmps.getD 6 undef = iv)
    (CK : Calls Try.prog 19 #[tv, xv] w fun e w' => ∃ kv, e = .returned kv ∧ Fin kv w')
    (G1 : ∀ W, (Instr.indexAt 30 (lv) (iv)).run Try.prog W = .ok (pi) W)
    (G2 : (Instr.loadAt 35 (pi)).run Try.prog w = .ok (xv) w)
    (h : ∀ (kv : Value) (a' : Act) (w' : World), Fin kv w' → a' = (((((((a).put (some 85) (tv)).put (some 86) (lv)).put (some 87) (iv)).put (some 88) (pi)).put (some 89) (xv)).put (some 90) (kv)).put (some 12) (kv) → Q .normal a' w') :
    (Code.region 22 kids22_ops false).wp Try.prog Q a w := by
  refine wp_region_list ?_
  change wpList _ _ _ [kids22_o0, kids22_o1, kids22_o2, kids22_o3, kids22_o4, kids22_o5, kids22_o6] _ _
  refine qv (v := tv) (by rfl) (exec_move rfl t3) (fun a0 e0 => ?_)
  rw [← e0] at h
  have z0 := pz e0 hsz
  replace t4 := pk e0 t4
  replace t6 := pk e0 t6
  clear t3
  have t85 := pq e0 hsz
  clear e0 hsz
  refine qv (v := lv) (by rfl) (exec_move rfl t4) (fun a1 e1 => ?_)
  rw [← e1] at h
  have z1 := pz e1 z0
  replace t6 := pk e1 t6
  replace t85 := pk e1 t85
  clear t4
  have t86 := pq e1 z0
  clear e1 z0
  refine qv (v := iv) (by rfl) (exec_move rfl t6) (fun a2 e2 => ?_)
  rw [← e2] at h
  have z2 := pz e2 z1
  replace t85 := pk e2 t85
  replace t86 := pk e2 t86
  clear t6
  have t87 := pq e2 z1
  clear e2 z1
  refine qv (v := pi) (by rfl) (exec_indexAt rfl t86 t87 (G1 _)) (fun a3 e3 => ?_)
  rw [← e3] at h
  have z3 := pz e3 z2
  replace t85 := pk e3 t85
  clear t86 t87
  have t88 := pq e3 z2
  clear e3 z2
  refine qv (v := xv) (by rfl) (exec_load rfl t88 G2) (fun a4 e4 => ?_)
  rw [← e4] at h
  have z4 := pz e4 z3
  replace t85 := pk e4 t85
  clear t88
  have t89 := pq e4 z3
  clear e4 z3
  refine qc (by rfl) (by unfold kids22_o5; go_simp) (CK) (fun e x5 hx => ?_)
  obtain ⟨kv, rfl, HF⟩ := hx
  replace h := h kv
  refine ⟨_, rfl, fun a5 e5 => ?_⟩
  rw [← e5] at h
  have z5 := pz e5 z4
  clear t85 t89
  have t90 := pq e5 z4
  clear e5 z4
  refine qv (v := kv) (by rfl) (exec_assign rfl t90) (fun a6 e6 => ?_)
  rw [← e6] at h
  have z6 := pz e6 z5
  clear t90
  clear e6 z5
  exact wpList_nil (h _ _ (HF) rfl)
end Go.Proofs.Ytoofljkgdjjllab

namespace Go.Proofs.Ytoofljkgdjjllab
open Go.RowKit
set_option linter.unusedVariables false
set_option linter.unusedSimpArgs false

set_option maxHeartbeats 1000000 in
/-- The reference's Compare. -/
theorem rcmp_any (a b : List UInt8) (ha : a.length = 32) (hb : b.length = 32) (w : World) :
    Calls Try.prog 38 #[.agg (bs a), .agg (bs b)] w fun e w' => e = .returned (.int .i64 (cmpL a b)) ∧ Below w.heap.size w w' := by
  have be0 : Below w.heap.size w ((w.alloc (.cells (bs a) 33)).alloc (.cells (bs b) 33)) := ((Below.refl _ _).alloc (Nat.le_refl _) _).alloc (by simp) _
  have g0 : ((w.alloc (.cells (bs a) 33)).alloc (.cells (bs b) 33)).heap[w.heap.size]? = some (.cells (bs a) 33 (0, 0)) := heap_alloc2_old _ _ _
  have g1 : ((w.alloc (.cells (bs a) 33)).alloc (.cells (bs b) 33)).heap[w.heap.size + 1]? = some (.cells (bs b) 33 (0, 0)) := heap_alloc2_new _ _ _
  go_enter Try.func38, Try.ntmps38
  go_wp2
  generalize ((w.alloc (.cells (bs a) 33)).alloc (.cells (bs b) 33)) = W0 at *
  go_loopw [5] (fun i wr => ∃ k : Nat, k ≤ 32 ∧ i = .int .i64 k ∧ Hid (∀ j, j < k → at8 a j = at8 b j) ∧ ∃ m, wr = W0.drewN m) (fun i _ => 32 - (intOf i).toNat)
  case atStart => exact ⟨0, by omega, rfl, (fun j hj => by omega : ∀ j, j < 0 → at8 a j = at8 b j), 0, rfl⟩
  case round =>
    obtain ⟨k, hk, rfl, hsame, m, rfl⟩ := hrel
    by_cases hlt : k < 32
    · have ca := (cell_of_row W0 w.heap.size k _ _ _ g0).trans (bs_get a k (by omega))
      have cb := (cell_of_row W0 (w.heap.size + 1) k _ _ _ g1).trans (bs_get b k (by omega))
      have HL := cmpL_at a b k (by omega) (by omega) hsame.out
      have HL1 : Hid ((at8 a k < at8 b k → cmpL a b = -1) ∧ (at8 b k < at8 a k → cmpL a b = 1)) := HL
      clear HL
      have hlt' : (k : Int) < 32 := by omega
      by_cases h1 : at8 a k < at8 b k
      · go_wp2
        go_quiet (fail)
        go_wp2
        go_ret
        exact ⟨ret_int (HL1.out.1 h1).symm, below_drewN (below_drewN be0 _) _⟩
      · by_cases h2 : at8 b k < at8 a k
        · go_wp2
          go_quiet (fail)
          go_wp2
          go_quiet (fail)
          go_wp2
          go_ret
          exact ⟨ret_int (HL1.out.2 h2).symm, below_drewN (below_drewN (below_drewN be0 _) _) _⟩
        · go_wp2
          go_quiet (fail)
          go_wp2
          go_quiet (fail)
          go_wp2
          refine ⟨⟨k + 1, by omega, by go_num, ?_, _, rfl⟩, by simp [intOf]; omega⟩
          show ∀ j, j < k + 1 → at8 a j = at8 b j
          intro j hj
          by_cases e : j = k
          · subst e; omega
          · exact hsame.out j (by omega)
    · have hk2 : k = 32 := by omega
      subst hk2
      have HE : Hid (cmpL a b = 0) := by
        show cmpL a b = 0
        rw [at8_ext 32 ha hb hsame.out]
        exact cmpL_same b
      go_wp2
      go_ret
      exact ⟨ret_int HE.out.symm, below_drewN be0 _⟩

/-! ### A hash put in its place -/
theorem lt_cId (x y : IdK) : (cId x y < 0) ↔ (cmpL x.h y.h < 0 ∨ cmpL x.h y.h = 0 ∧ x.n < y.n) := by
  unfold cId or2 cI
  split
  · next h => rw [h]; split
              · simp_all
              · split <;> simp_all
  · next h => simp [h]
set_option maxRecDepth 100000 in
set_option maxHeartbeats 2000000 in
theorem lower_any (x y : IdK) (w : World) (hx : x.ok) (hy : y.ok) : Calls Try.prog 20 #[x.v, y.v] w fun e w' => e = .returned (.bool (decide (cId x y < 0))) ∧ Below w.heap.size w w' := by
  have HC := hidMk (fun W => rcmp_any x.h y.h hx.l hy.l W)
  have hd : decide (cId x y < 0) = decide (cmpL x.h y.h < 0 ∨ cmpL x.h y.h = 0 ∧ x.n < y.n) := by rw [decide_eq_decide]; exact lt_cId x y
  rw [hd]
  clear hd
  obtain ⟨c, hc⟩ : ∃ c, cmpL x.h y.h = c := ⟨_, rfl⟩
  rw [hc] at HC
  rw [hc]
  clear hc
  unfold IdK.v
  go_enter Try.func20, Try.ntmps20
  go_upto_region 1 with fail
  obtain ⟨hxb, hyb, bx, zx⟩ := two_boxes w x y
  have ZX := hidMk zx
  clear zx
  generalize (w.alloc (.cells x.c.toArray 35)).alloc (.cells y.c.toArray 35) = W at *
  have z1 : w.heap.size + 2 ≤ W.heap.size := Nat.le_of_eq ZX.out.symm
  have n1 := cell_n hx hxb
  have n2 := cell_n hy hyb
  go_upto_region 2 with (first
    | (refine wpList_val rfl (exec_load (t := 33) (u := .pointer (some ⟨w.heap.size, 0, none⟩)) rfl rfl (load_hash hx hxb)) ?_)
    | (refine wpList_val rfl (exec_load (t := 33) (u := .pointer (some ⟨w.heap.size + 1, 0, none⟩)) rfl rfl (load_hash hy hyb)) ?_)
    | (go_at_call 38; refine (HC.out _).mono ?_; rintro e w1 ⟨rfl, b1⟩; replace n1 := (b1.cell (by show w.heap.size < _; omega)).trans n1; replace n2 := (b1.cell (by show w.heap.size + 1 < _; omega)).trans n2; replace bx : Below w.heap.size w w1 := bx.trans (b1.mono (by omega)); clear b1)
    | fail)
  by_cases h1 : c < 0
  · have hd : decide (c < 0) = true := decide_eq_true h1
    have HQ := hidMk (show decide (c < 0 ∨ c = 0 ∧ x.n < y.n) = true from decide_eq_true (Or.inl h1))
    go_wp2
    go_ret
    exact ⟨by rw [HQ.out]; rfl, bx⟩
  · by_cases h2 : c = 0
    · subst h2
      clear h1
      have HQ := hidMk (show decide ((0 : Int) < 0 ∨ (0 : Int) = 0 ∧ x.n < y.n) = decide (x.n < y.n) by simp)
      go_wp2
      go_ret
      exact ⟨by first | rfl | (rw [HQ.out]; rfl) | simp, bx⟩
    · have hd : decide (c < 0) = false := decide_eq_false h1
      have he : (c == 0) = false := by simpa using h2
      have HQ := hidMk (show decide (c < 0 ∨ c = 0 ∧ x.n < y.n) = false from decide_eq_false (fun q => q.elim h1 (fun r => h2 r.1)))
      clear h1 h2
      go_wp2
      go_ret
      exact ⟨by rw [HQ.out]; rfl, bx⟩
theorem lt_cKid (x y : KidV) : (cKid x y < 0) ↔ (Op.bytesLess x.key.toList y.key.toList = true ∨ x.key.toList = y.key.toList ∧ cId x.id y.id < 0) := by
  unfold cKid or2
  rcases cS_val x.key y.key with ⟨p, e⟩ | ⟨p, e⟩ | ⟨p, e⟩
  · rw [e]; simp [p]
  · rw [e]
    have : Op.bytesLess x.key.toList y.key.toList = false := by rw [p]; exact bl_irrefl _
    simp [this, p, bl_irrefl]
  · rw [e]
    have h1 := bl_asymm p
    have h2 : x.key.toList ≠ y.key.toList := fun q => by rw [q, bl_irrefl] at p; cases p
    simp [h1, h2]
end Go.Proofs.Ytoofljkgdjjllab

