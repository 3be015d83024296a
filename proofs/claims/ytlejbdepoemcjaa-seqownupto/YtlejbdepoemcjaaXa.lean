import Derived.Test.YtlejbdepoemcjaaXi
import Derived.Test.YtlejbdepoemcjaaSqp
namespace Go.Proofs.Ytlejbdepoemcjaa
open Go.RowKit Sq
set_option linter.unusedVariables false
set_option linter.unusedSimpArgs false

def KpV.c (k : KpV) : List Value := k.id.c ++ (k.bh.c ++ [.int .i64 k.fol])
def KpV.v (k : KpV) : Value := .agg (KpV.c k).toArray
structure KpV.ok (k : KpV) : Prop where
  id : k.id.ok
  bh : k.bh.ok
theorem KpV.len {k : KpV} (h : KpV.ok k) : (KpV.c k).length = 67 := by simp [KpV.c, IdK.len h.id, IdK.len h.bh]
theorem KpV.one (k : KpV) : ∀ v ∈ KpV.c k, v.oneCell' = true := by
  intro v hv
  simp only [KpV.c, List.mem_append, List.mem_singleton] at hv
  rcases hv with h | h | rfl
  · exact IdK.one _ v h
  · exact IdK.one _ v h
  · rfl
def Sp.t (s : Sp) : List Value := [.bool s.sh, .int .i64 (s.up : Int), .int .i64 (s.l : Int), .int .i64 (s.r : Int), .int .i64 (s.ca : Int), .int .i64 (s.cl : Int)]
def Sp.c (s : Sp) : List Value := KpV.c s.kp ++ Sp.t s
def Sp.v (s : Sp) : Value := .agg (Sp.c s).toArray
theorem Sp.len {s : Sp} (h : KpV.ok s.kp) : (Sp.c s).length = 73 := by simp [Sp.c, KpV.len h, Sp.t]
theorem Sp.one (s : Sp) : ∀ v ∈ Sp.c s, v.oneCell' = true := by
  intro v hv
  simp only [Sp.c, Sp.t, List.mem_append, List.mem_cons, List.not_mem_nil, or_false] at hv
  rcases hv with h | rfl | rfl | rfl | rfl | rfl | rfl
  · exact KpV.one _ v h
  all_goals rfl
theorem zK_ok : KpV.ok zK := ⟨zId_ok, zId_ok⟩
/-- Spots, cell by cell. -/
def flatS (L : List Sp) : List Value := L.flatMap Sp.c
def OkS (L : List Sp) : Prop := ∀ s ∈ L, KpV.ok s.kp
theorem flatS_len : ∀ {L : List Sp}, OkS L → (flatS L).length = 73 * L.length
  | [], _ => rfl
  | x :: L, ok => by
    have := flatS_len (L := L) (fun h hh => ok h (by simp [hh]))
    simp only [flatS, List.flatMap_cons, List.length_append, Sp.len (ok x (by simp)), List.length_cons] at this ⊢
    omega
theorem flatS_get : ∀ {L : List Sp}, OkS L → ∀ {i : Nat} {h : Sp}, L[i]? = some h → ∀ {j : Nat} {v : Value}, (Sp.c h)[j]? = some v → (flatS L)[73 * i + j]? = some v
  | x :: L, ok, 0, h, hi, j, v, hj => by
    simp only [List.getElem?_cons_zero, Option.some.injEq] at hi
    subst hi
    have hl := (List.getElem?_eq_some_iff.1 hj).1
    rw [Nat.mul_zero, Nat.zero_add, flatS, List.flatMap_cons, List.getElem?_append_left hl]
    exact hj
  | x :: L, ok, i + 1, h, hi, j, v, hj => by
    simp only [List.getElem?_cons_succ] at hi
    have := flatS_get (L := L) (fun h hh => ok h (by simp [hh])) hi hj
    have l := Sp.len (ok x (by simp))
    rw [flatS, List.flatMap_cons, List.getElem?_append_right (by omega), l, show 73 * (i + 1) + j - 73 = 73 * i + j by omega]
    exact this
  | [], _, i, h, hi, _, _, _ => by simp at hi
theorem flatS_one (L : List Sp) : ∀ u ∈ flatS L, u.oneCell' = true := by
  intro u hu
  simp only [flatS, List.mem_flatMap] at hu
  obtain ⟨h, _, hv⟩ := hu
  exact Sp.one h u hv
theorem flatS_app (L M : List Sp) : flatS (L ++ M) = flatS L ++ flatS M := by simp [flatS]
theorem gt_at {L : List Sp} {i : Nat} (h : i < L.length) : L[i]? = some (gt L i) := by
  unfold gt
  rw [List.getD_eq_getElem?_getD, List.getElem?_eq_getElem h]
  rfl
theorem OkS.gt {L : List Sp} (h : OkS L) {i : Nat} (hi : i < L.length) : KpV.ok (Sq.gt L i).kp := h _ (List.mem_of_getElem? (gt_at hi))
/-- A row in memory: its slice lies in a cell, its spots in a block. -/
structure SqAt (w : World) (rb ro g cap : Nat) (L : List Sp) : Prop where
  hd : w.cell? ⟨rb, ro, none⟩ = some (.slice (some ⟨g, 0, none⟩) L.length cap)
  own : w.ownsRow 0 113 73 (.slice (some ⟨g, 0, none⟩) L.length cap) L.length (flatS L)
  ok : OkS L
  ne : rb ≠ g
  len : L.length ≤ 1400000000000
  bk : ∃ cs t, w.heap[rb]? = some (.cells cs t (0, 0))
theorem SqAt.blk {w : World} {rb ro g cap : Nat} {L : List Sp} (h : SqAt w rb ro g cap L) : ∃ cur, w.heap[g]? = some (.cells cur 113 (0, 0)) ∧ L.length ≤ cap ∧ cap ≤ maxLen ∧ cur.size = cap * 73 ∧ cur.toList.take (L.length * 73) = flatS L := by
  rcases h.own.2 with ⟨e, _⟩ | ⟨g', cap', cur, e, _, hg, r1, r2, r3, r4⟩
  · cases e
  · simp only [Value.slice.injEq, Option.some.injEq, Addr.mk.injEq] at e
    obtain ⟨⟨rfl, _⟩, _, rfl⟩ := e
    exact ⟨cur, hg, r1, r2, r3, r4⟩
theorem SqAt.keep {w w' : World} {rb ro g cap : Nat} {L : List Sp} (h : SqAt w rb ro g cap L) (h1 : w'.heap[rb]? = w.heap[rb]?) (h2 : w'.heap[g]? = w.heap[g]?) : SqAt w' rb ro g cap L := by
  refine ⟨(World.cell?_of_block (a := ⟨rb, ro, none⟩) h1).trans h.hd, ⟨h.own.1, ?_⟩, h.ok, h.ne, h.len, by rw [h1]; exact h.bk⟩
  rcases h.own.2 with ⟨e, hn⟩ | ⟨g', cap', cur, e, hb, hg, r⟩
  · exact .inl ⟨e, hn⟩
  · have e2 := e
    simp only [Value.slice.injEq, Option.some.injEq, Addr.mk.injEq] at e2
    obtain ⟨⟨rfl, _⟩, _, rfl⟩ := e2
    exact .inr ⟨g, cap, cur, e, hb, h2.trans hg, r⟩
theorem SqAt.lt {w : World} {rb ro g cap : Nat} {L : List Sp} (h : SqAt w rb ro g cap L) : rb < w.heap.size ∧ g < w.heap.size := by
  obtain ⟨cur, hg, _⟩ := h.blk
  exact ⟨block_lt_of_cell h.hd, (Array.getElem?_eq_some_iff.1 hg).1⟩
theorem SqAt.drew {w : World} {rb ro g cap : Nat} {L : List Sp} (h : SqAt w rb ro g cap L) : SqAt w.drew rb ro g cap L := h.keep rfl rfl
theorem SqAt.tch {w w' : World} {rb ro g cap : Nat} {L : List Sp} {O : Nat → Prop} (h : SqAt w rb ro g cap L) (t : Tch O w w') (h1 : ¬ O rb) (h2 : ¬ O g) : SqAt w' rb ro g cap L := h.keep (t.block _ h.lt.1 h1) (t.block _ h.lt.2 h2)
theorem SqAt.range {w : World} {rb ro g cap : Nat} {L : List Sp} (h : SqAt w rb ro g cap L) {i : Nat} (hi : i < L.length) : w.rangeAt g (73 * i) (Sp.c (gt L i)) := fun j v hj => by
  obtain ⟨cur, hg, _, _, _, ht⟩ := h.blk
  have e := flatS_get h.ok (gt_at hi) hj
  rw [cell_of_row w g _ cur _ (0, 0) hg]
  rw [← ht, List.getElem?_take] at e
  split at e
  · simpa using e
  · cases e
section
variable {w : World} {rb ro g cap i : Nat} {L : List Sp}
theorem R_sl (h : SqAt w rb ro g cap L) : (Instr.loadAt 85 (.pointer (some ⟨rb, ro + 0, none⟩))).run Try.prog w = .ok (.slice (some ⟨g, 0, none⟩) L.length cap) w := by
  have := h.hd
  go_simp
theorem R_ix (hi : i < L.length) (hl : L.length ≤ 1400000000000) (W : World) : (Instr.indexAt 85 (.slice (some ⟨g, 0, none⟩) L.length cap) (.int .i64 (i : Int))).run Try.prog W = .ok (.pointer (some ⟨g, 73 * i, none⟩)) W := by
  have : (Instr.indexAt 85 (.slice (some ⟨g, 0, none⟩) L.length cap) (.int .i64 (i : Int))).run Try.prog W = .ok (.pointer (some ⟨g, 0 + i * 73, none⟩)) W := by go_simp
  rw [this, Nat.zero_add, Nat.mul_comm]
theorem R_cell (h : SqAt w rb ro g cap L) (hi : i < L.length) (k : Nat) (v : Value) (hk : (Sp.t (gt L i))[k]? = some v) : w.cell? ⟨g, 73 * i + (67 + k), none⟩ = some v := by
  refine h.range hi (67 + k) v ?_
  rw [Sp.c, List.getElem?_append_right (by rw [KpV.len (h.ok.gt hi)]; omega), KpV.len (h.ok.gt hi), show 67 + k - 67 = k by omega]
  exact hk
theorem R_sh (h : SqAt w rb ro g cap L) (hi : i < L.length) : (Instr.loadAt 4 (.pointer (some ⟨g, 73 * i + 67, none⟩))).run Try.prog w = .ok (.bool (gt L i).sh) w := by
  have := R_cell h hi 0 _ rfl
  go_simp
theorem R_up (h : SqAt w rb ro g cap L) (hi : i < L.length) : (Instr.loadAt 3 (.pointer (some ⟨g, 73 * i + 68, none⟩))).run Try.prog w = .ok (.int .i64 ((gt L i).up : Int)) w := by
  have := R_cell h hi 1 _ rfl
  go_simp
/-- A side's, or a kind of count's, number. -/
def nb (b : Bool) : Nat := if b then 1 else 0
theorem R_dn (h : SqAt w rb ro g cap L) (hi : i < L.length) (b : Bool) : (Instr.loadAt 3 (.pointer (some ⟨g, 73 * i + 69 + nb b, none⟩))).run Try.prog w = .ok (.int .i64 (dn (gt L i) b : Int)) w := by
  have := R_cell h hi (2 + nb b) (.int .i64 (dn (gt L i) b : Int)) (by cases b <;> rfl)
  rw [show 73 * i + (67 + (2 + nb b)) = 73 * i + 69 + nb b by omega] at this
  go_simp
theorem R_ct (h : SqAt w rb ro g cap L) (hi : i < L.length) (b : Bool) : (Instr.loadAt 3 (.pointer (some ⟨g, 73 * i + 71 + nb b, none⟩))).run Try.prog w = .ok (.int .i64 (ct (gt L i) b : Int)) w := by
  have := R_cell h hi (4 + nb b) (.int .i64 (ct (gt L i) b : Int)) (by cases b <;> rfl)
  rw [show 73 * i + (67 + (4 + nb b)) = 73 * i + 71 + nb b by omega] at this
  go_simp
theorem R_down (h : SqAt w rb ro g cap L) (hi : i < L.length) : (Instr.loadAt 111 (.pointer (some ⟨g, 73 * i + 69, none⟩))).run Try.prog w = .ok (.agg #[.int .i64 ((gt L i).l : Int), .int .i64 ((gt L i).r : Int)]) w := by
  refine run_loadAt_mid (P := Try.prog) w g (73 * i + 69) 111 [.int .i64 ((gt L i).l : Int), .int .i64 ((gt L i).r : Int)] _ (fun j v hv => ?_) Try.underlying111 rfl (by kernel_rfl)
  have hj : j < 2 := (List.getElem?_eq_some_iff.1 hv).1
  rw [show 73 * i + 69 + j = 73 * i + (67 + (2 + j)) by omega]
  refine R_cell h hi (2 + j) v ?_
  have : j = 0 ∨ j = 1 := by omega
  rcases this with rfl | rfl <;> exact hv
theorem szK : (Try.prog.info? 90).map (·.size) = some 67 := by kernel_rfl
theorem szS : (Try.prog.info? 113).map (·.size) = some 73 := by kernel_rfl
theorem R_kp (h : SqAt w rb ro g cap L) (hi : i < L.length) : (Instr.loadAt 90 (.pointer (some ⟨g, 73 * i + 0, none⟩))).run Try.prog w = .ok (KpV.v (gt L i).kp) w := by
  refine run_loadAt_mid (P := Try.prog) w g (73 * i) 90 (KpV.c (gt L i).kp) _ (fun j v hv => ?_) Try.underlying90 rfl (by rw [KpV.len (h.ok.gt hi)]; exact szK)
  refine h.range hi j v ?_
  rw [Sp.c, List.getElem?_append_left (List.getElem?_eq_some_iff.1 hv).1]
  exact hv
theorem R_sp (h : SqAt w rb ro g cap L) (hi : i < L.length) : (Instr.loadAt 113 (.pointer (some ⟨g, 73 * i, none⟩))).run Try.prog w = .ok (Sp.v (gt L i)) w :=
  run_loadAt_mid (P := Try.prog) w g (73 * i) 113 (Sp.c (gt L i)) _ (h.range hi) Try.underlying113 rfl (by rw [Sp.len (h.ok.gt hi)]; exact szS)
theorem ix_ar (o : Nat) (b : Bool) (W : World) : (Instr.indexAt 111 (.pointer (some ⟨g, o, none⟩)) (.int .i64 (nb b : Int))).run Try.prog W = .ok (.pointer (some ⟨g, o + nb b, none⟩)) W := by
  cases b <;> simp only [nb, Bool.false_eq_true, if_false, if_true] <;> go_simp
theorem ix_a0 (o : Nat) (W : World) : (Instr.indexAt 111 (.pointer (some ⟨g, o, none⟩)) (.int .i64 0)).run Try.prog W = .ok (.pointer (some ⟨g, o + nb false, none⟩)) W := ix_ar o false W
theorem ix_a1 (o : Nat) (W : World) : (Instr.indexAt 111 (.pointer (some ⟨g, o, none⟩)) (.int .i64 1)).run Try.prog W = .ok (.pointer (some ⟨g, o + nb true, none⟩)) W := ix_ar o true W
theorem fg_87_0 (b o : Nat) (W : World) : (Instr.fieldAt 87 (.pointer (some ⟨b, o, none⟩)) 0).run Try.prog W = .ok (.pointer (some ⟨b, o + 0, none⟩)) W := by go_simp
theorem fg_113_0 (b o : Nat) (W : World) : (Instr.fieldAt 113 (.pointer (some ⟨b, o, none⟩)) 0).run Try.prog W = .ok (.pointer (some ⟨b, o + 0, none⟩)) W := by go_simp
theorem fg_113_1 (b o : Nat) (W : World) : (Instr.fieldAt 113 (.pointer (some ⟨b, o, none⟩)) 1).run Try.prog W = .ok (.pointer (some ⟨b, o + 67, none⟩)) W := by go_simp
theorem fg_113_2 (b o : Nat) (W : World) : (Instr.fieldAt 113 (.pointer (some ⟨b, o, none⟩)) 2).run Try.prog W = .ok (.pointer (some ⟨b, o + 68, none⟩)) W := by go_simp
theorem fg_113_3 (b o : Nat) (W : World) : (Instr.fieldAt 113 (.pointer (some ⟨b, o, none⟩)) 3).run Try.prog W = .ok (.pointer (some ⟨b, o + 69, none⟩)) W := by go_simp
theorem fg_113_4 (b o : Nat) (W : World) : (Instr.fieldAt 113 (.pointer (some ⟨b, o, none⟩)) 4).run Try.prog W = .ok (.pointer (some ⟨b, o + 71, none⟩)) W := by go_simp
end
/-- What is stored over some cells of a block. -/
theorem st_at {w : World} {g o n : Nat} {t ty : TypeId} {cur : Array Value} {v : Value} {vs : List Value} (hs : (Try.prog.info? t).map (·.size) = some n) (hv : v.cells = vs.toArray) (hl : vs.length = n) (h1 : ∀ x ∈ vs, x.oneCell' = true) (hg : w.heap[g]? = some (.cells cur ty (0, 0))) (hb : o + n ≤ cur.size) :
    (Instr.storeAt t (.pointer (some ⟨g, o, none⟩)) v).run Try.prog w = .ok () (w.setRow g (cur.toList.take o ++ vs ++ cur.toList.drop (o + vs.length)).toArray) := by
  have h := run_storeCells_at Try.prog g o ty vs 0 cur w hg (by rw [hl]; omega) h1
  rw [Nat.add_zero] at h
  cases hq : Try.prog.info? t with
  | none => rw [hq] at hs; simp at hs
  | some ii =>
    rw [hq] at hs
    simp at hs
    have hcz : v.cells.size = ii.size := by rw [hv]; simp [hl, hs]
    simp only [Instr.storeAt, Instr.sureAddr, Sem.run_bind, Sem.run_pure, Result.andThen_ok, storeVar, sizeOf, typeInfo, hq, hv]
    simp [typeInfo, hq, hl, hs, h]
theorem setRow_heap_same {w : World} {g : Nat} {cur : Array Value} {t : TypeId} {fr : Nat × Nat} (cs : Array Value) (h : w.heap[g]? = some (.cells cur t fr)) : (w.setRow g cs).heap[g]? = some (.cells cs t fr) := setRow_heap w g cur _ t _ h
theorem modify_mid (f : Sp → Sp) (y : Sp) (B : List Sp) : ∀ (A : List Sp), (A ++ y :: B).modify A.length f = A ++ f y :: B
  | [] => by simp
  | a :: A => by
    have := modify_mid f y B A
    simp [this]
theorem gt_mid {A B : List Sp} {y : Sp} : gt (A ++ y :: B) A.length = y := by
  unfold gt
  simp
theorem OkS.mid {A B : List Sp} {y : Sp} (hA : OkS A) (hy : KpV.ok y.kp) (hB : OkS B) : OkS (A ++ y :: B) := fun x hx => by
  rcases List.mem_append.1 hx with q | q
  · exact hA x q
  · rcases List.mem_cons.1 q with rfl | q
    · exact hy
    · exact hB x q
/-- Some cells of one spot are other ones. -/
theorem SqAt.seg {w : World} {rb ro g cap : Nat} {L : List Sp} (h : SqAt w rb ro g cap L) {i k n : Nat} (hi : i < L.length) (f : Sp → Sp) (vs : List Value) (hn : vs.length = n) (hf : Sp.c (f (gt L i)) = (Sp.c (gt L i)).take k ++ vs ++ (Sp.c (gt L i)).drop (k + n)) (hk : k + n ≤ 73) (hok : KpV.ok (f (gt L i)).kp) (h1 : ∀ x ∈ vs, x.oneCell' = true) {t : TypeId} {v : Value} (hs : (Try.prog.info? t).map (·.size) = some n) (hv : v.cells = vs.toArray) :
    ∃ w', (Instr.storeAt t (.pointer (some ⟨g, 73 * i + k, none⟩)) v).run Try.prog w = .ok () w' ∧ SqAt w' rb ro g cap (md L i f) ∧ Tch (fun j => j = g) w w' ∧ w'.heap.size = w.heap.size := by
  obtain ⟨cur, hg, r1, r2, r3, r4⟩ := h.blk
  have hb : 73 * i + k + n ≤ cur.size := by rw [r3]; omega
  have e := st_at hs hv hn h1 hg (o := 73 * i + k) hb
  have tc := setRow_tch w g (cur.toList.take (73 * i + k) ++ vs ++ cur.toList.drop (73 * i + k + vs.length)).toArray
  have hA : ∃ A y B, L = A ++ y :: B ∧ A.length = i := ⟨L.take i, L[i], L.drop (i + 1), by rw [← List.drop_eq_getElem_cons hi, List.take_append_drop], by simp; omega⟩
  obtain ⟨A, y, B, hL, hA⟩ := hA
  have hy : gt L i = y := by rw [hL, ← hA]; exact gt_mid
  have hset : md L i f = A ++ f y :: B := by rw [hL, md, ← hA]; exact modify_mid f y B A
  have okA : OkS A := fun x hx => h.ok x (by rw [hL]; simp [hx])
  have okB : OkS B := fun x hx => h.ok x (by rw [hL]; simp [hx])
  have oky : KpV.ok y.kp := h.ok y (by rw [hL]; simp)
  rw [hy] at hf hok
  have okN : OkS (md L i f) := by rw [hset]; exact okA.mid hok okB
  refine ⟨_, e, ⟨?_, ⟨?_, .inr ⟨g, cap, _, by rw [md_len], Nat.zero_le _, setRow_heap_same _ hg, by rw [md_len]; exact r1, r2, ?_, ?_⟩⟩, okN, h.ne, by rw [md_len]; exact h.len, by rw [tc.block rb h.lt.1 (fun q => h.ne (by simpa using q.symm))]; exact h.bk⟩, tc.mono (fun j _ q => by simpa using q.symm), by simp [World.setRow]⟩
  · rw [md_len]
    exact (World.cell?_of_block (a := ⟨rb, ro, none⟩) (tc.block rb h.lt.1 (fun q => h.ne (by simpa using q.symm)))).trans h.hd
  · rw [flatS_len okN, md_len, Nat.mul_comm]
  · simp; omega
  · rw [md_len, hset]
    have hlA := flatS_len okA
    have hlB := flatS_len okB
    have ly := Sp.len oky
    have fc : flatS (A ++ f y :: B) = (flatS A ++ (Sp.c y).take k) ++ vs ++ ((Sp.c y).drop (k + n) ++ flatS B) := by
      rw [flatS_app, show flatS (f y :: B) = Sp.c (f y) ++ flatS B from rfl, hf]
      simp
    have fc' : flatS L = (flatS A ++ (Sp.c y).take k) ++ ((Sp.c y).drop k).take n ++ ((Sp.c y).drop (k + n) ++ flatS B) := by
      rw [hL, flatS_app, show flatS (y :: B) = Sp.c y ++ flatS B from rfl]
      have : Sp.c y = (Sp.c y).take k ++ (((Sp.c y).drop k).take n ++ (Sp.c y).drop (k + n)) := by
        rw [← List.drop_drop, List.take_append_drop, List.take_append_drop]
      conv => lhs; rw [this]
      simp
    rw [fc]
    rw [fc'] at r4
    have hLl := congrArg List.length hL
    simp at hLl
    refine take_seg r4 ?_ ?_ ?_
    · simp only [List.length_append, List.length_take, List.length_drop, hlA, hlB, ly]
      omega
    · simp only [List.length_append, List.length_take, hlA, ly, hA]
      omega
    · simp only [List.length_take, List.length_drop, ly, hn]
      omega
/-- One number of a spot's is another one. -/
theorem SqAt.num {w : World} {rb ro g cap : Nat} {L : List Sp} (h : SqAt w rb ro g cap L) {i k : Nat} (hi : i < L.length) (f : Sp → Sp) {v : Value} (hkp : (f (gt L i)).kp = (gt L i).kp) (hf : Sp.t (f (gt L i)) = (Sp.t (gt L i)).take k ++ [v] ++ (Sp.t (gt L i)).drop (k + 1)) (hk : k < 6) {t : TypeId} (hs : (Try.prog.info? t).map (·.size) = some 1) (hv : v.cells = #[v]) (h1 : v.oneCell' = true) :
    ∃ w', (Instr.storeAt t (.pointer (some ⟨g, 73 * i + (67 + k), none⟩)) v).run Try.prog w = .ok () w' ∧ SqAt w' rb ro g cap (md L i f) ∧ Tch (fun j => j = g) w w' ∧ w'.heap.size = w.heap.size := by
  have l := KpV.len (h.ok.gt hi)
  refine h.seg (n := 1) hi f [v] rfl ?_ (by omega) (by rw [hkp]; exact h.ok.gt hi) (by simp [h1]) hs (by rw [hv])
  have e1 : (KpV.c (gt L i).kp).take (67 + k) = KpV.c (gt L i).kp := List.take_of_length_le (by omega)
  have e2 : (KpV.c (gt L i).kp).drop (67 + k + 1) = [] := List.drop_of_length_le (by omega)
  rw [Sp.c, hkp, hf, Sp.c, List.take_append, List.drop_append, l, show 67 + k - 67 = k by omega, show 67 + k + 1 - 67 = k + 1 by omega, e1, e2]
  simp
end Go.Proofs.Ytlejbdepoemcjaa
