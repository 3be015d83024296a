import Derived.Test.YtoofljkgdjjllabP1
import Derived.Test.YtoofljkgdjjllabRg
namespace Go.Proofs.Ytoofljkgdjjllab
open Go.RowKit
set_option linter.unusedVariables false
set_option linter.unusedSimpArgs false

/-- What is told of some Ids, in a forest. -/
structure ToldIs (f : Fn) (D I : List IdK) (T : TellV) : Prop where
  n : T.n = D.length
  wk : IsWalk f T.wk
  un : T.un = I.map fun k => (nd f k).u
  ks : T.ks = I.map fun k => (nd f k).key
  is : T.is = I.map fun k => ((f k).isSome && !(nd f k).pr)
  dl : T.dp.length = I.length
  dp : ∀ (i : Nat) k z, I[i]? = some k → T.dp[i]? = some z → DeepIs f k z
theorem ToldIs.same {f : Fn} {D D' I : List IdK} (hd : D.length = D'.length) {T T' : TellV} (h : ToldIs f D I T) (h' : ToldIs f D' I T') : T = T' := by
  have e6 : T.dp = T'.dp := by
    refine List.ext_getElem? fun i => ?_
    by_cases hi : i < I.length
    · have l1 : i < T.dp.length := by rw [h.dl]; exact hi
      have l2 : i < T'.dp.length := by rw [h'.dl]; exact hi
      rw [List.getElem?_eq_getElem l1, List.getElem?_eq_getElem l2]
      exact congrArg some ((h.dp i _ _ (List.getElem?_eq_getElem hi) (List.getElem?_eq_getElem l1)).unique (h'.dp i _ _ (List.getElem?_eq_getElem hi) (List.getElem?_eq_getElem l2)))
    · rw [List.getElem?_eq_none (by rw [h.dl]; omega), List.getElem?_eq_none (by rw [h'.dl]; omega)]
  obtain ⟨n, wk, un, ks, is, dp⟩ := T
  obtain ⟨n', wk', un', ks', is', dp'⟩ := T'
  have e1 : n = n' := h.n.trans (hd.trans h'.n.symm)
  have e2 : wk = wk' := h.wk.unique h'.wk
  have e3 : un = un' := h.un.trans h'.un.symm
  have e4 : ks = ks' := h.ks.trans h'.ks.symm
  have e5 : is = is' := h.is.trans h'.is.symm
  have e7 : dp = dp' := e6
  subst e1 e2 e3 e4 e5 e7
  rfl
theorem ToldIs.snoc {f : Fn} {D I : List IdK} {T : TellV} (h : ToldIs f D I T) {x : IdK} {z : Int} (hz : DeepIs f x z) : ToldIs f D (I ++ [x]) { T with un := T.un ++ [(nd f x).u], ks := T.ks ++ [(nd f x).key], is := T.is ++ [((f x).isSome && !(nd f x).pr)], dp := T.dp ++ [z] } := by
  refine ⟨h.n, h.wk, by simp [h.un], by simp [h.ks], by simp [h.is], by simp [h.dl], fun i k y hk hy => ?_⟩
  simp only at hy
  by_cases hi : i < I.length
  · rw [List.getElem?_append_left hi] at hk
    rw [List.getElem?_append_left (by rw [h.dl]; exact hi)] at hy
    exact h.dp i k y hk hy
  · rw [List.getElem?_append_right (by omega)] at hk
    rw [List.getElem?_append_right (by rw [h.dl]; omega), h.dl] at hy
    have hl := (List.getElem?_eq_some_iff.1 hk).1
    simp at hl
    obtain rfl : i = I.length := by omega
    simp at hk hy
    subst hk hy
    exact hz
theorem zeroTell (w : World) : (zeroValue 49).run Try.prog w = .ok (.agg #[.int .i64 0, .slice none 0 0, .slice none 0 0, .slice none 0 0, .slice none 0 0, .slice none 0 0]) w := by kernel_rfl
theorem szTell : (Try.prog.info? 49).map (·.size) = some 6 := by kernel_rfl
theorem tell_alloc (w : World) : (Instr.alloc 49 true (.tuple #[])).run Try.prog w = .ok (.pointer (some ⟨w.heap.size, 0, none⟩)) (w.alloc (.cells #[.int .i64 0, .slice none 0 0, .slice none 0 0, .slice none 0 0, .slice none 0 0, .slice none 0 0] 49)) := by
  simp only [Instr.alloc, newVar, newRow, newObj, Sem.run_bind, zeroTell, Result.andThen_ok, Value.cells]
  rfl
theorem tell_store {w : World} {bx : Nat} {old : Array Value} (h : w.heap[bx]? = some (.cells old 49 (0, 0))) (ho : old.size = 6) (a b c d e f : Value) (h1 : (#[a, b, c, d, e, f] : Array Value).all Value.oneCell' = true) : (Instr.storeAt 49 (.pointer (some ⟨bx, 0, none⟩)) (.agg #[a, b, c, d, e, f])).run Try.prog w = .ok () (w.setRow bx #[a, b, c, d, e, f]) := by
  have e2 := run_storeVar_row (P := Try.prog) w bx 49 49 old #[a, b, c, d, e, f] h szTell (by rw [ho]; rfl) h1
  simp only [Instr.storeAt, Instr.sureAddr, Sem.run_bind, Sem.run_pure, Result.andThen_ok, e2]
theorem tell_load {w : World} {bx : Nat} {a b c d e f : Value} (h : w.heap[bx]? = some (.cells #[a, b, c, d, e, f] 49 (0, 0))) : (Instr.loadAt 49 (.pointer (some ⟨bx, 0, none⟩))).run Try.prog w = .ok (.agg #[a, b, c, d, e, f]) w :=
  run_loadAt_mid (P := Try.prog) w bx 0 49 [a, b, c, d, e, f] _ (cells_range h) Try.underlying49 rfl szTell
theorem tell_loadVar {w : World} {bx : Nat} {a b c d e f : Value} (h : w.heap[bx]? = some (.cells #[a, b, c, d, e, f] 49 (0, 0))) : (loadVar 49 ⟨bx, 0, none⟩).run Try.prog w = .ok (.agg #[a, b, c, d, e, f]) w :=
  run_loadVar_mid (P := Try.prog) w bx 0 49 [a, b, c, d, e, f] _ (cells_range h) Try.underlying49 rfl szTell
theorem results_c1 {P : Program} {fn : Func} {a : Nat} {t : TypeId} (h : fn.results = #[.cell a t]) {tmps : Array Value} {w : World} {p : Addr} {v : Value} (ha : tmps.getD a undef = .pointer (some p)) (hl : (loadVar t p).run P w = .ok v w) :
    (results fn tmps).run P w = .ok v w := by
  rw [Array.getD_eq_getD_getElem?] at ha
  simp [results, h, asAddr, ha, hl, Array.mapM_eq_mapM_toList, Result.andThen]
theorem tell_new (w : World) (a b c d e f : Value) (h1 : (#[a, b, c, d, e, f] : Array Value).all Value.oneCell' = true) : ∃ w1, (Instr.alloc 49 true (.tuple #[])).run Try.prog w = .ok (.pointer (some ⟨w.heap.size, 0, none⟩)) w1 ∧ (Instr.storeAt 49 (.pointer (some ⟨w.heap.size, 0, none⟩)) (.agg #[a, b, c, d, e, f])).run Try.prog w1 = .ok () (w.alloc (.cells #[a, b, c, d, e, f] 49)) := by
  have e2 := tell_store (heap_alloc_new w (.cells #[.int .i64 0, .slice none 0 0, .slice none 0 0, .slice none 0 0, .slice none 0 0, .slice none 0 0] 49)) rfl a b c d e f h1
  rw [World.setRow_alloc_new] at e2
  exact ⟨_, tell_alloc w, e2⟩
theorem id_newT (w : World) (u : IdK) (hu : u.ok) : ∃ w1, (Instr.alloc 35 true (.tuple #[])).run Try.prog w = .ok (.pointer (some ⟨w.heap.size, 0, none⟩)) w1 ∧ (Instr.storeAt 35 (.pointer (some ⟨w.heap.size, 0, none⟩)) u.v).run Try.prog w1 = .ok () (w.alloc (.cells u.c.toArray 35)) := by
  have e2 := store_id zId_ok hu (show IdAt (w.alloc (.cells zId.c.toArray 35)) w.heap.size zId from heap_alloc_new _ _)
  rw [World.setRow_alloc_new] at e2
  exact ⟨_, id_zero w, e2⟩
theorem sl_one {w : World} {B : Nat} {t : TypeId} {v : Value} {X : List Value} (h : OwnV w B t v X) : v.oneCell' = true := by
  obtain ⟨a, c, e, _⟩ := h.open
  rw [e]; simp [Value.oneCell']
theorem sl_oneI {w : World} {B : Nat} {v : Value} {X : List IdK} (h : OwnI w B v X) : v.oneCell' = true := by
  rcases h.2 with ⟨rfl, _⟩ | ⟨g, cap, cur, rfl, _⟩ <;> simp [Value.oneCell']
theorem load_ids {w : World} {b o : Nat} {v : Value} (h : w.cell? ⟨b, o, none⟩ = some v) : (Instr.loadAt 30 (.pointer (some ⟨b, o, none⟩))).run Try.prog w = .ok v w := by go_simp
theorem load_sts {w : World} {b o : Nat} {v : Value} (h : w.cell? ⟨b, o, none⟩ = some v) : (Instr.loadAt 45 (.pointer (some ⟨b, o, none⟩))).run Try.prog w = .ok v w := by go_simp
theorem load_bls {w : World} {b o : Nat} {v : Value} (h : w.cell? ⟨b, o, none⟩ = some v) : (Instr.loadAt 46 (.pointer (some ⟨b, o, none⟩))).run Try.prog w = .ok v w := by go_simp
theorem load_ins {w : World} {b o : Nat} {v : Value} (h : w.cell? ⟨b, o, none⟩ = some v) : (Instr.loadAt 47 (.pointer (some ⟨b, o, none⟩))).run Try.prog w = .ok v w := by go_simp
theorem owI_base {w : World} {B B' : Nat} {v : Value} {L : List IdK} (h : OwnI w B v L) (hb : B' ≤ B) : OwnI w B' v L := by
  refine ⟨h.1, ?_⟩
  rcases h.2 with hn | ⟨g, cap, cur, e, hbg, rest⟩
  · exact .inl hn
  · exact .inr ⟨g, cap, cur, e, Nat.le_trans hb hbg, rest⟩
section
variable {P : Program} {w w2 : World} {a : Act} {o : Oper}
theorem exec_loadW (w0 : World) (hw : w = w0) {t : TypeId} {x : Operand} {u v : Value} (ho : o.op = .load t x) (hp : a.eval x = u) (hl : (Instr.loadAt t u).run P w0 = .ok v w0) : (execOp a.eval o).run P w = .ok (.value v) w := by subst hw; exact exec_load ho hp hl
theorem exec_bsW (w0 : World) (hw : w = w0) {t n : Nat} {x : Operand} {xv v : Value} (ho : o.op = .buildSlice t n #[(0, x)]) (hx : a.eval x = xv) (hl : (Instr.buildSlice t n #[(0, xv)]).run P w0 = .ok v w2) : (execOp a.eval o).run P w = .ok (.value v) w2 := by subst hw; exact exec_buildSlice ho hx hl
theorem exec_appW (w0 : World) (hw : w = w0) {x y : Operand} {ts : Array TypeId} {xv yv v : Value} (ho : o.op = .call { callee := .builtin .append, args := #[x, y], argTypes := ts }) (hx : a.eval x = xv) (hy : a.eval y = yv) (hl : (Builtin.append_ ts o.type #[xv, yv]).run P w0 = .ok v w2) : (execOp a.eval o).run P w = .ok (.value v) w2 := by subst hw; exact exec_append ho hx hy hl
theorem exec_storeW (w0 : World) (hw : w = w0) {t : TypeId} {x y : Operand} {xv yv : Value} (ho : o.op = .store t x y) (hx : a.eval x = xv) (hy : a.eval y = yv) (hl : (Instr.storeAt t xv yv).run P w0 = .ok () w2) : (execOp a.eval o).run P w = .ok .skip w2 := by subst hw; exact exec_store ho hx hy hl
theorem exec_allocW (w0 : World) (hw : w = w0) {t : TypeId} {v : Value} (ho : o.op = .alloc t) (hl : (Instr.alloc t true (.tuple #[])).run P w0 = .ok v w2) : (execOp a.eval o).run P w = .ok (.value v) w2 := by subst hw; exact exec_alloc ho hl
end
/-- A told value. -/
def ToldV (B : Nat) (w : World) (f : Fn) (D I : List IdK) (v : Value) : Prop := ∃ N a b c d e T, v = .agg #[.int .i64 (D.length : Int), a, b, c, d, e] ∧ B ≤ N ∧ TS B N w a b c d e T ∧ ToldIs f D I T
theorem tell_build (w : World) (z : Int) (a : Option Addr) (n c : Nat) : (Instr.build 49 #[(0, .int .i64 z), (1, .slice a n c)]).run Try.prog w = .ok (.agg #[.int .i64 z, .slice a n c, .slice none 0 0, .slice none 0 0, .slice none 0 0, .slice none 0 0]) w := by kernel_rfl
theorem own_slice {w : World} {B : Nat} {v : Value} {X : List IdK} (h : OwnI w B v X) : ∃ a n c, v = .slice a n c := by
  rcases h.2 with ⟨rfl, _⟩ | ⟨g, cap, cur, rfl, _⟩
  · exact ⟨_, _, _, rfl⟩
  · exact ⟨_, _, _, rfl⟩
theorem exec_b2t {P : Program} {w : World} {a : Act} {o : Oper} {t i j : Nat} {x y : Operand} {xv yv v : Value} (ho : o.op = .build t #[(i, x), (j, y)]) (hx : a.eval x = xv) (hy : a.eval y = yv) (hl : (Instr.build t #[(i, xv), (j, yv)]).run P w = .ok v w) : (execOp a.eval o).run P w = .ok (.value v) w :=
  exec_build ho (by simp [hx, hy]) hl
set_option maxRecDepth 100000 in
set_option maxHeartbeats 8000000 in
/-- told. -/
theorem told_any {B : Nat} {w : World} {s : Tr} {H : List Rec} {f : Fn} (h : Own B w s H f) {D : List IdK} (hD : Dom f D) (hl : D.length ≤ 2600000000000) (a : Option Addr) (c : Nat) (I : List IdK) (hI : IdsAt w a I) (oI : ∀ x ∈ I, x.ok) (lI : I.length ≤ 5500000000000) :
    Calls Try.prog 21 #[.pointer (some ⟨s.t, 0, none⟩), .slice a I.length c] w fun e w' => ∃ v, e = .returned v ∧ ToldV w.heap.size w' f D I v ∧ Below w.heap.size w w' := by
  obtain ⟨n, hnn⟩ : ∃ n, I.length = n := ⟨_, rfl⟩
  have HNn := hidMk hnn
  have HLn := hidMk lI
  have hU : ∀ k, (nd f k).u.ok := fun k => by
    have hE := h.eq
    unfold nd
    cases hq : f k with
    | none => exact zId_ok
    | some m =>
      rw [← hE] at hq
      exact h.tree.tr.uok _ (M.look_mem hq)
  have HU := hidMk hU
  have H1 := hidMk (fun (W : World) (b : Below w.heap.size w W) => len_own (h.below b) hD)
  have H2 := hidMk (fun (W : World) (b : Below w.heap.size w W) => walk_own (h.below b) hD hl)
  have H3 := hidMk (fun (k : IdK) (hk : k.ok) (W : World) (b : Below w.heap.size w W) => under_own (h.below b) k hk)
  have H4 := hidMk (fun (k : IdK) (hk : k.ok) (W : World) (b : Below w.heap.size w W) => deep_own (h.below b) hD hl k hk)
  rw [hnn]
  clear hnn lI hU hl
  generalize s.t = t at *
  obtain ⟨nd0, hnd0⟩ : ∃ nd0, (D.length : Int) = nd0 := ⟨_, rfl⟩
  have HND := hidMk hnd0
  rw [hnd0] at H1
  clear hnd0 h
  go_enter Try.func21, Try.ntmps21
  obtain ⟨wA, hwA⟩ : ∃ wA, w.alloc (.cells #[.int .i64 0, .slice none 0 0, .slice none 0 0, .slice none 0 0, .slice none 0 0, .slice none 0 0] 49) = wA := ⟨_, rfl⟩
  have bA : Below w.heap.size w wA := by rw [← hwA]; exact (Below.refl _ _).alloc (Nat.le_refl _) _
  have hbr : wA.heap[w.heap.size]? = some (.cells #[.int .i64 0, .slice none 0 0, .slice none 0 0, .slice none 0 0, .slice none 0 0, .slice none 0 0] 49 (0, 0)) := by rw [← hwA]; exact heap_alloc_new _ _
  have EA := hidMk (tell_alloc w)
  rw [hwA] at EA
  clear hwA
  go_upto_region 1 with (first
    | (refine wpList_run rfl (exec_alloc (t := 49) (v := .pointer (some ⟨w.heap.size, 0, none⟩)) (w2 := wA) rfl EA.out) ?_)
    | fail)
  obtain ⟨br, hbrn⟩ : ∃ br, w.heap.size = br := ⟨_, rfl⟩
  have HBR := hidMk hbrn
  have lbr : w.heap.size < wA.heap.size := (Array.getElem?_eq_some_iff.1 hbr).1
  rw [hbrn] at hbr
  go_wp2_with (first
    | (go_at_call 12; refine (H1.out _ bA).mono ?_; rintro e w1 ⟨rfl, b1⟩; have c1 := bA.trans (b1.mono bA.size))
    | (go_at_call 13; refine (H2.out _ c1).mono ?_; rintro e w2 ⟨wkv, Wk, rfl, ow, iw, b2⟩; obtain ⟨aw, nw, cw, rfl⟩ := own_slice ow; obtain ⟨w3, e3, e4⟩ := tell_new w2 (.int .i64 nd0) (.slice aw nw cw) (.slice none 0 0) (.slice none 0 0) (.slice none 0 0) (.slice none 0 0) (by simp [Value.oneCell']); have E3 := hidMk e3; have E4 := hidMk e4; have bdv := hidMk (tell_build w2 nd0 aw nw cw); clear e3 e4)
    | (refine wpList_val rfl (exec_b2t (t := 49) (i := 0) (j := 1) (xv := .int .i64 nd0) (yv := .slice aw nw cw) (v := .agg #[.int .i64 nd0, .slice aw nw cw, .slice none 0 0, .slice none 0 0, .slice none 0 0, .slice none 0 0]) rfl rfl rfl bdv.out) ?_)
    | (refine wpList_run rfl (exec_alloc (t := 49) (v := .pointer (some ⟨w2.heap.size, 0, none⟩)) (w2 := w3) rfl E3.out) ?_)
    | (refine wpList_skip rfl rfl (exec_store (t := 49) (xv := .pointer (some ⟨w2.heap.size, 0, none⟩)) (yv := .agg #[.int .i64 nd0, .slice aw nw cw, .slice none 0 0, .slice none 0 0, .slice none 0 0, .slice none 0 0]) rfl rfl rfl E4.out) ?_)
    | fail)
  have c2 := c1.trans (b2.mono c1.size)
  have lbx : w.heap.size < w2.heap.size := by have := b1.size; have := b2.size; omega
  have hbr2 : w2.heap[br]? = some (.cells #[.int .i64 0, .slice none 0 0, .slice none 0 0, .slice none 0 0, .slice none 0 0, .slice none 0 0] 49 (0, 0)) := (b2.block _ (by have := b1.size; omega)).trans ((b1.block _ (by omega)).trans hbr)
  have b3 : Below w2.heap.size w2 (w2.alloc (.cells #[.int .i64 nd0, .slice aw nw cw, .slice none 0 0, .slice none 0 0, .slice none 0 0, .slice none 0 0] 49)) := (Below.refl _ _).alloc (Nat.le_refl _) _
  have hbx := heap_alloc_new w2 (.cells #[.int .i64 nd0, .slice aw nw cw, .slice none 0 0, .slice none 0 0, .slice none 0 0, .slice none 0 0] 49)
  have z3 : (w2.alloc (.cells #[.int .i64 nd0, .slice aw nw cw, .slice none 0 0, .slice none 0 0, .slice none 0 0, .slice none 0 0] 49)).heap.size = w2.heap.size + 1 := by simp
  generalize w2.alloc (.cells #[.int .i64 nd0, .slice aw nw cw, .slice none 0 0, .slice none 0 0, .slice none 0 0, .slice none 0 0] 49) = w3 at *
  have hbr3 := (b3.block br (by omega)).trans hbr2
  have ts0 : TS w.heap.size (w2.heap.size + 1) w3 (.slice aw nw cw) (.slice none 0 0) (.slice none 0 0) (.slice none 0 0) (.slice none 0 0) ⟨D.length, Wk, [], [], [], []⟩ := ⟨owI_base (ow.below b3) (by have := b1.size; have := bA.size; omega), ⟨rfl, Or.inl ⟨rfl, rfl⟩⟩, ⟨rfl, Or.inl ⟨rfl, rfl⟩⟩, ⟨rfl, Or.inl ⟨rfl, rfl⟩⟩, ⟨rfl, Or.inl ⟨rfl, rfl⟩⟩, fun j hj => by obtain ⟨_, c, q⟩ := ow.ge j hj; have := (Array.getElem?_eq_some_iff.1 q).1; omega⟩
  have tl0 : ToldIs f D (I.take 0) ⟨D.length, Wk, [], [], [], []⟩ := ⟨rfl, iw, rfl, rfl, rfl, rfl, fun i k z hk => by simp at hk⟩
  have c3 := c2.trans (b3.mono c2.size)
  obtain ⟨bx, hbxn⟩ : ∃ bx, w2.heap.size = bx := ⟨_, rfl⟩
  rw [hbxn] at hbx ts0 z3 ⊢
  have hbrx : br ≠ bx := by omega
  have hzN : bx + 1 ≤ w3.heap.size := by omega
  have lwb : w.heap.size ≤ bx := by omega
  have HBW := hidMk lwb
  have HXR := hidMk hbrx
  clear b1 b2 b3 c1 c2 bA ow iw hbr hbr2 lbx z3 hbxn E3 E4 bdv EA H1 H2 hbrn lbr lwb hbrx
  go_loopw [6] (fun v6 wr => ∃ (i : Nat) (b c' d e : Value) (T : TellV), v6 = .int .i64 (i : Int) ∧ i ≤ n ∧ wr.heap[bx]? = some (.cells #[.int .i64 nd0, .slice aw nw cw, b, c', d, e] 49 (0, 0)) ∧ TS w.heap.size (bx + 1) wr (.slice aw nw cw) b c' d e T ∧ ToldIs f D (I.take i) T ∧ wr.heap[br]? = some (.cells #[.int .i64 0, .slice none 0 0, .slice none 0 0, .slice none 0 0, .slice none 0 0, .slice none 0 0] 49 (0, 0)) ∧ Below w.heap.size w wr ∧ bx + 1 ≤ wr.heap.size) (fun v6 wr => n - (match v6 with | .int _ i => i.toNat | _ => 0))
  case atStart => exact ⟨0, _, _, _, _, _, rfl, Nat.zero_le _, hbx, ts0, tl0, hbr3, c3, hzN⟩
  case round =>
    clear hbx ts0 tl0 hbr3 c3 hzN
    obtain ⟨i, vb, vc, vd, ve, T, rfl, hin, hx, ts, tl, hbr, bel, hzN⟩ := hrel
    have hLn := HNn.out
    have hbig := HLn.out
    by_cases hi : i < n
    · have hxi : I[i]? = some I[i] := List.getElem?_eq_getElem (by omega)
      generalize I[i] = k at hxi
      have hko : k.ok := oI k (List.mem_of_getElem? hxi)
      obtain ⟨b0, o0, rfl, lb, hr⟩ : ∃ b o, a = some ⟨b, o, none⟩ ∧ b < w.heap.size ∧ w.rangeAt b (o + i * 33) k.c := by
        rcases hI with rfl | ⟨b, o, e, h1, h2⟩
        · simp at hxi
        · exact ⟨b, o, e, h1, by rw [Nat.mul_comm]; exact h2 i k hxi⟩
      have HR := hidMk (fun (W : World) (bb : Below w.heap.size w W) => load_id_at hko (rangeAt_keep hr (bb.block _ lb)))
      have HXI := hidMk hxi
      have HL0 := hidMk (HR.out wr bel)
      have HUO := HU.out k
      have HTL := hidMk tl
      have tlens : T.un.length = i ∧ T.ks.length = i ∧ T.is.length = i ∧ T.dp.length = i := by
        have : (I.take i).length = i := by rw [List.length_take]; omega
        refine ⟨by rw [tl.un, List.length_map, this], by rw [tl.ks, List.length_map, this], by rw [tl.is, List.length_map, this], by rw [tl.dl, this]⟩
      have okU : ∀ x ∈ T.un, x.ok := by rw [tl.un]; intro x hx; obtain ⟨y, _, rfl⟩ := List.mem_map.1 hx; exact HU.out y
      have HUN := hidMk (H3.out k hko wr bel)
      clear tl hxi hr lb
      generalize hu0 : (nd f k).u = u at *
      generalize hk0 : (nd f k).key = key at *
      generalize hq0 : ((f k).isSome && !(nd f k).pr) = q at *
      have HU0 := hidMk hu0
      have HK0 := hidMk hk0
      have HQ0 := hidMk hq0
      clear hu0 hk0 hq0
      have TLN := hidMk tlens
      have HOU := hidMk okU
      have HHX := hidMk hx
      have HHB := hidMk hbr
      have HBEL := hidMk bel
      have hn2 : n ≤ 5500000000000 := by omega
      clear tlens okU hx hbr hLn
      go_upto_region 6 with (first
        | (refine wpList_val rfl (exec_loadW wr rfl (t := 35) (u := .pointer (some ⟨b0, o0 + i * 33, none⟩)) rfl rfl HL0.out) ?_)
        | (go_at_call 14; refine HUN.out.mono ?_; rintro e w4 ⟨rfl, b4⟩; obtain ⟨w5, ea, es⟩ := id_newT w4 u HUO; have HEA := hidMk ea; have HES := hidMk es; clear ea es HUN)
        | (refine wpList_run rfl (exec_allocW w4 rfl (t := 35) (v := .pointer (some ⟨w4.heap.size, 0, none⟩)) (w2 := w5) rfl HEA.out) ?_)
        | (refine wpList_skip rfl rfl (exec_storeW w5 rfl (t := 35) (xv := .pointer (some ⟨w4.heap.size, 0, none⟩)) (yv := u.v) rfl rfl rfl HES.out) ?_)
        | fail)
      have b6 : Below w4.heap.size w4 (w4.alloc (.cells u.c.toArray 35)) := (Below.refl _ _).alloc (Nat.le_refl _) _
      have hub : IdAt (w4.alloc (.cells u.c.toArray 35)) w4.heap.size u := heap_alloc_new _ _
      generalize w4.alloc (.cells u.c.toArray 35) = w6 at *
      obtain ⟨ub, hubn⟩ : ∃ ub, w4.heap.size = ub := ⟨_, rfl⟩
      rw [hubn] at hub ⊢
      clear hubn HES HEA
      have b46 : Below wr.heap.size wr w6 := b4.trans (b6.mono b4.size)
      have hx6 := (b46.block bx (by omega)).trans HHX.out
      have ts6 := ts.below b46
      have hN6 : bx + 1 ≤ w6.heap.size := Nat.le_trans hzN b46.size
      have TL := TLN.out
      obtain ⟨l2, q2, a2, b2, w7, f1, f2, f3, f4, hx7, ts7, _, t7⟩ := tell_more2 hx6 ts6 hN6 (by omega) HOU.out u HUO
      have hN7 : bx + 1 ≤ w7.heap.size := Nat.le_trans hN6 t7.size
      obtain ⟨l3, q3, a3, b3, w8, g1, g2, g3, g4, hx8, ts8, _, t8⟩ := tell_more3 hx7 ts7 hN7 (show T.ks.length ≤ _ by omega) key
      have hN8 : bx + 1 ≤ w8.heap.size := Nat.le_trans hN7 t8.size
      obtain ⟨l4, q4, a4, b4', w9, k1, k2, k3, k4, hx9, ts9, _, t9⟩ := tell_more4 hx8 ts8 hN8 (show T.is.length ≤ _ by omega) q
      have hN9 : bx + 1 ≤ w9.heap.size := Nat.le_trans hN8 t9.size
      have t69 : Tch (fun j => j = bx ∨ bx + 1 ≤ j) w6 w9 := t7.trans (t8.trans t9)
      have bw6 : Below w.heap.size w w6 := HBEL.out.trans (b46.mono HBEL.out.size)
      have hlwb := HBW.out
      have bw9 : Below w.heap.size w w9 := bw6.trans (t69.below bw6.size fun j hj => by rcases hj with rfl | hj <;> omega)
      have hbr9 : w9.heap[br]? = some (.cells #[.int .i64 0, .slice none 0 0, .slice none 0 0, .slice none 0 0, .slice none 0 0, .slice none 0 0] 49 (0, 0)) := by
        have hb := HBR.out
        have hxr := HXR.out
        refine (t69.block br ?_ ?_).trans ((b46.block br ?_).trans HHB.out)
        · have := (Array.getElem?_eq_some_iff.1 HHB.out).1; have := b46.size; omega
        · rintro (q | q) <;> omega
        · exact (Array.getElem?_eq_some_iff.1 HHB.out).1
      have A1 := load_ids (tell_cell2 hx6)
      have A2 := load_id HUO hub
      have B1 := load_sts (tell_cell3 hx7)
      have C1 := load_bls (tell_cell4 hx8)
      clear f4 g4 k4 hx6 hx7 hx8 ts6 ts7 ts8 hub t7 t8 t9 t69 hN6 hN7 hN8 bw6 TL b6 b46 hzN ts
      refine told6 bx (.pointer (some ⟨ub, 0, none⟩)) u.v vb l2 q2 w6 a2 b2 w7 _ _ rfl rfl rfl (fun W => by go_simp) A1 A2 f1 f2 f3 ?_
      intro a' ha
      subst ha
      simp only [Act.put, List.setIfInBounds_toArray, List.set_cons_zero, List.set_cons_succ]
      clear A1 A2 f1 f2 f3
      go_upto_region 7 with fail
      refine told7 bx (.string key) vc l3 q3 w7 a3 b3 w8 _ _ rfl rfl rfl (fun W => by go_simp) B1 g1 g2 g3 ?_
      intro a' ha
      subst ha
      simp only [Act.put, List.setIfInBounds_toArray, List.set_cons_zero, List.set_cons_succ]
      clear B1 g1 g2 g3
      go_upto_region 8 with fail
      refine told8 bx (.bool q) vd l4 q4 w8 a4 b4' w9 _ _ rfl rfl rfl (fun W => by go_simp) C1 k1 k2 k3 ?_
      intro a' ha
      subst ha
      simp only [Act.put, List.setIfInBounds_toArray, List.set_cons_zero, List.set_cons_succ]
      clear C1 k1 k2 k3
      go_upto_region 9 with fail
      have bd : Below w9.heap.size w9 w9.drew := (Below.refl _ _).drew
      have bw9d := bw9.trans (bd.mono bw9.size)
      refine told9 bx b0 (o0 + i * 33) (.pointer (some ⟨t, 0, none⟩)) (.slice (some ⟨b0, o0, none⟩) n c) (.int .i64 (i : Int)) k.v ve (fun W => Below w.heap.size w W) (fun dv X => ∃ z, dv = .int .i64 z ∧ DeepIs f k z ∧ Below w9.heap.size w9 X)
        (fun dv W => ∃ z q5, DeepIs f k z ∧ W.heap[bx]? = some (.cells #[.int .i64 nd0, .slice aw nw cw, q2, q3, q4, q5] 49 (0, 0)) ∧ TS w.heap.size (bx + 1) W (.slice aw nw cw) q2 q3 q4 q5 ⟨T.n, T.wk, T.un ++ [u], T.ks ++ [key], T.is ++ [q], T.dp ++ [z]⟩ ∧ W.heap[br]? = some (.cells #[.int .i64 0, .slice none 0 0, .slice none 0 0, .slice none 0 0, .slice none 0 0, .slice none 0 0] 49 (0, 0)) ∧ Below w.heap.size w W ∧ bx + 1 ≤ W.heap.size) _ w9 _ rfl rfl rfl rfl rfl ?_ ?_ ?_ bw9d ?_ ?_ ?_ ?_ ?_ ?_
      · exact fun W => by go_simp
      · exact fun W => ix_id hi (by omega) W
      · exact fun W hw => HR.out W hw
      · exact load_ins (tell_cell5 hx9)
      · refine (H4.out k hko _ bw9d).mono ?_
        rintro e X ⟨z, rfl, hz, bX⟩
        exact ⟨_, rfl, z, rfl, hz, bd.trans (bX.mono bd.size)⟩
      · rintro dv X ⟨z, rfl, hz, bX⟩
        have hxX := (bX.block bx (by omega)).trans hx9
        obtain ⟨nv, qv, y2, y3, y4, m1, m2, m3, m4, m5, m6, m7, m8⟩ := tell_more5 hxX (ts9.below bX) (Nat.le_trans hN9 bX.size) (show T.dp.length ≤ _ by have := TLN.out; omega) z
        have bwX := bw9.trans (bX.mono bw9.size)
        have ow : ∀ j, (j = bx ∨ bx + 1 ≤ j) → w.heap.size ≤ j := fun j hj => by rcases hj with rfl | hj <;> omega
        have bw3 := bwX.trans (m7.below bwX.size ow)
        have bw4 := bwX.trans (m8.below bwX.size ow)
        refine ⟨nv, y2, qv, y3, y4, m1, m2, m3, bwX, bwX.trans (m4.mono bwX.size), bw3, bw4, load_ins (tell_cell5 hxX), load_ins (tell_cell5 ((m4.block bx (by have := bX.size; omega)).trans hxX)), z, qv, hz, m5, m6, ?_, bw4, Nat.le_trans hN9 (Nat.le_trans bX.size m8.size)⟩
        have hb := HBR.out
        have hxr := HXR.out
        have lb := (Array.getElem?_eq_some_iff.1 hbr9).1
        refine (m8.block br (by have := bX.size; omega) ?_).trans ((bX.block br lb).trans hbr9)
        rintro (q | q) <;> omega
      all_goals
        rintro dv nv qv a' w' ⟨z, q5, hz, hx', ts', hbr', bel', hzN'⟩ ha
        subst ha
        simp only [Act.put, List.setIfInBounds_toArray, List.set_cons_zero, List.set_cons_succ]
        have FH := hidMk hx'
        have FB := hidMk hbr'
        clear hx' hbr' hx9 hbr9 ts9
        go_wp2
        rw [show ((i : Int) + 1) = ((i + 1 : Nat) : Int) by omega]
        refine ⟨⟨i + 1, q2, q3, q4, q5, _, rfl, hi, FH.out, ts', ?_, FB.out, bel', hzN'⟩, ?_⟩
        · rw [List.take_add_one, HXI.out, Option.toList_some]
          have := HTL.out.snoc (x := k) hz
          rw [HU0.out, HK0.out, HQ0.out] at this
          exact this
        · show n - ((i + 1 : Nat) : Int).toNat < n - (i : Int).toNat
          omega
    · obtain rfl : i = n := by omega
      have HT := hidMk tl
      have o1 : (#[.int .i64 nd0, .slice aw nw cw, vb, vc, vd, ve] : Array Value).all Value.oneCell' = true := by
        have q1 := sl_oneI ts.un
        have q2 := sl_one ts.ks
        have q3 := sl_one ts.is
        have q4 := sl_one ts.dp
        simp [q1, q2, q3, q4]
        simp [Value.oneCell']
      have st := tell_store hbr rfl (.int .i64 nd0) (.slice aw nw cw) vb vc vd ve o1
      have hbr' := setRow_heap wr br _ #[.int .i64 nd0, .slice aw nw cw, vb, vc, vd, ve] _ _ hbr
      have ts' := setRow_tch wr br #[.int .i64 nd0, .slice aw nw cw, vb, vc, vd, ve]
      have HST := hidMk st
      have HL := hidMk (tell_load hx)
      have fin : TS w.heap.size (bx + 1) (wr.setRow br #[.int .i64 nd0, .slice aw nw cw, vb, vc, vd, ve]) (.slice aw nw cw) vb vc vd ve T := ts.keep ts' (fun j hj e => by
        injection e with e
        subst e
        rcases hj with q | q | q | q | q
        · exact tell_notI hbr ts.wk q
        · exact tell_notI hbr ts.un q
        · exact tell_not hbr ts.ks (by decide) q
        · exact tell_not hbr ts.is (by decide) q
        · exact tell_not hbr ts.dp (by decide) q)
      have bfin : Below w.heap.size w (wr.setRow br #[.int .i64 nd0, .slice aw nw cw, vb, vc, vd, ve]) := bel.trans (ts'.below bel.size (fun j e => by injection e with e; have := HBR.out; omega))
      have LV := tell_loadVar hbr'
      generalize wr.setRow br #[.int .i64 nd0, .slice aw nw cw, vb, vc, vd, ve] = wz at *
      have FIN := hidMk fin
      have BFIN := hidMk bfin
      have HLV := hidMk LV
      clear hin hi tl o1 st hbr' ts' fin bfin LV hx hbr ts bel hzN
      rw [HBR.out]
      go_wp2_with (first
        | (refine wpList_val rfl (exec_load (t := 49) (u := .pointer (some ⟨bx, 0, none⟩)) rfl rfl HL.out) ?_)
        | (refine wpList_skip rfl rfl (exec_store (t := 49) (xv := .pointer (some ⟨br, 0, none⟩)) (yv := .agg #[.int .i64 nd0, .slice aw nw cw, vb, vc, vd, ve]) rfl rfl rfl HST.out) ?_)
        | fail)
      refine bodyPost_ret (results_c1 rfl rfl HLV.out) rfl ?_
      refine ⟨_, rfl, ⟨bx + 1, _, vb, vc, vd, ve, T, by rw [HND.out], by have := HBW.out; omega, FIN.out, ?_⟩, BFIN.out⟩
      have := HT.out
      rwa [List.take_of_length_le (by rw [hLn]; exact Nat.le_refl _)] at this
end Go.Proofs.Ytoofljkgdjjllab

namespace Go.Proofs.Ytoofljkgdjjllab
open Go.RowKit
set_option linter.unusedVariables false
set_option linter.unusedSimpArgs false

set_option maxRecDepth 100000 in
set_option maxHeartbeats 2000000 in
theorem same_texts (a b : Option Addr) (ca cb : Nat) (A : List ByteArray) (w : World) (hA : Vals w a (A.map Value.string)) (hB : Vals w b (A.map Value.string)) (lA : A.length ≤ 7000000000000) :
    Calls Try.prog 39 #[.slice a A.length ca, .slice b A.length cb] w fun e w' => e = .returned (.bool true) ∧ Below w.heap.size w w' := by
  obtain ⟨n, hn⟩ : ∃ n, A.length = n := ⟨_, rfl⟩
  have HN := hidMk hn
  have HLA := hidMk lA
  rw [hn]
  clear hn lA
  go_enter Try.func39, Try.ntmps39
  go_wp2
  go_loopw [5] (fun v5 wr => ∃ i : Nat, v5 = .int .i64 (i : Int) ∧ i ≤ n ∧ Below w.heap.size w wr) (fun v5 wr => n - (match v5 with | .int _ i => i.toNat | _ => 0))
  case atStart => exact ⟨0, rfl, Nat.zero_le _, Below.refl _ _⟩
  case round =>
    obtain ⟨i, rfl, hin, bel⟩ := hrel
    have hLn := HN.out
    have hbig := HLA.out
    by_cases hi : i < n
    · have hxi : A[i]? = some A[i] := List.getElem?_eq_getElem (by omega)
      generalize A[i] = s at hxi
      have hxv : (A.map Value.string)[i]? = some (.string s) := by rw [List.getElem?_map, hxi]; rfl
      obtain ⟨a1, o1, rfl, h1⟩ : ∃ b o, a = some ⟨b, o, none⟩ ∧ w.cell? ⟨b, o + i, none⟩ = some (.string s) := by
        rcases hA with e | ⟨b, o, e, h⟩
        · rw [e] at hxv; simp at hxv
        · exact ⟨b, o, e, h i _ hxv⟩
      obtain ⟨b1, o2, rfl, h2⟩ : ∃ b' o, b = some ⟨b', o, none⟩ ∧ w.cell? ⟨b', o + i, none⟩ = some (.string s) := by
        rcases hB with e | ⟨b, o, e, h⟩
        · rw [e] at hxv; simp at hxv
        · exact ⟨b, o, e, h i _ hxv⟩
      have l1 := block_lt_of_cell h1
      have l2 := block_lt_of_cell h2
      have hn2 : n ≤ 7000000000000 := by omega
      clear hxi hxv hLn
      go_upto_region 6 with fail
      have beld : Below w.heap.size w wr.drew := bel.drew
      have ld : ∀ (W : World) (b o : Nat), Below w.heap.size w W → b < w.heap.size → w.cell? ⟨b, o, none⟩ = some (.string s) → (Instr.loadAt 9 (.pointer (some ⟨b, o, none⟩))).run Try.prog W = .ok (.string s) W := fun W b o bW lb hc => by
        have := (bW.cell (p := ⟨b, o, none⟩) lb).trans hc
        go_simp
      refine texts6 (fun W => Below w.heap.size w W) a1 (o1 + i) b1 (o2 + i) (.int .i64 (i : Int)) (.slice (some ⟨a1, o1, none⟩) n ca) (.slice (some ⟨b1, o2, none⟩) n cb) s _ wr _ rfl rfl rfl rfl beld ?_ ?_ ?_ ?_ ?_ ?_ ?_
      · exact fun W => by go_simp
      · exact fun W bW => ld W a1 (o1 + i) bW l1 h1
      · exact fun W => by go_simp
      · exact fun W bW => ld W b1 (o2 + i) bW l2 h2
      · exact fun W => by go_simp
      · exact fun W bW => by go_simp
      intro a' w' hw' ha
      subst ha
      simp only [Act.put, List.setIfInBounds_toArray, List.set_cons_zero, List.set_cons_succ]
      clear ld beld h1 h2
      go_wp2
      rw [show ((i : Int) + 1) = ((i + 1 : Nat) : Int) by omega]
      refine ⟨⟨i + 1, rfl, hi, hw'⟩, ?_⟩
      show n - ((i + 1 : Nat) : Int).toNat < n - (i : Int).toNat
      omega
    · obtain rfl : i = n := by omega
      clear hin hi hLn
      go_wp2
      go_ret
      exact ⟨rfl, bel⟩
theorem tell_boxes (w : World) (x y : Array Value) : ((w.alloc (.cells x 49)).alloc (.cells y 49)).heap[w.heap.size]? = some (.cells x 49 (0, 0)) ∧ ((w.alloc (.cells x 49)).alloc (.cells y 49)).heap[w.heap.size + 1]? = some (.cells y 49 (0, 0)) ∧ Below w.heap.size w ((w.alloc (.cells x 49)).alloc (.cells y 49)) := by
  have z : (w.alloc (.cells x 49)).heap.size = w.heap.size + 1 := by simp
  refine ⟨?_, ?_, ((Below.refl _ _).alloc (Nat.le_refl _) _).alloc (by simp) _⟩
  · rw [Below.heap_alloc _ _ _ (by omega)]; exact heap_alloc_new _ _
  · rw [← z]; exact heap_alloc_new _ _
set_option maxRecDepth 100000 in
set_option maxHeartbeats 8000000 in
/-- sameTells of what is the same. -/
theorem same_tells {B B' N N' : Nat} {w : World} {a b c d e a' b' c' d' e' : Value} {T : TellV} (h : TS B N w a b c d e T) (h' : TS B' N' w a' b' c' d' e' T) (ok1 : ∀ x ∈ T.wk, x.ok) (ok2 : ∀ x ∈ T.un, x.ok) (l1 : T.wk.length ≤ 5600000000000) (l2 : T.un.length ≤ 5600000000000) (l3 : T.ks.length ≤ 5600000000000) (l4 : T.is.length ≤ 5600000000000) (l5 : T.dp.length = T.is.length) (z : Int) :
    Calls Try.prog 23 #[.agg #[.int .i64 z, a, b, c, d, e], .agg #[.int .i64 z, a', b', c', d', e']] w fun r w' => r = .returned (.bool true) ∧ Below w.heap.size w w' := by
  obtain ⟨pa, ka, rfl, ia, _⟩ := h.wk.open ok1
  obtain ⟨pb, kb, rfl, ib, _⟩ := h.un.open ok2
  obtain ⟨pc, kc, rfl, _, ic, _⟩ := h.ks.open
  obtain ⟨pd, kd, rfl, _, id, _⟩ := h.is.open
  obtain ⟨pe, ke, rfl, _, ie, _⟩ := h.dp.open
  obtain ⟨qa, ja, rfl, ia', _⟩ := h'.wk.open ok1
  obtain ⟨qb, jb, rfl, ib', _⟩ := h'.un.open ok2
  obtain ⟨qc, jc, rfl, _, ic', _⟩ := h'.ks.open
  obtain ⟨qd, jd, rfl, _, id', _⟩ := h'.is.open
  obtain ⟨qe, je, rfl, _, ie', _⟩ := h'.dp.open
  clear h h'
  have F1 := hidMk (fun (W : World) (bl : Below w.heap.size w W) => same_ids pa qa ka ja T.wk T.wk W (ia.below bl) (ia'.below bl) ok1 ok1 (by omega))
  have F2 := hidMk (fun (W : World) (bl : Below w.heap.size w W) => same_ids pb qb kb jb T.un T.un W (ib.below bl) (ib'.below bl) ok2 ok2 (by omega))
  have F3 := hidMk (fun (W : World) (bl : Below w.heap.size w W) => same_texts pc qc kc jc T.ks W (ic.below bl) (ic'.below bl) (by omega))
  simp only [decide_true] at F1 F2
  simp only [List.length_map]
  rw [l5]
  have hid := hidMk id
  have hid' := hidMk id'
  have hie := hidMk ie
  have hie' := hidMk ie'
  have HL5 := hidMk l5
  clear id id' ie ie' ia ia' ib ib' ic ic' l5 ok1 ok2 l1 l2 l3
  generalize T.wk.length = n1 at *
  generalize T.un.length = n2 at *
  generalize T.ks.length = n3 at *
  obtain ⟨n, hn⟩ : ∃ n, T.is.length = n := ⟨_, rfl⟩
  have HN := hidMk hn
  rw [hn] at l4 ⊢
  clear hn
  go_enter Try.func23, Try.ntmps23
  go_upto_region 1 with fail
  obtain ⟨hx, hy, bx⟩ := tell_boxes w #[.int .i64 z, .slice pa n1 ka, .slice pb n2 kb, .slice pc n3 kc, .slice pd n kd, .slice pe n ke] #[.int .i64 z, .slice qa n1 ja, .slice qb n2 jb, .slice qc n3 jc, .slice qd n jd, .slice qe n je]
  generalize (w.alloc (.cells #[.int .i64 z, .slice pa n1 ka, .slice pb n2 kb, .slice pc n3 kc, .slice pd n kd, .slice pe n ke] 49)).alloc (.cells #[.int .i64 z, .slice qa n1 ja, .slice qb n2 jb, .slice qc n3 jc, .slice qd n jd, .slice qe n je] 49) = W at *
  have lx := (Array.getElem?_eq_some_iff.1 hx).1
  have ly := (Array.getElem?_eq_some_iff.1 hy).1
  generalize w.heap.size + 1 = bb at *
  obtain ⟨ba, hba⟩ : ∃ ba, w.heap.size = ba := ⟨_, rfl⟩
  have HBA := hidMk hba
  have BX := hidMk bx
  rw [hba] at hx lx ⊢
  clear hba bx
  have HXX := hidMk (fun (V : World) (bl : Below W.heap.size W V) => (bl.block _ lx).trans hx)
  have HYY := hidMk (fun (V : World) (bl : Below W.heap.size W V) => (bl.block _ ly).trans hy)
  have X0 : W.cell? ⟨ba, 0, none⟩ = some (.int .i64 z) := by rw [cell_of_row _ _ 0 _ _ _ hx]; rfl
  have Y0 : W.cell? ⟨bb, 0, none⟩ = some (.int .i64 z) := by rw [cell_of_row _ _ 0 _ _ _ hy]; rfl
  have L1 := hidMk (fun (V : World) (bl : Below W.heap.size W V) => load_ids (show V.cell? ⟨ba, 1, none⟩ = some (.slice pa n1 ka) by rw [cell_of_row _ _ 1 _ _ _ (HXX.out V bl)]; rfl))
  have M1 := hidMk (fun (V : World) (bl : Below W.heap.size W V) => load_ids (show V.cell? ⟨bb, 1, none⟩ = some (.slice qa n1 ja) by rw [cell_of_row _ _ 1 _ _ _ (HYY.out V bl)]; rfl))
  have L2 := hidMk (fun (V : World) (bl : Below W.heap.size W V) => load_ids (show V.cell? ⟨ba, 2, none⟩ = some (.slice pb n2 kb) by rw [cell_of_row _ _ 2 _ _ _ (HXX.out V bl)]; rfl))
  have M2 := hidMk (fun (V : World) (bl : Below W.heap.size W V) => load_ids (show V.cell? ⟨bb, 2, none⟩ = some (.slice qb n2 jb) by rw [cell_of_row _ _ 2 _ _ _ (HYY.out V bl)]; rfl))
  have L3 := hidMk (fun (V : World) (bl : Below W.heap.size W V) => load_sts (show V.cell? ⟨ba, 3, none⟩ = some (.slice pc n3 kc) by rw [cell_of_row _ _ 3 _ _ _ (HXX.out V bl)]; rfl))
  have M3 := hidMk (fun (V : World) (bl : Below W.heap.size W V) => load_sts (show V.cell? ⟨bb, 3, none⟩ = some (.slice qc n3 jc) by rw [cell_of_row _ _ 3 _ _ _ (HYY.out V bl)]; rfl))
  have L4 := hidMk (fun (V : World) (bl : Below W.heap.size W V) => load_bls (show V.cell? ⟨ba, 4, none⟩ = some (.slice pd n kd) by rw [cell_of_row _ _ 4 _ _ _ (HXX.out V bl)]; rfl))
  have M4 := hidMk (fun (V : World) (bl : Below W.heap.size W V) => load_bls (show V.cell? ⟨bb, 4, none⟩ = some (.slice qd n jd) by rw [cell_of_row _ _ 4 _ _ _ (HYY.out V bl)]; rfl))
  have L5 := hidMk (fun (V : World) (bl : Below W.heap.size W V) => load_ins (show V.cell? ⟨ba, 5, none⟩ = some (.slice pe n ke) by rw [cell_of_row _ _ 5 _ _ _ (HXX.out V bl)]; rfl))
  have M5 := hidMk (fun (V : World) (bl : Below W.heap.size W V) => load_ins (show V.cell? ⟨bb, 5, none⟩ = some (.slice qe n je) by rw [cell_of_row _ _ 5 _ _ _ (HYY.out V bl)]; rfl))
  have c0 : Below W.heap.size W W := Below.refl _ _
  clear hx hy lx ly
  go_upto_region 3 with (first
    | (refine wpList_val rfl (exec_load (t := 46) (u := .pointer (some ⟨ba, 4, none⟩)) rfl rfl (L4.out _ c0)) ?_)
    | (refine wpList_val rfl (exec_load (t := 46) (u := .pointer (some ⟨bb, 4, none⟩)) rfl rfl (M4.out _ c0)) ?_)
    | (refine wpList_val rfl (exec_load (t := 30) (u := .pointer (some ⟨ba, 1, none⟩)) rfl rfl (L1.out _ c0)) ?_)
    | (refine wpList_val rfl (exec_load (t := 30) (u := .pointer (some ⟨bb, 1, none⟩)) rfl rfl (M1.out _ c0)) ?_)
    | (go_at_call 30; refine (F1.out _ BX.out).mono ?_; rintro r w1 ⟨rfl, b1⟩; have c1 : Below W.heap.size W w1 := b1; clear F1)
    | (refine wpList_val rfl (exec_load (t := 30) (u := .pointer (some ⟨ba, 2, none⟩)) rfl rfl (L2.out _ c1)) ?_)
    | (refine wpList_val rfl (exec_load (t := 30) (u := .pointer (some ⟨bb, 2, none⟩)) rfl rfl (M2.out _ c1)) ?_)
    | (go_at_call 30; refine (F2.out _ (BX.out.trans (c1.mono BX.out.size))).mono ?_; rintro r w2 ⟨rfl, b2⟩; have c2 : Below W.heap.size W w2 := c1.trans (b2.mono c1.size); clear F2)
    | (refine wpList_val rfl (exec_load (t := 45) (u := .pointer (some ⟨ba, 3, none⟩)) rfl rfl (L3.out _ c2)) ?_)
    | (refine wpList_val rfl (exec_load (t := 45) (u := .pointer (some ⟨bb, 3, none⟩)) rfl rfl (M3.out _ c2)) ?_)
    | (go_at_call 39; refine (F3.out _ (BX.out.trans (c2.mono BX.out.size))).mono ?_; rintro r w3 ⟨rfl, b3⟩; have c3 : Below W.heap.size W w3 := c2.trans (b3.mono c2.size); clear F3)
    | fail)
  clear X0 Y0 c0 c1 c2 b1 b2 b3
  go_wp2
  go_loopw [5] (fun v5 wr => ∃ i : Nat, v5 = .int .i64 (i : Int) ∧ i ≤ n ∧ Below W.heap.size W wr) (fun v5 wr => n - (match v5 with | .int _ i => i.toNat | _ => 0))
  case atStart => exact ⟨0, rfl, Nat.zero_le _, c3⟩
  case round =>
    clear c3
    obtain ⟨i, rfl, hin, bel⟩ := hrel
    have hbel := BX.out.trans (bel.mono BX.out.size)
    by_cases hi : i < n
    · obtain ⟨q, hq⟩ : ∃ q, T.is[i]? = some q := ⟨_, List.getElem?_eq_getElem (by have := HN.out; omega)⟩
      obtain ⟨zz, hz⟩ : ∃ zz, T.dp[i]? = some zz := ⟨_, List.getElem?_eq_getElem (by have := HN.out; have := HL5.out; omega)⟩
      have vq : (T.is.map Value.bool)[i]? = some (.bool q) := by rw [List.getElem?_map, hq]; rfl
      have vz : (T.dp.map inV)[i]? = some (.int .i64 zz) := by rw [List.getElem?_map, hz]; rfl
      have get : ∀ {p : Option Addr} {X : List Value} {u : Value}, Vals w p X → X[i]? = some u → ∃ bq o, p = some ⟨bq, o, none⟩ ∧ bq < w.heap.size ∧ w.cell? ⟨bq, o + i, none⟩ = some u := fun hv hu => by
        rcases hv with rfl | ⟨bq, o, e, hc⟩
        · simp at hu
        · exact ⟨bq, o, e, block_lt_of_cell (hc i _ hu), hc i _ hu⟩
      obtain ⟨a1, o1, rfl, k1, g1⟩ := get hid.out vq
      obtain ⟨b1, o2, rfl, k2, g2⟩ := get hid'.out vq
      obtain ⟨a2, o3, rfl, k3, g3⟩ := get hie.out vz
      obtain ⟨b2, o4, rfl, k4, g4⟩ := get hie'.out vz
      clear get vq vz hq hz
      go_upto_region 6 with (first
        | (refine wpList_val rfl (exec_load (t := 46) (u := .pointer (some ⟨ba, 4, none⟩)) rfl rfl (L4.out _ bel)) ?_)
        | fail)
      have beld : Below W.heap.size W wr.drew := bel.drew
      have HG := hidMk (fun (V : World) (bl : Below W.heap.size W V) (bq o : Nat) (u : Value) (lt : bq < w.heap.size) (hc : w.cell? ⟨bq, o, none⟩ = some u) => ((BX.out.trans (bl.mono BX.out.size)).cell (p := ⟨bq, o, none⟩) lt).trans hc)
      refine same6 (fun V => Below W.heap.size W V) ba bb a1 (o1 + i) b1 (o2 + i) a2 (o3 + i) b2 (o4 + i) (.int .i64 (i : Int)) (.slice (some ⟨a1, o1, none⟩) n kd) (.slice (some ⟨b1, o2, none⟩) n jd) (.slice (some ⟨a2, o3, none⟩) n ke) (.slice (some ⟨b2, o4, none⟩) n je) (.int .i64 zz) q _ wr _ rfl rfl rfl rfl beld ?_ ?_ ?_ ?_ ?_ ?_ ?_ ?_ ?_ ?_ ?_ ?_ ?_ ?_ ?_ ?_ ?_
      · exact fun V bl => L4.out V bl
      · exact fun V => by go_simp
      · exact fun V bl => by have := HG.out V bl _ _ _ k1 g1; go_simp
      · exact fun V bl => M4.out V bl
      · exact fun V => by go_simp
      · exact fun V bl => by have := HG.out V bl _ _ _ k2 g2; go_simp
      · exact fun V => by go_simp
      · exact fun V bl => by go_simp
      · exact fun V bl => L5.out V bl
      · exact fun V => by go_simp
      · exact fun V bl => by have := HG.out V bl _ _ _ k3 g3; go_simp
      · exact fun V bl => M5.out V bl
      · exact fun V => by go_simp
      · exact fun V bl => by have := HG.out V bl _ _ _ k4 g4; go_simp
      · exact fun V => by go_simp
      · exact fun V bl => by go_simp
      intro a' w' hw' ha
      subst ha
      simp only [Act.put, List.setIfInBounds_toArray, List.set_cons_zero, List.set_cons_succ]
      clear beld g1 g2 g3 g4
      go_wp2
      rw [show ((i : Int) + 1) = ((i + 1 : Nat) : Int) by omega]
      refine ⟨⟨i + 1, rfl, hi, hw'⟩, ?_⟩
      show n - ((i + 1 : Nat) : Int).toNat < n - (i : Int).toNat
      omega
    · obtain rfl : i = n := by omega
      clear hin hi
      go_wp2_with (first
        | (refine wpList_val rfl (exec_load (t := 46) (u := .pointer (some ⟨ba, 4, none⟩)) rfl rfl (L4.out _ bel)) ?_)
        | fail)
      go_ret
      exact ⟨rfl, hbel⟩
end Go.Proofs.Ytoofljkgdjjllab

namespace Go.Proofs.Ytoofljkgdjjllab
open Go.RowKit
set_option linter.unusedVariables false
set_option linter.unusedSimpArgs false

theorem exec_buildSlice0 {P : Program} {w w2 : World} {a : Act} {o : Oper} {t n : Nat} {v : Value} (ho : o.op = .buildSlice t n #[]) (hl : (Instr.buildSlice t n #[]).run P w = .ok v w2) : (execOp a.eval o).run P w = .ok (.value v) w2 := by
  unfold execOp; simp only [ho, List.map_toArray, List.map_nil, Sem.run_bind, hl, Result.andThen_ok, Sem.run_pure]
def mark0_o0 : Oper := { dst := some 2, op := Op.move (Operand.tmp 0), type := 74, pos := "ref.go:58", after := #[], guard := none }
def mark0_o1 : Oper := { dst := some 3, op := Op.move (Operand.tmp 0), type := 74, pos := "ref.go:58", after := #[], guard := none }
def mark0_o2 : Oper := { dst := some 4, op := Op.nilCheck (Operand.tmp 3), type := 0, pos := "ref.go:58", after := #[{ on := 1, ground := Ground.data }], guard := none }
def mark0_o3 : Oper := { dst := some 5, op := Op.fieldAddr 98 (Operand.tmp 4) 1, type := 0, pos := "ref.go:58", after := #[{ on := 2, ground := Ground.data }], guard := none }
def mark0_o4 : Oper := { dst := some 6, op := Op.load 96 (Operand.tmp 5), type := 96, pos := "ref.go:58", after := #[{ on := 3, ground := Ground.data }], guard := none }
def mark0_o5 : Oper := { dst := some 7, op := Op.buildSlice 95 0 #[], type := 95, pos := "ref.go:58", after := #[], guard := none }
def mark0_o6 : Oper := { dst := some 8, op := Op.move (Operand.tmp 0), type := 74, pos := "ref.go:58", after := #[], guard := none }
def mark0_o7 : Oper := { dst := some 9, op := Op.nilCheck (Operand.tmp 8), type := 0, pos := "ref.go:58", after := #[{ on := 6, ground := Ground.data }], guard := none }
def mark0_o8 : Oper := { dst := some 10, op := Op.fieldAddr 98 (Operand.tmp 9) 0, type := 0, pos := "ref.go:58", after := #[{ on := 7, ground := Ground.data }], guard := none }
def mark0_o9 : Oper := { dst := some 11, op := Op.load 95 (Operand.tmp 10), type := 95, pos := "ref.go:58", after := #[{ on := 8, ground := Ground.data }], guard := none }
def mark0_o10 : Oper := { dst := some 12, op := Op.call { callee := Callee.builtin Builtin.append, args := #[Operand.tmp 7, Operand.tmp 11], argTypes := #[95, 95] }, type := 95, pos := "ref.go:58", after := #[{ on := 5, ground := Ground.data }, { on := 9, ground := Ground.data }], guard := none }
def mark0_o11 : Oper := { dst := some 13, op := Op.buildSlice 96 1 #[(0, Operand.tmp 12)], type := 96, pos := "ref.go:58", after := #[{ on := 10, ground := Ground.data }], guard := none }
def mark0_o12 : Oper := { dst := some 14, op := Op.call { callee := Callee.builtin Builtin.append, args := #[Operand.tmp 6, Operand.tmp 13], argTypes := #[96, 96] }, type := 96, pos := "ref.go:58", after := #[{ on := 4, ground := Ground.data }, { on := 11, ground := Ground.data }, { on := 10, ground := Ground.chain }], guard := none }
def mark0_o13 : Oper := { dst := some 15, op := Op.nilCheck (Operand.tmp 2), type := 0, pos := "ref.go:58", after := #[{ on := 0, ground := Ground.data }, { on := 0, ground := Ground.phase }, { on := 1, ground := Ground.phase }, { on := 2, ground := Ground.phase }, { on := 3, ground := Ground.phase }, { on := 4, ground := Ground.phase }, { on := 5, ground := Ground.phase }, { on := 6, ground := Ground.phase }, { on := 7, ground := Ground.phase }, { on := 8, ground := Ground.phase }, { on := 9, ground := Ground.phase }, { on := 10, ground := Ground.phase }, { on := 11, ground := Ground.phase }, { on := 12, ground := Ground.phase }], guard := none }
def mark0_o14 : Oper := { dst := some 16, op := Op.fieldAddr 98 (Operand.tmp 15) 1, type := 0, pos := "ref.go:58", after := #[{ on := 13, ground := Ground.data }, { on := 0, ground := Ground.phase }, { on := 1, ground := Ground.phase }, { on := 2, ground := Ground.phase }, { on := 3, ground := Ground.phase }, { on := 4, ground := Ground.phase }, { on := 5, ground := Ground.phase }, { on := 6, ground := Ground.phase }, { on := 7, ground := Ground.phase }, { on := 8, ground := Ground.phase }, { on := 9, ground := Ground.phase }, { on := 10, ground := Ground.phase }, { on := 11, ground := Ground.phase }, { on := 12, ground := Ground.phase }], guard := none }
def mark0_o15 : Oper := { dst := none, op := Op.store 96 (Operand.tmp 16) (Operand.tmp 14), type := 0, pos := "ref.go:58", after := #[{ on := 14, ground := Ground.data }, { on := 12, ground := Ground.data }, { on := 12, ground := Ground.chain }, { on := 0, ground := Ground.phase }, { on := 1, ground := Ground.phase }, { on := 2, ground := Ground.phase }, { on := 3, ground := Ground.phase }, { on := 4, ground := Ground.phase }, { on := 5, ground := Ground.phase }, { on := 6, ground := Ground.phase }, { on := 7, ground := Ground.phase }, { on := 8, ground := Ground.phase }, { on := 9, ground := Ground.phase }, { on := 10, ground := Ground.phase }, { on := 11, ground := Ground.phase }, { on := 12, ground := Ground.phase }], guard := none }
def mark0_ops : Array Oper := #[mark0_o0, mark0_o1, mark0_o2, mark0_o3, mark0_o4, mark0_o5, mark0_o6, mark0_o7, mark0_o8, mark0_o9, mark0_o10, mark0_o11, mark0_o12, mark0_o13, mark0_o14, mark0_o15]
set_option maxRecDepth 100000 in
set_option maxHeartbeats 4000000 in
theorem mark0 (d : Nat) (f0 f1 nv pv ev cv lv qv : Value) (w1 w2 w3 w4 w5 : World) (S : World → Prop) (a : Act) (w : World) (Q : Exit → Act → World → Prop) (hsz : a.tmps.size = 17)
    (t0 : a.tmps.getD 0 undef = .pointer (some ⟨d, 0, none⟩))
    (GF0 : ∀ W, (Instr.fieldAt 98 (.pointer (some ⟨d, 0, none⟩)) 0).run Try.prog W = .ok f0 W) (GF1 : ∀ W, (Instr.fieldAt 98 (.pointer (some ⟨d, 0, none⟩)) 1).run Try.prog W = .ok f1 W) (GL0 : ∀ W, S W → (Instr.loadAt 95 f0).run Try.prog W = .ok nv W)
    (S0 : S w.drew) (S1 : S w1) (S2 : S w2) (S3 : S w3) (S4 : S w4) (S5 : S w5)
    (K0 : (Instr.loadAt 96 f1).run Try.prog w.drew = .ok pv w.drew) (K1 : (Instr.loadAt 96 f1).run Try.prog w1 = .ok pv w1) (K2 : (Instr.loadAt 96 f1).run Try.prog w2 = .ok pv w2) (K3 : (Instr.loadAt 96 f1).run Try.prog w3 = .ok pv w3)
    (EB0 : (Instr.buildSlice 95 0 #[]).run Try.prog w.drew = .ok ev w1) (EA1 : (Builtin.append_ #[95, 95] 95 #[ev, nv]).run Try.prog w1 = .ok cv w2)
    (EB1 : (Instr.buildSlice 96 1 #[(0, cv)]).run Try.prog w2 = .ok lv w3) (EA2 : (Builtin.append_ #[96, 96] 96 #[pv, lv]).run Try.prog w3 = .ok qv w4) (ES : (Instr.storeAt 96 f1 qv).run Try.prog w4 = .ok () w5)
    (h1 : ∀ (a' : Act) (w' : World), w' = w5 → a' = (((((((((((((((a).put (some 2) (.pointer (some ⟨d, 0, none⟩))).put (some 3) (.pointer (some ⟨d, 0, none⟩))).put (some 4) (.pointer (some ⟨d, 0, none⟩))).put (some 5) (f1)).put (some 8) (.pointer (some ⟨d, 0, none⟩))).put (some 9) (.pointer (some ⟨d, 0, none⟩))).put (some 10) (f0)).put (some 11) (nv)).put (some 6) (pv)).put (some 7) (ev)).put (some 12) (cv)).put (some 13) (lv)).put (some 14) (qv)).put (some 15) (.pointer (some ⟨d, 0, none⟩))).put (some 16) (f1) → Q .normal a' w')
    (h2 : ∀ (a' : Act) (w' : World), w' = w5 → a' = (((((((((((((((a).put (some 2) (.pointer (some ⟨d, 0, none⟩))).put (some 3) (.pointer (some ⟨d, 0, none⟩))).put (some 4) (.pointer (some ⟨d, 0, none⟩))).put (some 5) (f1)).put (some 8) (.pointer (some ⟨d, 0, none⟩))).put (some 9) (.pointer (some ⟨d, 0, none⟩))).put (some 10) (f0)).put (some 11) (nv)).put (some 7) (ev)).put (some 6) (pv)).put (some 12) (cv)).put (some 13) (lv)).put (some 14) (qv)).put (some 15) (.pointer (some ⟨d, 0, none⟩))).put (some 16) (f1) → Q .normal a' w')
    (h3 : ∀ (a' : Act) (w' : World), w' = w5 → a' = (((((((((((((((a).put (some 2) (.pointer (some ⟨d, 0, none⟩))).put (some 3) (.pointer (some ⟨d, 0, none⟩))).put (some 4) (.pointer (some ⟨d, 0, none⟩))).put (some 5) (f1)).put (some 8) (.pointer (some ⟨d, 0, none⟩))).put (some 9) (.pointer (some ⟨d, 0, none⟩))).put (some 10) (f0)).put (some 11) (nv)).put (some 7) (ev)).put (some 12) (cv)).put (some 6) (pv)).put (some 13) (lv)).put (some 14) (qv)).put (some 15) (.pointer (some ⟨d, 0, none⟩))).put (some 16) (f1) → Q .normal a' w')
    (h4 : ∀ (a' : Act) (w' : World), w' = w5 → a' = (((((((((((((((a).put (some 2) (.pointer (some ⟨d, 0, none⟩))).put (some 3) (.pointer (some ⟨d, 0, none⟩))).put (some 4) (.pointer (some ⟨d, 0, none⟩))).put (some 5) (f1)).put (some 8) (.pointer (some ⟨d, 0, none⟩))).put (some 9) (.pointer (some ⟨d, 0, none⟩))).put (some 10) (f0)).put (some 11) (nv)).put (some 7) (ev)).put (some 12) (cv)).put (some 13) (lv)).put (some 6) (pv)).put (some 14) (qv)).put (some 15) (.pointer (some ⟨d, 0, none⟩))).put (some 16) (f1) → Q .normal a' w') :
    (Code.region 0 mark0_ops true).wp Try.prog Q a w := by
  refine wp_region_noPanic ?_
  refine wp_region_held_drew (S := fun w' => S w') (by kernel_rfl) (S0) (fun hHeld => ?_)
  refine tk 0 mark0_o0 (.pointer (some ⟨d, 0, none⟩)) (by rfl) (fun w1 hw => exec_move rfl t0) hHeld (fun a1 e1 => ?_)
  rw [← e1] at h1 h2 h3 h4
  have z1 := pz e1 hsz
  replace t0 := pk e1 t0
  have t2 := pq e1 hsz
  clear e1 hsz
  refine tk 1 mark0_o1 (.pointer (some ⟨d, 0, none⟩)) (by rfl) (fun w1 hw => exec_move rfl t0) hHeld (fun a2 e2 => ?_)
  rw [← e2] at h1 h2 h3 h4
  have z2 := pz e2 z1
  replace t0 := pk e2 t0
  replace t2 := pk e2 t2
  have t3 := pq e2 z1
  clear e2 z1
  refine tk 2 mark0_o2 (.pointer (some ⟨d, 0, none⟩)) (by rfl) (fun w1 hw => exec_nilCheck rfl t3) hHeld (fun a3 e3 => ?_)
  rw [← e3] at h1 h2 h3 h4
  have z3 := pz e3 z2
  replace t0 := pk e3 t0
  replace t2 := pk e3 t2
  clear t3
  have t4 := pq e3 z2
  clear e3 z2
  refine tk 3 mark0_o3 (f1) (by rfl) (fun w1 hw => exec_fieldAt rfl t4 (GF1 _)) hHeld (fun a4 e4 => ?_)
  rw [← e4] at h1 h2 h3 h4
  have z4 := pz e4 z3
  replace t0 := pk e4 t0
  replace t2 := pk e4 t2
  clear t4
  have t5 := pq e4 z3
  clear e4 z3
  refine tk 6 mark0_o6 (.pointer (some ⟨d, 0, none⟩)) (by rfl) (fun w1 hw => exec_move rfl t0) hHeld (fun a5 e5 => ?_)
  rw [← e5] at h1 h2 h3 h4
  have z5 := pz e5 z4
  clear t0
  replace t2 := pk e5 t2
  replace t5 := pk e5 t5
  have t8 := pq e5 z4
  clear e5 z4
  refine tk 7 mark0_o7 (.pointer (some ⟨d, 0, none⟩)) (by rfl) (fun w1 hw => exec_nilCheck rfl t8) hHeld (fun a6 e6 => ?_)
  rw [← e6] at h1 h2 h3 h4
  have z6 := pz e6 z5
  replace t2 := pk e6 t2
  replace t5 := pk e6 t5
  clear t8
  have t9 := pq e6 z5
  clear e6 z5
  refine tk 8 mark0_o8 (f0) (by rfl) (fun w1 hw => exec_fieldAt rfl t9 (GF0 _)) hHeld (fun a7 e7 => ?_)
  rw [← e7] at h1 h2 h3 h4
  have z7 := pz e7 z6
  replace t2 := pk e7 t2
  replace t5 := pk e7 t5
  clear t9
  have t10 := pq e7 z6
  clear e7 z6
  refine tk 9 mark0_o9 (nv) (by rfl) (fun w1 hw => exec_load rfl t10 (GL0 _ hw)) hHeld (fun a8 e8 => ?_)
  rw [← e8] at h1 h2 h3 h4
  have z8 := pz e8 z7
  replace t2 := pk e8 t2
  replace t5 := pk e8 t5
  clear t10
  have t11 := pq e8 z7
  clear e8 z7
  refine wpAnyH_ready (rs := [4, 5]) (by kernel_rfl) (by simp) ?_
  refine AllReadyH.cons (o := mark0_o4) rfl (fun K hK => ?_) (AllReadyH.cons (o := mark0_o5) rfl (fun K hK => ?_) (AllReadyH.nil))
  · clear h2 h3 h4
    skip
    have X := exec_load (P := Try.prog) (a := a8) (o := mark0_o4) rfl t5 K0
    rw [if_pos (by rfl), Oper.wp, X]
    show K _ _
    clear X
    refine hK.out _ _ (S0) (fun hHeld => ?_)
    clear hK K
    change wpAnyH _ _ _ _ _ _ _ (a8.put (some 6) (pv)) _
    obtain ⟨a9, e9⟩ : ∃ act, act = a8.put (some 6) (pv) := ⟨_, rfl⟩
    rw [← e9] at h1 ⊢
    have z9 := pz e9 z8
    replace t2 := pk e9 t2
    clear t5
    replace t11 := pk e9 t11
    have t6 := pq e9 z8
    clear e9 z8
    refine wpAnyH_ready (rs := [5]) (by kernel_rfl) (by simp) ?_
    refine AllReadyH.cons (o := mark0_o5) rfl (fun K hK => ?_) AllReadyH.nil
    skip
    have X := exec_buildSlice0 (P := Try.prog) (a := a9) (o := mark0_o5) rfl EB0
    rw [if_pos (by rfl), Oper.wp, X]
    show K _ _
    clear X
    refine hK.out _ _ (S1) (fun hHeld => ?_)
    clear hK K
    change wpAnyH _ _ _ _ _ _ _ (a9.put (some 7) (ev)) _
    obtain ⟨a10, e10⟩ : ∃ act, act = a9.put (some 7) (ev) := ⟨_, rfl⟩
    rw [← e10] at h1 ⊢
    have z10 := pz e10 z9
    replace t2 := pk e10 t2
    replace t11 := pk e10 t11
    replace t6 := pk e10 t6
    have t7 := pq e10 z9
    clear e10 z9
    refine wpAnyH_ready (rs := [10]) (by kernel_rfl) (by simp) ?_
    refine AllReadyH.cons (o := mark0_o10) rfl (fun K hK => ?_) AllReadyH.nil
    skip
    have X := exec_append (P := Try.prog) (a := a10) (o := mark0_o10) rfl t7 t11 EA1
    rw [if_pos (by rfl), Oper.wp, X]
    show K _ _
    clear X
    refine hK.out _ _ (S2) (fun hHeld => ?_)
    clear hK K
    change wpAnyH _ _ _ _ _ _ _ (a10.put (some 12) (cv)) _
    obtain ⟨a11, e11⟩ : ∃ act, act = a10.put (some 12) (cv) := ⟨_, rfl⟩
    rw [← e11] at h1 ⊢
    have z11 := pz e11 z10
    replace t2 := pk e11 t2
    clear t11
    replace t6 := pk e11 t6
    clear t7
    have t12 := pq e11 z10
    clear e11 z10
    refine wpAnyH_ready (rs := [11]) (by kernel_rfl) (by simp) ?_
    refine AllReadyH.cons (o := mark0_o11) rfl (fun K hK => ?_) AllReadyH.nil
    skip
    have X := exec_buildSlice (P := Try.prog) (a := a11) (o := mark0_o11) rfl t12 EB1
    rw [if_pos (by rfl), Oper.wp, X]
    show K _ _
    clear X
    refine hK.out _ _ (S3) (fun hHeld => ?_)
    clear hK K
    change wpAnyH _ _ _ _ _ _ _ (a11.put (some 13) (lv)) _
    obtain ⟨a12, e12⟩ : ∃ act, act = a11.put (some 13) (lv) := ⟨_, rfl⟩
    rw [← e12] at h1 ⊢
    have z12 := pz e12 z11
    replace t2 := pk e12 t2
    replace t6 := pk e12 t6
    clear t12
    have t13 := pq e12 z11
    clear e12 z11
    refine wpAnyH_ready (rs := [12]) (by kernel_rfl) (by simp) ?_
    refine AllReadyH.cons (o := mark0_o12) rfl (fun K hK => ?_) AllReadyH.nil
    skip
    have X := exec_append (P := Try.prog) (a := a12) (o := mark0_o12) rfl t6 t13 EA2
    rw [if_pos (by rfl), Oper.wp, X]
    show K _ _
    clear X
    refine hK.out _ _ (S4) (fun hHeld => ?_)
    clear hK K
    change wpAnyH _ _ _ _ _ _ _ (a12.put (some 14) (qv)) _
    obtain ⟨a13, e13⟩ : ∃ act, act = a12.put (some 14) (qv) := ⟨_, rfl⟩
    rw [← e13] at h1 ⊢
    have z13 := pz e13 z12
    replace t2 := pk e13 t2
    clear t6
    clear t13
    have t14 := pq e13 z12
    clear e13 z12
    refine tk 13 mark0_o13 (.pointer (some ⟨d, 0, none⟩)) (by rfl) (fun w1 hw => exec_nilCheck rfl t2) hHeld (fun a14 e14 => ?_)
    rw [← e14] at h1
    have z14 := pz e14 z13
    clear t2
    replace t14 := pk e14 t14
    have t15 := pq e14 z13
    clear e14 z13
    refine tk 14 mark0_o14 (f1) (by rfl) (fun w1 hw => exec_fieldAt rfl t15 (GF1 _)) hHeld (fun a15 e15 => ?_)
    rw [← e15] at h1
    have z15 := pz e15 z14
    replace t14 := pk e15 t14
    clear t15
    have t16 := pq e15 z14
    clear e15 z14
    refine wpAnyH_ready (rs := [15]) (by kernel_rfl) (by simp) ?_
    refine AllReadyH.cons (o := mark0_o15) rfl (fun K hK => ?_) AllReadyH.nil
    skip
    have X := exec_store (P := Try.prog) (a := a15) (o := mark0_o15) rfl t16 t14 ES
    rw [if_pos (by rfl), Oper.wp, X]
    show K _ _
    clear X
    refine hK.out _ _ (S5) (fun hHeld => ?_)
    clear hK K
    exact wpAnyH_done (by kernel_rfl) (NoPanic.normal (h1 _ _ (rfl) rfl)) _
  · clear h1
    skip
    have X := exec_buildSlice0 (P := Try.prog) (a := a8) (o := mark0_o5) rfl EB0
    rw [if_pos (by rfl), Oper.wp, X]
    show K _ _
    clear X
    refine hK.out _ _ (S1) (fun hHeld => ?_)
    clear hK K
    change wpAnyH _ _ _ _ _ _ _ (a8.put (some 7) (ev)) _
    obtain ⟨a17, e17⟩ : ∃ act, act = a8.put (some 7) (ev) := ⟨_, rfl⟩
    rw [← e17] at h2 h3 h4 ⊢
    have z17 := pz e17 z8
    replace t2 := pk e17 t2
    replace t5 := pk e17 t5
    replace t11 := pk e17 t11
    have t7 := pq e17 z8
    clear e17 z8
    refine wpAnyH_ready (rs := [4, 10]) (by kernel_rfl) (by simp) ?_
    refine AllReadyH.cons (o := mark0_o4) rfl (fun K hK => ?_) (AllReadyH.cons (o := mark0_o10) rfl (fun K hK => ?_) (AllReadyH.nil))
    · clear h3 h4
      skip
      have X := exec_load (P := Try.prog) (a := a17) (o := mark0_o4) rfl t5 K1
      rw [if_pos (by rfl), Oper.wp, X]
      show K _ _
      clear X
      refine hK.out _ _ (S1) (fun hHeld => ?_)
      clear hK K
      change wpAnyH _ _ _ _ _ _ _ (a17.put (some 6) (pv)) _
      obtain ⟨a18, e18⟩ : ∃ act, act = a17.put (some 6) (pv) := ⟨_, rfl⟩
      rw [← e18] at h2 ⊢
      have z18 := pz e18 z17
      replace t2 := pk e18 t2
      clear t5
      replace t11 := pk e18 t11
      replace t7 := pk e18 t7
      have t6 := pq e18 z17
      clear e18 z17
      refine wpAnyH_ready (rs := [10]) (by kernel_rfl) (by simp) ?_
      refine AllReadyH.cons (o := mark0_o10) rfl (fun K hK => ?_) AllReadyH.nil
      skip
      have X := exec_append (P := Try.prog) (a := a18) (o := mark0_o10) rfl t7 t11 EA1
      rw [if_pos (by rfl), Oper.wp, X]
      show K _ _
      clear X
      refine hK.out _ _ (S2) (fun hHeld => ?_)
      clear hK K
      change wpAnyH _ _ _ _ _ _ _ (a18.put (some 12) (cv)) _
      obtain ⟨a19, e19⟩ : ∃ act, act = a18.put (some 12) (cv) := ⟨_, rfl⟩
      rw [← e19] at h2 ⊢
      have z19 := pz e19 z18
      replace t2 := pk e19 t2
      clear t11
      clear t7
      replace t6 := pk e19 t6
      have t12 := pq e19 z18
      clear e19 z18
      refine wpAnyH_ready (rs := [11]) (by kernel_rfl) (by simp) ?_
      refine AllReadyH.cons (o := mark0_o11) rfl (fun K hK => ?_) AllReadyH.nil
      skip
      have X := exec_buildSlice (P := Try.prog) (a := a19) (o := mark0_o11) rfl t12 EB1
      rw [if_pos (by rfl), Oper.wp, X]
      show K _ _
      clear X
      refine hK.out _ _ (S3) (fun hHeld => ?_)
      clear hK K
      change wpAnyH _ _ _ _ _ _ _ (a19.put (some 13) (lv)) _
      obtain ⟨a20, e20⟩ : ∃ act, act = a19.put (some 13) (lv) := ⟨_, rfl⟩
      rw [← e20] at h2 ⊢
      have z20 := pz e20 z19
      replace t2 := pk e20 t2
      replace t6 := pk e20 t6
      clear t12
      have t13 := pq e20 z19
      clear e20 z19
      refine wpAnyH_ready (rs := [12]) (by kernel_rfl) (by simp) ?_
      refine AllReadyH.cons (o := mark0_o12) rfl (fun K hK => ?_) AllReadyH.nil
      skip
      have X := exec_append (P := Try.prog) (a := a20) (o := mark0_o12) rfl t6 t13 EA2
      rw [if_pos (by rfl), Oper.wp, X]
      show K _ _
      clear X
      refine hK.out _ _ (S4) (fun hHeld => ?_)
      clear hK K
      change wpAnyH _ _ _ _ _ _ _ (a20.put (some 14) (qv)) _
      obtain ⟨a21, e21⟩ : ∃ act, act = a20.put (some 14) (qv) := ⟨_, rfl⟩
      rw [← e21] at h2 ⊢
      have z21 := pz e21 z20
      replace t2 := pk e21 t2
      clear t6
      clear t13
      have t14 := pq e21 z20
      clear e21 z20
      refine tk 13 mark0_o13 (.pointer (some ⟨d, 0, none⟩)) (by rfl) (fun w1 hw => exec_nilCheck rfl t2) hHeld (fun a22 e22 => ?_)
      rw [← e22] at h2
      have z22 := pz e22 z21
      clear t2
      replace t14 := pk e22 t14
      have t15 := pq e22 z21
      clear e22 z21
      refine tk 14 mark0_o14 (f1) (by rfl) (fun w1 hw => exec_fieldAt rfl t15 (GF1 _)) hHeld (fun a23 e23 => ?_)
      rw [← e23] at h2
      have z23 := pz e23 z22
      replace t14 := pk e23 t14
      clear t15
      have t16 := pq e23 z22
      clear e23 z22
      refine wpAnyH_ready (rs := [15]) (by kernel_rfl) (by simp) ?_
      refine AllReadyH.cons (o := mark0_o15) rfl (fun K hK => ?_) AllReadyH.nil
      skip
      have X := exec_store (P := Try.prog) (a := a23) (o := mark0_o15) rfl t16 t14 ES
      rw [if_pos (by rfl), Oper.wp, X]
      show K _ _
      clear X
      refine hK.out _ _ (S5) (fun hHeld => ?_)
      clear hK K
      exact wpAnyH_done (by kernel_rfl) (NoPanic.normal (h2 _ _ (rfl) rfl)) _
    · clear h2
      skip
      have X := exec_append (P := Try.prog) (a := a17) (o := mark0_o10) rfl t7 t11 EA1
      rw [if_pos (by rfl), Oper.wp, X]
      show K _ _
      clear X
      refine hK.out _ _ (S2) (fun hHeld => ?_)
      clear hK K
      change wpAnyH _ _ _ _ _ _ _ (a17.put (some 12) (cv)) _
      obtain ⟨a25, e25⟩ : ∃ act, act = a17.put (some 12) (cv) := ⟨_, rfl⟩
      rw [← e25] at h3 h4 ⊢
      have z25 := pz e25 z17
      replace t2 := pk e25 t2
      replace t5 := pk e25 t5
      clear t11
      clear t7
      have t12 := pq e25 z17
      clear e25 z17
      refine wpAnyH_ready (rs := [4, 11]) (by kernel_rfl) (by simp) ?_
      refine AllReadyH.cons (o := mark0_o4) rfl (fun K hK => ?_) (AllReadyH.cons (o := mark0_o11) rfl (fun K hK => ?_) (AllReadyH.nil))
      · clear h4
        skip
        have X := exec_load (P := Try.prog) (a := a25) (o := mark0_o4) rfl t5 K2
        rw [if_pos (by rfl), Oper.wp, X]
        show K _ _
        clear X
        refine hK.out _ _ (S2) (fun hHeld => ?_)
        clear hK K
        change wpAnyH _ _ _ _ _ _ _ (a25.put (some 6) (pv)) _
        obtain ⟨a26, e26⟩ : ∃ act, act = a25.put (some 6) (pv) := ⟨_, rfl⟩
        rw [← e26] at h3 ⊢
        have z26 := pz e26 z25
        replace t2 := pk e26 t2
        clear t5
        replace t12 := pk e26 t12
        have t6 := pq e26 z25
        clear e26 z25
        refine wpAnyH_ready (rs := [11]) (by kernel_rfl) (by simp) ?_
        refine AllReadyH.cons (o := mark0_o11) rfl (fun K hK => ?_) AllReadyH.nil
        skip
        have X := exec_buildSlice (P := Try.prog) (a := a26) (o := mark0_o11) rfl t12 EB1
        rw [if_pos (by rfl), Oper.wp, X]
        show K _ _
        clear X
        refine hK.out _ _ (S3) (fun hHeld => ?_)
        clear hK K
        change wpAnyH _ _ _ _ _ _ _ (a26.put (some 13) (lv)) _
        obtain ⟨a27, e27⟩ : ∃ act, act = a26.put (some 13) (lv) := ⟨_, rfl⟩
        rw [← e27] at h3 ⊢
        have z27 := pz e27 z26
        replace t2 := pk e27 t2
        clear t12
        replace t6 := pk e27 t6
        have t13 := pq e27 z26
        clear e27 z26
        refine wpAnyH_ready (rs := [12]) (by kernel_rfl) (by simp) ?_
        refine AllReadyH.cons (o := mark0_o12) rfl (fun K hK => ?_) AllReadyH.nil
        skip
        have X := exec_append (P := Try.prog) (a := a27) (o := mark0_o12) rfl t6 t13 EA2
        rw [if_pos (by rfl), Oper.wp, X]
        show K _ _
        clear X
        refine hK.out _ _ (S4) (fun hHeld => ?_)
        clear hK K
        change wpAnyH _ _ _ _ _ _ _ (a27.put (some 14) (qv)) _
        obtain ⟨a28, e28⟩ : ∃ act, act = a27.put (some 14) (qv) := ⟨_, rfl⟩
        rw [← e28] at h3 ⊢
        have z28 := pz e28 z27
        replace t2 := pk e28 t2
        clear t6
        clear t13
        have t14 := pq e28 z27
        clear e28 z27
        refine tk 13 mark0_o13 (.pointer (some ⟨d, 0, none⟩)) (by rfl) (fun w1 hw => exec_nilCheck rfl t2) hHeld (fun a29 e29 => ?_)
        rw [← e29] at h3
        have z29 := pz e29 z28
        clear t2
        replace t14 := pk e29 t14
        have t15 := pq e29 z28
        clear e29 z28
        refine tk 14 mark0_o14 (f1) (by rfl) (fun w1 hw => exec_fieldAt rfl t15 (GF1 _)) hHeld (fun a30 e30 => ?_)
        rw [← e30] at h3
        have z30 := pz e30 z29
        replace t14 := pk e30 t14
        clear t15
        have t16 := pq e30 z29
        clear e30 z29
        refine wpAnyH_ready (rs := [15]) (by kernel_rfl) (by simp) ?_
        refine AllReadyH.cons (o := mark0_o15) rfl (fun K hK => ?_) AllReadyH.nil
        skip
        have X := exec_store (P := Try.prog) (a := a30) (o := mark0_o15) rfl t16 t14 ES
        rw [if_pos (by rfl), Oper.wp, X]
        show K _ _
        clear X
        refine hK.out _ _ (S5) (fun hHeld => ?_)
        clear hK K
        exact wpAnyH_done (by kernel_rfl) (NoPanic.normal (h3 _ _ (rfl) rfl)) _
      · clear h3
        skip
        have X := exec_buildSlice (P := Try.prog) (a := a25) (o := mark0_o11) rfl t12 EB1
        rw [if_pos (by rfl), Oper.wp, X]
        show K _ _
        clear X
        refine hK.out _ _ (S3) (fun hHeld => ?_)
        clear hK K
        change wpAnyH _ _ _ _ _ _ _ (a25.put (some 13) (lv)) _
        obtain ⟨a32, e32⟩ : ∃ act, act = a25.put (some 13) (lv) := ⟨_, rfl⟩
        rw [← e32] at h4 ⊢
        have z32 := pz e32 z25
        replace t2 := pk e32 t2
        replace t5 := pk e32 t5
        clear t12
        have t13 := pq e32 z25
        clear e32 z25
        refine wpAnyH_ready (rs := [4]) (by kernel_rfl) (by simp) ?_
        refine AllReadyH.cons (o := mark0_o4) rfl (fun K hK => ?_) AllReadyH.nil
        skip
        have X := exec_load (P := Try.prog) (a := a32) (o := mark0_o4) rfl t5 K3
        rw [if_pos (by rfl), Oper.wp, X]
        show K _ _
        clear X
        refine hK.out _ _ (S3) (fun hHeld => ?_)
        clear hK K
        change wpAnyH _ _ _ _ _ _ _ (a32.put (some 6) (pv)) _
        obtain ⟨a33, e33⟩ : ∃ act, act = a32.put (some 6) (pv) := ⟨_, rfl⟩
        rw [← e33] at h4 ⊢
        have z33 := pz e33 z32
        replace t2 := pk e33 t2
        clear t5
        replace t13 := pk e33 t13
        have t6 := pq e33 z32
        clear e33 z32
        refine wpAnyH_ready (rs := [12]) (by kernel_rfl) (by simp) ?_
        refine AllReadyH.cons (o := mark0_o12) rfl (fun K hK => ?_) AllReadyH.nil
        skip
        have X := exec_append (P := Try.prog) (a := a33) (o := mark0_o12) rfl t6 t13 EA2
        rw [if_pos (by rfl), Oper.wp, X]
        show K _ _
        clear X
        refine hK.out _ _ (S4) (fun hHeld => ?_)
        clear hK K
        change wpAnyH _ _ _ _ _ _ _ (a33.put (some 14) (qv)) _
        obtain ⟨a34, e34⟩ : ∃ act, act = a33.put (some 14) (qv) := ⟨_, rfl⟩
        rw [← e34] at h4 ⊢
        have z34 := pz e34 z33
        replace t2 := pk e34 t2
        clear t13
        clear t6
        have t14 := pq e34 z33
        clear e34 z33
        refine tk 13 mark0_o13 (.pointer (some ⟨d, 0, none⟩)) (by rfl) (fun w1 hw => exec_nilCheck rfl t2) hHeld (fun a35 e35 => ?_)
        rw [← e35] at h4
        have z35 := pz e35 z34
        clear t2
        replace t14 := pk e35 t14
        have t15 := pq e35 z34
        clear e35 z34
        refine tk 14 mark0_o14 (f1) (by rfl) (fun w1 hw => exec_fieldAt rfl t15 (GF1 _)) hHeld (fun a36 e36 => ?_)
        rw [← e36] at h4
        have z36 := pz e36 z35
        replace t14 := pk e36 t14
        clear t15
        have t16 := pq e36 z35
        clear e36 z35
        refine wpAnyH_ready (rs := [15]) (by kernel_rfl) (by simp) ?_
        refine AllReadyH.cons (o := mark0_o15) rfl (fun K hK => ?_) AllReadyH.nil
        skip
        have X := exec_store (P := Try.prog) (a := a36) (o := mark0_o15) rfl t16 t14 ES
        rw [if_pos (by rfl), Oper.wp, X]
        show K _ _
        clear X
        refine hK.out _ _ (S5) (fun hHeld => ?_)
        clear hK K
        exact wpAnyH_done (by kernel_rfl) (NoPanic.normal (h4 _ _ (rfl) rfl)) _
end Go.Proofs.Ytoofljkgdjjllab

namespace Go.Proofs.Ytoofljkgdjjllab
open Go.RowKit
set_option linter.unusedVariables false
set_option linter.unusedSimpArgs false

/-- The document's tree with its past. -/
structure RefP (B : Nat) (w : World) (d : Nat) (NL : List RN) (PL : List (List RN)) (vn vp : Value) (us : List Value) : Prop where
  cell : w.heap[d]? = some (.cells #[vn, vp] 98 (0, 0))
  nodes : OwnN w B vn NL
  past : OwnV w B 95 vp us
  len : us.length = PL.length
  lists : ∀ (i : Nat) u P, us[i]? = some u → PL[i]? = some P → OwnN w B u P
  dB : B ≤ d
  ap : ∀ (i : Nat) u j, us[i]? = some u → u.ownBlock = some j → vn.ownBlock ≠ some j
  ap2 : ∀ (i i' : Nat) u u' j, us[i]? = some u → us[i']? = some u' → i ≠ i' → u.ownBlock = some j → u'.ownBlock ≠ some j
  ok : ∀ p ∈ NL, RnOk p
  okP : ∀ P ∈ PL, ∀ p ∈ P, RnOk p
  nd : (NL.map (·.1)).Nodup
  ndP : ∀ P ∈ PL, (P.map (·.1)).Nodup
/-- Its blocks. -/
def refB (d : Nat) (vn vp : Value) (us : List Value) (j : Nat) : Prop := j = d ∨ vn.ownBlock = some j ∨ vp.ownBlock = some j ∨ ∃ (i : Nat) (u : Value), us[i]? = some u ∧ u.ownBlock = some j
section
variable {B : Nat} {w w' : World} {d : Nat} {NL : List RN} {PL : List (List RN)} {vn vp : Value} {us : List Value}
theorem RefP.ref (h : RefP B w d NL PL vn vp us) : RefAt w d NL vp := by
  obtain ⟨a, c, e, hr, _⟩ := h.nodes.open h.ok
  refine ⟨⟨a, c, by rw [← e]; exact h.cell, ?_⟩, h.ok, h.nd⟩
  rcases hr with hr | ⟨b, o, e, h1, h2⟩
  · exact Or.inl hr
  · exact Or.inr ⟨b, o, e, h1, fun i x hx => by rw [Nat.mul_comm]; exact h2 i x hx⟩
theorem RefP.keep {O : Nat → Prop} (h : RefP B w d NL PL vn vp us) (t : Tch O w w') (hO : ∀ j, refB d vn vp us j → ¬ O j) : RefP B w' d NL PL vn vp us := by
  have hb : ∀ j c T, w.heap[j]? = some (.cells c T (0, 0)) → refB d vn vp us j → w'.heap[j]? = w.heap[j]? := fun j c T hj hr => t.block j (Array.getElem?_eq_some_iff.1 hj).1 (hO j hr)
  refine ⟨(hb d _ _ h.cell (Or.inl rfl)).trans h.cell, h.nodes.keep fun j hj => ?_, h.past.keep fun j hj => ?_, h.len, fun i u P hu hP => (h.lists i u P hu hP).keep fun j hj => ?_, h.dB, h.ap, h.ap2, h.ok, h.okP, h.nd, h.ndP⟩
  · obtain ⟨_, c, hc⟩ := h.nodes.ge j hj; exact hb j _ _ hc (Or.inr (Or.inl hj))
  · obtain ⟨_, c, hc⟩ := h.past.ge j hj; exact hb j _ _ hc (Or.inr (Or.inr (Or.inl hj)))
  · obtain ⟨_, c, hc⟩ := (h.lists i u P hu hP).ge j hj; exact hb j _ _ hc (Or.inr (Or.inr (Or.inr ⟨i, u, hu, hj⟩)))
theorem RefP.ge (h : RefP B w d NL PL vn vp us) : ∀ j, refB d vn vp us j → B ≤ j ∧ j < w.heap.size := by
  rintro j (rfl | hj | hj | ⟨i, u, hu, hj⟩)
  · exact ⟨h.dB, (Array.getElem?_eq_some_iff.1 h.cell).1⟩
  · obtain ⟨g, c, hc⟩ := h.nodes.ge j hj; exact ⟨g, (Array.getElem?_eq_some_iff.1 hc).1⟩
  · obtain ⟨g, c, hc⟩ := h.past.ge j hj; exact ⟨g, (Array.getElem?_eq_some_iff.1 hc).1⟩
  · have hi : i < PL.length := by rw [← h.len]; exact (List.getElem?_eq_some_iff.1 hu).1
    obtain ⟨g, c, hc⟩ := (h.lists i u _ hu (List.getElem?_eq_getElem hi)).ge j hj
    exact ⟨g, (Array.getElem?_eq_some_iff.1 hc).1⟩
theorem RefP.below (h : RefP B w d NL PL vn vp us) (b : Below w.heap.size w w') : RefP B w' d NL PL vn vp us :=
  h.keep (O := fun _ => False) ⟨b.os, b.tape, b.output, b.size, fun k hk _ => b.block k hk⟩ fun _ _ q => q
end
set_option maxRecDepth 100000 in
set_option maxHeartbeats 2000000 in
theorem rnew_own (w : World) : Calls Try.prog 31 #[] w fun e w' => ∃ d, e = .returned (.pointer (some ⟨d, 0, none⟩)) ∧ RefP w.heap.size w' d [] [] (.slice none 0 0) (.slice none 0 0) [] ∧ Below w.heap.size w w' := by
  go_enter Try.func31, Try.ntmps31
  go_wp2
  go_ret
  refine ⟨_, rfl, ⟨heap_alloc_new _ _, ⟨rfl, Or.inl ⟨rfl, rfl⟩⟩, ⟨rfl, Or.inl ⟨rfl, rfl⟩⟩, rfl, by simp, Nat.le_refl _, by simp, by simp, by simp, by simp, by simp, by simp⟩, (Below.refl _ _).alloc (Nat.le_refl _) _⟩
end Go.Proofs.Ytoofljkgdjjllab

namespace Go.Proofs.Ytoofljkgdjjllab
open Go.RowKit
set_option linter.unusedVariables false
set_option linter.unusedSimpArgs false

theorem infoNs : (Try.prog.info? 95).map (fun i => (i.zero, i.size, i.bytes)) = some (some (.slice none 0 0), 1, 24) := by kernel_rfl
theorem run_bsV (v : Value) (h1 : v.oneCell' = true) (hc : v.cells = #[v]) (w : World) : (Instr.buildSlice 96 1 #[(0, v)]).run Try.prog w = .ok (.slice (some ⟨w.heap.size, 0, none⟩) 1 1) (w.alloc (.cells #[v] 95)) := by
  obtain ⟨ie, hi, hz, hs, hby⟩ := info_parts infoNs
  refine run_buildSlice w 96 95 1 _ #[v] ie _ Try.underlying96 hi hz (by rw [hs]; decide) (by rw [hs]; decide) ?_
  rw [hs]
  have := Go.Great.fill_whole (s := 1) (by decide) [v] ((Array.range (1 * 1)).map ((Value.slice none 0 0).cells[· % (Value.slice none 0 0).cells.size]!)) (by intro u hu; simp at hu; subst hu; rw [hc]; rfl) (by simp)
  simpa [hc] using this
theorem run_bs0 (w : World) : (Instr.buildSlice 95 0 #[]).run Try.prog w = .ok (.slice (some ⟨w.heap.size, 0, none⟩) 0 0) (w.alloc (.cells #[] 100)) := by
  obtain ⟨ie, hi, hz, hs, hby⟩ := info_parts infoN
  simp [Instr.buildSlice, run_underlying Try.underlying95, sizeOf, typeInfo, zeroValue, hi, hz, hs, newRow, Instr.fill]
  rw [show Array.range 0 = #[] by simp [Array.range], Array.map_empty]
section
variable {w : World} {d : Nat} {vn vp : Value} (a : Option Addr) (n c : Nat) (h : w.heap[d]? = some (.cells #[vn, vp] 98 (0, 0)))
include h
theorem store_ref1 : (Instr.storeAt 96 (.pointer (some ⟨d, 1, none⟩)) (.slice a n c)).run Try.prog w = .ok () (w.setCell ⟨d, 1, none⟩ (.slice a n c)) := by
  have hc : w.cell? ⟨d, 1, none⟩ = some vp := by rw [cell_of_row _ _ 1 _ _ _ h]; rfl
  have hf := frozen_of_row w d 1 _ _ h
  go_simp
theorem store_ref0 : (Instr.storeAt 95 (.pointer (some ⟨d, 0, none⟩)) (.slice a n c)).run Try.prog w = .ok () (w.setCell ⟨d, 0, none⟩ (.slice a n c)) := by
  have hc : w.cell? ⟨d, 0, none⟩ = some vn := by rw [cell_of_row _ _ 0 _ _ _ h]; rfl
  have hf := frozen_of_row w d 0 _ _ h
  go_simp
theorem set_ref1 (u : Value) : (w.setCell ⟨d, 1, none⟩ u).heap[d]? = some (.cells #[vn, u] 98 (0, 0)) := by
  obtain ⟨hl, hv⟩ := Array.getElem?_eq_some_iff.1 h
  simp [World.setCell, hl, Array.getElem_modify_self, hv]
theorem set_ref0 (u : Value) : (w.setCell ⟨d, 0, none⟩ u).heap[d]? = some (.cells #[u, vp] 98 (0, 0)) := by
  obtain ⟨hl, hv⟩ := Array.getElem?_eq_some_iff.1 h
  simp [World.setCell, hl, Array.getElem_modify_self, hv]
end
theorem set_tch (w : World) (d k : Nat) (u : Value) : Tch (fun j => j = d) w (w.setCell ⟨d, k, none⟩ u) := by
  have b := (Below.refl 0 w).setCell (p := ⟨d, k, none⟩) (Nat.zero_le _) u
  exact ⟨b.os, b.tape, b.output, b.size, fun j hj hn => Below.heap_setCell _ _ _ _ hn⟩
end Go.Proofs.Ytoofljkgdjjllab

namespace Go.Proofs.Ytoofljkgdjjllab
open Go.RowKit
set_option linter.unusedVariables false
set_option linter.unusedSimpArgs false

theorem own_nilN (w : World) (B : Nat) (hB : B ≤ w.heap.size) : OwnN (w.alloc (.cells #[] 100)) B (.slice (some ⟨w.heap.size, 0, none⟩) 0 0) [] :=
  ⟨by simp [flatN], Or.inr ⟨w.heap.size, 0, #[], rfl, hB, heap_alloc_new _ _, by simp, by unfold maxLen; omega, by simp, by simp [flatN]⟩⟩
theorem past_not {B : Nat} {w : World} {d : Nat} {vn vp v : Value} {us : List Value} (hc : w.heap[d]? = some (.cells #[vn, vp] 98 (0, 0))) (hp : OwnV w B 95 v us) : v.ownBlock ≠ some d := by
  intro e
  obtain ⟨_, c, h⟩ := hp.ge d e
  rw [hc] at h
  simp at h
theorem nodes_not {B : Nat} {w : World} {d : Nat} {vn vp v : Value} {L : List RN} (hc : w.heap[d]? = some (.cells #[vn, vp] 98 (0, 0))) (hp : OwnN w B v L) : v.ownBlock ≠ some d := by
  intro e
  obtain ⟨_, c, h⟩ := hp.ge d e
  rw [hc] at h
  simp at h
theorem nodes_past {B : Nat} {w : World} {vp v : Value} {L : List RN} {us : List Value} (hn : OwnN w B v L) (hp : OwnV w B 95 vp us) {j : Nat} (h1 : v.ownBlock = some j) : vp.ownBlock ≠ some j := by
  intro e
  obtain ⟨_, c, h⟩ := hp.ge j e
  obtain ⟨_, c', h'⟩ := hn.ge j h1
  rw [h'] at h
  simp at h
/-- All that mark does, as equations. -/
theorem mark_runs {B : Nat} {w : World} {d : Nat} {NL : List RN} {PL : List (List RN)} {vn vp : Value} {us : List Value} (h : RefP B w d NL PL vn vp us) (hB : B ≤ w.heap.size) (hn : NL.length ≤ 1300000000000) (hp : PL.length ≤ 1300000000000) :
    ∃ (ev cv lv qv : Value) (w1 w2 w3 w4 : World), (Instr.buildSlice 95 0 #[]).run Try.prog w = .ok ev w1 ∧ (Builtin.append_ #[95, 95] 95 #[ev, vn]).run Try.prog w1 = .ok cv w2 ∧
      (Instr.buildSlice 96 1 #[(0, cv)]).run Try.prog w2 = .ok lv w3 ∧ (Builtin.append_ #[96, 96] 96 #[vp, lv]).run Try.prog w3 = .ok qv w4 ∧
      (Instr.storeAt 96 (.pointer (some ⟨d, 1, none⟩)) qv).run Try.prog w4 = .ok () (w4.setCell ⟨d, 1, none⟩ qv) ∧
      Below w.heap.size w w1 ∧ Below w.heap.size w w2 ∧ Below w.heap.size w w3 ∧ Tch (fun j => vp.ownBlock = some j) w w4 ∧ w4.heap[d]? = some (.cells #[vn, vp] 98 (0, 0)) ∧
      RefP B (w4.setCell ⟨d, 1, none⟩ qv) d NL (PL ++ [NL]) vn qv (us ++ [cv]) ∧ (∀ j, refB d vn qv (us ++ [cv]) j → refB d vn vp us j ∨ w.heap.size ≤ j) := by
  obtain ⟨an, cn, en, hrn, _⟩ := h.nodes.open h.ok
  have ld := (Array.getElem?_eq_some_iff.1 h.cell).1
  have e0 := run_bs0 w
  have own1 := own_nilN w B hB
  have b1 : Below w.heap.size w (w.alloc (.cells #[] 100)) := (Below.refl _ _).alloc (Nat.le_refl _) _
  have z1 : (w.alloc (.cells #[] 100)).heap.size = w.heap.size + 1 := by simp
  generalize w.alloc (.cells #[] 100) = w1 at *
  obtain ⟨cv, w2, e1, own2, g2, o2⟩ := run_appN w1 B _ [] an NL cn own1 (hrn.below b1) h.ok (by simp; omega) (by omega)
  rw [List.nil_append] at own2
  have b2 : Below w.heap.size w w2 := b1.trans ⟨g2.os, g2.tape, g2.output, g2.size, fun j hj => g2.block j (by omega) (by simp [Value.ownBlock]; omega)⟩
  have ocv : ∀ j, cv.ownBlock = some j → w.heap.size ≤ j := by
    intro j hj
    rcases o2 with q | q
    · rw [q] at hj; simp [Value.ownBlock] at hj; omega
    · rw [q] at hj; simp at hj; omega
  obtain ⟨a2, c2, ecv, _, _⟩ := own2.open h.ok
  have e2 := run_bsV cv (by rw [ecv]; simp [Value.oneCell']) (by rw [ecv]; rfl) w2
  have b3' : Below w2.heap.size w2 (w2.alloc (.cells #[cv] 95)) := (Below.refl _ _).alloc (Nat.le_refl _) _
  have v3 : Vals (w2.alloc (.cells #[cv] 95)) (some ⟨w2.heap.size, 0, none⟩) [cv] := Or.inr ⟨_, _, rfl, fun j u hj => by
    rw [Nat.zero_add, cell_of_row _ _ _ _ _ _ (heap_alloc_new _ _)]
    simpa using hj⟩
  generalize w2.alloc (.cells #[cv] 95) = w3 at *
  have b3 : Below w.heap.size w w3 := b2.trans (b3'.mono b2.size)
  have z3 := b3.size
  have p3 := h.past.below b3
  obtain ⟨qv, w4, e3, own4, g4, o4⟩ := run_appV 96 95 24 _ Try.underlying96 infoNs (Or.inr rfl) rfl w3 B 96 vp us _ [cv] 1 p3 v3 (by intro u hu; simp at hu; subst hu; rw [ecv]; simp [Value.oneCell']) (by rw [h.len]; simp; omega) (by omega)
  have r3 := h.below b3
  have t4 : Tch (fun j => vp.ownBlock = some j) w w4 := by
    refine Tch.trans ⟨b3.os, b3.tape, b3.output, b3.size, fun j hj _ => b3.block j hj⟩ ⟨g4.os, g4.tape, g4.output, g4.size, fun j hj hO => g4.block j hj (fun q => hO q.symm)⟩
  have hd4 : w4.heap[d]? = some (.cells #[vn, vp] 98 (0, 0)) := (t4.block d ld (past_not h.cell h.past)).trans h.cell
  obtain ⟨a4, c4, eqv, _⟩ := own4.open
  have es := store_ref1 a4 (us ++ [cv]).length c4 hd4
  rw [← eqv] at es
  have ts := set_tch w4 d 1 qv
  have oqv : ∀ j, qv.ownBlock = some j → vp.ownBlock = some j ∨ w.heap.size ≤ j := by
    intro j hj
    rcases o4 with q | q
    · exact Or.inl (by rw [← q]; exact hj)
    · rw [q] at hj; simp at hj; exact Or.inr (by omega)
  have own2' := (own2.below b3').keep (w' := w4) fun j hj => g4.block j (by obtain ⟨_, c, q⟩ := (own2.below b3').ge j hj; exact (Array.getElem?_eq_some_iff.1 q).1) (fun q => nodes_past (own2.below b3') p3 hj q.symm)
  have n4 := h.nodes.keep (w' := w4) fun j hj => t4.block j (by obtain ⟨_, c, q⟩ := h.nodes.ge j hj; exact (Array.getElem?_eq_some_iff.1 q).1) (nodes_past h.nodes h.past hj)
  have l4 : ∀ (i : Nat) u P, us[i]? = some u → PL[i]? = some P → OwnN w4 B u P := fun i u P hu hP => (h.lists i u P hu hP).keep fun j hj => t4.block j (by obtain ⟨_, c, q⟩ := (h.lists i u P hu hP).ge j hj; exact (Array.getElem?_eq_some_iff.1 q).1) (nodes_past (h.lists i u P hu hP) h.past hj)
  have k5 : ∀ (v : Value) (L : List RN), OwnN w4 B v L → OwnN (w4.setCell ⟨d, 1, none⟩ qv) B v L := fun v L q => q.keep fun j hj => ts.block j (by obtain ⟨_, c, q⟩ := q.ge j hj; exact (Array.getElem?_eq_some_iff.1 q).1) (fun e => nodes_not hd4 q (by rw [← e]; exact hj))
  have lu : ∀ (i : Nat) u j, us[i]? = some u → u.ownBlock = some j → j < w.heap.size := fun i u j hu hj => (h.ge j (Or.inr (Or.inr (Or.inr ⟨i, u, hu, hj⟩)))).2
  have hus : ∀ (i : Nat) u, (us ++ [cv])[i]? = some u → (us[i]? = some u ∧ i < us.length) ∨ (u = cv ∧ i = us.length) := by
    intro i u hu
    by_cases hi : i < us.length
    · rw [List.getElem?_append_left hi] at hu; exact Or.inl ⟨hu, hi⟩
    · rw [List.getElem?_append_right (by omega)] at hu
      have := (List.getElem?_eq_some_iff.1 hu).1
      simp at this
      obtain rfl : i = us.length := by omega
      simp at hu
      exact Or.inr ⟨hu.symm, rfl⟩
  refine ⟨_, cv, _, qv, w1, w2, w3, w4, e0, by rw [en]; exact e1, e2, e3, es, b1, b2, b3, t4, hd4, ⟨set_ref1 hd4 qv, k5 _ _ n4, own4.keep fun j hj => ts.block j (by obtain ⟨_, c, q⟩ := own4.ge j hj; exact (Array.getElem?_eq_some_iff.1 q).1) (fun e => past_not hd4 own4 (by rw [← e]; exact hj)), by simp [h.len], fun i u P hu hP => ?_, h.dB, fun i u j hu hj => ?_, fun i i' u u' j hu hu' hne hj => ?_, h.ok, fun P hP => ?_, h.nd, fun P hP => ?_⟩, fun j hj => ?_⟩
  · rcases hus i u hu with ⟨q, hi⟩ | ⟨rfl, rfl⟩
    · rw [List.getElem?_append_left (by rw [← h.len]; exact hi)] at hP; exact k5 _ _ (l4 i u P q hP)
    · rw [h.len] at hP; simp at hP; subst hP; exact k5 _ _ own2'
  · rcases hus i u hu with ⟨q, _⟩ | ⟨rfl, _⟩
    · exact h.ap i u j q hj
    · have := ocv j hj
      intro e
      have := (h.ge j (Or.inr (Or.inl e))).2
      omega
  · rcases hus i u hu with ⟨q, _⟩ | ⟨rfl, e1⟩ <;> rcases hus i' u' hu' with ⟨q', _⟩ | ⟨rfl, e2⟩
    · exact h.ap2 i i' u u' j q q' hne hj
    · intro e; have := ocv j e; have := lu i u j q hj; omega
    · intro e; have := ocv j hj; have := lu i' u' j q' e; omega
    · omega
  · rcases List.mem_append.1 hP with q | q
    · exact h.okP P q
    · simp at q; subst q; exact h.ok
  · rcases List.mem_append.1 hP with q | q
    · exact h.ndP P q
    · simp at q; subst q; exact h.nd
  · rcases hj with rfl | q | q | ⟨i, u, hu, q⟩
    · exact Or.inl (Or.inl rfl)
    · exact Or.inl (Or.inr (Or.inl q))
    · rcases oqv j q with q | q
      · exact Or.inl (Or.inr (Or.inr (Or.inl q)))
      · exact Or.inr q
    · rcases hus i u hu with ⟨p, _⟩ | ⟨rfl, _⟩
      · exact Or.inl (Or.inr (Or.inr (Or.inr ⟨i, u, p, q⟩)))
      · exact Or.inr (ocv j q)
set_option maxRecDepth 100000 in
set_option maxHeartbeats 4000000 in
/-- The document's mark. -/
theorem mark_any {B : Nat} {w : World} {d : Nat} {NL : List RN} {PL : List (List RN)} {vn vp : Value} {us : List Value} (h : RefP B w d NL PL vn vp us) (hB : B ≤ w.heap.size) (hn : NL.length ≤ 1300000000000) (hp : PL.length ≤ 1300000000000) :
    Calls Try.prog 48 #[.pointer (some ⟨d, 0, none⟩)] w fun e w' => e = .returned (.tuple #[]) ∧ ∃ qv cv, RefP B w' d NL (PL ++ [NL]) vn qv (us ++ [cv]) ∧ Tch (fun j => j = d ∨ vp.ownBlock = some j) w w' ∧ (∀ j, refB d vn qv (us ++ [cv]) j → refB d vn vp us j ∨ w.heap.size ≤ j) := by
  have bd : Below w.heap.size w w.drew := (Below.refl _ _).drew
  have hd := h.below bd
  have ld := (Array.getElem?_eq_some_iff.1 hd.cell).1
  obtain ⟨ev, cv, lv, qv, w1, w2, w3, w4, e0, e1, e2, e3, es, b1, b2, b3, t4, hd4, hr, hbl⟩ := mark_runs hd hB hn hp
  have fin1 : Tch (fun j => j = d ∨ vp.ownBlock = some j) w w4 := (Tch.refl _ w).drew.trans (Tch.mono (w := w.drew) t4 fun k _ q => Or.inr q)
  have fin : Tch (fun j => j = d ∨ vp.ownBlock = some j) w (w4.setCell ⟨d, 1, none⟩ qv) := fin1.trans ((set_tch w4 d 1 qv).mono fun k _ q => Or.inl q)
  obtain ⟨an, cn, en, _⟩ := h.nodes.open h.ok
  obtain ⟨ap, cp, ep, _⟩ := h.past.open
  obtain ⟨w5, hw5⟩ : ∃ w5, w4.setCell ⟨d, 1, none⟩ qv = w5 := ⟨_, rfl⟩
  have s5 : w5.cell? ⟨d, 0, none⟩ = some vn := by rw [← hw5, cell_of_row _ _ 0 _ _ _ (set_ref1 hd4 qv)]; rfl
  have s4 : w4.cell? ⟨d, 0, none⟩ = some vn := by rw [cell_of_row _ _ 0 _ _ _ hd4]; rfl
  have c0 : w.drew.cell? ⟨d, 0, none⟩ = some vn := by rw [cell_of_row _ _ 0 _ _ _ hd.cell]; rfl
  have c1 : w.drew.cell? ⟨d, 1, none⟩ = some vp := by rw [cell_of_row _ _ 1 _ _ _ hd.cell]; rfl
  have f0 : ∀ W, Below w.drew.heap.size w.drew W → W.cell? ⟨d, 0, none⟩ = some vn := fun W b => (b.cell (p := ⟨d, 0, none⟩) ld).trans c0
  have f1 : ∀ W, Below w.drew.heap.size w.drew W → (Instr.loadAt 96 (.pointer (some ⟨d, 1, none⟩))).run Try.prog W = .ok vp W := fun W b => by
    have hc := (b.cell (p := ⟨d, 1, none⟩) ld).trans c1
    rw [ep] at hc ⊢
    go_simp
  rw [hw5] at es hr fin
  go_enter Try.func48, Try.ntmps48
  go_upto_region 0 with fail
  refine mark0 d (.pointer (some ⟨d, 0, none⟩)) (.pointer (some ⟨d, 1, none⟩)) vn vp ev cv lv qv w1 w2 w3 w4 w5 (fun W => W.cell? ⟨d, 0, none⟩ = some vn) _ w _ rfl rfl (fun W => by go_simp) (fun W => by go_simp) (fun W hw => by rw [en] at hw ⊢; go_simp) c0 (f0 _ b1) (f0 _ b2) (f0 _ b3) s4 s5 (f1 _ (Below.refl _ _)) (f1 _ b1) (f1 _ b2) (f1 _ b3) e0 e1 e2 e3 es ?_ ?_ ?_ ?_
  all_goals
    intro a' w' hw' ha
    subst hw' ha
    simp only [Act.put, List.setIfInBounds_toArray, List.set_cons_zero, List.set_cons_succ]
    refine bodyPost_end (results_none rfl _ _ _) rfl ?_
    exact ⟨rfl, qv, cv, hr, fin, hbl⟩
end Go.Proofs.Ytoofljkgdjjllab

namespace Go.Proofs.Ytoofljkgdjjllab
open Go.RowKit
set_option linter.unusedVariables false
set_option linter.unusedSimpArgs false

theorem exec_b3 {P : Program} {w : World} {a : Act} {o : Oper} {t : TypeId} {x y z : Operand} {xv yv zv v : Value} (ho : o.op = .build t #[(0, x), (1, y), (2, z)]) (hx : a.eval x = xv) (hy : a.eval y = yv) (hz : a.eval z = zv) (hl : (Instr.build t #[(0, xv), (1, yv), (2, zv)]).run P w = .ok v w) : (execOp a.eval o).run P w = .ok (.value v) w :=
  exec_build ho (by simp [hx, hy, hz]) hl
def rgrow10_o0 : Oper := { dst := some 32, op := Op.move (Operand.tmp 0), type := 74, pos := "ref.go:72", after := #[], guard := none }
def rgrow10_o1 : Oper := { dst := some 33, op := Op.move (Operand.tmp 0), type := 74, pos := "ref.go:72", after := #[], guard := none }
def rgrow10_o2 : Oper := { dst := some 34, op := Op.nilCheck (Operand.tmp 33), type := 0, pos := "ref.go:72", after := #[{ on := 1, ground := Ground.data }], guard := none }
def rgrow10_o3 : Oper := { dst := some 35, op := Op.fieldAddr 98 (Operand.tmp 34) 0, type := 0, pos := "ref.go:72", after := #[{ on := 2, ground := Ground.data }], guard := none }
def rgrow10_o4 : Oper := { dst := some 36, op := Op.load 95 (Operand.tmp 35), type := 95, pos := "ref.go:72", after := #[{ on := 3, ground := Ground.data }], guard := none }
def rgrow10_o5 : Oper := { dst := some 37, op := Op.load 35 (Operand.tmp 5), type := 35, pos := "ref.go:72", after := #[], guard := none }
def rgrow10_o6 : Oper := { dst := some 38, op := Op.load 35 (Operand.tmp 6), type := 35, pos := "ref.go:72", after := #[], guard := none }
def rgrow10_o7 : Oper := { dst := some 39, op := Op.move (Operand.tmp 3), type := 9, pos := "ref.go:72", after := #[], guard := none }
def rgrow10_o8 : Oper := { dst := some 40, op := Op.build 100 #[(0, Operand.tmp 37), (1, Operand.tmp 38), (2, Operand.tmp 39)], type := 100, pos := "ref.go:72", after := #[{ on := 5, ground := Ground.data }, { on := 6, ground := Ground.data }, { on := 7, ground := Ground.data }], guard := none }
def rgrow10_o9 : Oper := { dst := some 41, op := Op.buildSlice 95 1 #[(0, Operand.tmp 40)], type := 95, pos := "ref.go:72", after := #[{ on := 8, ground := Ground.data }], guard := none }
def rgrow10_o10 : Oper := { dst := some 42, op := Op.call { callee := Callee.builtin Builtin.append, args := #[Operand.tmp 36, Operand.tmp 41], argTypes := #[95, 95] }, type := 95, pos := "ref.go:72", after := #[{ on := 4, ground := Ground.data }, { on := 9, ground := Ground.data }], guard := none }
def rgrow10_o11 : Oper := { dst := some 43, op := Op.nilCheck (Operand.tmp 32), type := 0, pos := "ref.go:72", after := #[{ on := 0, ground := Ground.data }, { on := 0, ground := Ground.phase }, { on := 1, ground := Ground.phase }, { on := 2, ground := Ground.phase }, { on := 3, ground := Ground.phase }, { on := 4, ground := Ground.phase }, { on := 5, ground := Ground.phase }, { on := 6, ground := Ground.phase }, { on := 7, ground := Ground.phase }, { on := 8, ground := Ground.phase }, { on := 9, ground := Ground.phase }, { on := 10, ground := Ground.phase }], guard := none }
def rgrow10_o12 : Oper := { dst := some 44, op := Op.fieldAddr 98 (Operand.tmp 43) 0, type := 0, pos := "ref.go:72", after := #[{ on := 11, ground := Ground.data }, { on := 0, ground := Ground.phase }, { on := 1, ground := Ground.phase }, { on := 2, ground := Ground.phase }, { on := 3, ground := Ground.phase }, { on := 4, ground := Ground.phase }, { on := 5, ground := Ground.phase }, { on := 6, ground := Ground.phase }, { on := 7, ground := Ground.phase }, { on := 8, ground := Ground.phase }, { on := 9, ground := Ground.phase }, { on := 10, ground := Ground.phase }], guard := none }
def rgrow10_o13 : Oper := { dst := none, op := Op.store 95 (Operand.tmp 44) (Operand.tmp 42), type := 0, pos := "ref.go:72", after := #[{ on := 12, ground := Ground.data }, { on := 10, ground := Ground.data }, { on := 10, ground := Ground.chain }, { on := 0, ground := Ground.phase }, { on := 1, ground := Ground.phase }, { on := 2, ground := Ground.phase }, { on := 3, ground := Ground.phase }, { on := 4, ground := Ground.phase }, { on := 5, ground := Ground.phase }, { on := 6, ground := Ground.phase }, { on := 7, ground := Ground.phase }, { on := 8, ground := Ground.phase }, { on := 9, ground := Ground.phase }, { on := 10, ground := Ground.phase }], guard := none }
def rgrow10_ops : Array Oper := #[rgrow10_o0, rgrow10_o1, rgrow10_o2, rgrow10_o3, rgrow10_o4, rgrow10_o5, rgrow10_o6, rgrow10_o7, rgrow10_o8, rgrow10_o9, rgrow10_o10, rgrow10_o11, rgrow10_o12, rgrow10_o13]
set_option maxRecDepth 100000 in
set_option maxHeartbeats 4000000 in
theorem rgrow10 (d : Nat) (f0 pkv pu kv uv sv xv nv lv qv : Value) (w1 w2 w3 : World) (S : World → Prop) (a : Act) (w : World) (Q : Exit → Act → World → Prop) (hsz : a.tmps.size = 45)
    (t0 : a.tmps.getD 0 undef = .pointer (some ⟨d, 0, none⟩))
    (t3 : a.tmps.getD 3 undef = sv)
    (t5 : a.tmps.getD 5 undef = pkv)
    (t6 : a.tmps.getD 6 undef = pu)
    (GF0 : ∀ W, (Instr.fieldAt 98 (.pointer (some ⟨d, 0, none⟩)) 0).run Try.prog W = .ok f0 W) (GB : ∀ W, (Instr.build 100 #[(0, kv), (1, uv), (2, sv)]).run Try.prog W = .ok xv W)
    (GK : ∀ W, S W → (Instr.loadAt 35 pkv).run Try.prog W = .ok kv W) (GU : ∀ W, S W → (Instr.loadAt 35 pu).run Try.prog W = .ok uv W)
    (S0 : S w.drew) (S1 : S w1) (S2 : S w2) (S3 : S w3)
    (K0 : (Instr.loadAt 95 f0).run Try.prog w.drew = .ok nv w.drew) (K1 : (Instr.loadAt 95 f0).run Try.prog w1 = .ok nv w1)
    (EB : (Instr.buildSlice 95 1 #[(0, xv)]).run Try.prog w.drew = .ok lv w1) (EA : (Builtin.append_ #[95, 95] 95 #[nv, lv]).run Try.prog w1 = .ok qv w2) (ES : (Instr.storeAt 95 f0 qv).run Try.prog w2 = .ok () w3)
    (h1 : ∀ (a' : Act) (w' : World), w' = w3 → a' = (((((((((((((a).put (some 32) (.pointer (some ⟨d, 0, none⟩))).put (some 33) (.pointer (some ⟨d, 0, none⟩))).put (some 34) (.pointer (some ⟨d, 0, none⟩))).put (some 35) (f0)).put (some 37) (kv)).put (some 38) (uv)).put (some 39) (sv)).put (some 40) (xv)).put (some 36) (nv)).put (some 41) (lv)).put (some 42) (qv)).put (some 43) (.pointer (some ⟨d, 0, none⟩))).put (some 44) (f0) → Q .normal a' w')
    (h2 : ∀ (a' : Act) (w' : World), w' = w3 → a' = (((((((((((((a).put (some 32) (.pointer (some ⟨d, 0, none⟩))).put (some 33) (.pointer (some ⟨d, 0, none⟩))).put (some 34) (.pointer (some ⟨d, 0, none⟩))).put (some 35) (f0)).put (some 37) (kv)).put (some 38) (uv)).put (some 39) (sv)).put (some 40) (xv)).put (some 41) (lv)).put (some 36) (nv)).put (some 42) (qv)).put (some 43) (.pointer (some ⟨d, 0, none⟩))).put (some 44) (f0) → Q .normal a' w') :
    (Code.region 10 rgrow10_ops true).wp Try.prog Q a w := by
  refine wp_region_noPanic ?_
  refine wp_region_held_drew (S := fun w' => S w') (by kernel_rfl) (S0) (fun hHeld => ?_)
  refine tk 0 rgrow10_o0 (.pointer (some ⟨d, 0, none⟩)) (by rfl) (fun w1 hw => exec_move rfl t0) hHeld (fun a1 e1 => ?_)
  rw [← e1] at h1 h2
  have z1 := pz e1 hsz
  replace t0 := pk e1 t0
  replace t3 := pk e1 t3
  replace t5 := pk e1 t5
  replace t6 := pk e1 t6
  have t32 := pq e1 hsz
  clear e1 hsz
  refine tk 1 rgrow10_o1 (.pointer (some ⟨d, 0, none⟩)) (by rfl) (fun w1 hw => exec_move rfl t0) hHeld (fun a2 e2 => ?_)
  rw [← e2] at h1 h2
  have z2 := pz e2 z1
  clear t0
  replace t3 := pk e2 t3
  replace t5 := pk e2 t5
  replace t6 := pk e2 t6
  replace t32 := pk e2 t32
  have t33 := pq e2 z1
  clear e2 z1
  refine tk 2 rgrow10_o2 (.pointer (some ⟨d, 0, none⟩)) (by rfl) (fun w1 hw => exec_nilCheck rfl t33) hHeld (fun a3 e3 => ?_)
  rw [← e3] at h1 h2
  have z3 := pz e3 z2
  replace t3 := pk e3 t3
  replace t5 := pk e3 t5
  replace t6 := pk e3 t6
  replace t32 := pk e3 t32
  clear t33
  have t34 := pq e3 z2
  clear e3 z2
  refine tk 3 rgrow10_o3 (f0) (by rfl) (fun w1 hw => exec_fieldAt rfl t34 (GF0 _)) hHeld (fun a4 e4 => ?_)
  rw [← e4] at h1 h2
  have z4 := pz e4 z3
  replace t3 := pk e4 t3
  replace t5 := pk e4 t5
  replace t6 := pk e4 t6
  replace t32 := pk e4 t32
  clear t34
  have t35 := pq e4 z3
  clear e4 z3
  refine tk 5 rgrow10_o5 (kv) (by rfl) (fun w1 hw => exec_load rfl t5 (GK _ hw)) hHeld (fun a5 e5 => ?_)
  rw [← e5] at h1 h2
  have z5 := pz e5 z4
  replace t3 := pk e5 t3
  clear t5
  replace t6 := pk e5 t6
  replace t32 := pk e5 t32
  replace t35 := pk e5 t35
  have t37 := pq e5 z4
  clear e5 z4
  refine tk 6 rgrow10_o6 (uv) (by rfl) (fun w1 hw => exec_load rfl t6 (GU _ hw)) hHeld (fun a6 e6 => ?_)
  rw [← e6] at h1 h2
  have z6 := pz e6 z5
  replace t3 := pk e6 t3
  clear t6
  replace t32 := pk e6 t32
  replace t35 := pk e6 t35
  replace t37 := pk e6 t37
  have t38 := pq e6 z5
  clear e6 z5
  refine tk 7 rgrow10_o7 (sv) (by rfl) (fun w1 hw => exec_move rfl t3) hHeld (fun a7 e7 => ?_)
  rw [← e7] at h1 h2
  have z7 := pz e7 z6
  clear t3
  replace t32 := pk e7 t32
  replace t35 := pk e7 t35
  replace t37 := pk e7 t37
  replace t38 := pk e7 t38
  have t39 := pq e7 z6
  clear e7 z6
  refine tk 8 rgrow10_o8 (xv) (by rfl) (fun w1 hw => exec_b3 rfl t37 t38 t39 (GB _)) hHeld (fun a8 e8 => ?_)
  rw [← e8] at h1 h2
  have z8 := pz e8 z7
  replace t32 := pk e8 t32
  replace t35 := pk e8 t35
  clear t37
  clear t38
  clear t39
  have t40 := pq e8 z7
  clear e8 z7
  refine wpAnyH_ready (rs := [4, 9]) (by kernel_rfl) (by simp) ?_
  refine AllReadyH.cons (o := rgrow10_o4) rfl (fun K hK => ?_) (AllReadyH.cons (o := rgrow10_o9) rfl (fun K hK => ?_) (AllReadyH.nil))
  · clear h2
    skip
    have X := exec_load (P := Try.prog) (a := a8) (o := rgrow10_o4) rfl t35 K0
    rw [if_pos (by rfl), Oper.wp, X]
    show K _ _
    clear X
    refine hK.out _ _ (S0) (fun hHeld => ?_)
    clear hK K
    change wpAnyH _ _ _ _ _ _ _ (a8.put (some 36) (nv)) _
    obtain ⟨a9, e9⟩ : ∃ act, act = a8.put (some 36) (nv) := ⟨_, rfl⟩
    rw [← e9] at h1 ⊢
    have z9 := pz e9 z8
    replace t32 := pk e9 t32
    clear t35
    replace t40 := pk e9 t40
    have t36 := pq e9 z8
    clear e9 z8
    refine wpAnyH_ready (rs := [9]) (by kernel_rfl) (by simp) ?_
    refine AllReadyH.cons (o := rgrow10_o9) rfl (fun K hK => ?_) AllReadyH.nil
    skip
    have X := exec_buildSlice (P := Try.prog) (a := a9) (o := rgrow10_o9) rfl t40 EB
    rw [if_pos (by rfl), Oper.wp, X]
    show K _ _
    clear X
    refine hK.out _ _ (S1) (fun hHeld => ?_)
    clear hK K
    change wpAnyH _ _ _ _ _ _ _ (a9.put (some 41) (lv)) _
    obtain ⟨a10, e10⟩ : ∃ act, act = a9.put (some 41) (lv) := ⟨_, rfl⟩
    rw [← e10] at h1 ⊢
    have z10 := pz e10 z9
    replace t32 := pk e10 t32
    clear t40
    replace t36 := pk e10 t36
    have t41 := pq e10 z9
    clear e10 z9
    refine wpAnyH_ready (rs := [10]) (by kernel_rfl) (by simp) ?_
    refine AllReadyH.cons (o := rgrow10_o10) rfl (fun K hK => ?_) AllReadyH.nil
    skip
    have X := exec_append (P := Try.prog) (a := a10) (o := rgrow10_o10) rfl t36 t41 EA
    rw [if_pos (by rfl), Oper.wp, X]
    show K _ _
    clear X
    refine hK.out _ _ (S2) (fun hHeld => ?_)
    clear hK K
    change wpAnyH _ _ _ _ _ _ _ (a10.put (some 42) (qv)) _
    obtain ⟨a11, e11⟩ : ∃ act, act = a10.put (some 42) (qv) := ⟨_, rfl⟩
    rw [← e11] at h1 ⊢
    have z11 := pz e11 z10
    replace t32 := pk e11 t32
    clear t36
    clear t41
    have t42 := pq e11 z10
    clear e11 z10
    refine tk 11 rgrow10_o11 (.pointer (some ⟨d, 0, none⟩)) (by rfl) (fun w1 hw => exec_nilCheck rfl t32) hHeld (fun a12 e12 => ?_)
    rw [← e12] at h1
    have z12 := pz e12 z11
    clear t32
    replace t42 := pk e12 t42
    have t43 := pq e12 z11
    clear e12 z11
    refine tk 12 rgrow10_o12 (f0) (by rfl) (fun w1 hw => exec_fieldAt rfl t43 (GF0 _)) hHeld (fun a13 e13 => ?_)
    rw [← e13] at h1
    have z13 := pz e13 z12
    replace t42 := pk e13 t42
    clear t43
    have t44 := pq e13 z12
    clear e13 z12
    refine wpAnyH_ready (rs := [13]) (by kernel_rfl) (by simp) ?_
    refine AllReadyH.cons (o := rgrow10_o13) rfl (fun K hK => ?_) AllReadyH.nil
    skip
    have X := exec_store (P := Try.prog) (a := a13) (o := rgrow10_o13) rfl t44 t42 ES
    rw [if_pos (by rfl), Oper.wp, X]
    show K _ _
    clear X
    refine hK.out _ _ (S3) (fun hHeld => ?_)
    clear hK K
    exact wpAnyH_done (by kernel_rfl) (NoPanic.normal (h1 _ _ (rfl) rfl)) _
  · clear h1
    skip
    have X := exec_buildSlice (P := Try.prog) (a := a8) (o := rgrow10_o9) rfl t40 EB
    rw [if_pos (by rfl), Oper.wp, X]
    show K _ _
    clear X
    refine hK.out _ _ (S1) (fun hHeld => ?_)
    clear hK K
    change wpAnyH _ _ _ _ _ _ _ (a8.put (some 41) (lv)) _
    obtain ⟨a15, e15⟩ : ∃ act, act = a8.put (some 41) (lv) := ⟨_, rfl⟩
    rw [← e15] at h2 ⊢
    have z15 := pz e15 z8
    replace t32 := pk e15 t32
    replace t35 := pk e15 t35
    clear t40
    have t41 := pq e15 z8
    clear e15 z8
    refine wpAnyH_ready (rs := [4]) (by kernel_rfl) (by simp) ?_
    refine AllReadyH.cons (o := rgrow10_o4) rfl (fun K hK => ?_) AllReadyH.nil
    skip
    have X := exec_load (P := Try.prog) (a := a15) (o := rgrow10_o4) rfl t35 K1
    rw [if_pos (by rfl), Oper.wp, X]
    show K _ _
    clear X
    refine hK.out _ _ (S1) (fun hHeld => ?_)
    clear hK K
    change wpAnyH _ _ _ _ _ _ _ (a15.put (some 36) (nv)) _
    obtain ⟨a16, e16⟩ : ∃ act, act = a15.put (some 36) (nv) := ⟨_, rfl⟩
    rw [← e16] at h2 ⊢
    have z16 := pz e16 z15
    replace t32 := pk e16 t32
    clear t35
    replace t41 := pk e16 t41
    have t36 := pq e16 z15
    clear e16 z15
    refine wpAnyH_ready (rs := [10]) (by kernel_rfl) (by simp) ?_
    refine AllReadyH.cons (o := rgrow10_o10) rfl (fun K hK => ?_) AllReadyH.nil
    skip
    have X := exec_append (P := Try.prog) (a := a16) (o := rgrow10_o10) rfl t36 t41 EA
    rw [if_pos (by rfl), Oper.wp, X]
    show K _ _
    clear X
    refine hK.out _ _ (S2) (fun hHeld => ?_)
    clear hK K
    change wpAnyH _ _ _ _ _ _ _ (a16.put (some 42) (qv)) _
    obtain ⟨a17, e17⟩ : ∃ act, act = a16.put (some 42) (qv) := ⟨_, rfl⟩
    rw [← e17] at h2 ⊢
    have z17 := pz e17 z16
    replace t32 := pk e17 t32
    clear t41
    clear t36
    have t42 := pq e17 z16
    clear e17 z16
    refine tk 11 rgrow10_o11 (.pointer (some ⟨d, 0, none⟩)) (by rfl) (fun w1 hw => exec_nilCheck rfl t32) hHeld (fun a18 e18 => ?_)
    rw [← e18] at h2
    have z18 := pz e18 z17
    clear t32
    replace t42 := pk e18 t42
    have t43 := pq e18 z17
    clear e18 z17
    refine tk 12 rgrow10_o12 (f0) (by rfl) (fun w1 hw => exec_fieldAt rfl t43 (GF0 _)) hHeld (fun a19 e19 => ?_)
    rw [← e19] at h2
    have z19 := pz e19 z18
    replace t42 := pk e19 t42
    clear t43
    have t44 := pq e19 z18
    clear e19 z18
    refine wpAnyH_ready (rs := [13]) (by kernel_rfl) (by simp) ?_
    refine AllReadyH.cons (o := rgrow10_o13) rfl (fun K hK => ?_) AllReadyH.nil
    skip
    have X := exec_store (P := Try.prog) (a := a19) (o := rgrow10_o13) rfl t44 t42 ES
    rw [if_pos (by rfl), Oper.wp, X]
    show K _ _
    clear X
    refine hK.out _ _ (S3) (fun hHeld => ?_)
    clear hK K
    exact wpAnyH_done (by kernel_rfl) (NoPanic.normal (h2 _ _ (rfl) rfl)) _
end Go.Proofs.Ytoofljkgdjjllab

namespace Go.Proofs.Ytoofljkgdjjllab
open Go.RowKit
set_option linter.unusedVariables false
set_option linter.unusedSimpArgs false
set_option linter.unusedSectionVars false

section
variable (d : Nat) (NL : List RN) (pv : Value) (k u : IdK) (key : ByteArray) (w : World) (h : RefAt w d NL pv) (hk : k.ok) (hu : u.ok) (hn : NL.length ≤ 1300000000000)
include h hk hu hn
set_option maxRecDepth 100000 in
set_option maxHeartbeats 2000000 in
/-- The document's Grow of no Id. -/
theorem rgrow_zero (hz : k = zId) : Calls Try.prog 32 #[.pointer (some ⟨d, 0, none⟩), k.v, u.v, .string key] w fun e w' => e = .returned (.int .i64 2) ∧ Below w.heap.size w w' := by
  have hq : ∀ w : World, (binOp .eql 35 k.v zId.v).run Try.prog w = .ok (.bool true) w := fun w => by rw [eql_id k zId hk zId_ok, decide_eq_true hz]
  clear hz h hn
  unfold IdK.v
  go_enter Try.func32, Try.ntmps32
  go_upto_region 1 with fail
  obtain ⟨hx, hy, bx, zx⟩ := two_boxes w k u
  generalize (w.alloc (.cells k.c.toArray 35)).alloc (.cells u.c.toArray 35) = W at *
  go_wp2_with (first
    | (refine wpList_val rfl (exec_load rfl rfl (load_id hk hx)) ?_)
    | (refine wpList_val rfl (exec_build0 rfl (build_id _)) ?_)
    | (refine wpList_val rfl (exec_binOp rfl rfl rfl (guard_id _ _ k zId _ _) (hq _)) ?_)
    | fail)
  go_ret
  exact ⟨rfl, bx⟩
set_option maxRecDepth 100000 in
set_option maxHeartbeats 2000000 in
/-- The document's Grow of a node that is there. -/
theorem rgrow_known (hz : k ≠ zId) (hh : (lookN NL k).isSome = true) : Calls Try.prog 32 #[.pointer (some ⟨d, 0, none⟩), k.v, u.v, .string key] w fun e w' => e = .returned (.int .i64 5) ∧ Below w.heap.size w w' := by
  have hq : ∀ w : World, (binOp .eql 35 k.v zId.v).run Try.prog w = .ok (.bool false) w := fun w => by rw [eql_id k zId hk zId_ok, decide_eq_false hz]
  have H1 : Hid (∀ W, Below w.heap.size w W → Calls Try.prog 47 #[.pointer (some ⟨d, 0, none⟩), k.v] W fun e w' => e = .returned (.bool true) ∧ Below W.heap.size W w') := fun W b => by
    have := rhas_any d NL pv k W (h.below b) hk hn
    rwa [hh] at this
  clear hz hh h hn
  unfold IdK.v
  go_enter Try.func32, Try.ntmps32
  go_upto_region 1 with fail
  obtain ⟨hx, hy, bx, zx⟩ := two_boxes w k u
  generalize (w.alloc (.cells k.c.toArray 35)).alloc (.cells u.c.toArray 35) = W at *
  go_wp2_with (first
    | (refine wpList_val rfl (exec_load rfl rfl (load_id hk hx)) ?_)
    | (refine wpList_val rfl (exec_build0 rfl (build_id _)) ?_)
    | (refine wpList_val rfl (exec_binOp rfl rfl rfl (guard_id _ _ k zId _ _) (hq _)) ?_)
    | (go_at_call 47; refine (H1.out _ bx).mono ?_; rintro e w' ⟨rfl, b'⟩)
    | fail)
  go_ret
  exact ⟨rfl, bx.trans (b'.mono (by omega))⟩
set_option maxRecDepth 100000 in
set_option maxHeartbeats 2000000 in
/-- The document's Grow under what is not there. -/
theorem rgrow_none (hz : k ≠ zId) (hh : (lookN NL k).isSome = false) (hb : Bears (lookN NL) u = false) : Calls Try.prog 32 #[.pointer (some ⟨d, 0, none⟩), k.v, u.v, .string key] w fun e w' => e = .returned (.int .i64 4) ∧ Below w.heap.size w w' := by
  have hb2 : u ≠ zId ∧ (lookN NL u).isSome = false := by simpa [Bears] using hb
  have hq : ∀ w : World, (binOp .eql 35 k.v zId.v).run Try.prog w = .ok (.bool false) w := fun w => by rw [eql_id k zId hk zId_ok, decide_eq_false hz]
  have hq2 : ∀ w : World, (binOp .neq 35 u.v zId.v).run Try.prog w = .ok (.bool true) w := fun w => by rw [neq_id u zId hu zId_ok, decide_eq_false hb2.1]; rfl
  have H1 : Hid (∀ W, Below w.heap.size w W → Calls Try.prog 47 #[.pointer (some ⟨d, 0, none⟩), k.v] W fun e w' => e = .returned (.bool false) ∧ Below W.heap.size W w') := fun W b => by
    have := rhas_any d NL pv k W (h.below b) hk hn
    rwa [hh] at this
  have H2 : Hid (∀ W, Below w.heap.size w W → Calls Try.prog 47 #[.pointer (some ⟨d, 0, none⟩), u.v] W fun e w' => e = .returned (.bool false) ∧ Below W.heap.size W w') := fun W b => by
    have := rhas_any d NL pv u W (h.below b) hu hn
    rwa [hb2.2] at this
  clear hz hh h hn hb hb2
  unfold IdK.v
  go_enter Try.func32, Try.ntmps32
  go_upto_region 1 with fail
  obtain ⟨hx, hy, bx, zx⟩ := two_boxes w k u
  have ZX := hidMk zx
  clear zx
  generalize (w.alloc (.cells k.c.toArray 35)).alloc (.cells u.c.toArray 35) = W at *
  have HX := hidMk (load_id hk hx)
  go_wp2_with (first
    | (refine wpList_val rfl (exec_load (t := 35) (u := .pointer (some ⟨w.heap.size, 0, none⟩)) rfl rfl HX.out) ?_)
    | (refine wpList_val rfl (exec_load (t := 35) (u := .pointer (some ⟨w.heap.size + 1, 0, none⟩)) rfl rfl HY.out) ?_)
    | (refine wpList_val rfl (exec_build0 rfl (build_id _)) ?_)
    | (refine wpList_val rfl (exec_binOp rfl rfl rfl (guard_id _ _ k zId _ _) (hq _)) ?_)
    | (refine wpList_val rfl (exec_binOp rfl rfl rfl (guard_id _ _ u zId _ _) (hq2 _)) ?_)
    | (go_at_call 47; refine (H1.out _ bx).mono ?_; rintro e w1 ⟨rfl, b1⟩; have HY := hidMk (load_id hu ((b1.block _ (by have := ZX.out; omega)).trans hy)); clear H1)
    | (go_at_call 47; refine (H2.out _ (bx.trans (b1.mono bx.size))).mono ?_; rintro e w2 ⟨rfl, b2⟩)
    | fail)
  go_ret
  have c1 := bx.trans (b1.mono bx.size)
  exact ⟨rfl, c1.trans (b2.mono c1.size)⟩
end
end Go.Proofs.Ytoofljkgdjjllab

namespace Go.Proofs.Ytoofljkgdjjllab
open Go.RowKit
set_option linter.unusedVariables false
set_option linter.unusedSimpArgs false

section
variable {B : Nat} {w : World} {d : Nat} {NL : List RN} {PL : List (List RN)} {vn vp : Value} {us : List Value}
/-- Other nodes in the document's tree, its past as it was. -/
theorem RefP.nodes' (h : RefP B w d NL PL vn vp us) {W : World} {qv : Value} {NL' : List RN} (t : Tch (fun j => j = d ∨ vn.ownBlock = some j) w W) (hc : W.heap[d]? = some (.cells #[qv, vp] 98 (0, 0))) (ho : OwnN W B qv NL')
    (hq : ∀ j, qv.ownBlock = some j → vn.ownBlock = some j ∨ w.heap.size ≤ j) (ok : ∀ p ∈ NL', RnOk p) (nd : (NL'.map (·.1)).Nodup) : RefP B W d NL' PL qv vp us ∧ (∀ j, refB d qv vp us j → refB d vn vp us j ∨ w.heap.size ≤ j) := by
  have lu : ∀ (i : Nat) u j, us[i]? = some u → u.ownBlock = some j → j < w.heap.size := fun i u j hu hj => (h.ge j (Or.inr (Or.inr (Or.inr ⟨i, u, hu, hj⟩)))).2
  refine ⟨⟨hc, ho, h.past.keep fun j hj => t.block j ?_ ?_, h.len, fun i u P hu hP => (h.lists i u P hu hP).keep fun j hj => t.block j (lu i u j hu hj) ?_, h.dB, fun i u j hu hj => ?_, h.ap2, ok, h.okP, nd, h.ndP⟩, fun j hj => ?_⟩
  · obtain ⟨_, c, q⟩ := h.past.ge j hj; exact (Array.getElem?_eq_some_iff.1 q).1
  · rintro (rfl | q)
    · exact past_not h.cell h.past hj
    · exact nodes_past h.nodes h.past q hj
  · rintro (rfl | q)
    · exact nodes_not h.cell (h.lists i u P hu hP) hj
    · exact h.ap i u j hu hj q
  · intro q
    rcases hq j q with e | e
    · exact h.ap i u j hu hj e
    · have := lu i u j hu hj; omega
  · rcases hj with rfl | q | q | q
    · exact Or.inl (Or.inl rfl)
    · rcases hq j q with e | e
      · exact Or.inl (Or.inr (Or.inl e))
      · exact Or.inr e
    · exact Or.inl (Or.inr (Or.inr (Or.inl q)))
    · exact Or.inl (Or.inr (Or.inr (Or.inr q)))
/-- A node more, as equations. -/
theorem more_runs (h : RefP B w d NL PL vn vp us) (hB : B ≤ w.heap.size) (hn : NL.length ≤ 1300000000000) (p : RN) (hp : RnOk p) (hk : p.1 ∉ NL.map (·.1)) :
    ∃ (lv qv : Value) (w1 w2 : World), (Instr.buildSlice 95 1 #[(0, .agg (rnC p).toArray)]).run Try.prog w = .ok lv w1 ∧ (Builtin.append_ #[95, 95] 95 #[vn, lv]).run Try.prog w1 = .ok qv w2 ∧
      (Instr.storeAt 95 (.pointer (some ⟨d, 0, none⟩)) qv).run Try.prog w2 = .ok () (w2.setCell ⟨d, 0, none⟩ qv) ∧ Below w.heap.size w w1 ∧ Tch (fun j => vn.ownBlock = some j) w w2 ∧ Tch (fun j => j = d ∨ vn.ownBlock = some j) w (w2.setCell ⟨d, 0, none⟩ qv) ∧
      RefP B (w2.setCell ⟨d, 0, none⟩ qv) d (NL ++ [p]) PL qv vp us ∧ (∀ j, refB d qv vp us j → refB d vn vp us j ∨ w.heap.size ≤ j) := by
  have ld := (Array.getElem?_eq_some_iff.1 h.cell).1
  have e1 := run_bsN p hp w
  have r1 := rns_lit w p 100
  have b1 : Below w.heap.size w (w.alloc (.cells (rnC p).toArray 100)) := (Below.refl _ _).alloc (Nat.le_refl _) _
  generalize w.alloc (.cells (rnC p).toArray 100) = w1 at *
  have z1 := b1.size
  obtain ⟨qv, w2, e2, own2, g2, o2⟩ := run_appN w1 B vn NL _ [p] 1 (h.nodes.below b1) r1 (by simpa using hp) (by simp; omega) (by omega)
  have t2 : Tch (fun j => vn.ownBlock = some j) w w2 := Tch.trans ⟨b1.os, b1.tape, b1.output, b1.size, fun j hj _ => b1.block j hj⟩ ⟨g2.os, g2.tape, g2.output, g2.size, fun j hj hO => g2.block j hj (fun q => hO q.symm)⟩
  have hd2 : w2.heap[d]? = some (.cells #[vn, vp] 98 (0, 0)) := (t2.block d ld (nodes_not h.cell h.nodes)).trans h.cell
  have okN : ∀ x ∈ NL ++ [p], RnOk x := fun x hx => by
    rcases List.mem_append.1 hx with q | q
    · exact h.ok x q
    · simp at q; subst q; exact hp
  obtain ⟨a2, c2, eqv, _⟩ := own2.open okN
  have es := store_ref0 a2 (NL ++ [p]).length c2 hd2
  rw [← eqv] at es
  have ts := set_tch w2 d 0 qv
  have t3 : Tch (fun j => j = d ∨ vn.ownBlock = some j) w (w2.setCell ⟨d, 0, none⟩ qv) := (t2.mono fun k _ q => Or.inr q).trans (ts.mono fun k _ q => Or.inl q)
  have oqv : ∀ j, qv.ownBlock = some j → vn.ownBlock = some j ∨ w.heap.size ≤ j := by
    intro j hj
    rcases o2 with q | q
    · exact Or.inl (by rw [← q]; exact hj)
    · rw [q] at hj; simp at hj; exact Or.inr (by omega)
  have own3 : OwnN (w2.setCell ⟨d, 0, none⟩ qv) B qv (NL ++ [p]) := own2.keep fun j hj => ts.block j (by obtain ⟨_, c, q⟩ := own2.ge j hj; exact (Array.getElem?_eq_some_iff.1 q).1) (fun e => nodes_not hd2 own2 (by rw [← e]; exact hj))
  obtain ⟨hr, hb⟩ := h.nodes' t3 (set_ref0 hd2 qv) own3 oqv okN (by
    rw [List.map_append, List.nodup_append]
    refine ⟨h.nd, by simp, fun a ha b hb e => ?_⟩
    simp at hb
    subst hb e
    exact hk ha)
  exact ⟨_, qv, w1, w2, e1, e2, es, b1, t2, t3, hr, hb⟩
/-- Another node in one's place, as equations. -/
theorem other_runs (h : RefP B w d NL PL vn vp us) (i : Nat) (hi : i < NL.length) (p : RN) (hp : RnOk p) (hk : (NL.map (·.1))[i]? = some p.1) :
    ∃ g c w1, vn = .slice (some ⟨g, 0, none⟩) NL.length c ∧ (Instr.storeAt 100 (.pointer (some ⟨g, i * 68, none⟩)) (.agg (rnC p).toArray)).run Try.prog w = .ok () w1 ∧ Tch (fun j => vn.ownBlock = some j) w w1 ∧ RefP B w1 d (NL.set i p) PL vn vp us := by
  obtain ⟨g, c, e, hg, w1, e1, own1, t1, z1⟩ := own_setN h.nodes h.ok hi hp
  have ld := (Array.getElem?_eq_some_iff.1 h.cell).1
  refine ⟨g, c, w1, e, e1, t1, (h.nodes' (t1.mono fun k _ q => Or.inr q) ((t1.block d ld (nodes_not h.cell h.nodes)).trans h.cell) own1 (fun j hj => Or.inl hj) (fun x hx => ?_) ?_).1⟩
  · rcases List.mem_or_eq_of_mem_set hx with q | rfl
    · exact h.ok x q
    · exact hp
  · have : (NL.set i p).map (·.1) = NL.map (·.1) := by
      rw [List.map_set]
      obtain ⟨hl, hv⟩ := List.getElem?_eq_some_iff.1 hk
      rw [← hv, List.set_getElem_self]
    rw [this]
    exact h.nd
end
/-- What a step of the document's tree gives. -/
def RStep (B : Nat) (w : World) (d : Nat) (NL : List RN) (PL : List (List RN)) (vn vp : Value) (us : List Value) (k : IdK) (n : NodeV) (c : Int) (e : Ending) (w' : World) : Prop :=
  (c ≠ 0 ∧ e = .returned (.int .i64 c) ∧ Below w.heap.size w w') ∨ (c = 0 ∧ e = .returned (.int .i64 0) ∧ ∃ vn' vp' us', RefP B w' d (M.put NL k n) (PL ++ [NL]) vn' vp' us' ∧ Tch (fun j => refB d vn vp us j) w w' ∧ ∀ j, refB d vn' vp' us' j → refB d vn vp us j ∨ w.heap.size ≤ j)
theorem put_none {NL : List RN} {k : IdK} (h : lookN NL k = none) (n : NodeV) : M.put NL k n = NL ++ [(k, n)] := by
  unfold M.put
  cases hf : M.fnd NL k 0 with
  | none => rfl
  | some q => unfold lookN M.look at h; rw [hf] at h; cases h
theorem put_some {NL : List RN} {k : IdK} {m : NodeV} (h : lookN NL k = some m) (n : NodeV) : ∃ j : Nat, fPos NL k = (j : Int) ∧ NL[j]? = some (k, m) ∧ j < NL.length ∧ M.put NL k n = NL.set j (k, n) := by
  unfold M.put fPos
  unfold lookN M.look at h
  cases hf : M.fnd NL k 0 with
  | none => rw [hf] at h; cases h
  | some q =>
    obtain ⟨j, m'⟩ := q
    rw [hf] at h
    cases h
    have := M.fnd_some hf
    exact ⟨j, rfl, this.1, this.2, rfl⟩
theorem look_no {NL : List RN} {k : IdK} (h : lookN NL k = none) : k ∉ NL.map (·.1) := by
  intro hm
  obtain ⟨p, hp, e⟩ := List.mem_map.1 hm
  unfold lookN M.look at h
  cases hf : M.fnd NL k 0 with
  | some q => rw [hf] at h; cases h
  | none =>
    clear h hm
    have : ∀ (E : List RN) (i : Nat), M.fnd E k i = none → ∀ p ∈ E, p.1 ≠ k := by
      intro E
      induction E with
      | nil => intro i _ p hp; cases hp
      | cons q E ih =>
        intro i hq p hp
        unfold M.fnd at hq
        split at hq
        · cases hq
        · next hne =>
          rcases List.mem_cons.1 hp with rfl | hp
          · exact fun e => hne e.symm
          · exact ih _ hq p hp
    exact this NL 0 hf p hp e
end Go.Proofs.Ytoofljkgdjjllab

namespace Go.Proofs.Ytoofljkgdjjllab
open Go.RowKit
set_option linter.unusedVariables false
set_option linter.unusedSimpArgs false
set_option linter.unusedSectionVars false

set_option maxRecDepth 100000 in
theorem build_rn0 (w : World) (a0 a1 a2 a3 a4 a5 a6 a7 a8 a9 a10 a11 a12 a13 a14 a15 a16 a17 a18 a19 a20 a21 a22 a23 a24 a25 a26 a27 a28 a29 a30 a31 a32 b0 b1 b2 b3 b4 b5 b6 b7 b8 b9 b10 b11 b12 b13 b14 b15 b16 b17 b18 b19 b20 b21 b22 b23 b24 b25 b26 b27 b28 b29 b30 b31 b32 : Value) (key : ByteArray) : (Instr.build 100 #[(0, .agg [a0, a1, a2, a3, a4, a5, a6, a7, a8, a9, a10, a11, a12, a13, a14, a15, a16, a17, a18, a19, a20, a21, a22, a23, a24, a25, a26, a27, a28, a29, a30, a31, a32].toArray), (1, .agg [b0, b1, b2, b3, b4, b5, b6, b7, b8, b9, b10, b11, b12, b13, b14, b15, b16, b17, b18, b19, b20, b21, b22, b23, b24, b25, b26, b27, b28, b29, b30, b31, b32].toArray), (2, .string key)]).run Try.prog w = .ok (.agg ([a0, a1, a2, a3, a4, a5, a6, a7, a8, a9, a10, a11, a12, a13, a14, a15, a16, a17, a18, a19, a20, a21, a22, a23, a24, a25, a26, a27, a28, a29, a30, a31, a32] ++ ([b0, b1, b2, b3, b4, b5, b6, b7, b8, b9, b10, b11, b12, b13, b14, b15, b16, b17, b18, b19, b20, b21, b22, b23, b24, b25, b26, b27, b28, b29, b30, b31, b32] ++ [Value.string key, Value.bool false])).toArray) w := by kernel_rfl
set_option maxRecDepth 100000 in
theorem build_rn (w : World) (k u : IdK) (hk : k.ok) (hu : u.ok) (key : ByteArray) : (Instr.build 100 #[(0, k.v), (1, u.v), (2, .string key)]).run Try.prog w = .ok (.agg (rnC (k, ⟨u, key, false⟩)).toArray) w := by
  have h := IdK.len hk
  have h2 := IdK.len hu
  unfold rnC IdK.v
  simp only
  generalize k.c = l at *
  generalize u.c = l2 at *
  match l, h, l2, h2 with
  | a0 :: a1 :: a2 :: a3 :: a4 :: a5 :: a6 :: a7 :: a8 :: a9 :: a10 :: a11 :: a12 :: a13 :: a14 :: a15 :: a16 :: a17 :: a18 :: a19 :: a20 :: a21 :: a22 :: a23 :: a24 :: a25 :: a26 :: a27 :: a28 :: a29 :: a30 :: a31 :: a32 :: [], _, b0 :: b1 :: b2 :: b3 :: b4 :: b5 :: b6 :: b7 :: b8 :: b9 :: b10 :: b11 :: b12 :: b13 :: b14 :: b15 :: b16 :: b17 :: b18 :: b19 :: b20 :: b21 :: b22 :: b23 :: b24 :: b25 :: b26 :: b27 :: b28 :: b29 :: b30 :: b31 :: b32 :: [], _ => exact build_rn0 w a0 a1 a2 a3 a4 a5 a6 a7 a8 a9 a10 a11 a12 a13 a14 a15 a16 a17 a18 a19 a20 a21 a22 a23 a24 a25 a26 a27 a28 a29 a30 a31 a32 b0 b1 b2 b3 b4 b5 b6 b7 b8 b9 b10 b11 b12 b13 b14 b15 b16 b17 b18 b19 b20 b21 b22 b23 b24 b25 b26 b27 b28 b29 b30 b31 b32 key
set_option maxRecDepth 100000 in
theorem build_rp0 (w : World) (a0 a1 a2 a3 a4 a5 a6 a7 a8 a9 a10 a11 a12 a13 a14 a15 a16 a17 a18 a19 a20 a21 a22 a23 a24 a25 a26 a27 a28 a29 a30 a31 a32 : Value) : (Instr.build 100 #[(0, .agg [a0, a1, a2, a3, a4, a5, a6, a7, a8, a9, a10, a11, a12, a13, a14, a15, a16, a17, a18, a19, a20, a21, a22, a23, a24, a25, a26, a27, a28, a29, a30, a31, a32].toArray), (3, .bool true)]).run Try.prog w = .ok (.agg ([a0, a1, a2, a3, a4, a5, a6, a7, a8, a9, a10, a11, a12, a13, a14, a15, a16, a17, a18, a19, a20, a21, a22, a23, a24, a25, a26, a27, a28, a29, a30, a31, a32] ++ (zId.c ++ [Value.string ⟨#[]⟩, Value.bool true])).toArray) w := by kernel_rfl
set_option maxRecDepth 100000 in
theorem build_rp (w : World) (k : IdK) (hk : k.ok) : (Instr.build 100 #[(0, k.v), (3, .bool true)]).run Try.prog w = .ok (.agg (rnC (k, ⟨zId, ⟨#[]⟩, true⟩)).toArray) w := by
  have h := IdK.len hk
  unfold rnC IdK.v
  simp only
  generalize k.c = l at *
  match l, h with
  | a0 :: a1 :: a2 :: a3 :: a4 :: a5 :: a6 :: a7 :: a8 :: a9 :: a10 :: a11 :: a12 :: a13 :: a14 :: a15 :: a16 :: a17 :: a18 :: a19 :: a20 :: a21 :: a22 :: a23 :: a24 :: a25 :: a26 :: a27 :: a28 :: a29 :: a30 :: a31 :: a32 :: [], _ => exact build_rp0 w a0 a1 a2 a3 a4 a5 a6 a7 a8 a9 a10 a11 a12 a13 a14 a15 a16 a17 a18 a19 a20 a21 a22 a23 a24 a25 a26 a27 a28 a29 a30 a31 a32

theorem tch_mark {B : Nat} {w w2 : World} {d : Nat} {NL : List RN} {PL : List (List RN)} {vn vp : Value} {us : List Value} (h : RefP B w d NL PL vn vp us) (b2 : Below w.heap.size w w2) {w3 : World} (t : Tch (fun j => j = d ∨ vp.ownBlock = some j) w2 w3) {j : Nat} (hj : w.heap.size ≤ j) (hl : j < w2.heap.size) : w3.heap[j]? = w2.heap[j]? := by
  refine t.block j hl ?_
  rintro (rfl | q)
  · have := (h.ge j (Or.inl rfl)).2; omega
  · have := (h.ge j (Or.inr (Or.inr (Or.inl q)))).2; omega
section
variable {B : Nat} {w : World} {d : Nat} {NL : List RN} {PL : List (List RN)} {vn vp : Value} {us : List Value} (h : RefP B w d NL PL vn vp us) (hB : B ≤ w.heap.size) (hn : NL.length ≤ 1300000000000) (hp : PL.length ≤ 1300000000000) (k u : IdK) (key : ByteArray) (hk : k.ok) (hu : u.ok)
include h hB hn hp hk hu
/-- What Grow's last region does. -/
theorem grow_tail (hh : lookN NL k = none) {w2 w3 : World} {qv cv : Value} (b2 : Below w.heap.size w w2) (hx : IdAt w2 w.heap.size k) (hy : IdAt w2 (w.heap.size + 1) u) (hr : RefP B w3 d NL (PL ++ [NL]) vn qv (us ++ [cv])) (t : Tch (fun j => j = d ∨ vp.ownBlock = some j) w2 w3)
    (hb : ∀ j, refB d vn qv (us ++ [cv]) j → refB d vn vp us j ∨ w2.heap.size ≤ j) :
    ∃ (lv rv : Value) (w4 w5 w6 : World), (Instr.buildSlice 95 1 #[(0, .agg (rnC (k, ⟨u, key, false⟩)).toArray)]).run Try.prog w3.drew = .ok lv w4 ∧ (Builtin.append_ #[95, 95] 95 #[vn, lv]).run Try.prog w4 = .ok rv w5 ∧ (Instr.storeAt 95 (.pointer (some ⟨d, 0, none⟩)) rv).run Try.prog w5 = .ok () w6 ∧
      (∀ W, W = w3.drew ∨ W = w4 ∨ W = w5 ∨ W = w6 → IdAt W w.heap.size k ∧ IdAt W (w.heap.size + 1) u) ∧ (∀ W, W = w3.drew ∨ W = w4 → W.cell? ⟨d, 0, none⟩ = some vn) ∧ RStep B w d NL PL vn vp us k ⟨u, key, false⟩ 0 (.returned (.int .i64 0)) w6 := by
  have z2 := b2.size
  have z3 := t.size
  have l1 : w.heap.size + 1 < w2.heap.size := (Array.getElem?_eq_some_iff.1 hy).1
  have hx3 : IdAt w3 w.heap.size k := (tch_mark h b2 t (Nat.le_refl _) (by omega)).trans hx
  have hy3 : IdAt w3 (w.heap.size + 1) u := (tch_mark h b2 t (by omega) l1).trans hy
  have bd : Below w3.heap.size w3 w3.drew := (Below.refl _ _).drew
  have hrd := hr.below bd
  obtain ⟨lv, rv, w4, w5, e1, e2, e3, b4, t5, t6, hr6, hb6⟩ := more_runs hrd (show B ≤ w3.drew.heap.size by have : w3.drew.heap.size = w3.heap.size := rfl; omega) hn (k, ⟨u, key, false⟩) ⟨hk, hu⟩ (look_no hh)
  have zd : w3.drew.heap.size = w3.heap.size := rfl
  have nb : ∀ j, w.heap.size ≤ j → j < w2.heap.size → ¬ (j = d ∨ vn.ownBlock = some j) := by
    rintro j h1 h2 (rfl | q)
    · have := (h.ge j (Or.inl rfl)).2; omega
    · have := (h.ge j (Or.inr (Or.inl q))).2; omega
  have k5 : ∀ j, w.heap.size ≤ j → j < w2.heap.size → w5.heap[j]? = w3.drew.heap[j]? := fun j h1 h2 => t5.block j (by omega) (fun q => nb j h1 h2 (Or.inr q))
  have k6 : ∀ j, w.heap.size ≤ j → j < w2.heap.size → (w5.setCell ⟨d, 0, none⟩ rv).heap[j]? = w3.drew.heap[j]? := fun j h1 h2 => t6.block j (by omega) (nb j h1 h2)
  have hd : w3.drew.cell? ⟨d, 0, none⟩ = some vn := by rw [cell_of_row _ _ 0 _ _ _ hrd.cell]; rfl
  have ld := (Array.getElem?_eq_some_iff.1 hrd.cell).1
  have l0 := (h.ge d (Or.inl rfl)).2
  refine ⟨lv, rv, w4, w5, _, e1, e2, e3, ?_, ?_, Or.inr ⟨rfl, rfl, rv, qv, us ++ [cv], by rw [put_none hh]; exact hr6, ?_, fun j hj => ?_⟩⟩
  · rintro W (rfl | rfl | rfl | rfl)
    · exact ⟨hx3, hy3⟩
    · exact ⟨(b4.block _ (by omega)).trans hx3, (b4.block _ (by omega)).trans hy3⟩
    · exact ⟨(k5 _ (Nat.le_refl _) (by omega)).trans hx3, (k5 _ (by omega) l1).trans hy3⟩
    · exact ⟨(k6 _ (Nat.le_refl _) (by omega)).trans hx3, (k6 _ (by omega) l1).trans hy3⟩
  · rintro W (rfl | rfl)
    · exact hd
    · exact (b4.cell (p := ⟨d, 0, none⟩) ld).trans hd
  · have t0 : Tch (fun j => refB d vn vp us j) w w2 := ⟨b2.os, b2.tape, b2.output, b2.size, fun j hj _ => b2.block j hj⟩
    refine (t0.trans' (O' := fun j => j = d ∨ vp.ownBlock = some j) t fun i _ q => ?_).trans' (O' := fun j => j = d ∨ vn.ownBlock = some j) (Tch.trans ((Tch.refl _ w3).drew) t6) fun i _ q => ?_
    · rcases q with q | q
      · exact Or.inl q
      · exact Or.inr (Or.inr (Or.inl q))
    · rcases q with q | q
      · exact Or.inl q
      · exact Or.inr (Or.inl q)
  · rcases hb6 j hj with q | q
    · rcases hb j q with q | q
      · exact Or.inl q
      · exact Or.inr (by omega)
    · exact Or.inr (by omega)
set_option maxRecDepth 100000 in
set_option maxHeartbeats 4000000 in
/-- The document's Grow that is done. -/
theorem rgrow_ok (hz : k ≠ zId) (hh : lookN NL k = none) (hb : Bears (lookN NL) u = true) : Calls Try.prog 32 #[.pointer (some ⟨d, 0, none⟩), k.v, u.v, .string key] w (RStep B w d NL PL vn vp us k ⟨u, key, false⟩ 0) := by
  have hq : ∀ w : World, (binOp .eql 35 k.v zId.v).run Try.prog w = .ok (.bool false) w := fun w => by rw [eql_id k zId hk zId_ok, decide_eq_false hz]
  have hq2 : ∀ w : World, (binOp .neq 35 u.v zId.v).run Try.prog w = .ok (.bool (!decide (u = zId))) w := fun w => neq_id u zId hu zId_ok w
  have H1 : Hid (∀ W, Below w.heap.size w W → Calls Try.prog 47 #[.pointer (some ⟨d, 0, none⟩), k.v] W fun e w' => e = .returned (.bool false) ∧ Below W.heap.size W w') := fun W b => by
    have := rhas_any d NL vp k W (h.ref.below b) hk hn
    rwa [hh] at this
  have HM := hidMk (fun (W : World) (b : Below w.heap.size w W) => mark_any (h.below b) (Nat.le_trans hB b.size) hn hp)
  have HT := hidMk (fun (w2 w3 : World) (qv cv : Value) => grow_tail (w2 := w2) (w3 := w3) (qv := qv) (cv := cv) h hB hn hp k u key hk hu hh)
  have HU : Hid (u ≠ zId → ∀ W, Below w.heap.size w W → Calls Try.prog 47 #[.pointer (some ⟨d, 0, none⟩), u.v] W fun e w' => e = .returned (.bool true) ∧ Below W.heap.size W w') := fun hne W b => by
    have := rhas_any d NL vp u W (h.ref.below b) hu hn
    rcases bears_iff.1 hb with q | q
    · exact absurd q hne
    · rwa [q] at this
  clear hz hh hb hn hp hB h
  unfold IdK.v
  go_enter Try.func32, Try.ntmps32
  go_upto_region 1 with fail
  obtain ⟨hx, hy, bx, zx⟩ := two_boxes w k u
  have ZX := hidMk zx
  clear zx
  generalize (w.alloc (.cells k.c.toArray 35)).alloc (.cells u.c.toArray 35) = W at *
  have HX := hidMk (load_id hk hx)
  have HXI := hidMk hx
  have HYI := hidMk hy
  clear hx hy
  by_cases uz : u = zId
  · rw [decide_eq_true uz] at hq2
    simp only [Bool.not_true] at hq2
    clear uz
    go_upto_region 10 with (first
      | (refine wpList_val rfl (exec_load (t := 35) (u := .pointer (some ⟨w.heap.size, 0, none⟩)) rfl rfl HX.out) ?_)
      | (refine wpList_val rfl (exec_load (t := 35) (u := .pointer (some ⟨w.heap.size + 1, 0, none⟩)) rfl rfl HY.out) ?_)
      | (refine wpList_val rfl (exec_build0 rfl (build_id _)) ?_)
      | (refine wpList_val rfl (exec_binOp rfl rfl rfl (guard_id _ _ k zId _ _) (hq _)) ?_)
      | (refine wpList_val rfl (exec_binOp rfl rfl rfl (guard_id _ _ u zId _ _) (hq2 _)) ?_)
      | (go_at_call 47; refine (H1.out _ bx).mono ?_; rintro e w1 ⟨rfl, b1⟩; have HY := hidMk (load_id hu ((b1.block _ (by have := ZX.out; omega)).trans HYI.out)); have c1 := bx.trans (b1.mono bx.size); clear H1)
      | (go_at_call 48; refine (HM.out _ c1).mono ?_; rintro e w3 ⟨rfl, qv, cv, hr, t3, hb3⟩)
      | fail)
    have HXX := hidMk ((b1.block _ (by have := ZX.out; omega)).trans HXI.out)
    have HYY := hidMk ((b1.block _ (by have := ZX.out; omega)).trans HYI.out)
    obtain ⟨lv, rv, w4, w5, w6, e1, e2, e3, hS, hN, fin⟩ := HT.out w1 w3 qv cv c1 HXX.out HYY.out hr t3 hb3
    have z3 := t3.size
    obtain ⟨an, cn, en, _⟩ := hr.nodes.open hr.ok
    refine rgrow10 d (.pointer (some ⟨d, 0, none⟩)) (.pointer (some ⟨w.heap.size, 0, none⟩)) (.pointer (some ⟨w.heap.size + 1, 0, none⟩)) k.v u.v (.string key) (.agg (rnC (k, ⟨u, key, false⟩)).toArray) vn lv rv w4 w5 w6 (fun W => IdAt W w.heap.size k ∧ IdAt W (w.heap.size + 1) u) _ w3 _ rfl rfl rfl rfl rfl (fun W => by go_simp) (fun W => build_rn W k u hk hu key) (fun W hw => load_id hk hw.1) (fun W hw => load_id hu hw.2) (hS _ (Or.inl rfl)) (hS _ (Or.inr (Or.inl rfl))) (hS _ (Or.inr (Or.inr (Or.inl rfl)))) (hS _ (Or.inr (Or.inr (Or.inr rfl)))) (load_ns (hN _ (Or.inl rfl))) (load_ns (hN _ (Or.inr rfl))) e1 e2 e3 ?_ ?_
    all_goals
      intro a' w' hw' ha
      subst hw' ha
      simp only [Act.put, List.setIfInBounds_toArray, List.set_cons_zero, List.set_cons_succ]
      go_wp2
      go_ret
      exact fin
  · rw [decide_eq_false uz] at hq2
    simp only [Bool.not_false] at hq2
    have H2 := hidMk (HU.out uz)
    clear uz
    go_upto_region 10 with (first
      | (refine wpList_val rfl (exec_load (t := 35) (u := .pointer (some ⟨w.heap.size, 0, none⟩)) rfl rfl HX.out) ?_)
      | (refine wpList_val rfl (exec_load (t := 35) (u := .pointer (some ⟨w.heap.size + 1, 0, none⟩)) rfl rfl HY.out) ?_)
      | (refine wpList_val rfl (exec_build0 rfl (build_id _)) ?_)
      | (refine wpList_val rfl (exec_binOp rfl rfl rfl (guard_id _ _ k zId _ _) (hq _)) ?_)
      | (refine wpList_val rfl (exec_binOp rfl rfl rfl (guard_id _ _ u zId _ _) (hq2 _)) ?_)
      | (go_at_call 47; refine (H1.out _ bx).mono ?_; rintro e w1 ⟨rfl, b1⟩; have HY := hidMk (load_id hu ((b1.block _ (by have := ZX.out; omega)).trans HYI.out)); have c1 := bx.trans (b1.mono bx.size); clear H1)
      | (go_at_call 47; refine (H2.out _ c1).mono ?_; rintro e w2 ⟨rfl, b2⟩; have c2 := c1.trans (b2.mono c1.size); clear H2)
      | (go_at_call 48; refine (HM.out _ c2).mono ?_; rintro e w3 ⟨rfl, qv, cv, hr, t3, hb3⟩)
      | fail)
    have HXX := hidMk ((b2.block _ (by have := ZX.out; have := b1.size; omega)).trans ((b1.block _ (by have := ZX.out; omega)).trans HXI.out))
    have HYY := hidMk ((b2.block _ (by have := ZX.out; have := b1.size; omega)).trans ((b1.block _ (by have := ZX.out; omega)).trans HYI.out))
    obtain ⟨lv, rv, w4, w5, w6, e1, e2, e3, hS, hN, fin⟩ := HT.out w2 w3 qv cv c2 HXX.out HYY.out hr t3 hb3
    have z3 := t3.size
    obtain ⟨an, cn, en, _⟩ := hr.nodes.open hr.ok
    refine rgrow10 d (.pointer (some ⟨d, 0, none⟩)) (.pointer (some ⟨w.heap.size, 0, none⟩)) (.pointer (some ⟨w.heap.size + 1, 0, none⟩)) k.v u.v (.string key) (.agg (rnC (k, ⟨u, key, false⟩)).toArray) vn lv rv w4 w5 w6 (fun W => IdAt W w.heap.size k ∧ IdAt W (w.heap.size + 1) u) _ w3 _ rfl rfl rfl rfl rfl (fun W => by go_simp) (fun W => build_rn W k u hk hu key) (fun W hw => load_id hk hw.1) (fun W hw => load_id hu hw.2) (hS _ (Or.inl rfl)) (hS _ (Or.inr (Or.inl rfl))) (hS _ (Or.inr (Or.inr (Or.inl rfl)))) (hS _ (Or.inr (Or.inr (Or.inr rfl)))) (load_ns (hN _ (Or.inl rfl))) (load_ns (hN _ (Or.inr rfl))) e1 e2 e3 ?_ ?_
    all_goals
      intro a' w' hw' ha
      subst hw' ha
      simp only [Act.put, List.setIfInBounds_toArray, List.set_cons_zero, List.set_cons_succ]
      go_wp2
      go_ret
      exact fin
end
end Go.Proofs.Ytoofljkgdjjllab

namespace Go.Proofs.Ytoofljkgdjjllab
open Go.RowKit
set_option linter.unusedVariables false
set_option linter.unusedSimpArgs false
set_option linter.unusedSectionVars false

section
variable {B : Nat} {w : World} {d : Nat} {NL : List RN} {PL : List (List RN)} {vn vp : Value} {us : List Value} (h : RefP B w d NL PL vn vp us) (hB : B ≤ w.heap.size) (hn : NL.length ≤ 1300000000000) (hp : PL.length ≤ 1300000000000) (k : IdK) (hk : k.ok)
include h hB hn hp hk
variable (u : IdK) (key : ByteArray) (hu : u.ok)
include hu
/-- The document's Grow. -/
theorem rgrow_all : Calls Try.prog 32 #[.pointer (some ⟨d, 0, none⟩), k.v, u.v, .string key] w (RStep B w d NL PL vn vp us k ⟨u, key, false⟩ (gC (lookN NL) k u)) := by
  unfold gC
  by_cases hz : k = zId
  · rw [if_pos hz]
    exact (rgrow_zero d NL vp k u key w h.ref hk hu hn hz).mono fun e w' q => Or.inl ⟨by decide, q.1, q.2⟩
  · rw [if_neg hz]
    cases hl : lookN NL k with
    | some m =>
      rw [if_pos (by rfl)]
      exact (rgrow_known d NL vp k u key w h.ref hk hu hn hz (by rw [hl]; rfl)).mono fun e w' q => Or.inl ⟨by decide, q.1, q.2⟩
    | none =>
      rw [if_neg (by simp)]
      cases hb : Bears (lookN NL) u with
      | true =>
        rw [if_pos rfl]
        exact rgrow_ok h hB hn hp k u key hk hu hz hl hb
      | false =>
        rw [if_neg (by decide)]
        exact (rgrow_none d NL vp k u key w h.ref hk hu hn hz (by rw [hl]; rfl) hb).mono fun e w' q => Or.inl ⟨by decide, q.1, q.2⟩
end
end Go.Proofs.Ytoofljkgdjjllab

namespace Go.Proofs.Ytoofljkgdjjllab
open Go.RowKit
set_option linter.unusedVariables false
set_option linter.unusedSimpArgs false

/-- Steps that were done one behind the other, the last one first: what lay there ahead of them. -/
inductive Chain : List Rec → Fn → Fn → Prop
  | nil {f : Fn} : Chain [] f f
  | step {r : Rec} {t : List Rec} {f' f : Fn} : Forest (upd f' r.k r.o) → Chain t (upd f' r.k r.o) f → Chain (r :: t) f' f
theorem upd_back {f : Fn} {k : IdK} {n : Option NodeV} : upd (upd f k n) k (f k) = f := by
  funext x
  by_cases e : x = k
  · subst e; rw [upd_same]
  · rw [upd_ne e, upd_ne e]
/-- Who is there behind some calls. -/
def presS (P : IdK → Bool) (o : OpV) : IdK → Bool := if o.kind = 0 ∧ o.id ≠ zId ∧ P o.id = false ∧ (o.under = zId ∨ P o.under = true) then fun x => if x = o.id then true else P x else P
def presN (P : IdK → Bool) (L : List OpV) : IdK → Bool := L.foldl presS P
theorem presN_snoc (P : IdK → Bool) (L : List OpV) (o : OpV) : presN P (L ++ [o]) = presS (presN P L) o := by simp [presN]
theorem pres_take {P : IdK → Bool} {L : List OpV} {i : Nat} {o : OpV} (h : L[i]? = some o) : presN P (L.take (i + 1)) = presS (presN P (L.take i)) o := by
  rw [List.take_add_one, h, Option.toList_some, presN_snoc]
theorem gC_zero {f : Fn} {k u : IdK} : gC f k u = 0 ↔ k ≠ zId ∧ (f k).isSome = false ∧ (u = zId ∨ (f u).isSome = true) := by
  unfold gC
  by_cases h1 : k = zId
  · simp [h1]
  · rw [if_neg h1]
    cases h2 : (f k).isSome with
    | true => simp
    | false =>
      rw [if_neg (by decide)]
      cases h3 : Bears f u with
      | true => have := bears_iff.1 h3; simp [h1, this]
      | false =>
        have : ¬ (u = zId ∨ (f u).isSome = true) := fun q => by rw [bears_iff.2 q] at h3; cases h3
        simp [h1, this]
theorem mC_zero {f : Fn} {k u : IdK} (h : mC f k u = 0) : (f k).isSome = true := by
  unfold mC at h
  cases q : (f k).isSome with
  | true => rfl
  | false => rw [q, if_pos rfl] at h; omega
theorem pC_zero {f : Fn} {k : IdK} (h : pC f k = 0) : (f k).isSome = true := by
  unfold pC at h
  cases q : (f k).isSome with
  | true => rfl
  | false => rw [q, if_pos rfl] at h; omega
theorem pres_grow {f : Fn} {P : IdK → Bool} (h : ∀ x, (f x).isSome = P x) {o : OpV} (hk : o.kind = 0) (hc : gC f o.id o.under = 0) (n : NodeV) : ∀ x, (upd f o.id (some n) x).isSome = presS P o x := by
  obtain ⟨h1, h2, h3⟩ := gC_zero.1 hc
  intro x
  unfold presS
  rw [h] at h2
  rw [h] at h3
  rw [if_pos ⟨hk, h1, h2, h3⟩]
  by_cases e : x = o.id
  · subst e; rw [upd_same]; simp
  · rw [upd_ne e, h]; simp [e]
theorem pres_none {f : Fn} {P : IdK → Bool} (h : ∀ x, (f x).isSome = P x) {o : OpV} (hc : gC f o.id o.under ≠ 0) : presS P o = P := by
  unfold presS
  refine if_neg fun q => hc (gC_zero.2 ⟨q.2.1, by rw [h]; exact q.2.2.1, by rw [h]; exact q.2.2.2⟩)
theorem pres_other (P : IdK → Bool) {o : OpV} (hk : o.kind ≠ 0) : presS P o = P := if_neg fun q => hk q.1
theorem pres_put {f : Fn} {k : IdK} (hk : (f k).isSome = true) (n : NodeV) : ∀ x, (upd f k (some n) x).isSome = (f x).isSome := by
  intro x
  by_cases e : x = k
  · subst e; rw [upd_same, hk]; rfl
  · rw [upd_ne e]
theorem infoBk : (Try.prog.info? 53).map (fun i => (i.zero, i.size, i.bytes)) = some (some (.pointer none), 1, 8) := by kernel_rfl
theorem run_bs1 (T e y : TypeId) (z : Value) (ht : Try.prog.underlying T = some (.slice e)) (hi : (Try.prog.info? e).map (fun i => (i.zero, i.size, i.bytes)) = some (some z, 1, y)) (hz : z.cells.size = 1) (v : Value) (hc : v.cells = #[v]) (w : World) : (Instr.buildSlice T 1 #[(0, v)]).run Try.prog w = .ok (.slice (some ⟨w.heap.size, 0, none⟩) 1 1) (w.alloc (.cells #[v] e)) := by
  obtain ⟨ie, hi, hz0, hs, hby⟩ := info_parts hi
  refine run_buildSlice w T e 1 _ #[v] ie _ ht hi hz0 (by rw [hs]; decide) (by rw [hs]; decide) ?_
  rw [hs]
  have := Go.Great.fill_whole (s := 1) (by decide) [v] ((Array.range (1 * 1)).map (z.cells[· % z.cells.size]!)) (by intro u hu; simp at hu; subst hu; rw [hc]; rfl) (by simp)
  simpa [hc] using this
def bkP (r : Rec) : Value := .pointer (some ⟨r.bk, 0, none⟩)
/-- A tree behind some calls, with their Backs. -/
structure GS (B : Nat) (ws w0 : World) (s : Tr) (H : List Rec) (f : Fn) (m : Nat) (W : World) (s' : Tr) (H' : List Rec) (f' : Fn) (bv : Value) : Prop where
  own : Own B W s' (H' ++ H) f'
  t : s'.t = s.t
  row : OwnV W ws.heap.size 53 bv (H'.reverse.map bkP)
  chain : Chain H' f' f
  nd : ((H' ++ H).map (·.bk)).Nodup
  dom : ∃ D, Dom f' D ∧ D.length ≤ m
  bel : Below w0.heap.size w0 W
  sep : ∀ j, bv.ownBlock = some j → j ∉ s'.bl ∧ ∀ r ∈ H' ++ H, j ∉ r.bl
  sz : ws.heap.size ≤ W.heap.size
  bl : ∀ j ∈ s'.bl, j ∈ s.bl ∨ ws.heap.size ≤ j
  tch : Tch (fun j => j ∈ s.bl) ws W
section
variable {B : Nat} {ws w0 : World} {s : Tr} {H : List Rec} {f : Fn} {m : Nat} {W W' : World} {s' : Tr} {H' : List Rec} {f' : Fn} {bv : Value}
theorem GS.lt (h : GS B ws w0 s H f m W s' H' f' bv) {j : Nat} (hj : bv.ownBlock = some j) : j < W.heap.size := by
  obtain ⟨_, c, hc⟩ := h.row.ge j hj
  exact (Array.getElem?_eq_some_iff.1 hc).1
theorem GS.below (h : GS B ws w0 s H f m W s' H' f' bv) (b : Below W.heap.size W W') : GS B ws w0 s H f m W' s' H' f' bv :=
  ⟨h.own.below b, h.t, h.row.below b, h.chain, h.nd, h.dom, h.bel.trans (b.mono h.bel.size), h.sep, Nat.le_trans h.sz b.size, h.bl, h.tch.trans ⟨b.os, b.tape, b.output, b.size, fun j hj _ => b.block j hj⟩⟩
theorem GS.up (h : GS B ws w0 s H f m W s' H' f' bv) {m' : Nat} (hm : m ≤ m') : GS B ws w0 s H f m' W s' H' f' bv :=
  ⟨h.own, h.t, h.row, h.chain, h.nd, by obtain ⟨D, d1, d2⟩ := h.dom; exact ⟨D, d1, by omega⟩, h.bel, h.sep, h.sz, h.bl, h.tch⟩
/-- A step that is done, and its Back. -/
theorem GS.done (h : GS B ws w0 s H f m W s' H' f' bv) (h0 : w0.heap.size ≤ B) (hN0 : w0.heap.size ≤ ws.heap.size) (hB : B ≤ W.heap.size) (hl : H'.length ≤ 1300000000000) {k : IdK} (hk : k.ok) {n : NodeV} {e : Ending} {s2 : Tr} {r : Rec} (hd : Done B W s' (H' ++ H) f' k n e W' s2 r) :
    ∃ (lv qv : Value) (w1 w2 : World), (Instr.buildSlice 26 1 #[(0, .pointer (some ⟨r.bk, 0, none⟩))]).run Try.prog W' = .ok lv w1 ∧ (Builtin.append_ #[26, 26] 26 #[bv, lv]).run Try.prog w1 = .ok qv w2 ∧ GS B ws w0 s H f (m + 1) w2 s2 (r :: H') (upd f' k (some n)) qv := by
  have hN := h.sz
  have z1 := hd.tch.size
  have keep : ∀ j, bv.ownBlock = some j → W'.heap[j]? = W.heap[j]? := fun j hj => hd.tch.block j (h.lt hj) (h.sep j hj).1
  have row1 := h.row.keep keep
  have e1 := run_bs1 26 53 8 _ Try.underlying26 infoBk rfl (.pointer (some ⟨r.bk, 0, none⟩)) rfl W'
  have b1 : Below W'.heap.size W' (W'.alloc (.cells #[.pointer (some ⟨r.bk, 0, none⟩)] 53)) := (Below.refl _ _).alloc (Nat.le_refl _) _
  have v1 : Vals (W'.alloc (.cells #[.pointer (some ⟨r.bk, 0, none⟩)] 53)) (some ⟨W'.heap.size, 0, none⟩) [bkP r] := Or.inr ⟨_, _, rfl, fun j u hj => by
    rw [Nat.zero_add, cell_of_row _ _ _ _ _ _ (heap_alloc_new _ _)]
    simpa [bkP] using hj⟩
  generalize W'.alloc (.cells #[.pointer (some ⟨r.bk, 0, none⟩)] 53) = w1 at *
  have z2 := b1.size
  obtain ⟨qv, w2, e2, own2, g2, o2⟩ := run_appV 26 53 8 _ Try.underlying26 infoBk (Or.inl rfl) rfl w1 ws.heap.size 26 bv _ _ [bkP r] 1 (row1.below b1) v1 (by intro u hu; simp at hu; subst hu; rfl) (by simp; omega) (by omega)
  have t2 : Tch (fun j => bv.ownBlock = some j) W' w2 := Tch.trans ⟨b1.os, b1.tape, b1.output, b1.size, fun j hj _ => b1.block j hj⟩ ⟨g2.os, g2.tape, g2.output, g2.size, fun j hj hO => g2.block j hj (fun q => hO q.symm)⟩
  have sep2 : ∀ j, bv.ownBlock = some j → j ∉ s2.bl ∧ ∀ q ∈ r :: (H' ++ H), j ∉ q.bl := fun j hj => by
    have lj := h.lt hj
    refine ⟨fun q => ?_, fun q hq hb => ?_⟩
    · rcases hd.bl j q with q | q
      · exact (h.sep j hj).1 q
      · omega
    · rcases List.mem_cons.1 hq with rfl | hq
      · have := hd.rb j hb; omega
      · exact (h.sep j hj).2 q hq hb
  have own3 : Own B w2 s2 (r :: (H' ++ H)) (upd f' k (some n)) := hd.own.keep t2 (fun j hj q => (sep2 j q).1 hj) (fun q hq b hb e => (sep2 b e).2 q hq hb)
  refine ⟨_, qv, w1, w2, e1, e2, own3, by rw [hd.t, h.t], by rw [List.reverse_cons, List.map_append]; exact own2, ?_, ?_, ?_, ?_, fun j hj => ?_, by have := t2.size; omega, fun j hj => ?_, ?_⟩
  · have hu : upd (upd f' k (some n)) r.k r.o = f' := by rw [hd.rk, hd.ro, upd_back]
    exact .step (by rw [hu]; exact h.own.ft) (by rw [hu]; exact h.chain)
  · simp only [List.cons_append, List.map_cons, List.nodup_cons]
    refine ⟨fun hm => ?_, h.nd⟩
    obtain ⟨q, hq, eq⟩ := List.mem_map.1 hm
    have l1 := h.own.tree.hist.lt q hq q.bk (by simp [Rec.bl])
    have l2 := hd.rb r.bk (by simp [Rec.bl])
    omega
  · obtain ⟨D, d1, d2⟩ := h.dom
    obtain ⟨D', d3, d4⟩ := d1.put hk n
    exact ⟨D', d3, by omega⟩
  · have b2 : Below w0.heap.size w0 W' := h.bel.trans (hd.tch.below h.bel.size fun j hj => by have := h.own.ge j hj; omega)
    refine b2.trans (t2.below b2.size fun j hj => ?_)
    have := (h.row.ge j hj).1
    omega
  · rcases o2 with q | q
    · rw [q] at hj
      exact ⟨(sep2 j hj).1, fun x hx => (sep2 j hj).2 x hx⟩
    · rw [q] at hj
      simp at hj
      refine ⟨fun q => ?_, fun x hx hb => ?_⟩
      · have := hd.own.tree.tr.lt j q; omega
      · have := hd.own.tree.hist.lt x hx j hb; omega
  · rcases hd.bl j hj with q | q
    · exact h.bl j q
    · exact Or.inr (by omega)
  · refine (h.tch.trans' (O' := fun j => j ∈ s'.bl) hd.tch fun i hi q => ?_).trans' (O' := fun j => bv.ownBlock = some j) t2 fun i hi q => ?_
    · rcases h.bl i q with q | q
      · exact q
      · omega
    · have := (h.row.ge i q).1
      omega
end
end Go.Proofs.Ytoofljkgdjjllab

namespace Go.Proofs.Ytoofljkgdjjllab
open Go.RowKit
set_option linter.unusedVariables false
set_option linter.unusedSimpArgs false

theorem step_no {B : Nat} {w : World} {s : Tr} {H : List Rec} {f : Fn} {k : IdK} {n : NodeV} {c : Int} (hc : c ≠ 0) {F : Nat} {args : Array Value} (hC : Calls Try.prog F args w (StepP B w s H f k n c)) :
    Calls Try.prog F args w fun e w' => e = .returned (.tuple #[.pointer none, .int .i64 c]) ∧ Below w.heap.size w w' := by
  refine hC.mono ?_
  rintro e w' (⟨_, h1, h2⟩ | ⟨h1, _⟩)
  · exact ⟨h1, h2⟩
  · exact absurd h1 hc
theorem step_ok {B : Nat} {w : World} {s : Tr} {H : List Rec} {f : Fn} {k : IdK} {n : NodeV} {c : Int} (hc : c = 0) {F : Nat} {args : Array Value} (hC : Calls Try.prog F args w (StepP B w s H f k n c)) :
    Calls Try.prog F args w fun e w' => ∃ s' r, Done B w s H f k n e w' s' r := by
  refine hC.mono ?_
  rintro e w' (⟨h1, _⟩ | ⟨_, s', r, hd⟩)
  · exact absurd hc h1
  · exact ⟨s', r, hd⟩
set_option maxRecDepth 100000 in
set_option maxHeartbeats 8000000 in
/-- grown. -/
theorem grown_any {B : Nat} {w0 w : World} {s : Tr} {H : List Rec} {f : Fn} (h : Own B w s H f) (h0 : w0.heap.size ≤ B) (hB : B ≤ w.heap.size) (bel0 : Below w0.heap.size w0 w) (hnd : (H.map (·.bk)).Nodup) (D : List IdK) (hD : Dom f D) (a : Option Addr) (c : Nat) (L : List OpV) (hL : RowAt 69 OpV.c w0 a L) (ok : ∀ x ∈ L, x.ok) (hn : L.length ≤ 1256584717422) (P : IdK → Bool) (hP : ∀ x, (f x).isSome = P x) :
    Calls Try.prog 10 #[.pointer (some ⟨s.t, 0, none⟩), .slice a L.length c] w fun e w' => ∃ s' H' f' bv, e = .returned bv ∧ GS B w w0 s H f (D.length + L.length) w' s' H' f' bv ∧ (∀ x, (f' x).isSome = presN P L x) ∧ H'.length ≤ L.length := by
  obtain ⟨n, hnn⟩ : ∃ n, L.length = n := ⟨_, rfl⟩
  have HNn := hidMk hnn
  have HLn := hidMk hn
  have HB := hidMk hB
  have HN0 := hidMk (show w0.heap.size ≤ w.heap.size by omega)
  have HH0 := hidMk h0
  have start : GS B w w0 s H f (D.length + 0) w s [] f (.slice none 0 0) := ⟨h, rfl, ⟨rfl, Or.inl ⟨rfl, rfl⟩⟩, .nil, hnd, ⟨D, hD, Nat.le_refl _⟩, bel0, fun j hj => (by cases hj), Nat.le_refl _, fun j hj => Or.inl hj, Tch.refl _ _⟩
  rw [hnn]
  clear hnn hn hB h hnd bel0 hD h0
  go_enter Try.func10, Try.ntmps10
  go_wp2
  go_loopw [5, 6] (fun v5 v6 wr => ∃ (i : Nat) (s' : Tr) (H' : List Rec) (f' : Fn), v6 = .int .i64 (i : Int) ∧ i ≤ n ∧ GS B w w0 s H f (D.length + i) wr s' H' f' v5 ∧ (∀ x, (f' x).isSome = presN P (L.take i) x) ∧ H'.length ≤ i) (fun v5 v6 wr => n - (match v6 with | .int _ i => i.toNat | _ => 0))
  case atStart => exact ⟨0, s, [], f, rfl, Nat.zero_le _, start, by simpa [presN] using hP, Nat.zero_le _⟩
  case round =>
    clear start hP
    obtain ⟨i, s', H', f', rfl, hin, gs, hp, hl⟩ := hrel
    obtain ⟨av, cv, hv5, _⟩ := gs.row.open
    obtain ⟨l5, hl5⟩ : ∃ l5, (H'.reverse.map bkP).length = l5 := ⟨_, rfl⟩
    rw [hl5] at hv5
    subst hv5
    clear hl5
    have hLn := HNn.out
    have hbig := HLn.out
    by_cases hi : i < n
    · have hxi : L[i]? = some L[i] := List.getElem?_eq_getElem (by omega)
      generalize L[i] = o at hxi
      have hxo : o.ok := ok o (List.mem_of_getElem? hxi)
      obtain ⟨b, off, rfl, lb, hr⟩ : ∃ b o', a = some ⟨b, o', none⟩ ∧ b < w0.heap.size ∧ w0.rangeAt b (o' + i * 69) o.c := by
        rcases hL with rfl | ⟨b, o', e, h1, h2⟩
        · simp at hxi
        · exact ⟨b, o', e, h1, h2 i o hxi⟩
      have HX := hidMk (fun (W : World) (hw : Below w0.heap.size w0 W) => rangeAt_keep hr (hw.block _ lb))
      have HPT := hidMk (pres_take (P := P) hxi)
      have HGS := hidMk gs
      have hbel := gs.bel
      have ck : wr.cell? ⟨b, off + i * 69 + 0, none⟩ = some (.int .i64 o.kind) := HX.out wr hbel 0 _ rfl
      rw [Nat.add_zero] at ck
      have hNB : w.heap.size ≤ wr.heap.size := gs.sz
      have HBw := hidMk (show B ≤ wr.heap.size from Nat.le_trans HB.out hNB)
      have hn2 : n ≤ 1256584717422 := by omega
      clear hxi hr lb hLn
      have hl2 : H'.length ≤ 1300000000000 := by omega
      have HP := hidMk hp
      have HL2 := hidMk hl
      clear hp hl gs
      by_cases k0 : o.kind = 0
      · rw [k0] at ck
        have HKK := hidMk k0
        clear k0
        by_cases hc : gC f' o.id o.under = 0
        · have HCN := hidMk hc
          clear hc
          go_upto_region 8 with fail
          clear ck
          have bd : Below wr.heap.size wr wr.drew := (Below.refl _ _).drew
          have gd := HGS.out.below bd
          refine grown8 (fun W => Below w0.heap.size w0 W) (fun t v W => ∃ s2 r, t = .pointer (some ⟨r.bk, 0, none⟩) ∧ Done B wr.drew s' (H' ++ H) f' o.id ⟨o.under, o.key, false⟩ (.returned (.tuple #[t, v])) W s2 r) b (off + i * 69) (.pointer (some ⟨s.t, 0, none⟩)) (.slice (some ⟨b, off, none⟩) n c) (.int .i64 (i : Int)) o.id.v o.under.v (.string o.key) _ wr _ rfl rfl rfl rfl gd.bel ?_ ?_ ?_ ?_ ?_ ?_
          · have hcall := step_ok HCN.out (grow_all gd.own HBw.out o.id o.under o.key hxo.id hxo.under)
            rw [gd.t] at hcall
            refine hcall.mono ?_
            rintro e w2 ⟨s2, r, hd⟩
            obtain rfl := hd.ret
            refine ⟨_, _, rfl, gd.bel.trans (hd.tch.below gd.bel.size fun j hj => by have := gd.own.ge j hj; have := HH0.out; omega), s2, r, rfl, hd⟩
          · exact fun W => ix_op hi (by omega) W
          · exact fun W hw => op_id hxo (HX.out W hw)
          · exact fun W hw => op_under hxo (HX.out W hw)
          · exact fun W hw => op_key hxo (HX.out W hw)
          rintro t v a' w2 ⟨s2, r, rfl, hd⟩ ha
          subst ha
          simp only [Act.put, List.setIfInBounds_toArray, List.set_cons_zero, List.set_cons_succ]
          obtain ⟨lv, qv, w3, w4, e1, e2, g2⟩ := gd.done HH0.out HN0.out HBw.out hl2 hxo.id hd
          have E1 := hidMk e1
          have E2 := hidMk e2
          have G2 := hidMk g2
          clear e1 e2 g2 hd gd
          go_wp2_with (first
            | (refine wpList_run rfl (exec_buildSlice (t := 26) (n := 1) (xv := .pointer (some ⟨r.bk, 0, none⟩)) (v := lv) rfl rfl E1.out) ?_)
            | (refine wpList_run rfl (exec_append (ts := #[26, 26]) (xv := .slice av l5 cv) (yv := lv) (v := qv) rfl rfl rfl E2.out) ?_)
            | fail)
          rw [show ((i : Int) + 1) = ((i + 1 : Nat) : Int) by omega]
          refine ⟨⟨i + 1, s2, r :: H', _, rfl, hi, G2.out, ?_, by have := HL2.out; simp; omega⟩, ?_⟩
          · rw [HPT.out]; exact pres_grow HP.out HKK.out HCN.out _
          · show n - ((i + 1 : Nat) : Int).toNat < n - (i : Int).toNat
            omega
        · have HCN := hidMk (show gC f' o.id o.under ≠ 0 from hc)
          clear hc
          go_upto_region 8 with fail
          clear ck
          have bd : Below wr.heap.size wr wr.drew := (Below.refl _ _).drew
          have gd := HGS.out.below bd
          refine grown8 (fun W => Below w0.heap.size w0 W) (fun t v W => t = .pointer none ∧ Below wr.heap.size wr W) b (off + i * 69) (.pointer (some ⟨s.t, 0, none⟩)) (.slice (some ⟨b, off, none⟩) n c) (.int .i64 (i : Int)) o.id.v o.under.v (.string o.key) _ wr _ rfl rfl rfl rfl gd.bel ?_ ?_ ?_ ?_ ?_ ?_
          · have hcall := step_no HCN.out (grow_all gd.own HBw.out o.id o.under o.key hxo.id hxo.under)
            rw [gd.t] at hcall
            refine hcall.mono ?_
            rintro e w2 ⟨rfl, b2⟩
            exact ⟨_, _, rfl, gd.bel.trans (b2.mono gd.bel.size), rfl, bd.trans (b2.mono bd.size)⟩
          · exact fun W => ix_op hi (by omega) W
          · exact fun W hw => op_id hxo (HX.out W hw)
          · exact fun W hw => op_under hxo (HX.out W hw)
          · exact fun W hw => op_key hxo (HX.out W hw)
          rintro t v a' w2 ⟨rfl, b2⟩ ha
          subst ha
          simp only [Act.put, List.setIfInBounds_toArray, List.set_cons_zero, List.set_cons_succ]
          have BA := hidMk b2
          clear b2 gd bd
          go_wp2
          rw [show ((i : Int) + 1) = ((i + 1 : Nat) : Int) by omega]
          refine ⟨⟨i + 1, s', H', f', rfl, hi, (HGS.out.below BA.out).up (by omega), ?_, by have := HL2.out; omega⟩, ?_⟩
          · rw [HPT.out, pres_none HP.out HCN.out]; exact HP.out
          · show n - ((i + 1 : Nat) : Int).toNat < n - (i : Int).toNat
            omega
      · by_cases k1 : o.kind = 1
        · rw [k1] at ck
          have HKK := hidMk k1
          clear k0 k1
          by_cases hc : mC f' o.id o.under = 0
          · have HCN := hidMk hc
            clear hc
            go_upto_region 10 with fail
            clear ck
            have bd : Below wr.heap.size wr wr.drew := (Below.refl _ _).drew
            have gd := HGS.out.below bd
            refine grown10 (fun W => Below w0.heap.size w0 W) (fun t v W => ∃ s2 r, t = .pointer (some ⟨r.bk, 0, none⟩) ∧ Done B wr.drew s' (H' ++ H) f' o.id ⟨o.under, o.key, false⟩ (.returned (.tuple #[t, v])) W s2 r) b (off + i * 69) (.pointer (some ⟨s.t, 0, none⟩)) (.slice (some ⟨b, off, none⟩) n c) (.int .i64 (i : Int)) o.id.v o.under.v (.string o.key) _ wr _ rfl rfl rfl rfl gd.bel ?_ ?_ ?_ ?_ ?_ ?_
            · have hcall := step_ok HCN.out (move_all gd.own HBw.out o.id o.under o.key hxo.id hxo.under)
              rw [gd.t] at hcall
              refine hcall.mono ?_
              rintro e w2 ⟨s2, r, hd⟩
              obtain rfl := hd.ret
              refine ⟨_, _, rfl, gd.bel.trans (hd.tch.below gd.bel.size fun j hj => by have := gd.own.ge j hj; have := HH0.out; omega), s2, r, rfl, hd⟩
            · exact fun W => ix_op hi (by omega) W
            · exact fun W hw => op_id hxo (HX.out W hw)
            · exact fun W hw => op_under hxo (HX.out W hw)
            · exact fun W hw => op_key hxo (HX.out W hw)
            rintro t v a' w2 ⟨s2, r, rfl, hd⟩ ha
            subst ha
            simp only [Act.put, List.setIfInBounds_toArray, List.set_cons_zero, List.set_cons_succ]
            obtain ⟨lv, qv, w3, w4, e1, e2, g2⟩ := gd.done HH0.out HN0.out HBw.out hl2 hxo.id hd
            have E1 := hidMk e1
            have E2 := hidMk e2
            have G2 := hidMk g2
            clear e1 e2 g2 hd gd
            go_wp2_with (first
              | (refine wpList_run rfl (exec_buildSlice (t := 26) (n := 1) (xv := .pointer (some ⟨r.bk, 0, none⟩)) (v := lv) rfl rfl E1.out) ?_)
              | (refine wpList_run rfl (exec_append (ts := #[26, 26]) (xv := .slice av l5 cv) (yv := lv) (v := qv) rfl rfl rfl E2.out) ?_)
              | fail)
            rw [show ((i : Int) + 1) = ((i + 1 : Nat) : Int) by omega]
            refine ⟨⟨i + 1, s2, r :: H', _, rfl, hi, G2.out, ?_, by have := HL2.out; simp; omega⟩, ?_⟩
            · rw [HPT.out, pres_other _ (by rw [HKK.out]; decide)]; intro x; rw [pres_put (mC_zero HCN.out) _ x]; exact HP.out x
            · show n - ((i + 1 : Nat) : Int).toNat < n - (i : Int).toNat
              omega
          · have HCN := hidMk (show mC f' o.id o.under ≠ 0 from hc)
            clear hc
            go_upto_region 10 with fail
            clear ck
            have bd : Below wr.heap.size wr wr.drew := (Below.refl _ _).drew
            have gd := HGS.out.below bd
            refine grown10 (fun W => Below w0.heap.size w0 W) (fun t v W => t = .pointer none ∧ Below wr.heap.size wr W) b (off + i * 69) (.pointer (some ⟨s.t, 0, none⟩)) (.slice (some ⟨b, off, none⟩) n c) (.int .i64 (i : Int)) o.id.v o.under.v (.string o.key) _ wr _ rfl rfl rfl rfl gd.bel ?_ ?_ ?_ ?_ ?_ ?_
            · have hcall := step_no HCN.out (move_all gd.own HBw.out o.id o.under o.key hxo.id hxo.under)
              rw [gd.t] at hcall
              refine hcall.mono ?_
              rintro e w2 ⟨rfl, b2⟩
              exact ⟨_, _, rfl, gd.bel.trans (b2.mono gd.bel.size), rfl, bd.trans (b2.mono bd.size)⟩
            · exact fun W => ix_op hi (by omega) W
            · exact fun W hw => op_id hxo (HX.out W hw)
            · exact fun W hw => op_under hxo (HX.out W hw)
            · exact fun W hw => op_key hxo (HX.out W hw)
            rintro t v a' w2 ⟨rfl, b2⟩ ha
            subst ha
            simp only [Act.put, List.setIfInBounds_toArray, List.set_cons_zero, List.set_cons_succ]
            have BA := hidMk b2
            clear b2 gd bd
            go_wp2
            rw [show ((i : Int) + 1) = ((i + 1 : Nat) : Int) by omega]
            refine ⟨⟨i + 1, s', H', f', rfl, hi, (HGS.out.below BA.out).up (by omega), ?_, by have := HL2.out; omega⟩, ?_⟩
            · rw [HPT.out, pres_other _ (by rw [HKK.out]; decide)]; exact HP.out
            · show n - ((i + 1 : Nat) : Int).toNat < n - (i : Int).toNat
              omega
        · by_cases k2 : o.kind = 2
          · rw [k2] at ck
            have HKK := hidMk k2
            clear k0 k1 k2
            by_cases hc : pC f' o.id = 0
            · have HCN := hidMk hc
              clear hc
              go_upto_region 12 with fail
              clear ck
              have gd := HGS.out
              have HC := hidMk (step_ok HCN.out (prune_all gd.own HBw.out o.id hxo.id))
              rw [gd.t] at HC
              have HLO := hidMk (op_id hxo (HX.out wr gd.bel))
              go_upto_region 13 with (first
                | (refine wpList_val rfl (exec_load (t := 35) (u := .pointer (some ⟨b, off + i * 69 + 1, none⟩)) rfl rfl HLO.out) ?_)
                | (go_at_call 26; refine HC.out.mono ?_; rintro e w2 ⟨s2, r, hd⟩; obtain rfl := hd.ret)
                | fail)
              obtain ⟨lv, qv, w3, w4, e1, e2, g2⟩ := gd.done HH0.out HN0.out HBw.out hl2 hxo.id hd
              have E1 := hidMk e1
              have E2 := hidMk e2
              have G2 := hidMk g2
              clear e1 e2 g2 hd gd
              go_wp2_with (first
                | (refine wpList_run rfl (exec_buildSlice (t := 26) (n := 1) (xv := .pointer (some ⟨r.bk, 0, none⟩)) (v := lv) rfl rfl E1.out) ?_)
                | (refine wpList_run rfl (exec_append (ts := #[26, 26]) (xv := .slice av l5 cv) (yv := lv) (v := qv) rfl rfl rfl E2.out) ?_)
                | fail)
              rw [show ((i : Int) + 1) = ((i + 1 : Nat) : Int) by omega]
              refine ⟨⟨i + 1, s2, r :: H', _, rfl, hi, G2.out, ?_, by have := HL2.out; simp; omega⟩, ?_⟩
              · rw [HPT.out, pres_other _ (by rw [HKK.out]; decide)]; intro x; rw [pres_put (pC_zero HCN.out) _ x]; exact HP.out x
              · show n - ((i + 1 : Nat) : Int).toNat < n - (i : Int).toNat
                omega
            · have HCN := hidMk (show pC f' o.id ≠ 0 from hc)
              clear hc
              go_upto_region 12 with fail
              clear ck
              have gd := HGS.out
              have HC := hidMk (step_no HCN.out (prune_all gd.own HBw.out o.id hxo.id))
              rw [gd.t] at HC
              have HLO := hidMk (op_id hxo (HX.out wr gd.bel))
              clear gd
              go_wp2_with (first
                | (refine wpList_val rfl (exec_load (t := 35) (u := .pointer (some ⟨b, off + i * 69 + 1, none⟩)) rfl rfl HLO.out) ?_)
                | (go_at_call 26; refine HC.out.mono ?_; rintro e w2 ⟨rfl, b2⟩; have BA := hidMk b2; clear b2)
                | fail)
              rw [show ((i : Int) + 1) = ((i + 1 : Nat) : Int) by omega]
              refine ⟨⟨i + 1, s', H', f', rfl, hi, (HGS.out.below BA.out).up (by omega), ?_, by have := HL2.out; omega⟩, ?_⟩
              · rw [HPT.out, pres_other _ (by rw [HKK.out]; decide)]; exact HP.out
              · show n - ((i + 1 : Nat) : Int).toNat < n - (i : Int).toNat
                omega
          · generalize hkz : o.kind = kz at *
            have HKZ := hidMk hkz
            have HK0 := hidMk k0
            clear hkz
            go_wp2
            clear ck k0 k1 k2
            rw [show ((i : Int) + 1) = ((i + 1 : Nat) : Int) by omega]
            refine ⟨⟨i + 1, s', H', f', rfl, hi, HGS.out.up (by omega), ?_, by have := HL2.out; omega⟩, ?_⟩
            · rw [HPT.out, pres_other _ (by rw [HKZ.out]; exact HK0.out)]; exact HP.out
            · show n - ((i + 1 : Nat) : Int).toNat < n - (i : Int).toNat
              omega
    · obtain rfl : i = n := by omega
      have HGS := hidMk gs
      have HP := hidMk hp
      clear hin hi hp gs
      go_wp2
      go_ret
      refine ⟨s', H', f', _, rfl, HGS.out, ?_, hl⟩
      have := HP.out
      rwa [List.take_of_length_le (by rw [hLn]; exact Nat.le_refl _)] at this
end Go.Proofs.Ytoofljkgdjjllab

namespace Go.Proofs.Ytoofljkgdjjllab
open Go.RowKit
set_option linter.unusedVariables false
set_option linter.unusedSimpArgs false

theorem put_len_le (NL : List RN) (k : IdK) (n : NodeV) : (M.put NL k n).length ≤ NL.length + 1 := by
  rw [M.put_len]; split <;> omega
section
variable (d : Nat) (NL : List (IdK × NodeV)) (pv : Value)
theorem ref_dom {w : World} (h : RefAt w d NL pv) : Dom (lookN NL) (NL.map (·.1)) := by
  refine ⟨fun x => ⟨fun hx => ?_, fun hx => ?_⟩, h.nd, fun x hx => ?_⟩
  · obtain ⟨p, hp, rfl⟩ := List.mem_map.1 hx
    unfold lookN
    rw [M.look_of_mem h.nd hp]; rfl
  · obtain ⟨v, hv⟩ := Option.isSome_iff_exists.1 hx
    exact List.mem_map.2 ⟨_, M.look_mem hv, rfl⟩
  · obtain ⟨p, hp, rfl⟩ := List.mem_map.1 hx
    exact (h.ok p hp).k
end
set_option maxRecDepth 100000 in
set_option maxHeartbeats 4000000 in
/-- count. -/
theorem count_any (a : Option Addr) (c : Nat) (L : List OpV) (w : World) (hL : RowAt 69 OpV.c w a L) (ok : ∀ x ∈ L, x.ok) (hn : L.length ≤ 1256584717422) :
    Calls Try.prog 11 #[.slice a L.length c] w fun e w' => ∃ m : Nat, e = .returned (.int .i64 (m : Int)) ∧ (∃ f2 D2, Dom f2 D2 ∧ D2.length = m ∧ ∀ x, (f2 x).isSome = presN (fun _ => false) L x) ∧ Below w.heap.size w w' := by
  obtain ⟨n, hnn⟩ : ∃ n, L.length = n := ⟨_, rfl⟩
  have HNn := hidMk hnn
  have HLn := hidMk hn
  rw [hnn]
  clear hnn hn
  have HR := hidMk rnew_own
  go_enter Try.func11, Try.ntmps11
  go_wp2_with (first
    | (go_at_call 31; refine (HR.out _).mono ?_; rintro e w1 ⟨d, rfl, hd, b1⟩; clear HR)
    | fail)
  go_loopw [4] (fun v4 wr => ∃ i : Nat, v4 = .int .i64 (i : Int) ∧ i ≤ n ∧ (∃ NL PL vn vp us, RefP w.heap.size wr d NL PL vn vp us ∧ (∀ x, (lookN NL x).isSome = presN (fun _ => false) (L.take i) x) ∧ NL.length ≤ i ∧ PL.length ≤ i) ∧ Below w.heap.size w wr) (fun v4 wr => n - (match v4 with | .int _ i => i.toNat | _ => 0))
  case atStart => exact ⟨0, rfl, Nat.zero_le _, ⟨_, _, _, _, _, hd, fun x => rfl, Nat.le_refl _, Nat.le_refl _⟩, b1⟩
  case round =>
    clear hd b1
    obtain ⟨i, rfl, hin, ⟨NL, PL, vn, vp, us, rp, hp, l1, l2⟩, bel⟩ := hrel
    have hLn := HNn.out
    have hbig := HLn.out
    by_cases hi : i < n
    · have hxi : L[i]? = some L[i] := List.getElem?_eq_getElem (by omega)
      generalize L[i] = o at hxi
      have hxo : o.ok := ok o (List.mem_of_getElem? hxi)
      obtain ⟨b, off, rfl, lb, hr⟩ : ∃ b o', a = some ⟨b, o', none⟩ ∧ b < w.heap.size ∧ w.rangeAt b (o' + i * 69) o.c := by
        rcases hL with rfl | ⟨b, o', e, h1, h2⟩
        · simp at hxi
        · exact ⟨b, o', e, h1, h2 i o hxi⟩
      have HX := hidMk (fun (W : World) (hw : Below w.heap.size w W) => rangeAt_keep hr (hw.block _ lb))
      have HPT := hidMk (pres_take (P := fun _ => false) hxi)
      have ck : wr.cell? ⟨b, off + i * 69 + 0, none⟩ = some (.int .i64 o.kind) := HX.out wr bel 0 _ rfl
      rw [Nat.add_zero] at ck
      have HP := hidMk hp
      have HRP := hidMk rp
      have HB1 := hidMk l1
      have HB2 := hidMk l2
      have hn2 : n ≤ 1256584717422 := by omega
      clear hxi hr lb hLn hp rp l1 l2
      by_cases k0 : o.kind = 0
      · rw [k0] at ck
        have HK0 := hidMk k0
        clear k0
        go_upto_region 6 with fail
        clear ck
        have bd : Below wr.heap.size wr wr.drew := (Below.refl _ _).drew
        have beld := bel.trans (bd.mono bel.size)
        have rd := HRP.out.below bd
        have hall := rgrow_all rd beld.size (by have := HB1.out; omega) (by have := HB2.out; omega) o.id hxo.id o.under o.key hxo.under
        have fwd : ∀ e w', RStep w.heap.size wr.drew d NL PL vn vp us o.id ⟨o.under, o.key, false⟩ (gC (lookN NL) o.id o.under) e w' → ∃ v, e = .returned v ∧ Below w.heap.size w w' ∧ ((∃ NL PL vn vp us, RefP w.heap.size w' d NL PL vn vp us ∧ (∀ x, (lookN NL x).isSome = presN (fun _ => false) (L.take (i + 1)) x) ∧ NL.length ≤ i + 1 ∧ PL.length ≤ i + 1) ∧ Below w.heap.size w w') := by
          rintro e w' (⟨hc, rfl, b2⟩ | ⟨hc, rfl, vn', vp', us', r2, t2, _⟩)
          · have bb := beld.trans (b2.mono beld.size)
            refine ⟨_, rfl, bb, ⟨NL, PL, vn, vp, us, rd.below b2, ?_, Nat.le_succ_of_le HB1.out, Nat.le_succ_of_le HB2.out⟩, bb⟩
            rw [HPT.out, pres_none HP.out hc]; exact HP.out
          · have bb := beld.trans (t2.below beld.size fun j hj => (rd.ge j hj).1)
            refine ⟨_, rfl, bb, ⟨_, _, vn', vp', us', r2, ?_, ?_, by have := HB2.out; simp; omega⟩, bb⟩
            · intro x
              rw [HPT.out, look_put rd.nd]
              exact pres_grow HP.out HK0.out hc _ x
            · have := put_len_le NL o.id ⟨o.under, o.key, false⟩
              have := HB1.out
              omega
        refine count6 (fun W => Below w.heap.size w W) (fun W => (∃ NL PL vn vp us, RefP w.heap.size W d NL PL vn vp us ∧ (∀ x, (lookN NL x).isSome = presN (fun _ => false) (L.take (i + 1)) x) ∧ NL.length ≤ i + 1 ∧ PL.length ≤ i + 1) ∧ Below w.heap.size w W) b (off + i * 69) (.pointer (some ⟨d, 0, none⟩)) (.slice (some ⟨b, off, none⟩) n c) (.int .i64 (i : Int)) o.id.v o.under.v (.string o.key) _ wr _ rfl rfl rfl rfl beld ?_ ?_ ?_ ?_ ?_ ?_
        · exact hall.mono fwd
        · exact fun W => ix_op hi (by omega) W
        · exact fun W hw => op_id hxo (HX.out W hw)
        · exact fun W hw => op_under hxo (HX.out W hw)
        · exact fun W hw => op_key hxo (HX.out W hw)
        rintro v a' w2 hq ha
        subst ha
        simp only [Act.put, List.setIfInBounds_toArray, List.set_cons_zero, List.set_cons_succ]
        have HQ := hidMk hq
        clear hq fwd hall rd beld bd
        go_wp2
        rw [show ((i : Int) + 1) = ((i + 1 : Nat) : Int) by omega]
        refine ⟨⟨i + 1, rfl, hi, HQ.out.1, HQ.out.2⟩, ?_⟩
        show n - ((i + 1 : Nat) : Int).toNat < n - (i : Int).toNat
        omega
      · generalize hkz : o.kind = kz at *
        have HKZ := hidMk hkz
        have HK0 := hidMk k0
        clear hkz
        go_wp2
        clear ck k0
        rw [show ((i : Int) + 1) = ((i + 1 : Nat) : Int) by omega]
        refine ⟨⟨i + 1, rfl, hi, ⟨NL, PL, vn, vp, us, HRP.out, ?_, Nat.le_succ_of_le HB1.out, Nat.le_succ_of_le HB2.out⟩, bel⟩, ?_⟩
        · rw [HPT.out, pres_other _ (by rw [HKZ.out]; exact HK0.out)]; exact HP.out
        · show n - ((i + 1 : Nat) : Int).toNat < n - (i : Int).toNat
          omega
    · obtain rfl : i = n := by omega
      have HP := hidMk hp
      have HRP := hidMk rp
      have HRL := hidMk (rlen_any d NL vp wr rp.ref)
      clear hin hi hp rp
      go_wp2_with (first
        | (go_at_call 33; refine HRL.out.mono ?_; rintro e w2 ⟨rfl, b2⟩)
        | fail)
      go_ret
      refine ⟨_, rfl, ⟨lookN NL, NL.map (·.1), ref_dom d NL vp HRP.out.ref, by rw [List.length_map], ?_⟩, bel.trans (b2.mono bel.size)⟩
      have := HP.out
      rwa [List.take_of_length_le (by rw [hLn]; exact Nat.le_refl _)] at this
end Go.Proofs.Ytoofljkgdjjllab

