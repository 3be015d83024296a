import Derived.Test.YthfbolmfkilkjaaEc
import Derived.Test.YthfbolmfkilkjaaCl
namespace Go.Proofs.Ythfbolmfkilkjaa
open Go.RowKit
set_option linter.unusedVariables false
set_option linter.unusedSimpArgs false

def AllE (L : List EdV) : Prop := ∀ x ∈ L, x.ok
theorem AllE.get {L : List EdV} (hL : AllE L) {i : Nat} {x : EdV} (e : L[i]? = some x) : x.ok := hL x (List.mem_of_getElem? e)
/-- Edits lie in a block from a place on. -/
def Es (w : World) (b off : Nat) (L : List EdV) : Prop := ∀ i x, L[i]? = some x → w.rangeAt b (off + 111 * i) x.l
/-- A slice of edits that lies in memory. -/
def El (w : World) (a : Option Addr) (L : List EdV) : Prop := L = [] ∨ ∃ b off, a = some ⟨b, off, none⟩ ∧ Es w b off L
theorem Es.below {B : Nat} {w w' : World} {b off : Nat} {L : List EdV} (h : Es w b off L) (hb : Below B w w') (hB : b < B) : Es w' b off L := fun i x e => rangeAt_below (h i x e) hb hB
theorem Es.lt {w : World} {b off : Nat} {L : List EdV} (h : Es w b off L) (hL : AllE L) (h0 : 0 < L.length) : b < w.heap.size := by
  have e := List.getElem?_eq_getElem h0
  exact rangeAt_lt (h 0 _ e) (by rw [EdV.len (hL.get e)]; omega)
theorem El.below {w w' : World} {a : Option Addr} {L : List EdV} (h : El w a L) (hL : AllE L) (hb : Below w.heap.size w w') : El w' a L := by
  rcases h with rfl | ⟨b, off, rfl, hs⟩
  · exact .inl rfl
  · by_cases h0 : 0 < L.length
    · exact .inr ⟨b, off, rfl, hs.below hb (hs.lt hL h0)⟩
    · exact .inl (List.eq_nil_of_length_eq_zero (by omega))
theorem El.at {w : World} {a : Option Addr} {L : List EdV} (h : El w a L) {i : Nat} (hi : i < L.length) : ∃ b off, a = some ⟨b, off, none⟩ ∧ Es w b off L := by
  rcases h with rfl | h
  · simp at hi
  · exact h
def ez : EdV := ⟨0, 0, z32, 0, 0, z32, 0, 0, z32, 0, [], 0, 0, 0, 0, [], 0, 0⟩
theorem ez_ok : ez.ok := ⟨rfl, rfl, rfl⟩
theorem infoE : ∃ i, Try.prog.info? 39 = some i ∧ i.zero = some (.agg ez.c) ∧ i.size = 111 ∧ i.bytes = 232 := by
  have h : (Try.prog.info? 39).map (fun i => (i.zero, i.size, i.bytes)) = some (some (.agg ez.c), 111, 232) := by kernel_rfl
  cases hq : Try.prog.info? 39 with
  | none => rw [hq] at h; simp at h
  | some i =>
    rw [hq] at h
    simp at h
    exact ⟨i, rfl, h.1, h.2.1, h.2.2⟩
theorem hzE (w : World) : (zeroValue 39).run Try.prog w = .ok (.agg ez.c) w := (zero_of_info (n := 111) (by kernel_rfl)).1 w
theorem indexE (b off n cap k : Nat) (w : World) (hk : k < n) :
    (Instr.indexAt 23 (.slice (some ⟨b, off, none⟩) n cap) (.int .i64 (k : Int))).run Try.prog w = .ok (.pointer (some ⟨b, off + 111 * k, none⟩)) w := by
  obtain ⟨i, hi, hz, hs, hb⟩ := infoE
  have hu := Try.underlying23
  have he : Try.prog.elem 23 = 39 := by kernel_rfl
  rw [run_indexAt_slice (P := Try.prog) _ _ _ _ _ _ _ (by rw [he]; exact hu)]
  simp [hk, he, hi, hs, Go.sizeOf, typeInfo, Addr.add_mid]
theorem loadEs (w : World) (b o : Nat) (x : EdV) (hx : x.ok) (hr : w.rangeAt b o x.l) : (Instr.loadAt 39 (.pointer (some ⟨b, o, none⟩))).run Try.prog w = .ok (.agg x.c) w :=
  run_loadAt_mid (P := Try.prog) w b o 39 x.l _ hr Try.underlying39 rfl (by rw [EdV.len hx]; exact hs39)
theorem exec_load {P : Program} {w : World} {a : Act} {o : Oper} {t : TypeId} {x : Operand} {p : Addr} {v : Value} (ho : o.op = .load t x) (hp : a.eval x = .pointer (some p)) (hl : (Instr.loadAt t (.pointer (some p))).run P w = .ok v w) : (execOp a.eval o).run P w = .ok (.value v) w := by
  unfold execOp
  simp only [ho, hp, Sem.run_bind, hl, Result.andThen_ok, Sem.run_pure]
theorem put_same (a : Act) (d : Nat) (v : Value) (h : d < a.tmps.size) : (a.put (some d) v).tmps.getD d undef = v := by
  simp [Act.put, Array.getD_eq_getD_getElem?, h]
theorem put_ne (a : Act) (d e : Nat) (v : Value) (h : d ≠ e) : (a.put (some d) v).tmps.getD e undef = a.tmps.getD e undef := by
  simp [Act.put, Array.getD_eq_getD_getElem?, Array.getElem?_setIfInBounds, h]
theorem put_size (a : Act) (d : Option Nat) (v : Value) : (a.put d v).tmps.size = a.tmps.size := by
  cases d <;> simp [Act.put]
theorem tget {n : Nat} {t : Array Value} {d : Nat} {v : Value} (hs : t.size = n) (hd : d < n) (h : t.getD d undef = v) : t[d]? = some v := by
  rw [Array.getD_eq_getD_getElem?, Array.getElem?_eq_getElem (by omega)] at h
  rw [Array.getElem?_eq_getElem (by omega)]
  simpa using h

/-- The cells of a list of edits. -/
def flatE (L : List EdV) : List Value := L.flatMap EdV.l
theorem flatE_len {L : List EdV} (h : AllE L) : (flatE L).length = L.length * 111 := by
  induction L with
  | nil => rfl
  | cons x r ih =>
    have h1 := h x (by simp)
    have h2 := ih (fun y hy => h y (by simp [hy]))
    simp only [flatE, List.flatMap_cons, List.length_append, List.length_cons] at h2 ⊢
    rw [h2, EdV.len h1]
    omega
theorem flatE_get {L : List EdV} (h : AllE L) (i j : Nat) (x : EdV) (hx : L[i]? = some x) (hj : j < 111) : (flatE L)[i * 111 + j]? = x.l[j]? := by
  induction L generalizing i with
  | nil => simp at hx
  | cons y r ih =>
    have h1 := h y (by simp)
    have hl : y.l.length = 111 := by rw [EdV.len h1]
    simp only [flatE, List.flatMap_cons]
    cases i with
    | zero =>
      simp at hx
      subst hx
      rw [List.getElem?_append_left (by omega)]
      simp
    | succ i =>
      rw [List.getElem?_append_right (by omega), hl, show (i + 1) * 111 + j - 111 = i * 111 + j by omega]
      exact ih (fun z hz => h z (by simp [hz])) i (by simpa using hx)
theorem flatE_app (L M : List EdV) : flatE (L ++ M) = flatE L ++ flatE M := by simp [flatE]
theorem flatE_one (L : List EdV) : ∀ v ∈ flatE L, v.oneCell' = true := by
  intro v hv
  simp only [flatE, List.mem_flatMap] at hv
  obtain ⟨x, _, hx⟩ := hv
  exact x.one v hx
/-- A slice of the call's own that holds edits. -/
def OwnE (w : World) (base : Nat) (v : Value) (L : List EdV) : Prop := AllE L ∧ w.ownsRow base 39 111 v L.length (flatE L)
theorem OwnE.nil (w : World) (base : Nat) : OwnE w base (.slice none 0 0) [] := ⟨fun _ h => by simp at h, World.ownsRow_nil w base 39 111⟩
theorem OwnE.open {w : World} {base : Nat} {v : Value} {L : List EdV} (h : OwnE w base v L) :
    (v = .slice none 0 0 ∧ L = []) ∨ ∃ g cap, v = .slice (some ⟨g, 0, none⟩) L.length cap ∧ L.length ≤ cap ∧ base ≤ g ∧ g < w.heap.size ∧ Es w g 0 L ∧ w.there g 0 (111 * L.length) := by
  obtain ⟨hL, hlen, ⟨rfl, hn⟩ | ⟨g, cap, cur, rfl, hbg, hg, hnc, hcm, hcs', htake⟩⟩ := h
  · exact .inl ⟨rfl, List.eq_nil_of_length_eq_zero hn⟩
  · have hcell : ∀ j, j < 111 * L.length → w.cell? ⟨g, 0 + j, none⟩ = (flatE L)[j]? := fun j hj => by
      rw [Nat.zero_add, cell_of_row w g j cur _ (0, 0) hg, ← htake, List.getElem?_take, if_pos (by omega)]
      simp
    refine .inr ⟨g, cap, rfl, hnc, hbg, (Array.getElem?_eq_some_iff.1 hg).1, ?_, ?_⟩
    · intro i x hx j v hv
      have hi := (List.getElem?_eq_some_iff.1 hx).1
      have hj : j < 111 := by have := (List.getElem?_eq_some_iff.1 hv).1; rwa [EdV.len (hL.get hx)] at this
      have := hcell (i * 111 + j) (by omega)
      rw [flatE_get hL i j x hx hj, hv] at this
      rw [show 0 + 111 * i + j = 0 + (i * 111 + j) by omega]
      exact this
    · intro j hj
      refine ⟨?_, ?_⟩
      · rw [hcell j hj, List.getElem?_eq_getElem (by rw [flatE_len hL]; omega)]; rfl
      · rw [Nat.zero_add]; exact frozen_of_row w g j cur _ hg
theorem OwnE.below {w w' : World} {base : Nat} {v : Value} {L : List EdV} (h : OwnE w base v L) (hb : Below w.heap.size w w') : OwnE w' base v L := by
  refine ⟨h.1, h.2.1, ?_⟩
  rcases h.2.2 with hn | ⟨g, cap, cur, rfl, hbg, hg, rest⟩
  · exact .inl hn
  · exact .inr ⟨g, cap, cur, rfl, hbg, by rw [hb.block g (Array.getElem?_eq_some_iff.1 hg).1]; exact hg, rest⟩
theorem zsizeE : (Value.agg ez.c).cells.size = 111 := by exact EdV.size ez_ok

theorem run_appE (w : World) (base : Nat) (ty : TypeId) (v : Value) (L : List EdV) (a : Addr) (M : List EdV) (c : Nat) (hown : OwnE w base v L) (hM : AllE M) (hb : El w (some a) M)
    (h : L.length + M.length ≤ 606627104962 + 1) (hbase : base ≤ w.heap.size) :
    ∃ v' w', (Builtin.append_ #[23, 23] ty #[v, .slice (some a) M.length c]).run Try.prog w = .ok v' w' ∧ OwnE w' base v' (L ++ M) ∧ w.grownBy w' v.ownBlock ∧ (v' = .slice none 0 0 ↔ v = .slice none 0 0 ∧ M.length = 0) := by
  obtain ⟨i, hi, hz, hs, hby⟩ := infoE
  have hnews : ∀ j u, (flatE M)[j]? = some u → w.cell? (a.add j) = some u := fun j u hj => by
    have hlt : j < M.length * 111 := by have := (List.getElem?_eq_some_iff.1 hj).1; rwa [flatE_len hM] at this
    rcases hb with rfl | ⟨b, off, e, hc⟩
    · simp at hlt
    · cases e
      have hx : M[j / 111]? = some M[j / 111] := List.getElem?_eq_getElem (by omega)
      have h1 := flatE_get hM (j / 111) (j % 111) _ hx (by omega)
      rw [show j / 111 * 111 + j % 111 = j by omega, hj] at h1
      have h2 := hc (j / 111) _ hx (j % 111) u h1.symm
      rw [Addr.add_mid]
      rwa [show off + 111 * (j / 111) + j % 111 = off + j by omega] at h2
  obtain ⟨v', w', hr, h2, h3, h4⟩ := run_append_own_wide (P := Try.prog) w base 23 ty 39 i (.agg ez.c) 111 232 Try.underlying23 hi hz hs hby zsizeE (by omega) v L.length (flatE L) hown.2 a M.length c (flatE M) (flatE_len hM) hnews (flatE_one M) (by unfold maxLen; omega) (by omega) hbase
  refine ⟨v', w', hr, ⟨?_, ?_⟩, h3, h4⟩
  · intro x hx
    rcases List.mem_append.1 hx with hx | hx
    · exact hown.1 x hx
    · exact hM x hx
  · rw [List.length_append, flatE_app]; exact h2
theorem wpList_appE {ops : Array Oper} {rest : List Oper} {o : Oper} {a : Act} {w : World} {Q : Exit → Act → World → Prop} (hgd : o.guard = none) (s x : Operand)
    (ho : o.op = .call { callee := .builtin .append, args := #[s, x], argTypes := #[23, 23] }) (base : Nat) (v : Value) (L : List EdV) (hs : a.eval s = v) (hown : OwnE w base v L)
    (aa : Addr) (m c : Nat) (M : List EdV) (hx : a.eval x = .slice (some aa) m c) (hm : M.length = m) (hM : AllE M) (hb : El w (some aa) M) (hlen : L.length + M.length ≤ 606627104962 + 1) (hbase : base ≤ w.heap.size)
    (h : ∀ v' w', OwnE w' base v' (L ++ M) → w.grownBy w' v.ownBlock → (v' = .slice none 0 0 ↔ v = .slice none 0 0 ∧ M.length = 0) → wpList Try.prog ops Q rest (a.put o.dst v') w') : wpList Try.prog ops Q (o :: rest) a w :=
  wpList_plain hgd fun _ hK => by
    subst hm
    obtain ⟨v', w', hr, h2, h3, h4⟩ := run_appE w base o.type v L aa M c hown hM hb hlen hbase
    unfold Oper.wp execOp
    simp only [ho, resolve, invoke, builtin, Sem.run_bind, Sem.run_pure, Result.andThen_ok, List.map_toArray, List.map_cons, List.map_nil, hs, hx, hr]
    exact hK _ _ (h v' w' h2 h3 h4)

set_option maxHeartbeats 1000000 in
/-- A clone of nil is nil. -/
theorem cloneE_nil (w : World) : Calls Try.prog 11 #[.slice none 0 0] w fun e w' => e = .returned (.slice none 0 0) ∧ w' = w := by
  have hnil : ∀ W, (binOp .eql 23 (.slice none 0 0) (.slice none 0 0)).run Try.prog W = .ok (.bool true) W := fun W => Lib.run_eql_slice_nil_nil W 0 0 Try.underlying23
  go_enter Try.func11, Try.ntmps11
  go_wp2
  go_ret
  exact ⟨rfl, rfl⟩

set_option maxHeartbeats 1000000 in
theorem cloneE_any (a : Addr) (L : List EdV) (cap : Nat) (w : World) (hL : AllE L) (hn : L.length ≤ 606627104962) (hl : El w (some a) L) :
    Calls Try.prog 11 #[.slice (some a) L.length cap] w fun e w' => ∃ g cap', e = .returned (.slice (some ⟨g, 0, none⟩) L.length cap') ∧ OwnE w' w.heap.size (.slice (some ⟨g, 0, none⟩) L.length cap') L ∧ Below w.heap.size w w' := by
  obtain ⟨n, hnn⟩ : ∃ n, n = L.length := ⟨_, rfl⟩
  rw [← hnn] at hn ⊢
  have HN : Hid (n = L.length) := hnn
  have hnil : ∀ W, (binOp .eql 23 (.slice (some a) n cap) (.slice none 0 0)).run Try.prog W = .ok (.bool false) W := fun W => Lib.run_eql_slice_some_nil W _ _ _ Try.underlying23
  have O0 : Hid (OwnE (w.alloc (.cells #[] 39)) w.heap.size (.slice (some ⟨w.heap.size, 0, none⟩) 0 0) []) := ⟨fun _ h => by simp at h, rfl, .inr ⟨w.heap.size, 0, #[], rfl, Nat.le_refl _, heap_alloc_new _ _, by simp, by simp [maxLen], rfl, rfl⟩⟩
  have be0 : Below w.heap.size w (w.alloc (.cells #[] 39)) := (Below.refl _ _).alloc (Nat.le_refl _) _
  have B0 : Hid (El (w.alloc (.cells #[] 39)) (some a) L) := hl.below hL be0
  have S0 : Hid (([] : List EdV).length + L.length ≤ 606627104962 + 1) := by show _ ≤ _; simp; omega
  have Z0 : Hid (w.heap.size ≤ (w.alloc (.cells #[] 39)).heap.size) := by show _ ≤ _; simp
  have HL32 : Hid (AllE L) := hL
  have hln : Hid (L.length = n) := hnn.symm
  clear hnn hl hL
  go_enter Try.func11, Try.ntmps11
  go_wp2_with (first | (at_builtin; refine wpList_appE rfl (.tmp 5) (.tmp 6) rfl w.heap.size (.slice (some ⟨w.heap.size, 0, none⟩) 0 0) [] rfl O0.out a n cap L rfl hln.out HL32.out B0.out S0.out Z0.out ?_) | fail)
  intro v w1 own1 grow1 hv
  have be1 : Below w.heap.size w w1 := be0.grown grow1 Z0.out (fun k hk => (World.ownsRow.lt O0.out.2 k hk).1)
  have own2 : OwnE w1 w.heap.size v L := by simpa using own1
  obtain ⟨g, cap', hvv⟩ : ∃ g cap', v = .slice (some ⟨g, 0, none⟩) n cap' := by
    rcases own2.open with ⟨h1, _⟩ | ⟨g, cap', h1, _⟩
    · exact (hv h1).elim
    · exact ⟨g, cap', by rw [h1, ← HN.out]⟩
  subst hvv
  have OW : Hid (OwnE w1 w.heap.size (.slice (some ⟨g, 0, none⟩) n cap') L) := own2
  clear own1 own2 grow1 O0 B0 S0 Z0 hv
  go_wp2
  go_ret
  exact ⟨g, cap', rfl, OW.out, be1⟩
def ops15 : Array Oper := #[{ dst := some 17, op := Op.move (Operand.tmp 0), type := 23, pos := "ref.go:148", after := #[], guard := none }, { dst := some 18, op := Op.move (Operand.tmp 5), type := 3, pos := "ref.go:148", after := #[], guard := none }, { dst := some 19, op := Op.indexAddr 23 (Operand.tmp 17) (Operand.tmp 18), type := 0, pos := "ref.go:148", after := #[{ on := 0, ground := Ground.data }, { on := 1, ground := Ground.data }], guard := none }, { dst := some 20, op := Op.load 39 (Operand.tmp 19), type := 39, pos := "ref.go:148", after := #[{ on := 2, ground := Ground.data }], guard := none }, { dst := some 21, op := Op.move (Operand.tmp 1), type := 23, pos := "ref.go:148", after := #[], guard := none }, { dst := some 22, op := Op.move (Operand.tmp 5), type := 3, pos := "ref.go:148", after := #[], guard := none }, { dst := some 23, op := Op.indexAddr 23 (Operand.tmp 21) (Operand.tmp 22), type := 0, pos := "ref.go:148", after := #[{ on := 4, ground := Ground.data }, { on := 5, ground := Ground.data }], guard := none }, { dst := some 24, op := Op.load 39 (Operand.tmp 23), type := 39, pos := "ref.go:148", after := #[{ on := 6, ground := Ground.data }], guard := none }, { dst := some 25, op := Op.call { callee := Callee.value (Operand.func 18), args := #[Operand.tmp 20, Operand.tmp 24], argTypes := #[39, 39] }, type := 4, pos := "ref.go:148", after := #[{ on := 3, ground := Ground.data }, { on := 7, ground := Ground.data }], guard := none }, { dst := some 26, op := Op.unOp UnOp.not 4 (Operand.tmp 25), type := 4, pos := "ref.go:148", after := #[{ on := 8, ground := Ground.data }], guard := none }]
theorem edits15 (b off c1 b2 off2 c2 n k : Nat) (x y : EdV) (r : Bool) (a : Act) (w : World) (Q : Exit → Act → World → Prop) (hsz : a.tmps.size = 27)
    (h0 : a.tmps.getD 0 undef = .slice (some ⟨b, off, none⟩) n c1)
    (h1 : a.tmps.getD 1 undef = .slice (some ⟨b2, off2, none⟩) n c2)
    (h5 : a.tmps.getD 5 undef = .int .i64 (k : Int))
    (hk0 : (0 : Int) ≤ (k : Int)) (hk1 : (k : Int) < (n : Int))
    (ix1 : ∀ wx, (Instr.indexAt 23 (.slice (some ⟨b, off, none⟩) n c1) (.int .i64 (k : Int))).run Try.prog wx = .ok (.pointer (some ⟨b, off + 111 * k, none⟩)) wx) (ix2 : ∀ wx, (Instr.indexAt 23 (.slice (some ⟨b2, off2, none⟩) n c2) (.int .i64 (k : Int))).run Try.prog wx = .ok (.pointer (some ⟨b2, off2 + 111 * k, none⟩)) wx)
    (L1 : ∀ wx, Below w.heap.size w wx → (Instr.loadAt 39 (.pointer (some ⟨b, off + 111 * k, none⟩))).run Try.prog wx = .ok (.agg x.c) wx) (L2 : ∀ wx, Below w.heap.size w wx → (Instr.loadAt 39 (.pointer (some ⟨b2, off2 + 111 * k, none⟩))).run Try.prog wx = .ok (.agg y.c) wx)
    (C1 : ∀ wx, Below w.heap.size w wx → Calls Try.prog 18 #[.agg x.c, .agg y.c] wx fun e w' => e = .returned (.bool r) ∧ Below w.heap.size w w')
    (h : ∀ (a' : Act) (w' : World), Below w.heap.size w w' → a' = ((((((((((a).put (some 17) (.slice (some ⟨b, off, none⟩) n c1)).put (some 18) (.int .i64 (k : Int))).put (some 19) (.pointer (some ⟨b, off + 111 * k, none⟩))).put (some 20) (.agg x.c)).put (some 21) (.slice (some ⟨b2, off2, none⟩) n c2)).put (some 22) (.int .i64 (k : Int))).put (some 23) (.pointer (some ⟨b2, off2 + 111 * k, none⟩))).put (some 24) (.agg y.c)).put (some 25) (.bool r)).put (some 26) (.bool (!r)) → Q .normal a' w') :
    (Code.region 6 ops15 true).wp Try.prog Q a w := by
  refine wp_region_noPanic ?_
  refine wp_region_held_drew (S := fun w' => Below w.heap.size w w') (by kernel_rfl) ((Below.refl _ _).drew) (fun hHeld => ?_)
  refine wpAnyH_take (i := 0) (oi := { dst := some 17, op := Op.move (Operand.tmp 0), type := 23, pos := "ref.go:148", after := #[], guard := none }) (v := .slice (some ⟨b, off, none⟩) n c1) rfl (by kernel_rfl) (by kernel_rfl) (by kernel_rfl) (fun _ _ _ h => h) (Or.inl ⟨by rfl, fun w1 hw => by go_simp⟩) hHeld ?_
  obtain ⟨a1, e1⟩ : ∃ act, act = a.put (some 17) (.slice (some ⟨b, off, none⟩) n c1) := ⟨_, rfl⟩
  rw [← e1] at h ⊢
  have z1 : a1.tmps.size = 27 := by rw [e1, put_size]; exact hsz
  clear h0
  replace h1 : a1.tmps.getD 1 undef = .slice (some ⟨b2, off2, none⟩) n c2 := by rw [e1, put_ne _ _ _ _ (by decide)]; exact h1
  replace h5 : a1.tmps.getD 5 undef = .int .i64 (k : Int) := by rw [e1, put_ne _ _ _ _ (by decide)]; exact h5
  have t17 : a1.tmps.getD 17 undef = .slice (some ⟨b, off, none⟩) n c1 := by rw [e1]; exact put_same _ _ _ (by omega)
  clear e1 hsz
  refine wpAnyH_take (i := 1) (oi := { dst := some 18, op := Op.move (Operand.tmp 5), type := 3, pos := "ref.go:148", after := #[], guard := none }) (v := .int .i64 (k : Int)) rfl (by kernel_rfl) (by kernel_rfl) (by kernel_rfl) (fun _ _ _ h => h) (Or.inl ⟨by rfl, fun w1 hw => by go_simp⟩) hHeld ?_
  obtain ⟨a2, e2⟩ : ∃ act, act = a1.put (some 18) (.int .i64 (k : Int)) := ⟨_, rfl⟩
  rw [← e2] at h ⊢
  have z2 : a2.tmps.size = 27 := by rw [e2, put_size]; exact z1
  replace h1 : a2.tmps.getD 1 undef = .slice (some ⟨b2, off2, none⟩) n c2 := by rw [e2, put_ne _ _ _ _ (by decide)]; exact h1
  replace h5 : a2.tmps.getD 5 undef = .int .i64 (k : Int) := by rw [e2, put_ne _ _ _ _ (by decide)]; exact h5
  replace t17 : a2.tmps.getD 17 undef = .slice (some ⟨b, off, none⟩) n c1 := by rw [e2, put_ne _ _ _ _ (by decide)]; exact t17
  have t18 : a2.tmps.getD 18 undef = .int .i64 (k : Int) := by rw [e2]; exact put_same _ _ _ (by omega)
  clear e2 z1
  refine wpAnyH_take (i := 2) (oi := { dst := some 19, op := Op.indexAddr 23 (Operand.tmp 17) (Operand.tmp 18), type := 0, pos := "ref.go:148", after := #[{ on := 0, ground := Ground.data }, { on := 1, ground := Ground.data }], guard := none }) (v := .pointer (some ⟨b, off + 111 * k, none⟩)) rfl (by kernel_rfl) (by kernel_rfl) (by kernel_rfl) (fun _ _ _ h => h) (Or.inl ⟨by rfl, fun w1 hw => by go_simp⟩) hHeld ?_
  obtain ⟨a3, e3⟩ : ∃ act, act = a2.put (some 19) (.pointer (some ⟨b, off + 111 * k, none⟩)) := ⟨_, rfl⟩
  rw [← e3] at h ⊢
  have z3 : a3.tmps.size = 27 := by rw [e3, put_size]; exact z2
  replace h1 : a3.tmps.getD 1 undef = .slice (some ⟨b2, off2, none⟩) n c2 := by rw [e3, put_ne _ _ _ _ (by decide)]; exact h1
  replace h5 : a3.tmps.getD 5 undef = .int .i64 (k : Int) := by rw [e3, put_ne _ _ _ _ (by decide)]; exact h5
  clear t17
  clear t18
  have t19 : a3.tmps.getD 19 undef = .pointer (some ⟨b, off + 111 * k, none⟩) := by rw [e3]; exact put_same _ _ _ (by omega)
  clear e3 z2
  refine wpAnyH_take (i := 3) (oi := { dst := some 20, op := Op.load 39 (Operand.tmp 19), type := 39, pos := "ref.go:148", after := #[{ on := 2, ground := Ground.data }], guard := none }) (v := .agg x.c) rfl (by kernel_rfl) (by kernel_rfl) (by kernel_rfl) (fun _ _ _ h => h) (Or.inl ⟨by rfl, fun w1 hw => by exact exec_load rfl (by first | exact t19 | rfl) (L1 _ hw)⟩) hHeld ?_
  obtain ⟨a4, e4⟩ : ∃ act, act = a3.put (some 20) (.agg x.c) := ⟨_, rfl⟩
  rw [← e4] at h ⊢
  have z4 : a4.tmps.size = 27 := by rw [e4, put_size]; exact z3
  replace h1 : a4.tmps.getD 1 undef = .slice (some ⟨b2, off2, none⟩) n c2 := by rw [e4, put_ne _ _ _ _ (by decide)]; exact h1
  replace h5 : a4.tmps.getD 5 undef = .int .i64 (k : Int) := by rw [e4, put_ne _ _ _ _ (by decide)]; exact h5
  clear t19
  have t20 : a4.tmps.getD 20 undef = .agg x.c := by rw [e4]; exact put_same _ _ _ (by omega)
  clear e4 z3
  refine wpAnyH_take (i := 4) (oi := { dst := some 21, op := Op.move (Operand.tmp 1), type := 23, pos := "ref.go:148", after := #[], guard := none }) (v := .slice (some ⟨b2, off2, none⟩) n c2) rfl (by kernel_rfl) (by kernel_rfl) (by kernel_rfl) (fun _ _ _ h => h) (Or.inl ⟨by rfl, fun w1 hw => by go_simp⟩) hHeld ?_
  obtain ⟨a5, e5⟩ : ∃ act, act = a4.put (some 21) (.slice (some ⟨b2, off2, none⟩) n c2) := ⟨_, rfl⟩
  rw [← e5] at h ⊢
  have z5 : a5.tmps.size = 27 := by rw [e5, put_size]; exact z4
  clear h1
  replace h5 : a5.tmps.getD 5 undef = .int .i64 (k : Int) := by rw [e5, put_ne _ _ _ _ (by decide)]; exact h5
  replace t20 : a5.tmps.getD 20 undef = .agg x.c := by rw [e5, put_ne _ _ _ _ (by decide)]; exact t20
  have t21 : a5.tmps.getD 21 undef = .slice (some ⟨b2, off2, none⟩) n c2 := by rw [e5]; exact put_same _ _ _ (by omega)
  clear e5 z4
  refine wpAnyH_take (i := 5) (oi := { dst := some 22, op := Op.move (Operand.tmp 5), type := 3, pos := "ref.go:148", after := #[], guard := none }) (v := .int .i64 (k : Int)) rfl (by kernel_rfl) (by kernel_rfl) (by kernel_rfl) (fun _ _ _ h => h) (Or.inl ⟨by rfl, fun w1 hw => by go_simp⟩) hHeld ?_
  obtain ⟨a6, e6⟩ : ∃ act, act = a5.put (some 22) (.int .i64 (k : Int)) := ⟨_, rfl⟩
  rw [← e6] at h ⊢
  have z6 : a6.tmps.size = 27 := by rw [e6, put_size]; exact z5
  clear h5
  replace t20 : a6.tmps.getD 20 undef = .agg x.c := by rw [e6, put_ne _ _ _ _ (by decide)]; exact t20
  replace t21 : a6.tmps.getD 21 undef = .slice (some ⟨b2, off2, none⟩) n c2 := by rw [e6, put_ne _ _ _ _ (by decide)]; exact t21
  have t22 : a6.tmps.getD 22 undef = .int .i64 (k : Int) := by rw [e6]; exact put_same _ _ _ (by omega)
  clear e6 z5
  refine wpAnyH_take (i := 6) (oi := { dst := some 23, op := Op.indexAddr 23 (Operand.tmp 21) (Operand.tmp 22), type := 0, pos := "ref.go:148", after := #[{ on := 4, ground := Ground.data }, { on := 5, ground := Ground.data }], guard := none }) (v := .pointer (some ⟨b2, off2 + 111 * k, none⟩)) rfl (by kernel_rfl) (by kernel_rfl) (by kernel_rfl) (fun _ _ _ h => h) (Or.inl ⟨by rfl, fun w1 hw => by go_simp⟩) hHeld ?_
  obtain ⟨a7, e7⟩ : ∃ act, act = a6.put (some 23) (.pointer (some ⟨b2, off2 + 111 * k, none⟩)) := ⟨_, rfl⟩
  rw [← e7] at h ⊢
  have z7 : a7.tmps.size = 27 := by rw [e7, put_size]; exact z6
  replace t20 : a7.tmps.getD 20 undef = .agg x.c := by rw [e7, put_ne _ _ _ _ (by decide)]; exact t20
  clear t21
  clear t22
  have t23 : a7.tmps.getD 23 undef = .pointer (some ⟨b2, off2 + 111 * k, none⟩) := by rw [e7]; exact put_same _ _ _ (by omega)
  clear e7 z6
  refine wpAnyH_take (i := 7) (oi := { dst := some 24, op := Op.load 39 (Operand.tmp 23), type := 39, pos := "ref.go:148", after := #[{ on := 6, ground := Ground.data }], guard := none }) (v := .agg y.c) rfl (by kernel_rfl) (by kernel_rfl) (by kernel_rfl) (fun _ _ _ h => h) (Or.inl ⟨by rfl, fun w1 hw => by exact exec_load rfl (by first | exact t23 | rfl) (L2 _ hw)⟩) hHeld ?_
  obtain ⟨a8, e8⟩ : ∃ act, act = a7.put (some 24) (.agg y.c) := ⟨_, rfl⟩
  rw [← e8] at h ⊢
  have z8 : a8.tmps.size = 27 := by rw [e8, put_size]; exact z7
  replace t20 : a8.tmps.getD 20 undef = .agg x.c := by rw [e8, put_ne _ _ _ _ (by decide)]; exact t20
  clear t23
  have t24 : a8.tmps.getD 24 undef = .agg y.c := by rw [e8]; exact put_same _ _ _ (by omega)
  clear e8 z7
  refine wpAnyH_ready (rs := [8]) (by kernel_rfl) (by simp) ?_
  refine AllReadyH.cons (o := { dst := some 25, op := Op.call { callee := Callee.value (Operand.func 18), args := #[Operand.tmp 20, Operand.tmp 24], argTypes := #[39, 39] }, type := 4, pos := "ref.go:148", after := #[{ on := 3, ground := Ground.data }, { on := 7, ground := Ground.data }], guard := none }) rfl (fun K hK => ?_) AllReadyH.nil
  rw [if_pos (by rfl)]
  go_simp
  refine (C1 _ hHeld).mono ?_
  rintro e x9 ⟨rfl, bx9⟩
  try go_wp2_with fail
  refine hK.out _ _ (bx9) (fun hHeld => ?_)
  clear hK K
  change wpAnyH _ _ _ _ _ _ _ (a8.put (some 25) (.bool r)) _
  obtain ⟨a9, e9⟩ : ∃ act, act = a8.put (some 25) (.bool r) := ⟨_, rfl⟩
  rw [← e9] at h ⊢
  have z9 : a9.tmps.size = 27 := by rw [e9, put_size]; exact z8
  clear t20
  clear t24
  have t25 : a9.tmps.getD 25 undef = .bool r := by rw [e9]; exact put_same _ _ _ (by omega)
  clear e9 z8
  refine wpAnyH_take (i := 9) (oi := { dst := some 26, op := Op.unOp UnOp.not 4 (Operand.tmp 25), type := 4, pos := "ref.go:148", after := #[{ on := 8, ground := Ground.data }], guard := none }) (v := .bool (!r)) rfl (by kernel_rfl) (by kernel_rfl) (by kernel_rfl) (fun _ _ _ h => h) (Or.inl ⟨by rfl, fun w1 hw => by go_simp⟩) hHeld ?_
  obtain ⟨a10, e10⟩ : ∃ act, act = a9.put (some 26) (.bool (!r)) := ⟨_, rfl⟩
  rw [← e10] at h ⊢
  have z10 : a10.tmps.size = 27 := by rw [e10, put_size]; exact z9
  clear t25
  clear e10 z9
  exact wpAnyH_done (by kernel_rfl) (NoPanic.normal (h _ _ (hHeld) rfl)) _
def ops12 : Array Oper := #[{ dst := some 16, op := Op.move (Operand.tmp 0), type := 22, pos := "slices.go:25", after := #[], guard := none }, { dst := some 17, op := Op.move (Operand.tmp 5), type := 3, pos := "slices.go:25", after := #[], guard := none }, { dst := some 18, op := Op.indexAddr 22 (Operand.tmp 16) (Operand.tmp 17), type := 0, pos := "slices.go:25", after := #[{ on := 0, ground := Ground.data }, { on := 1, ground := Ground.data }], guard := none }, { dst := some 19, op := Op.load 29 (Operand.tmp 18), type := 29, pos := "slices.go:25", after := #[{ on := 2, ground := Ground.data }], guard := none }, { dst := some 20, op := Op.move (Operand.tmp 1), type := 22, pos := "slices.go:25", after := #[], guard := none }, { dst := some 21, op := Op.move (Operand.tmp 5), type := 3, pos := "slices.go:25", after := #[], guard := none }, { dst := some 22, op := Op.indexAddr 22 (Operand.tmp 20) (Operand.tmp 21), type := 0, pos := "slices.go:25", after := #[{ on := 4, ground := Ground.data }, { on := 5, ground := Ground.data }], guard := none }, { dst := some 23, op := Op.load 29 (Operand.tmp 22), type := 29, pos := "slices.go:25", after := #[{ on := 6, ground := Ground.data }], guard := none }, { dst := some 24, op := Op.binOp BinOp.neq 29 (Operand.tmp 19) (Operand.tmp 23) 29, type := 4, pos := "slices.go:25", after := #[{ on := 3, ground := Ground.data }, { on := 7, ground := Ground.data }], guard := none }]
theorem hashes12 (b off c1 b2 off2 c2 n k : Nat) (x y : List UInt8) (r : Bool) (a : Act) (w : World) (Q : Exit → Act → World → Prop) (hsz : a.tmps.size = 26)
    (h0 : a.tmps.getD 0 undef = .slice (some ⟨b, off, none⟩) n c1)
    (h1 : a.tmps.getD 1 undef = .slice (some ⟨b2, off2, none⟩) n c2)
    (h5 : a.tmps.getD 5 undef = .int .i64 (k : Int))
    (hk0 : (0 : Int) ≤ (k : Int)) (hk1 : (k : Int) < (n : Int))
    (ix1 : ∀ wx, (Instr.indexAt 22 (.slice (some ⟨b, off, none⟩) n c1) (.int .i64 (k : Int))).run Try.prog wx = .ok (.pointer (some ⟨b, off + 32 * k, none⟩)) wx) (ix2 : ∀ wx, (Instr.indexAt 22 (.slice (some ⟨b2, off2, none⟩) n c2) (.int .i64 (k : Int))).run Try.prog wx = .ok (.pointer (some ⟨b2, off2 + 32 * k, none⟩)) wx)
    (L1 : ∀ wx, Below w.heap.size w wx → (Instr.loadAt 29 (.pointer (some ⟨b, off + 32 * k, none⟩))).run Try.prog wx = .ok (.agg (bs x)) wx) (L2 : ∀ wx, Below w.heap.size w wx → (Instr.loadAt 29 (.pointer (some ⟨b2, off2 + 32 * k, none⟩))).run Try.prog wx = .ok (.agg (bs y)) wx)
    (HQ : ∀ wx, (Op.equalIn 10000 29 (.agg (bs x)) (.agg (bs y))).run Try.prog wx = .ok r wx)
    (h : ∀ (a' : Act) (w' : World), Below w.heap.size w w' → a' = (((((((((a).put (some 16) (.slice (some ⟨b, off, none⟩) n c1)).put (some 17) (.int .i64 (k : Int))).put (some 18) (.pointer (some ⟨b, off + 32 * k, none⟩))).put (some 19) (.agg (bs x))).put (some 20) (.slice (some ⟨b2, off2, none⟩) n c2)).put (some 21) (.int .i64 (k : Int))).put (some 22) (.pointer (some ⟨b2, off2 + 32 * k, none⟩))).put (some 23) (.agg (bs y))).put (some 24) (.bool (!r)) → Q .normal a' w') :
    (Code.region 6 ops12 true).wp Try.prog Q a w := by
  refine wp_region_noPanic ?_
  refine wp_region_held_drew (S := fun w' => Below w.heap.size w w') (by kernel_rfl) ((Below.refl _ _).drew) (fun hHeld => ?_)
  refine wpAnyH_take (i := 0) (oi := { dst := some 16, op := Op.move (Operand.tmp 0), type := 22, pos := "slices.go:25", after := #[], guard := none }) (v := .slice (some ⟨b, off, none⟩) n c1) rfl (by kernel_rfl) (by kernel_rfl) (by kernel_rfl) (fun _ _ _ h => h) (Or.inl ⟨by rfl, fun w1 hw => by go_simp⟩) hHeld ?_
  obtain ⟨a1, e1⟩ : ∃ act, act = a.put (some 16) (.slice (some ⟨b, off, none⟩) n c1) := ⟨_, rfl⟩
  rw [← e1] at h ⊢
  have z1 : a1.tmps.size = 26 := by rw [e1, put_size]; exact hsz
  clear h0
  replace h1 : a1.tmps.getD 1 undef = .slice (some ⟨b2, off2, none⟩) n c2 := by rw [e1, put_ne _ _ _ _ (by decide)]; exact h1
  replace h5 : a1.tmps.getD 5 undef = .int .i64 (k : Int) := by rw [e1, put_ne _ _ _ _ (by decide)]; exact h5
  have t16 : a1.tmps.getD 16 undef = .slice (some ⟨b, off, none⟩) n c1 := by rw [e1]; exact put_same _ _ _ (by omega)
  clear e1 hsz
  refine wpAnyH_take (i := 1) (oi := { dst := some 17, op := Op.move (Operand.tmp 5), type := 3, pos := "slices.go:25", after := #[], guard := none }) (v := .int .i64 (k : Int)) rfl (by kernel_rfl) (by kernel_rfl) (by kernel_rfl) (fun _ _ _ h => h) (Or.inl ⟨by rfl, fun w1 hw => by go_simp⟩) hHeld ?_
  obtain ⟨a2, e2⟩ : ∃ act, act = a1.put (some 17) (.int .i64 (k : Int)) := ⟨_, rfl⟩
  rw [← e2] at h ⊢
  have z2 : a2.tmps.size = 26 := by rw [e2, put_size]; exact z1
  replace h1 : a2.tmps.getD 1 undef = .slice (some ⟨b2, off2, none⟩) n c2 := by rw [e2, put_ne _ _ _ _ (by decide)]; exact h1
  replace h5 : a2.tmps.getD 5 undef = .int .i64 (k : Int) := by rw [e2, put_ne _ _ _ _ (by decide)]; exact h5
  replace t16 : a2.tmps.getD 16 undef = .slice (some ⟨b, off, none⟩) n c1 := by rw [e2, put_ne _ _ _ _ (by decide)]; exact t16
  have t17 : a2.tmps.getD 17 undef = .int .i64 (k : Int) := by rw [e2]; exact put_same _ _ _ (by omega)
  clear e2 z1
  refine wpAnyH_take (i := 2) (oi := { dst := some 18, op := Op.indexAddr 22 (Operand.tmp 16) (Operand.tmp 17), type := 0, pos := "slices.go:25", after := #[{ on := 0, ground := Ground.data }, { on := 1, ground := Ground.data }], guard := none }) (v := .pointer (some ⟨b, off + 32 * k, none⟩)) rfl (by kernel_rfl) (by kernel_rfl) (by kernel_rfl) (fun _ _ _ h => h) (Or.inl ⟨by rfl, fun w1 hw => by go_simp⟩) hHeld ?_
  obtain ⟨a3, e3⟩ : ∃ act, act = a2.put (some 18) (.pointer (some ⟨b, off + 32 * k, none⟩)) := ⟨_, rfl⟩
  rw [← e3] at h ⊢
  have z3 : a3.tmps.size = 26 := by rw [e3, put_size]; exact z2
  replace h1 : a3.tmps.getD 1 undef = .slice (some ⟨b2, off2, none⟩) n c2 := by rw [e3, put_ne _ _ _ _ (by decide)]; exact h1
  replace h5 : a3.tmps.getD 5 undef = .int .i64 (k : Int) := by rw [e3, put_ne _ _ _ _ (by decide)]; exact h5
  clear t16
  clear t17
  have t18 : a3.tmps.getD 18 undef = .pointer (some ⟨b, off + 32 * k, none⟩) := by rw [e3]; exact put_same _ _ _ (by omega)
  clear e3 z2
  refine wpAnyH_take (i := 3) (oi := { dst := some 19, op := Op.load 29 (Operand.tmp 18), type := 29, pos := "slices.go:25", after := #[{ on := 2, ground := Ground.data }], guard := none }) (v := .agg (bs x)) rfl (by kernel_rfl) (by kernel_rfl) (by kernel_rfl) (fun _ _ _ h => h) (Or.inl ⟨by rfl, fun w1 hw => by exact exec_load rfl (by first | exact t18 | rfl) (L1 _ hw)⟩) hHeld ?_
  obtain ⟨a4, e4⟩ : ∃ act, act = a3.put (some 19) (.agg (bs x)) := ⟨_, rfl⟩
  rw [← e4] at h ⊢
  have z4 : a4.tmps.size = 26 := by rw [e4, put_size]; exact z3
  replace h1 : a4.tmps.getD 1 undef = .slice (some ⟨b2, off2, none⟩) n c2 := by rw [e4, put_ne _ _ _ _ (by decide)]; exact h1
  replace h5 : a4.tmps.getD 5 undef = .int .i64 (k : Int) := by rw [e4, put_ne _ _ _ _ (by decide)]; exact h5
  clear t18
  have t19 : a4.tmps.getD 19 undef = .agg (bs x) := by rw [e4]; exact put_same _ _ _ (by omega)
  clear e4 z3
  refine wpAnyH_take (i := 4) (oi := { dst := some 20, op := Op.move (Operand.tmp 1), type := 22, pos := "slices.go:25", after := #[], guard := none }) (v := .slice (some ⟨b2, off2, none⟩) n c2) rfl (by kernel_rfl) (by kernel_rfl) (by kernel_rfl) (fun _ _ _ h => h) (Or.inl ⟨by rfl, fun w1 hw => by go_simp⟩) hHeld ?_
  obtain ⟨a5, e5⟩ : ∃ act, act = a4.put (some 20) (.slice (some ⟨b2, off2, none⟩) n c2) := ⟨_, rfl⟩
  rw [← e5] at h ⊢
  have z5 : a5.tmps.size = 26 := by rw [e5, put_size]; exact z4
  clear h1
  replace h5 : a5.tmps.getD 5 undef = .int .i64 (k : Int) := by rw [e5, put_ne _ _ _ _ (by decide)]; exact h5
  replace t19 : a5.tmps.getD 19 undef = .agg (bs x) := by rw [e5, put_ne _ _ _ _ (by decide)]; exact t19
  have t20 : a5.tmps.getD 20 undef = .slice (some ⟨b2, off2, none⟩) n c2 := by rw [e5]; exact put_same _ _ _ (by omega)
  clear e5 z4
  refine wpAnyH_take (i := 5) (oi := { dst := some 21, op := Op.move (Operand.tmp 5), type := 3, pos := "slices.go:25", after := #[], guard := none }) (v := .int .i64 (k : Int)) rfl (by kernel_rfl) (by kernel_rfl) (by kernel_rfl) (fun _ _ _ h => h) (Or.inl ⟨by rfl, fun w1 hw => by go_simp⟩) hHeld ?_
  obtain ⟨a6, e6⟩ : ∃ act, act = a5.put (some 21) (.int .i64 (k : Int)) := ⟨_, rfl⟩
  rw [← e6] at h ⊢
  have z6 : a6.tmps.size = 26 := by rw [e6, put_size]; exact z5
  clear h5
  replace t19 : a6.tmps.getD 19 undef = .agg (bs x) := by rw [e6, put_ne _ _ _ _ (by decide)]; exact t19
  replace t20 : a6.tmps.getD 20 undef = .slice (some ⟨b2, off2, none⟩) n c2 := by rw [e6, put_ne _ _ _ _ (by decide)]; exact t20
  have t21 : a6.tmps.getD 21 undef = .int .i64 (k : Int) := by rw [e6]; exact put_same _ _ _ (by omega)
  clear e6 z5
  refine wpAnyH_take (i := 6) (oi := { dst := some 22, op := Op.indexAddr 22 (Operand.tmp 20) (Operand.tmp 21), type := 0, pos := "slices.go:25", after := #[{ on := 4, ground := Ground.data }, { on := 5, ground := Ground.data }], guard := none }) (v := .pointer (some ⟨b2, off2 + 32 * k, none⟩)) rfl (by kernel_rfl) (by kernel_rfl) (by kernel_rfl) (fun _ _ _ h => h) (Or.inl ⟨by rfl, fun w1 hw => by go_simp⟩) hHeld ?_
  obtain ⟨a7, e7⟩ : ∃ act, act = a6.put (some 22) (.pointer (some ⟨b2, off2 + 32 * k, none⟩)) := ⟨_, rfl⟩
  rw [← e7] at h ⊢
  have z7 : a7.tmps.size = 26 := by rw [e7, put_size]; exact z6
  replace t19 : a7.tmps.getD 19 undef = .agg (bs x) := by rw [e7, put_ne _ _ _ _ (by decide)]; exact t19
  clear t20
  clear t21
  have t22 : a7.tmps.getD 22 undef = .pointer (some ⟨b2, off2 + 32 * k, none⟩) := by rw [e7]; exact put_same _ _ _ (by omega)
  clear e7 z6
  refine wpAnyH_take (i := 7) (oi := { dst := some 23, op := Op.load 29 (Operand.tmp 22), type := 29, pos := "slices.go:25", after := #[{ on := 6, ground := Ground.data }], guard := none }) (v := .agg (bs y)) rfl (by kernel_rfl) (by kernel_rfl) (by kernel_rfl) (fun _ _ _ h => h) (Or.inl ⟨by rfl, fun w1 hw => by exact exec_load rfl (by first | exact t22 | rfl) (L2 _ hw)⟩) hHeld ?_
  obtain ⟨a8, e8⟩ : ∃ act, act = a7.put (some 23) (.agg (bs y)) := ⟨_, rfl⟩
  rw [← e8] at h ⊢
  have z8 : a8.tmps.size = 26 := by rw [e8, put_size]; exact z7
  replace t19 : a8.tmps.getD 19 undef = .agg (bs x) := by rw [e8, put_ne _ _ _ _ (by decide)]; exact t19
  clear t22
  have t23 : a8.tmps.getD 23 undef = .agg (bs y) := by rw [e8]; exact put_same _ _ _ (by omega)
  clear e8 z7
  refine wpAnyH_take (i := 8) (oi := { dst := some 24, op := Op.binOp BinOp.neq 29 (Operand.tmp 19) (Operand.tmp 23) 29, type := 4, pos := "slices.go:25", after := #[{ on := 3, ground := Ground.data }, { on := 7, ground := Ground.data }], guard := none }) (v := .bool (!r)) rfl (by kernel_rfl) (by kernel_rfl) (by kernel_rfl) (fun _ _ _ h => h) (Or.inl ⟨by rfl, fun w1 hw => by go_simp⟩) hHeld ?_
  obtain ⟨a9, e9⟩ : ∃ act, act = a8.put (some 24) (.bool (!r)) := ⟨_, rfl⟩
  rw [← e9] at h ⊢
  have z9 : a9.tmps.size = 26 := by rw [e9, put_size]; exact z8
  clear t19
  clear t23
  clear e9 z8
  exact wpAnyH_done (by kernel_rfl) (NoPanic.normal (h _ _ (hHeld) rfl)) _
end Go.Proofs.Ythfbolmfkilkjaa
