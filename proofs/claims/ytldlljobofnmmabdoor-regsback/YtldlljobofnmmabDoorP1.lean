import Derived.Test.YtldlljobofnmmabDoorP0
import Derived.Test.YtldlljobofnmmabDoorRla
import Derived.Great.BuildSlice
import Derived.Test.YtldlljobofnmmabDoorRgs
namespace Go.Proofs.YtldlljobofnmmabDoor
open Go.RowKit Go.Maps Go.Sort Go.Shelf
set_option linter.unusedVariables false
set_option linter.unusedSimpArgs false

theorem nodup_len {α : Type} [DecidableEq α] : ∀ {l l' : List α}, l.Nodup → (∀ x ∈ l, x ∈ l') → l.length ≤ l'.length
  | [], l', _, _ => Nat.zero_le _
  | x :: t, l', hn, h => by
    rw [List.nodup_cons] at hn
    have hx := h x (by simp)
    have ih := nodup_len (l := t) (l' := l'.erase x) hn.2 (fun y hy => (List.mem_erase_of_ne (fun e => hn.1 (by rw [← e]; exact hy))).2 (h y (by simp [hy])))
    rw [List.length_erase_of_mem hx] at ih
    have := List.length_pos_of_mem hx
    simp only [List.length_cons]
    omega
theorem key_case {w : World} {base : Nat} {s : Rs} (m : RgM w base s) (o : IdK) : ∃ b, ((M.look s.K o).map (·.1) = none ∧ keyL s.K o = []) ∨ ((M.look s.K o).map (·.1) = some b ∧ M.MapAt w b tx txOk (entS (keyL s.K o))) := by
  unfold keyL
  cases h : M.look s.K o with
  | none => exact ⟨0, .inl ⟨rfl, rfl⟩⟩
  | some q => exact ⟨q.1, .inr ⟨rfl, m.kr _ (M.look_mem h)⟩⟩
/-- The keys of an object, by what lies at its places. -/
theorem keyL_mem {w : World} {base : Nat} {s : Rs} (m : RgM w base s) (kk : KeysOk s.K s.P) (o : IdK) (k : ByteArray) : k ∈ keyL s.K o ↔ liOf s.P ⟨o, k, zId⟩ ≠ [] := by
  have h1 : k ∈ keyL s.K o ↔ KHas s.K o k := by
    unfold keyL
    cases h : M.look s.K o with
    | none =>
      constructor
      · intro h2; cases h2
      · intro h2; exact absurd h2 (khas_no m.keys h k)
    | some q => exact (khas_of m.keys (M.look_mem h) k).symm
  rw [h1, kk.mem]
  unfold liOf
  cases h : M.look s.P ⟨o, k, zId⟩ with
  | none => simp
  | some q =>
    have := (m.en _ (M.look_mem h)).2.1
    simp only [Option.map_some, Option.getD_some, Option.isSome_some, true_iff]
    exact this
theorem keyL_nodup {w : World} {base : Nat} {s : Rs} (m : RgM w base s) (o : IdK) : (keyL s.K o).Nodup := by
  obtain ⟨b, ⟨_, h⟩ | ⟨_, h⟩⟩ := key_case m o
  · rw [h]; exact List.nodup_nil
  · have := h.2.1
    have e1 : (entS (keyL s.K o)).map (·.1) = keyL s.K o := by simp [entS, M.onV, Function.comp_def]
    rwa [e1] at this
theorem keyL_len {w : World} {base : Nat} {s : Rs} (m : RgM w base s) (kk : KeysOk s.K s.P) (o : IdK) : (keyL s.K o).length ≤ s.P.length := by
  have h1 : ((keyL s.K o).map (fun k => (⟨o, k, zId⟩ : PlK))).Nodup := (keyL_nodup m o).map (f := fun k => (⟨o, k, zId⟩ : PlK)) (fun a b h e => h (by injection e))
  have h2 : ∀ q ∈ (keyL s.K o).map (fun k => (⟨o, k, zId⟩ : PlK)), q ∈ s.P.map (·.1) := fun q hq => by
    obtain ⟨k, hk, rfl⟩ := List.mem_map.1 hq
    have := (keyL_mem m kk o k).1 hk
    unfold liOf at this
    cases h : M.look s.P ⟨o, k, zId⟩ with
    | none => rw [h] at this; exact absurd rfl this
    | some v => exact List.mem_map.2 ⟨_, M.look_mem h, rfl⟩
  have := nodup_len h1 h2
  simpa using this
/-- Two Regs that tell the same have the same keys. -/
theorem srt_same {w w' : World} {b b' : Nat} {s s' : Rs} (m : RgM w b s) (kk : KeysOk s.K s.P) (m' : RgM w' b' s') (kk' : KeysOk s'.K s'.P) (h : ∀ q, liOf s.P q = liOf s'.P q) (o : IdK) : srtT (keyL s.K o) = srtT (keyL s'.K o) := by
  refine srtT_perm ((List.perm_ext_iff_of_nodup (keyL_nodup m o) (keyL_nodup m' o)).2 fun k => ?_)
  rw [keyL_mem m kk, keyL_mem m' kk', h]
set_option maxRecDepth 100000 in
set_option maxHeartbeats 2000000 in
/-- Keys. -/
theorem keys_any {w : World} {base : Nat} {s : Rs} (m : RgM w base s) {o : IdK} (ho : o.ok) (hl : (keyL s.K o).length ≤ 8000000000000) :
    Calls Tryd.prog 25 #[.pointer (some ⟨s.r, 0, none⟩), o.v] w fun e w' => ∃ u, e = .returned u ∧ OwnV w' w.heap.size 9 u ((srtT (keyL s.K o)).map encStr) ∧ Below w.heap.size w w' := by
  obtain ⟨w1, E1, n1, b1⟩ := box_id w o
  have H1 := hidMk E1
  have bd : Below w1.heap.size w1 w1.drew := (Below.refl w1.heap.size w1).drew
  have m1 := m.below b1
  have LD : Hid (∀ W, Below w1.heap.size w1 W → (Instr.loadAt 67 (.pointer (some ⟨s.r, 0 + 1, none⟩))).run Tryd.prog W = .ok (.map (some s.bk)) W ∧ (Instr.loadAt 32 (.pointer (some ⟨w.heap.size, 0, none⟩))).run Tryd.prog W = .ok o.v W ∧ (Instr.lookup 67 (.map (some s.bk)) o.v false).run Tryd.prog W = .ok (.map ((M.look s.K o).map (·.1))) W) := by
    refine fun W b => ⟨?_, load_id ho ((b.block _ (Array.getElem?_eq_some_iff.1 n1).1).trans n1), (m1.below b).lookK o ho⟩
    have := (m1.below b).c1
    go_simp
  obtain ⟨b, hc⟩ := key_case (m1.below bd) o
  have CK := hidMk (keys_two hc hl (fun W => Below w1.heap.size w1 W) (fun W h => bd.trans h))
  have HB := hidMk b1
  generalize srtT (keyL s.K o) = R at *
  generalize (M.look s.K o).map (·.1) = im at *
  clear m m1 hc E1 n1 b1 hl
  go_enter Tryd.func25, Tryd.ntmps25
  go_upto_region 3 with (first
    | (refine wpList_run rfl (exec_boxE (t := 32) (v := o.v) (u := .pointer (some ⟨w.heap.size, 0, none⟩)) (w2 := w1) rfl rfl H1.out) ?_)
    | fail)
  refine key3 (rb := s.r) (mb := s.bk) (ob := w.heap.size) (y := o) (mv := .map im) (fun W => Below w1.heap.size w1 W) (fun u w' => OwnV w' w1.drew.heap.size 9 u (R.map encStr) ∧ Below w1.drew.heap.size w1.drew w') _ w1 _ rfl rfl rfl bd (fun W h => (LD.out W h).1) (fun W h => (LD.out W h).2.1) (fun W h => (LD.out W h).2.2) CK.out ?_
  intro fv u a' w2 hf ha
  subst ha
  simp only [Act.put, List.setIfInBounds_toArray, List.set_cons_zero, List.set_cons_succ]
  have HF := hidMk hf
  clear hf CK LD H1
  go_wp2
  go_ret
  refine ⟨u, rfl, ?_, HB.out.trans ((bd.trans HF.out.2).mono HB.out.size)⟩
  have := HF.out.1
  exact ownsRow_base_a this HB.out.size
/-- Texts that lie in memory. -/
theorem OwnV.texts {w : World} {base : Nat} {u : Value} {R : List (List UInt8)} (h : OwnV w base 9 u (R.map encStr)) : ∃ a c, u = .slice a R.length c ∧ Vals w a (R.map encStr) := by
  obtain ⟨a, c, e, _, hv, _⟩ := h.open
  rw [List.length_map] at e
  exact ⟨a, c, e, hv⟩
theorem encStr_eq (l : List UInt8) : encStr l = .string ⟨l.toArray⟩ := rfl
set_option maxRecDepth 100000 in
set_option maxHeartbeats 2000000 in
/-- Two lists of the same texts. -/
theorem same_texts {w : World} {R : List (List UInt8)} (hn : R.length ≤ 9000000000000) {a b : Option Addr} {c d : Nat} (ha : Vals w a (R.map encStr)) (hb : Vals w b (R.map encStr)) :
    Calls Tryd.prog 26 #[.slice a R.length c, .slice b R.length d] w fun e w' => e = .returned (.bool true) ∧ Below w.heap.size w w' := by
  obtain ⟨n, hnn⟩ : ∃ n, R.length = n := ⟨_, rfl⟩
  have hcell : ∀ {p : Option Addr}, Vals w p (R.map encStr) → ∀ i, i < n → ∃ g o, p = some ⟨g, o, none⟩ ∧ ∀ W, Below w.heap.size w W → ∀ t, R[i]? = some t → (Instr.loadAt 9 (.pointer (some ⟨g, o + i, none⟩))).run Tryd.prog W = .ok (.string ⟨t.toArray⟩) W := fun {p} hv i hi => by
    rcases hv with h | ⟨g, o, e, hc⟩
    · have : R = [] := by simpa using h
      rw [this] at hnn
      simp at hnn
      omega
    · refine ⟨g, o, e, fun W bW t ht => ?_⟩
      have h1 := hc i (encStr t) (by rw [List.getElem?_map, ht]; rfl)
      have h2 : W.cell? ⟨g, o + i, none⟩ = some (.string ⟨t.toArray⟩) := (bW.cell (p := ⟨g, o + i, none⟩) (block_lt_of_cell h1)).trans h1
      go_simp
  have HA := hidMk (hcell ha)
  have HB := hidMk (hcell hb)
  have HN := hidMk hnn
  rw [hnn] at hn ⊢
  clear ha hb hcell hnn
  have hne : ((n : Int) != (n : Int)) = false := by simp
  go_enter Tryd.func26, Tryd.ntmps26
  go_wp2
  clear hne
  go_loopw [5] (fun v5 wr => ∃ i : Nat, v5 = .int .i64 (i : Int) ∧ i ≤ n ∧ Hid (Below w.heap.size w wr)) (fun v5 wr => n - (match v5 with | .int _ i => i.toNat | _ => 0))
  case atStart => exact ⟨0, rfl, Nat.zero_le _, Below.refl _ _⟩
  case round =>
    obtain ⟨i, rfl, hin, HI⟩ := hrel
    by_cases hi : i < n
    · obtain ⟨t, ht⟩ : ∃ t, R[i]? = some t := ⟨_, List.getElem?_eq_getElem (by have := HN.out; omega)⟩
      obtain ⟨g, o, rfl, l1⟩ := HA.out i hi
      obtain ⟨g2, o2, rfl, l2⟩ := HB.out i hi
      have bd : Below w.heap.size w wr.drew := HI.out.drew
      have L1 := hidMk (l1 _ bd t ht)
      have L2 := hidMk (l2 _ bd t ht)
      have HD := hidMk bd
      clear l1 l2 ht HI bd
      go_upto_region 6 with fail
      refine smt6 (g := g) (o := o) (n := n) (c := c) (g2 := g2) (o2 := o2) (d := d) (i := i) (s := ⟨t.toArray⟩) _ wr _ rfl rfl rfl rfl hi (by omega) (fun W e => by rw [e]; exact L1.out) (fun W e => by rw [e]; exact L2.out) ?_
      intro a' w2 hf ha
      subst ha
      subst hf
      simp only [Act.put, List.setIfInBounds_toArray, List.set_cons_zero, List.set_cons_succ]
      clear L1 L2
      go_wp2
      rw [show ((i : Int) + 1) = ((i + 1 : Nat) : Int) by omega]
      refine ⟨⟨i + 1, rfl, hi, HD.out⟩, ?_⟩
      show n - ((i + 1 : Nat) : Int).toNat < n - (i : Int).toNat
      omega
    · obtain rfl : i = n := by omega
      go_wp2
      go_ret
      exact ⟨rfl, HI.out⟩
end Go.Proofs.YtldlljobofnmmabDoor

namespace Go.Proofs.YtldlljobofnmmabDoor
open Go.RowKit
set_option linter.unusedVariables false
set_option linter.unusedSimpArgs false

theorem mem_take_succ {α : Type} {L : List α} {i : Nat} {x y : α} (h : L[i]? = some x) : y ∈ L.take (i + 1) ↔ y ∈ L.take i ∨ y = x := by
  rw [List.take_add_one, h]
  simp
set_option maxRecDepth 100000 in
set_option maxHeartbeats 4000000 in
/-- Whether an Id stands in a list. -/
theorem saw_any {w : World} {L : List IdK} (ok : ∀ x ∈ L, x.ok) (hn : L.length ≤ 9000000000000) {a : Option Addr} {c : Nat} (ha : RI.At w a L) {y : IdK} (hy : y.ok) :
    Calls Tryd.prog 21 #[.slice a L.length c, y.v] w fun e w' => e = .returned (.bool (decide (y ∈ L))) ∧ Below w.heap.size w w' := by
  obtain ⟨n, hnn⟩ : ∃ n, L.length = n := ⟨_, rfl⟩
  obtain ⟨w1, E1, n1, b1⟩ := box_id w y
  have H1 := hidMk E1
  have HL := hidMk (And.intro (ha.below b1) (And.intro ok (And.intro hnn (And.intro n1 b1))))
  rw [hnn] at hn ⊢
  obtain ⟨xb, hxb⟩ : ∃ xb, w.heap.size = xb := ⟨_, rfl⟩
  have HXB := hidMk hxb
  rw [hxb] at H1
  clear ha ok hnn E1 n1 b1 hxb
  go_enter Tryd.func21, Tryd.ntmps21
  go_wp2_with (first
    | (refine wpList_run rfl (exec_boxE (t := 32) (v := y.v) (u := .pointer (some ⟨xb, 0, none⟩)) (w2 := w1) rfl rfl H1.out) ?_)
    | fail)
  clear H1
  go_loopw [5] (fun v5 wr => ∃ i : Nat, v5 = .int .i64 (i : Int) ∧ i ≤ n ∧ Hid (Below w1.heap.size w1 wr ∧ ¬ y ∈ L.take i)) (fun v5 wr => n - (match v5 with | .int _ i => i.toNat | _ => 0))
  case atStart => exact ⟨0, rfl, Nat.zero_le _, Below.refl _ _, by simp⟩
  case round =>
    obtain ⟨i, rfl, hin, HI⟩ := hrel
    by_cases hi : i < n
    · obtain ⟨ha, ok, hnn, n1, b1⟩ := HL.out
      obtain ⟨x, hxi⟩ : ∃ x, L[i]? = some x := ⟨_, List.getElem?_eq_getElem (by omega)⟩
      have hx : x.ok := ok x (List.mem_of_getElem? hxi)
      obtain ⟨g, o, rfl, lg, hr⟩ : ∃ g o, a = some ⟨g, o, none⟩ ∧ g < w1.heap.size ∧ w1.rangeAt g (o + 33 * i) x.c := by
        rcases ha with h | ⟨g, o, e, h1, h2⟩
        · rw [h] at hxi; cases hxi
        · exact ⟨g, o, e, h1, h2 i x hxi⟩
      have bd : Below w1.heap.size w1 wr.drew := HI.out.1.drew
      have L1 : Hid ((Instr.loadAt 32 (.pointer (some ⟨g, o + 33 * i, none⟩))).run Tryd.prog wr.drew = .ok x.v wr.drew) := RowT.ld RI_is hx (rangeAt_keep hr (bd.block _ lg))
      have L2 : Hid ((Instr.loadAt 32 (.pointer (some ⟨xb, 0, none⟩))).run Tryd.prog wr.drew = .ok y.v wr.drew) := load_id hy ((bd.block xb (by have := (Array.getElem?_eq_some_iff.1 n1).1; rw [HXB.out] at this; exact this)).trans (by rw [← HXB.out]; exact n1))
      have HM := hidMk (And.intro bd (And.intro HI.out.2 (And.intro hxi (And.intro b1 hnn))))
      have h63 : n ≤ 9223372036854775807 := by omega
      clear hr lg ha ok hnn n1 b1 hxi bd HI
      go_upto_region 4 with fail
      refine saw4 (g := g) (o := o) (n := n) (c := c) (i := i) (xb := xb) (x := x) (y := y) _ wr _ rfl rfl rfl rfl hx hy hi h63 (fun W e => by rw [e]; exact L1.out) (fun W e => by rw [e]; exact L2.out) ?_
      intro a' w2 hf ha
      subst ha
      subst hf
      simp only [Act.put, List.setIfInBounds_toArray, List.set_cons_zero, List.set_cons_succ]
      clear L1 L2
      by_cases hxy : x = y
      · have HXY := hidMk hxy
        rw [show decide (x = y) = true from decide_eq_true hxy]
        clear hxy
        go_wp2
        go_ret
        obtain ⟨bd, h2, hxi, b1, hnn⟩ := HM.out
        refine ⟨?_, b1.trans (bd.mono b1.size)⟩
        rw [decide_eq_true (by rw [← HXY.out]; exact List.mem_of_getElem? hxi)]
        rfl
      · have HXY := hidMk hxy
        rw [show decide (x = y) = false from decide_eq_false hxy]
        clear hxy
        go_wp2
        rw [show ((i : Int) + 1) = ((i + 1 : Nat) : Int) by omega]
        refine ⟨⟨i + 1, rfl, hi, HM.out.1, ?_⟩, ?_⟩
        · rw [mem_take_succ HM.out.2.2.1]
          rintro (h | h)
          · exact HM.out.2.1 h
          · exact HXY.out h.symm
        · show n - ((i + 1 : Nat) : Int).toNat < n - (i : Int).toNat
          omega
    · obtain rfl : i = n := by omega
      go_wp2
      go_ret
      obtain ⟨ha, ok, hnn, n1, b1⟩ := HL.out
      refine ⟨?_, b1.trans (HI.out.1.mono b1.size)⟩
      have := HI.out.2
      rw [List.take_of_length_le (by omega)] at this
      rw [decide_eq_false this]
      rfl
/-- A slot: a place, and its list. -/
structure SlV where
  a : Option Addr
  n : Nat
  c : Nat
def SlV.v (x : SlV) : Value := .slice x.a x.n x.c
/-- Where a place stands. -/
def fndI (S : List (PlK × SlV)) (p : PlK) : Int := match S.findIdx? (fun x => decide (x.1 = p)) with | some i => (i : Int) | none => -1
theorem fnd_none {S : List (PlK × SlV)} {p : PlK} (h : ∀ x ∈ S, x.1 ≠ p) : fndI S p = -1 := by
  unfold fndI
  rw [List.findIdx?_eq_none_iff.2 (fun x hx => by simpa using h x hx)]
theorem fnd_at {S : List (PlK × SlV)} {p : PlK} {i : Nat} {x : PlK × SlV} (hx : S[i]? = some x) (he : x.1 = p) (h : ∀ y ∈ S.take i, y.1 ≠ p) : fndI S p = i := by
  have hi := (List.getElem?_eq_some_iff.1 hx).1
  have : S.findIdx? (fun x => decide (x.1 = p)) = some i := by
    rw [List.findIdx?_eq_some_iff_getElem]
    refine ⟨hi, by rw [(List.getElem?_eq_some_iff.1 hx).2]; simpa using he, fun j hj => ?_⟩
    have := h S[j] (List.mem_take_iff_getElem.2 ⟨j, by omega, rfl⟩)
    simpa using this
  unfold fndI
  rw [this]
end Go.Proofs.YtldlljobofnmmabDoor

namespace Go.Proofs.YtldlljobofnmmabDoor
open Go.RowKit
set_option linter.unusedVariables false
set_option linter.unusedSimpArgs false

theorem two_types {w : World} {j : Nat} {c1 c2 : Array Value} {t1 t2 : TypeId} {f1 f2 : Nat × Nat} (h1 : w.heap[j]? = some (.cells c1 t1 f1)) (h2 : w.heap[j]? = some (.cells c2 t2 f2)) : t1 = t2 := by
  rw [h1] at h2
  injection h2 with h2
  injection h2 with _ h2 _
theorem run_bs1 (T e y : TypeId) (z : Value) (ht : Tryd.prog.underlying T = some (.slice e)) (hi : (Tryd.prog.info? e).map (fun i => (i.zero, i.size, i.bytes)) = some (some z, 1, y)) (hz : z.cells.size = 1) (v : Value) (hc : v.cells = #[v]) (w : World) : (Instr.buildSlice T 1 #[(0, v)]).run Tryd.prog w = .ok (.slice (some ⟨w.heap.size, 0, none⟩) 1 1) (w.alloc (.cells #[v] e)) := by
  obtain ⟨ie, hi, hz0, hs, hby⟩ := info_parts hi
  refine run_buildSlice w T e 1 _ #[v] ie _ ht hi hz0 (by rw [hs]; decide) (by rw [hs]; decide) ?_
  rw [hs]
  have := Go.Great.fill_whole (s := 1) (by decide) [v] ((Array.range (1 * 1)).map (z.cells[· % z.cells.size]!)) (by intro u hu; simp at hu; subst hu; rw [hc]; rfl) (by simp)
  simpa [hc] using this
/-- One value more in a row of one's own. -/
theorem run_pushV (T e y : TypeId) (z : Value) (ht : Tryd.prog.underlying T = some (.slice e)) (hi : (Tryd.prog.info? e).map (fun i => (i.zero, i.size, i.bytes)) = some (some z, 1, y)) (hy : y = 8 ∨ y = 24) (hz : z.cells.size = 1) (u : Value) (hc : u.cells = #[u]) (h1 : u.oneCell' = true)
    {w : World} {B : Nat} {pv : Value} {X : List Value} (own : OwnV w B e pv X) (hB : B ≤ w.heap.size) (hn : X.length + 1 ≤ 2000000000000) :
    ∃ bv w1 pv2 w2, (Instr.buildSlice T 1 #[(0, u)]).run Tryd.prog w = .ok bv w1 ∧ Below w.heap.size w w1 ∧ (Builtin.append_ #[T, T] T #[pv, bv]).run Tryd.prog w1 = .ok pv2 w2 ∧ OwnV w2 B e pv2 (X ++ [u]) ∧ Tch (fun j => pv.ownBlock = some j) w w2 ∧ (pv2.ownBlock = pv.ownBlock ∨ ∀ j, pv2.ownBlock = some j → w.heap.size ≤ j) := by
  have b1 : Below w.heap.size w (w.alloc (.cells #[u] e)) := (Below.refl _ _).alloc (Nat.le_refl _) _
  have v1 : Vals (w.alloc (.cells #[u] e)) (some ⟨w.heap.size, 0, none⟩) [u] := .inr ⟨_, _, rfl, fun j x hj => by
    rw [Nat.zero_add, cell_of_row _ _ _ _ _ _ (heap_alloc_new _ _)]
    simpa using hj⟩
  have e1 := run_bs1 T e y z ht hi hz u hc w
  generalize w.alloc (.cells #[u] e) = w1 at *
  obtain ⟨pv2, w2, e2, o2, g2, q2⟩ := run_appV T e y z ht hi hy hz w1 B T pv X _ [u] 1 (own.below b1) v1 (by intro x hx; rw [List.mem_singleton.1 hx]; exact h1) (by simpa using hn) (Nat.le_trans hB b1.size)
  have t2 : Tch (fun j => pv.ownBlock = some j) w1 w2 := ⟨g2.os, g2.tape, g2.output, g2.size, fun j hj hn => g2.block j hj (fun e => hn e.symm)⟩
  exact ⟨_, w1, pv2, w2, e1, b1, e2, o2, (tch_of b1 _).trans' t2 (fun j _ q => q), q2.imp id (fun q j hj => by rw [q] at hj; injection hj with hj; have := b1.size; omega)⟩
theorem OwnV.form {w : World} {B : Nat} {e : TypeId} {v : Value} {X : List Value} (h : OwnV w B e v X) {i : Nat} (hi : i < X.length) : ∃ bb c, v = .slice (some ⟨bb, 0, none⟩) X.length c := by
  rcases h.2 with ⟨_, hn⟩ | ⟨g, cap, cur, rfl, _⟩
  · omega
  · exact ⟨g, cap, rfl⟩
theorem OwnV.hit {w : World} {B : Nat} {e : TypeId} {v : Value} {X : List Value} (h : OwnV w B e v X) {bb n c : Nat} (ev : v = .slice (some ⟨bb, 0, none⟩) n c) {i : Nat} {u : Value} (hu : X[i]? = some u) : w.cell? ⟨bb, i, none⟩ = some u := by
  obtain ⟨a, cap, e1, _, hv, _⟩ := h.open
  rw [ev] at e1
  injection e1 with e1 _ _
  rcases hv with rfl | ⟨b, off, e2, hc⟩
  · simp at hu
  · rw [e2] at e1
    injection e1 with e1
    injection e1 with e1 e3
    subst e1 e3
    have := hc i u hu
    rwa [Nat.zero_add] at this
theorem ownV_sl {w : World} {B e : Nat} {v : Value} {X : List Value} (h : OwnV w B e v X) : ∃ s : SlV, v = s.v := by
  obtain ⟨a, c, e, _⟩ := h.open
  exact ⟨⟨a, _, c⟩, e⟩
theorem OwnV.monoB {w : World} {B B' e : Nat} {v : Value} {X : List Value} (h : OwnV w B e v X) (hb : B' ≤ B) : OwnV w B' e v X := by
  refine ⟨h.1, ?_⟩
  rcases h.2 with hn | ⟨g, cap, cur, rfl, hbg, rest⟩
  · exact .inl hn
  · exact .inr ⟨g, cap, cur, rfl, Nat.le_trans hb hbg, rest⟩
theorem own_at {w : World} {base : Nat} {u : Value} {L : List EnV} (o : RN.Own w base u L) (ok : ∀ x ∈ L, x.ok) : ∃ a c, u = .slice a L.length c ∧ RN.At w a L := by
  obtain ⟨a, c, e, h, _⟩ := o.lo.open RN_is ok
  exact ⟨a, c, e, h⟩
/-- What told gives: lists of entries, lists of keys. -/
structure TL (W : World) (base : Nat) (ev kv : Value) (E : List (SlV × List EnV)) (K : List (SlV × List (List UInt8))) : Prop where
  e : OwnV W base 44 ev (E.map (·.1.v))
  k : OwnV W base 77 kv (K.map (·.1.v))
  ea : ∀ q ∈ E, RN.Own W base q.1.v q.2 ∧ (∀ x ∈ q.2, x.ok) ∧ q.2.length ≤ 2500000000000
  ka : ∀ q ∈ K, OwnV W base 9 q.1.v (q.2.map encStr) ∧ q.2.length ≤ 9000000000000
/-- The blocks of its lists of entries. -/
def tlE (E : List (SlV × List EnV)) (j : Nat) : Prop := ∃ q ∈ E, q.1.v.ownBlock = some j
section
variable {W W' : World} {base : Nat} {ev kv : Value} {E : List (SlV × List EnV)} {K : List (SlV × List (List UInt8))}
theorem TL.keep {O : Nat → Prop} (h : TL W base ev kv E K) (t : Tch O W W') (h1 : ∀ j c ty, W.heap[j]? = some (.cells c ty (0, 0)) → (ty = 44 ∨ ty = 77 ∨ ty = 9) → ¬ O j) (h2 : ∀ j, tlE E j → ¬ O j) : TL W' base ev kv E K := by
  refine ⟨h.e.keep fun j hj => ?_, h.k.keep fun j hj => ?_, fun q hq => ⟨(h.ea q hq).1.keep fun j hj => ?_, (h.ea q hq).2⟩, fun q hq => ⟨(h.ka q hq).1.keep fun j hj => ?_, (h.ka q hq).2⟩⟩
  · obtain ⟨_, c, hc⟩ := h.e.ge j hj
    exact t.block j (Array.getElem?_eq_some_iff.1 hc).1 (h1 j c _ hc (.inl rfl))
  · obtain ⟨_, c, hc⟩ := h.k.ge j hj
    exact t.block j (Array.getElem?_eq_some_iff.1 hc).1 (h1 j c _ hc (.inr (.inl rfl)))
  · exact t.block j ((h.ea q hq).1.lt hj) (h2 j ⟨q, hq, hj⟩)
  · obtain ⟨_, c, hc⟩ := (h.ka q hq).1.ge j hj
    exact t.block j (Array.getElem?_eq_some_iff.1 hc).1 (h1 j c _ hc (.inr (.inr rfl)))
theorem TL.below (h : TL W base ev kv E K) (b : Below W.heap.size W W') : TL W' base ev kv E K := h.keep (O := fun _ => False) (tch_of b _) (fun _ _ _ _ _ q => q) (fun _ _ q => q)
theorem infoLE : (Tryd.prog.info? 44).map (fun i => (i.zero, i.size, i.bytes)) = some (some (.slice none 0 0), 1, 24) := by kernel_rfl
theorem infoLS : (Tryd.prog.info? 77).map (fun i => (i.zero, i.size, i.bytes)) = some (some (.slice none 0 0), 1, 24) := by kernel_rfl
/-- The box of told's answer. -/
def TB (tb : Nat) (ev kv : Value) (z : Int) (W : World) : Prop := W.heap[tb]? = some (.cells #[ev, kv, .int .i64 z] 55 (0, 0))
theorem tb_st0 {tb : Nat} {z : Int} {s : SlV} (h : TB tb ev kv z W) (he : ∃ s : SlV, ev = s.v) : ∃ w', (Instr.storeAt 52 (.pointer (some ⟨tb, 0 + 0, none⟩)) s.v).run Tryd.prog W = .ok () w' ∧ TB tb s.v kv z w' ∧ Tch (fun j => j = tb) W w' := by
  obtain ⟨s0, rfl⟩ := he
  have c2 : W.cell? ⟨tb, 0, none⟩ = some (.slice s0.a s0.n s0.c) := (cell_of_row W tb 0 _ _ _ h).trans rfl
  have f2 := frozen_of_row W tb 0 _ _ h
  refine ⟨W.setCell ⟨tb, 0, none⟩ (.slice s.a s.n s.c), ?_, ?_, ⟨rfl, rfl, rfl, by simp [World.setCell], fun j _ hj => Go.heap_setCell_other _ _ _ _ hj⟩⟩
  · unfold SlV.v
    go_simp
  · unfold TB at h ⊢
    obtain ⟨hl2, hv⟩ := Array.getElem?_eq_some_iff.1 h
    simp [World.setCell, hl2, Array.getElem_modify_self, hv, SlV.v]
theorem tb_st1 {tb : Nat} {z : Int} {s : SlV} (h : TB tb ev kv z W) (he : ∃ s : SlV, kv = s.v) : ∃ w', (Instr.storeAt 53 (.pointer (some ⟨tb, 0 + 1, none⟩)) s.v).run Tryd.prog W = .ok () w' ∧ TB tb ev s.v z w' ∧ Tch (fun j => j = tb) W w' := by
  obtain ⟨s0, rfl⟩ := he
  have c2 : W.cell? ⟨tb, 1, none⟩ = some (.slice s0.a s0.n s0.c) := (cell_of_row W tb 1 _ _ _ h).trans rfl
  have f2 := frozen_of_row W tb 1 _ _ h
  refine ⟨W.setCell ⟨tb, 1, none⟩ (.slice s.a s.n s.c), ?_, ?_, ⟨rfl, rfl, rfl, by simp [World.setCell], fun j _ hj => Go.heap_setCell_other _ _ _ _ hj⟩⟩
  · unfold SlV.v
    go_simp
  · unfold TB at h ⊢
    obtain ⟨hl2, hv⟩ := Array.getElem?_eq_some_iff.1 h
    simp [World.setCell, hl2, Array.getElem_modify_self, hv, SlV.v]
theorem tb_st2 {tb : Nat} {z u : Int} (h : TB tb ev kv z W) : ∃ w', (Instr.storeAt 3 (.pointer (some ⟨tb, 0 + 2, none⟩)) (.int .i64 u)).run Tryd.prog W = .ok () w' ∧ TB tb ev kv u w' ∧ Tch (fun j => j = tb) W w' := by
  have c2 : W.cell? ⟨tb, 2, none⟩ = some (.int .i64 z) := (cell_of_row W tb 2 _ _ _ h).trans rfl
  have f2 := frozen_of_row W tb 2 _ _ h
  refine ⟨W.setCell ⟨tb, 2, none⟩ (.int .i64 u), by go_simp, ?_, ⟨rfl, rfl, rfl, by simp [World.setCell], fun j _ hj => Go.heap_setCell_other _ _ _ _ hj⟩⟩
  unfold TB at h ⊢
  obtain ⟨hl2, hv⟩ := Array.getElem?_eq_some_iff.1 h
  simp [World.setCell, hl2, Array.getElem_modify_self, hv]
theorem tb_l0 {tb : Nat} {z : Int} (h : TB tb ev kv z W) (he : ∃ s : SlV, ev = s.v) : (Instr.loadAt 52 (.pointer (some ⟨tb, 0 + 0, none⟩))).run Tryd.prog W = .ok ev W := by
  obtain ⟨s0, rfl⟩ := he
  have c2 : W.cell? ⟨tb, 0, none⟩ = some (.slice s0.a s0.n s0.c) := (cell_of_row W tb 0 _ _ _ h).trans rfl
  unfold SlV.v
  go_simp
theorem tb_l1 {tb : Nat} {z : Int} (h : TB tb ev kv z W) (he : ∃ s : SlV, kv = s.v) : (Instr.loadAt 53 (.pointer (some ⟨tb, 0 + 1, none⟩))).run Tryd.prog W = .ok kv W := by
  obtain ⟨s0, rfl⟩ := he
  have c2 : W.cell? ⟨tb, 1, none⟩ = some (.slice s0.a s0.n s0.c) := (cell_of_row W tb 1 _ _ _ h).trans rfl
  unfold SlV.v
  go_simp
theorem tb_l2 {tb : Nat} {z : Int} (h : TB tb ev kv z W) : (Instr.loadAt 3 (.pointer (some ⟨tb, 0 + 2, none⟩))).run Tryd.prog W = .ok (.int .i64 z) W := by
  have c2 : W.cell? ⟨tb, 2, none⟩ = some (.int .i64 z) := (cell_of_row W tb 2 _ _ _ h).trans rfl
  go_simp
theorem szTl : (Tryd.prog.info? 55).map (·.size) = some 3 := by kernel_rfl
def tlV (ev kv : Value) (z : Int) : Value := .agg #[ev, kv, .int .i64 z]
theorem tb_ld {tb : Nat} {z : Int} (h : TB tb ev kv z W) : (Instr.loadAt 55 (.pointer (some ⟨tb, 0, none⟩))).run Tryd.prog W = .ok (tlV ev kv z) W :=
  run_loadAt_mid (P := Tryd.prog) W tb 0 55 [ev, kv, .int .i64 z] _ (rng_cells (cs := [ev, kv, .int .i64 z]) h) Tryd.underlying55 rfl szTl
theorem tb_store {tb : Nat} {z u : Int} {ev2 kv2 : Value} (h : TB tb ev kv z W) (he : ∃ s : SlV, ev2 = s.v) (hk : ∃ s : SlV, kv2 = s.v) : ∃ w', (Instr.storeAt 55 (.pointer (some ⟨tb, 0, none⟩)) (tlV ev2 kv2 u)).run Tryd.prog W = .ok () w' ∧ TB tb ev2 kv2 u w' ∧ Tch (fun j => j = tb) W w' := by
  obtain ⟨s1, rfl⟩ := he
  obtain ⟨s2, rfl⟩ := hk
  have e2 := run_storeVar_row (P := Tryd.prog) W tb 55 55 #[ev, kv, .int .i64 z] #[s1.v, s2.v, .int .i64 u] h szTl rfl (by simp [SlV.v, Value.oneCell'])
  refine ⟨W.setRow tb #[s1.v, s2.v, .int .i64 u], ?_, setRow_heap W tb _ _ _ _ h, ⟨rfl, rfl, rfl, by simp, fun j _ hj => setRow_other W tb j _ hj⟩⟩
  simp only [Instr.storeAt, Instr.sureAddr, Sem.run_bind, Sem.run_pure, Result.andThen_ok, tlV, e2]
theorem tb_new (W : World) : ∃ w1, (Instr.alloc 55 true (.tuple #[])).run Tryd.prog W = .ok (.pointer (some ⟨W.heap.size, 0, none⟩)) w1 ∧ TB W.heap.size (.slice none 0 0) (.slice none 0 0) 0 w1 ∧ Below W.heap.size W w1 :=
  ⟨W.alloc (.cells #[.slice none 0 0, .slice none 0 0, .int .i64 0] 55), by kernel_rfl, heap_alloc_new _ _, (Below.refl _ _).alloc (Nat.le_refl _) _⟩
theorem TB.below {tb : Nat} {z : Int} (h : TB tb ev kv z W) (b : Below W.heap.size W W') : TB tb ev kv z W' := (b.block _ (Array.getElem?_eq_some_iff.1 h).1).trans h
theorem TB.keep {O : Nat → Prop} {tb : Nat} {z : Int} (h : TB tb ev kv z W) (t : Tch O W W') (hO : ¬ O tb) : TB tb ev kv z W' := (t.block _ (Array.getElem?_eq_some_iff.1 h).1 hO).trans h
end
end Go.Proofs.YtldlljobofnmmabDoor

namespace Go.Proofs.YtldlljobofnmmabDoor
open Go.RowKit
set_option linter.unusedVariables false
set_option linter.unusedSimpArgs false

section
variable {W W' : World} {base : Nat} {ev kv : Value} {E : List (SlV × List EnV)} {K : List (SlV × List (List UInt8))}
/-- A list of entries more. -/
theorem TL.pushE (h : TL W base ev kv E K) (hB : base ≤ W.heap.size) {tb : Nat} (b0 : base ≤ tb) (ht : TB tb ev kv 0 W) {u : Value} {L : List EnV} (hu : RN.Own W base u L) (ok : ∀ x ∈ L, x.ok) (hl : L.length ≤ 2500000000000) (hn : E.length + 1 ≤ 2000000000000) :
    ∃ (sv : Value) (w1 : World) (u2 : Value) (w2 w3 : World), (Instr.buildSlice 52 1 #[(0, u)]).run Tryd.prog W = .ok sv w1 ∧ Below W.heap.size W w1 ∧ (Builtin.append_ #[52, 52] 52 #[ev, sv]).run Tryd.prog w1 = .ok u2 w2 ∧ (∀ (j : Nat) (c : Array Value) (ty : TypeId) (fr : Nat × Nat), W.heap[j]? = some (.cells c ty fr) → ty ≠ 44 → w2.heap[j]? = some (.cells c ty fr)) ∧ (Instr.storeAt 52 (.pointer (some ⟨tb, 0 + 0, none⟩)) u2).run Tryd.prog w2 = .ok () w3 ∧ TB tb u2 kv 0 w3 ∧ ∃ s : SlV, TL w3 base u2 kv (E ++ [(s, L)]) K ∧ Tch (fun j => ev.ownBlock = some j ∨ j = tb) W w3 := by
  obtain ⟨ua, uc, rfl, _⟩ := own_at hu ok
  obtain ⟨sv, w1, u2, w2, E1, b1, E2, o2, t2, _⟩ := run_pushV 52 44 24 (.slice none 0 0) Tryd.underlying52 infoLE (.inr rfl) rfl (.slice ua L.length uc) rfl rfl h.e hB (by rw [List.length_map]; exact hn)
  have ne : ∀ (j : Nat) (c : Array Value) (ty : TypeId) (fr : Nat × Nat), W.heap[j]? = some (.cells c ty fr) → ty ≠ 44 → w2.heap[j]? = some (.cells c ty fr) := fun j c ty fr h1 h2 => (t2.block _ (Array.getElem?_eq_some_iff.1 h1).1 fun e => by
    obtain ⟨_, c, hc⟩ := h.e.ge _ e
    exact h2 (two_types h1 hc)).trans h1
  obtain ⟨s2, rfl⟩ := ownV_sl o2
  obtain ⟨w3, E3, n3, t3⟩ := tb_st0 (s := s2) (ne _ _ _ _ ht (by decide)) (ownV_sl h.e)
  have ht2 := ne _ _ _ _ ht (by decide)
  have nx : ∀ {j : Nat} {c : Array Value} {ty : TypeId} {fr : Nat × Nat}, w2.heap[j]? = some (.cells c ty fr) → ty ≠ 55 → w3.heap[j]? = w2.heap[j]? := fun h1 h2 => t3.block _ (Array.getElem?_eq_some_iff.1 h1).1 fun e => by
    rw [e] at h1
    exact h2 (two_types h1 ht2)
  have nw : ∀ (j : Nat) (c : Array Value) (ty : TypeId), W.heap[j]? = some (.cells c ty (0, 0)) → ty ≠ 44 → ty ≠ 55 → w3.heap[j]? = W.heap[j]? := fun j c ty h1 h2 h3 => by
    have e := ne _ _ _ _ h1 h2
    rw [nx e h3, e, h1]
  have kR : ∀ {v : Value} {M : List EnV}, RN.Own W base v M → RN.Own w3 base v M := fun o => o.keep fun j hj => by
    obtain ⟨_, c, hc⟩ := o.lo.cells hj
    exact nw j c _ hc (by decide) (by decide)
  refine ⟨sv, w1, s2.v, w2, w3, E1, b1, E2, ne, E3, n3, ⟨ua, L.length, uc⟩, ⟨?_, ?_, fun q hq => ?_, fun q hq => ⟨(h.ka q hq).1.keep fun j hj => ?_, (h.ka q hq).2⟩⟩, (t2.mono fun j _ e => Or.inl e).trans' t3 (fun j _ e => Or.inr e)⟩
  · rw [List.map_append]
    refine o2.keep fun j hj => ?_
    obtain ⟨_, c, hc⟩ := o2.ge j hj
    exact nx hc (by decide)
  · refine h.k.keep fun j hj => ?_
    obtain ⟨_, c, hc⟩ := h.k.ge j hj
    exact nw j c _ hc (by decide) (by decide)
  · rcases List.mem_append.1 hq with q1 | q1
    · exact ⟨kR (h.ea q q1).1, (h.ea q q1).2⟩
    · rw [List.mem_singleton.1 q1]
      exact ⟨kR hu, ok, hl⟩
  · obtain ⟨_, c, hc⟩ := (h.ka q hq).1.ge j hj
    exact nw j c _ hc (by decide) (by decide)
/-- A list of keys more. -/
theorem TL.pushK (h : TL W base ev kv E K) (hB : base ≤ W.heap.size) {tb : Nat} (b0 : base ≤ tb) (ht : TB tb ev kv 0 W) {u : Value} {L : List (List UInt8)} (hu : OwnV W base 9 u (L.map encStr)) (hl : L.length ≤ 9000000000000) (hn : K.length + 1 ≤ 2000000000000) :
    ∃ (sv : Value) (w1 : World) (u2 : Value) (w2 w3 : World), (Instr.buildSlice 53 1 #[(0, u)]).run Tryd.prog W = .ok sv w1 ∧ Below W.heap.size W w1 ∧ (Builtin.append_ #[53, 53] 53 #[kv, sv]).run Tryd.prog w1 = .ok u2 w2 ∧ (∀ (j : Nat) (c : Array Value) (ty : TypeId) (fr : Nat × Nat), W.heap[j]? = some (.cells c ty fr) → ty ≠ 77 → w2.heap[j]? = some (.cells c ty fr)) ∧ (Instr.storeAt 53 (.pointer (some ⟨tb, 0 + 1, none⟩)) u2).run Tryd.prog w2 = .ok () w3 ∧ TB tb ev u2 0 w3 ∧ ∃ s : SlV, TL w3 base ev u2 E (K ++ [(s, L)]) ∧ Tch (fun j => kv.ownBlock = some j ∨ j = tb) W w3 := by
  obtain ⟨su, rfl⟩ := ownV_sl hu
  obtain ⟨sv, w1, u2, w2, E1, b1, E2, o2, t2, _⟩ := run_pushV 53 77 24 (.slice none 0 0) Tryd.underlying53 infoLS (.inr rfl) rfl su.v rfl rfl h.k hB (by rw [List.length_map]; exact hn)
  have ne : ∀ (j : Nat) (c : Array Value) (ty : TypeId) (fr : Nat × Nat), W.heap[j]? = some (.cells c ty fr) → ty ≠ 77 → w2.heap[j]? = some (.cells c ty fr) := fun j c ty fr h1 h2 => (t2.block _ (Array.getElem?_eq_some_iff.1 h1).1 fun e => by
    obtain ⟨_, c, hc⟩ := h.k.ge _ e
    exact h2 (two_types h1 hc)).trans h1
  obtain ⟨s2, rfl⟩ := ownV_sl o2
  obtain ⟨w3, E3, n3, t3⟩ := tb_st1 (s := s2) (ne _ _ _ _ ht (by decide)) (ownV_sl h.k)
  have ht2 := ne _ _ _ _ ht (by decide)
  have nx : ∀ {j : Nat} {c : Array Value} {ty : TypeId} {fr : Nat × Nat}, w2.heap[j]? = some (.cells c ty fr) → ty ≠ 55 → w3.heap[j]? = w2.heap[j]? := fun h1 h2 => t3.block _ (Array.getElem?_eq_some_iff.1 h1).1 fun e => by
    rw [e] at h1
    exact h2 (two_types h1 ht2)
  have nw : ∀ (j : Nat) (c : Array Value) (ty : TypeId), W.heap[j]? = some (.cells c ty (0, 0)) → ty ≠ 77 → ty ≠ 55 → w3.heap[j]? = W.heap[j]? := fun j c ty h1 h2 h3 => by
    have e := ne _ _ _ _ h1 h2
    rw [nx e h3, e, h1]
  have kO : ∀ {v : Value} {X : List Value}, OwnV W base 9 v X → OwnV w3 base 9 v X := fun o => o.keep fun j hj => by
    obtain ⟨_, c, hc⟩ := o.ge j hj
    exact nw j c _ hc (by decide) (by decide)
  refine ⟨sv, w1, s2.v, w2, w3, E1, b1, E2, ne, E3, n3, su, ⟨?_, ?_, fun q hq => ⟨(h.ea q hq).1.keep fun j hj => ?_, (h.ea q hq).2⟩, fun q hq => ?_⟩, (t2.mono fun j _ e => Or.inl e).trans' t3 (fun j _ e => Or.inr e)⟩
  · refine h.e.keep fun j hj => ?_
    obtain ⟨_, c, hc⟩ := h.e.ge j hj
    exact nw j c _ hc (by decide) (by decide)
  · rw [List.map_append]
    refine o2.keep fun j hj => ?_
    obtain ⟨_, c, hc⟩ := o2.ge j hj
    exact nx hc (by decide)
  · obtain ⟨_, c, hc⟩ := (h.ea q hq).1.lo.cells hj
    exact nw j c _ hc (by decide) (by decide)
  · rcases List.mem_append.1 hq with q1 | q1
    · exact ⟨kO (h.ka q q1).1, (h.ka q q1).2⟩
    · rw [List.mem_singleton.1 q1]
      exact ⟨kO hu, hl⟩
end
/-- What is told, by places. -/
def toE (s : Rs) (Ps : List PlK) (i : Nat) : List (List EnV) := (List.range i).map fun k : Nat => liOf s.P (atP Ps (k : Int))
def toK (s : Rs) (Ps : List PlK) (i : Nat) : List (List (List UInt8)) := (List.range i).map fun k : Nat => srtT (keyL s.K (atP Ps (k : Int)).o)
theorem toE_succ (s : Rs) (Ps : List PlK) (i : Nat) : toE s Ps (i + 1) = toE s Ps i ++ [liOf s.P (atP Ps (i : Int))] := by unfold toE; rw [List.range_succ, List.map_append]; rfl
theorem toK_succ (s : Rs) (Ps : List PlK) (i : Nat) : toK s Ps (i + 1) = toK s Ps i ++ [srtT (keyL s.K (atP Ps (i : Int)).o)] := by unfold toK; rw [List.range_succ, List.map_append]; rfl
/-- Told's state behind i places (ke: the entries of one place more). -/
structure TI (w : World) (tb rb : Nat) (ev kv : Value) (E : List (SlV × List EnV)) (K : List (SlV × List (List UInt8))) (W : World) : Prop where
  t : TB tb ev kv 0 W
  r : TB rb (.slice none 0 0) (.slice none 0 0) 0 W
  l : TL W w.heap.size ev kv E K
  b : Below w.heap.size w W
theorem TI.below {w W W' : World} {tb rb : Nat} {ev kv : Value} {E : List (SlV × List EnV)} {K : List (SlV × List (List UInt8))} (h : TI w tb rb ev kv E K W) (b : Below W.heap.size W W') : TI w tb rb ev kv E K W' := ⟨h.t.below b, h.r.below b, h.l.below b, h.b.trans (b.mono h.b.size)⟩
set_option maxRecDepth 100000 in
set_option maxHeartbeats 4000000 in
/-- told. -/
theorem told_any {w : World} {B : Nat} {s : Rs} (m : RgM w B s) (kk : KeysOk s.K s.P) (hln : ∀ p, (liOf s.P p).length ≤ 2500000000000) (hpl : s.P.length ≤ 8000000000000) {pa : Option Addr} {pc : Nat} {Ps : List PlK} (hP : RowAt 67 PlK.c w pa Ps) (okP : ∀ x ∈ Ps, x.ok) (hPn : Ps.length ≤ 1900000000000) :
    Calls Tryd.prog 12 #[.pointer (some ⟨s.r, 0, none⟩), .slice pa Ps.length pc] w fun e w' => ∃ ev kv E K, e = .returned (tlV ev kv (s.P.length : Int)) ∧ TL w' w.heap.size ev kv E K ∧ E.map (·.2) = toE s Ps (Ps.length + 1) ∧ K.map (·.2) = toK s Ps (Ps.length + 1) ∧ Below w.heap.size w w' := by
  obtain ⟨pn, hpn⟩ : ∃ n, Ps.length = n := ⟨_, rfl⟩
  obtain ⟨ro, hro⟩ : ∃ r, s.r = r := ⟨_, rfl⟩
  have HAT : Hid (∀ W, Below w.heap.size w W → ∀ m : Int, -9223372036854775808 ≤ m ∧ m ≤ 9223372036854775807 → Calls Tryd.prog 8 #[.slice pa pn pc, .int .i64 m] W fun e w' => e = .returned (atP Ps m).v ∧ Below W.heap.size W w') := by
    intro W b m hm
    rw [← hpn]
    exact at_any (hP.below b) okP (by omega) hm
  have HOK := hidMk (fun m => atP_ok okP m)
  have HM := hidMk (fun (W : World) (b : Below w.heap.size w W) => m.below b)
  have HK := hidMk kk
  have HLN := hidMk hln
  have HRO := hidMk hro
  obtain ⟨w1, E1, n1, b1⟩ := tb_new w
  obtain ⟨w2, E2, n2, b2⟩ := tb_new w1
  have T0 : Hid (TI w w1.heap.size w.heap.size (.slice none 0 0) (.slice none 0 0) [] [] w2) := ⟨n2, n1.below b2, ⟨⟨rfl, .inl ⟨rfl, rfl⟩⟩, ⟨rfl, .inl ⟨rfl, rfl⟩⟩, by simp, by simp⟩, b1.trans (b2.mono b1.size)⟩
  have H1 := hidMk E1
  have H2 := hidMk E2
  have hb1 : Hid (w.heap.size < w1.heap.size) := (Array.getElem?_eq_some_iff.1 n1).1
  obtain ⟨rb, hrb⟩ : ∃ b, w.heap.size = b := ⟨_, rfl⟩
  obtain ⟨tb, htb⟩ : ∃ b, w1.heap.size = b := ⟨_, rfl⟩
  rw [htb] at T0 H2 hb1
  rw [hrb] at H1 hb1
  have T0' : Hid (TI w tb rb (.slice none 0 0) (.slice none 0 0) [] [] w2) := by have := T0.out; rwa [hrb] at this
  have HRB := hidMk hrb
  rw [hpn] at hPn ⊢
  rw [hro]
  clear m kk hln hP okP hpn E1 n1 b1 E2 n2 b2 hrb htb T0 hro
  go_enter Tryd.func12, Tryd.ntmps12
  go_wp2_with (first
    | (refine wpList_run rfl (exec_alloc (w2 := w1) rfl H1.out) ?_)
    | (refine wpList_run rfl (exec_alloc (w2 := w2) rfl H2.out) ?_)
    | fail)
  clear H1 H2
  go_loopw [6] (fun v6 wx => ∃ i : Nat, v6 = .int .i64 (i : Int) ∧ i ≤ pn + 1 ∧ Hid (∃ ev kv E K, TI w tb rb ev kv E K wx ∧ E.map (·.2) = toE s Ps i ∧ K.map (·.2) = toK s Ps i)) (fun v6 wx => pn + 1 - (match v6 with | .int _ i => i.toNat | _ => 0))
  case atStart => exact ⟨0, rfl, Nat.zero_le _, _, _, [], [], T0'.out, rfl, rfl⟩
  case round =>
    clear T0'
    obtain ⟨i, rfl, hin, HI⟩ := hrel
    by_cases hi : i ≤ pn
    · obtain ⟨ev, kv, E, K, ti, eE, eK⟩ := HI.out
      have TI0 := hidMk ti
      have HE := hidMk (And.intro eE eK)
      have hEl : Hid (E.length = i ∧ K.length = i) := by
        have h1 := congrArg List.length eE
        have h2 := congrArg List.length eK
        simp [toE, toK] at h1 h2
        exact ⟨h1, h2⟩
      clear HI ti eE eK
      obtain ⟨p, hp0⟩ : ∃ p, atP Ps (i : Int) = p := ⟨_, rfl⟩
      have hp : p.ok := by rw [← hp0]; exact HOK.out _
      have HP0 := hidMk hp0
      have CA : Hid (Calls Tryd.prog 8 #[.slice pa pn pc, .int .i64 (i : Int)] wr fun e w' => e = .returned p.v ∧ ∃ pb x1 x2, (Instr.alloc 34 true (.tuple #[])).run Tryd.prog w' = .ok (.pointer (some ⟨pb, 0, none⟩)) x1 ∧ (Instr.storeAt 34 (.pointer (some ⟨pb, 0, none⟩)) p.v).run Tryd.prog x1 = .ok () x2 ∧ (TI w tb rb ev kv E K x2 ∧ Np pb p x2)) := by
        refine (HAT.out wr TI0.out.b i (by omega)).mono ?_
        rintro e w' ⟨rfl, b⟩
        rw [hp0]
        obtain ⟨x1, x2, e1, e2, n2, b2⟩ := pl_new w' hp
        exact ⟨rfl, w'.heap.size, x1, x2, e1, e2, TI0.out.below (b.trans (b2.mono b.size)), n2⟩
      clear hp0
      go_upto_region 5 with fail
      refine tld5 (m := i) (pn := pn) (pc := pc) (pa := pa) (p := p) (fun pb W => TI w tb rb ev kv E K W ∧ Np pb p W) _ wr _ rfl rfl rfl CA.out ?_
      intro pb a' w3 hf ha
      subst ha
      simp only [Act.put, List.setIfInBounds_toArray, List.set_cons_zero, List.set_cons_succ]
      have K3 := hidMk hf
      clear hf CA TI0
      have bd : Below w3.heap.size w3 w3.drew := (Below.refl _ _).drew
      have T3 := hidMk (K3.out.1.below bd)
      have S3 : Hid (TB tb ev kv 0 w3.drew ∧ Np pb p w3.drew) := ⟨T3.out.t, K3.out.2.below bd⟩
      have CE : Hid (Calls Tryd.prog 10 #[.pointer (some ⟨ro, 0, none⟩), p.v] w3.drew fun e w' => ∃ u, e = .returned u ∧ (TB tb ev kv 0 w' ∧ Np pb p w') ∧ ∃ sv x1 u2 x2 x3, (Instr.buildSlice 52 1 #[(0, u)]).run Tryd.prog w' = .ok sv x1 ∧ (TB tb ev kv 0 x1 ∧ Np pb p x1) ∧ (Builtin.append_ #[52, 52] 52 #[ev, sv]).run Tryd.prog x1 = .ok u2 x2 ∧ (TB tb ev kv 0 x2 ∧ Np pb p x2) ∧ (Instr.storeAt 52 (.pointer (some ⟨tb, 0 + 0, none⟩)) u2).run Tryd.prog x2 = .ok () x3 ∧ ∃ s' : SlV, ∃ u3, TI w tb rb u3 kv (E ++ [(s', liOf s.P p)]) K x3 ∧ Np pb p x3) := by
        have cc := entries_any (HM.out _ T3.out.b) hp (HLN.out p)
        rw [HRO.out] at cc
        refine cc.mono ?_
        rintro e w' ⟨u, rfl, ou, b⟩
        have t1 := T3.out.below b
        have np := S3.out.2.below b
        have hsz := t1.b.size
        obtain ⟨sv, x1, u2, x2, x3, e1, bb1, e2, ne, e3, n3, s', tl, tt⟩ := t1.l.pushE hsz (tb := tb) (by rw [HRB.out]; exact Nat.le_of_lt hb1.out) t1.t (ou.mono (by exact T3.out.b.size)) ((HM.out _ t1.b).list p).2 (HLN.out p) (by have := hEl.out.1; omega)
        have nb : ∀ (j : Nat) (c : Array Value) (ty : TypeId), w'.heap[j]? = some (.cells c ty (0, 0)) → ty ≠ 44 → j ≠ tb → x3.heap[j]? = w'.heap[j]? := fun j c ty hc h1 h2 => tt.block j (Array.getElem?_eq_some_iff.1 hc).1 fun e => by
          rcases e with e | e
          · obtain ⟨_, c2, hc2⟩ := t1.l.e.ge j e
            exact h1 (two_types hc hc2)
          · exact h2 e
        have nrb : rb ≠ tb := by have := hb1.out; omega
        refine ⟨u, rfl, ⟨t1.t, np⟩, sv, x1, u2, x2, x3, e1, ⟨t1.t.below bb1, np.below bb1⟩, e2, ⟨ne _ _ _ _ t1.t (by decide), ne _ _ _ _ np (by decide)⟩, e3, s', u2, ⟨n3, (nb _ _ _ t1.r (by decide) nrb).trans t1.r, tl, t1.b.trans (tt.below hsz ?_)⟩, ?_⟩
        · rintro j (e | rfl)
          · exact (t1.l.e.ge j e).1
          · rw [HRB.out]; exact Nat.le_of_lt hb1.out
        · exact (nb _ _ _ np (by decide) (fun e => by
            have h1 : w'.heap[pb]? = _ := np
            rw [e] at h1
            exact absurd (two_types h1 t1.t) (by decide))).trans np
      go_upto_region 6 with fail
      refine tld6 (ro := ro) (tb := tb) (pb := pb) (ev := ev) (p := p) (fun W => TB tb ev kv 0 W ∧ Np pb p W) (fun x3 => ∃ s' : SlV, ∃ u3, TI w tb rb u3 kv (E ++ [(s', liOf s.P p)]) K x3 ∧ Np pb p x3) _ w3 _ rfl rfl rfl rfl S3.out (fun W h => tb_l0 h.1 (ownV_sl T3.out.l.e)) (fun W h => ld_pl hp (rng_cells h.2)) CE.out ?_
      intro u sv u2 a' w4 hf ha
      subst ha
      simp only [Act.put, List.setIfInBounds_toArray, List.set_cons_zero, List.set_cons_succ]
      obtain ⟨s1, ev2, ti4, np4⟩ := hf
      have bd4 : Below w4.heap.size w4 w4.drew := (Below.refl _ _).drew
      have T4 := hidMk (ti4.below bd4)
      have S4 : Hid (TB tb ev2 kv 0 w4.drew ∧ Np pb p w4.drew) := ⟨T4.out.t, np4.below bd4⟩
      clear CE S3 T3 ti4 np4 K3 bd
      have CE : Hid (Calls Tryd.prog 25 #[.pointer (some ⟨ro, 0, none⟩), p.o.v] w4.drew fun e w' => ∃ u, e = .returned u ∧ (TB tb ev2 kv 0 w' ∧ Np pb p w') ∧ ∃ sv x1 u2 x2 x3, (Instr.buildSlice 53 1 #[(0, u)]).run Tryd.prog w' = .ok sv x1 ∧ (TB tb ev2 kv 0 x1 ∧ Np pb p x1) ∧ (Builtin.append_ #[53, 53] 53 #[kv, sv]).run Tryd.prog x1 = .ok u2 x2 ∧ (TB tb ev2 kv 0 x2 ∧ Np pb p x2) ∧ (Instr.storeAt 53 (.pointer (some ⟨tb, 0 + 1, none⟩)) u2).run Tryd.prog x2 = .ok () x3 ∧ ∃ ev kv E K, TI w tb rb ev kv E K x3 ∧ E.map (·.2) = toE s Ps (i + 1) ∧ K.map (·.2) = toK s Ps (i + 1)) := by
        have m4 := HM.out _ T4.out.b
        have hkl : (keyL s.K p.o).length ≤ 8000000000000 := Nat.le_trans (keyL_len m4 HK.out p.o) hpl
        have cc := keys_any m4 hp.o hkl
        rw [HRO.out] at cc
        refine cc.mono ?_
        rintro e w' ⟨u, rfl, ou, b⟩
        have t1 := T4.out.below b
        have np := S4.out.2.below b
        have hsz := t1.b.size
        obtain ⟨sv, x1, u2, x2, x3, e1, bb1, e2, ne, e3, n3, s', tl, tt⟩ := t1.l.pushK hsz (tb := tb) (by rw [HRB.out]; exact Nat.le_of_lt hb1.out) t1.t (ou.monoB (by exact T4.out.b.size)) (by rw [srtT_len]; omega) (by have := hEl.out.2; omega)
        have nb : ∀ (j : Nat) (c : Array Value) (ty : TypeId), w'.heap[j]? = some (.cells c ty (0, 0)) → ty ≠ 77 → j ≠ tb → x3.heap[j]? = w'.heap[j]? := fun j c ty hc h1 h2 => tt.block j (Array.getElem?_eq_some_iff.1 hc).1 fun e => by
          rcases e with e | e
          · obtain ⟨_, c2, hc2⟩ := t1.l.k.ge j e
            exact h1 (two_types hc hc2)
          · exact h2 e
        have nrb : rb ≠ tb := by have := hb1.out; omega
        refine ⟨u, rfl, ⟨t1.t, np⟩, sv, x1, u2, x2, x3, e1, ⟨t1.t.below bb1, np.below bb1⟩, e2, ⟨ne _ _ _ _ t1.t (by decide), ne _ _ _ _ np (by decide)⟩, e3, _, _, _, _, ⟨n3, (nb _ _ _ t1.r (by decide) nrb).trans t1.r, tl, t1.b.trans (tt.below hsz ?_)⟩, ?_, ?_⟩
        · rintro j (e | rfl)
          · exact (t1.l.k.ge j e).1
          · rw [HRB.out]; exact Nat.le_of_lt hb1.out
        · rw [List.map_append, HE.out.1, toE_succ, HP0.out]; rfl
        · rw [List.map_append, HE.out.2, toK_succ, HP0.out]; rfl
      go_upto_region 7 with fail
      refine tld7 (ro := ro) (tb := tb) (pb := pb) (ev := kv) (p := p) (fun W => TB tb ev2 kv 0 W ∧ Np pb p W) (fun x3 => ∃ ev kv E K, TI w tb rb ev kv E K x3 ∧ E.map (·.2) = toE s Ps (i + 1) ∧ K.map (·.2) = toK s Ps (i + 1)) _ w4 _ rfl rfl rfl rfl S4.out (fun W h => tb_l1 h.1 (ownV_sl T4.out.l.k)) (fun W h => pl_obj h.2 hp) CE.out ?_
      intro u sv u2 a' w5 hf ha
      subst ha
      simp only [Act.put, List.setIfInBounds_toArray, List.set_cons_zero, List.set_cons_succ]
      have K5 := hidMk hf
      clear hf CE S4 T4 bd4
      go_wp2
      rw [show ((i : Int) + 1) = ((i + 1 : Nat) : Int) by omega]
      refine ⟨⟨i + 1, rfl, by omega, K5.out⟩, ?_⟩
      show pn + 1 - ((i + 1 : Nat) : Int).toNat < pn + 1 - (i : Int).toNat
      omega
    · obtain rfl : i = pn + 1 := by omega
      obtain ⟨ev, kv, E, K, ti, eE, eK⟩ := HI.out
      have TI0 := hidMk ti
      have HE := hidMk (And.intro eE eK)
      obtain ⟨z, hz⟩ : ∃ z : Int, (s.P.length : Int) = z := ⟨_, rfl⟩
      have nrb : rb ≠ tb := by have := hb1.out; omega
      have CL : Hid (Calls Tryd.prog 11 #[.pointer (some ⟨ro, 0, none⟩)] wr fun e w' => e = .returned (.int .i64 z) ∧ ∃ x1, (Instr.storeAt 3 (.pointer (some ⟨tb, 0 + 2, none⟩)) (.int .i64 z)).run Tryd.prog w' = .ok () x1 ∧ (TB tb ev kv z x1 ∧ TB rb (.slice none 0 0) (.slice none 0 0) 0 x1 ∧ Tch (fun j => j = tb) wr x1)) := by
        have cc := len_any (HM.out _ TI0.out.b)
        rw [HRO.out, hz] at cc
        refine cc.mono ?_
        rintro e w' ⟨rfl, hw⟩
        rw [hw]
        obtain ⟨x1, e1, n1, t1⟩ := tb_st2 (u := z) TI0.out.t
        exact ⟨rfl, x1, e1, n1, TI0.out.r.keep t1 nrb, t1⟩
      have HZ := hidMk hz
      clear HI ti eE eK hz
      go_upto_region 8 with fail
      refine tld8 (ro := ro) (tb := tb) (z := z) (fun x1 => TB tb ev kv z x1 ∧ TB rb (.slice none 0 0) (.slice none 0 0) 0 x1 ∧ Tch (fun j => j = tb) wr x1) _ wr _ rfl rfl rfl CL.out ?_
      intro a' w5 hf ha
      subst ha
      simp only [Act.put, List.setIfInBounds_toArray, List.set_cons_zero, List.set_cons_succ]
      obtain ⟨ta, tr, tt⟩ := hf
      obtain ⟨w6, e6, n6, t6⟩ := tb_store (u := z) tr (ownV_sl TI0.out.l.e) (ownV_sl TI0.out.l.k)
      have HL5 := hidMk (tb_ld ta)
      have HE6 := hidMk e6
      have HN6 := hidMk n6
      have HT6 : Hid (Tch (fun j => j = tb ∨ j = rb) wr w6) := (tt.mono fun j _ e => Or.inl e).trans' t6 (fun j _ e => Or.inr e)
      clear ta tr tt e6 n6 t6 CL
      go_upto_region 9 with fail
      refine tld9 (rb := rb) (tb := tb) (tv := tlV ev kv z) (w1 := w6) _ w5 _ rfl rfl rfl (fun W e => by rw [e]; exact HL5.out) HE6.out ?_
      intro a' w7 hf ha
      subst ha
      obtain rfl : w6 = w7 := hf.symm
      simp only [Act.put, List.setIfInBounds_toArray, List.set_cons_zero, List.set_cons_succ]
      clear HL5 HE6
      go_wp2
      refine bodyPost_ret (results_cell_row Tryd.results12 _ _ rb _ _ _ _ rfl HN6.out Tryd.underlying55 rfl szTl) rfl ?_
      refine ⟨ev, kv, by rw [HZ.out]; rfl, E, K, TI0.out.l.keep HT6.out (fun j c ty hc e q => ?_) (fun j hj q => ?_), HE.out.1, HE.out.2, TI0.out.b.trans (HT6.out.below TI0.out.b.size (fun j e => by
        rcases e with rfl | rfl
        · rw [HRB.out]; exact Nat.le_of_lt hb1.out
        · rw [HRB.out]; exact Nat.le_refl _))⟩
      · rcases q with rfl | rfl
        · have := two_types hc TI0.out.t
          rw [this] at e
          exact absurd e (by decide)
        · have := two_types hc TI0.out.r
          rw [this] at e
          exact absurd e (by decide)
      · obtain ⟨z, hz, e⟩ := hj
        obtain ⟨_, c, hc⟩ := (TI0.out.l.ea z hz).1.lo.cells e
        rcases q with rfl | rfl
        · exact absurd (two_types hc TI0.out.t) (by decide)
        · exact absurd (two_types hc TI0.out.r) (by decide)
end Go.Proofs.YtldlljobofnmmabDoor

namespace Go.Proofs.YtldlljobofnmmabDoor
open Go.RowKit
set_option linter.unusedVariables false
set_option linter.unusedSimpArgs false

theorem tb_box (w : World) (ev kv : Value) (z : Int) : ∃ w1, (Instr.box 55 (tlV ev kv z)).run Tryd.prog w = .ok (.pointer (some ⟨w.heap.size, 0, none⟩)) w1 ∧ TB w.heap.size ev kv z w1 ∧ Below w.heap.size w w1 := ⟨_, by rw [run_box]; rfl, heap_alloc_new _ _, (Below.refl _ _).alloc (Nat.le_refl _) _⟩
theorem ld_slE {W : World} {g i : Nat} {s : SlV} (hc : W.cell? ⟨g, i, none⟩ = some s.v) : (Instr.loadAt 44 (.pointer (some ⟨g, 0 + i, none⟩))).run Tryd.prog W = .ok s.v W := by
  rw [Nat.zero_add]
  unfold SlV.v at *
  go_simp
theorem ld_slS {W : World} {g i : Nat} {s : SlV} (hc : W.cell? ⟨g, i, none⟩ = some s.v) : (Instr.loadAt 77 (.pointer (some ⟨g, 0 + i, none⟩))).run Tryd.prog W = .ok s.v W := by
  rw [Nat.zero_add]
  unfold SlV.v at *
  go_simp
set_option maxRecDepth 100000 in
set_option maxHeartbeats 4000000 in
/-- Two that tell the same. -/
theorem sameTells_any {w : World} {B1 B2 : Nat} {ev kv ev2 kv2 : Value} {E E2 : List (SlV × List EnV)} {K K2 : List (SlV × List (List UInt8))} (h1 : TL w B1 ev kv E K) (h2 : TL w B2 ev2 kv2 E2 K2) (eE : E.map (·.2) = E2.map (·.2)) (eK : K.map (·.2) = K2.map (·.2)) (hEK : E.length = K.length) (hn : E.length ≤ 2000000000000) (z : Int) :
    Calls Tryd.prog 14 #[tlV ev kv z, tlV ev2 kv2 z] w fun e w' => e = .returned (.bool true) ∧ Below w.heap.size w w' := by
  have lE : E.length = E2.length := by simpa using congrArg List.length eE
  have lK : K.length = K2.length := by simpa using congrArg List.length eK
  obtain ⟨n, hnn⟩ : ∃ n, E.length = n := ⟨_, rfl⟩
  obtain ⟨w1, X1, n1, b1⟩ := tb_box w ev kv z
  obtain ⟨w2, X2, n2, b2⟩ := tb_box w1 ev2 kv2 z
  have b12 := b1.trans (b2.mono b1.size)
  have T1 := hidMk (h1.below b12)
  have T2 := hidMk (h2.below b12)
  have N1 := hidMk (n1.below b2)
  have N2 := hidMk n2
  have HB := hidMk b12
  have H1 := hidMk X1
  have H2 := hidMk X2
  obtain ⟨a1, c1, e1, _⟩ := h1.e.open
  obtain ⟨a2, c2, e2, _⟩ := h2.e.open
  rw [List.length_map, hnn] at e1
  rw [List.length_map, ← lE, hnn] at e2
  have HE1 := hidMk e1
  have HE2 := hidMk e2
  have HEQ := hidMk (And.intro eE (And.intro eK (And.intro hnn (And.intro lE (And.intro lK hEK)))))
  obtain ⟨ab, hab⟩ : ∃ b, w.heap.size = b := ⟨_, rfl⟩
  obtain ⟨bb, hbb⟩ : ∃ b, w1.heap.size = b := ⟨_, rfl⟩
  rw [hab] at N1 H1
  rw [hbb] at N2 H2
  rw [hnn] at hn
  clear h1 h2 eE eK hEK lE lK hnn X1 n1 b1 X2 n2 b2 b12 e1 e2 hab hbb
  have LN1 := hidMk (tb_l2 N1.out)
  have LN2 := hidMk (tb_l2 N2.out)
  have LE1 := hidMk (tb_l0 N1.out (ownV_sl T1.out.e))
  have LE2 := hidMk (tb_l0 N2.out (ownV_sl T2.out.e))
  rw [HE1.out] at LE1
  rw [HE2.out] at LE2
  go_enter Tryd.func14, Tryd.ntmps14
  go_upto_region 1 with (first
    | (refine wpList_run rfl (exec_boxE (t := 55) (v := tlV ev kv z) (u := .pointer (some ⟨ab, 0, none⟩)) (w2 := w1) rfl rfl H1.out) ?_)
    | (refine wpList_run rfl (exec_boxE (t := 55) (v := tlV ev2 kv2 z) (u := .pointer (some ⟨bb, 0, none⟩)) (w2 := w2) rfl rfl H2.out) ?_)
    | fail)
  refine stl1 (ab := ab) (bb := bb) (n := n) (c1 := c1) (c2 := c2) (a1 := a1) (a2 := a2) (z := z) _ w2 _ rfl rfl rfl (fun W e => by rw [e]; exact LN1.out) (fun W e => by rw [e]; exact LN2.out) (fun W e => by rw [e]; exact LE1.out) (fun W e => by rw [e]; exact LE2.out) ?_
  intro a' w3 hf ha
  subst ha
  obtain rfl : w2 = w3 := hf.symm
  simp only [Act.put, List.setIfInBounds_toArray, List.set_cons_zero, List.set_cons_succ]
  clear LN1 LN2 LE1 LE2 H1 H2
  go_wp2
  go_loopw [5] (fun v5 wx => ∃ i : Nat, v5 = .int .i64 (i : Int) ∧ i ≤ n ∧ Hid (Below w2.heap.size w2 wx)) (fun v5 wx => n - (match v5 with | .int _ i => i.toNat | _ => 0))
  case atStart => exact ⟨0, rfl, Nat.zero_le _, Below.refl _ _⟩
  case round =>
    obtain ⟨i, rfl, hin, HI⟩ := hrel
    have c0 : wr.cell? ⟨ab, 0, none⟩ = some (.slice a1 n c1) := by
      rw [← HE1.out]
      exact (cell_of_row wr ab 0 _ _ _ (N1.out.below HI.out)).trans rfl
    by_cases hi : i < n
    · obtain ⟨eE, eK, hnn, lE, lK, hEK⟩ := HEQ.out
      obtain ⟨q1, hq1⟩ : ∃ q, E[i]? = some q := ⟨_, List.getElem?_eq_getElem (by omega)⟩
      obtain ⟨q2, hq2⟩ : ∃ q, E2[i]? = some q := ⟨_, List.getElem?_eq_getElem (by omega)⟩
      obtain ⟨q3, hq3⟩ : ∃ q, K[i]? = some q := ⟨_, List.getElem?_eq_getElem (by omega)⟩
      obtain ⟨q4, hq4⟩ : ∃ q, K2[i]? = some q := ⟨_, List.getElem?_eq_getElem (by omega)⟩
      have s12 : q2.2 = q1.2 := by
        have := congrArg (·[i]?) eE
        simp only [List.getElem?_map, hq1, hq2, Option.map_some, Option.some.injEq] at this
        exact this.symm
      have s34 : q4.2 = q3.2 := by
        have := congrArg (·[i]?) eK
        simp only [List.getElem?_map, hq3, hq4, Option.map_some, Option.some.injEq] at this
        exact this.symm
      obtain ⟨g1, d1, f1⟩ := T1.out.e.form (i := i) (by rw [List.length_map]; omega)
      obtain ⟨g2, d2, f2⟩ := T2.out.e.form (i := i) (by rw [List.length_map]; omega)
      obtain ⟨g3, d3, f3⟩ := T1.out.k.form (i := i) (by rw [List.length_map]; omega)
      obtain ⟨g4, d4, f4⟩ := T2.out.k.form (i := i) (by rw [List.length_map]; omega)
      rw [List.length_map, hnn] at f1
      rw [List.length_map, ← lE, hnn] at f2
      rw [List.length_map, ← hEK, hnn] at f3
      rw [List.length_map, ← lK, ← hEK, hnn] at f4
      have bd : Below w2.heap.size w2 wr.drew := HI.out.drew
      have LL : Hid (∀ W, Below w2.heap.size w2 W → (Instr.loadAt 52 (.pointer (some ⟨ab, 0 + 0, none⟩))).run Tryd.prog W = .ok (.slice (some ⟨g1, 0, none⟩) n d1) W ∧ (Instr.loadAt 44 (.pointer (some ⟨g1, 0 + i, none⟩))).run Tryd.prog W = .ok q1.1.v W ∧ (Instr.loadAt 52 (.pointer (some ⟨bb, 0 + 0, none⟩))).run Tryd.prog W = .ok (.slice (some ⟨g2, 0, none⟩) n d2) W ∧ (Instr.loadAt 44 (.pointer (some ⟨g2, 0 + i, none⟩))).run Tryd.prog W = .ok q2.1.v W ∧ (Instr.loadAt 53 (.pointer (some ⟨ab, 0 + 1, none⟩))).run Tryd.prog W = .ok (.slice (some ⟨g3, 0, none⟩) n d3) W ∧ (Instr.loadAt 77 (.pointer (some ⟨g3, 0 + i, none⟩))).run Tryd.prog W = .ok q3.1.v W ∧ (Instr.loadAt 53 (.pointer (some ⟨bb, 0 + 1, none⟩))).run Tryd.prog W = .ok (.slice (some ⟨g4, 0, none⟩) n d4) W ∧ (Instr.loadAt 77 (.pointer (some ⟨g4, 0 + i, none⟩))).run Tryd.prog W = .ok q4.1.v W) := by
        intro W b
        have t1 := T1.out.below b
        have t2 := T2.out.below b
        have x1 := N1.out.below b
        have x2 := N2.out.below b
        rw [← f1, ← f2, ← f3, ← f4]
        refine ⟨tb_l0 x1 (ownV_sl t1.e), ld_slE (t1.e.hit f1 (by rw [List.getElem?_map, hq1]; rfl)), tb_l0 x2 (ownV_sl t2.e), ld_slE (t2.e.hit f2 (by rw [List.getElem?_map, hq2]; rfl)), tb_l1 x1 (ownV_sl t1.k), ld_slS (t1.k.hit f3 (by rw [List.getElem?_map, hq3]; rfl)), tb_l1 x2 (ownV_sl t2.k), ld_slS (t2.k.hit f4 (by rw [List.getElem?_map, hq4]; rfl))⟩
      have CS : Hid (Calls Tryd.prog 9 #[q1.1.v, q2.1.v] wr.drew fun e x1 => e = .returned (.bool true) ∧ Below w2.heap.size w2 x1 ∧ Calls Tryd.prog 26 #[q3.1.v, q4.1.v] x1 fun e x2 => e = .returned (.bool true) ∧ Below w2.heap.size w2 x2) := by
        obtain ⟨o1, ok1, ln1⟩ := (T1.out.below bd).ea q1 (List.mem_of_getElem? hq1)
        obtain ⟨o2, _, _⟩ := (T2.out.below bd).ea q2 (List.mem_of_getElem? hq2)
        rw [s12] at o2
        obtain ⟨a1, c1, e1, at1⟩ := own_at o1 ok1
        obtain ⟨a2, c2, e2, at2⟩ := own_at o2 ok1
        rw [e1, e2]
        refine (same_entries ok1 ln1 at1 at2).mono ?_
        rintro e x1 ⟨rfl, b⟩
        have bx := bd.trans (b.mono bd.size)
        refine ⟨rfl, bx, ?_⟩
        obtain ⟨o3, ln3⟩ := (T1.out.below bx).ka q3 (List.mem_of_getElem? hq3)
        obtain ⟨o4, _⟩ := (T2.out.below bx).ka q4 (List.mem_of_getElem? hq4)
        rw [s34] at o4
        obtain ⟨a3, c3, e3, at3⟩ := o3.texts
        obtain ⟨a4, c4, e4, at4⟩ := o4.texts
        rw [e3, e4]
        refine (same_texts ln3 at3 at4).mono ?_
        rintro e x2 ⟨rfl, b⟩
        exact ⟨rfl, bx.trans (b.mono bx.size)⟩
      have BD := hidMk bd
      have h63 : n ≤ 9223372036854775807 := by omega
      clear eE eK hnn lE lK hEK hq1 hq2 hq3 hq4 s12 s34 f1 f2 f3 f4 bd HI
      go_upto_region 6 with fail
      clear c0
      refine stl6 (ab := ab) (bb := bb) (g1 := g1) (g2 := g2) (g3 := g3) (g4 := g4) (n := n) (c1 := d1) (c2 := d2) (c3 := d3) (c4 := d4) (i := i) (u1 := q1.1.v) (u2 := q2.1.v) (u3 := q3.1.v) (u4 := q4.1.v) (fun W => Below w2.heap.size w2 W) _ wr _ rfl rfl rfl rfl hi h63 BD.out (fun W h => (LL.out W h).1) (fun W h => (LL.out W h).2.1) (fun W h => (LL.out W h).2.2.1) (fun W h => (LL.out W h).2.2.2.1) (fun W h => (LL.out W h).2.2.2.2.1) (fun W h => (LL.out W h).2.2.2.2.2.1) (fun W h => (LL.out W h).2.2.2.2.2.2.1) (fun W h => (LL.out W h).2.2.2.2.2.2.2) CS.out ?_
      intro a' w4 hf ha
      subst ha
      simp only [Act.put, List.setIfInBounds_toArray, List.set_cons_zero, List.set_cons_succ]
      have K4 := hidMk hf
      clear hf CS LL BD
      go_wp2
      rw [show ((i : Int) + 1) = ((i + 1 : Nat) : Int) by omega]
      refine ⟨⟨i + 1, rfl, hi, K4.out⟩, ?_⟩
      show n - ((i + 1 : Nat) : Int).toNat < n - (i : Int).toNat
      omega
    · obtain rfl : i = n := by omega
      go_wp2
      go_ret
      exact ⟨rfl, HB.out.trans (HI.out.mono HB.out.size)⟩
end Go.Proofs.YtldlljobofnmmabDoor

namespace Go.Proofs.YtldlljobofnmmabDoor
open Go.RowKit
set_option linter.unusedVariables false
set_option linter.unusedSimpArgs false

theorem szSay : (Tryd.prog.info? 42).map (·.size) = some 8 := by kernel_rfl
theorem SyR.one {W : World} {o : SyR} (h : o.ok W) : ∀ v ∈ o.c, v.oneCell' = true := by
  intro v hv
  obtain ⟨a, cap, e, _⟩ := h.seen
  simp only [SyR.c, List.mem_cons, List.mem_append, List.not_mem_nil, or_false] at hv
  rcases hv with rfl | rfl | h | rfl | rfl
  · rfl
  · rfl
  · exact o.v.one v h
  · rfl
  · rw [e]; rfl
theorem ld_say {W : World} {b o : Nat} {x : SyR} (h : W.rangeAt b o x.c) : (Instr.loadAt 42 (.pointer (some ⟨b, o, none⟩))).run Tryd.prog W = .ok x.a W :=
  run_loadAt_mid (P := Tryd.prog) W b o 42 x.c _ h Tryd.underlying42 rfl (by rw [SyR.len8]; exact szSay)
theorem say_kind {W : World} {b o : Nat} {x : SyR} (h : W.rangeAt b o x.c) : (Instr.loadAt 3 (.pointer (some ⟨b, o + 0, none⟩))).run Tryd.prog W = .ok (.int .i64 x.kind) W := by
  have hc : W.cell? ⟨b, o, none⟩ = some (.int .i64 x.kind) := h 0 _ rfl
  go_simp
theorem say_pl {W : World} {b o : Nat} {x : SyR} (h : W.rangeAt b o x.c) : (Instr.loadAt 3 (.pointer (some ⟨b, o + 1, none⟩))).run Tryd.prog W = .ok (.int .i64 x.pl) W := by
  have hc : W.cell? ⟨b, o + 1, none⟩ = some (.int .i64 x.pl) := h 1 _ rfl
  go_simp
theorem say_va {W : World} {b o : Nat} {x : SyR} (h : W.rangeAt b o x.c) : (Instr.loadAt 39 (.pointer (some ⟨b, o + 2, none⟩))).run Tryd.prog W = .ok x.v.v W := ld_va (fun j v hv => by
    rw [Nat.add_assoc]
    exact h (2 + j) v (by
      rw [SyR.c, show 2 + j = j + 1 + 1 by omega, List.getElem?_cons_succ, List.getElem?_cons_succ, List.getElem?_append_left (List.getElem?_eq_some_iff.1 hv).1]
      exact hv))
theorem say_n {W : World} {b o : Nat} {x : SyR} (h : W.rangeAt b o x.c) : (Instr.loadAt 2 (.pointer (some ⟨b, o + 6, none⟩))).run Tryd.prog W = .ok (.int .i64 x.n) W := by
  have hc : W.cell? ⟨b, o + 6, none⟩ = some (.int .i64 x.n) := h 6 _ (by
    rw [SyR.c, show 6 = 4 + 1 + 1 by rfl, List.getElem?_cons_succ, List.getElem?_cons_succ, List.getElem?_append_right (by rw [VaV.len]; omega), VaV.len]
    rfl)
  go_simp
theorem say_seen {x : SyR} : x.c[7]? = some x.seen := by
    rw [SyR.c, show 7 = 5 + 1 + 1 by rfl, List.getElem?_cons_succ, List.getElem?_cons_succ, List.getElem?_append_right (by rw [VaV.len]; omega), VaV.len]
    rfl
theorem box_say (w : World) (x : SyR) : ∃ w1, (Instr.box 42 x.a).run Tryd.prog w = .ok (.pointer (some ⟨w.heap.size, 0, none⟩)) w1 ∧ w1.heap[w.heap.size]? = some (.cells x.c.toArray 42 (0, 0)) ∧ Below w.heap.size w w1 := ⟨_, by rw [run_box]; rfl, heap_alloc_new _ _, (Below.refl _ _).alloc (Nat.le_refl _) _⟩
def NotIn (w1 wr : World) (k : Int) (L : List Int) (i : Nat) : Prop := wr = w1 ∧ ¬ k ∈ L.take i
set_option maxRecDepth 100000 in
set_option maxHeartbeats 2000000 in
/-- Whether a call had seen another one. -/
theorem knows_any {w : World} {x : SyR} (hx : x.ok w) {k : Nat} (hk : k ≤ 9000000000000) :
    Calls Tryd.prog 18 #[x.a, .int .i64 (k : Int)] w fun e w' => e = .returned (.bool (decide ((k : Int) ∈ x.sl))) ∧ Below w.heap.size w w' := by
  obtain ⟨w1, E1, n1, b1⟩ := box_say w x
  obtain ⟨a, cap, es, hr⟩ := (hx.below b1).seen
  have hn := hx.len
  obtain ⟨n, hnn⟩ : ∃ n, x.sl.length = n := ⟨_, rfl⟩
  have c7 : w1.cell? ⟨w.heap.size, 7, none⟩ = some (.slice a n cap) := by
    rw [cell_of_row _ _ 7 _ _ _ n1, ← hnn, ← es]
    have := say_seen (x := x)
    simpa using this
  have H1 := hidMk E1
  have HL := hidMk (And.intro hr (And.intro hnn b1))
  rw [hnn] at hn
  obtain ⟨xb, hxb⟩ : ∃ xb, w.heap.size = xb := ⟨_, rfl⟩
  have HXB := hidMk hxb
  rw [hxb] at H1 c7
  clear hx E1 n1 b1 hr es hxb hnn
  obtain ⟨xa, hxa⟩ : ∃ xa, x.a = xa := ⟨_, rfl⟩
  rw [hxa] at H1 ⊢
  clear hxa
  go_enter Tryd.func18, Tryd.ntmps18
  go_wp2_with (first
    | (refine wpList_run rfl (exec_boxE (t := 42) (v := xa) (u := .pointer (some ⟨xb, 0, none⟩)) (w2 := w1) rfl rfl H1.out) ?_)
    | fail)
  clear H1
  go_loopw [5] (fun v5 wr => ∃ i : Nat, v5 = .int .i64 (i : Int) ∧ i ≤ n ∧ Hid (NotIn w1 wr (k : Int) x.sl i)) (fun v5 wr => n - (match v5 with | .int _ i => i.toNat | _ => 0))
  case atStart => exact ⟨0, rfl, Nat.zero_le _, rfl, by simp⟩
  case round =>
    obtain ⟨i, rfl, hin, HI0⟩ := hrel
    obtain rfl : w1 = wr := HI0.out.1.symm
    have HI := hidMk HI0.out.2
    clear HI0
    by_cases hi : i < n
    · obtain ⟨hr, hnn, b1⟩ := HL.out
      obtain ⟨z, hzi⟩ : ∃ z, x.sl[i]? = some z := ⟨_, List.getElem?_eq_getElem (by omega)⟩
      obtain ⟨g, o, rfl, lg, hz⟩ : ∃ g o, a = some ⟨g, o, none⟩ ∧ g < w1.heap.size ∧ w1.rangeAt g (o + i * 1) (inC z) := by
        rcases hr with h | ⟨g, o, e, h1, h2⟩
        · rw [h] at hzi; cases hzi
        · exact ⟨g, o, e, h1, h2 i z hzi⟩
      have ci : w1.cell? ⟨g, o + i, none⟩ = some (.int .i64 z) := by
        have := hz 0 _ rfl
        rw [Nat.mul_one] at this
        exact this
      have HM := hidMk (And.intro hzi (And.intro b1 hnn))
      clear hr hnn b1 hzi hz lg
      by_cases hzk : z = (k : Int)
      · have HZ := hidMk hzk
        have hq : (z == (k : Int)) = true := by simpa using hzk
        clear hzk
        go_wp2
        go_ret
        obtain ⟨hzi, b1, hnn⟩ := HM.out
        refine ⟨?_, b1⟩
        rw [decide_eq_true (by rw [← HZ.out]; exact List.mem_of_getElem? hzi)]
        rfl
      · have HZ := hidMk hzk
        have hq : (z == (k : Int)) = false := by simpa using hzk
        clear hzk
        go_wp2
        rw [show ((i : Int) + 1) = ((i + 1 : Nat) : Int) by omega]
        refine ⟨⟨i + 1, rfl, hi, rfl, ?_⟩, ?_⟩
        · rw [mem_take_succ HM.out.1]
          rintro (h | h)
          · exact HI.out h
          · exact HZ.out h.symm
        · show n - ((i + 1 : Nat) : Int).toNat < n - (i : Int).toNat
          omega
    · obtain rfl : i = n := by omega
      go_wp2
      go_ret
      obtain ⟨hr, hnn, b1⟩ := HL.out
      refine ⟨?_, b1⟩
      have := HI.out
      rw [List.take_of_length_le (by omega)] at this
      rw [decide_eq_false this]
      rfl
end Go.Proofs.YtldlljobofnmmabDoor

namespace Go.Proofs.YtldlljobofnmmabDoor
open Go.RowKit
set_option linter.unusedVariables false
set_option linter.unusedSimpArgs false

theorem nmI_ok {i : Nat} (h : i ≤ 9000000000000) : (nmI i).ok := ⟨by simp [nmI], by simp only [nmI]; omega, by simp only [nmI]; omega⟩
theorem nmI_v (i : Nat) : (nmI i).v = .agg #[.int .u8 ((i : Int) % 256), .int .u8 ((i : Int) / 256 % 256), .int .u8 ((i : Int) / 65536 % 256), .int .u8 0, .int .u8 0, .int .u8 0, .int .u8 0, .int .u8 0, .int .u8 0, .int .u8 0, .int .u8 0, .int .u8 0, .int .u8 0, .int .u8 0, .int .u8 0, .int .u8 0, .int .u8 0, .int .u8 0, .int .u8 0, .int .u8 0, .int .u8 0, .int .u8 0, .int .u8 0, .int .u8 0, .int .u8 0, .int .u8 0, .int .u8 0, .int .u8 0, .int .u8 0, .int .u8 0, .int .u8 0, .int .u8 0, .int .i64 ((i : Int) + 1)] := by
  have h : ∀ k : Nat, ((UInt8.ofNat k).toNat : Int) = (k : Int) % 256 := fun k => by
    rw [UInt8.toNat_ofNat']
    omega
  have e1 : ((i / 256 : Nat) : Int) = (i : Int) / 256 := by omega
  have e2 : ((i / 65536 : Nat) : Int) = (i : Int) / 65536 := by omega
  unfold IdK.v IdK.c
  simp only [nmI, hcs, bs, List.map_cons, List.map_replicate, h, e1, e2]
  rfl
set_option maxRecDepth 100000 in
set_option maxHeartbeats 2000000 in
/-- The Id of the call of a number. -/
theorem name_any (w : World) {i : Nat} (h : i ≤ 9000000000000) : Calls Tryd.prog 19 #[.int .i64 (i : Int)] w fun e w' => e = .returned (nmI i).v ∧ Below w.heap.size w w' := by
  obtain ⟨w1, w2, E1, E2, n2, b2⟩ := id_newR w (nmI_ok h)
  rw [nmI_v] at E2
  have H1 := hidMk E1
  have H2 := hidMk E2
  have HF := hidMk (And.intro n2 b2)
  have HL : Hid ((Tryd.prog.info? 32).map (·.size) = some (nmI i).c.toArray.size) := by
    show _ = _
    rw [List.size_toArray, IdK.len (nmI_ok h)]
    exact szId
  clear E1 E2 n2 b2
  go_enter Tryd.func19, Tryd.ntmps19
  go_wp2_with (first
    | (refine wpList_run rfl (exec_alloc (w2 := w1) rfl H1.out) ?_)
    | (refine wpList_skip rfl rfl (exec_store (w2 := w2) rfl rfl rfl H2.out) ?_)
    | fail)
  refine bodyPost_ret (results_cell_row Tryd.results19 _ _ w.heap.size _ _ _ _ rfl HF.out.1 Tryd.underlying32 rfl HL.out) rfl ?_
  exact ⟨rfl, HF.out.2⟩
end Go.Proofs.YtldlljobofnmmabDoor

namespace Go.Proofs.YtldlljobofnmmabDoor
open Go.RowKit
set_option linter.unusedVariables false
set_option linter.unusedSimpArgs false

def enP (q : IdK × VaV) : EnV := ⟨q.1, q.2⟩
def idsK (kn : Nat → Bool) (k : Nat) : List IdK := ((List.range k).filter kn).map nmI
theorem idsK_len (kn : Nat → Bool) (k : Nat) : (idsK kn k).length ≤ k := by
  have := List.length_filter_le kn (List.range k)
  simpa [idsK] using this
theorem idsK_succ (kn : Nat → Bool) (k : Nat) : idsK kn (k + 1) = if kn k = true then idsK kn k ++ [nmI k] else idsK kn k := by
  unfold idsK
  rw [List.range_succ, List.filter_append, List.map_append]
  by_cases h : kn k = true
  · rw [if_pos h, List.filter_cons_of_pos h]; simp
  · rw [if_neg h, List.filter_cons_of_neg h]; simp
theorem idsK_ok (kn : Nat → Bool) {k : Nat} (h : k ≤ 9000000000000) : ∀ x ∈ idsK kn k, x.ok := by
  intro x hx
  obtain ⟨i, hi, rfl⟩ := List.mem_map.1 hx
  have := List.mem_range.1 (List.mem_filter.1 hi).1
  exact nmI_ok (by omega)
/-- A box of a list of Ids, and the list. -/
structure IdB (W : World) (ib : Nat) (iv : Value) (I : List IdK) (W' : World) : Prop where
  b : W'.heap[ib]? = some (.cells #[iv] 70 (0, 0))
  o : RI.Own W' W.heap.size iv I
  bel : Below W.heap.size W W'
  sl : ∃ s : SlV, iv = s.v
theorem idl_store {W : World} {ib : Nat} {iv : Value} {s : SlV} (h : W.heap[ib]? = some (.cells #[iv] 70 (0, 0))) : ∃ W', (Instr.storeAt 70 (.pointer (some ⟨ib, 0, none⟩)) s.v).run Tryd.prog W = .ok () W' ∧ W'.heap[ib]? = some (.cells #[s.v] 70 (0, 0)) ∧ Tch (fun j => j = ib) W W' := by
  have c0 : W.cell? ⟨ib, 0, none⟩ = some iv := (cell_of_row W ib 0 _ _ _ h).trans rfl
  have f0 := frozen_of_row W ib 0 _ _ h
  refine ⟨W.setCell ⟨ib, 0, none⟩ (.slice s.a s.n s.c), ?_, ?_, ⟨rfl, rfl, rfl, by simp [World.setCell], fun j _ hj => Go.heap_setCell_other _ _ _ _ hj⟩⟩
  · unfold SlV.v
    go_simp
  · exact Go.heap_setCell_same W ib 0 _ 70 _ h
theorem idl_load {W : World} {ib : Nat} {s : SlV} (h : W.heap[ib]? = some (.cells #[s.v] 70 (0, 0))) : (Instr.loadAt 70 (.pointer (some ⟨ib, 0, none⟩))).run Tryd.prog W = .ok s.v W := by
  have c0 : W.cell? ⟨ib, 0, none⟩ = some (.slice s.a s.n s.c) := (cell_of_row W ib 0 _ _ _ h).trans rfl
  unfold SlV.v
  go_simp
theorem idl_new (W : World) : ∃ W', (Instr.alloc 70 true (.tuple #[])).run Tryd.prog W = .ok (.pointer (some ⟨W.heap.size, 0, none⟩)) W' ∧ IdB W W.heap.size (.slice none 0 0) [] W' :=
  ⟨W.alloc (.cells #[.slice none 0 0] 70), by kernel_rfl, heap_alloc_new _ _, RowT.own_nil RI _ _, (Below.refl _ _).alloc (Nat.le_refl _) _, ⟨none, 0, 0⟩, rfl⟩
theorem IdB.below {W W1 W2 : World} {ib : Nat} {iv : Value} {I : List IdK} (h : IdB W ib iv I W1) (b : Below W1.heap.size W1 W2) : IdB W ib iv I W2 := ⟨(b.block _ (Array.getElem?_eq_some_iff.1 h.b).1).trans h.b, h.o.below b, h.bel.trans (b.mono h.bel.size), h.sl⟩
/-- An Id more. -/
theorem IdB.push {W W1 : World} {ib : Nat} {iv : Value} {I : List IdK} (h : IdB W ib iv I W1) (hib : W.heap.size ≤ ib) {y : IdK} (hy : y.ok) (hn : I.length + 1 ≤ 5000000000000) :
    ∃ sv w1 u w2 w3, (Instr.buildSlice 70 1 #[(0, y.v)]).run Tryd.prog W1 = .ok sv w1 ∧ w1.heap[ib]? = some (.cells #[iv] 70 (0, 0)) ∧ (Builtin.append_ #[70, 70] 70 #[iv, sv]).run Tryd.prog w1 = .ok u w2 ∧ w2.heap[ib]? = some (.cells #[iv] 70 (0, 0)) ∧ (Instr.storeAt 70 (.pointer (some ⟨ib, 0, none⟩)) u).run Tryd.prog w2 = .ok () w3 ∧ ∃ iv', IdB W ib iv' (I ++ [y]) w3 := by
  have hb := h.bel.size
  obtain ⟨sv, w1, u, w2, E1, E2, o2, b1, z1, g2, q2⟩ := RowT.run_push RI_is W1 W.heap.size iv I y h.o hy (by unfold maxLen; omega) (by show _ * 40 ≤ _; omega) hb
  obtain ⟨oa, oc, eo⟩ := o2.form
  have hl := (Array.getElem?_eq_some_iff.1 h.b).1
  have n1 : w1.heap[ib]? = _ := (b1.block ib hl).trans h.b
  have hne : iv.ownBlock ≠ some ib := fun e => by
    obtain ⟨_, c, hc⟩ := h.o.cells e
    have := h.b
    rw [hc] at this
    injection this with this
    injection this with _ h2 _
    revert h2
    decide
  have n2 : w2.heap[ib]? = _ := (g2.block ib (Array.getElem?_eq_some_iff.1 n1).1 (fun e => hne e.symm)).trans n1
  obtain ⟨w3, E3, n3, t3⟩ := idl_store (s := ⟨oa, _, oc⟩) n2
  have hu : u.ownBlock ≠ some ib := fun e => by
    obtain ⟨_, c, hc⟩ := o2.cells e
    rw [hc] at n2
    injection n2 with n2
    injection n2 with _ h2 _
    revert h2
    decide
  have bel1 : Below W.heap.size W w1 := h.bel.trans (b1.mono hb)
  have bel2 : Below W.heap.size W w2 := bel1.grown g2 (Nat.le_trans hb b1.size) (fun k hk => (h.o.cells hk).1)
  refine ⟨sv, w1, u, w2, w3, E1, n1, E2, n2, by rw [eo]; exact E3, _, n3, ?_, bel2.trans (t3.below (Nat.le_trans hb (Nat.le_trans b1.size g2.size)) (fun j e => by rw [e]; exact hib)), ⟨oa, _, oc⟩, rfl⟩
  have : RI.Own w3 W.heap.size u (I ++ [y]) := o2.keep (fun k hk => t3.block k (o2.lt hk) (fun e => hu (by rw [← e]; exact hk)))
  rw [eo] at this
  exact this
set_option maxRecDepth 100000 in
set_option maxHeartbeats 2000000 in
/-- do's closure. -/
theorem tells_do {W : World} {ib : Nat} {s : SlV} {I : List IdK} (hb : W.heap[ib]? = some (.cells #[s.v] 70 (0, 0))) {base : Nat} (ho : RI.Own W base s.v I) (ok : ∀ x ∈ I, x.ok) (hn : I.length ≤ 9000000000000) : Tells W 20 #[.pointer (some ⟨ib, 0, none⟩)] (fun k => decide (k ∈ I)) := by
  refine ⟨enters_of Tryd.func20 (by kernel_rfl) rfl, fun w bW k hk => ?_⟩
  obtain ⟨w1, E1, n1, b1⟩ := box_id w k
  have h2 := (bW.block ib (Array.getElem?_eq_some_iff.1 hb).1).trans hb
  have hb1 := (b1.block ib (Array.getElem?_eq_some_iff.1 h2).1).trans h2
  have o1 := (ho.below bW).below b1
  obtain ⟨a, c, es, hat, _⟩ := o1.open RI_is ok
  have CS := hidMk (saw_any ok hn (c := c) hat hk)
  rw [← es] at CS
  have H1 := hidMk E1
  have L1 := hidMk (idl_load hb1)
  have L2 := hidMk (load_id hk n1)
  have HB := hidMk b1
  clear E1 n1 b1 hb1 o1 es hat bW hb ho h2
  show Calls Tryd.prog 20 #[k.v, .pointer (some ⟨ib, 0, none⟩)] w _
  go_enter Tryd.func20, Tryd.ntmps20
  go_wp2_with (first
    | (refine wpList_run rfl (exec_boxE (t := 32) (v := k.v) (u := .pointer (some ⟨w.heap.size, 0, none⟩)) (w2 := w1) rfl rfl H1.out) ?_)
    | (refine wpList_val rfl (exec_load (t := 70) (v := s.v) rfl rfl L1.out) ?_)
    | (refine wpList_val rfl (exec_load (t := 32) (v := k.v) rfl rfl L2.out) ?_)
    | (go_at_call 21; refine CS.out.mono ?_; rintro e w2 ⟨rfl, b2⟩; have B2 := hidMk b2; clear b2 CS)
    | fail)
  go_ret
  exact ⟨rfl, HB.out.trans (B2.out.mono HB.out.size)⟩
end Go.Proofs.YtldlljobofnmmabDoor

namespace Go.Proofs.YtldlljobofnmmabDoor
open Go.RowKit
set_option linter.unusedVariables false
set_option linter.unusedSimpArgs false

/-- What the law was handed. -/
structure LwI (w : World) (pa : Option Addr) (Ps : List PlK) (a : Option Addr) (L : List SyR) : Prop where
  hP : RowAt 67 PlK.c w pa Ps
  okP : ∀ x ∈ Ps, x.ok
  hPn : Ps.length ≤ 2000000000000
  hL : RowAt 8 SyR.c w a L
  okL : ∀ x ∈ L, x.ok w
  hLn : L.length ≤ 2000000000000
theorem OpN.from {W W3 w' : World} {base : Nat} {s s' : Rs} {H : List Rec} {p : PlK} {L : List EnV} {rc : Rec} (b : Below W.heap.size W W3) (h : OpN W3 base s H p L rc s' w') : OpN W base s H p L rc s' w' := ⟨h.at', h.r, h.li, fun j hj => (h.al j hj).imp id (Nat.le_trans b.size), (tch_of b _).trans' h.tch (fun j _ q => q), Nat.le_trans b.size h.new, h.rp, h.rb⟩
theorem res_enP (I : List IdK) (M : List (IdK × VaV)) : Rg.res (fun y : EnV => decide (y.id ∈ I)) (M.map enP) = (M.filter (fun x => !decide (x.1 ∈ I))).map enP := by
  unfold Rg.res
  rw [List.filter_map]
  rfl
theorem chs_enP (I : List IdK) (f : VaV → VaV) (M : List (IdK × VaV)) : chs (fun y : EnV => decide (y.id ∈ I)) f (M.map enP) = (M.map (fun x => if decide (x.1 ∈ I) then (x.1, f x.2) else x)).map enP := by
  unfold chs
  rw [List.map_map, List.map_map]
  refine List.map_congr_left fun x _ => ?_
  by_cases h : x.1 ∈ I <;> simp [enP, chg, h]
set_option maxRecDepth 100000 in
set_option maxHeartbeats 8000000 in
/-- do. -/
theorem do_any {w W : World} {B : Nat} {s : Rs} {H : List Rec} (ra : RgAt W B s H) (bel : Below w.heap.size w W) (hlo : w.heap.size ≤ B) (hhi : B ≤ W.heap.size) {pa : Option Addr} {pc : Nat} {Ps : List PlK} {a : Option Addr} {c : Nat} {L : List SyR} (li : LwI w pa Ps a L) {i : Nat} {x : SyR} (hx : L[i]? = some x)
    {M : List (IdK × VaV)} (hM : liOf s.P (atP Ps x.pl) = M.map enP) (hn : M.length + 1 ≤ 2500000000000) :
    Calls Tryd.prog 7 #[.pointer (some ⟨s.r, 0, none⟩), .slice pa Ps.length pc, .slice a L.length c, .int .i64 (i : Int)] W (OpE W B s H (atP Ps x.pl) ((Rv.op nmI i (x.s Ps) M).map enP)) := by
  have hi : i < L.length := (List.getElem?_eq_some_iff.1 hx).1
  have hxo : x.ok w := li.okL x (List.mem_of_getElem? hx)
  obtain ⟨g, o, rfl, lg, hr⟩ : ∃ g o, a = some ⟨g, o, none⟩ ∧ g < w.heap.size ∧ w.rangeAt g (o + 8 * i) x.c := by
    rcases li.hL with h | ⟨g, o, e, h1, h2⟩
    · rw [h] at hx; cases hx
    · exact ⟨g, o, e, h1, by rw [Nat.mul_comm]; exact h2 i x hx⟩
  have HX := hidMk (fun (W' : World) (hw : Below w.heap.size w W') => rangeAt_keep hr (hw.block _ lg))
  have hLn := li.hLn
  have HAT : Hid (∀ W', Below w.heap.size w W' → Calls Tryd.prog 8 #[.slice pa Ps.length pc, .int .i64 x.pl] W' fun e w' => e = .returned (atP Ps x.pl).v ∧ Below W'.heap.size W' w') := fun W' b => at_any (li.hP.below b) li.okP li.hPn hxo.pl
  have hp : (atP Ps x.pl).ok := atP_ok li.okP _
  obtain ⟨kn, hkn⟩ : ∃ kn, (x.s Ps).kn = kn := ⟨_, rfl⟩
  have HKN := hidMk (show ∀ k : Nat, decide ((k : Int) ∈ x.sl) = kn k by intro k; rw [← hkn]; rfl)
  have HOP : Hid ((x.kind = 1 → Rg.res (fun y : EnV => decide (y.id ∈ idsK kn i)) (liOf s.P (atP Ps x.pl)) = (Rv.op nmI i (x.s Ps) M).map enP) ∧ (x.kind = 2 → chs (fun y : EnV => decide (y.id ∈ idsK kn i)) (sumV x.n) (liOf s.P (atP Ps x.pl)) = (Rv.op nmI i (x.s Ps) M).map enP) ∧ (x.kind ≠ 1 → x.kind ≠ 2 → Rg.res (fun y : EnV => decide (y.id ∈ idsK kn i)) (liOf s.P (atP Ps x.pl)) ++ [⟨nmI i, x.v⟩] = (Rv.op nmI i (x.s Ps) M).map enP)) := by
    have e1 : Rv.ids nmI (x.s Ps) i = idsK kn i := by rw [← hkn]; rfl
    have e2 : (x.s Ps).kd = x.kind := rfl
    rw [hM]
    unfold Rv.op
    rw [e1, e2]
    refine ⟨fun h => ?_, fun h => ?_, fun h1 h2 => ?_⟩
    · rw [if_pos h, res_enP]
    · rw [if_neg (by omega), if_pos h, chs_enP]; rfl
    · rw [if_neg h1, if_neg h2, res_enP, List.map_append]; rfl
  have hln : (liOf s.P (atP Ps x.pl)).length + 1 ≤ 2500000000000 := by rw [hM, List.length_map]; exact hn
  obtain ⟨L', hL'⟩ : ∃ L', (Rv.op nmI i (x.s Ps) M).map enP = L' := ⟨_, rfl⟩
  rw [hL'] at HOP ⊢
  obtain ⟨p, hp0⟩ : ∃ p, atP Ps x.pl = p := ⟨_, rfl⟩
  rw [hp0] at HAT hp HOP hln ⊢
  obtain ⟨n, hnn⟩ : ∃ n, L.length = n := ⟨_, rfl⟩
  obtain ⟨pn, hpn⟩ : ∃ n, Ps.length = n := ⟨_, rfl⟩
  rw [hnn] at hi hLn ⊢
  rw [hpn] at HAT ⊢
  have h63 : n ≤ 9223372036854775807 := by omega
  have HRA := hidMk (And.intro ra (And.intro bel (And.intro hlo (And.intro hhi (And.intro hxo hln)))))
  obtain ⟨W1, E1, ib1⟩ := idl_new W
  have H1 := hidMk E1
  obtain ⟨ib, hib⟩ : ∃ b, W.heap.size = b := ⟨_, rfl⟩
  have HIB := hidMk hib
  have I1 : Hid (∃ iv, IdB W ib iv (idsK kn 0) W1) := ⟨_, by rw [← hib]; exact ib1⟩
  rw [hib] at H1
  clear ra bel hlo hhi hxo li hx hM hn hr lg hkn hL' hp0 hnn hpn E1 ib1 hln hib
  obtain ⟨sr, hsr⟩ : ∃ b, s.r = b := ⟨_, rfl⟩
  have HSR := hidMk hsr
  rw [hsr]
  clear hsr
  go_enter Tryd.func7, Tryd.ntmps7
  go_wp2_with (first
    | (refine wpList_run rfl (exec_alloc (w2 := W1) rfl H1.out) ?_)
    | fail)
  clear H1
  go_loopw [10] (fun v10 wr => ∃ k : Nat, v10 = .int .i64 (k : Int) ∧ k ≤ i ∧ Hid (∃ iv, IdB W ib iv (idsK kn k) wr)) (fun v10 wr => i - (match v10 with | .int _ i => i.toNat | _ => 0))
  case atStart => exact ⟨0, rfl, Nat.zero_le _, I1⟩
  case round =>
    clear I1
    obtain ⟨k, rfl, hki, HI⟩ := hrel
    by_cases hk : k < i
    · have CK : Hid (Calls Tryd.prog 18 #[x.a, .int .i64 (k : Int)] wr fun e w' => e = .returned (.bool (kn k)) ∧ ∃ iv, IdB W ib iv (idsK kn k) w') := by
        obtain ⟨iv, hb⟩ := HI.out
        have bw : Below w.heap.size w wr := HRA.out.2.1.trans (hb.bel.mono HRA.out.2.1.size)
        refine (knows_any (HRA.out.2.2.2.2.1.below bw) (k := k) (by omega)).mono ?_
        rintro e w' ⟨rfl, b⟩
        exact ⟨by rw [HKN.out], iv, hb.below b⟩
      have LS : Hid (∀ W', W' = wr → (Instr.loadAt 42 (.pointer (some ⟨g, o + 8 * i, none⟩))).run Tryd.prog W' = .ok x.a W') := fun W' e => by
        obtain ⟨iv, hb⟩ := HI.out
        rw [e]
        exact ld_say (HX.out wr (HRA.out.2.1.trans (hb.bel.mono HRA.out.2.1.size)))
      clear HI
      go_upto_region 5 with fail
      refine do5 (g := g) (o := o) (n := n) (c := c) (i := i) (k := k) (x := x) (r := kn k) (fun w' => ∃ iv, IdB W ib iv (idsK kn k) w') _ wr _ rfl rfl rfl rfl hi h63 LS.out CK.out ?_
      intro a' w3 hf ha
      subst ha
      simp only [Act.put, List.setIfInBounds_toArray, List.set_cons_zero, List.set_cons_succ]
      have H3 := hidMk hf
      clear hf CK LS
      by_cases hs : kn k = true
      · have HS := hidMk hs
        rw [hs]
        clear hs
        obtain ⟨iv, hb⟩ := H3.out
        obtain ⟨sv0, esv⟩ := hb.sl
        have hbd := hb.below (Below.refl w3.heap.size w3).drew
        have LI : Hid (∀ W' : World, W'.heap[ib]? = some (.cells #[iv] 70 (0, 0)) → (Instr.loadAt 70 (.pointer (some ⟨ib, 0, none⟩))).run Tryd.prog W' = .ok iv W') := fun W' h => by
          rw [esv] at h ⊢
          exact idl_load h
        have CN : Hid (Calls Tryd.prog 19 #[.int .i64 (k : Int)] w3.drew fun e w' => e = .returned (nmI k).v ∧ w'.heap[ib]? = some (.cells #[iv] 70 (0, 0)) ∧ ∃ sv w1 u w2 w3, (Instr.buildSlice 70 1 #[(0, (nmI k).v)]).run Tryd.prog w' = .ok sv w1 ∧ w1.heap[ib]? = some (.cells #[iv] 70 (0, 0)) ∧ (Builtin.append_ #[70, 70] 70 #[iv, sv]).run Tryd.prog w1 = .ok u w2 ∧ w2.heap[ib]? = some (.cells #[iv] 70 (0, 0)) ∧ (Instr.storeAt 70 (.pointer (some ⟨ib, 0, none⟩)) u).run Tryd.prog w2 = .ok () w3 ∧ ∃ iv', IdB W ib iv' (idsK kn (k + 1)) w3) := by
          refine (name_any w3.drew (i := k) (by omega)).mono ?_
          rintro e w' ⟨rfl, b⟩
          have h2 := hbd.below b
          refine ⟨rfl, h2.b, ?_⟩
          have := h2.push (by rw [HIB.out]; exact Nat.le_refl _) (nmI_ok (i := k) (by omega)) (by have := idsK_len kn k; omega)
          rw [idsK_succ, if_pos HS.out]
          exact this
        have HB := hidMk hbd.b
        clear hb hbd esv H3
        go_upto_region 6 with fail
        refine do6 (ib := ib) (k := k) (iv := iv) (y := nmI k) (fun W' => W'.heap[ib]? = some (.cells #[iv] 70 (0, 0))) (fun w' => ∃ iv', IdB W ib iv' (idsK kn (k + 1)) w') _ w3 _ rfl rfl rfl HB.out LI.out CN.out ?_
        intro sv u a' w4 hf ha
        subst ha
        simp only [Act.put, List.setIfInBounds_toArray, List.set_cons_zero, List.set_cons_succ]
        have H4 := hidMk hf
        clear hf CN LI HB
        go_wp2
        rw [show ((k : Int) + 1) = ((k + 1 : Nat) : Int) by omega]
        refine ⟨⟨k + 1, rfl, hk, H4.out⟩, ?_⟩
        show i - ((k + 1 : Nat) : Int).toNat < i - (k : Int).toNat
        omega
      · have HS := hidMk hs
        rw [show kn k = false by simpa using hs]
        clear hs
        go_wp2
        rw [show ((k : Int) + 1) = ((k + 1 : Nat) : Int) by omega]
        refine ⟨⟨k + 1, rfl, hk, by rw [idsK_succ, if_neg HS.out]; exact H3.out⟩, ?_⟩
        show i - ((k + 1 : Nat) : Int).toNat < i - (k : Int).toNat
        omega
    · obtain rfl : k = i := by omega
      have HI2 := hidMk HI.out
      clear HI hki hk
      have SEEN : Hid (∃ sn : SlV, IdB W ib sn.v (idsK kn k) wr ∧ ∀ W', Below wr.heap.size wr W' → Seen W' (.func (.func 20) #[] #[.pointer (some ⟨ib, 0, none⟩)]) (fun id => decide (id ∈ idsK kn k))) := by
        obtain ⟨iv, hb⟩ := HI2.out
        obtain ⟨sn, rfl⟩ := hb.sl
        exact ⟨sn, hb, fun W' b => Seen.below (.inr ⟨_, _, rfl, tells_do hb.b hb.o (idsK_ok kn (by omega)) (by have := idsK_len kn k; omega)⟩) b⟩
      clear HI2
      have BR : Hid (Below W.heap.size W wr ∧ Below w.heap.size w wr) := by
        obtain ⟨sn, hb, _⟩ := SEEN.out
        exact ⟨hb.bel, HRA.out.2.1.trans (hb.bel.mono HRA.out.2.1.size)⟩
      have CA : Hid (Calls Tryd.prog 8 #[.slice pa pn pc, .int .i64 x.pl] wr fun e w' => e = .returned p.v ∧ ∃ pb w1 w2, (Instr.alloc 34 true (.tuple #[])).run Tryd.prog w' = .ok (.pointer (some ⟨pb, 0, none⟩)) w1 ∧ (Instr.storeAt 34 (.pointer (some ⟨pb, 0, none⟩)) p.v).run Tryd.prog w1 = .ok () w2 ∧ (Below wr.heap.size wr w2 ∧ Np pb p w2)) := by
        refine (HAT.out wr BR.out.2).mono ?_
        rintro e w' ⟨rfl, b⟩
        obtain ⟨w1, w2, e1, e2, n2, b2⟩ := pl_new w' hp
        exact ⟨rfl, w'.heap.size, w1, w2, e1, e2, b.trans (b2.mono b.size), n2⟩
      go_upto_region 8 with fail
      refine do8 (g := g) (o := o) (n := n) (c := c) (i := k) (pn := pn) (pc := pc) (pa := pa) (p := p) (x := x) (fun pb w' => Below wr.heap.size wr w' ∧ Np pb p w') _ wr _ rfl rfl rfl rfl hi h63 (fun W' e => by rw [e]; exact say_pl (HX.out wr BR.out.2)) CA.out ?_
      intro pb a' w3 hf ha
      subst ha
      simp only [Act.put, List.setIfInBounds_toArray, List.set_cons_zero, List.set_cons_succ]
      have H3 : Hid (Below W.heap.size W w3 ∧ Below w.heap.size w w3 ∧ Np pb p w3 ∧ Seen w3 (.func (.func 20) #[] #[.pointer (some ⟨ib, 0, none⟩)]) (fun id => decide (id ∈ idsK kn k))) := by
        obtain ⟨sn, hb, hsn⟩ := SEEN.out
        exact ⟨BR.out.1.trans (hf.1.mono BR.out.1.size), BR.out.2.trans (hf.1.mono BR.out.2.size), hf.2, hsn w3 hf.1⟩
      -- what an op leaves
      have FIN : Hid (∀ W4, Below w3.heap.size w3 W4 → ∀ L2, L2 = L' → ∀ e w', OpE W4 B s H p L2 e w' → ∃ bk, e = .returned (.pointer (some ⟨bk, 0, none⟩)) ∧ (Below w.heap.size w w' ∧ Np pb p w') ∧ ∃ (rc : Rec) (s' : Rs), rc.bk = bk ∧ OpN W B s H p L' rc s' w') := by
        rintro W4 b4 L2 rfl e w' ⟨rc, s', rfl, o⟩
        have b34 := H3.out.1.trans (b4.mono H3.out.1.size)
        have o2 := o.from b34
        have ra := HRA.out.1
        have bw : Below w.heap.size w w' := HRA.out.2.1.trans (o2.tch.below HRA.out.2.1.size (fun j hj => Nat.le_trans HRA.out.2.2.1 (ra.mem.geAll hj)))
        have np4 := H3.out.2.2.1.below b4
        have np' : Np pb p w' := (o.tch.block _ (Array.getElem?_eq_some_iff.1 np4).1 ((ra.mem.below b34).other np4 (by decide) (by decide))).trans np4
        exact ⟨_, rfl, ⟨bw, np'⟩, rc, s', rfl, o2⟩
      clear hf CA SEEN BR
      go_upto_region 9 with fail
      refine do9 (g := g) (o := o) (n := n) (c := c) (i := k) (x := x) _ w3 _ rfl rfl rfl hi h63 (fun W' e => by rw [e]; exact say_kind (HX.out w3 H3.out.2.1)) ?_
      intro a' w4 hf ha
      subst ha
      obtain rfl : w3 = w4 := hf.symm
      simp only [Act.put, List.setIfInBounds_toArray, List.set_cons_zero, List.set_cons_succ]
      have bd : Below w3.heap.size w3 w3.drew := (Below.refl w3.heap.size w3).drew
      by_cases h1 : x.kind = 1
      · have HK := hidMk h1
        rw [h1]
        have CD : Hid (Calls Tryd.prog 22 #[.pointer (some ⟨sr, 0, none⟩), p.v, .func (.func 20) #[] #[.pointer (some ⟨ib, 0, none⟩)]] w3 fun e w' => ∃ bk, e = .returned (.pointer (some ⟨bk, 0, none⟩)) ∧ ∃ (rc : Rec) (s' : Rs), rc.bk = bk ∧ OpN W B s H p L' rc s' w') := by
          rw [← HSR.out]
          refine (delete_any (HRA.out.1.below H3.out.1) (Nat.le_trans HRA.out.2.2.2.1 H3.out.1.size) hp H3.out.2.2.2 (by have := HRA.out.2.2.2.2.2; omega)).mono ?_
          intro e w' ho
          obtain ⟨bk, e1, _, e2⟩ := FIN.out w3 (Below.refl _ _) _ (HOP.out.1 HK.out) e w' ho
          exact ⟨bk, e1, e2⟩
        have LP := hidMk (ld_pl hp (rng_cells H3.out.2.2.1))
        clear h1
        go_upto_region 11 with fail
        refine do11 (fv := .func (.func 20) #[] #[.pointer (some ⟨ib, 0, none⟩)]) (rb := sr) (pb := pb) (p := p) (fun bk w' => ∃ (rc : Rec) (s' : Rs), rc.bk = bk ∧ OpN W B s H p L' rc s' w') _ w3 _ rfl rfl rfl rfl (fun W' e => by rw [e]; exact LP.out) CD.out ?_
        intro bk a' w5 hf ha
        subst ha
        simp only [Act.put, List.setIfInBounds_toArray, List.set_cons_zero, List.set_cons_succ]
        have HF := hidMk hf
        clear hf CD
        go_wp2
        go_ret
        obtain ⟨rc, s', e, o⟩ := HF.out
        subst e
        exact ⟨rc, s', rfl, o⟩
      · have e1 : (x.kind == 1) = false := by simpa using h1
        by_cases h2 : x.kind = 2
        · have HK := hidMk h2
          rw [h2]
          have CD : Hid (Calls Tryd.prog 16 #[.pointer (some ⟨sr, 0, none⟩), p.v, .int .i64 x.n, .func (.func 20) #[] #[.pointer (some ⟨ib, 0, none⟩)]] w3.drew fun e w' => ∃ bk, e = .returned (.pointer (some ⟨bk, 0, none⟩)) ∧ (Below w.heap.size w w' ∧ Np pb p w') ∧ ∃ (rc : Rec) (s' : Rs), rc.bk = bk ∧ OpN W B s H p L' rc s' w') := by
            rw [← HSR.out]
            refine (add_any ((HRA.out.1.below H3.out.1).below bd) (Nat.le_trans HRA.out.2.2.2.1 H3.out.1.size) hp HRA.out.2.2.2.2.1.n (H3.out.2.2.2.below bd) (by have := HRA.out.2.2.2.2.2; omega)).mono ?_
            intro e w' ho
            exact FIN.out w3.drew bd _ (HOP.out.2.1 HK.out) e w' ho
          clear h1 h2 e1
          go_upto_region 13 with fail
          refine do13 (fv := .func (.func 20) #[] #[.pointer (some ⟨ib, 0, none⟩)]) (rb := sr) (pb := pb) (g := g) (o := o) (n := n) (c := c) (i := k) (p := p) (x := x) (fun W' => Below w.heap.size w W' ∧ Np pb p W') (fun bk w' => ∃ (rc : Rec) (s' : Rs), rc.bk = bk ∧ OpN W B s H p L' rc s' w') _ w3 _ rfl rfl rfl rfl rfl rfl hi h63 ⟨H3.out.2.1.drew, H3.out.2.2.1.below bd⟩ (fun W' h => ld_pl hp (rng_cells h.2)) (fun W' h => say_n (HX.out W' h.1)) CD.out ?_
          intro bk a' w5 hf ha
          subst ha
          simp only [Act.put, List.setIfInBounds_toArray, List.set_cons_zero, List.set_cons_succ]
          have HF := hidMk hf
          clear hf CD bd
          go_wp2
          go_ret
          obtain ⟨rc, s', e, o⟩ := HF.out
          subst e
          exact ⟨rc, s', rfl, o⟩
        · have e2 : (x.kind == 2) = false := by simpa using h2
          have HK := hidMk (And.intro h1 h2)
          have CD : Hid (Calls Tryd.prog 19 #[.int .i64 (k : Int)] w3.drew fun e w1 => e = .returned (nmI k).v ∧ (Below w.heap.size w w1 ∧ Np pb p w1) ∧ Calls Tryd.prog 15 #[.pointer (some ⟨sr, 0, none⟩), p.v, (nmI k).v, x.v.v, .func (.func 20) #[] #[.pointer (some ⟨ib, 0, none⟩)]] w1 fun e w' => ∃ bk, e = .returned (.pointer (some ⟨bk, 0, none⟩)) ∧ (Below w.heap.size w w' ∧ Np pb p w') ∧ ∃ (rc : Rec) (s' : Rs), rc.bk = bk ∧ OpN W B s H p L' rc s' w') := by
            rw [← HSR.out]
            refine (name_any w3.drew (i := k) (by omega)).mono ?_
            rintro e w1 ⟨rfl, b1⟩
            have b31 := bd.trans (b1.mono bd.size)
            refine ⟨rfl, ⟨H3.out.2.1.trans (b31.mono H3.out.2.1.size), H3.out.2.2.1.below b31⟩, ?_⟩
            refine (put_any ((HRA.out.1.below H3.out.1).below b31) (Nat.le_trans HRA.out.2.2.2.1 (Nat.le_trans H3.out.1.size b31.size)) hp (nmI_ok (i := k) (by omega)) HRA.out.2.2.2.2.1.v (H3.out.2.2.2.below b31) (by have := HRA.out.2.2.2.2.2; omega)).mono ?_
            intro e w' ho
            exact FIN.out w1 b31 _ (HOP.out.2.2 HK.out.1 HK.out.2) e w' ho
          clear h1 h2
          generalize x.kind = z at e1 e2 ⊢
          go_upto_region 14 with fail
          refine do14 (fv := .func (.func 20) #[] #[.pointer (some ⟨ib, 0, none⟩)]) (rb := sr) (pb := pb) (g := g) (o := o) (n := n) (c := c) (i := k) (p := p) (x := x) (y := nmI k) (fun W' => Below w.heap.size w W' ∧ Np pb p W') (fun bk w' => ∃ (rc : Rec) (s' : Rs), rc.bk = bk ∧ OpN W B s H p L' rc s' w') _ w3 _ rfl rfl rfl rfl rfl rfl hi h63 ⟨H3.out.2.1.drew, H3.out.2.2.1.below bd⟩ (fun W' h => ld_pl hp (rng_cells h.2)) (fun W' h => say_va (HX.out W' h.1)) CD.out ?_
          intro bk a' w5 hf ha
          subst ha
          simp only [Act.put, List.setIfInBounds_toArray, List.set_cons_zero, List.set_cons_succ]
          have HF := hidMk hf
          clear hf CD bd
          go_wp2
          go_ret
          obtain ⟨rc, s', e, o⟩ := HF.out
          subst e
          exact ⟨rc, s', rfl, o⟩
end Go.Proofs.YtldlljobofnmmabDoor

namespace Go.Proofs.YtldlljobofnmmabDoor
open Go.RowKit
set_option linter.unusedVariables false
set_option linter.unusedSimpArgs false

set_option maxRecDepth 100000 in
set_option maxHeartbeats 8000000 in
theorem do_any2 {w W : World} {B : Nat} {s : Rs} {H : List Rec} (ra : RgAt W B s H) (bel : Below w.heap.size w W) (hhi : B ≤ W.heap.size) {pa : Option Addr} {pc : Nat} {Ps : List PlK} {a : Option Addr} {c : Nat} {L : List SyR} (li : LwI w pa Ps a L) {i : Nat} {x : SyR} (hx : L[i]? = some x) (hga : ∀ g o, a = some ⟨g, o, none⟩ → ¬ s.all g)
    {M : List (IdK × VaV)} (hM : liOf s.P (atP Ps x.pl) = M.map enP) (hn : M.length + 1 ≤ 2500000000000) :
    Calls Tryd.prog 7 #[.pointer (some ⟨s.r, 0, none⟩), .slice pa Ps.length pc, .slice a L.length c, .int .i64 (i : Int)] W (OpE W B s H (atP Ps x.pl) ((Rv.op nmI i (x.s Ps) M).map enP)) := by
  have hi : i < L.length := (List.getElem?_eq_some_iff.1 hx).1
  have hxo : x.ok w := li.okL x (List.mem_of_getElem? hx)
  obtain ⟨g, o, rfl, lg, hr⟩ : ∃ g o, a = some ⟨g, o, none⟩ ∧ g < w.heap.size ∧ w.rangeAt g (o + 8 * i) x.c := by
    rcases li.hL with h | ⟨g, o, e, h1, h2⟩
    · rw [h] at hx; cases hx
    · exact ⟨g, o, e, h1, by rw [Nat.mul_comm]; exact h2 i x hx⟩
  have hgn := hga g o rfl
  have HLG := hidMk lg
  clear hga
  have HX := hidMk (fun (W' : World) (hw : Below w.heap.size w W') => rangeAt_keep hr (hw.block _ lg))
  have hLn := li.hLn
  have HAT : Hid (∀ W', Below w.heap.size w W' → Calls Tryd.prog 8 #[.slice pa Ps.length pc, .int .i64 x.pl] W' fun e w' => e = .returned (atP Ps x.pl).v ∧ Below W'.heap.size W' w') := fun W' b => at_any (li.hP.below b) li.okP li.hPn hxo.pl
  have hp : (atP Ps x.pl).ok := atP_ok li.okP _
  obtain ⟨kn, hkn⟩ : ∃ kn, (x.s Ps).kn = kn := ⟨_, rfl⟩
  have HKN := hidMk (show ∀ k : Nat, decide ((k : Int) ∈ x.sl) = kn k by intro k; rw [← hkn]; rfl)
  have HOP : Hid ((x.kind = 1 → Rg.res (fun y : EnV => decide (y.id ∈ idsK kn i)) (liOf s.P (atP Ps x.pl)) = (Rv.op nmI i (x.s Ps) M).map enP) ∧ (x.kind = 2 → chs (fun y : EnV => decide (y.id ∈ idsK kn i)) (sumV x.n) (liOf s.P (atP Ps x.pl)) = (Rv.op nmI i (x.s Ps) M).map enP) ∧ (x.kind ≠ 1 → x.kind ≠ 2 → Rg.res (fun y : EnV => decide (y.id ∈ idsK kn i)) (liOf s.P (atP Ps x.pl)) ++ [⟨nmI i, x.v⟩] = (Rv.op nmI i (x.s Ps) M).map enP)) := by
    have e1 : Rv.ids nmI (x.s Ps) i = idsK kn i := by rw [← hkn]; rfl
    have e2 : (x.s Ps).kd = x.kind := rfl
    rw [hM]
    unfold Rv.op
    rw [e1, e2]
    refine ⟨fun h => ?_, fun h => ?_, fun h1 h2 => ?_⟩
    · rw [if_pos h, res_enP]
    · rw [if_neg (by omega), if_pos h, chs_enP]; rfl
    · rw [if_neg h1, if_neg h2, res_enP, List.map_append]; rfl
  have hln : (liOf s.P (atP Ps x.pl)).length + 1 ≤ 2500000000000 := by rw [hM, List.length_map]; exact hn
  obtain ⟨L', hL'⟩ : ∃ L', (Rv.op nmI i (x.s Ps) M).map enP = L' := ⟨_, rfl⟩
  rw [hL'] at HOP ⊢
  obtain ⟨p, hp0⟩ : ∃ p, atP Ps x.pl = p := ⟨_, rfl⟩
  rw [hp0] at HAT hp HOP hln ⊢
  obtain ⟨n, hnn⟩ : ∃ n, L.length = n := ⟨_, rfl⟩
  obtain ⟨pn, hpn⟩ : ∃ n, Ps.length = n := ⟨_, rfl⟩
  rw [hnn] at hi hLn ⊢
  rw [hpn] at HAT ⊢
  have h63 : n ≤ 9223372036854775807 := by omega
  have HRA := hidMk (And.intro ra (And.intro bel (And.intro hgn (And.intro hhi (And.intro hxo hln)))))
  obtain ⟨W1, E1, ib1⟩ := idl_new W
  have H1 := hidMk E1
  obtain ⟨ib, hib⟩ : ∃ b, W.heap.size = b := ⟨_, rfl⟩
  have HIB := hidMk hib
  have I1 : Hid (∃ iv, IdB W ib iv (idsK kn 0) W1) := ⟨_, by rw [← hib]; exact ib1⟩
  rw [hib] at H1
  clear ra bel hgn hhi hxo li hx hM hn hr lg hkn hL' hp0 hnn hpn E1 ib1 hln hib
  obtain ⟨sr, hsr⟩ : ∃ b, s.r = b := ⟨_, rfl⟩
  have HSR := hidMk hsr
  rw [hsr]
  clear hsr
  go_enter Tryd.func7, Tryd.ntmps7
  go_wp2_with (first
    | (refine wpList_run rfl (exec_alloc (w2 := W1) rfl H1.out) ?_)
    | fail)
  clear H1
  go_loopw [10] (fun v10 wr => ∃ k : Nat, v10 = .int .i64 (k : Int) ∧ k ≤ i ∧ Hid (∃ iv, IdB W ib iv (idsK kn k) wr)) (fun v10 wr => i - (match v10 with | .int _ i => i.toNat | _ => 0))
  case atStart => exact ⟨0, rfl, Nat.zero_le _, I1⟩
  case round =>
    clear I1
    obtain ⟨k, rfl, hki, HI⟩ := hrel
    by_cases hk : k < i
    · have CK : Hid (Calls Tryd.prog 18 #[x.a, .int .i64 (k : Int)] wr fun e w' => e = .returned (.bool (kn k)) ∧ ∃ iv, IdB W ib iv (idsK kn k) w') := by
        obtain ⟨iv, hb⟩ := HI.out
        have bw : Below w.heap.size w wr := HRA.out.2.1.trans (hb.bel.mono HRA.out.2.1.size)
        refine (knows_any (HRA.out.2.2.2.2.1.below bw) (k := k) (by omega)).mono ?_
        rintro e w' ⟨rfl, b⟩
        exact ⟨by rw [HKN.out], iv, hb.below b⟩
      have LS : Hid (∀ W', W' = wr → (Instr.loadAt 42 (.pointer (some ⟨g, o + 8 * i, none⟩))).run Tryd.prog W' = .ok x.a W') := fun W' e => by
        obtain ⟨iv, hb⟩ := HI.out
        rw [e]
        exact ld_say (HX.out wr (HRA.out.2.1.trans (hb.bel.mono HRA.out.2.1.size)))
      clear HI
      go_upto_region 5 with fail
      refine do5 (g := g) (o := o) (n := n) (c := c) (i := i) (k := k) (x := x) (r := kn k) (fun w' => ∃ iv, IdB W ib iv (idsK kn k) w') _ wr _ rfl rfl rfl rfl hi h63 LS.out CK.out ?_
      intro a' w3 hf ha
      subst ha
      simp only [Act.put, List.setIfInBounds_toArray, List.set_cons_zero, List.set_cons_succ]
      have H3 := hidMk hf
      clear hf CK LS
      by_cases hs : kn k = true
      · have HS := hidMk hs
        rw [hs]
        clear hs
        obtain ⟨iv, hb⟩ := H3.out
        obtain ⟨sv0, esv⟩ := hb.sl
        have hbd := hb.below (Below.refl w3.heap.size w3).drew
        have LI : Hid (∀ W' : World, W'.heap[ib]? = some (.cells #[iv] 70 (0, 0)) → (Instr.loadAt 70 (.pointer (some ⟨ib, 0, none⟩))).run Tryd.prog W' = .ok iv W') := fun W' h => by
          rw [esv] at h ⊢
          exact idl_load h
        have CN : Hid (Calls Tryd.prog 19 #[.int .i64 (k : Int)] w3.drew fun e w' => e = .returned (nmI k).v ∧ w'.heap[ib]? = some (.cells #[iv] 70 (0, 0)) ∧ ∃ sv w1 u w2 w3, (Instr.buildSlice 70 1 #[(0, (nmI k).v)]).run Tryd.prog w' = .ok sv w1 ∧ w1.heap[ib]? = some (.cells #[iv] 70 (0, 0)) ∧ (Builtin.append_ #[70, 70] 70 #[iv, sv]).run Tryd.prog w1 = .ok u w2 ∧ w2.heap[ib]? = some (.cells #[iv] 70 (0, 0)) ∧ (Instr.storeAt 70 (.pointer (some ⟨ib, 0, none⟩)) u).run Tryd.prog w2 = .ok () w3 ∧ ∃ iv', IdB W ib iv' (idsK kn (k + 1)) w3) := by
          refine (name_any w3.drew (i := k) (by omega)).mono ?_
          rintro e w' ⟨rfl, b⟩
          have h2 := hbd.below b
          refine ⟨rfl, h2.b, ?_⟩
          have := h2.push (by rw [HIB.out]; exact Nat.le_refl _) (nmI_ok (i := k) (by omega)) (by have := idsK_len kn k; omega)
          rw [idsK_succ, if_pos HS.out]
          exact this
        have HB := hidMk hbd.b
        clear hb hbd esv H3
        go_upto_region 6 with fail
        refine do6 (ib := ib) (k := k) (iv := iv) (y := nmI k) (fun W' => W'.heap[ib]? = some (.cells #[iv] 70 (0, 0))) (fun w' => ∃ iv', IdB W ib iv' (idsK kn (k + 1)) w') _ w3 _ rfl rfl rfl HB.out LI.out CN.out ?_
        intro sv u a' w4 hf ha
        subst ha
        simp only [Act.put, List.setIfInBounds_toArray, List.set_cons_zero, List.set_cons_succ]
        have H4 := hidMk hf
        clear hf CN LI HB
        go_wp2
        rw [show ((k : Int) + 1) = ((k + 1 : Nat) : Int) by omega]
        refine ⟨⟨k + 1, rfl, hk, H4.out⟩, ?_⟩
        show i - ((k + 1 : Nat) : Int).toNat < i - (k : Int).toNat
        omega
      · have HS := hidMk hs
        rw [show kn k = false by simpa using hs]
        clear hs
        go_wp2
        rw [show ((k : Int) + 1) = ((k + 1 : Nat) : Int) by omega]
        refine ⟨⟨k + 1, rfl, hk, by rw [idsK_succ, if_neg HS.out]; exact H3.out⟩, ?_⟩
        show i - ((k + 1 : Nat) : Int).toNat < i - (k : Int).toNat
        omega
    · obtain rfl : k = i := by omega
      have HI2 := hidMk HI.out
      clear HI hki hk
      have SEEN : Hid (∃ sn : SlV, IdB W ib sn.v (idsK kn k) wr ∧ ∀ W', Below wr.heap.size wr W' → Seen W' (.func (.func 20) #[] #[.pointer (some ⟨ib, 0, none⟩)]) (fun id => decide (id ∈ idsK kn k))) := by
        obtain ⟨iv, hb⟩ := HI2.out
        obtain ⟨sn, rfl⟩ := hb.sl
        exact ⟨sn, hb, fun W' b => Seen.below (.inr ⟨_, _, rfl, tells_do hb.b hb.o (idsK_ok kn (by omega)) (by have := idsK_len kn k; omega)⟩) b⟩
      clear HI2
      have BR : Hid (Below W.heap.size W wr ∧ Below w.heap.size w wr) := by
        obtain ⟨sn, hb, _⟩ := SEEN.out
        exact ⟨hb.bel, HRA.out.2.1.trans (hb.bel.mono HRA.out.2.1.size)⟩
      have CA : Hid (Calls Tryd.prog 8 #[.slice pa pn pc, .int .i64 x.pl] wr fun e w' => e = .returned p.v ∧ ∃ pb w1 w2, (Instr.alloc 34 true (.tuple #[])).run Tryd.prog w' = .ok (.pointer (some ⟨pb, 0, none⟩)) w1 ∧ (Instr.storeAt 34 (.pointer (some ⟨pb, 0, none⟩)) p.v).run Tryd.prog w1 = .ok () w2 ∧ (Below wr.heap.size wr w2 ∧ Np pb p w2)) := by
        refine (HAT.out wr BR.out.2).mono ?_
        rintro e w' ⟨rfl, b⟩
        obtain ⟨w1, w2, e1, e2, n2, b2⟩ := pl_new w' hp
        exact ⟨rfl, w'.heap.size, w1, w2, e1, e2, b.trans (b2.mono b.size), n2⟩
      go_upto_region 8 with fail
      refine do8 (g := g) (o := o) (n := n) (c := c) (i := k) (pn := pn) (pc := pc) (pa := pa) (p := p) (x := x) (fun pb w' => Below wr.heap.size wr w' ∧ Np pb p w') _ wr _ rfl rfl rfl rfl hi h63 (fun W' e => by rw [e]; exact say_pl (HX.out wr BR.out.2)) CA.out ?_
      intro pb a' w3 hf ha
      subst ha
      simp only [Act.put, List.setIfInBounds_toArray, List.set_cons_zero, List.set_cons_succ]
      have H3 : Hid (Below W.heap.size W w3 ∧ Below w.heap.size w w3 ∧ Np pb p w3 ∧ Seen w3 (.func (.func 20) #[] #[.pointer (some ⟨ib, 0, none⟩)]) (fun id => decide (id ∈ idsK kn k))) := by
        obtain ⟨sn, hb, hsn⟩ := SEEN.out
        exact ⟨BR.out.1.trans (hf.1.mono BR.out.1.size), BR.out.2.trans (hf.1.mono BR.out.2.size), hf.2, hsn w3 hf.1⟩
      -- what an op leaves
      have FIN : Hid (∀ W4, Below w3.heap.size w3 W4 → ∀ L2, L2 = L' → ∀ e w', OpE W4 B s H p L2 e w' → ∃ bk, e = .returned (.pointer (some ⟨bk, 0, none⟩)) ∧ (w'.rangeAt g (o + 8 * k) x.c ∧ Np pb p w') ∧ ∃ (rc : Rec) (s' : Rs), rc.bk = bk ∧ OpN W B s H p L' rc s' w') := by
        rintro W4 b4 L2 rfl e w' ⟨rc, s', rfl, oo⟩
        have b34 := H3.out.1.trans (b4.mono H3.out.1.size)
        have o2 := oo.from b34
        have ra := HRA.out.1
        have bw4 : Below w.heap.size w W4 := HRA.out.2.1.trans (b34.mono HRA.out.2.1.size)
        have bw : w'.rangeAt g (o + 8 * k) x.c := rangeAt_keep (HX.out W4 bw4) (oo.tch.block g (Nat.lt_of_lt_of_le HLG.out bw4.size) HRA.out.2.2.1)
        have np4 := H3.out.2.2.1.below b4
        have np' : Np pb p w' := (oo.tch.block _ (Array.getElem?_eq_some_iff.1 np4).1 ((ra.mem.below b34).other np4 (by decide) (by decide))).trans np4
        exact ⟨_, rfl, ⟨bw, np'⟩, rc, s', rfl, o2⟩
      clear hf CA SEEN BR
      go_upto_region 9 with fail
      refine do9 (g := g) (o := o) (n := n) (c := c) (i := k) (x := x) _ w3 _ rfl rfl rfl hi h63 (fun W' e => by rw [e]; exact say_kind (HX.out w3 H3.out.2.1)) ?_
      intro a' w4 hf ha
      subst ha
      obtain rfl : w3 = w4 := hf.symm
      simp only [Act.put, List.setIfInBounds_toArray, List.set_cons_zero, List.set_cons_succ]
      have bd : Below w3.heap.size w3 w3.drew := (Below.refl w3.heap.size w3).drew
      by_cases h1 : x.kind = 1
      · have HK := hidMk h1
        rw [h1]
        have CD : Hid (Calls Tryd.prog 22 #[.pointer (some ⟨sr, 0, none⟩), p.v, .func (.func 20) #[] #[.pointer (some ⟨ib, 0, none⟩)]] w3 fun e w' => ∃ bk, e = .returned (.pointer (some ⟨bk, 0, none⟩)) ∧ ∃ (rc : Rec) (s' : Rs), rc.bk = bk ∧ OpN W B s H p L' rc s' w') := by
          rw [← HSR.out]
          refine (delete_any (HRA.out.1.below H3.out.1) (Nat.le_trans HRA.out.2.2.2.1 H3.out.1.size) hp H3.out.2.2.2 (by have := HRA.out.2.2.2.2.2; omega)).mono ?_
          intro e w' ho
          obtain ⟨bk, e1, _, e2⟩ := FIN.out w3 (Below.refl _ _) _ (HOP.out.1 HK.out) e w' ho
          exact ⟨bk, e1, e2⟩
        have LP := hidMk (ld_pl hp (rng_cells H3.out.2.2.1))
        clear h1
        go_upto_region 11 with fail
        refine do11 (fv := .func (.func 20) #[] #[.pointer (some ⟨ib, 0, none⟩)]) (rb := sr) (pb := pb) (p := p) (fun bk w' => ∃ (rc : Rec) (s' : Rs), rc.bk = bk ∧ OpN W B s H p L' rc s' w') _ w3 _ rfl rfl rfl rfl (fun W' e => by rw [e]; exact LP.out) CD.out ?_
        intro bk a' w5 hf ha
        subst ha
        simp only [Act.put, List.setIfInBounds_toArray, List.set_cons_zero, List.set_cons_succ]
        have HF := hidMk hf
        clear hf CD
        go_wp2
        go_ret
        obtain ⟨rc, s', e, o⟩ := HF.out
        subst e
        exact ⟨rc, s', rfl, o⟩
      · have e1 : (x.kind == 1) = false := by simpa using h1
        by_cases h2 : x.kind = 2
        · have HK := hidMk h2
          rw [h2]
          have CD : Hid (Calls Tryd.prog 16 #[.pointer (some ⟨sr, 0, none⟩), p.v, .int .i64 x.n, .func (.func 20) #[] #[.pointer (some ⟨ib, 0, none⟩)]] w3.drew fun e w' => ∃ bk, e = .returned (.pointer (some ⟨bk, 0, none⟩)) ∧ (w'.rangeAt g (o + 8 * k) x.c ∧ Np pb p w') ∧ ∃ (rc : Rec) (s' : Rs), rc.bk = bk ∧ OpN W B s H p L' rc s' w') := by
            rw [← HSR.out]
            refine (add_any ((HRA.out.1.below H3.out.1).below bd) (Nat.le_trans HRA.out.2.2.2.1 H3.out.1.size) hp HRA.out.2.2.2.2.1.n (H3.out.2.2.2.below bd) (by have := HRA.out.2.2.2.2.2; omega)).mono ?_
            intro e w' ho
            exact FIN.out w3.drew bd _ (HOP.out.2.1 HK.out) e w' ho
          clear h1 h2 e1
          go_upto_region 13 with fail
          refine do13 (fv := .func (.func 20) #[] #[.pointer (some ⟨ib, 0, none⟩)]) (rb := sr) (pb := pb) (g := g) (o := o) (n := n) (c := c) (i := k) (p := p) (x := x) (fun W' => W'.rangeAt g (o + 8 * k) x.c ∧ Np pb p W') (fun bk w' => ∃ (rc : Rec) (s' : Rs), rc.bk = bk ∧ OpN W B s H p L' rc s' w') _ w3 _ rfl rfl rfl rfl rfl rfl hi h63 ⟨HX.out _ H3.out.2.1.drew, H3.out.2.2.1.below bd⟩ (fun W' h => ld_pl hp (rng_cells h.2)) (fun W' h => say_n h.1) CD.out ?_
          intro bk a' w5 hf ha
          subst ha
          simp only [Act.put, List.setIfInBounds_toArray, List.set_cons_zero, List.set_cons_succ]
          have HF := hidMk hf
          clear hf CD bd
          go_wp2
          go_ret
          obtain ⟨rc, s', e, o⟩ := HF.out
          subst e
          exact ⟨rc, s', rfl, o⟩
        · have e2 : (x.kind == 2) = false := by simpa using h2
          have HK := hidMk (And.intro h1 h2)
          have CD : Hid (Calls Tryd.prog 19 #[.int .i64 (k : Int)] w3.drew fun e w1 => e = .returned (nmI k).v ∧ (w1.rangeAt g (o + 8 * k) x.c ∧ Np pb p w1) ∧ Calls Tryd.prog 15 #[.pointer (some ⟨sr, 0, none⟩), p.v, (nmI k).v, x.v.v, .func (.func 20) #[] #[.pointer (some ⟨ib, 0, none⟩)]] w1 fun e w' => ∃ bk, e = .returned (.pointer (some ⟨bk, 0, none⟩)) ∧ (w'.rangeAt g (o + 8 * k) x.c ∧ Np pb p w') ∧ ∃ (rc : Rec) (s' : Rs), rc.bk = bk ∧ OpN W B s H p L' rc s' w') := by
            rw [← HSR.out]
            refine (name_any w3.drew (i := k) (by omega)).mono ?_
            rintro e w1 ⟨rfl, b1⟩
            have b31 := bd.trans (b1.mono bd.size)
            refine ⟨rfl, ⟨HX.out _ (H3.out.2.1.trans (b31.mono H3.out.2.1.size)), H3.out.2.2.1.below b31⟩, ?_⟩
            refine (put_any ((HRA.out.1.below H3.out.1).below b31) (Nat.le_trans HRA.out.2.2.2.1 (Nat.le_trans H3.out.1.size b31.size)) hp (nmI_ok (i := k) (by omega)) HRA.out.2.2.2.2.1.v (H3.out.2.2.2.below b31) (by have := HRA.out.2.2.2.2.2; omega)).mono ?_
            intro e w' ho
            exact FIN.out w1 b31 _ (HOP.out.2.2 HK.out.1 HK.out.2) e w' ho
          clear h1 h2
          generalize x.kind = z at e1 e2 ⊢
          go_upto_region 14 with fail
          refine do14 (fv := .func (.func 20) #[] #[.pointer (some ⟨ib, 0, none⟩)]) (rb := sr) (pb := pb) (g := g) (o := o) (n := n) (c := c) (i := k) (p := p) (x := x) (y := nmI k) (fun W' => W'.rangeAt g (o + 8 * k) x.c ∧ Np pb p W') (fun bk w' => ∃ (rc : Rec) (s' : Rs), rc.bk = bk ∧ OpN W B s H p L' rc s' w') _ w3 _ rfl rfl rfl rfl rfl rfl hi h63 ⟨HX.out _ H3.out.2.1.drew, H3.out.2.2.1.below bd⟩ (fun W' h => ld_pl hp (rng_cells h.2)) (fun W' h => say_va h.1) CD.out ?_
          intro bk a' w5 hf ha
          subst ha
          simp only [Act.put, List.setIfInBounds_toArray, List.set_cons_zero, List.set_cons_succ]
          have HF := hidMk hf
          clear hf CD bd
          go_wp2
          go_ret
          obtain ⟨rc, s', e, o⟩ := HF.out
          subst e
          exact ⟨rc, s', rfl, o⟩
end Go.Proofs.YtldlljobofnmmabDoor

namespace Go.Proofs.YtldlljobofnmmabDoor
open Go.RowKit
set_option linter.unusedVariables false
set_option linter.unusedSimpArgs false

def bkV (b : Nat) : Value := .pointer (some ⟨b, 0, none⟩)
theorem ld_bkp {W : World} {g i : Nat} {p : Option Addr} (hc : W.cell? ⟨g, i, none⟩ = some (.pointer p)) : (Instr.loadAt 27 (.pointer (some ⟨g, 0 + i, none⟩))).run Tryd.prog W = .ok (.pointer p) W := by
  rw [Nat.zero_add]
  go_simp
theorem Hist.lt {w : World} : ∀ {H : List Rec}, Hist w H → ∀ z ∈ H, z.bk < w.heap.size
  | [], _, z, hz => by cases hz
  | r :: H, h, z, hz => by
    rcases List.mem_cons.1 hz with rfl | hz
    · exact (Array.getElem?_eq_some_iff.1 h.1.b).1
    · exact Hist.lt h.2 z hz
theorem li_mem {w : World} {B : Nat} {s : Rs} (h : RgM w B s) (q : PlK) : q ∈ s.P.map (·.1) ↔ liOf s.P q ≠ [] := by
  rw [look_memI]
  unfold liOf
  cases e : M.look s.P q with
  | none => simp
  | some v =>
    have := (h.en (q, v) (M.look_mem e)).2.1
    simpa using this
theorem pl_grow {w w' : World} {B B' : Nat} {s s' : Rs} (h : RgM w B s) (h' : RgM w' B' s') {p : PlK} {L : List EnV} (li : ∀ q, liOf s'.P q = if q = p then L else liOf s.P q) : s'.P.length ≤ s.P.length + 1 := by
  have := nodup_len (l := s'.P.map (·.1)) (l' := p :: s.P.map (·.1)) h'.places (fun q hq => by
    rw [li_mem h', li] at hq
    by_cases e : q = p
    · rw [e]; exact List.mem_cons_self ..
    · rw [if_neg e, ← li_mem h] at hq
      exact List.mem_cons_of_mem _ hq)
  simpa using this
theorem pl_same {w w' : World} {B B' : Nat} {s s' : Rs} (h : RgM w B s) (h' : RgM w' B' s') (li : ∀ q, liOf s'.P q = liOf s.P q) : s'.P.length = s.P.length := by
  have a := nodup_len (l := s'.P.map (·.1)) (l' := s.P.map (·.1)) h'.places (fun q hq => by rw [li_mem h', li, ← li_mem h] at hq; exact hq)
  have b := nodup_len (l := s.P.map (·.1)) (l' := s'.P.map (·.1)) h.places (fun q hq => by rw [li_mem h, ← li, ← li_mem h'] at hq; exact hq)
  simp only [List.length_map] at a b
  omega
/-- A Regs behind so many calls. -/
structure BB (w0 : World) (B ro m : Nat) (s : Rs) (H : List Rec) (W : World) : Prop where
  ra : RgAt W B s H
  r : s.r = ro
  bel : Below w0.heap.size w0 W
  lo : w0.heap.size ≤ B
  hi : B ≤ W.heap.size
  le : ∀ q, (liOf s.P q).length ≤ m
  bf : ∀ r ∈ H, r.bef.length ≤ m
  nd : (H.map (·.bk)).Nodup
  pl : s.P.length ≤ m
section
variable {w0 W W' : World} {B ro m : Nat} {s s' : Rs} {H : List Rec}
theorem BB.below (h : BB w0 B ro m s H W) (b : Below W.heap.size W W') : BB w0 B ro m s H W' := ⟨h.ra.below b, h.r, h.bel.trans (b.mono h.bel.size), h.lo, Nat.le_trans h.hi b.size, h.le, h.bf, h.nd, h.pl⟩
theorem BB.mono (h : BB w0 B ro m s H W) {k : Nat} (hk : m ≤ k) : BB w0 B ro k s H W := ⟨h.ra, h.r, h.bel, h.lo, h.hi, fun q => Nat.le_trans (h.le q) hk, fun r hr => Nat.le_trans (h.bf r hr) hk, h.nd, Nat.le_trans h.pl hk⟩
theorem BB.op (h : BB w0 B ro m s H W) {p : PlK} {L : List EnV} {rc : Rec} (hn : OpN W B s H p L rc s' W') (hL : L.length ≤ m + 1) : BB w0 B ro (m + 1) s' (rc :: H) W' := by
  refine ⟨hn.at', hn.r.trans h.r, h.bel.trans (hn.tch.below h.bel.size (fun j hj => Nat.le_trans h.lo (h.ra.mem.allLo hj))), h.lo, Nat.le_trans h.hi hn.tch.size, fun q => ?_, fun r hr => ?_, ?_, ?_⟩
  · rw [hn.li]
    by_cases e : q = p
    · rw [if_pos e]; exact hL
    · rw [if_neg e]; have := h.le q; omega
  · rcases List.mem_cons.1 hr with rfl | hr
    · rw [hn.rb]; have := h.le p; omega
    · have := h.bf r hr; omega
  · rw [List.map_cons, List.nodup_cons]
    refine ⟨fun hm => ?_, h.nd⟩
    obtain ⟨z, hz, e⟩ := List.mem_map.1 hm
    have := h.ra.hist.lt z hz
    have := hn.new
    omega
  · have := pl_grow h.ra.mem hn.at'.mem hn.li
    have := h.pl
    omega
theorem BB.un {r : Rec} (h : BB w0 B ro m s (r :: H) W) (ra : RgAt W' B s' H) (hr : s'.r = s.r) (li : ∀ q, liOf s'.P q = if q = r.p then r.bef else liOf s.P q) (t : Tch s.all W W') : BB w0 B ro (m + 1) s' H W' := by
  refine ⟨ra, hr.trans h.r, h.bel.trans (t.below h.bel.size (fun j hj => Nat.le_trans h.lo (h.ra.mem.allLo hj))), h.lo, Nat.le_trans h.hi t.size, fun q => ?_, fun z hz => ?_, ?_, ?_⟩
  · rw [li]
    by_cases e : q = r.p
    · rw [if_pos e]; have := h.bf r (List.mem_cons_self ..); omega
    · rw [if_neg e]; have := h.le q; omega
  · have := h.bf z (List.mem_cons_of_mem _ hz); omega
  · have := h.nd
    rw [List.map_cons, List.nodup_cons] at this
    exact this.2
  · have := pl_grow h.ra.mem ra.mem li
    have := h.pl
    omega
end
/-- The steps taken back, as told by the places. -/
def unw : List Rec → PF → PF
  | [], f => f
  | r :: G, f => unw G (updF f r.p r.bef)
/-- A list of Backs. -/
structure LG (W : World) (B : Nat) (bv : Value) (BL : List Nat) : Prop where
  o : OwnV W B 27 bv (BL.map bkV)
  k : ∀ b ∈ BL, IsBk W b
section
variable {w0 W W' : World} {B ro m : Nat} {s s' : Rs} {H : List Rec} {bv : Value} {BL : List Nat}
theorem LG.below (h : LG W B bv BL) (b : Below W.heap.size W W') : LG W' B bv BL := ⟨h.o.below b, fun j hj => by obtain ⟨c, hc⟩ := h.k j hj; exact ⟨c, (b.block _ (Array.getElem?_eq_some_iff.1 hc).1).trans hc⟩⟩
theorem LG.prog (h : LG W B bv BL) (m : RgM W B s) (t : Tch s.all W W') : LG W' B bv BL := by
  refine ⟨h.o.keep fun j hj => ?_, fun b hb => ?_⟩
  · obtain ⟨_, c, hc⟩ := h.o.ge j hj
    exact t.block j (Array.getElem?_eq_some_iff.1 hc).1 (m.other hc (by decide) (by decide))
  · obtain ⟨c, hc⟩ := h.k b hb
    exact ⟨c, (t.block b (Array.getElem?_eq_some_iff.1 hc).1 (m.other hc (by decide) (by decide))).trans hc⟩
theorem infoBk : (Tryd.prog.info? 27).map (fun i => (i.zero, i.size, i.bytes)) = some (some (.pointer none), 1, 8) := by kernel_rfl
/-- A Back more. -/
theorem LG.push (h : LG W B bv BL) (hB : B ≤ W.heap.size) (hn : BL.length + 1 ≤ 2000000000000) {bk : Nat} (hb : IsBk W bk) :
    ∃ (sv : Value) (w1 : World) (bv2 : Value) (w2 : World), (Instr.buildSlice 51 1 #[(0, .pointer (some ⟨bk, 0, none⟩))]).run Tryd.prog W = .ok sv w1 ∧ (Builtin.append_ #[51, 51] 51 #[bv, sv]).run Tryd.prog w1 = .ok bv2 w2 ∧ LG w2 B bv2 (BL ++ [bk]) ∧ Tch (fun j => bv.ownBlock = some j) W w2 ∧ (bv2.ownBlock = bv.ownBlock ∨ ∀ j, bv2.ownBlock = some j → W.heap.size ≤ j) := by
  obtain ⟨sv, w1, bv2, w2, E1, b1, E2, o2, t2, q2⟩ := run_pushV 51 27 8 (.pointer none) Tryd.underlying51 infoBk (.inl rfl) rfl (bkV bk) rfl rfl h.o hB (by rw [List.length_map]; exact hn)
  refine ⟨sv, w1, bv2, w2, E1, E2, ⟨by rw [List.map_append]; exact o2, fun b hb' => ?_⟩, t2, q2⟩
  have : IsBk W b := by
    rcases List.mem_append.1 hb' with q | q
    · exact h.k b q
    · rw [List.mem_singleton.1 q]; exact hb
  obtain ⟨c, hc⟩ := this
  refine ⟨c, (t2.block b (Array.getElem?_eq_some_iff.1 hc).1 (fun e => ?_)).trans hc⟩
  obtain ⟨_, c2, hc2⟩ := h.o.ge b e
  exact absurd (two_types hc hc2) (by decide)
/-- The last Back cut off. -/
theorem OwnV.cut {w : World} {B e : Nat} {v : Value} {X : List Value} {x : Value} (h : OwnV w B e v (X ++ [x])) {g n c : Nat} (ev : v = .slice (some ⟨g, 0, none⟩) n c) : X.length ≤ c ∧ OwnV w B e (.slice (some ⟨g, 0, none⟩) X.length c) X := by
  rcases h.2 with ⟨rfl, hn⟩ | ⟨g', cap, cur, e1, hbg, hg, hnc, hcm, hcs, htake⟩
  · cases ev
  · rw [ev] at e1
    injection e1 with e1 e2 e3
    injection e1 with e1
    injection e1 with e1
    subst e1 e3
    have hlen : (X ++ [x]).length = X.length + 1 := by simp
    rw [hlen] at hnc htake
    refine ⟨by omega, by have := h.1; simp, .inr ⟨g, c, cur, rfl, hbg, hg, by omega, hcm, hcs, ?_⟩⟩
    rw [Nat.mul_one] at htake ⊢
    have := congrArg (List.take X.length) htake
    rw [List.take_take, Nat.min_eq_left (by omega), List.take_left] at this
    exact this
theorem LG.ld (h : LG W B bv BL) {g n c : Nat} (ev : bv = .slice (some ⟨g, 0, none⟩) n c) {i b : Nat} (hb : BL[i]? = some b) : (Instr.loadAt 27 (.pointer (some ⟨g, 0 + i, none⟩))).run Tryd.prog W = .ok (.pointer (some ⟨b, 0, none⟩)) W := ld_bkp (h.o.hit ev (by rw [List.getElem?_map, hb]; rfl))
/-- Rows of Says. -/
structure SyS where
  kind : Int
  pl : Int
  v : VaV
  n : Int
  sn : SlV
def SyS.c (o : SyS) : List Value := (.int .i64 o.kind) :: (.int .i64 o.pl) :: (o.v.c ++ [.int .i64 o.n, o.sn.v])
def slOf : Value → SlV
  | .slice a n c => ⟨a, n, c⟩
  | _ => ⟨none, 0, 0⟩
def toS (x : SyR) : SyS := ⟨x.kind, x.pl, x.v, x.n, slOf x.seen⟩
theorem toS_c {x : SyR} (h : x.ok W) : (toS x).c = x.c := by
  obtain ⟨a, c, e, _⟩ := h.seen
  unfold SyS.c SyR.c toS
  rw [e]
  rfl
def RW : RowT SyS := ⟨SyS.c, fun _ => True, 8, 88, 42, 23, ⟨0, 0, zVa, 0, ⟨none, 0, 0⟩⟩⟩
theorem RW_is : RW.Is := ⟨trivial, fun x _ => by show (SyS.c x).length = 8; simp [SyS.c, VaV.len], fun x v hv => by
  have hv : v ∈ SyS.c x := hv
  simp only [SyS.c, List.mem_cons, List.mem_append, List.not_mem_nil, or_false] at hv
  rcases hv with rfl | rfl | h | rfl | rfl
  · rfl
  · rfl
  · exact x.v.one v h
  · rfl
  · rfl, Tryd.underlying23, by kernel_rfl, ⟨_, Tryd.underlying42, rfl⟩, by decide, by decide⟩
theorem rw_of {a : Option Addr} {L : List SyR} (h : RowAt 8 SyR.c W a L) (ok : ∀ x ∈ L, x.ok W) : RW.At W a (L.map toS) := by
  rcases h with rfl | ⟨b, off, e, h1, h2⟩
  · exact .inl rfl
  · refine .inr ⟨b, off, e, h1, fun i y hy => ?_⟩
    rw [List.getElem?_map] at hy
    cases hx : L[i]? with
    | none => rw [hx] at hy; cases hy
    | some x =>
      rw [hx] at hy
      cases hy
      show W.rangeAt b (off + 8 * i) (toS x).c
      rw [toS_c (ok x (List.mem_of_getElem? hx)), Nat.mul_comm]
      exact h2 i x hx
theorem rw_at {a : Option Addr} {L : List SyR} (h : RW.At W a (L.map toS)) (ok : ∀ x ∈ L, x.ok W) : RowAt 8 SyR.c W a L := by
  rcases h with h | ⟨b, off, e, h1, h2⟩
  · exact .inl (by simpa using h)
  · refine .inr ⟨b, off, e, h1, fun i x hx => ?_⟩
    have := h2 i (toS x) (by rw [List.getElem?_map, hx]; rfl)
    have e2 : RW.c (toS x) = x.c := toS_c (ok x (List.mem_of_getElem? hx))
    rw [e2] at this
    rw [Nat.mul_comm]
    exact this
theorem bs_sy0 (w : World) : (Instr.buildSlice 23 0 #[]).run Tryd.prog w = .ok (.slice (some ⟨w.heap.size, 0, none⟩) 0 0) (w.alloc (.cells #[] 42)) := by kernel_rfl
/-- l and more, in a list of its own. -/
theorem all_new {w0 W : World} (b0 : Below w0.heap.size w0 W) {la ma : Option Addr} {lc mc : Nat} {L M : List SyR} (hL : RowAt 8 SyR.c w0 la L) (hM : RowAt 8 SyR.c w0 ma M) (okL : ∀ x ∈ L, x.ok w0) (okM : ∀ x ∈ M, x.ok w0) (h1 : L.length ≤ 1048576) (h2 : M.length ≤ 1048576) :
    ∃ e0 w1 u1 w2 u2 w3, (Instr.buildSlice 23 0 #[]).run Tryd.prog W = .ok e0 w1 ∧ (Builtin.append_ #[23, 23] 23 #[e0, .slice la L.length lc]).run Tryd.prog w1 = .ok u1 w2 ∧ (Builtin.append_ #[23, 23] 23 #[u1, .slice ma M.length mc]).run Tryd.prog w2 = .ok u2 w3 ∧ Below W.heap.size W w3 ∧ RW.Own w3 W.heap.size u2 ((L ++ M).map toS) := by
  have b1 : Below W.heap.size W (W.alloc (.cells #[] 42)) := (Below.refl _ _).alloc (Nat.le_refl _) _
  have o0 : RW.Own (W.alloc (.cells #[] 42)) W.heap.size (.slice (some ⟨W.heap.size, 0, none⟩) 0 0) [] := ⟨by simp [RowT.flat], .inr ⟨W.heap.size, 0, #[], rfl, Nat.le_refl _, heap_alloc_new _ _, Nat.le_refl _, by decide, by simp, by simp [RowT.flat]⟩⟩
  have aL := (rw_of hL okL).below (b0.trans (b1.mono b0.size))
  obtain ⟨u1, w2, E1, o1, g1, _⟩ := RowT.run_app RW_is _ W.heap.size _ [] la (L.map toS) lc o0 aL (fun _ _ => trivial) (by simp; unfold maxLen; omega) (by simp; show _ * 88 ≤ _; omega) b1.size
  have b2 : Below W.heap.size W w2 := b1.grown g1 b1.size (fun k hk => (o0.cells hk).1)
  rw [List.nil_append] at o1
  have aM := (rw_of hM okM).below (b0.trans (b2.mono b0.size))
  obtain ⟨u2, w3, E2, o2, g2, _⟩ := RowT.run_app RW_is w2 W.heap.size u1 (L.map toS) ma (M.map toS) mc o1 aM (fun _ _ => trivial) (by simp; unfold maxLen; omega) (by simp; show _ * 88 ≤ _; omega) b2.size
  have b3 : Below W.heap.size W w3 := b2.grown g2 b2.size (fun k hk => (o1.cells hk).1)
  rw [List.length_map] at E1 E2
  exact ⟨_, _, u1, w2, u2, w3, bs_sy0 W, E1, E2, b3, by rw [List.map_append]; exact o2⟩
end
end Go.Proofs.YtldlljobofnmmabDoor

namespace Go.Proofs.YtldlljobofnmmabDoor
open Go.RowKit
set_option linter.unusedVariables false
set_option linter.unusedSimpArgs false

theorem Hist.keepT {w w' : World} {O : Nat → Prop} (t : Tch O w w') (hO : ∀ j c ty fr, w.heap[j]? = some (.cells c ty fr) → (ty = 81 ∨ ty = 34 ∨ ty = 83 ∨ ty = 100) → ¬ O j) : ∀ {H : List Rec}, Hist w H → Hist w' H
  | [], _ => trivial
  | r :: H, h => by
    refine ⟨?_, Hist.keepT t hO h.2⟩
    have h := h.1
    have go : ∀ {j : Nat} {c : Array Value} {ty : TypeId} {fr : Nat × Nat}, w.heap[j]? = some (.cells c ty fr) → (ty = 81 ∨ ty = 34 ∨ ty = 83 ∨ ty = 100) → w'.heap[j]? = some (.cells c ty fr) := fun h1 h2 => (t.block _ (Array.getElem?_eq_some_iff.1 h1).1 (hO _ _ _ _ h1 h2)).trans h1
    refine ⟨go h.b (.inl rfl), go h.p (.inr (.inl rfl)), go h.t (.inr (.inr (.inl rfl))), h.l.keep (fun k hk => ?_), h.ok, h.bok, h.bn⟩
    obtain ⟨_, c, hc⟩ := h.l.cells hk
    exact (go hc (.inr (.inr (.inr rfl)))).trans hc.symm
theorem en_round (L : List EnV) : (L.map fun e => ((e.id, e.v) : IdK × VaV)).map enP = L := by
  rw [List.map_map]
  have : (enP ∘ fun e : EnV => ((e.id, e.v) : IdK × VaV)) = id := by funext e; rfl
  rw [this, List.map_id]
theorem op_len {I V P : Type} [DecidableEq I] (nm : Nat → I) (i : Nat) (s : Rv.Sy P V) (L : List (I × V)) : (Rv.op nm i s L).length ≤ L.length + 1 := by
  have h1 := List.length_filter_le (fun x : I × V => !decide (x.1 ∈ Rv.ids nm s i)) L
  unfold Rv.op
  split
  · omega
  · split
    · simp
    · simp only [List.length_append, List.length_singleton]; omega
section
variable {w0 W W' : World} {B ro m : Nat} {s s' : Rs} {H : List Rec}
theorem upd_op {p : PlK} {L : List EnV} {rc : Rec} (hn : OpN W B s H p L rc s' W') : updF (liOf s'.P) rc.p rc.bef = liOf s.P := by
  funext z
  unfold updF
  rw [hn.rp, hn.rb, hn.li]
  by_cases e : z = p
  · rw [if_pos e, e]
  · rw [if_neg e, if_neg e]
/-- A call. -/
theorem BB.do (h : BB w0 B ro m s H W) (hm : m + 1 ≤ 2500000000000) {pa : Option Addr} {pc : Nat} {Ps : List PlK} {a : Option Addr} {c : Nat} {L : List SyR} (li : LwI W pa Ps a L) {i : Nat} {x : SyR} (hx : L[i]? = some x) (hga : ∀ g o, a = some ⟨g, o, none⟩ → ¬ s.all g) :
    Calls Tryd.prog 7 #[.pointer (some ⟨ro, 0, none⟩), .slice pa Ps.length pc, .slice a L.length c, .int .i64 (i : Int)] W fun e w' => ∃ (rc : Rec) (s' : Rs), e = .returned (.pointer (some ⟨rc.bk, 0, none⟩)) ∧ BB w0 B ro (m + 1) s' (rc :: H) w' ∧ (∀ j, s'.all j → s.all j ∨ W.heap.size ≤ j) ∧ Tch s.all W w' ∧ IsBk w' rc.bk ∧ updF (liOf s'.P) rc.p rc.bef = liOf s.P := by
  have cc := do_any2 (c := c) (pc := pc) h.ra (Below.refl _ _) h.hi li hx hga (M := (liOf s.P (atP Ps x.pl)).map fun e => (e.id, e.v)) (en_round _).symm (by rw [List.length_map]; have := h.le (atP Ps x.pl); omega)
  rw [h.r] at cc
  refine cc.mono ?_
  rintro e w' ⟨rc, s', rfl, hn⟩
  refine ⟨rc, s', rfl, h.op hn ?_, hn.al, hn.tch, ⟨_, hn.at'.hist.1.b⟩, upd_op hn⟩
  rw [List.length_map]
  have h1 := op_len nmI i (x.s Ps) ((liOf s.P (atP Ps x.pl)).map fun e => (e.id, e.v))
  rw [List.length_map] at h1
  have := h.le (atP Ps x.pl)
  omega
/-- The last call taken back. -/
theorem BB.undo {r : Rec} (h : BB w0 B ro m s (r :: H) W) : Calls Tryd.prog 13 #[.pointer (some ⟨ro, 0, none⟩), .pointer (some ⟨r.bk, 0, none⟩)] W fun e w' => e = .returned (.int .i64 0) ∧ ∃ s' : Rs, BB w0 B ro (m + 1) s' H w' ∧ (∀ j, s'.all j → s.all j ∨ W.heap.size ≤ j) ∧ Tch s.all W w' ∧ liOf s'.P = updF (liOf s.P) r.p r.bef := by
  have cc := undo_any h.ra h.hi
  rw [h.r] at cc
  refine cc.mono ?_
  rintro e w' ⟨rfl, s', ra, hr, li, al, t⟩
  exact ⟨rfl, s', h.un ra hr li t, al, t, by funext z; unfold updF; exact li z⟩
/-- Any other. -/
theorem BB.not (h : BB w0 B ro m s H W) {b : Nat} (hb : IsBk W b) (hne : ptrH H ≠ some ⟨b, 0, none⟩) : Calls Tryd.prog 13 #[.pointer (some ⟨ro, 0, none⟩), .pointer (some ⟨b, 0, none⟩)] W fun e w' => e = .returned (.int .i64 2) ∧ w' = W := by
  have cc := undo_not h.ra hb hne
  rwa [h.r] at cc
theorem BB.keepL (h : BB w0 B ro m s H W) {bv : Value} {BL : List Nat} (g : LG W B bv BL) (t : Tch (fun j => bv.ownBlock = some j) W W') : BB w0 B ro m s H W' := by
  have nt : ∀ {j : Nat} {c : Array Value} {ty : TypeId} {fr : Nat × Nat}, W.heap[j]? = some (.cells c ty fr) → ty ≠ 27 → ¬ bv.ownBlock = some j := fun h1 h2 e => by
    obtain ⟨_, c, hc⟩ := g.o.ge _ e
    exact h2 (two_types h1 hc)
  refine ⟨h.ra.keep (fun j hj => t.block j (h.ra.mem.allLt hj) (fun e => ?_)) (h.ra.hist.keepT t fun j c ty fr hc e => nt hc (by rcases e with rfl | rfl | rfl | rfl <;> decide)), h.r, h.bel.trans (t.below h.bel.size (fun j hj => Nat.le_trans h.lo (g.o.ge j hj).1)), h.lo, Nat.le_trans h.hi t.size, h.le, h.bf, h.nd, h.pl⟩
  obtain ⟨_, c, hc⟩ := g.o.ge _ e
  exact h.ra.mem.other hc (by decide) (by decide) hj
end
/-- What is kept while calls are taken back. -/
structure Lug where
  bv8 : Value
  BL8 : List Nat
  wb : Nat
  ev : Value
  kv : Value
  z : Int
  E : List (SlV × List EnV)
  K : List (SlV × List (List UInt8))
  av : Value
  LA : List SyR
structure CC (w0 : World) (B ro : Nat) (g : Lug) (m : Nat) (s : Rs) (H : List Rec) (bv : Value) (BL : List Nat) (W : World) : Prop where
  bb : BB w0 B ro m s H W
  b8 : LG W B g.bv8 g.BL8
  b12 : LG W B bv BL
  ne : ∀ j, g.bv8.ownBlock = some j → bv.ownBlock ≠ some j
  tb : TB g.wb g.ev g.kv g.z W
  tl : TL W B g.ev g.kv g.E g.K
  ap : ∀ j, tlE g.E j → ¬ s.all j
  al : RW.Own W B g.av (g.LA.map toS)
section
variable {w0 W W' : World} {B ro m m' : Nat} {g : Lug} {s s' : Rs} {H H' : List Rec} {bv : Value} {BL : List Nat}
theorem CC.below (h : CC w0 B ro g m s H bv BL W) (b : Below W.heap.size W W') : CC w0 B ro g m s H bv BL W' := ⟨h.bb.below b, h.b8.below b, h.b12.below b, h.ne, h.tb.below b, h.tl.below b, h.ap, h.al.below b⟩
theorem CC.prog (h : CC w0 B ro g m s H bv BL W) (bb : BB w0 B ro m' s' H' W') (al : ∀ j, s'.all j → s.all j ∨ W.heap.size ≤ j) (t : Tch s.all W W') : CC w0 B ro g m' s' H' bv BL W' := by
  have mm := h.bb.ra.mem
  refine ⟨bb, h.b8.prog mm t, h.b12.prog mm t, h.ne, h.tb.keep t (mm.other h.tb (by decide) (by decide)), h.tl.keep t (fun j c ty hc e => mm.other hc (by rcases e with rfl | rfl | rfl <;> decide) (by rcases e with rfl | rfl | rfl <;> decide)) h.ap, fun j hj ha => ?_, h.al.keep fun j hj => ?_⟩
  · rcases al j ha with q | q
    · exact h.ap j hj q
    · obtain ⟨z, hz, e⟩ := hj
      have := (h.tl.ea z hz).1.lt e
      omega
  · obtain ⟨_, c, hc⟩ := h.al.lo.cells hj
    exact t.block j (h.al.lt hj) (mm.other hc (by decide) (by decide))
theorem CC.push (h : CC w0 B ro g m s H bv BL W) (hn : BL.length + 1 ≤ 2000000000000) {bk : Nat} (hb : IsBk W bk) :
    ∃ (sv : Value) (w1 : World) (bv2 : Value) (w2 : World), (Instr.buildSlice 51 1 #[(0, .pointer (some ⟨bk, 0, none⟩))]).run Tryd.prog W = .ok sv w1 ∧ (Builtin.append_ #[51, 51] 51 #[bv, sv]).run Tryd.prog w1 = .ok bv2 w2 ∧ CC w0 B ro g m s H bv2 (BL ++ [bk]) w2 := by
  obtain ⟨sv, w1, bv2, w2, e1, e2, lg, t, q⟩ := h.b12.push h.bb.hi hn hb
  have nt : ∀ {j : Nat} {c : Array Value} {ty : TypeId} {fr : Nat × Nat}, W.heap[j]? = some (.cells c ty fr) → ty ≠ 27 → ¬ bv.ownBlock = some j := fun h1 h2 e => by
    obtain ⟨_, c, hc⟩ := h.b12.o.ge _ e
    exact h2 (two_types h1 hc)
  refine ⟨sv, w1, bv2, w2, e1, e2, h.bb.keepL h.b12 t, ⟨h.b8.o.keep fun j hj => ?_, fun b hb => ?_⟩, lg, fun j hj e => ?_, h.tb.keep t (nt h.tb (by decide)), h.tl.keep t (fun j c ty hc e => nt hc (by rcases e with rfl | rfl | rfl <;> decide)) (fun j hj => ?_), h.ap, h.al.keep fun j hj => ?_⟩
  · obtain ⟨_, c, hc⟩ := h.b8.o.ge j hj
    exact t.block j (Array.getElem?_eq_some_iff.1 hc).1 (h.ne j hj)
  · obtain ⟨c, hc⟩ := h.b8.k b hb
    exact ⟨c, (t.block b (Array.getElem?_eq_some_iff.1 hc).1 (nt hc (by decide))).trans hc⟩
  · rcases q with q | q
    · exact h.ne j hj (q ▸ e)
    · obtain ⟨_, c, hc⟩ := h.b8.o.ge j hj
      have := (Array.getElem?_eq_some_iff.1 hc).1
      have := q j e
      omega
  · obtain ⟨z, hz, e⟩ := hj
    obtain ⟨_, c, hc⟩ := (h.tl.ea z hz).1.lo.cells e
    exact nt hc (by decide)
  · obtain ⟨_, c, hc⟩ := h.al.lo.cells hj
    exact t.block j (h.al.lt hj) (nt hc (by decide))
theorem CC.cut {b : Nat} (h : CC w0 B ro g m s H bv (BL ++ [b]) W) {gg n c : Nat} (ev : bv = .slice (some ⟨gg, 0, none⟩) n c) : BL.length ≤ c ∧ CC w0 B ro g m s H (.slice (some ⟨gg, 0, none⟩) BL.length c) BL W := by
  have o := h.b12.o
  rw [List.map_append] at o
  obtain ⟨h1, h2⟩ := OwnV.cut (x := bkV b) o ev
  rw [List.length_map] at h1 h2
  exact ⟨h1, h.bb, h.b8, ⟨h2, fun j hj => h.b12.k j (List.mem_append_left _ hj)⟩, fun j hj e => h.ne j hj (by rw [ev]; exact e), h.tb, h.tl, h.ap, h.al⟩
theorem CC.lw (h : CC w0 B ro g m s H bv BL W) {pa : Option Addr} {Ps : List PlK} (hP : RowAt 67 PlK.c w0 pa Ps) (okP : ∀ x ∈ Ps, x.ok) (hPn : Ps.length ≤ 2000000000000) (ok : ∀ x ∈ g.LA, x.ok w0) (hn : g.LA.length ≤ 2000000000000) : ∃ a c, g.av = .slice a g.LA.length c ∧ LwI W pa Ps a g.LA ∧ ∀ gg o, a = some ⟨gg, o, none⟩ → ¬ s.all gg := by
  obtain ⟨a, c, e, hat, _⟩ := h.al.open RW_is (fun _ _ => trivial)
  rw [List.length_map] at e
  have okW : ∀ x ∈ g.LA, x.ok W := fun x hx => (ok x hx).below h.bb.bel
  refine ⟨a, c, e, ⟨hP.below h.bb.bel, okP, hPn, rw_at hat okW, okW, hn⟩, fun gg o ea => ?_⟩
  obtain ⟨_, c, hc⟩ := h.al.lo.cells (k := gg) (by rw [e, ea]; rfl)
  exact h.bb.ra.mem.other hc (by decide) (by decide)
end
end Go.Proofs.YtldlljobofnmmabDoor

namespace Go.Proofs.YtldlljobofnmmabDoor
open Go.RowKit
set_option linter.unusedVariables false
set_option linter.unusedSimpArgs false

/-- What comes in. -/
structure BkI (w : World) (pa : Option Addr) (Ps : List PlK) (la : Option Addr) (L : List SyR) (ma : Option Addr) (M : List SyR) (ua : Option Addr) (U : List Bool) : Prop where
  hP : RowAt 67 PlK.c w pa Ps
  okP : ∀ x ∈ Ps, x.ok
  hPn : Ps.length ≤ 1048576
  hL : RowAt 8 SyR.c w la L
  okL : ∀ x ∈ L, x.ok w
  hLn : L.length ≤ 1048576
  hM : RowAt 8 SyR.c w ma M
  okM : ∀ x ∈ M, x.ok w
  hMn : M.length ≤ 1048576
  hU : RowAt 1 (fun b => [Value.bool b]) w ua U
  hUn : U.length ≤ 1048576
theorem BkI.lw {w W : World} {pa : Option Addr} {Ps : List PlK} {la : Option Addr} {L : List SyR} {ma : Option Addr} {M : List SyR} {ua : Option Addr} {U : List Bool} (h : BkI w pa Ps la L ma M ua U) {B ro m : Nat} {s : Rs} {H : List Rec} (bb : BB w B ro m s H W) : LwI W pa Ps la L ∧ ∀ g o, la = some ⟨g, o, none⟩ → L ≠ [] → ¬ s.all g := by
  refine ⟨⟨h.hP.below bb.bel, h.okP, by have := h.hPn; omega, h.hL.below bb.bel, fun x hx => (h.okL x hx).below bb.bel, by have := h.hLn; omega⟩, fun g o e hne ha => ?_⟩
  rcases h.hL with q | ⟨b, off, e2, h1, _⟩
  · exact hne q
  · rw [e] at e2
    injection e2 with e2
    injection e2 with e2
    have := bb.ra.mem.allLo ha
    have := bb.lo
    omega
/-- The first list of Backs. -/
def B1S (w : World) (B ro i : Nat) (v : Value) (W : World) : Prop := ∃ sv : SlV, v = sv.v ∧ ∃ s H, BB w B ro i s H W ∧ LG W B sv.v ((H.map (·.bk)).reverse) ∧ H.length = i
theorem b1_do {w W : World} {pa : Option Addr} {pc : Nat} {Ps : List PlK} {la : Option Addr} {lc : Nat} {L : List SyR} {ma : Option Addr} {M : List SyR} {ua : Option Addr} {U : List Bool} (h : BkI w pa Ps la L ma M ua U) {B ro i : Nat} {v : Value} (hi : i < L.length) (hs : B1S w B ro i v W) :
    Calls Tryd.prog 7 #[.pointer (some ⟨ro, 0, none⟩), .slice pa Ps.length pc, .slice la L.length lc, .int .i64 (i : Int)] W fun e w' => ∃ bk, e = .returned (.pointer (some ⟨bk, 0, none⟩)) ∧ ∃ sv w1 u2 w2, (Instr.buildSlice 51 1 #[(0, .pointer (some ⟨bk, 0, none⟩))]).run Tryd.prog w' = .ok sv w1 ∧ (Builtin.append_ #[51, 51] 51 #[v, sv]).run Tryd.prog w1 = .ok u2 w2 ∧ B1S w B ro (i + 1) u2 w2 := by
  obtain ⟨sv, rfl, s, H, bb, lg, hl⟩ := hs
  have hn := h.hLn
  obtain ⟨x, hx⟩ : ∃ x, L[i]? = some x := ⟨_, List.getElem?_eq_getElem hi⟩
  have lw := h.lw bb
  refine (bb.do (by omega) lw.1 hx (fun g o e => lw.2 g o e (by intro q; rw [q] at hx; cases hx))).mono ?_
  rintro e w' ⟨rc, s', rfl, bb', al, t, ib, _⟩
  have lg' := lg.prog bb.ra.mem t
  obtain ⟨s2, w1, u2, w2, e1, e2, lg2, t2, _⟩ := lg'.push bb'.hi (by simp; omega) ib
  obtain ⟨u3, rfl⟩ := ownV_sl lg2.o
  refine ⟨rc.bk, rfl, s2, w1, u3.v, w2, e1, e2, u3, rfl, s', rc :: H, bb'.keepL lg' t2, ?_, by simp [hl]⟩
  rw [List.map_cons, List.reverse_cons]
  exact lg2
/-- What is told the first time, in its box. -/
def B2S (W0 : World) (s : Rs) (Ps : List PlK) (tv : Value) (wb : Nat) (W : World) : Prop := ∃ ev kv E K, tv = tlV ev kv (s.P.length : Int) ∧ TB wb ev kv (s.P.length : Int) W ∧ TL W W0.heap.size ev kv E K ∧ E.map (·.2) = toE s Ps (Ps.length + 1) ∧ K.map (·.2) = toK s Ps (Ps.length + 1) ∧ Below W0.heap.size W0 W
theorem b2_told {w W : World} {pa : Option Addr} {pc : Nat} {Ps : List PlK} {la : Option Addr} {L : List SyR} {ma : Option Addr} {M : List SyR} {ua : Option Addr} {U : List Bool} (h : BkI w pa Ps la L ma M ua U) {B ro m : Nat} {s : Rs} {H : List Rec} (bb : BB w B ro m s H W) (hm : m ≤ 2500000000000) :
    Calls Tryd.prog 12 #[.pointer (some ⟨ro, 0, none⟩), .slice pa Ps.length pc] W fun e w' => ∃ tv, e = .returned tv ∧ ∃ wb w1 w2, (Instr.alloc 55 true (.tuple #[])).run Tryd.prog w' = .ok (.pointer (some ⟨wb, 0, none⟩)) w1 ∧ (Instr.storeAt 55 (.pointer (some ⟨wb, 0, none⟩)) tv).run Tryd.prog w1 = .ok () w2 ∧ B2S W s Ps tv wb w2 := by
  have cc := told_any bb.ra.mem bb.ra.key (fun p => Nat.le_trans (bb.le p) hm) (by have := bb.pl; omega) (pc := pc) (h.hP.below bb.bel) h.okP (by have := h.hPn; omega)
  rw [bb.r] at cc
  refine cc.mono ?_
  rintro e w' ⟨ev, kv, E, K, rfl, tl, eE, eK, b⟩
  obtain ⟨w1, e1, n1, b1⟩ := tb_new w'
  have tl1 := tl.below b1
  obtain ⟨w2, e2, n2, t2⟩ := tb_store (u := (s.P.length : Int)) n1 (ownV_sl tl.e) (ownV_sl tl.k)
  have b12 : Below w'.heap.size w' w2 := b1.trans (t2.below b1.size (fun j e => by rw [e]; exact Nat.le_refl _))
  exact ⟨_, rfl, w'.heap.size, w1, w2, e1, e2, ev, kv, E, K, rfl, n2, tl.below b12, eE, eK, b.trans (b12.mono b.size)⟩
theorem TL.monoB {W : World} {b b' : Nat} {ev kv : Value} {E : List (SlV × List EnV)} {K : List (SlV × List (List UInt8))} (h : TL W b ev kv E K) (hb : b' ≤ b) : TL W b' ev kv E K := ⟨h.e.monoB hb, h.k.monoB hb, fun q hq => ⟨(h.ea q hq).1.mono hb, (h.ea q hq).2⟩, fun q hq => ⟨(h.ka q hq).1.monoB hb, (h.ka q hq).2⟩⟩
end Go.Proofs.YtldlljobofnmmabDoor

namespace Go.Proofs.YtldlljobofnmmabDoor
open Go.RowKit
set_option linter.unusedVariables false
set_option linter.unusedSimpArgs false

theorem rev_get (Ga : List Rec) {j : Nat} (hj : j < Ga.length) : ∃ r, (Ga.map (·.bk)).reverse[j]? = some r.bk ∧ Ga.drop (Ga.length - (j + 1)) = r :: Ga.drop (Ga.length - j) := by
  have hi : Ga.length - (j + 1) < Ga.length := by omega
  refine ⟨Ga[Ga.length - (j + 1)], ?_, ?_⟩
  · rw [List.getElem?_reverse (by rw [List.length_map]; exact hj), List.length_map, List.getElem?_map, show Ga.length - 1 - j = Ga.length - (j + 1) by omega, List.getElem?_eq_getElem hi]
    rfl
  · rw [List.drop_eq_getElem_cons hi, show Ga.length - (j + 1) + 1 = Ga.length - j by omega]
section
variable {w W : World} {B ro : Nat} {g : Lug} {H0 : List Rec} {f0 : PF} {n0 : Nat}
/-- Behind k more calls. -/
def C2 (w : World) (B ro : Nat) (g : Lug) (H0 : List Rec) (f0 : PF) (n0 k : Nat) (v : Value) (W : World) : Prop := ∃ sv : SlV, v = sv.v ∧ ∃ s G, CC w B ro g (n0 + 2 * k) s (G ++ H0) sv.v ((G.map (·.bk)).reverse) W ∧ unw G (liOf s.P) = f0 ∧ G.length ≤ k
/-- Behind a call that may be taken back at once. -/
def D2 (w : World) (B ro : Nat) (g : Lug) (H0 : List Rec) (f0 : PF) (n0 k bk : Nat) (v : Value) (W : World) : Prop := ∃ sv : SlV, v = sv.v ∧ ∃ s rc G, rc.bk = bk ∧ CC w B ro g (n0 + 2 * k + 1) s (rc :: (G ++ H0)) sv.v ((G.map (·.bk)).reverse ++ [bk]) W ∧ unw (rc :: G) (liOf s.P) = f0 ∧ G.length ≤ k
theorem d2_keep {k bk : Nat} {v : Value} (h : D2 w B ro g H0 f0 n0 k bk v W) : C2 w B ro g H0 f0 n0 (k + 1) v W := by
  obtain ⟨sv, rfl, s, rc, G, e, cc, hu, hl⟩ := h
  refine ⟨sv, rfl, s, rc :: G, ?_, hu, by simp; omega⟩
  rw [List.map_cons, List.reverse_cons, e]
  exact ⟨cc.bb.mono (by omega), cc.b8, cc.b12, cc.ne, cc.tb, cc.tl, cc.ap, cc.al⟩
theorem c2_do {pa : Option Addr} {pc : Nat} {Ps : List PlK} {a : Option Addr} {c k i : Nat} {v : Value} (h : C2 w B ro g H0 f0 n0 k v W) (hP : RowAt 67 PlK.c w pa Ps) (okP : ∀ x ∈ Ps, x.ok) (hPn : Ps.length ≤ 2000000000000) (ok : ∀ x ∈ g.LA, x.ok w) (hn : g.LA.length ≤ 2000000000000) (ea : g.av = .slice a g.LA.length c) (hi : i < g.LA.length) (hk : n0 + 2 * k + 1 ≤ 1900000000000) :
    Calls Tryd.prog 7 #[.pointer (some ⟨ro, 0, none⟩), .slice pa Ps.length pc, .slice a g.LA.length c, .int .i64 (i : Int)] W fun e w' => ∃ bk, e = .returned (.pointer (some ⟨bk, 0, none⟩)) ∧ ∃ sv w1 u2 w2, (Instr.buildSlice 51 1 #[(0, .pointer (some ⟨bk, 0, none⟩))]).run Tryd.prog w' = .ok sv w1 ∧ (Builtin.append_ #[51, 51] 51 #[v, sv]).run Tryd.prog w1 = .ok u2 w2 ∧ D2 w B ro g H0 f0 n0 k bk u2 w2 := by
  obtain ⟨sv, rfl, s, G, cc, hu, hl⟩ := h
  obtain ⟨x, hx⟩ : ∃ x, g.LA[i]? = some x := ⟨_, List.getElem?_eq_getElem hi⟩
  obtain ⟨a', c', e', li, hga⟩ := cc.lw hP okP hPn ok hn
  rw [ea] at e'
  injection e' with e1 _ e3
  subst e1 e3
  refine (cc.bb.do (by omega) li hx hga).mono ?_
  rintro e w' ⟨rc, s', rfl, bb', al, t, ib, up⟩
  have cc' := cc.prog bb' al t
  obtain ⟨s2, w1, u2, w2, e1, e2, cc2⟩ := cc'.push (by simp; omega) ib
  obtain ⟨u3, rfl⟩ := ownV_sl cc2.b12.o
  exact ⟨rc.bk, rfl, s2, w1, u3.v, w2, e1, e2, u3, rfl, s', rc, G, rfl, cc2, by show unw G (updF (liOf s'.P) rc.p rc.bef) = f0; rw [up]; exact hu, hl⟩
theorem d2_undo {k bk : Nat} {v : Value} (h : D2 w B ro g H0 f0 n0 k bk v W) : ∃ gg ln c j, v = .slice (some ⟨gg, 0, none⟩) ln c ∧ j + 1 = ln ∧ ln ≤ k + 1 ∧ j ≤ c ∧ (Instr.loadAt 27 (.pointer (some ⟨gg, 0 + j, none⟩))).run Tryd.prog W = .ok (.pointer (some ⟨bk, 0, none⟩)) W ∧ Calls Tryd.prog 13 #[.pointer (some ⟨ro, 0, none⟩), .pointer (some ⟨bk, 0, none⟩)] W fun e w' => e = .returned (.int .i64 0) ∧ C2 w B ro g H0 f0 n0 (k + 1) (.slice (some ⟨gg, 0, none⟩) j c) w' := by
  obtain ⟨sv, rfl, s, rc, G, rfl, cc, hu, hl⟩ := h
  obtain ⟨gg, c, ev⟩ := cc.b12.o.form (i := 0) (by simp)
  have hlen : (List.map bkV ((G.map (·.bk)).reverse ++ [rc.bk])).length = G.length + 1 := by simp
  rw [hlen] at ev
  obtain ⟨hc, _⟩ := cc.cut ev
  have hjl : (G.map (·.bk)).reverse.length = G.length := by simp
  rw [hjl] at hc
  refine ⟨gg, G.length + 1, c, G.length, ev, rfl, by omega, hc, cc.b12.ld ev (by rw [List.getElem?_append_right (by simp)]; simp), ?_⟩
  refine cc.bb.undo.mono ?_
  rintro e w' ⟨rfl, s', bb', al, t, li⟩
  have cc' := cc.prog bb' al t
  obtain ⟨_, cc2⟩ := cc'.cut ev
  rw [hjl] at cc2
  refine ⟨rfl, ⟨some ⟨gg, 0, none⟩, G.length, c⟩, rfl, s', G, ⟨cc2.bb.mono (by omega), cc2.b8, cc2.b12, cc2.ne, cc2.tb, cc2.tl, cc2.ap, cc2.al⟩, ?_, by omega⟩
  rw [li]
  exact hu
/-- While the more calls are taken back: j are left. -/
def C3 (w : World) (B ro : Nat) (g : Lug) (H0 : List Rec) (f0 : PF) (m : Nat) (bv : Value) (Ga : List Rec) (j : Nat) (W : World) : Prop := j ≤ Ga.length ∧ ∃ s, CC w B ro g (m + (Ga.length - j)) s (Ga.drop (Ga.length - j) ++ H0) bv ((Ga.map (·.bk)).reverse) W ∧ unw (Ga.drop (Ga.length - j)) (liOf s.P) = f0
theorem c3_of {k : Nat} {v : Value} (h : C2 w B ro g H0 f0 n0 k v W) : ∃ (sv : SlV) (Ga : List Rec), v = sv.v ∧ Ga.length ≤ k ∧ sv.n = Ga.length ∧ C3 w B ro g H0 f0 (n0 + 2 * k) sv.v Ga Ga.length W := by
  obtain ⟨sv, rfl, s, G, cc, hu, hl⟩ := h
  refine ⟨sv, G, rfl, hl, ?_, Nat.le_refl _, s, ?_, ?_⟩
  · obtain ⟨a, c, e, _⟩ := cc.b12.o.open
    have hlen : (List.map bkV (G.map (·.bk)).reverse).length = G.length := by simp
    rw [hlen] at e
    unfold SlV.v at e
    injection e
  · rw [Nat.sub_self, List.drop_zero]; exact cc
  · rw [Nat.sub_self, List.drop_zero]; exact hu
theorem c3_step {m : Nat} {bv : Value} {Ga : List Rec} {j : Nat} (h : C3 w B ro g H0 f0 m bv Ga (j + 1) W) {gg n c : Nat} (ev : bv = .slice (some ⟨gg, 0, none⟩) n c) :
    ∃ bk, (Instr.loadAt 27 (.pointer (some ⟨gg, 0 + j, none⟩))).run Tryd.prog W = .ok (.pointer (some ⟨bk, 0, none⟩)) W ∧ Calls Tryd.prog 13 #[.pointer (some ⟨ro, 0, none⟩), .pointer (some ⟨bk, 0, none⟩)] W fun e w1 => e = .returned (.int .i64 0) ∧ (Instr.loadAt 27 (.pointer (some ⟨gg, 0 + j, none⟩))).run Tryd.prog w1 = .ok (.pointer (some ⟨bk, 0, none⟩)) w1 ∧ Calls Tryd.prog 13 #[.pointer (some ⟨ro, 0, none⟩), .pointer (some ⟨bk, 0, none⟩)] w1 fun e w2 => e = .returned (.int .i64 2) ∧ C3 w B ro g H0 f0 m bv Ga j w2 := by
  obtain ⟨hj, s, cc, hu⟩ := h
  obtain ⟨r, hr, hd⟩ := rev_get Ga (j := j) (by omega)
  rw [hd] at cc hu
  refine ⟨r.bk, cc.b12.ld ev hr, ?_⟩
  have cc0 : CC w B ro g (m + (Ga.length - (j + 1))) s (r :: (Ga.drop (Ga.length - j) ++ H0)) bv ((Ga.map (·.bk)).reverse) W := cc
  refine cc0.bb.undo.mono ?_
  rintro e w1 ⟨rfl, s', bb', al, t, li⟩
  have cc' := cc0.prog bb' al t
  refine ⟨rfl, cc'.b12.ld ev hr, ?_⟩
  have hnd := cc0.bb.nd
  rw [List.map_cons, List.nodup_cons] at hnd
  refine (cc'.bb.not (cc'.b12.k r.bk (List.mem_of_getElem? hr)) (fun e => ?_)).mono ?_
  · apply hnd.1
    cases hH : Ga.drop (Ga.length - j) ++ H0 with
    | nil => rw [hH] at e; cases e
    | cons z t =>
      rw [hH] at e
      simp only [ptrH] at e
      injection e with e
      injection e with e
      rw [List.map_cons, ← e]
      exact List.mem_cons_self ..
  · rintro e w2 ⟨rfl, hw⟩
    rw [hw]
    refine ⟨rfl, by omega, s', ?_, by rw [li]; exact hu⟩
    have e1 : m + (Ga.length - (j + 1)) + 1 = m + (Ga.length - j) := by omega
    rw [← e1]
    exact cc'
theorem c3_prev {m : Nat} {bv : Value} {Ga : List Rec} {j : Nat} (h : C3 w B ro g H0 f0 m bv Ga (j + 2) W) {gg n c : Nat} (ev : bv = .slice (some ⟨gg, 0, none⟩) n c) :
    ∃ bk, (Instr.loadAt 27 (.pointer (some ⟨gg, 0 + j, none⟩))).run Tryd.prog W = .ok (.pointer (some ⟨bk, 0, none⟩)) W ∧ Calls Tryd.prog 13 #[.pointer (some ⟨ro, 0, none⟩), .pointer (some ⟨bk, 0, none⟩)] W fun e w' => e = .returned (.int .i64 2) ∧ C3 w B ro g H0 f0 m bv Ga (j + 2) w' := by
  have h0 := h
  obtain ⟨hj, s, cc, hu⟩ := h
  obtain ⟨r, hr, hd⟩ := rev_get Ga (j := j) (by omega)
  obtain ⟨r2, hr2, hd2⟩ := rev_get Ga (j := j + 1) (by omega)
  refine ⟨r.bk, cc.b12.ld ev hr, ?_⟩
  have hnd := cc.bb.nd
  rw [hd2, hd] at hnd
  refine (cc.bb.not (cc.b12.k r.bk (List.mem_of_getElem? hr)) (fun e => ?_)).mono ?_
  · rw [hd2, hd] at e
    simp only [List.cons_append, ptrH] at e
    injection e with e
    injection e with e
    simp only [List.cons_append, List.map_cons, List.nodup_cons, List.mem_cons, not_or] at hnd
    exact hnd.1.1 e
  · rintro e w' ⟨rfl, hw⟩
    rw [hw]
    exact ⟨rfl, h0⟩
/-- While the first calls are taken back: j are left. -/
def C4 (w : World) (B ro : Nat) (g : Lug) (m : Nat) (bv : Value) (BL : List Nat) (H0 : List Rec) (j : Nat) (W : World) : Prop := j ≤ H0.length ∧ g.BL8 = (H0.map (·.bk)).reverse ∧ ∃ s, CC w B ro g (m + (H0.length - j)) s (H0.drop (H0.length - j)) bv BL W
theorem c4_step {m : Nat} {bv : Value} {BL : List Nat} {j : Nat} (h : C4 w B ro g m bv BL H0 (j + 1) W) {gg n c : Nat} (ev : g.bv8 = .slice (some ⟨gg, 0, none⟩) n c) :
    ∃ bk, (Instr.loadAt 27 (.pointer (some ⟨gg, 0 + j, none⟩))).run Tryd.prog W = .ok (.pointer (some ⟨bk, 0, none⟩)) W ∧ Calls Tryd.prog 13 #[.pointer (some ⟨ro, 0, none⟩), .pointer (some ⟨bk, 0, none⟩)] W fun e w' => e = .returned (.int .i64 0) ∧ C4 w B ro g m bv BL H0 j w' := by
  obtain ⟨hj, hb8, s, cc⟩ := h
  obtain ⟨r, hr, hd⟩ := rev_get H0 (j := j) (by omega)
  rw [hd] at cc
  refine ⟨r.bk, cc.b8.ld ev (by rw [hb8]; exact hr), ?_⟩
  refine cc.bb.undo.mono ?_
  rintro e w' ⟨rfl, s', bb', al, t, li⟩
  have cc' := cc.prog bb' al t
  refine ⟨rfl, by omega, hb8, s', ?_⟩
  have e1 : m + (H0.length - (j + 1)) + 1 = m + (H0.length - j) := by omega
  rw [← e1]
  exact cc'
end
end Go.Proofs.YtldlljobofnmmabDoor

namespace Go.Proofs.YtldlljobofnmmabDoor
open Go.RowKit
set_option linter.unusedVariables false
set_option linter.unusedSimpArgs false

/-- What was told, and of what. -/
structure GF (g : Lug) (Ps : List PlK) (s0 : Rs) (f0 : PF) : Prop where
  e : g.E.map (·.2) = toE s0 Ps (Ps.length + 1)
  k : g.K.map (·.2) = toK s0 Ps (Ps.length + 1)
  z : g.z = (s0.P.length : Int)
  f : f0 = liOf s0.P
  m : ∃ w B, RgM w B s0 ∧ KeysOk s0.K s0.P
theorem toE_same {s s' : Rs} (h : ∀ q, liOf s.P q = liOf s'.P q) (Ps : List PlK) (n : Nat) : toE s Ps n = toE s' Ps n := by
  unfold toE
  exact List.map_congr_left fun k _ => h _
theorem toK_same {w w' : World} {B B' : Nat} {s s' : Rs} (m : RgM w B s) (kk : KeysOk s.K s.P) (m' : RgM w' B' s') (kk' : KeysOk s'.K s'.P) (h : ∀ q, liOf s.P q = liOf s'.P q) (Ps : List PlK) (n : Nat) : toK s Ps n = toK s' Ps n := by
  unfold toK
  exact List.map_congr_left fun k _ => srt_same m kk m' kk' h _
section
variable {w W : World} {B ro : Nat} {g : Lug} {H0 : List Rec} {f0 : PF} {m : Nat} {bv : Value} {pa : Option Addr} {pc : Nat} {Ps : List PlK} {la : Option Addr} {L : List SyR} {ma : Option Addr} {M : List SyR} {ua : Option Addr} {U : List Bool}
theorem c3_told (h : BkI w pa Ps la L ma M ua U) {Ga : List Rec} (c3 : C3 w B ro g H0 f0 m bv Ga 0 W) (hm : m + Ga.length ≤ 2500000000000) {s0 : Rs} (gf : GF g Ps s0 f0) :
    Calls Tryd.prog 12 #[.pointer (some ⟨ro, 0, none⟩), .slice pa Ps.length pc] W fun e w1 => ∃ tu, e = .returned tu ∧ Below W.heap.size W w1 ∧ Calls Tryd.prog 14 #[tu, tlV g.ev g.kv g.z] w1 fun e w2 => e = .returned (.bool true) ∧ Below W.heap.size W w2 := by
  obtain ⟨_, s, cc, hu⟩ := c3
  have bb := cc.bb
  rw [Nat.sub_zero, List.drop_length] at hu
  have hf : ∀ q, liOf s.P q = liOf s0.P q := fun q => by
    have : liOf s.P = f0 := hu
    rw [this, gf.f]
  obtain ⟨wx, Bx, m0, k0⟩ := gf.m
  have hP := h.hPn
  have cct := told_any bb.ra.mem bb.ra.key (fun p => by have := bb.le p; omega) (by have := bb.pl; omega) (pc := pc) (h.hP.below bb.bel) h.okP (by omega)
  rw [bb.r] at cct
  refine cct.mono ?_
  rintro e w1 ⟨ev, kv, E, K, rfl, tl, eE, eK, b⟩
  refine ⟨_, rfl, b, ?_⟩
  have hz : (s.P.length : Int) = g.z := by rw [gf.z, pl_same m0 bb.ra.mem hf]
  rw [hz]
  have lE : E.length = Ps.length + 1 := by have := congrArg List.length eE; simpa [toE] using this
  have lK : K.length = Ps.length + 1 := by have := congrArg List.length eK; simpa [toK] using this
  refine (sameTells_any tl (cc.tl.below b) (by rw [eE, gf.e, toE_same hf]) (by rw [eK, gf.k, toK_same bb.ra.mem bb.ra.key m0 k0 hf]) (by omega) (by omega) g.z).mono ?_
  rintro e w2 ⟨rfl, b2⟩
  exact ⟨rfl, b.trans (b2.mono b.size)⟩
theorem c4_of {Ga : List Rec} (c3 : C3 w B ro g H0 f0 m bv Ga 0 W) (h8 : g.BL8 = (H0.map (·.bk)).reverse) : C4 w B ro g (m + Ga.length) bv ((Ga.map (·.bk)).reverse) H0 H0.length W := by
  obtain ⟨_, s, cc, _⟩ := c3
  rw [Nat.sub_zero, List.drop_length, List.nil_append] at cc
  refine ⟨Nat.le_refl _, h8, s, ?_⟩
  rw [Nat.sub_self, List.drop_zero]
  exact cc
theorem c4_end (h : BkI w pa Ps la L ma M ua U) {BL : List Nat} (c4 : C4 w B ro g m bv BL H0 0 W) (hm : m + H0.length ≤ 2500000000000) :
    Calls Tryd.prog 11 #[.pointer (some ⟨ro, 0, none⟩)] W fun e w1 => e = .returned (.int .i64 0) ∧ Calls Tryd.prog 12 #[.pointer (some ⟨ro, 0, none⟩), .slice pa Ps.length pc] w1 fun e w2 => ∃ t1, e = .returned t1 ∧ Calls Tryd.prog 6 #[] w2 fun e w3 => ∃ rn, e = .returned (.pointer (some ⟨rn, 0, none⟩)) ∧ Calls Tryd.prog 12 #[.pointer (some ⟨rn, 0, none⟩), .slice pa Ps.length pc] w3 fun e w4 => ∃ t2, e = .returned t2 ∧ Calls Tryd.prog 14 #[t1, t2] w4 fun e w5 => e = .returned (.bool true) ∧ Below w.heap.size w w5 := by
  obtain ⟨_, _, s, cc⟩ := c4
  have bb := cc.bb
  rw [Nat.sub_zero, List.drop_length] at bb
  have hf : ∀ q, liOf s.P q = [] := bb.ra.hok
  have hP0 : s.P = [] := by
    cases e : s.P with
    | nil => rfl
    | cons q t =>
      have := (li_mem bb.ra.mem q.1).1 (by rw [e]; simp)
      exact absurd (hf q.1) this
  have hPn := h.hPn
  have c1 := len_any bb.ra.mem
  rw [bb.r, hP0] at c1
  refine c1.mono ?_
  rintro e w1 ⟨rfl, hw⟩
  rw [hw]
  refine ⟨rfl, ?_⟩
  have c2 := told_any bb.ra.mem bb.ra.key (fun p => by rw [hf]; simp) (by rw [hP0]; simp) (pc := pc) (h.hP.below bb.bel) h.okP (by omega)
  rw [bb.r] at c2
  refine c2.mono ?_
  rintro e w2 ⟨ev, kv, E, K, rfl, tl, eE, eK, b2⟩
  refine ⟨_, rfl, ?_⟩
  have B2 := bb.bel.trans (b2.mono bb.bel.size)
  refine (newR_any w2).mono ?_
  rintro e w3 ⟨sn, rfl, ra, rl, rp, b3⟩
  refine ⟨sn.r, rfl, ?_⟩
  have B3 := B2.trans (b3.mono B2.size)
  refine (told_any ra.mem ra.key (fun p => by rw [rl]; simp) (by rw [rp]; simp) (pc := pc) (h.hP.below B3) h.okP (by omega)).mono ?_
  rintro e w4 ⟨ev2, kv2, E2, K2, rfl, tl2, eE2, eK2, b4⟩
  refine ⟨_, rfl, ?_⟩
  have B4 := B3.trans (b4.mono B3.size)
  have hs : ∀ q, liOf s.P q = liOf sn.P q := fun q => by rw [hf, rl]
  have lE : E.length = Ps.length + 1 := by have := congrArg List.length eE; simpa [toE] using this
  have lK : K.length = Ps.length + 1 := by have := congrArg List.length eK; simpa [toK] using this
  rw [hP0, rp]
  refine (sameTells_any ((tl.below b3).below b4) tl2 (by rw [eE, eE2, toE_same hs]) (by rw [eK, eK2, toK_same bb.ra.mem bb.ra.key ra.mem ra.key hs]) (by omega) (by omega) _).mono ?_
  rintro e w5 ⟨rfl, b5⟩
  exact ⟨rfl, B4.trans (b5.mono B4.size)⟩
theorem c2_start (h : BkI w pa Ps la L ma M ua U) {s : Rs} {sv : SlV} {W0 W1 W2 : World} (bb : BB w B ro m s H0 W0) (lg : LG W0 B sv.v ((H0.map (·.bk)).reverse)) {tv : Value} {wb : Nat} (t : B2S W0 s Ps tv wb W1) (b12 : Below W1.heap.size W1 W2) {av : Value} (al : RW.Own W2 W1.heap.size av ((L ++ M).map toS)) :
    ∃ g : Lug, g.bv8 = sv.v ∧ g.BL8 = (H0.map (·.bk)).reverse ∧ g.wb = wb ∧ g.av = av ∧ g.LA = L ++ M ∧ GF g Ps s (liOf s.P) ∧ C2 w B ro g H0 (liOf s.P) m 0 (.slice none 0 0) W2 := by
  obtain ⟨ev, kv, E, K, rfl, tb, tl, eE, eK, b01⟩ := t
  have b02 := b01.trans (b12.mono b01.size)
  refine ⟨⟨sv.v, (H0.map (·.bk)).reverse, wb, ev, kv, (s.P.length : Int), E, K, av, L ++ M⟩, rfl, rfl, rfl, rfl, rfl, ⟨eE, eK, rfl, rfl, W0, B, bb.ra.mem, bb.ra.key⟩, ⟨none, 0, 0⟩, rfl, s, [], ⟨bb.below b02, lg.below b02, ⟨⟨rfl, .inl ⟨rfl, rfl⟩⟩, by simp⟩, fun j _ e => (by cases e), tb.below b12, (tl.below b12).monoB bb.hi, fun j hj ha => ?_, al.mono (Nat.le_trans bb.hi b01.size)⟩, rfl, Nat.le_refl _⟩
  obtain ⟨z, hz, e⟩ := hj
  have h1 := ((tl.ea z hz).1.lo.cells e).1
  have h2 := bb.ra.mem.allLt ha
  omega
end
end Go.Proofs.YtldlljobofnmmabDoor

namespace Go.Proofs.YtldlljobofnmmabDoor
open Go.RowKit
set_option linter.unusedVariables false
set_option linter.unusedSimpArgs false

def inV4 (a b c d : Value) : Value := .agg #[a, b, c, d]
theorem box_un (w : World) (a b c d : Value) : ∃ w1, (Instr.box 50 (inV4 a b c d)).run Tryd.prog w = .ok (.pointer (some ⟨w.heap.size, 0, none⟩)) w1 ∧ w1.heap[w.heap.size]? = some (.cells #[a, b, c, d] 50 (0, 0)) ∧ Below w.heap.size w w1 := ⟨_, by rw [run_box]; rfl, heap_alloc_new _ _, (Below.refl _ _).alloc (Nat.le_refl _) _⟩
set_option maxRecDepth 100000 in
set_option maxHeartbeats 16000000 in
theorem back_all (pa : Option Addr) (pc : Nat) (Ps : List PlK) (la : Option Addr) (lc : Nat) (L : List SyR) (ma : Option Addr) (mc : Nat) (M : List SyR) (ua : Option Addr) (uc : Nat) (U : List Bool) (w : World) (li : BkI w pa Ps la L ma M ua U) :
    Calls Tryd.prog 4 #[inV4 (.slice pa Ps.length pc) (.slice la L.length lc) (.slice ma M.length mc) (.slice ua U.length uc)] w fun e w' => e = .returned (.bool true) ∧ Below w.heap.size w w' := by
  have LI := hidMk li
  obtain ⟨n, hnn⟩ : ∃ n, L.length = n := ⟨_, rfl⟩
  obtain ⟨pn, hpn⟩ : ∃ n, Ps.length = n := ⟨_, rfl⟩
  obtain ⟨mn, hmn⟩ : ∃ n, M.length = n := ⟨_, rfl⟩
  obtain ⟨un, hun⟩ : ∃ n, U.length = n := ⟨_, rfl⟩
  have HN := hidMk (And.intro hnn (And.intro hpn (And.intro hmn hun)))
  have hln := li.hLn
  have hPn := li.hPn
  have hMn := li.hMn
  have hUn := li.hUn
  rw [hnn] at hln ⊢
  rw [hpn] at hPn ⊢
  rw [hmn] at hMn ⊢
  rw [hun] at hUn ⊢
  obtain ⟨wb0, EB, nb, bb⟩ := box_un w (.slice pa pn pc) (.slice la n lc) (.slice ma mn mc) (.slice ua un uc)
  have HEB := hidMk EB
  have HNB := hidMk nb
  have HBB := hidMk bb
  obtain ⟨ib, hib⟩ : ∃ b, w.heap.size = b := ⟨_, rfl⟩
  rw [hib] at HEB HNB
  clear li hnn hpn hmn hun EB nb bb hib
  have HA := hidMk (live_any wb0)
  have HNEW := hidMk newR_any
  go_enter Tryd.func4, Tryd.ntmps4
  go_upto_region 3 with (first
    | (refine wpList_run rfl (exec_boxE (t := 50) (v := inV4 (.slice pa pn pc) (.slice la n lc) (.slice ma mn mc) (.slice ua un uc)) (u := .pointer (some ⟨ib, 0, none⟩)) (w2 := wb0) rfl rfl HEB.out) ?_)
    | (go_at_call 5; refine HA.out.mono ?_; rintro e w1 ⟨rfl, b1⟩; clear HA)
    | fail)
  have nb1 := (b1.block _ (Array.getElem?_eq_some_iff.1 HNB.out).1).trans HNB.out
  have c0 : w1.cell? ⟨ib, 0, none⟩ = some (.slice pa pn pc) := (cell_of_row w1 ib 0 _ _ _ nb1).trans rfl
  have c1 : w1.cell? ⟨ib, 1, none⟩ = some (.slice la n lc) := (cell_of_row w1 ib 1 _ _ _ nb1).trans rfl
  have c2 : w1.cell? ⟨ib, 2, none⟩ = some (.slice ma mn mc) := (cell_of_row w1 ib 2 _ _ _ nb1).trans rfl
  have c3 : w1.cell? ⟨ib, 3, none⟩ = some (.slice ua un uc) := (cell_of_row w1 ib 3 _ _ _ nb1).trans rfl
  have B1 : Hid (Below w.heap.size w w1) := HBB.out.trans (b1.mono HBB.out.size)
  clear b1 nb1 HEB HNB HBB
  go_wp2_with (first
    | (go_at_call 6; refine (HNEW.out _).mono ?_; rintro e w2 ⟨so, rfl, ra, rl, rp, b2⟩)
    | fail)
  clear c0 c1 c2 c3
  have hj0 : Hid (B1S w w1.heap.size so.r 0 (.slice none 0 0) w2) := ⟨⟨none, 0, 0⟩, rfl, so, [], ⟨ra, rfl, B1.out.trans (b2.mono B1.out.size), B1.out.size, b2.size, fun q => by rw [rl]; simp, by simp, by simp, by rw [rp]; simp⟩, ⟨⟨rfl, .inl ⟨rfl, rfl⟩⟩, by simp⟩, rfl⟩
  clear ra rl rp b2 HNEW B1
  generalize so.r = ro at *
  generalize w1.heap.size = B at *
  go_loopw [8, 9] (fun v8 v9 wr => ∃ (i : Nat) (q8 : SlV), v8 = q8.v ∧ v9 = .int .i64 (i : Int) ∧ i ≤ n ∧ Hid (B1S w B ro i q8.v wr)) (fun _ v9 wr => n - (match v9 with | .int _ i => i.toNat | _ => 0))
  case atStart => exact ⟨0, ⟨none, 0, 0⟩, rfl, rfl, Nat.zero_le _, hj0⟩
  case round =>
    clear hj0
    obtain ⟨i, q8, rfl, rfl, hin, HI⟩ := hrel
    by_cases hi : i < n
    · have CD : Hid (Calls Tryd.prog 7 #[.pointer (some ⟨ro, 0, none⟩), .slice pa pn pc, .slice la n lc, .int .i64 (i : Int)] wr fun e w' => ∃ bk, e = .returned (.pointer (some ⟨bk, 0, none⟩)) ∧ ∃ sv w1 u2 w2, (Instr.buildSlice 51 1 #[(0, .pointer (some ⟨bk, 0, none⟩))]).run Tryd.prog w' = .ok sv w1 ∧ (Builtin.append_ #[51, 51] 51 #[q8.v, sv]).run Tryd.prog w1 = .ok u2 w2 ∧ B1S w B ro (i + 1) u2 w2) := by
        rw [← HN.out.1, ← HN.out.2.1]
        exact b1_do LI.out (by rw [HN.out.1]; exact hi) HI.out
      go_upto_region 12 with fail
      refine bck12 (ro := ro) (n := n) (sc := lc) (i := i) (pn := pn) (pc := pc) (pa := pa) (sa := la) (bv := q8.v) (fun _ u2 W => B1S w B ro (i + 1) u2 W) _ wr _ rfl rfl rfl rfl rfl rfl CD.out ?_
      intro bk sv u2 a' w5 hf ha
      subst ha
      simp only [Act.put, List.setIfInBounds_toArray, List.set_cons_zero, List.set_cons_succ]
      have K5 := hidMk hf
      obtain ⟨u3, rfl⟩ : ∃ u : SlV, u2 = u.v := by obtain ⟨u, e, _⟩ := hf; exact ⟨u, e⟩
      clear hf CD HI
      go_wp2
      rw [show ((i : Int) + 1) = ((i + 1 : Nat) : Int) by omega]
      refine ⟨⟨i + 1, u3, rfl, rfl, hi, K5.out⟩, ?_⟩
      show n - ((i + 1 : Nat) : Int).toNat < n - (i : Int).toNat
      omega
    · obtain rfl : i = n := by omega
      clear hin hi
      obtain ⟨sv8, esv, s0, H0, bb, lg, hl0⟩ := HI.out
      rw [← esv] at lg
      clear esv
      have HBB := hidMk bb
      have HLG := hidMk lg
      have HL0 := hidMk hl0
      clear HI bb lg hl0
      have CT : Hid (Calls Tryd.prog 12 #[.pointer (some ⟨ro, 0, none⟩), .slice pa pn pc] wr fun e w' => ∃ tv, e = .returned tv ∧ ∃ wb w1 w2, (Instr.alloc 55 true (.tuple #[])).run Tryd.prog w' = .ok (.pointer (some ⟨wb, 0, none⟩)) w1 ∧ (Instr.storeAt 55 (.pointer (some ⟨wb, 0, none⟩)) tv).run Tryd.prog w1 = .ok () w2 ∧ B2S wr s0 Ps tv wb w2) := by
        rw [← HN.out.2.1]
        exact b2_told LI.out HBB.out (by omega)
      go_upto_region 13 with fail
      refine bck13 (ro := ro) (pn := pn) (pc := pc) (pa := pa) (fun tv wb W => B2S wr s0 Ps tv wb W) _ wr _ rfl rfl rfl CT.out ?_
      intro tv wb a' W1 hf ha
      subst ha
      simp only [Act.put, List.setIfInBounds_toArray, List.set_cons_zero, List.set_cons_succ]
      have K1 := hidMk hf
      have BW1 : Hid (Below w.heap.size w W1) := by
        obtain ⟨_, _, _, _, _, _, _, _, _, b⟩ := hf
        exact HBB.out.bel.trans (b.mono HBB.out.bel.size)
      clear hf CT
      obtain ⟨e0, y1, u1, y2, av, W2, E0, E1, E2, b12, oal⟩ := all_new (lc := lc) (mc := mc) BW1.out LI.out.hL LI.out.hM LI.out.okL LI.out.okM LI.out.hLn LI.out.hMn
      rw [HN.out.1] at E1
      rw [HN.out.2.2.1] at E2
      have HE := hidMk (And.intro E0 (And.intro E1 E2))
      obtain ⟨gl, g1, g2, g3, g4, g5, gf, c2⟩ := c2_start LI.out HBB.out HLG.out K1.out b12 oal
      have HG := hidMk (And.intro g1 (And.intro g2 (And.intro g3 (And.intro g4 g5))))
      have HGF := hidMk gf
      have C20 := hidMk c2
      obtain ⟨aa, ac, eav⟩ : ∃ a c, av = .slice a (i + mn) c := by
        obtain ⟨a, c, e, _⟩ := oal.open RW_is (fun _ _ => trivial)
        rw [List.length_map, List.length_append, HN.out.1, HN.out.2.2.1] at e
        exact ⟨a, c, e⟩
      have HAV := hidMk eav
      clear E0 E1 E2 b12 oal g1 g2 g3 g4 g5 gf c2 BW1
      go_upto_region 14 with fail
      refine bck14 (lv := .slice la i lc) (mv := .slice ma mn mc) (e0 := e0) (u1 := u1) (u2 := av) (w1 := y1) (w2 := y2) (w3 := W2) _ W1 _ rfl rfl rfl HE.out.1 HE.out.2.1 HE.out.2.2 ?_
      intro a' W3 hf ha
      subst ha
      obtain rfl : W2 = W3 := hf.symm
      simp only [Act.put, List.setIfInBounds_toArray, List.set_cons_zero, List.set_cons_succ]
      rw [eav]
      clear HE eav
      generalize wr = wA at *
      go_wp2
      go_loopw [12, 13] (fun v12 v13 wx => ∃ (k : Nat) (q12 : SlV), v12 = q12.v ∧ v13 = .int .i64 ((i + k : Nat) : Int) ∧ k ≤ mn ∧ Hid (C2 w B ro gl H0 (liOf s0.P) i k q12.v wx)) (fun _ v13 wx => i + mn - (match v13 with | .int _ i => i.toNat | _ => 0))
      case atStart => exact ⟨0, ⟨none, 0, 0⟩, rfl, by rw [Nat.add_zero], Nat.zero_le _, C20⟩
      case round =>
        clear C20
        obtain ⟨k, q12, rfl, rfl, hkm, HI⟩ := hrel
        by_cases hk : k < mn
        · have CD : Hid (Calls Tryd.prog 7 #[.pointer (some ⟨ro, 0, none⟩), .slice pa pn pc, .slice aa (i + mn) ac, .int .i64 ((i + k : Nat) : Int)] wr fun e w' => ∃ bk, e = .returned (.pointer (some ⟨bk, 0, none⟩)) ∧ ∃ sv w1 u2 w2, (Instr.buildSlice 51 1 #[(0, .pointer (some ⟨bk, 0, none⟩))]).run Tryd.prog w' = .ok sv w1 ∧ (Builtin.append_ #[51, 51] 51 #[q12.v, sv]).run Tryd.prog w1 = .ok u2 w2 ∧ D2 w B ro gl H0 (liOf s0.P) i k bk u2 w2) := by
            have hla : gl.LA.length = i + mn := by rw [HG.out.2.2.2.2, List.length_append, HN.out.1, HN.out.2.2.1]
            have := c2_do (pc := pc) (a := aa) (c := ac) (i := i + k) HI.out LI.out.hP LI.out.okP (by have := LI.out.hPn; omega) (fun x hx => by
              rw [HG.out.2.2.2.2] at hx
              rcases List.mem_append.1 hx with q | q
              · exact LI.out.okL x q
              · exact LI.out.okM x q) (by omega) (by rw [HG.out.2.2.2.1, HAV.out, hla]) (by omega) (by omega)
            rwa [hla, HN.out.2.1] at this
          go_upto_region 19 with fail
          refine bck19 (ro := ro) (n := i + mn) (sc := ac) (i := i + k) (pn := pn) (pc := pc) (pa := pa) (sa := aa) (bv := q12.v) (fun bk u2 W => D2 w B ro gl H0 (liOf s0.P) i k bk u2 W) _ wr _ rfl rfl rfl rfl rfl rfl CD.out ?_
          intro bk sv u2 a' w5 hf ha
          subst ha
          simp only [Act.put, List.setIfInBounds_toArray, List.set_cons_zero, List.set_cons_succ]
          have K5 := hidMk hf
          obtain ⟨u3, rfl⟩ : ∃ u : SlV, u2 = u.v := by obtain ⟨u, e, _⟩ := hf; exact ⟨u, e⟩
          clear hf CD HI
          have NXT : Hid ((i : Int) + (k : Int) + 1 = ((i + (k + 1) : Nat) : Int)) := hidMk (by omega)
          by_cases hku : k < un
          · obtain ⟨r, hr⟩ : ∃ r, U[k]? = some r := ⟨_, List.getElem?_eq_getElem (by rw [HN.out.2.2.2]; exact hku)⟩
            obtain ⟨ug, uo, rfl, LB⟩ : ∃ ug uo, ua = some ⟨ug, uo, none⟩ ∧ Hid ((Instr.loadAt 4 (.pointer (some ⟨ug, uo + k, none⟩))).run Tryd.prog w5 = .ok (.bool r) w5) := by
              rcases LI.out.hU with q | ⟨ug, uo, e, h1, h2⟩
              · rw [q] at hr; cases hr
              · refine ⟨ug, uo, e, ?_⟩
                have bw : Below w.heap.size w w5 := by
                  obtain ⟨_, _, _, _, _, _, cc, _⟩ := K5.out
                  exact cc.bb.bel
                have hc : w5.cell? ⟨ug, uo + k, none⟩ = some (.bool r) := by
                  have := rangeAt_keep (h2 k r hr) (bw.block _ h1) 0 (.bool r) rfl
                  simpa using this
                have : (Instr.loadAt 4 (.pointer (some ⟨ug, uo + k, none⟩))).run Tryd.prog w5 = .ok (.bool r) w5 := by go_simp
                exact this
            clear hr
            go_upto_region 20 with fail
            refine bck20y (n := i) (sc := lc) (i := i + k) (k := k) (ug := ug) (uo := uo) (un := un) (uc := uc) (sa := la) (r := r) _ w5 _ rfl rfl rfl rfl rfl (by omega) hku (by omega) (fun W e => by rw [e]; exact LB.out) ?_
            intro a' w6 hf ha
            subst ha
            obtain rfl : w5 = w6 := hf.symm
            simp only [Act.put, List.setIfInBounds_toArray, List.set_cons_zero, List.set_cons_succ]
            clear LB
            cases r
            · go_wp2
              rw [NXT.out]
              refine ⟨⟨k + 1, u3, rfl, rfl, hk, d2_keep K5.out⟩, ?_⟩
              show i + mn - ((i + (k + 1) : Nat) : Int).toNat < i + mn - ((i + k : Nat) : Int).toNat
              omega
            · obtain ⟨gg, ln, uc2, j, ev, hj, hl2, hc, ld, cu⟩ := d2_undo K5.out
              have LDJ := hidMk ld
              have CU := hidMk cu
              rw [ev]
              clear ld cu K5 ev
              go_upto_region 21 with fail
              refine bck21 (ro := ro) (g := gg) (ln := ln) (c := uc2) (j := j) (bk := bk) (fun W => C2 w B ro gl H0 (liOf s0.P) i (k + 1) (.slice (some ⟨gg, 0, none⟩) j uc2) W) _ w5 _ rfl rfl rfl hj (by omega) (by omega) (by omega) (fun W e => by rw [e]; exact LDJ.out) CU.out ?_
              intro a' w6 hf ha
              subst ha
              simp only [Act.put, List.setIfInBounds_toArray, List.set_cons_zero, List.set_cons_succ]
              have K6 := hidMk hf
              clear hf LDJ CU
              go_upto_region 23 with fail
              refine bck23 (g := gg) (ln := ln) (c := uc2) (j := j) _ w6 _ rfl rfl hj (by omega) hc ?_
              intro a' w7 hf ha
              subst ha
              obtain rfl : w6 = w7 := hf.symm
              simp only [Act.put, List.setIfInBounds_toArray, List.set_cons_zero, List.set_cons_succ]
              go_wp2
              rw [NXT.out]
              refine ⟨⟨k + 1, ⟨some ⟨gg, 0, none⟩, j, uc2⟩, rfl, rfl, hk, K6.out⟩, ?_⟩
              show i + mn - ((i + (k + 1) : Nat) : Int).toNat < i + mn - ((i + k : Nat) : Int).toNat
              omega
          · go_upto_region 20 with fail
            refine bck20n (n := i) (sc := lc) (i := i + k) (k := k) (un := un) (uc := uc) (sa := la) (ua := ua) _ w5 _ rfl rfl rfl rfl rfl (by omega) (decide_eq_false hku) ?_
            intro a' w6 hf ha
            subst ha
            obtain rfl : w5 = w6 := hf.symm
            simp only [Act.put, List.setIfInBounds_toArray, List.set_cons_zero, List.set_cons_succ]
            go_wp2
            rw [NXT.out]
            refine ⟨⟨k + 1, u3, rfl, rfl, hk, d2_keep K5.out⟩, ?_⟩
            show i + mn - ((i + (k + 1) : Nat) : Int).toNat < i + mn - ((i + k : Nat) : Int).toNat
            omega
        · obtain rfl : k = mn := by omega
          clear hkm hk
          obtain ⟨⟨xa, xn, xc⟩, Ga, esv, hGl, hsn, c3⟩ := c3_of HI.out
          simp only at hsn
          subst hsn
          have C30 := hidMk c3
          obtain ⟨ln, hlnn⟩ : ∃ l, Ga.length = l := ⟨_, rfl⟩
          have HLNN := hidMk hlnn
          rw [show q12.v = .slice xa ln xc by rw [esv, ← hlnn]; rfl]
          rw [hlnn] at hGl
          rw [hlnn] at C30
          clear HI esv c3 hlnn
          have hsub : ((ln : Int) - 1) = (ln : Int) - 1 := rfl
          generalize wr = wB at *
          go_wp2
          go_loopw [14] (fun v14 wx => ∃ j : Nat, v14 = .int .i64 ((j : Int) - 1) ∧ j ≤ ln ∧ Hid (C3 w B ro gl H0 (liOf s0.P) (i + 2 * k) (SlV.v ⟨xa, ln, xc⟩) Ga j wx)) (fun v14 wx => (match v14 with | .int _ i => (i + 1).toNat | _ => 0))
          case atStart => exact ⟨ln, rfl, Nat.le_refl _, C30⟩
          case round =>
            clear C30
            obtain ⟨j, rfl, hjl, HI⟩ := hrel
            cases j with
            | succ j =>
              rw [show (((j + 1 : Nat) : Int) - 1) = (j : Int) by omega]
              obtain ⟨gg, rfl⟩ : ∃ gg, xa = some ⟨gg, 0, none⟩ := by
                obtain ⟨_, s, cc, _⟩ := HI.out
                obtain ⟨gg, c, e⟩ := cc.b12.o.form (i := 0) (by have := HLNN.out; simp; omega)
                unfold SlV.v at e
                injection e with e
                exact ⟨gg, e⟩
              have h63 : ln ≤ 9223372036854775807 := by omega
              have KK : Hid (∀ (bk : Nat) (W : World), C3 w B ro gl H0 (liOf s0.P) (i + 2 * k) (SlV.v ⟨some ⟨gg, 0, none⟩, ln, xc⟩) Ga (j + 1) W → ∃ bk, (Instr.loadAt 27 (.pointer (some ⟨gg, 0 + j, none⟩))).run Tryd.prog W = .ok (.pointer (some ⟨bk, 0, none⟩)) W ∧ Calls Tryd.prog 13 #[.pointer (some ⟨ro, 0, none⟩), .pointer (some ⟨bk, 0, none⟩)] W fun e w1 => e = .returned (.int .i64 0) ∧ (Instr.loadAt 27 (.pointer (some ⟨gg, 0 + j, none⟩))).run Tryd.prog w1 = .ok (.pointer (some ⟨bk, 0, none⟩)) w1 ∧ Calls Tryd.prog 13 #[.pointer (some ⟨ro, 0, none⟩), .pointer (some ⟨bk, 0, none⟩)] w1 fun e w2 => e = .returned (.int .i64 2) ∧ C3 w B ro gl H0 (liOf s0.P) (i + 2 * k) (SlV.v ⟨some ⟨gg, 0, none⟩, ln, xc⟩) Ga j w2) := fun _ W h => c3_step h rfl
              by_cases hj0 : 0 < j
              · obtain ⟨j', rfl⟩ : ∃ j', j = j' + 1 := ⟨j - 1, by omega⟩
                obtain ⟨b1, ld1, cu1⟩ := c3_prev HI.out (gg := gg) (n := ln) (c := xc) rfl
                have LD1 := hidMk ld1
                have CU1 := hidMk cu1
                clear ld1 cu1 HI
                go_upto_region 27 with fail
                refine bck27y (ro := ro) (g := gg) (ln := ln) (c := xc) (i := j' + 1) (j := j') (bk := b1) (fun W => C3 w B ro gl H0 (liOf s0.P) (i + 2 * k) (SlV.v ⟨some ⟨gg, 0, none⟩, ln, xc⟩) Ga (j' + 2) W) _ wr _ rfl rfl rfl rfl (decide_eq_true hj0) rfl (by omega) (by omega) h63 (fun W e => by rw [e]; exact LD1.out) CU1.out ?_
                intro a' w5 hf ha
                subst ha
                simp only [Act.put, List.setIfInBounds_toArray, List.set_cons_zero, List.set_cons_succ]
                obtain ⟨b2, ld2, cu2⟩ := KK.out 0 w5 hf
                have LD2 := hidMk ld2
                have CU2 := hidMk cu2
                clear hf ld2 cu2 LD1 CU1 KK
                go_upto_region 29 with fail
                refine bck29 (ro := ro) (g := gg) (ln := ln) (c := xc) (i := j' + 1) (bk := b2) (fun W => C3 w B ro gl H0 (liOf s0.P) (i + 2 * k) (SlV.v ⟨some ⟨gg, 0, none⟩, ln, xc⟩) Ga (j' + 1) W) _ w5 _ rfl rfl rfl rfl (by omega) h63 (fun W e => by rw [e]; exact LD2.out) CU2.out ?_
                intro a' w6 hf ha
                subst ha
                simp only [Act.put, List.setIfInBounds_toArray, List.set_cons_zero, List.set_cons_succ]
                have K6 := hidMk hf
                clear hf LD2 CU2
                go_wp2
                refine ⟨⟨j' + 1, by congr 1 <;> omega, by omega, K6.out⟩, ?_⟩
                show Int.toNat _ < Int.toNat _
                omega
              · obtain rfl : j = 0 := by omega
                go_upto_region 27 with fail
                refine bck27z (i := 0) _ wr _ rfl rfl (by decide) ?_
                intro a' w5 hf ha
                subst ha
                obtain rfl : wr = w5 := hf.symm
                simp only [Act.put, List.setIfInBounds_toArray, List.set_cons_zero, List.set_cons_succ]
                obtain ⟨b2, ld2, cu2⟩ := KK.out 0 wr HI.out
                have LD2 := hidMk ld2
                have CU2 := hidMk cu2
                clear ld2 cu2 KK HI
                go_upto_region 29 with fail
                refine bck29 (ro := ro) (g := gg) (ln := ln) (c := xc) (i := 0) (bk := b2) (fun W => C3 w B ro gl H0 (liOf s0.P) (i + 2 * k) (SlV.v ⟨some ⟨gg, 0, none⟩, ln, xc⟩) Ga 0 W) _ wr _ rfl rfl rfl rfl (by omega) h63 (fun W e => by rw [e]; exact LD2.out) CU2.out ?_
                intro a' w6 hf ha
                subst ha
                simp only [Act.put, List.setIfInBounds_toArray, List.set_cons_zero, List.set_cons_succ]
                have K6 := hidMk hf
                clear hf LD2 CU2
                go_wp2
                refine ⟨⟨0, by congr 1 <;> omega, by omega, K6.out⟩, ?_⟩
                show Int.toNat _ < Int.toNat _
                omega
            | zero =>
              have hgb : gl.wb = wb := HG.out.2.2.1
              have bd : Below wr.heap.size wr wr.drew := (Below.refl _ _).drew
              have C3d : Hid (C3 w B ro gl H0 (liOf s0.P) (i + 2 * k) (SlV.v ⟨xa, ln, xc⟩) Ga 0 wr.drew) := by
                obtain ⟨h1, s, cc, hu⟩ := HI.out
                exact ⟨h1, s, cc.below bd, hu⟩
              have CT : Hid (Calls Tryd.prog 12 #[.pointer (some ⟨ro, 0, none⟩), .slice pa pn pc] wr.drew fun e w1 => ∃ tu, e = .returned tu ∧ Below wr.heap.size wr w1 ∧ Calls Tryd.prog 14 #[tu, tlV gl.ev gl.kv gl.z] w1 fun e w2 => e = .returned (.bool true) ∧ Below wr.heap.size wr w2) := by
                rw [← HN.out.2.1]
                refine (c3_told (pc := pc) LI.out C3d.out (by have := HLNN.out; omega) HGF.out).mono ?_
                rintro e w1 ⟨tu, rfl, b, cs⟩
                exact ⟨tu, rfl, bd.trans (b.mono bd.size), cs.mono (fun e w2 h => ⟨h.1, bd.trans (h.2.mono bd.size)⟩)⟩
              have LT : Hid (∀ W, Below wr.heap.size wr W → (Instr.loadAt 55 (.pointer (some ⟨wb, 0, none⟩))).run Tryd.prog W = .ok (tlV gl.ev gl.kv gl.z) W) := by
                intro W b
                obtain ⟨_, s, cc, _⟩ := HI.out
                rw [← hgb]
                exact tb_ld (cc.tb.below b)
              have C4N : Hid (∀ W, Below wr.heap.size wr W → C4 w B ro gl (i + 2 * k + Ga.length) (SlV.v ⟨xa, ln, xc⟩) ((Ga.map (·.bk)).reverse) H0 H0.length W) := by
                intro W b
                obtain ⟨h1, s, cc, hu⟩ := HI.out
                exact c4_of ⟨h1, s, cc.below b, hu⟩ HG.out.2.1
              have BD := hidMk bd
              clear bd C3d HI hgb
              go_upto_region 31 with fail
              refine bck31 (ro := ro) (wb := wb) (pn := pn) (pc := pc) (pa := pa) (tv := tlV gl.ev gl.kv gl.z) (fun W => Below wr.heap.size wr W) _ wr _ rfl rfl rfl rfl BD.out LT.out CT.out ?_
              intro tu a' w5 hf ha
              subst ha
              simp only [Act.put, List.setIfInBounds_toArray, List.set_cons_zero, List.set_cons_succ]
              have C40 := hidMk (C4N.out w5 hf)
              clear hf CT LT C4N BD
              obtain ⟨ya, yc, e8⟩ : ∃ a c, q8.v = .slice a i c := by
                obtain ⟨_, hb8, s, cc⟩ := C40.out
                obtain ⟨a, c, e, _⟩ := cc.b8.o.open
                rw [hb8, HG.out.1] at e
                have : (List.map bkV (H0.map (·.bk)).reverse).length = i := by simp [HL0.out]
                rw [this] at e
                exact ⟨a, c, e⟩
              have HE8 := hidMk e8
              rw [e8]
              clear e8
              generalize wr = wC at *
              go_wp2
              go_loopw [15] (fun v15 wx => ∃ j : Nat, v15 = .int .i64 ((j : Int) - 1) ∧ j ≤ i ∧ Hid (C4 w B ro gl (i + 2 * k + Ga.length) (SlV.v ⟨xa, ln, xc⟩) ((Ga.map (·.bk)).reverse) H0 j wx)) (fun v15 wx => (match v15 with | .int _ i => (i + 1).toNat | _ => 0))
              case atStart => exact ⟨i, rfl, Nat.le_refl _, by have := C40.out; rwa [HL0.out] at this⟩
              case round =>
                clear C40
                obtain ⟨j, rfl, hjl, HI⟩ := hrel
                cases j with
                | succ j =>
                  rw [show (((j + 1 : Nat) : Int) - 1) = (j : Int) by omega]
                  obtain ⟨gg, rfl⟩ : ∃ gg, ya = some ⟨gg, 0, none⟩ := by
                    obtain ⟨_, hb8, s, cc⟩ := HI.out
                    obtain ⟨gg, c, e⟩ := cc.b8.o.form (i := 0) (by have := HL0.out; rw [hb8]; simp; omega)
                    rw [HG.out.1, HE8.out] at e
                    injection e with e
                    exact ⟨gg, e⟩
                  obtain ⟨b1, ld1, cu1⟩ := c4_step HI.out (gg := gg) (n := i) (c := yc) (by rw [HG.out.1]; exact HE8.out)
                  have LD1 := hidMk ld1
                  have CU1 := hidMk cu1
                  clear ld1 cu1 HI
                  go_upto_region 36 with fail
                  refine bck36 (ro := ro) (g := gg) (ln := i) (c := yc) (i := j) (bk := b1) (fun W => C4 w B ro gl (i + 2 * k + Ga.length) (SlV.v ⟨xa, ln, xc⟩) ((Ga.map (·.bk)).reverse) H0 j W) _ wr _ rfl rfl rfl rfl (by omega) (by omega) (fun W e => by rw [e]; exact LD1.out) CU1.out ?_
                  intro a' w6 hf ha
                  subst ha
                  simp only [Act.put, List.setIfInBounds_toArray, List.set_cons_zero, List.set_cons_succ]
                  have K6 := hidMk hf
                  clear hf LD1 CU1
                  go_wp2
                  refine ⟨⟨j, rfl, by omega, K6.out⟩, ?_⟩
                  show Int.toNat _ < Int.toNat _
                  omega
                | zero =>
                  have CL := hidMk (c4_end (pc := pc) LI.out HI.out (by have := HLNN.out; have := HL0.out; omega))
                  rw [HN.out.2.1] at CL
                  clear HI
                  go_upto_region 38 with fail
                  refine bck38 (ro := ro) (pn := pn) (pc := pc) (pa := pa) (fun W => Below w.heap.size w W) _ wr _ rfl rfl rfl CL.out ?_
                  intro t1 rn t2 a' w6 hf ha
                  subst ha
                  simp only [Act.put, List.setIfInBounds_toArray, List.set_cons_zero, List.set_cons_succ]
                  have K6 := hidMk hf
                  clear hf CL
                  go_wp2
                  go_ret
                  exact ⟨rfl, K6.out⟩
end Go.Proofs.YtldlljobofnmmabDoor

