import Derived.Test.YtldlljobofnmmabDoorRgh
namespace Go.Proofs.YtldlljobofnmmabDoor
open Go.RowKit
set_option linter.unusedVariables false
set_option linter.unusedSimpArgs false

/-- A key is among an object's. -/
def KHas (K : List (IdK × (Nat × List ByteArray))) (o : IdK) (k : ByteArray) : Prop := ∃ b l, (o, (b, l)) ∈ K ∧ k ∈ l
theorem khas_put {K : List (IdK × (Nat × List ByteArray))} (hn : (K.map (·.1)).Nodup) {u : IdK} {b : Nat} {l : List ByteArray} (o : IdK) (k : ByteArray) : KHas (M.put K u (b, l)) o k ↔ (o = u ∧ k ∈ l) ∨ (o ≠ u ∧ KHas K o k) := by
  constructor
  · rintro ⟨b', l', h, hk⟩
    rcases put_memG hn h with e | ⟨h, hne⟩
    · cases e; exact .inl ⟨rfl, hk⟩
    · exact .inr ⟨hne, b', l', h, hk⟩
  · rintro (⟨rfl, hk⟩ | ⟨hne, b', l', h, hk⟩)
    · exact ⟨b, l, put_inG _ _ hn, hk⟩
    · exact ⟨b', l', put_oldG _ hn h hne, hk⟩
theorem khas_del {K : List (IdK × (Nat × List ByteArray))} (hn : (K.map (·.1)).Nodup) {u : IdK} (o : IdK) (k : ByteArray) : KHas (M.del K u) o k ↔ o ≠ u ∧ KHas K o k := by
  constructor
  · rintro ⟨b', l', h, hk⟩
    obtain ⟨h, hne⟩ := (del_memG hn).1 h
    exact ⟨hne, b', l', h, hk⟩
  · rintro ⟨hne, b', l', h, hk⟩
    exact ⟨b', l', (del_memG hn).2 ⟨h, hne⟩, hk⟩
theorem khas_of {K : List (IdK × (Nat × List ByteArray))} (hn : (K.map (·.1)).Nodup) {u : IdK} {b : Nat} {l : List ByteArray} (h : (u, (b, l)) ∈ K) (k : ByteArray) : KHas K u k ↔ k ∈ l := by
  constructor
  · rintro ⟨b', l', h', hk⟩
    have := (M.look_of_mem hn h).symm.trans (M.look_of_mem hn h')
    cases this
    exact hk
  · exact fun hk => ⟨b, l, h, hk⟩
theorem khas_no {K : List (IdK × (Nat × List ByteArray))} (hn : (K.map (·.1)).Nodup) {u : IdK} (h : M.look K u = none) (k : ByteArray) : ¬ KHas K u k := by
  rintro ⟨b', l', h', hk⟩
  rw [M.look_of_mem hn h'] at h; cases h
def Full (K : List (IdK × (Nat × List ByteArray))) : Prop := ∀ q ∈ K, q.2.2 ≠ []
/-- The keys are just those of what lies there. -/
structure KeysOk (K : List (IdK × (Nat × List ByteArray))) (P : List (PlK × (Value × List EnV))) : Prop where
  full : Full K
  mem : ∀ o k, KHas K o k ↔ (M.look P ⟨o, k, zId⟩).isSome = true
theorem zeroIm (w : World) : (zeroValue 97).run Tryd.prog w = .ok (.map none) w := by kernel_rfl
theorem zeroUn (w : World) : (zeroValue 98).run Tryd.prog w = .ok (.agg #[]) w := by kernel_rfl
theorem zeroEl (w : World) : (zeroValue 44).run Tryd.prog w = .ok (.slice none 0 0) w := by kernel_rfl
section
variable {w w' : World} {base : Nat} {s : Rs}
theorem RgM.lookK (h : RgM w base s) (u : IdK) (hu : u.ok) : (Instr.lookup 67 (.map (some s.bk)) u.v false).run Tryd.prog w = .ok (.map ((M.look s.K u).map (·.1))) w := by
  rw [M.run_look idKey Tryd.underlying67 h.kl u hu (zeroIm w) false, entK, M.look_on]
  cases M.look s.K u <;> rfl
/-- What lies at a place, as the map tells it. -/
def lvOf (P : List (PlK × (Value × List EnV))) (p : PlK) : Value := ((M.look P p).map (·.1)).getD (.slice none 0 0)
def liOf (P : List (PlK × (Value × List EnV))) (p : PlK) : List EnV := ((M.look P p).map (·.2)).getD []
theorem RgM.lookP (h : RgM w base s) (p : PlK) (hp : p.ok) : (Instr.lookup 66 (.map (some s.bp)) p.v false).run Tryd.prog w = .ok (lvOf s.P p) w := by
  rw [M.run_look plKey Tryd.underlying66 h.pl p hp (zeroEl w) false, entP, M.look_on]
  rfl
theorem RgM.list (h : RgM w base s) (p : PlK) : RN.Lo w base (lvOf s.P p) (liOf s.P p) ∧ ∀ x ∈ liOf s.P p, x.ok := by
  unfold lvOf liOf
  cases hl : M.look s.P p with
  | none => exact ⟨RowT.lo_nil RN w base, fun x hx => by cases hx⟩
  | some q =>
    have := h.en _ (M.look_mem hl)
    exact ⟨this.1, this.2.2⟩
end
def KMore (K : List (IdK × (Nat × List ByteArray))) (p : PlK) (o : IdK) (k : ByteArray) : Prop := KHas K o k ∨ (p.a = zId ∧ o = p.o ∧ k = p.k)
def KLess (K : List (IdK × (Nat × List ByteArray))) (p : PlK) (o : IdK) (k : ByteArray) : Prop := KHas K o k ∧ ¬ (p.a = zId ∧ o = p.o ∧ k = p.k)
/-- What note and forget leave. -/
structure KNxt (w : World) (base : Nat) (s : Rs) (Q : IdK → ByteArray → Prop) (w' : World) : Prop where
  ex : ∃ K', RgM w' base { s with K := K' } ∧ (Full s.K → Full K') ∧ (∀ o k, KHas K' o k ↔ Q o k) ∧ ∀ j ∈ K'.map (·.2.1), j ∈ s.bl ∨ w.heap.size ≤ j
  tch : Tch (fun j => j ∈ s.bl) w w'
theorem tch_of {w w' : World} (h : Below w.heap.size w w') (O : Nat → Prop) : Tch O w w' := Tch.of_below h (fun k hk hb => by omega)
theorem setM_tch (w : World) (b : Nat) (o : Obj) : Tch (fun j => j = b) w (M.setM w b o) := ⟨rfl, rfl, rfl, by rw [M.setM_size]; exact Nat.le_refl _, fun j _ hj => M.setM_other o hj⟩
theorem alloc_other (w : World) (o : Obj) {j : Nat} (h : j < w.heap.size) : (w.alloc o).heap[j]? = w.heap[j]? := Below.heap_alloc _ _ j h
theorem drop_im (w : World) (k : ByteArray) (ty : TypeId) : (Builtin.delete_ #[97, 9] ty #[.map none, .string k]).run Tryd.prog w = .ok (.tuple #[]) w := by
  have hc := MapKept.run_checkKey (P := Tryd.prog) (w := w) (d := .string) (k := .string k) Tryd.underlying9 trivial true 9999
  simp [Builtin.delete_, run_underlying Tryd.underlying97, hc, Result.andThen]
set_option maxRecDepth 100000 in
set_option maxHeartbeats 4000000 in
/-- note keeps a key. -/
theorem note_any {w : World} {base : Nat} {s : Rs} (h : RgM w base s) (hb : base ≤ w.heap.size) {p : PlK} (hp : p.ok) :
    Calls Tryd.prog 43 #[.pointer (some ⟨s.r, 0, none⟩), p.v] w fun e w' => e = .returned (.tuple #[]) ∧ KNxt w base s (KMore s.K p) w' := by
  have hk := h.keys
  -- the place's box
  have b1 : Below w.heap.size w (w.alloc (.cells p.c.toArray 34)) := (Below.refl _ _).alloc (Nat.le_refl _) _
  have bx1 : (w.alloc (.cells p.c.toArray 34)).rangeAt w.heap.size 0 p.c := range_box w p.c _
  have z1 : (w.alloc (.cells p.c.toArray 34)).heap.size = w.heap.size + 1 := by simp
  have h1 := h.below b1
  obtain ⟨w1, hw1⟩ : ∃ w1, w.alloc (.cells p.c.toArray 34) = w1 := ⟨_, rfl⟩
  have EB := hidMk (show (Instr.box 34 p.v).run Tryd.prog w = .ok (.pointer (some ⟨w.heap.size, 0, none⟩)) w1 by rw [run_box, ← hw1]; rfl)
  rw [hw1] at b1 bx1 z1 h1
  clear hw1
  have rs1 : RS s.r s.bp s.bk w.heap.size p w1 := ⟨h1.c0, h1.c1, bx1⟩
  by_cases hz : p.a = zId
  · -- keys are kept
    have hr : decide (p.a ≠ zId) = false := by simp [hz]
    have inner : ∀ (K2 : List (IdK × (Nat × List ByteArray))) (W : World) (ib : Nat) (l : List ByteArray), RgM W base { s with K := K2 } → (p.o, (ib, l)) ∈ K2 → (∀ j ∈ K2.map (·.2.1), j ∈ s.bl ∨ w.heap.size ≤ j) → Tch (fun j => j ∈ s.bl) w W → (∀ o k, KHas K2 o k ↔ KHas s.K o k) → (Full s.K → ∀ q ∈ K2, q.1 ≠ p.o → q.2.2 ≠ []) →
        ∃ w3, (Instr.mapUpdate 97 (.map (some ib)) (.string p.k) (.agg #[])).run Tryd.prog W = .ok () w3 ∧ KNxt w base s (KMore s.K p) w3 := by
      intro K2 W ib l hW hq hbl htc hkh hfull
      have hk2 : (K2.map (·.1)).Nodup := hW.keys
      have hm := hW.kr _ hq
      obtain ⟨ob, eu, hm3⟩ := M.run_put txKey Tryd.underlying97 hm p.k hp.k (.agg #[])
      obtain ⟨l', el, hl'⟩ := put_S l p.k (hW.nodup hq)
      rw [el] at hm3
      refine ⟨M.setM W ib ob, eu, ⟨M.put K2 p.o (ib, l'), hW.setRow hq (fun j hj => M.setM_other ob hj) hm3, ?_, ?_, ?_⟩, ?_⟩
      · intro hf q hq'
        rcases put_memG hk2 hq' with rfl | ⟨hq', hne⟩
        · intro e
          have := (hl' p.k).2 (Or.inr rfl)
          simp only at e
          rw [e] at this; cases this
        · exact hfull hf q hq' hne
      · intro o k
        rw [khas_put hk2]
        constructor
        · rintro (⟨rfl, hk'⟩ | ⟨hne, hk'⟩)
          · rcases (hl' k).1 hk' with q | q
            · exact .inl ((hkh _ _).1 ((khas_of hk2 hq k).2 q))
            · exact .inr ⟨hz, rfl, q⟩
          · exact .inl ((hkh _ _).1 hk')
        · rintro (hk' | ⟨_, rfl, rfl⟩)
          · by_cases e : o = p.o
            · subst e
              exact .inl ⟨rfl, (hl' k).2 (.inl ((khas_of hk2 hq k).1 ((hkh _ _).2 hk')))⟩
            · exact .inr ⟨e, (hkh _ _).2 hk'⟩
          · exact .inl ⟨rfl, (hl' _).2 (.inr rfl)⟩
      · intro j hj
        obtain ⟨q, hq', rfl⟩ := List.mem_map.1 hj
        rcases put_memG hk2 hq' with rfl | ⟨hq', _⟩
        · exact hbl _ (List.mem_map.2 ⟨_, hq, rfl⟩)
        · exact hbl _ (List.mem_map.2 ⟨_, hq', rfl⟩)
      · refine htc.trans' (setM_tch W ib ob) (fun j hj e => ?_)
        rcases hbl ib (List.mem_map.2 ⟨_, hq, rfl⟩) with q | q
        · rw [e]; exact q
        · omega
    have INN := hidMk inner
    have H1 := hidMk h1
    have HR := hidMk hr
    have T1 : Hid (Tch (fun j => j ∈ s.bl) w w1) := tch_of b1 _
    clear inner
    cases hl : M.look s.K p.o with
    | some q =>
      obtain ⟨ib, l⟩ := q
      have LK : ∀ W, W = w1.drew → (Instr.lookup 67 (.map (some s.bk)) p.o.v false).run Tryd.prog W = .ok (.map (some ib)) W := fun W e => by
        rw [e]
        have := (h1.below (Below.refl w1.heap.size w1).drew).lookK p.o hp.o
        rw [hl] at this
        exact this
      obtain ⟨w3, eu, nx⟩ := INN.out s.K w1.drew.drew ib l (h1.below ((Below.refl w1.heap.size w1).drew.drew)) (M.look_mem hl) (fun j hj => .inl (List.mem_cons_of_mem _ (List.mem_cons_of_mem _ (List.mem_cons_of_mem _ hj)))) (T1.out.trans' (tch_of ((Below.refl w1.heap.size w1).drew.drew) (fun _ => False)) (fun j _ q => q.elim)) (fun o k => Iff.rfl) (fun hf q hq _ => hf q hq)
      have EU := hidMk eu
      have NX := hidMk nx
      have HLK := hidMk LK
      have HL2 := hidMk (fun W (e : W = w1.drew.drew) => show (Instr.lookup 67 (.map (some s.bk)) p.o.v false).run Tryd.prog W = .ok (.map (some ib)) W by
        rw [e]
        have := (h1.below (Below.refl w1.heap.size w1).drew.drew).lookK p.o hp.o
        rw [hl] at this
        exact this)
      have rsd : RS s.r s.bp s.bk w.heap.size p w1.drew := rs1.drew
      have rsdd : RS s.r s.bp s.bk w.heap.size p w1.drew.drew := rs1.drew.drew
      clear eu nx LK hl h h1 hk hr
      go_enter Tryd.func43, Tryd.ntmps43
      go_upto_region 1 with (first
        | (refine wpList_run rfl (exec_boxE (t := 34) (v := p.v) (u := .pointer (some ⟨w.heap.size, 0, none⟩)) (w2 := w1) rfl rfl EB.out) ?_)
        | fail)
      refine note1 (pb := w.heap.size) (p := p) (r := false) _ w1 _ rfl rfl hp bx1 HR.out ?_
      intro a' w' hw' ha
      subst ha
      obtain rfl : w1 = w' := hw'.symm
      simp only [Act.put, List.setIfInBounds_toArray, List.set_cons_zero, List.set_cons_succ]
      go_upto_region 2 with fail
      refine note2 (rb := s.r) (mb := s.bp) (kb := s.bk) (pb := w.heap.size) (p := p) (im := some ib) (r := false) _ w1 _ rfl rfl rfl hp rsd HLK.out rfl ?_
      intro a' w' hw' ha
      subst ha
      obtain rfl : w1.drew = w' := hw'.symm
      simp only [Act.put, List.setIfInBounds_toArray, List.set_cons_zero, List.set_cons_succ]
      go_upto_region 4 with fail
      refine note4 (rb := s.r) (mb := s.bp) (kb := s.bk) (pb := w.heap.size) (p := p) (ib := ib) (w2 := w3) _ w1.drew _ rfl rfl rfl hp rsdd HL2.out EU.out ?_
      intro a' w' hw' ha
      subst ha
      obtain rfl : w3 = w' := hw'.symm
      simp only [Act.put, List.setIfInBounds_toArray, List.set_cons_zero, List.set_cons_succ]
      go_end0
      exact ⟨rfl, NX.out⟩
    | none =>
      have hd := h1.below (Below.refl w1.heap.size w1).drew.drew
      have LK : ∀ W, W = w1.drew → (Instr.lookup 67 (.map (some s.bk)) p.o.v false).run Tryd.prog W = .ok (.map none) W := fun W e => by
        rw [e]
        have := (h1.below (Below.refl w1.heap.size w1).drew).lookK p.o hp.o
        rw [hl] at this
        exact this
      -- a new map, and where it is kept
      obtain ⟨w2, hw2⟩ : ∃ w2, w1.drew.drew.alloc (.map #[] 0) = w2 := ⟨_, rfl⟩
      have b2 : Below w1.heap.size w1.drew.drew w2 := by rw [← hw2]; exact (Below.refl w1.heap.size w1.drew.drew).alloc (Nat.le_refl _) _
      have EM := hidMk (show (Instr.makeMap 97 none).run Tryd.prog w1.drew.drew = .ok (.map (some w1.heap.size)) w2 by rw [mk_map, hw2]; rfl)
      have m2 : M.MapAt w2 w1.heap.size tx txOk (entS []) := by rw [← hw2]; exact M.MapAt.new _ _ _
      have h2 := hd.below b2
      obtain ⟨ob, eu, hm3⟩ := M.run_put idKey Tryd.underlying67 h2.kl p.o hp.o (.map (some w1.heap.size))
      have lbk : s.bk < w1.heap.size := h1.lt s.bk (by simp [Rs.bl])
      have h3 : RgM (M.setM w2 s.bk ob) base { s with K := M.put s.K p.o (w1.heap.size, []) } := h2.newRow hl (fun hm => by have := h1.lt _ hm; omega) (by have := b1.size; omega) (fun j hj hne => M.setM_other ob hne) hm3 (l := []) (m2.below (M.setM_other ob (by omega)))
      have t3 : Tch (fun j => j ∈ s.bl) w (M.setM w2 s.bk ob) := (T1.out.trans' (tch_of (((Below.refl w1.heap.size w1).drew.drew).trans b2) (fun _ => False)) (fun j _ q => q.elim)).trans' (setM_tch w2 s.bk ob) (fun j _ e => by rw [e]; simp [Rs.bl])
      have rs2 : RS s.r s.bp s.bk w.heap.size p w2 := ⟨h2.c0, h2.c1, rangeAt_keep bx1 (b2.block _ (by omega))⟩
      have hi3 : (p.o, (w1.heap.size, ([] : List ByteArray))) ∈ M.put s.K p.o (w1.heap.size, []) := put_inG _ _ hk
      have lk3 := hidMk (fun W (e : W = (M.setM w2 s.bk ob).drew) => show (Instr.lookup 67 (.map (some s.bk)) p.o.v false).run Tryd.prog W = .ok (.map (some w1.heap.size)) W by
        rw [e]
        have := (h3.below (Below.refl (M.setM w2 s.bk ob).heap.size _).drew).lookK p.o hp.o
        rw [M.look_of_mem (M.put_keys _ _ _ hk) hi3] at this
        exact this)
      have rs3 : RS s.r s.bp s.bk w.heap.size p (M.setM w2 s.bk ob) := ⟨h3.c0, h3.c1, rangeAt_keep rs2.pl (M.setM_other ob (by have := h.lt s.bk (by simp [Rs.bl]); omega))⟩
      obtain ⟨w4, eu4, nx⟩ := INN.out (M.put s.K p.o (w1.heap.size, [])) (M.setM w2 s.bk ob).drew w1.heap.size [] (h3.below (Below.refl (M.setM w2 s.bk ob).heap.size _).drew) hi3 (fun j hj => by
        obtain ⟨q, hq, rfl⟩ := List.mem_map.1 hj
        rcases put_memG hk hq with rfl | ⟨hq, _⟩
        · right; show w.heap.size ≤ w1.heap.size; omega
        · exact .inl (Rs.row_bl hq)) (t3.trans' (tch_of (Below.refl (M.setM w2 s.bk ob).heap.size _).drew (fun _ => False)) (fun j _ q => q.elim)) (fun o k => by
        rw [khas_put hk]
        constructor
        · rintro (⟨_, hk'⟩ | ⟨_, hk'⟩)
          · cases hk'
          · exact hk'
        · intro hk'
          exact .inr ⟨fun e => khas_no hk hl k (e ▸ hk'), hk'⟩) (fun hf q hq hne => by
        rcases put_memG hk hq with rfl | ⟨hq, _⟩
        · exact absurd rfl hne
        · exact hf q hq)
      have EU := hidMk eu
      have EU4 := hidMk eu4
      have NX := hidMk nx
      have HLK := hidMk LK
      have rsd : RS s.r s.bp s.bk w.heap.size p w1.drew := rs1.drew
      have rsdd : RS s.r s.bp s.bk w.heap.size p w1.drew.drew := rs1.drew.drew
      have rs3d : RS s.r s.bp s.bk w.heap.size p (M.setM w2 s.bk ob).drew := rs3.drew
      clear eu eu4 nx LK hl h h1 hk hr h2 h3 t3 hi3 hm3 m2 hd rs3 rs1 hw2 b2
      obtain ⟨w3, hw3⟩ : ∃ w3, M.setM w2 s.bk ob = w3 := ⟨_, rfl⟩
      rw [hw3] at EU EU4 lk3 rs3d
      clear hw3
      go_enter Tryd.func43, Tryd.ntmps43
      go_upto_region 1 with (first
        | (refine wpList_run rfl (exec_boxE (t := 34) (v := p.v) (u := .pointer (some ⟨w.heap.size, 0, none⟩)) (w2 := w1) rfl rfl EB.out) ?_)
        | fail)
      refine note1 (pb := w.heap.size) (p := p) (r := false) _ w1 _ rfl rfl hp bx1 HR.out ?_
      intro a' w' hw' ha
      subst ha
      obtain rfl : w1 = w' := hw'.symm
      simp only [Act.put, List.setIfInBounds_toArray, List.set_cons_zero, List.set_cons_succ]
      go_upto_region 2 with fail
      refine note2 (rb := s.r) (mb := s.bp) (kb := s.bk) (pb := w.heap.size) (p := p) (im := none) (r := true) _ w1 _ rfl rfl rfl hp rsd HLK.out rfl ?_
      intro a' w' hw' ha
      subst ha
      obtain rfl : w1.drew = w' := hw'.symm
      simp only [Act.put, List.setIfInBounds_toArray, List.set_cons_zero, List.set_cons_succ]
      go_upto_region 3 with fail
      refine note3 (rb := s.r) (mb := s.bp) (kb := s.bk) (pb := w.heap.size) (p := p) (ib := w1.heap.size) (w1 := w2) (w2 := w3) _ w1.drew _ rfl rfl rfl hp rsdd EM.out rs2 EU.out ?_
      intro a' w' hw' ha
      subst ha
      obtain rfl : w3 = w' := hw'.symm
      simp only [Act.put, List.setIfInBounds_toArray, List.set_cons_zero, List.set_cons_succ]
      go_upto_region 4 with fail
      refine note4 (rb := s.r) (mb := s.bp) (kb := s.bk) (pb := w.heap.size) (p := p) (ib := w1.heap.size) (w2 := w4) _ w3 _ rfl rfl rfl hp rs3d lk3.out EU4.out ?_
      intro a' w' hw' ha
      subst ha
      obtain rfl : w4 = w' := hw'.symm
      simp only [Act.put, List.setIfInBounds_toArray, List.set_cons_zero, List.set_cons_succ]
      go_end0
      exact ⟨rfl, NX.out⟩
  · have hr : decide (p.a ≠ zId) = true := by simp [hz]
    have HR := hidMk hr
    have NX : Hid (KNxt w base s (KMore s.K p) w1) := ⟨⟨s.K, h1, fun hf => hf, fun o k => ⟨fun q => .inl q, fun q => q.elim id (fun e => absurd e.1 hz)⟩, fun j hj => .inl (List.mem_cons_of_mem _ (List.mem_cons_of_mem _ (List.mem_cons_of_mem _ hj)))⟩, tch_of b1 _⟩
    clear h h1 hk hr hz
    go_enter Tryd.func43, Tryd.ntmps43
    go_upto_region 1 with (first
      | (refine wpList_run rfl (exec_boxE (t := 34) (v := p.v) (u := .pointer (some ⟨w.heap.size, 0, none⟩)) (w2 := w1) rfl rfl EB.out) ?_)
      | fail)
    refine note1 (pb := w.heap.size) (p := p) (r := true) _ w1 _ rfl rfl hp bx1 HR.out ?_
    intro a' w' hw' ha
    subst ha
    obtain rfl : w1 = w' := hw'.symm
    simp only [Act.put, List.setIfInBounds_toArray, List.set_cons_zero, List.set_cons_succ]
    go_wp2
    try simp only [Exit.inBlock, Exit.then]
    refine bodyPost_ret (results_none rfl _ _ _) rfl ?_
    exact ⟨rfl, NX.out⟩
end Go.Proofs.YtldlljobofnmmabDoor
