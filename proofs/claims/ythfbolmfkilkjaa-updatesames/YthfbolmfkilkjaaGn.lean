import Derived.Test.YthfbolmfkilkjaaGm
namespace Go.Proofs.Ythfbolmfkilkjaa
open Go.RowKit
set_option linter.unusedVariables false
set_option linter.unusedSimpArgs false

theorem str_size (l : List UInt8) : (str l).size = l.length := by simp [str, ByteArray.size]
/-- The cells of an edits' row: the keys from k on. -/
def Keys (cs : Array Value) (k n : Nat) : Prop := ∀ j, k ≤ j → j < n → ∃ t : ByteArray, cs[111 * j + 103]? = some (.string t) ∧ t.size ≤ 140737488355328
def FirstB (cs : Array Value) (n : Nat) : Prop := ∀ j, j < n → ∃ x : Int, cs[32 * j]? = some (.int .u8 x)
theorem FirstB.set {cs : Array Value} {n : Nat} (h : FirstB cs n) (i : Nat) (y : Int) : FirstB (cs.setIfInBounds (32 * i) (.int .u8 y)) n := fun j hj => by
  obtain ⟨x, hx⟩ := h j hj
  by_cases e : i = j
  · subst e
    have := (Array.getElem?_eq_some_iff.1 hx).1
    exact ⟨y, by simp [this]⟩
  · exact ⟨x, by rw [Array.getElem?_setIfInBounds_ne (by omega)]; exact hx⟩
theorem Keys.set {cs : Array Value} {k n : Nat} (h : Keys cs k n) (v : Value) : Keys (cs.setIfInBounds (111 * k + 103) v) (k + 1) n := fun j hj hn => by
  obtain ⟨t, ht, hs⟩ := h j (by omega) hn
  exact ⟨t, by rw [Array.getElem?_setIfInBounds_ne (by omega)]; exact ht, hs⟩
theorem builtZH : Try.prog.built 29 [] = some (bs z32) := by kernel_rfl
theorem builtZE : Try.prog.built 39 [] = some ez.c := by kernel_rfl
theorem wpList_build_z {P : Program} {ops : Array Oper} {rest : List Oper} {o : Oper} {a : Act} {w : World} {Q : Exit → Act → World → Prop} (hgd : o.guard = none) (ty : TypeId) (ho : o.op = .build ty #[])
    (Z : Array Value) (hz : P.built ty [] = some Z) (h : wpList P ops Q rest (a.put o.dst (.agg Z)) w) : wpList P ops Q (o :: rest) a w := by
  refine wpList_build hgd ty #[] ho (by simp [hz]) ?_
  simpa [hz] using h
theorem wpList_bsE {ops : Array Oper} {rest : List Oper} {o : Oper} {a : Act} {w : World} {Q : Exit → Act → World → Prop} (hg : o.guard = none) (x : Operand) (ho : o.op = .buildSlice 23 1 #[(0, x)]) (C : Array Value) (hx : a.eval x = .agg C) (hC : C.size = 111)
    (h : wpList Try.prog ops Q rest (a.put o.dst (.slice (some ⟨w.heap.size, 0, none⟩) 1 1)) (w.alloc (.cells C 39))) : wpList Try.prog ops Q (o :: rest) a w :=
  wpList_plain hg fun _ hK => oper_bs1 x ho C hx hC (hK _ _ h)
theorem wpList_bsH {ops : Array Oper} {rest : List Oper} {o : Oper} {a : Act} {w : World} {Q : Exit → Act → World → Prop} (hg : o.guard = none) (x : Operand) (ho : o.op = .buildSlice 22 1 #[(0, x)]) (C : Array Value) (hx : a.eval x = .agg C) (hC : C.size = 32)
    (h : wpList Try.prog ops Q rest (a.put o.dst (.slice (some ⟨w.heap.size, 0, none⟩) 1 1)) (w.alloc (.cells C 29))) : wpList Try.prog ops Q (o :: rest) a w := by
  obtain ⟨ie, hi, hz, hs, hby⟩ := infoH
  refine wpList_buildSlice hg 22 29 1 #[(0, x)] ho C ie _ Try.underlying22 hi hz (by rw [hs]; decide) (by rw [hs]; decide) ?_ h
  rw [hs]
  have := Go.Great.fill_whole (s := 32) (by decide) [.agg C] ((Array.range (1 * 32)).map ((Value.agg (bs z32)).cells[· % (Value.agg (bs z32)).cells.size]!)) (by intro v hv; simp at hv; subst hv; exact hC) (by simp)
  simp only [List.map_toArray, List.map_cons, List.map_nil, hx]
  simpa [Value.cells] using this

set_option maxRecDepth 100000 in
set_option maxHeartbeats 4000000 in
theorem us_any (u v : UpV) (w : World) (hu : u.ok w) (hv : v.ok w) (hk : ∀ x ∈ u.E, x.key.length ≤ 140737488355328) : Calls Try.prog 3 #[.agg u.c, .agg v.c] w fun e w' => e = .returned (.bool true) ∧ Below w.heap.size w w' := by
  obtain ⟨A, hA⟩ : ∃ A, A = u.c := ⟨_, rfl⟩
  obtain ⟨B, hB⟩ : ∃ B, B = v.c := ⟨_, rfl⟩
  have AS : Hid (A.size = 6) := by show _ = _; rw [hA]; rfl
  have BS : Hid (B.size = 6) := by show _ = _; rw [hB]; rfl
  have HA : Hid (A = u.c) := hA
  have HB : Hid (B = v.c) := hB
  rw [← hA, ← hB]
  clear hA hB
  have bx := bel_box2 w A B 25 25
  have g1 : ((w.alloc (.cells A 25)).alloc (.cells B 25)).heap[w.heap.size]? = some (.cells A 25 (0, 0)) := heap_alloc2_old _ _ _
  have g2 : ((w.alloc (.cells A 25)).alloc (.cells B 25)).heap[w.heap.size + 1]? = some (.cells B 25 (0, 0)) := heap_alloc2_new _ _ _
  have hz : ((w.alloc (.cells A 25)).alloc (.cells B 25)).heap.size = w.heap.size + 2 := by simp
  go_enter Try.func3, Try.ntmps3
  go_upto_region 1 with fail
  generalize ((w.alloc (.cells A 25)).alloc (.cells B 25)) = W2 at *
  have L1 := loadU W2 _ A AS.out _ 25 g1
  go_wp2_with (first | (refine wpList_load_v 25 (.tmp 2) rfl ⟨w.heap.size, 0, none⟩ _ rfl L1 rfl ?_) | fail)
  have LN := lent_any u W2 (hu.below bx)
  rw [← HA.out] at LN
  refine LN.mono ?_
  clear LN
  rintro e w3 ⟨gp, ge, ce, rfl, hp3, ow3, lgp, lgp2, ngp, b3⟩
  obtain ⟨O, hO⟩ : ∃ O : Array Value, O = #[.slice (some ⟨gp, 0, none⟩) u.P.length (u.P.length + 9), .int .i64 u.au, .int .i64 u.sq, .int .i64 u.tm, .string u.nt, .slice (some ⟨ge, 0, none⟩) u.E.length ce] := ⟨_, rfl⟩
  rw [← hO]
  have HO : Hid (O = #[.slice (some ⟨gp, 0, none⟩) u.P.length (u.P.length + 9), .int .i64 u.au, .int .i64 u.sq, .int .i64 u.tm, .string u.nt, .slice (some ⟨ge, 0, none⟩) u.E.length ce]) := hO
  have OS : Hid (O.size = 6) := by show _ = _; rw [hO]; rfl
  have OO : Hid (O.all (·.oneCell') = true) := by show _ = _; rw [hO]; simp [Value.oneCell']
  clear hO
  have SU : Hid ((Try.prog.info? 25).map (·.size) = some O.size) := by show _ = _; rw [OS.out]; exact hs25
  have SZ : Hid (uz.size = O.size) := by show _ = _; rw [OS.out]; rfl
  have bal : Below w3.heap.size w3 (w3.alloc (.cells O 25)) := (Below.refl _ _).alloc (Nat.le_refl _) _
  have go4 : (w3.alloc (.cells O 25)).heap[w3.heap.size]? = some (.cells O 25 (0, 0)) := heap_alloc_new _ _
  have hz4 : (w3.alloc (.cells O 25)).heap.size = w3.heap.size + 1 := by simp
  have z3 := b3.size
  go_upto_region 2 with (first | (refine wpList_alloc_row rfl 25 rfl uz (hz25 _) ?_) | (refine wpList_store_row rfl 25 (.tmp 5) (.tmp 10) rfl _ O rfl rfl 25 uz (heap_alloc_new _ _) SU.out SZ.out OO.out ?_; rw [World.setRow_alloc_new]))
  try simp only [Act.put, List.setIfInBounds_toArray, List.set_cons_zero, List.set_cons_succ]
  obtain ⟨o, ho⟩ : ∃ o, o = w3.heap.size := ⟨_, rfl⟩
  have ge4 : ge < w3.heap.size := (World.ownsRow.lt ow3.2 ge rfl).2
  rw [← ho] at go4 hz4 bal ge4 lgp2 ⊢
  have ho2 : w.heap.size + 2 ≤ o := by omega
  have b34 : Below W2.heap.size W2 (w3.alloc (.cells O 25)) := b3.trans (bal.mono (by omega))
  have hp4 : Hs (w3.alloc (.cells O 25)) gp 0 (u.P ++ marks) := hp3.below bal lgp2
  have ow4 : OwnE (w3.alloc (.cells O 25)) W2.heap.size (.slice (some ⟨ge, 0, none⟩) (u.E.length + 1) ce) (u.E ++ [e77]) := ow3.keep fun g hg => bal.block g (by cases hg; exact ge4)
  clear SU SZ OO b3 hp3 ow3 L1 ho bal
  generalize (w3.alloc (.cells O 25)) = W4 at *
  have lge : W2.heap.size ≤ ge := (World.ownsRow.lt ow4.2 ge rfl).1
  have hcap : u.E.length + 1 ≤ ce := by
    obtain ⟨_, ⟨e, _⟩ | ⟨g', cap', cur, e, _, _, hnc, _⟩⟩ := ow4.2
    · cases e
    · simp only [Value.slice.injEq] at e
      rw [List.length_append] at hnc
      simp at hnc
      omega
  have he4 : Es W4 ge 0 (u.E ++ [e77]) := by
    rcases ow4.open with ⟨e, _⟩ | ⟨g', c', e, _, _, _, hs, _⟩
    · cases e
    · simp only [Value.slice.injEq, Option.some.injEq, Addr.mk.injEq] at e
      obtain ⟨⟨rfl, _⟩, _, _⟩ := e
      exact hs
  have bw4 : Below w.heap.size w W4 := bx.trans (b34.mono (by omega))
  have hu4 := hu.below bw4
  have hv4 := hv.below bw4
  have oown : UpV.ok W4 ⟨some ⟨gp, 0, none⟩, u.P.length + 9, u.P, u.au, u.sq, u.tm, u.nt, some ⟨ge, 0, none⟩, ce, u.E⟩ := ⟨hu.p32, hu.pn, .inr ⟨gp, 0, rfl, hs_app hp4⟩, hu.eo, hu.en, .inr ⟨ge, 0, rfl, es_pre he4⟩⟩
  have CP := copy_any _ ⟨gp, 0, none⟩ ⟨ge, 0, none⟩ rfl rfl W4 oown
  rw [show UpV.c ⟨some ⟨gp, 0, none⟩, u.P.length + 9, u.P, u.au, u.sq, u.tm, u.nt, some ⟨ge, 0, none⟩, ce, u.E⟩ = O from HO.out.symm] at CP
  have g14 := (b34.block _ (by omega : w.heap.size < W2.heap.size)).trans g1
  have g24 := (b34.block _ (by omega : w.heap.size + 1 < W2.heap.size)).trans g2
  have L2 := loadU W4 o O OS.out _ 25 go4
  clear g1 g2 ow4 b34
  go_wp2_with (first | (refine wpList_load_v 25 (.tmp 5) rfl ⟨o, 0, none⟩ _ rfl L2 rfl ?_) | fail)
  refine CP.mono ?_
  clear CP L2
  rintro e w5 ⟨gp2, cp2, ge2, ce2, rfl, oh5, oe5, n52, b5⟩
  try simp only at oh5 oe5
  obtain ⟨X, hX⟩ : ∃ X : Array Value, X = #[.slice (some ⟨gp2, 0, none⟩) u.P.length cp2, .int .i64 u.au, .int .i64 u.sq, .int .i64 u.tm, .string u.nt, .slice (some ⟨ge2, 0, none⟩) u.E.length ce2] := ⟨_, rfl⟩
  rw [← hX]
  have HX : Hid (X = #[.slice (some ⟨gp2, 0, none⟩) u.P.length cp2, .int .i64 u.au, .int .i64 u.sq, .int .i64 u.tm, .string u.nt, .slice (some ⟨ge2, 0, none⟩) u.E.length ce2]) := hX
  have XS : Hid (X.size = 6) := by show _ = _; rw [hX]; rfl
  have XO : Hid (X.all (·.oneCell') = true) := by show _ = _; rw [hX]; simp [Value.oneCell']
  clear hX
  have SU : Hid ((Try.prog.info? 25).map (·.size) = some X.size) := by show _ = _; rw [XS.out]; exact hs25
  have SZ : Hid (uz.size = X.size) := by show _ = _; rw [XS.out]; rfl
  have bal : Below w5.heap.size w5 (w5.alloc (.cells X 25)) := (Below.refl _ _).alloc (Nat.le_refl _) _
  have gc6 : (w5.alloc (.cells X 25)).heap[w5.heap.size]? = some (.cells X 25 (0, 0)) := heap_alloc_new _ _
  have hz6 : (w5.alloc (.cells X 25)).heap.size = w5.heap.size + 1 := by simp
  have z5 := b5.size
  go_upto_region 3 with (first | (refine wpList_alloc_row rfl 25 rfl uz (hz25 _) ?_) | (refine wpList_store_row rfl 25 (.tmp 6) (.tmp 12) rfl _ X rfl rfl 25 uz (heap_alloc_new _ _) SU.out SZ.out XO.out ?_; rw [World.setRow_alloc_new]))
  try simp only [Act.put, List.setIfInBounds_toArray, List.set_cons_zero, List.set_cons_succ]
  obtain ⟨c, hc⟩ : ∃ c, c = w5.heap.size := ⟨_, rfl⟩
  have lg1 := World.ownsRow.lt oh5.2 gp2 rfl
  have lg2 := World.ownsRow.lt oe5.2 ge2 rfl
  rw [← hc] at gc6 hz6 bal lg1 lg2 z5 ⊢
  have b46 : Below W4.heap.size W4 (w5.alloc (.cells X 25)) := b5.trans (bal.mono (by omega))
  have oh6 := oh5.keep (w' := w5.alloc (.cells X 25)) fun g hg => bal.block g (by cases hg; exact lg1.2)
  have oe6 := oe5.keep (w' := w5.alloc (.cells X 25)) fun g hg => bal.block g (by cases hg; exact lg2.2)
  clear SU SZ XO oh5 oe5 hc bal b5
  generalize (w5.alloc (.cells X 25)) = W6 at *
  have hsP : Hs W6 gp2 0 u.P := by
    rcases oh6.open with ⟨e, _⟩ | ⟨g', c', e, _, _, _, hs, _⟩
    · cases e
    · simp only [Value.slice.injEq, Option.some.injEq, Addr.mk.injEq] at e
      obtain ⟨⟨rfl, _⟩, _, _⟩ := e
      exact hs
  have hsE : Es W6 ge2 0 u.E := by
    rcases oe6.open with ⟨e, _⟩ | ⟨g', c', e, _, _, _, hs, _⟩
    · cases e
    · simp only [Value.slice.injEq, Option.some.injEq, Addr.mk.injEq] at e
      obtain ⟨⟨rfl, _⟩, _, _⟩ := e
      exact hs
  have u6 : u.ok W6 := hu4.below b46
  have v6 : v.ok W6 := hv4.below b46
  have own6 : UpV.ok W6 ⟨some ⟨gp, 0, none⟩, u.P.length + 9, u.P, u.au, u.sq, u.tm, u.nt, some ⟨ge, 0, none⟩, ce, u.E⟩ := oown.below b46
  have cpy6 : UpV.ok W6 ⟨some ⟨gp2, 0, none⟩, cp2, u.P, u.au, u.sq, u.tm, u.nt, some ⟨ge2, 0, none⟩, ce2, u.E⟩ := ⟨hu.p32, hu.pn, .inr ⟨gp2, 0, rfl, hsP⟩, hu.eo, hu.en, .inr ⟨ge2, 0, rfl, hsE⟩⟩
  have z6 : W4.heap.size ≤ W6.heap.size := b46.size
  have g16 := (b46.block _ (by omega : w.heap.size < W4.heap.size)).trans g14
  have g26 := (b46.block _ (by omega : w.heap.size + 1 < W4.heap.size)).trans g24
  have go6 := (b46.block _ (by omega : o < W4.heap.size)).trans go4
  have La : ∀ wx, Below W6.heap.size W6 wx → (Instr.loadAt 25 (.pointer (some ⟨w.heap.size, 0, none⟩))).run Try.prog wx = .ok (.agg A) wx := fun wx hx => loadU wx _ A AS.out _ 25 ((hx.block _ (by omega)).trans g16)
  have Lb : ∀ wx, Below W6.heap.size W6 wx → (Instr.loadAt 25 (.pointer (some ⟨w.heap.size + 1, 0, none⟩))).run Try.prog wx = .ok (.agg B) wx := fun wx hx => loadU wx _ B BS.out _ 25 ((hx.block _ (by omega)).trans g26)
  have Lo : ∀ wx, Below W6.heap.size W6 wx → (Instr.loadAt 25 (.pointer (some ⟨o, 0, none⟩))).run Try.prog wx = .ok (.agg O) wx := fun wx hx => loadU wx _ O OS.out _ 25 ((hx.block _ (by omega)).trans go6)
  have Lc : ∀ wx, Below W6.heap.size W6 wx → (Instr.loadAt 25 (.pointer (some ⟨c, 0, none⟩))).run Try.prog wx = .ok (.agg X) wx := fun wx hx => loadU wx _ X XS.out _ 25 ((hx.block _ (by omega)).trans gc6)
  have C1 : ∀ wx, Below W6.heap.size W6 wx → Calls Try.prog 6 #[.agg O, .agg B] wx fun e w' => e = .returned (.bool (sameU u v)) ∧ Below W6.heap.size W6 w' := fun wx hx => by
    have h := usame_any ⟨some ⟨gp, 0, none⟩, u.P.length + 9, u.P, u.au, u.sq, u.tm, u.nt, some ⟨ge, 0, none⟩, ce, u.E⟩ v wx (own6.below hx) (v6.below hx)
    rw [show UpV.c ⟨some ⟨gp, 0, none⟩, u.P.length + 9, u.P, u.au, u.sq, u.tm, u.nt, some ⟨ge, 0, none⟩, ce, u.E⟩ = O from HO.out.symm, ← HB.out] at h
    exact h.mono fun e w' h => ⟨h.1, hx.trans (h.2.mono hx.size)⟩
  have C2 : ∀ wx, Below W6.heap.size W6 wx → Calls Try.prog 7 #[.agg A, .agg B] wx fun e w' => e = .returned (.bool (sameU u v)) ∧ Below W6.heap.size W6 w' := fun wx hx => by
    have h := rusame_any u v wx (u6.below hx) (v6.below hx)
    rw [← HA.out, ← HB.out] at h
    exact h.mono fun e w' h => ⟨h.1, hx.trans (h.2.mono hx.size)⟩
  have C3 : ∀ wx, Below W6.heap.size W6 wx → Calls Try.prog 7 #[.agg X, .agg A] wx fun e w' => e = .returned (.bool true) ∧ Below W6.heap.size W6 w' := fun wx hx => by
    have h := rusame_any ⟨some ⟨gp2, 0, none⟩, cp2, u.P, u.au, u.sq, u.tm, u.nt, some ⟨ge2, 0, none⟩, ce2, u.E⟩ u wx (cpy6.below hx) (u6.below hx)
    rw [show UpV.c ⟨some ⟨gp2, 0, none⟩, cp2, u.P, u.au, u.sq, u.tm, u.nt, some ⟨ge2, 0, none⟩, ce2, u.E⟩ = X from HX.out.symm, ← HA.out, sameU_self ⟨some ⟨gp2, 0, none⟩, cp2, u.P, u.au, u.sq, u.tm, u.nt, some ⟨ge2, 0, none⟩, ce2, u.E⟩ u rfl rfl rfl rfl rfl rfl] at h
    exact h.mono fun e w' h => ⟨h.1, hx.trans (h.2.mono hx.size)⟩
  have C4 : ∀ wx, Below W6.heap.size W6 wx → Calls Try.prog 6 #[.agg O, .agg X] wx fun e w' => e = .returned (.bool true) ∧ Below W6.heap.size W6 w' := fun wx hx => by
    have h := usame_any ⟨some ⟨gp, 0, none⟩, u.P.length + 9, u.P, u.au, u.sq, u.tm, u.nt, some ⟨ge, 0, none⟩, ce, u.E⟩ ⟨some ⟨gp2, 0, none⟩, cp2, u.P, u.au, u.sq, u.tm, u.nt, some ⟨ge2, 0, none⟩, ce2, u.E⟩ wx (own6.below hx) (cpy6.below hx)
    rw [show UpV.c ⟨some ⟨gp, 0, none⟩, u.P.length + 9, u.P, u.au, u.sq, u.tm, u.nt, some ⟨ge, 0, none⟩, ce, u.E⟩ = O from HO.out.symm, show UpV.c ⟨some ⟨gp2, 0, none⟩, cp2, u.P, u.au, u.sq, u.tm, u.nt, some ⟨ge2, 0, none⟩, ce2, u.E⟩ = X from HX.out.symm, sameU_self ⟨some ⟨gp, 0, none⟩, u.P.length + 9, u.P, u.au, u.sq, u.tm, u.nt, some ⟨ge, 0, none⟩, ce, u.E⟩ ⟨some ⟨gp2, 0, none⟩, cp2, u.P, u.au, u.sq, u.tm, u.nt, some ⟨ge2, 0, none⟩, ce2, u.E⟩ rfl rfl rfl rfl rfl rfl] at h
    exact h.mono fun e w' h => ⟨h.1, hx.trans (h.2.mono hx.size)⟩
  have C5 : ∀ wx, Below W6.heap.size W6 wx → Calls Try.prog 6 #[.agg A, .agg A] wx fun e w' => e = .returned (.bool true) ∧ Below W6.heap.size W6 w' := fun wx hx => by
    have h := usame_any u u wx (u6.below hx) (u6.below hx)
    rw [← HA.out, sameU_self u u rfl rfl rfl rfl rfl rfl] at h
    exact h.mono fun e w' h => ⟨h.1, hx.trans (h.2.mono hx.size)⟩
  refine same3 w.heap.size (w.heap.size + 1) o c A B O X (sameU u v) _ _ _ rfl rfl rfl rfl rfl La Lb Lo Lc C1 C2 C3 C4 C5 ?_
  intro a' w7 b7 ha'
  subst ha'
  simp only [Act.put, List.setIfInBounds_toArray, List.set_cons_zero, List.set_cons_succ]
  clear La Lb Lo Lc C1 C2 C3 C4 C5 own6 cpy6 u6 v6 hsP hsE
  have b47 : Below W4.heap.size W4 w7 := b46.trans (b7.mono z6)
  have gc7 := (b7.block c (by omega)).trans gc6
  obtain ⟨csH, rH6, fH⟩ := oh6.row rfl
  obtain ⟨csE, rE6, kE⟩ := oe6.row rfl
  have rH7 := rH6.keep (b7.block gp2 (by omega))
  have rE7 := rE6.keep (b7.block ge2 (by omega))
  have z7 := b7.size
  have KE : Keys csE 0 u.E.length := fun j _ hj => by
    have hx : u.E[j]? = some u.E[j] := List.getElem?_eq_getElem hj
    exact ⟨_, kE j _ hx, by rw [str_size]; exact hk _ (List.mem_of_getElem? hx)⟩
  clear g16 g26 go6 gc6 rH6 rE6 kE oh6 oe6 b46 hk
  have pn := hu.pn
  have en := hu.en
  obtain ⟨n, hn⟩ : ∃ n, n = u.P.length := ⟨_, rfl⟩
  obtain ⟨q, hq⟩ : ∃ q, q = u.E.length := ⟨_, rfl⟩
  have XE : Hid (X = #[.slice (some ⟨gp2, 0, none⟩) n cp2, .int .i64 u.au, .int .i64 u.sq, .int .i64 u.tm, .string u.nt, .slice (some ⟨ge2, 0, none⟩) q ce2]) := by show _ = _; rw [HX.out, ← hn, ← hq]
  rw [← hn] at rH7 pn fH
  rw [← hq] at rE7 KE en hcap
  have HN : Hid (n = u.P.length) := hn
  have HQ : Hid (q = u.E.length) := hq
  clear hn hq HX
  have RE7 : Hid (RowB w7 39 111 ge2 q ce2 csE) := rE7
  have ST : Hid (Below W4.heap.size W4 w7 ∧ w7.heap[c]? = some (.cells X 25 (0, 0)) ∧ ∃ cs, RowB w7 29 32 gp2 n cp2 cs ∧ FirstB cs n) := ⟨b47, gc7, csH, rH7, fH⟩
  have HU : Hid (u.ok w) := hu
  have HV : Hid (v.ok w) := hv
  clear b47 gc7 rH7 rE7 fH hu hv hu4 hv4 oown
  go_wp2
  go_loopw [7] (fun i wr => ∃ k : Nat, k ≤ n ∧ i = .int .i64 k ∧ Hid (Below W4.heap.size W4 wr ∧ wr.heap[c]? = some (.cells X 25 (0, 0)) ∧ (∃ cs, RowB wr 29 32 gp2 n cp2 cs ∧ FirstB cs n) ∧ RowB wr 39 111 ge2 q ce2 csE)) (fun i _ => n - (intOf i).toNat)
  case atStart => exact ⟨0, Nat.zero_le _, rfl, (⟨ST.out.1, ST.out.2.1, ST.out.2.2, RE7.out⟩ : _ ∧ _ ∧ _ ∧ _)⟩
  case round =>
    clear ST RE7
    obtain ⟨k, hk, rfl, st⟩ := hrel
    obtain ⟨b4, gc, ⟨cs, rH, fH⟩, rE⟩ := st.out
    have gcx := gc
    rw [XE.out] at gcx
    obtain ⟨x0, x1, x2, x3, x4, x5⟩ := cells6 gcx
    by_cases hkn : k < n
    · obtain ⟨xx, hxx⟩ := fH k hkn
      have hk0 : (0 : Int) ≤ (k : Int) := by omega
      have hk1 : (k : Int) < (n : Int) := by omega
      have ix1 : ∀ wx, (Instr.indexAt 22 (.slice (some ⟨gp2, 0, none⟩) n cp2) (.int .i64 (k : Int))).run Try.prog wx = .ok (.pointer (some ⟨gp2, 32 * k, none⟩)) wx := fun wx => by
        have := indexH gp2 0 n cp2 k wx hkn
        rwa [Nat.zero_add] at this
      have c5 : wr.drew.cell? ⟨gp2, 32 * k, none⟩ = some (.int .u8 xx) := (cell_of_row wr gp2 (32 * k) _ _ _ rH.h).trans hxx
      have f5 : wr.drew.frozen? ⟨gp2, 32 * k, none⟩ = false := frozen_of_row wr gp2 (32 * k) _ _ rH.h
      go_upto_region 8 with fail
      refine turn8 c gp2 cp2 n k xx _ _ _ rfl rfl rfl hk0 hk1 (by omega) ix1 x0 c5 f5 ?_
      intro a' w' hw' ha'
      subst hw' ha'
      simp only [Act.put, List.setIfInBounds_toArray, List.set_cons_zero, List.set_cons_succ]
      have ST2 : Hid (Below W4.heap.size W4 (wr.drew.setCell ⟨gp2, 32 * k, none⟩ (.int .u8 (bits .xor .u8 xx 255))) ∧ (wr.drew.setCell ⟨gp2, 32 * k, none⟩ (.int .u8 (bits .xor .u8 xx 255))).heap[c]? = some (.cells X 25 (0, 0)) ∧ (∃ cs, RowB (wr.drew.setCell ⟨gp2, 32 * k, none⟩ (.int .u8 (bits .xor .u8 xx 255))) 29 32 gp2 n cp2 cs ∧ FirstB cs n) ∧ RowB (wr.drew.setCell ⟨gp2, 32 * k, none⟩ (.int .u8 (bits .xor .u8 xx 255))) 39 111 ge2 q ce2 csE) :=
        ⟨b4.drew.setCell (p := ⟨gp2, 32 * k, none⟩) (by show W4.heap.size ≤ gp2; omega) _, (Below.heap_setCell _ _ _ _ (by show c ≠ gp2; omega)).trans gc, ⟨_, (rH.keep (w' := wr.drew) rfl).set (32 * k) _, fH.set k _⟩, rE.keep (w' := wr.drew.setCell ⟨gp2, 32 * k, none⟩ (.int .u8 (bits .xor .u8 xx 255))) (Below.heap_setCell wr.drew _ _ _ (by show ge2 ≠ gp2; omega))⟩
      clear st b4 gc gcx rH fH rE x0 x1 x2 x3 x4 x5 c5 f5 ix1 hxx
      generalize (wr.drew.setCell ⟨gp2, 32 * k, none⟩ (.int .u8 (bits .xor .u8 xx 255))) = w8 at *
      go_wp2
      go_roundw
      case rel => exact ⟨k + 1, by omega, by go_num, ST2⟩
      case measure => simp [intOf]; omega
    · clear hk
      have ST3 : Hid (Below W4.heap.size W4 wr ∧ wr.heap[c]? = some (.cells X 25 (0, 0)) ∧ RowB wr 29 32 gp2 n cp2 cs ∧ ∃ cs, RowB wr 39 111 ge2 q ce2 cs ∧ Keys cs 0 q) := ⟨b4, gc, rH, csE, rE, KE⟩
      clear st b4 gc gcx rH fH rE KE
      go_wp2
      clear x0 x1 x2 x3 x4 x5
      go_loopw [8] (fun i wr2 => ∃ k : Nat, k ≤ q ∧ i = .int .i64 k ∧ Hid (Below W4.heap.size W4 wr2 ∧ wr2.heap[c]? = some (.cells X 25 (0, 0)) ∧ RowB wr2 29 32 gp2 n cp2 cs ∧ ∃ cs, RowB wr2 39 111 ge2 q ce2 cs ∧ Keys cs k q)) (fun i _ => q - (intOf i).toNat)
      case atStart => exact ⟨0, Nat.zero_le _, rfl, ST3⟩
      case round =>
        clear ST3
        obtain ⟨k2, hk2, rfl, st⟩ := hrel
        obtain ⟨b4, gc, rH, cs2, rE, kE⟩ := st.out
        have gcx := gc
        rw [XE.out] at gcx
        obtain ⟨x0, x1, x2, x3, x4, x5⟩ := cells6 gcx
        by_cases hkq : k2 < q
        · obtain ⟨tt, htt, hts⟩ := kE k2 (Nat.le_refl _) hkq
          have hk0 : (0 : Int) ≤ (k2 : Int) := by omega
          have hk1 : (k2 : Int) < (q : Int) := by omega
          have ix1 : ∀ wx, (Instr.indexAt 23 (.slice (some ⟨ge2, 0, none⟩) q ce2) (.int .i64 (k2 : Int))).run Try.prog wx = .ok (.pointer (some ⟨ge2, 111 * k2, none⟩)) wx := fun wx => by
            have := indexE ge2 0 q ce2 k2 wx hkq
            rwa [Nat.zero_add] at this
          have c5 : wr.cell? ⟨ge2, 111 * k2 + 103, none⟩ = some (.string tt) := (cell_of_row wr ge2 (111 * k2 + 103) _ _ _ rE.h).trans htt
          have f5 : wr.frozen? ⟨ge2, 111 * k2 + 103, none⟩ = false := frozen_of_row wr ge2 (111 * k2 + 103) _ _ rE.h
          have hsz : ¬ 9223372036854775807 < tt.size + 1 := by omega
          have ST2 : Hid (∀ V : Value, Below W4.heap.size W4 (wr.setCell ⟨ge2, 111 * k2 + 103, none⟩ V) ∧ (wr.setCell ⟨ge2, 111 * k2 + 103, none⟩ V).heap[c]? = some (.cells X 25 (0, 0)) ∧ RowB (wr.setCell ⟨ge2, 111 * k2 + 103, none⟩ V) 29 32 gp2 n cp2 cs ∧ ∃ cs, RowB (wr.setCell ⟨ge2, 111 * k2 + 103, none⟩ V) 39 111 ge2 q ce2 cs ∧ Keys cs (k2 + 1) q) := fun V =>
            ⟨b4.setCell (p := ⟨ge2, 111 * k2 + 103, none⟩) (by show W4.heap.size ≤ ge2; omega) _, (Below.heap_setCell _ _ _ _ (by show c ≠ ge2; omega)).trans gc, rH.keep (Below.heap_setCell _ _ _ _ (by show gp2 ≠ ge2; omega)), _, rE.set _ _, kE.set _⟩
          clear st b4 gc gcx rH rE kE htt
          go_wp2
          go_roundw
          case rel => exact ⟨k2 + 1, by omega, by go_num, ST2.out _⟩
          case measure => simp [intOf]; omega
        · clear hk2 kE st
          have zr := b4.size
          have lcr : c < wr.heap.size := (Array.getElem?_eq_some_iff.1 gc).1
          have bA : Below wr.heap.size wr (wr.alloc (.cells (bs z32) 29)) := (Below.refl _ _).alloc (Nat.le_refl _) _
          have rHA := rH.keep (bA.block gp2 (by omega))
          have rEA := rE.keep (bA.block ge2 (by omega))
          have gcA := (bA.block c lcr).trans gcx
          have zA : (wr.alloc (.cells (bs z32) 29)).heap.size = wr.heap.size + 1 := by simp
          have hzA : (wr.alloc (.cells (bs z32) 29)).heap[wr.heap.size]? = some (.cells (bs z32) 29 (0, 0)) := heap_alloc_new _ _
          have b4A : Below W4.heap.size W4 (wr.alloc (.cells (bs z32) 29)) := b4.trans (bA.mono zr)
          obtain ⟨v1, w9, hr1, gr1, p1, m1, k1, rfl⟩ := run_appZH (wr.alloc (.cells (bs z32) 29)) W4.heap.size gp2 n cp2 wr.heap.size cs 22 rHA (by omega) pn hzA (by omega)
          have b49 : Below W4.heap.size W4 w9 := b4A.grown gr1 (by omega) (fun k hk => by cases hk; omega)
          have gc9 := (gr1.block c (by omega) (by intro e; cases e; omega)).trans gcA
          have rE9 := rEA.keep (gr1.block ge2 (by omega) (by intro e; cases e; omega))
          have z9 := gr1.size
          obtain ⟨y0, y1, y2, y3, y4, y5⟩ := cells6 gc9
          have fy0 := frozen_of_row w9 c 0 _ _ gc9
          have gc10 : (w9.setCell ⟨c, 0, none⟩ (.slice p1 m1 k1)).heap[c]? = some (.cells #[.slice p1 m1 k1, .int .i64 u.au, .int .i64 u.sq, .int .i64 u.tm, .string u.nt, .slice (some ⟨ge2, 0, none⟩) q ce2] 25 (0, 0)) := heap_setCell_same _ c 0 _ 25 _ gc9
          have rE10 := rE9.keep (w' := w9.setCell ⟨c, 0, none⟩ (.slice p1 m1 k1)) (Below.heap_setCell _ _ _ _ (by show ge2 ≠ c; omega))
          have b410 : Below W4.heap.size W4 (w9.setCell ⟨c, 0, none⟩ (.slice p1 m1 k1)) := b49.setCell (p := ⟨c, 0, none⟩) (by show W4.heap.size ≤ c; omega) _
          have z10 : (w9.setCell ⟨c, 0, none⟩ (.slice p1 m1 k1)).heap.size = w9.heap.size := by simp [World.setCell]
          have lg9 : W4.heap.size ≤ ge2 ∧ c < w9.heap.size := ⟨lg2.1, by omega⟩
          have SB : Hid ((bs z32).size = 32) := by show _ = _; rw [bs_size]; rfl
          clear rH rE gc gcx rHA rEA gcA hzA b4 b4A bA gr1 gc9 rE9 b49
          go_upto_region 14 with (first | (refine wpList_build_z rfl 29 rfl (bs z32) builtZH ?_) | (refine wpList_bsH rfl _ rfl (bs z32) rfl SB.out ?_) | (at_builtin; refine wpList_app_run rfl (.tmp 71) (.tmp 73) 22 rfl _ _ _ _ rfl rfl hr1 ?_))
          generalize (w9.setCell ⟨c, 0, none⟩ (.slice p1 m1 k1)) = W10 at *
          clear hr1 x0 x1 x2 x3 x4 x5 y0 y1 y2 y3 y4 y5 fy0
          obtain ⟨y0, y1, y2, y3, y4, y5⟩ := cells6 gc10
          have bB : Below W10.heap.size W10 (W10.alloc (.cells ez.c 39)) := (Below.refl _ _).alloc (Nat.le_refl _) _
          have rEB := rE10.keep (bB.block ge2 (by omega))
          have gcB := (bB.block c (by omega)).trans gc10
          have zB : (W10.alloc (.cells ez.c 39)).heap.size = W10.heap.size + 1 := by simp
          have hzB : (W10.alloc (.cells ez.c 39)).heap[W10.heap.size]? = some (.cells ez.c 39 (0, 0)) := heap_alloc_new _ _
          have z410 := b410.size
          have b4B : Below W4.heap.size W4 (W10.alloc (.cells ez.c 39)) := b410.trans (bB.mono z410)
          obtain ⟨v2, w12, hr2, gr2, p2, m2, k2', rfl⟩ := run_appZE (W10.alloc (.cells ez.c 39)) W4.heap.size ge2 q ce2 W10.heap.size cs2 23 rEB (by omega) en hzB (by omega)
          have b412 : Below W4.heap.size W4 w12 := b4B.grown gr2 (by omega) (fun k hk => by cases hk; omega)
          have gc12 := (gr2.block c (by omega) (by intro e; cases e; omega)).trans gcB
          obtain ⟨t0, t1, t2, t3, t4, t5⟩ := cells6 gc12
          have ft5 := frozen_of_row w12 c 5 _ _ gc12
          have b413 : Below W4.heap.size W4 (w12.setCell ⟨c, 5, none⟩ (.slice p2 m2 k2')) := b412.setCell (p := ⟨c, 5, none⟩) (by show W4.heap.size ≤ c; omega) _
          clear rE10 rEB gc10 gcB gc12 hzB b410 b4B bB gr2 b412
          go_upto_region 15 with (first | (refine wpList_build_z rfl 39 rfl ez.c builtZE ?_) | (refine wpList_bsE rfl _ rfl ez.c rfl (EdV.size ez_ok) ?_) | (at_builtin; refine wpList_app_run rfl (.tmp 77) (.tmp 79) 23 rfl _ _ _ _ rfl rfl hr2 ?_))
          generalize (w12.setCell ⟨c, 5, none⟩ (.slice p2 m2 k2')) = W13 at *
          clear hr2 y0 y1 y2 y3 y4 y5 t0 t1 t2 t3 t4 t5 ft5
          have bw13 : Below w.heap.size w W13 := bw4.trans (b413.mono (by omega))
          have Lo := loadU W13 o O OS.out _ 25 ((b413.block o (by omega)).trans go4)
          have La := loadU W13 w.heap.size A AS.out _ 25 ((b413.block w.heap.size (by omega)).trans g14)
          have KP := kept_any u gp ge ce W13 (HU.out.below bw13) (hp4.below b413 (by omega)) (he4.below b413 (by omega)) (by rw [← HQ.out]; exact hcap)
          rw [← HO.out, ← HA.out] at KP
          have BG : Hid (Below w.heap.size w W13) := bw13
          go_wp2_with (first | (refine wpList_load_v 25 (.tmp 5) rfl ⟨o, 0, none⟩ _ rfl Lo rfl ?_) | (refine wpList_load_v 25 (.tmp 2) rfl ⟨w.heap.size, 0, none⟩ _ rfl La rfl ?_) | fail)
          refine KP.mono ?_
          rintro e w14 ⟨rfl, b14⟩
          have BF : Hid (Below w.heap.size w w14) := BG.out.trans (b14.mono BG.out.size)
          clear KP b14 La Lo bw13 b413 BG
          go_wp2
          go_ret
          exact ⟨rfl, BF.out⟩
end Go.Proofs.Ythfbolmfkilkjaa
