import Derived.Test.YteggiecmfclcjaaDoorYh
import Derived.Lib.BufferMore
namespace Go.Proofs.YteggiecmfclcjaaDoor
open Go.RowKit
set_option linter.unusedVariables false
set_option linter.unusedSimpArgs false

theorem wpList_wanted {P : Program} {ops : Array Oper} {rest : List Oper} {o : Oper} {a : Act} {w : World} {Q : Exit → Act → World → Prop} (hw : Region.wanted o (yielded ops a.tmps) = true)
    (h : ∀ K : Act → World → Prop, (∀ a w, wpList P ops Q rest a w → K a w) → o.wp P a w K Q) : wpList P ops Q (o :: rest) a w :=
  wpList_step fun K hK => by rw [if_pos hw]; exact h K hK
theorem wpList_bs1G {ops : Array Oper} {rest : List Oper} {o : Oper} {a : Act} {w : World} {Q : Exit → Act → World → Prop} (hw : Region.wanted o (yielded ops a.tmps) = true) (x : Operand) (ho : o.op = .buildSlice 22 1 #[(0, x)])
    (C : Array Value) (hx : a.eval x = .agg C) (hC : C.size = 3)
    (h : wpList Tryd.prog ops Q rest (a.put o.dst (.slice (some ⟨w.heap.size, 0, none⟩) 1 1)) (w.alloc (.cells C 32))) : wpList Tryd.prog ops Q (o :: rest) a w := by
  obtain ⟨ie, hi, hz, hs, hby⟩ := infoS
  refine wpList_wanted hw fun _ hK => wp_buildSlice 22 32 1 #[(0, x)] ho C ie _ Tryd.underlying22 hi hz (by rw [hs]; decide) (by rw [hs]; decide) ?_ (hK _ _ h)
  rw [hs]
  have := Go.Great.fill_whole (s := 3) (by decide) [.agg C] ((Array.range (1 * 3)).map ((Value.agg zSt.c).cells[· % (Value.agg zSt.c).cells.size]!)) (by intro v hv; simp at hv; subst hv; exact hC) (by simp)
  simp only [List.map_toArray, List.map_cons, List.map_nil, hx]
  simpa [Value.cells] using this
theorem Sts.front {W : World} {a : Option Addr} {L M : List St} (h : Sts W a (L ++ M)) : Sts W a L := by
  have := h.take L.length
  simpa using this
set_option maxRecDepth 100000 in
set_option maxHeartbeats 2000000 in
theorem kept_any (g : Nat) (a : Option Addr) (L : List St) (c cap : Nat) (w : World) (ho : Sts w (some ⟨g, 0, none⟩) (L ++ [mSt])) (hl : Sts w a L) (hc : L.length + 1 ≤ c) (hn : L.length ≤ 4398046510976) :
    Calls Tryd.prog 9 #[.slice (some ⟨g, 0, none⟩) L.length c, .slice a L.length cap] w fun e w' => e = .returned (.bool true) ∧ Below w.heap.size w w' := by
  have H := Hid.mk' (same_any (some ⟨g, 0, none⟩) a L L c cap w ho.front hl (by omega) (by omega))
  rw [decide_eq_true (cL_zero.2 rfl)] at H
  have HO := Hid.mk' (fun w' (h : Below w.heap.size w w') => ho.below h)
  have he : ∀ wx, (Op.equalIn 10000 32 (.agg #[.int .u8 77, .string ⟨#[]⟩, .int .i64 0]) (.agg #[.int .u8 77, .string ⟨#[]⟩, .int .i64 0])).run Tryd.prog wx = .ok true wx := fun wx => by
    have := eqSt mSt mSt wx
    rw [decide_eq_true (cSt_zero.2 rfl)] at this
    exact this
  have HM : Hid (∀ w', Below w.heap.size w w' → w'.cell? ⟨g, 3 * L.length, none⟩ = some (.int .u8 77) ∧ w'.cell? ⟨g, 3 * L.length + 1, none⟩ = some (.string ⟨#[]⟩) ∧ w'.cell? ⟨g, 3 * L.length + 2, none⟩ = some (.int .i64 0)) := fun w' h => by
    obtain ⟨b, off, p, e, hp, c0, c1, c2⟩ := (HO.out w' h).at (i := L.length) (by simp)
    cases e
    have : p = mSt := by simpa using hp.symm
    subst this
    rw [Nat.zero_add] at c0 c1 c2
    exact ⟨c0, c1, c2⟩
  have ix := fun wx => indexS g 0 (L.length + 1) c L.length wx (by omega)
  rw [Nat.zero_add] at ix
  generalize L.length = n at *
  have hc' : ((n : Int) + 1) ≤ (c : Int) := by omega
  clear ho hl HO
  go_enter Tryd.func9, Tryd.ntmps9
  go_wp2_with fail
  refine H.out.mono ?_
  rintro e w1 ⟨rfl, b1⟩
  obtain ⟨c0, c1, c2⟩ := HM.out w1 b1
  clear H HM
  go_wp2
  go_ret
  exact ⟨rfl, b1⟩
set_option maxRecDepth 100000 in
set_option maxHeartbeats 2000000 in
theorem clone_any (a : Addr) (L : List St) (n cap : Nat) (w : World) (hl : Sts w (some a) L) (hn : L.length = n) (hb : n ≤ 4398046510976) :
    Calls Tryd.prog 19 #[.slice (some a) n cap] w fun e w' => ∃ v, e = .returned v ∧ OwnS w' w.heap.size v L ∧ Below w.heap.size w w' := by
  have hnil : ∀ W, (binOp .eql 22 (.slice (some a) n cap) (.slice none 0 0)).run Tryd.prog W = .ok (.bool false) W := fun W => Lib.run_eql_slice_some_nil W _ _ _ Tryd.underlying22
  have O0 : Hid (OwnS (w.alloc (.cells #[] 32)) w.heap.size (.slice (some ⟨w.heap.size, 0, none⟩) 0 0) []) := ⟨rfl, .inr ⟨w.heap.size, 0, #[], rfl, Nat.le_refl _, heap_alloc_new _ _, by simp, by simp [maxLen], rfl, rfl⟩⟩
  have be0 : Below w.heap.size w (w.alloc (.cells #[] 32)) := (Below.refl _ _).alloc (Nat.le_refl _) _
  have B0 : Hid (Sts (w.alloc (.cells #[] 32)) (some a) L) := hl.below be0
  have S0 : Hid (([] : List St).length + L.length ≤ 4398046510976 + 1) := by show _ ≤ _; simp; omega
  have Z0 : Hid (w.heap.size ≤ (w.alloc (.cells #[] 32)).heap.size) := by show _ ≤ _; simp
  have HN := Hid.mk' hn
  clear hl hn
  go_enter Tryd.func19, Tryd.ntmps19
  go_wp2_with (first | (at_builtin; refine wpList_appS rfl (.tmp 5) (.tmp 6) rfl w.heap.size (.slice (some ⟨w.heap.size, 0, none⟩) 0 0) [] rfl O0.out (some a) n cap L rfl HN.out B0.out (fun h => by cases h) S0.out Z0.out ?_) | fail)
  intro v w1 own1 gr1
  have own1' : OwnS w1 w.heap.size v L := by simpa using own1
  have be1 : Below w.heap.size w w1 := be0.grown gr1 Z0.out (fun k hk => (World.ownsRow.lt O0.out k hk).1)
  have OW := Hid.mk' own1'
  obtain ⟨va, vc, rfl, _, _⟩ := own1'.slice
  clear own1 own1' gr1 O0 B0 S0 Z0
  go_wp2
  go_ret
  exact ⟨_, rfl, OW.out, be1⟩
set_option maxRecDepth 100000 in
set_option maxHeartbeats 2000000 in
theorem up_any (a : Addr) (L : List St) (cap : Nat) (w : World) (hl : Sts w (some a) L) (hc : L.length ≤ cap) (hn : L.length ≤ 4398046510976) :
    Calls Tryd.prog 12 #[.slice (some a) L.length cap] w fun e w' => ∃ v, e = .returned v ∧ OwnS w' w.heap.size v (L.take (L.length - 1)) ∧ Below w.heap.size w w' := by
  by_cases h0 : L.length = 0
  · have hL : L = [] := List.eq_nil_of_length_eq_zero h0
    subst hL
    have N0 := Hid.mk' (OwnS.nil w w.heap.size)
    simp only [List.length_nil]
    clear hl
    go_enter Tryd.func12, Tryd.ntmps12
    go_wp2
    go_ret
    exact ⟨_, rfl, N0.out, Below.refl _ _⟩
  · have hlen : (L.take (L.length - 1)).length = L.length - 1 := by rw [List.length_take]; omega
    have HC := Hid.mk' (clone_any a (L.take (L.length - 1)) (L.length - 1) cap w (hl.take _) hlen (by omega))
    generalize L.take (L.length - 1) = M at *
    generalize L.length = n at *
    have hn0 : ¬ (n : Int) = 0 := by omega
    have e1 : (n : Int) - 1 = ((n - 1 : Nat) : Int) := by omega
    have hq : n - 1 ≤ cap := by omega
    have hq2 : n - 1 ≤ 4398046510976 := by omega
    generalize n - 1 = q at *
    clear hl h0 hlen
    go_enter Tryd.func12, Tryd.ntmps12
    go_wp2_with fail
    refine HC.out.mono ?_
    rintro e w1 ⟨v, rfl, own1, be1⟩
    have OW := Hid.mk' own1
    obtain ⟨va, vc, rfl, _, _⟩ := own1.slice
    clear own1
    go_wp2
    go_ret
    exact ⟨_, rfl, OW.out, be1⟩
end Go.Proofs.YteggiecmfclcjaaDoor
