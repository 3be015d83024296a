import Derived.Test.YtpalbfkkegaliabDoorXFx
namespace Go.Proofs.YtpalbfkkegaliabDoor.X
open Go.RowKit
set_option linter.unusedVariables false
set_option linter.unusedSimpArgs false

theorem run_app2 (w : World) (base : Nat) (ty : TypeId) (v : Value) (L : List UInt8) (a : Option Addr) (M : List UInt8) (c : Nat) (hown : OwnB w base v L) (hb : Byt w a M)
    (h : L.length + M.length ≤ 140737488355328) (hbase : base ≤ w.heap.size) :
    ∃ v' w', (Builtin.append_ #[25, 25] ty #[v, .slice a M.length c]).run Tryd.prog w = .ok v' w' ∧ OwnB w' base v' (L ++ M) ∧ w.grownBy w' v.ownBlock ∧ (v'.ownBlock = v.ownBlock ∨ v'.ownBlock = some w.heap.size) := by
  obtain ⟨i, hi, hz, hs, hby⟩ := info5'
  cases a with
  | some ad =>
    have hnews : ∀ j u, (byC M)[j]? = some u → w.cell? (ad.add j) = some u := fun j u hj => by
      obtain ⟨h1, rfl⟩ := byC_get _ j u hj
      rcases hb with rfl | ⟨b, off, e, hc⟩
      · simp at h1
      · cases e
        rw [Addr.add_mid]
        exact hc j h1
    obtain ⟨v', w', hr, h2, h3, _, h5⟩ := run_append_own_at (P := Tryd.prog) w base 25 ty 5 i (.int .u8 0) 1 1 Tryd.underlying25 hi hz hs hby rfl (by decide) v L.length (byC L) hown ad M.length c (byC M) (by rw [byC_len]; omega) hnews (byC_one _) (by unfold maxLen; omega) (by omega) hbase
    refine ⟨v', w', hr, ?_, h3, h5⟩
    unfold OwnB
    rw [List.length_append, show byC (L ++ M) = byC L ++ byC M by simp [byC]]
    exact h2
  | none =>
    obtain rfl : M = [] := by
      rcases hb with rfl | ⟨b, off, e, _⟩
      · rfl
      · cases e
    rcases hown.2 with ⟨rfl, hn⟩ | ⟨g, cap, cur, rfl, hbg, hg, hnc, rest⟩
    · refine ⟨.slice none 0 0, w, ?_, by rw [List.append_nil]; exact hown, ⟨rfl, rfl, rfl, Nat.le_refl _, fun _ _ _ => rfl⟩, .inl rfl⟩
      simp [Builtin.append_, run_underlying Tryd.underlying25, sizeOf, typeInfo, hi, Builtin.lenOf, Builtin.firstCells, loadCells, loadCellsFrom]
    · refine ⟨.slice (some ⟨g, 0, none⟩) L.length cap, w, ?_, by rw [List.append_nil]; exact hown, ⟨rfl, rfl, rfl, Nat.le_refl _, fun _ _ _ => rfl⟩, .inl rfl⟩
      simp [Builtin.append_, run_underlying Tryd.underlying25, sizeOf, typeInfo, hi, Builtin.lenOf, Builtin.firstCells, hnc, storeCells]
theorem wpList_app2 {ops : Array Oper} {rest : List Oper} {o : Oper} {a : Act} {w : World} {Q : Exit → Act → World → Prop} (hgd : o.guard = none) (s x : Operand)
    (ho : o.op = .call { callee := .builtin .append, args := #[s, x], argTypes := #[25, 25] }) (base : Nat) (v : Value) (L : List UInt8) (hs : a.eval s = v) (hown : OwnB w base v L)
    (aa : Option Addr) (m c : Nat) (M : List UInt8) (hx : a.eval x = .slice aa m c) (hm : M.length = m) (hb : Byt w aa M) (hlen : L.length + M.length ≤ 140737488355328) (hbase : base ≤ w.heap.size)
    (h : ∀ v' w', OwnB w' base v' (L ++ M) → w.grownBy w' v.ownBlock → (v'.ownBlock = v.ownBlock ∨ v'.ownBlock = some w.heap.size) → wpList Tryd.prog ops Q rest (a.put o.dst v') w') : wpList Tryd.prog ops Q (o :: rest) a w :=
  wpList_plain hgd fun _ hK => by
    subst hm
    obtain ⟨v', w', hr, h2, h3, h4⟩ := run_app2 w base o.type v L aa M c hown hb hlen hbase
    unfold Oper.wp execOp
    simp only [ho, resolve, invoke, builtin, Sem.run_bind, Sem.run_pure, Result.andThen_ok, List.map_toArray, List.map_cons, List.map_nil, hs, hx, hr]
    exact hK _ _ (h v' w' h2 h3 h4)

/-- A Writer at block q that was written L, its bytes in a row of its own. -/
def WAt (w : World) (q base : Nat) (L : List UInt8) : Prop := ∃ v, w.heap[q]? = some (.cells #[v, .int .i64 0] 28 (0, 0)) ∧ OwnB w base v L ∧ v.ownBlock ≠ some q
theorem WAt.below {w w' : World} {q base : Nat} {L : List UInt8} (h : WAt w q base L) (hb : Below w.heap.size w w') : WAt w' q base L := by
  obtain ⟨v, h1, h2, h3⟩ := h
  exact ⟨v, by rw [hb.block _ (Array.getElem?_eq_some_iff.1 h1).1]; exact h1, h2.below hb, h3⟩
theorem WAt.lt {w : World} {q base : Nat} {L : List UInt8} (h : WAt w q base L) : q < w.heap.size := by
  obtain ⟨v, h1, _⟩ := h
  exact (Array.getElem?_eq_some_iff.1 h1).1
theorem own_setCell {w : World} {q base j : Nat} {v u : Value} {L : List UInt8} (h : OwnB w base v L) (hq : v.ownBlock ≠ some q) : OwnB (w.setCell ⟨q, j, none⟩ u) base v L := by
  refine ⟨h.1, ?_⟩
  rcases h.2 with hn | ⟨g, cap, cur, rfl, hbg, hg, rest⟩
  · exact .inl hn
  · refine .inr ⟨g, cap, cur, rfl, hbg, ?_, rest⟩
    rw [Below.heap_setCell _ _ _ _ (fun e => hq (by simp [Value.ownBlock]; exact e))]
    exact hg

set_option maxHeartbeats 2000000 in
theorem add_any (q base : Nat) (L M : List UInt8) (a : Option Addr) (len cap : Nat) (w : World) (hw : WAt w q base L) (hlen : M.length = len) (hb : Byt w a M) (hsum : L.length + M.length ≤ 140737488355328) (hbq : base ≤ q) :
    Calls Tryd.prog 64 #[.pointer (some ⟨q, 0, none⟩), .slice a len cap] w fun e w' => e = .returned (.tuple #[]) ∧ WAt w' q base (L ++ M) ∧ Below base w w' := by
  obtain ⟨v, hq, own, hne⟩ := hw
  have zq : q < w.heap.size := (Array.getElem?_eq_some_iff.1 hq).1
  have c0 := (cell_of_row w q 0 _ _ _ hq).trans (show (#[v, .int .i64 0] : Array Value)[0]? = some v from rfl)
  have c1 := (cell_of_row w q 1 _ _ _ hq).trans (show (#[v, .int .i64 0] : Array Value)[1]? = some (.int .i64 0) from rfl)
  obtain ⟨av, cv, rfl, hcv, byv, hav⟩ := own.open
  have HO : Hid (OwnB w base (.slice av L.length cv) L) := own
  have HB : Hid (Byt w a M) := hb
  have HS : Hid (L.length + M.length ≤ 140737488355328) := hsum
  have HZ : Hid (base ≤ w.heap.size) := by show _ ≤ _; omega
  go_enter Tryd.func64, Tryd.ntmps64
  go_wp2_with (first | (at_builtin; refine wpList_app2 rfl (.tmp 17) (.tmp 18) rfl base (.slice av L.length cv) L rfl HO.out a len cap M rfl hlen HB.out HS.out HZ.out ?_) | fail)
  intro v' w1 own1 gr1 hblk
  have hq1 : w1.heap[q]? = some (.cells #[.slice av L.length cv, .int .i64 0] 28 (0, 0)) := by rw [gr1.block q zq (fun e => hne e.symm)]; exact hq
  have d0 := (cell_of_row w1 q 0 _ _ _ hq1).trans (show (#[.slice av L.length cv, .int .i64 0] : Array Value)[0]? = some (.slice av L.length cv) from rfl)
  have f0 := frozen_of_row w1 q 0 _ _ hq1
  have hne1 : v'.ownBlock ≠ some q := by
    rcases hblk with e | e
    · rw [e]; exact hne
    · rw [e]; intro h; simp at h; omega
  have W1 : Hid (WAt (w1.setCell ⟨q, 0, none⟩ v') q base (L ++ M)) := ⟨v', by rw [heap_setCell_same w1 q 0 _ 28 _ hq1]; rfl, own_setCell own1 hne1, hne1⟩
  have B1 : Hid (Below base w (w1.setCell ⟨q, 0, none⟩ v')) := ((Below.refl _ _).grown gr1 (by omega) (fun k hk => (World.ownsRow.lt HO.out k hk).1)).setCell hbq _
  obtain ⟨av', cv', rfl, _⟩ := own1.open
  rw [List.length_append, hlen] at W1 B1
  clear own1 gr1 hblk hne1 HO HB HS HZ
  go_wp2
  go_end0
  exact ⟨rfl, W1.out, B1.out⟩

theorem byt_lit (w : World) (l : List UInt8) (t : TypeId) : Byt (w.alloc (.cells (bs l) t)) (some ⟨w.heap.size, 0, none⟩) l :=
  .inr ⟨w.heap.size, 0, rfl, fun j hj => by rw [Nat.zero_add]; exact (cell_of_row _ w.heap.size j _ _ _ (heap_alloc_new _ _)).trans (bs_get _ j hj)⟩

set_option maxHeartbeats 2000000 in
theorem byte_any (q base : Nat) (L : List UInt8) (k : UInt8) (kv : Int) (hk : kv = (k.toNat : Int)) (w : World) (hw : WAt w q base L) (hsum : L.length + 1 ≤ 140737488355328) (hbq : base ≤ q) :
    Calls Tryd.prog 37 #[.pointer (some ⟨q, 0, none⟩), .int .u8 kv] w fun e w' => e = .returned (.tuple #[]) ∧ WAt w' q base (L ++ [k]) ∧ Below base w w' := by
  subst hk
  have be : Below w.heap.size w (w.alloc (.cells (bs [k]) 5)) := (Below.refl _ _).alloc (Nat.le_refl _) _
  have zq := hw.lt
  have H : Hid (Calls Tryd.prog 64 #[.pointer (some ⟨q, 0, none⟩), .slice (some ⟨w.heap.size, 0, none⟩) 1 1] (w.alloc (.cells #[.int .u8 (k.toNat : Int)] 5)) fun e w' => e = .returned (.tuple #[]) ∧ WAt w' q base (L ++ [k]) ∧ Below base w w') :=
    (add_any q base L [k] (some ⟨w.heap.size, 0, none⟩) 1 1 (w.alloc (.cells (bs [k]) 5)) (hw.below be) rfl (byt_lit w [k] 5) (by simpa using hsum) hbq).mono fun e w' ⟨h1, h2, h3⟩ => ⟨h1, h2, (be.mono (by omega)).trans h3⟩
  go_enter Tryd.func37, Tryd.ntmps37
  go_wp2_with fail
  refine H.out.mono ?_
  rintro e w' ⟨rfl, h1, h2⟩
  go_wp2
  go_end0
  exact ⟨rfl, h1, h2⟩
theorem be_cells (v : UInt32) : (bs (be v)) = #[.int .u8 (U v / 16777216 % 256), .int .u8 (U v / 65536 % 256), .int .u8 (U v / 256 % 256), .int .u8 (U v % 256)] := by
  unfold bs be U
  simp [UInt8.toNat_ofNat', Int.natCast_emod, Int.natCast_ediv]

set_option maxHeartbeats 2000000 in
theorem fix32_any (q base : Nat) (L : List UInt8) (v : UInt32) (vv : Int) (hv : vv = U v) (w : World) (hw : WAt w q base L) (hsum : L.length + 4 ≤ 140737488355328) (hbq : base ≤ q) :
    Calls Tryd.prog 39 #[.pointer (some ⟨q, 0, none⟩), .int .u32 vv] w fun e w' => e = .returned (.tuple #[]) ∧ WAt w' q base (L ++ be v) ∧ Below base w w' := by
  subst hv
  have beB : Below w.heap.size w (w.alloc (.cells (bs (be v)) 5)) := (Below.refl _ _).alloc (Nat.le_refl _) _
  have zq := hw.lt
  have H0 := (add_any q base L (be v) (some ⟨w.heap.size, 0, none⟩) 4 4 (w.alloc (.cells (bs (be v)) 5)) (hw.below beB) rfl (byt_lit w (be v) 5) (by rw [be_len]; exact hsum) hbq).mono fun e w' ⟨h1, h2, h3⟩ => And.intro h1 (And.intro h2 ((beB.mono (by omega)).trans h3))
  rw [be_cells] at H0
  have H : Hid (Calls Tryd.prog 64 #[.pointer (some ⟨q, 0, none⟩), .slice (some ⟨w.heap.size, 0, none⟩) 4 4] (w.alloc (.cells #[.int .u8 (U v / 16777216 % 256), .int .u8 (U v / 65536 % 256), .int .u8 (U v / 256 % 256), .int .u8 (U v % 256)] 5)) fun e w' => e = .returned (.tuple #[]) ∧ WAt w' q base (L ++ be v) ∧ Below base w w') := H0
  clear H0
  go_enter Tryd.func39, Tryd.ntmps39
  go_wp2_with fail
  refine H.out.mono ?_
  rintro e w' ⟨rfl, h1, h2⟩
  go_wp2
  go_end0
  exact ⟨rfl, h1, h2⟩
end Go.Proofs.YtpalbfkkegaliabDoor.X
