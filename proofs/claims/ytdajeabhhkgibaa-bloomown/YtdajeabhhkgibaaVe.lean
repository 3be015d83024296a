import Derived.Test.YtdajeabhhkgibaaVd
namespace Go.Proofs.Ytdajeabhhkgibaa
open Go.RowKit Go.Shelf
set_option linter.unusedVariables false
set_option linter.unusedSimpArgs false
attribute [local go_sem] Oper.semAt_some

theorem boxes5 (w : World) (p : Option Addr) (h : List UInt8) (hl : h.length = 32) {W0 : World} (e : ((((w.alloc (.cells #[.pointer p] 23)).alloc (.cells (bs h) 30)).alloc (.cells #[.bool false] 4)).alloc (.cells #[.pointer p] 23)).alloc (.cells (bs h) 30) = W0) :
    W0.heap.size = w.heap.size + 5 ∧ W0.cell? ⟨w.heap.size, 0, none⟩ = some (.pointer p) ∧ W0.cell? ⟨w.heap.size + 3, 0, none⟩ = some (.pointer p) ∧ HB W0 (w.heap.size + 4) h ∧ Below w.heap.size w W0 ∧ W0.cell? ⟨w.heap.size + 2, 0, none⟩ = some (.bool false) ∧ W0.frozen? ⟨w.heap.size + 2, 0, none⟩ = false := by
  obtain ⟨w1, e1⟩ : ∃ x, w.alloc (.cells #[.pointer p] 23) = x := ⟨_, rfl⟩
  rw [e1] at e
  obtain ⟨w2, e2⟩ : ∃ x, w1.alloc (.cells (bs h) 30) = x := ⟨_, rfl⟩
  rw [e2] at e
  obtain ⟨v, ev⟩ : ∃ x, w2.alloc (.cells #[.bool false] 4) = x := ⟨_, rfl⟩
  rw [ev] at e
  obtain ⟨w3, e3⟩ : ∃ x, v.alloc (.cells #[.pointer p] 23) = x := ⟨_, rfl⟩
  rw [e3] at e
  have s1 : w1.heap.size = w.heap.size + 1 := by rw [← e1]; simp
  have s2 : w2.heap.size = w1.heap.size + 1 := by rw [← e2]; simp
  have sv : v.heap.size = w2.heap.size + 1 := by rw [← ev]; simp
  have s3 : w3.heap.size = v.heap.size + 1 := by rw [← e3]; simp
  have s4 : W0.heap.size = w3.heap.size + 1 := by rw [← e]; simp
  have b1 : Below w.heap.size w w1 := by rw [← e1]; exact (Below.refl _ _).alloc (Nat.le_refl _) _
  have b2 : Below w1.heap.size w1 w2 := by rw [← e2]; exact (Below.refl _ _).alloc (Nat.le_refl _) _
  have bv : Below w2.heap.size w2 v := by rw [← ev]; exact (Below.refl _ _).alloc (Nat.le_refl _) _
  have b3 : Below v.heap.size v w3 := by rw [← e3]; exact (Below.refl _ _).alloc (Nat.le_refl _) _
  have b4 : Below w3.heap.size w3 W0 := by rw [← e]; exact (Below.refl _ _).alloc (Nat.le_refl _) _
  have bv4 : Below v.heap.size v W0 := b3.trans (b4.mono (by omega))
  have b24 : Below w1.heap.size w1 W0 := b2.trans ((bv.trans (bv4.mono (by omega))).mono (by omega))
  have c1 : w1.cell? ⟨w.heap.size, 0, none⟩ = some (.pointer p) := by rw [← e1]; exact (cell_of_row _ _ 0 _ _ _ (heap_alloc_new w _)).trans rfl
  have gv : v.heap[w2.heap.size]? = some (.cells #[.bool false] 4 (0, 0)) := by rw [← ev]; exact heap_alloc_new w2 _
  have gv4 : W0.heap[w2.heap.size]? = some (.cells #[.bool false] 4 (0, 0)) := (bv4.block w2.heap.size (by omega)).trans gv
  have c3 : w3.cell? ⟨v.heap.size, 0, none⟩ = some (.pointer p) := by rw [← e3]; exact (cell_of_row _ _ 0 _ _ _ (heap_alloc_new v _)).trans rfl
  refine ⟨by omega, (b24.cell (p := ⟨w.heap.size, 0, none⟩) (by show w.heap.size < _; omega)).trans c1, ?_, ?_, b1.trans (b24.mono (by omega)), ?_, ?_⟩
  · rw [show w.heap.size + 3 = v.heap.size by omega]
    exact (b4.cell (p := ⟨v.heap.size, 0, none⟩) (by show v.heap.size < _; omega)).trans c3
  · rw [show w.heap.size + 4 = w3.heap.size by omega, ← e]
    exact hb_box w3 h hl 30
  · rw [show w.heap.size + 2 = w2.heap.size by omega]
    exact (cell_of_row _ _ 0 _ _ _ gv4).trans rfl
  · rw [show w.heap.size + 2 = w2.heap.size by omega]
    unfold World.frozen?
    dsimp only
    rw [gv4]
    simp
/-- What holds between two rounds of Has. -/
structure HI (w w0 : World) (q g bits probes : Nat) (ws : Nat → Nat) (W : World) : Prop where
  fw : FW W q g bits probes ws
  bx : W.cell? ⟨w.heap.size, 0, none⟩ = some (.pointer (some ⟨q, 0, none⟩))
  rc : W.cell? ⟨w.heap.size + 2, 0, none⟩ = some (.bool false)
  rf : W.frozen? ⟨w.heap.size + 2, 0, none⟩ = false
  be : Below w.heap.size w W
  sz : w0.heap.size ≤ W.heap.size
theorem HI.turn {w w0 : World} {q g bits probes : Nat} {ws : Nat → Nat} {W W' : World} {row : Option Nat} (hs : HI w w0 q g bits probes ws W) (h1 : q < w0.heap.size) (h2 : g < w0.heap.size) (h3 : w.heap.size + 2 < w0.heap.size) (hg : W.grownBy W' row) (hr : ∀ r, row = some r → w0.heap.size ≤ r ∧ ∃ o : Obj, W.heap[r]? = some o ∧ o.isCells = false) : HI w w0 q g bits probes ws W' := by
  have keep : ∀ k, k < w0.heap.size → W'.heap[k]? = W.heap[k]? := fun k hk => hg.block k (by have := hs.sz; omega) (fun e => by have := (hr k e.symm).1; omega)
  exact ⟨hs.fw.of (keep q h1) (keep g h2), (World.cell?_of_block (w := W) (a := ⟨w.heap.size, 0, none⟩) (keep w.heap.size (by omega))).trans hs.bx, (World.cell?_of_block (w := W) (a := ⟨w.heap.size + 2, 0, none⟩) (keep _ h3)).trans hs.rc, (World.frozen?_of_block (w := W) (a := ⟨w.heap.size + 2, 0, none⟩) (keep _ h3)).trans hs.rf, hs.be.trans ⟨hg.os, hg.tape, hg.output, hg.size, fun k hk => keep k (by omega)⟩, Nat.le_trans hs.sz hg.size⟩
theorem HI.set {w w0 : World} {q g bits probes : Nat} {ws : Nat → Nat} {W : World} (hs : HI w w0 q g bits probes ws W) (h1 : q < w.heap.size) (h2 : g < w.heap.size) : HI w w0 q g bits probes ws (W.setCell ⟨w.heap.size + 2, 0, none⟩ (.bool false)) := by
  have keep : ∀ k, k ≠ w.heap.size + 2 → (W.setCell ⟨w.heap.size + 2, 0, none⟩ (.bool false)).heap[k]? = W.heap[k]? := fun k hk => Below.heap_setCell _ _ _ _ hk
  exact ⟨hs.fw.of (keep q (by omega)) (keep g (by omega)), (World.cell?_of_block (w := W) (a := ⟨w.heap.size, 0, none⟩) (keep w.heap.size (by omega))).trans hs.bx, World.cell?_setCell_same _ _ _ hs.rc, by rw [World.frozen?_setCell]; exact hs.rf, hs.be.setCell (p := ⟨w.heap.size + 2, 0, none⟩) (by show w.heap.size ≤ w.heap.size + 2; omega) _, by simpa using hs.sz⟩
def allBits {b : Nat} (ws : Nat → Nat) (l : List (Fin b)) : Bool := l.all fun x => bitAt ws x.val
set_option maxRecDepth 100000 in
set_option maxHeartbeats 4000000 in
theorem hasF_any (q g bits probes : Nat) (ws : Nat → Nat) (h : List UInt8) (w : World) (hl : h.length = 32) (hb0 : 0 < bits) (hb1 : bits ≤ 65536) (hp : probes ≤ 16) (hF : FW w q g bits probes ws) (hw : ∀ i, ws i < 18446744073709551616) :
    Calls Try.prog 22 #[.pointer (some ⟨q, 0, none⟩), .agg (bs h)] w fun e w' => e = .returned (.bool (allBits ws (spotL h bits hb0 probes))) ∧ Below w.heap.size w w' := by
  refine (callsIn_wide (n := 4)).1 ?_
  refine callsIn_of_wp_marks Try.func22 rfl trivial ?_ rfl
  simp only [Try.ntmps22, List.size_toArray, List.length_cons, List.length_nil, Nat.reduceAdd, Nat.reduceSub, Array.replicate_succ, Array.replicate_zero, List.push_toArray, List.append_toArray, List.nil_append, List.cons_append]
  refine wpIn_wide.2 ?_
  have HR : Hid ((((w.alloc (.cells #[.pointer (some ⟨q, 0, none⟩)] 23)).alloc (.cells (bs h) 30)).alloc (.cells #[.bool false] 4)).rangeAt (w.heap.size + 1) 0 (hcs h)) := by
    have := range_box (w.alloc (.cells #[.pointer (some ⟨q, 0, none⟩)] 23)) h 30
    rw [World.size_alloc] at this
    exact rangeAt_below this ((Below.refl _ _).alloc (Nat.le_refl _) _) (by simp)
  go_wp2_with (first
    | (with_reducible refine at_ld ?_; refine wpList_ld (.tmp 3) rfl rfl (w.heap.size + 1) 0 rfl h hl HR.out ?_)
    | (go_at_call 42; refine (spots_any _ h _ hl).mono ?_; rintro e w' ⟨rfl, hw⟩; subst hw)
    | fail)
  obtain ⟨W0, hW0⟩ : ∃ W0, ((((w.alloc (.cells #[.pointer (some ⟨q, 0, none⟩)] 23)).alloc (.cells (bs h) 30)).alloc (.cells #[.bool false] 4)).alloc (.cells #[.pointer (some ⟨q, 0, none⟩)] 23)).alloc (.cells (bs h) 30) = W0 := ⟨_, rfl⟩
  obtain ⟨s0, k1, k2, k3, k4, k5, k6⟩ := boxes5 w _ h hl hW0
  rw [hW0]
  clear hW0 HR
  have lq : q < w.heap.size := hF.fc.lt
  have lg : g < w.heap.size := hF.wr.lt
  have F0 : FW W0 q g bits probes ws := hF.below k4
  refine (wpIn_wide (n := 4)).1 ?_
  refine wpIn_rangeFunc_ownF (F := Fence.wide) rfl (by omega) (gf := 98) (lb := #[.pointer (some ⟨w.heap.size + 1 + 1 + 1 + 1, 0, none⟩), .pointer (some ⟨w.heap.size + 1 + 1 + 1, 0, none⟩)]) rfl trivial (enters_of Try.func98 (by kernel_rfl) rfl)
    (spots1_stops (4 - 1) bits probes q g (w.heap.size + 1 + 1 + 1 + 1) (w.heap.size + 1 + 1 + 1) W0.heap.size h W0 hb0 hb1 hp k3 k2 F0.fc (by omega) (by omega) (by omega) (by omega) (Nat.le_refl _)) (fun h k => h.trans k) (Kb.put (Nat.le_refl _)) (Below.refl _ _) (fun _ => rfl)
    (fun pre W => HI w W0 q g bits probes ws W ∧ allBits ws pre = true)
    (fun c pre W => HI w W0 q g bits probes ws W ∧ c = .ret ∧ allBits ws pre = false)
    (fun s W W' row hs hg hr => ⟨hs.1.turn (by omega) (by omega) (by omega) hg hr, hs.2⟩)
    (fun c s W W' row hs hg hr => ⟨hs.1.turn (by omega) (by omega) (by omega) hg hr, hs.2⟩)
    ⟨⟨F0, k1, k5, k6, k4, Nat.le_refl _⟩, rfl⟩
    (fun x => { tmps := #[.pointer (some ⟨q, 0, none⟩), .agg (bs h), .pointer (some ⟨w.heap.size, 0, none⟩), .pointer (some ⟨w.heap.size + 1, 0, none⟩), .pointer (some ⟨w.heap.size + 1 + 1, 0, none⟩), .int .i64 (x.val : Int), .pointer (some ⟨q, 0, none⟩), .agg (bs h), .func (.func 98) #[] #[.pointer (some ⟨w.heap.size + 1 + 1 + 1 + 1, 0, none⟩), .pointer (some ⟨w.heap.size + 1 + 1 + 1, 0, none⟩)], .int .i64 (x.val : Int), undef, undef, undef, undef, undef, undef, undef, undef, undef], defers := [] }) ?assign ?body ?done ?stop
  case assign =>
    intro l x W K hK
    gi_wp2
    exact hK
  case body =>
    rintro l pre x W ⟨hI, hall⟩ _
    have c2 := hI.fw.fc.c2
    have bx := hI.bx
    have hd : x.val / 64 < (bits + 63) / 64 := by have := x.isLt; omega
    have HHas := Hid.mk' (has_any g ((bits + 63) / 64) x.val ws W hI.fw.wr hw hd (by have := x.isLt; omega) (by omega))
    have HII := Hid.mk' hI
    have rc := hI.rc
    have rf := hI.rf
    have hsn : Hid (allBits ws (pre ++ [x]) = bitAt ws x.val) := by show _ = _; unfold allBits at hall ⊢; rw [List.all_append, hall]; simp
    clear hI hall
    have hsz := HII.out.sz
    cases hbit : bitAt ws x.val with
    | true =>
      rw [hbit] at HHas hsn
      gi_wp2_with (refine ⟨trivial, ?_⟩; gi_at_call 49; refine (CallsIn.inRound l (callsIn_wide.2 HHas.out)).mono ?_; rintro e W' ⟨rfl, hW⟩; obtain rfl := hW.symm)
      exact ⟨KeepsOthers.refl _, Kb.refl _ _ _, HII.out, hsn.out⟩
    | false =>
      rw [hbit] at HHas hsn
      gi_wp2_with (refine ⟨trivial, ?_⟩; gi_at_call 49; refine (CallsIn.inRound l (callsIn_wide.2 HHas.out)).mono ?_; rintro e W' ⟨rfl, hW⟩; obtain rfl := hW.symm)
      exact ⟨KeepsOthers.setCell _ _ _, HII.out.set lq lg, rfl, hsn.out⟩
  case done =>
    rintro D ys W hD rfl ⟨hI, hall⟩ hK
    have bx := hI.bx
    have rc := hI.rc
    have rf := hI.rf
    go_wp2
    have hK' := (KeepsOthers.setCell W ⟨w.heap.size + 2, 0, none⟩ (.bool true)).same D _ hK rfl
    refine ⟨by simp, .inl ⟨_, _, rfl, run_takeDeferred hK', ?_⟩⟩
    have hc5 := cell_kept (World.cell?_setCell_same' W ⟨w.heap.size + 2, 0, none⟩ (.bool true) (by rw [rc]; rfl)) (grownBy_putObj' _ D (.deferred none)) (fun r e => by cases e; exact ⟨_, hK', rfl⟩)
    refine ⟨.bool true, ?_, by rw [hall], (hI.be.setCell (p := ⟨w.heap.size + 2, 0, none⟩) (by show w.heap.size ≤ w.heap.size + 2; omega) _).trans (belowK_b (w := w) (Nat.le_refl _) _ D _ _ (by omega) hK' rfl rfl)⟩
    simp [results, Try.f22, go_sem, hc5]
  case stop =>
    rintro D c pre W hD hpre ⟨hI, rfl, hall⟩ hK
    have rc := hI.rc
    have hno : allBits ws (spotL h bits hb0 probes) = false := by
      obtain ⟨r, hr⟩ := hpre
      unfold allBits at hall ⊢
      rw [← hr, List.all_append, hall]
      rfl
    gi_wp2
    refine ⟨by simp, .inl ⟨_, _, rfl, run_takeDeferred hK, ?_⟩⟩
    have hc5 := cell_kept rc (grownBy_putObj' _ D (.deferred none)) (fun r e => by cases e; exact ⟨_, hK, rfl⟩)
    refine ⟨.bool false, ?_, by rw [hno], hI.be.trans (belowK_b (w := w) (Nat.le_refl _) W D _ _ (by omega) hK rfl rfl)⟩
    simp [results, Try.f22, go_sem, hc5]
end Go.Proofs.Ytdajeabhhkgibaa
