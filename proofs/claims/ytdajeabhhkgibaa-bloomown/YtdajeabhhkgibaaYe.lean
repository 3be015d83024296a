import Derived.Test.YtdajeabhhkgibaaVv
import Derived.RangeFuncBox
import Derived.Maps.AppendAt
namespace Go.Proofs.Ytdajeabhhkgibaa
open Go.RowKit Go.Shelf Go.Maps
set_option linter.unusedVariables false
set_option linter.unusedSimpArgs false
attribute [local go_sem] Oper.semAt_some

def spV {b : Nat} (x : Fin b) : Value := .int .i64 (x.val : Int)
theorem info3x : (Try.prog.info? 3).map (fun i => (i.zero, i.size, i.bytes)) = some (some (.int .i64 0), 1, 8) := by kernel_rfl
set_option maxRecDepth 100000 in
set_option maxHeartbeats 4000000 in
theorem appseq_any (q g bits probes bh bf : Nat) (h : List UInt8) (w : World) (hb0 : 0 < bits) (hb1 : bits ≤ 65536) (hp : probes ≤ 16) (hH : HB w bh h) (hF : w.cell? ⟨bf, 0, none⟩ = some (.pointer (some ⟨q, 0, none⟩))) (hFC : FC w q g bits probes) (l1 : bh < w.heap.size) (n2 : bf ≠ g) :
    Calls Try.prog 100 #[.slice none 0 0, .func (.func 98) #[] #[.pointer (some ⟨bh, 0, none⟩), .pointer (some ⟨bf, 0, none⟩)]] w fun e w' => ∃ v, e = .returned v ∧ w'.ownsRow w.heap.size 3 1 v (spotL h bits hb0 probes).length ((spotL h bits hb0 probes).map spV) ∧ Below w.heap.size w w' := by
  refine (callsIn_wide (n := 4)).1 ?_
  refine callsIn_of_wp_marks Try.func100 rfl trivial ?_ rfl
  simp only [Try.ntmps100, List.size_toArray, List.length_cons, List.length_nil, Nat.reduceAdd, Nat.reduceSub, Array.replicate_succ, Array.replicate_zero, List.push_toArray, List.append_toArray, List.nil_append, List.cons_append]
  refine wpIn_wide.2 ?_
  obtain ⟨i0, hi, hz0, hz1, hz2⟩ := info_parts info3x
  have l2 : bf < w.heap.size := World.block_lt_of_cell? _ _ hF
  have l3 : q < w.heap.size := hFC.lt
  go_wp2_with fail
  obtain ⟨W1, hW1⟩ : ∃ W1, w.alloc (.cells #[.slice none 0 0] 49) = W1 := ⟨_, rfl⟩
  have be1 : Below w.heap.size w W1 := by rw [← hW1]; exact (Below.refl _ _).alloc (Nat.le_refl _) _
  have bx1 : Boxed W1 w.heap.size 49 (.slice none 0 0) := by rw [← hW1]; exact Boxed.new w 49 _
  have sz1 : W1.heap.size = w.heap.size + 1 := by rw [← hW1]; simp
  rw [hW1]
  clear hW1
  have hH1 : HB W1 bh h := fun k hk => (be1.cell (p := ⟨bh, k, none⟩) l1).trans (hH k hk)
  have hF1 : W1.cell? ⟨bf, 0, none⟩ = some (.pointer (some ⟨q, 0, none⟩)) := (be1.cell (p := ⟨bf, 0, none⟩) l2).trans hF
  have hFC1 : FC W1 q g bits probes := hFC.of (be1.block q l3)
  refine (wpIn_wide (n := 4)).1 ?_
  refine wpIn_rangeFunc_ownF (F := Fence.wide) rfl (by omega) (gf := 98) (lb := #[.pointer (some ⟨bh, 0, none⟩), .pointer (some ⟨bf, 0, none⟩)]) rfl trivial (enters_of Try.func98 (by kernel_rfl) rfl)
    (spots1_stops (4 - 1) bits probes q g bh bf w.heap.size h W1 hb0 hb1 hp hH1 hF1 hFC1 l1 l2 l3 n2 (by omega)) (fun h k => h.trans k) (Kb.put (by omega)) (Below.refl _ _) (fun _ => rfl)
    (fun pre W => (∃ v, Boxed W w.heap.size 49 v ∧ W.ownsRow w.heap.size 3 1 v pre.length (pre.map spV) ∧ True) ∧ Below w.heap.size w W)
    (fun _ _ _ => False)
    (OwnFrom.and ((holdsRow_own w.heap.size w.heap.size 49 3 1 (fun pre : List (Fin bits) => pre.length) (fun pre : List (Fin bits) => pre.map spV) (fun _ _ => True)).from _) (ownFrom_below (Nat.le_refl _) (by omega)))
    (fun _ _ _ _ _ hs _ _ => hs)
    ⟨⟨_, bx1, World.ownsRow_nil _ _ _ _, trivial⟩, be1⟩
    (fun x => { tmps := #[.slice none 0 0, .func (.func 98) #[] #[.pointer (some ⟨bh, 0, none⟩), .pointer (some ⟨bf, 0, none⟩)], .pointer (some ⟨w.heap.size, 0, none⟩), undef, .slice none 0 0, .int .i64 (x.val : Int), .func (.func 98) #[] #[.pointer (some ⟨bh, 0, none⟩), .pointer (some ⟨bf, 0, none⟩)], .int .i64 (x.val : Int), undef, undef, undef, undef, undef], defers := [] }) ?assign ?body ?done ?stop
  case assign =>
    intro l x W K hK
    gi_wp2
    exact hK
  case body =>
    rintro l pre x W ⟨⟨v, hv, hrow, _⟩, hB⟩ hlen
    have hc := hv.cell
    have hxb := x.isLt
    gi_wp2_with (gi_at_builtin; refine wpListIn_append_own _ rfl _ _ 49 rfl w.heap.size 3 i0 (.int .i64 0) 1 8 Try.underlying49 hi hz0 hz1 hz2 rfl (by decide) _ _ _ rfl (hrow.alloc _) ⟨W.heap.size, 0, none⟩ 1 1 [spV x] rfl rfl (cell_one_new _ _ _) (by simp [spV, Value.oneCell']) (by simp [maxLen]; omega) (by omega) (by have := hB.size; simp; omega) ?_; intro v' w1 hown' hgrow _; obtain ⟨g', cap', rfl⟩ := ownsRow_succ hown'; obtain ⟨hv1, hv2, hr2, hk2, hb2⟩ := hv.appended (by decide) hrow hB.size (Nat.le_refl _) hown' hgrow; have hc1 := hv1.cell; have hf1 := hv1.frozen)
    refine ⟨hk2, Kb.below hb2, ⟨_, hv2, ?_, trivial⟩, hB.trans hb2⟩
    rw [List.length_append, List.map_append]
    exact hr2
  case done =>
    rintro D ys W hD rfl ⟨⟨v, hv, hrow, _⟩, hB⟩ hK
    have hc := hv.cell
    have HR := Hid.mk' hrow
    go_wp2
    refine ⟨by simp, .inl ⟨_, _, rfl, run_takeDeferred hK, ?_⟩⟩
    refine ⟨v, ?_, v, rfl, ownsRow_putObj HR.out _ hK rfl, hB.trans (belowK_b (w := w) (Nat.le_refl _) W D _ _ (by omega) hK rfl rfl)⟩
    simp [results, Try.f100, go_sem]
  case stop =>
    rintro D c pre W _ _ h _
    exact h.elim
/-- What Spots tells. -/
def SpPost (N : Nat) (l : List Value) (w : World) (e : Ending) (w' : World) : Prop := ∃ a c, e = .returned (.slice a N c) ∧ (∀ W, Below w'.heap.size w' W → ∀ k v, l[k]? = some v → ∃ b, a = some ⟨b, 0, none⟩ ∧ W.cell? ⟨b, k, none⟩ = some v) ∧ Below w.heap.size w w'
theorem own_cells {w : World} {base e : Nat} {v : Value} {n : Nat} {xs : List Value} (h : w.ownsRow base e 1 v n xs) (hx : xs.length = n) : ∃ a c, v = .slice a n c ∧ ∀ W, Below w.heap.size w W → ∀ k u, xs[k]? = some u → ∃ b, a = some ⟨b, 0, none⟩ ∧ W.cell? ⟨b, k, none⟩ = some u := by
  rcases h.2 with ⟨rfl, hn⟩ | ⟨g, cap, cur, rfl, hbg, hg, hnc, hcm, hcs, htake⟩
  · subst hn
    refine ⟨none, 0, rfl, fun W hW k u hk => ?_⟩
    rw [List.eq_nil_of_length_eq_zero hx] at hk
    cases hk
  · refine ⟨_, _, rfl, fun W hW k u hk => ⟨g, rfl, ?_⟩⟩
    have hlt : g < w.heap.size := (Array.getElem?_eq_some_iff.1 hg).1
    refine (hW.cell (p := ⟨g, k, none⟩) hlt).trans ?_
    rw [cell_of_row w g k cur _ _ hg]
    rw [← htake, List.getElem?_take] at hk
    split at hk
    · simpa using hk
    · cases hk
set_option maxRecDepth 100000 in
theorem spotsF_any (q g bits probes : Nat) (ws : Nat → Nat) (h : List UInt8) (w : World) (hl : h.length = 32) (hb0 : 0 < bits) (hb1 : bits ≤ 65536) (hp : probes ≤ 16) (hF : FW w q g bits probes ws) :
    Calls Try.prog 25 #[.pointer (some ⟨q, 0, none⟩), .agg (bs h)] w (SpPost probes ((spotL h bits hb0 probes).map spV) w) := by
  have HR : Hid ((w.alloc (.cells (bs h) 30)).rangeAt w.heap.size 0 (hcs h)) := range_box w h 30
  obtain ⟨W0, hW0⟩ : ∃ W0, ((w.alloc (.cells (bs h) 30)).alloc (.cells #[.pointer (some ⟨q, 0, none⟩)] 23)).alloc (.cells (bs h) 30) = W0 := ⟨_, rfl⟩
  have hA : W0.heap.size = w.heap.size + 3 ∧ W0.cell? ⟨w.heap.size + 1, 0, none⟩ = some (.pointer (some ⟨q, 0, none⟩)) ∧ HB W0 (w.heap.size + 2) h ∧ Below w.heap.size w W0 := by
    obtain ⟨w1, e1⟩ : ∃ x, w.alloc (.cells (bs h) 30) = x := ⟨_, rfl⟩
    rw [e1] at hW0
    obtain ⟨w2, e2⟩ : ∃ x, w1.alloc (.cells #[.pointer (some ⟨q, 0, none⟩)] 23) = x := ⟨_, rfl⟩
    rw [e2] at hW0
    have s1 : w1.heap.size = w.heap.size + 1 := by rw [← e1]; simp
    have s2 : w2.heap.size = w1.heap.size + 1 := by rw [← e2]; simp
    have s3 : W0.heap.size = w2.heap.size + 1 := by rw [← hW0]; simp
    have b1 : Below w.heap.size w w1 := by rw [← e1]; exact (Below.refl _ _).alloc (Nat.le_refl _) _
    have b2 : Below w1.heap.size w1 w2 := by rw [← e2]; exact (Below.refl _ _).alloc (Nat.le_refl _) _
    have b3 : Below w2.heap.size w2 W0 := by rw [← hW0]; exact (Below.refl _ _).alloc (Nat.le_refl _) _
    have c2 : w2.cell? ⟨w1.heap.size, 0, none⟩ = some (.pointer (some ⟨q, 0, none⟩)) := by rw [← e2]; exact (cell_of_row _ _ 0 _ _ _ (heap_alloc_new w1 _)).trans rfl
    refine ⟨by omega, ?_, ?_, b1.trans ((b2.trans (b3.mono (by omega))).mono (by omega))⟩
    · rw [show w.heap.size + 1 = w1.heap.size by omega]
      exact (b3.cell (p := ⟨w1.heap.size, 0, none⟩) (by show w1.heap.size < _; omega)).trans c2
    · rw [show w.heap.size + 2 = w2.heap.size by omega, ← hW0]
      exact hb_box w2 h hl 30
  obtain ⟨s0, k1, k2, k3⟩ := hA
  have lq := hF.fc.lt
  have lg := hF.wr.lt
  have HAP := Hid.mk' (appseq_any q g bits probes (w.heap.size + 2) (w.heap.size + 1) h W0 hb0 hb1 hp k2 k1 (hF.fc.of (k3.block q lq)) (by omega) (by omega))
  have HC : Hid (Calls Try.prog 50 #[.func (.func 98) #[] #[.pointer (some ⟨w.heap.size + 2, 0, none⟩), .pointer (some ⟨w.heap.size + 1, 0, none⟩)]] W0 (SpPost probes ((spotL h bits hb0 probes).map spV) w)) := by
    clear hF
    go_enter Try.func50, Try.ntmps50
    go_wp2_with (first
      | (go_at_call 100; refine HAP.out.mono ?_; rintro e W5 ⟨v, rfl, ow, be⟩; have OW := Hid.mk' ow; have BE := Hid.mk' be; clear ow be)
      | fail)
    go_ret
    obtain ⟨a, c, rfl, hc⟩ := own_cells OW.out (by rw [List.length_map])
    rw [spotL_len]
    exact ⟨a, c, rfl, hc, k3.trans (BE.out.mono k3.size)⟩
  clear HAP hF
  have HW0 := Hid.mk' hW0
  clear hW0
  go_enter Try.func25, Try.ntmps25
  go_wp2_with (first
    | (with_reducible refine at_ld ?_; refine wpList_ld (.tmp 3) rfl rfl w.heap.size 0 rfl h hl HR.out ?_)
    | (go_at_call 42; refine (spots_any _ h _ hl).mono ?_; rintro e w' ⟨rfl, hw⟩; have hw2 := hw.trans HW0.out; clear hw; obtain rfl := hw2.symm; clear hw2)
    | (go_at_call 50; refine HC.out.mono ?_; rintro e W5 ⟨a, c, rfl, hc, be⟩; have HCC := Hid.mk' hc; have BE := Hid.mk' be; clear hc be)
    | fail)
  go_ret
  exact ⟨a, c, rfl, HCC.out, BE.out⟩
set_option maxRecDepth 100000 in
theorem index49 (b n cap k : Nat) (w : World) (hk : k < n) : (Instr.indexAt 49 (.slice (some ⟨b, 0, none⟩) n cap) (.int .i64 (k : Int))).run Try.prog w = .ok (.pointer (some ⟨b, k, none⟩)) w := by
  rw [run_indexAt_slice (P := Try.prog) _ _ _ _ _ _ _ Try.underlying49]
  have hsz : (sizeOf (Try.prog.elem 49)).run Try.prog w = .ok 1 w := by kernel_rfl
  simp [hk, hsz, Addr.add_mid]
set_option maxRecDepth 100000 in
/-- Two rows of the same ints. -/
theorem sameI_any (a1 a2 : Option Addr) (n c1 c2 : Nat) (f : Nat → Int) (w : World) (hn : n ≤ 1000) (h1 : ∀ W, Below w.heap.size w W → ∀ k, k < n → ∃ b, a1 = some ⟨b, 0, none⟩ ∧ W.cell? ⟨b, k, none⟩ = some (.int .i64 (f k))) (h2 : ∀ W, Below w.heap.size w W → ∀ k, k < n → ∃ b, a2 = some ⟨b, 0, none⟩ ∧ W.cell? ⟨b, k, none⟩ = some (.int .i64 (f k))) :
    Calls Try.prog 24 #[.slice a1 n c1, .slice a2 n c2] w fun e w' => e = .returned (.bool true) ∧ Below w.heap.size w w' := by
  have H1 := Hid.mk' h1
  have H2 := Hid.mk' h2
  clear h1 h2
  go_enter Try.func24, Try.ntmps24
  go_wp2
  go_loopw [5] (fun i wr => ∃ k : Nat, k ≤ n ∧ i = .int .i64 (k : Int) ∧ Hid (Below w.heap.size w wr)) (fun i _ => n - (intOf i).toNat)
  case atStart => exact ⟨0, by omega, rfl, Below.refl _ _⟩
  case round =>
    obtain ⟨k, hk, rfl, HB⟩ := hrel
    by_cases hkn : k < n
    · have hkn' : (k : Int) < (n : Int) := by omega
      obtain ⟨b1, rfl, q1⟩ := H1.out wr HB.out k hkn
      obtain ⟨b2, rfl, q2⟩ := H2.out wr HB.out k hkn
      have ix := fun wx => index49 b1 n c1 k wx hkn
      have ix2 := fun wx => index49 b2 n c2 k wx hkn
      generalize f k = z at *
      go_wp2
      go_region
      go_wp2
      exact ⟨⟨k + 1, by omega, by go_num, HB.out.drew⟩, by simp [intOf]; omega⟩
    · obtain rfl : k = n := by omega
      have hkn' : ¬ (k : Int) < (k : Int) := by omega
      go_wp2
      go_ret
      exact ⟨rfl, HB.out⟩
end Go.Proofs.Ytdajeabhhkgibaa
