import Derived.Test.YtdajeabhhkgibaaP0
import Derived.Test.YtdajeabhhkgibaaVh0
import Derived.Test.YtdajeabhhkgibaaYd
import Derived.Laws.CopyRow
import Derived.Deep.RegionLaw
import Derived.Test.YtdajeabhhkgibaaYe
import Derived.Test.YtdajeabhhkgibaaVh
import Derived.Below
import Derived.Deep.MidRow
import Derived.BigQuiet
import Derived.WalkKit
import Derived.Test.YtdajeabhhkgibaaF
import Derived.OwnWalk
import Derived.Maps.AppendAt
import Derived.Deep.OwnRows
import Derived.Deep.RegionWith
import Derived.Deep.RegionHeld3
import Derived.Deep.QuietTactic
import Derived.Laws.Externs
import Derived.WalkLawsBesides
import Derived.Lib.BytesEntry
import Derived.Test.YtdajeabhhkgibaaHj
import Derived.Lib.SliceRun
import Derived.Test.YtdajeabhhkgibaaHl
import Derived.Test.YtdajeabhhkgibaaHh
import Derived.Deep.DeepAppendWide
import Derived.Lib.BufferMore
import Derived.Test.YtdajeabhhkgibaaKWb
import Derived.Laws.CopyOwn
import Derived.Test.YtdajeabhhkgibaaVv
import Derived.Test.YtdajeabhhkgibaaKOb
namespace Go.Proofs.Ytdajeabhhkgibaa
open Go.RowKit
set_option linter.unusedVariables false
set_option linter.unusedSimpArgs false

set_option maxRecDepth 100000 in
theorem fork_nil (w : World) : Calls Try.prog 16 #[.pointer none] w fun e w' => e = .returned (.pointer none) ∧ w' = w := by
  go_enter Try.func16, Try.ntmps16
  go_wp2
  go_ret
  exact ⟨rfl, rfl⟩
set_option maxRecDepth 100000 in
theorem rfork_nil (w : World) : Calls Try.prog 17 #[.pointer none] w fun e w' => e = .returned (.pointer none) ∧ w' = w := by
  go_enter Try.func17, Try.ntmps17
  go_wp2
  go_ret
  exact ⟨rfl, rfl⟩
set_option maxRecDepth 100000 in
theorem join_nil1 (x : Option Addr) (w : World) : Calls Try.prog 14 #[.pointer none, .pointer x] w fun e w' => e = .returned (.int .i64 1) ∧ w' = w := by
  go_enter Try.func14, Try.ntmps14
  go_wp2
  go_ret
  exact ⟨rfl, rfl⟩
set_option maxRecDepth 100000 in
theorem join_nil2 (q : Nat) (w : World) : Calls Try.prog 14 #[.pointer (some ⟨q, 0, none⟩), .pointer none] w fun e w' => e = .returned (.int .i64 1) ∧ w' = w := by
  go_enter Try.func14, Try.ntmps14
  go_wp2
  go_ret
  exact ⟨rfl, rfl⟩
set_option maxRecDepth 100000 in
theorem rjoin_nil1 (x : Option Addr) (w : World) : Calls Try.prog 15 #[.pointer none, .pointer x] w fun e w' => e = .returned (.int .i64 1) ∧ w' = w := by
  go_enter Try.func15, Try.ntmps15
  go_wp2
  go_ret
  exact ⟨rfl, rfl⟩
set_option maxRecDepth 100000 in
theorem rjoin_nil2 (q : Nat) (w : World) : Calls Try.prog 15 #[.pointer (some ⟨q, 0, none⟩), .pointer none] w fun e w' => e = .returned (.int .i64 1) ∧ w' = w := by
  go_enter Try.func15, Try.ntmps15
  go_wp2
  go_ret
  exact ⟨rfl, rfl⟩
set_option maxRecDepth 100000 in
set_option maxHeartbeats 1000000 in
/-- Join of two of unlike shapes. -/
theorem join_no (q g b1 p1 q2 g2 b2 p2 : Nat) (w : World) (h : FC w q g b1 p1) (h2 : FC w q2 g2 b2 p2) (hne : ¬ (b1 = b2 ∧ p1 = p2)) :
    Calls Try.prog 14 #[.pointer (some ⟨q, 0, none⟩), .pointer (some ⟨q2, 0, none⟩)] w fun e w' => e = .returned (.int .i64 210) ∧ w' = w := by
  have HS := Hid.mk' (shape_any q g b1 p1 q2 g2 b2 p2 w h h2)
  have hdd : decide (b1 = b2 ∧ p1 = p2) = false := decide_eq_false hne
  rw [hdd] at HS
  clear h h2 hne hdd
  go_enter Try.func14, Try.ntmps14
  go_wp2_with (first
    | (go_at_call 44; refine HS.out.mono ?_; rintro e W ⟨rfl, hw⟩; obtain rfl := hw.symm)
    | fail)
  go_ret
  exact ⟨rfl, rfl⟩
set_option maxRecDepth 100000 in
set_option maxHeartbeats 1000000 in
theorem rjoin_no (q g b1 p1 q2 g2 b2 p2 : Nat) (w : World) (h : RC w q g b1 p1) (h2 : RC w q2 g2 b2 p2) (hne : ¬ (b1 = b2 ∧ p1 = p2)) :
    Calls Try.prog 15 #[.pointer (some ⟨q, 0, none⟩), .pointer (some ⟨q2, 0, none⟩)] w fun e w' => e = .returned (.int .i64 210) ∧ ∃ m, w' = w.drewN m := by
  have a0 := h.c0
  have a1 := h.c1
  have b0 := h2.c0
  have c1 := h2.c1
  clear h h2
  by_cases hb : b1 = b2
  · subst hb
    have hp : ((p1 : Int) == (p2 : Int)) = false := by simp; omega
    clear hne
    go_enter Try.func15, Try.ntmps15
    go_upto_region 3 with fail
    go_quiet (fail)
    go_wp2
    go_ret
    exact ⟨rfl, _, rfl⟩
  · have hp : ((b1 : Int) == (b2 : Int)) = false := by simp; omega
    have hp2 : ((b1 : Int) != (b2 : Int)) = true := by simp; omega
    clear hne hb
    go_enter Try.func15, Try.ntmps15
    go_upto_region 3 with fail
    go_quiet (fail)
    go_wp2
    go_ret
    exact ⟨rfl, _, rfl⟩
/-- What a number of bits, of probes is right. -/
def okBi (n : Int) : Bool := decide (8 ≤ n ∧ n ≤ 65536 ∧ n % 8 = 0)
set_option maxRecDepth 100000 in
theorem rbits_int (n : Int) (w : World) (h0 : -9223372036854775808 ≤ n) (h1 : n ≤ 9223372036854775807) : Calls Try.prog 46 #[.int .i64 n] w fun e w' => e = .returned (.bool (okBi n)) ∧ w' = w := by
  by_cases k1 : 8 ≤ n
  · by_cases k2 : n ≤ 65536
    · have hm : n.tmod 8 = n % 8 := Int.tmod_eq_emod_of_nonneg (by omega)
      by_cases k3 : n % 8 = 0
      · have hk : okBi n = true := decide_eq_true ⟨k1, k2, k3⟩
        rw [hk]
        clear hk
        go_enter Try.func46, Try.ntmps46
        go_wp2
        go_ret
        exact ⟨rfl, rfl⟩
      · have hk : okBi n = false := decide_eq_false (fun h => k3 h.2.2)
        rw [hk]
        have k3' : (n % 8 == 0) = false := by simp [k3]
        clear hk k3
        go_enter Try.func46, Try.ntmps46
        go_wp2
        go_ret
        exact ⟨rfl, rfl⟩
    · have hk : okBi n = false := decide_eq_false (fun h => k2 h.2.1)
      rw [hk]
      clear hk
      go_enter Try.func46, Try.ntmps46
      go_wp2
      go_ret
      exact ⟨rfl, rfl⟩
  · have hk : okBi n = false := decide_eq_false (fun h => k1 h.1)
    rw [hk]
    clear hk
    go_enter Try.func46, Try.ntmps46
    go_wp2
    go_ret
    exact ⟨rfl, rfl⟩
set_option maxRecDepth 100000 in
theorem rprobes_int (n : Int) (w : World) (h0 : -9223372036854775808 ≤ n) (h1 : n ≤ 9223372036854775807) : Calls Try.prog 47 #[.int .i64 n] w fun e w' => e = .returned (.bool (okP n)) ∧ w' = w := by
  by_cases k1 : 1 ≤ n
  · by_cases k2 : n ≤ 16
    · have hk : okP n = true := decide_eq_true ⟨k1, k2⟩
      rw [hk]
      clear hk
      go_enter Try.func47, Try.ntmps47
      go_wp2
      go_ret
      exact ⟨rfl, rfl⟩
    · have hk : okP n = false := decide_eq_false (fun h => k2 h.2)
      rw [hk]
      clear hk
      go_enter Try.func47, Try.ntmps47
      go_wp2
      go_ret
      exact ⟨rfl, rfl⟩
  · have hk : okP n = false := decide_eq_false (fun h => k1 h.1)
    rw [hk]
    clear hk
    go_enter Try.func47, Try.ntmps47
    go_wp2
    go_ret
    exact ⟨rfl, rfl⟩
set_option maxRecDepth 100000 in
/-- New that refuses. -/
theorem new_no (b p : Int) (w : World) (hb0 : -9223372036854775808 ≤ b) (hb1 : b ≤ 9223372036854775807) (hp0 : -9223372036854775808 ≤ p) (hp1 : p ≤ 9223372036854775807) (h : ¬ (okBi b = true ∧ okP p = true)) :
    Calls Try.prog 18 #[.int .i64 b, .int .i64 p] w fun e w' => e = .returned (.tuple #[.pointer none, .int .i64 2]) ∧ w' = w := by
  have H1 := Hid.mk' (rbits_int b w hb0 hb1)
  have H2 := Hid.mk' (rprobes_int p w hp0 hp1)
  cases hx : okBi b with
  | false =>
    rw [hx] at H1
    clear hx h
    go_enter Try.func18, Try.ntmps18
    go_wp2_with (first
      | (go_at_call 46; refine H1.out.mono ?_; rintro e W ⟨rfl, hw⟩; obtain rfl := hw.symm)
      | (go_at_call 47; refine H2.out.mono ?_; rintro e W ⟨rfl, hw⟩; obtain rfl := hw.symm)
      | fail)
    go_ret2
    exact ⟨rfl, rfl⟩
  | true =>
    have hy : okP p = false := by
      cases hy : okP p with
      | false => rfl
      | true => exact absurd ⟨hx, hy⟩ h
    rw [hx] at H1
    rw [hy] at H2
    clear hx hy h
    go_enter Try.func18, Try.ntmps18
    go_wp2_with (first
      | (go_at_call 46; refine H1.out.mono ?_; rintro e W ⟨rfl, hw⟩; obtain rfl := hw.symm)
      | (go_at_call 47; refine H2.out.mono ?_; rintro e W ⟨rfl, hw⟩; obtain rfl := hw.symm)
      | fail)
    go_ret2
    exact ⟨rfl, rfl⟩
end Go.Proofs.Ytdajeabhhkgibaa

namespace Go.Proofs.Ytdajeabhhkgibaa
open Go.RowKit
set_option linter.unusedVariables false
set_option linter.unusedSimpArgs false

/-- One row copied onto another of its length. -/
theorem run_copyR (T e : TypeId) (hu : Try.prog.underlying T = some (.slice e)) (hs : (Try.prog.info? e).map (·.size) = some 1) (ty : TypeId) (w : World) (g g2 m : Nat) (t t2 : TypeId) (f1 f2 : Nat → Value) (h1 : w.rowIs g t m f1) (h2 : w.rowIs g2 t2 m f2) (hone : ∀ i, (f2 i).oneCell' = true) :
    ∃ w', (Builtin.copy_ #[T, T] ty #[.slice (some ⟨g, 0, none⟩) m m, .slice (some ⟨g2, 0, none⟩) m m]).run Try.prog w = .ok (goInt m) w' ∧ w'.rowIs g t m f2 ∧ w.grownBy w' (some g) := by
  obtain ⟨c1, k1, s1, _⟩ := h1
  obtain ⟨c2, k2, s2, d2⟩ := h2
  have hlen : c2.toList.length = m := by simpa using s2
  have hsrc : ∀ j v, c2.toList[j]? = some v → w.cell? ((⟨g2, 0, none⟩ : Addr).add j) = some v := fun j v hj => by
    rw [Addr.add_mid, Nat.zero_add, cell_of_row w g2 j c2 t2 (0, 0) k2]
    simpa using hj
  have h1c : ∀ v ∈ c2.toList, v.oneCell' = true := fun v hv => by
    obtain ⟨i, hi, e⟩ := List.getElem_of_mem hv
    have hi' : i < m := by omega
    have := d2 i hi'
    have e2 : c2[i]? = some v := by rw [← e]; simp at hi; simp [hi]
    rw [e2] at this
    rw [Option.some.inj this]
    exact hone i
  have hr := run_copy_row Try.prog w T T ty e g 0 m m ⟨g2, 0, none⟩ m m c1 t c2.toList hu hs k1 (by rw [hlen]; exact (Nat.min_self m).symm) hsrc (by rw [hlen]; omega) h1c
  have hd : c1.toList.drop (0 + c2.toList.length) = [] := List.drop_of_length_le (by rw [hlen]; simp; omega)
  rw [hd, hlen, List.take_zero, List.nil_append, List.append_nil] at hr
  refine ⟨_, hr, ⟨c2, ?_, s2, d2⟩, ?_⟩
  · rw [setRow_heap w g c1 _ t _ k1]
  · exact ⟨rfl, rfl, rfl, by simp, fun k _ hk => setRow_other w g k _ (fun e => hk (by rw [e]))⟩
theorem step_copyR {ops : Array Oper} {o : Oper} {a : Act} {w : World} {K : Act → World → Prop} {Q : Exit → Act → World → Prop} {E : Prop} (hgd : o.guard = none) (s x : Operand) (T e : TypeId) (hu : Try.prog.underlying T = some (.slice e)) (hs : (Try.prog.info? e).map (·.size) = some 1)
    (ho : o.op = .call { callee := .builtin .copy, args := #[s, x], argTypes := #[T, T] }) (g g2 m : Nat) (t t2 : TypeId) (f1 f2 : Nat → Value) (e1 : a.eval s = .slice (some ⟨g, 0, none⟩) m m) (e2 : a.eval x = .slice (some ⟨g2, 0, none⟩) m m) (h1 : w.rowIs g t m f1) (h2 : w.rowIs g2 t2 m f2) (hone : ∀ i, (f2 i).oneCell' = true)
    (h : ∀ w', w'.rowIs g t m f2 → w.grownBy w' (some g) → K (a.put o.dst (goInt m)) w') : if Region.wanted o (yielded ops a.tmps) = true then Oper.wp Try.prog o a w K Q else E := by
  have hw : Region.wanted o (yielded ops a.tmps) = true := by simp [Region.wanted, hgd]
  rw [if_pos hw]
  obtain ⟨w', hr, h3, h4⟩ := run_copyR T e hu hs o.type w g g2 m t t2 f1 f2 h1 h2 hone
  unfold Oper.wp execOp
  simp only [ho, resolve, invoke, builtin, Sem.run_bind, Sem.run_pure, Result.andThen_ok, List.map_toArray, List.map_cons, List.map_nil, e1, e2, hr]
  exact h w' h3 h4
theorem size106 : (Try.prog.info? 106).map (·.size) = some 1 := by kernel_rfl
set_option maxRecDepth 100000 in
set_option maxHeartbeats 4000000 in
/-- Fork. -/
theorem fork_any (q g bits p : Nat) (ws : Nat → Nat) (w : World) (h : FW w q g bits p ws) (hb0 : 0 < bits) (hb : bits ≤ 65536) (hp : p ≤ 16) :
    Calls Try.prog 16 #[.pointer (some ⟨q, 0, none⟩)] w fun e w' => ∃ q2 g2, e = .returned (.pointer (some ⟨q2, 0, none⟩)) ∧ FW w' q2 g2 bits p ws ∧ Below w.heap.size w w' ∧ w.heap.size ≤ g2 ∧ w.heap.size ≤ q2 := by
  have HE : Hid (∀ W, Calls Try.prog 40 #[.int .i64 (bits : Int), .int .i64 (p : Int)] W fun e w' => e = .returned (.pointer (some ⟨W.heap.size + 1, 0, none⟩)) ∧ FC w' (W.heap.size + 1) W.heap.size bits p ∧ WR w' W.heap.size ((bits + 63) / 64) (fun _ => 0) ∧ Below W.heap.size W w' ∧ W.heap.size + 1 < w'.heap.size) := fun W => empty_any bits p W hb hb0 hp
  have HW := Hid.mk' h
  have c0 := h.fc.c0
  have c1 := h.fc.c1
  clear h
  go_enter Try.func16, Try.ntmps16
  go_upto_region 3 with fail
  go_region_law (first
    | (rw [if_pos (by rfl)]
       go_simp
       go_at_call 40
       refine (HE.out _).mono ?_
       rintro e W1 ⟨rfl, fc1, wr1, bel1, sz1⟩
       have FC1 := Hid.mk' fc1
       have WR1 := Hid.mk' wr1
       have B1 := Hid.mk' bel1
       have SZ1 := Hid.mk' sz1
       clear fc1 wr1 bel1 sz1)
    | fail)
  all_goals
    have bw : Below w.heap.size w W1 := ⟨B1.out.os, B1.out.tape, B1.out.output, B1.out.size, B1.out.block⟩
    have BW := Hid.mk' bw
    have FW1 : Hid (FW W1 q g bits p ws) := HW.out.below bw
    have lq := HW.out.fc.lt
    have lg := HW.out.wr.lt
    have d2 := FW1.out.fc.c2
    have d3 : W1.cell? ⟨w.heap.size + 1, 2, none⟩ = some (.slice (some ⟨w.heap.size, 0, none⟩) ((bits + 63) / 64) ((bits + 63) / 64)) := FC1.out.c2
    have R1 : Hid (∀ m, (W1.drewN m).rowIs w.heap.size 106 ((bits + 63) / 64) (fun _ => .int .u64 ((0 : Nat) : Int))) := fun m => WR1.out
    have R2 : Hid (∀ m, (W1.drewN m).rowIs g 106 ((bits + 63) / 64) (fun i => .int .u64 (ws i : Int))) := fun m => FW1.out.wr
    have HFin : Hid (∀ m W2, W2.rowIs w.heap.size 106 ((bits + 63) / 64) (fun i => .int .u64 (ws i : Int)) → (W1.drewN m).grownBy W2 (some w.heap.size) → FW W2 (w.heap.size + 1) w.heap.size bits p ws ∧ Below w.heap.size w W2) := fun m W2 hr hgr => by
      have hs : w.heap.size + 1 < W1.heap.size := SZ1.out
      have e1 : W2.heap[w.heap.size + 1]? = W1.heap[w.heap.size + 1]? := hgr.block _ (by show w.heap.size + 1 < W1.heap.size; exact hs) (fun e => by simp at e)
      have fcx : FC W1 (w.heap.size + 1) w.heap.size bits p := FC1.out
      refine ⟨⟨fcx.of e1, hr⟩, BW.out.trans ⟨hgr.os, hgr.tape, hgr.output, hgr.size, fun k hk => hgr.block k (by show k < W1.heap.size; omega) (fun e => by simp at e; omega)⟩⟩
    clear bw FC1 WR1 B1 SZ1 c0 c1 HE FW1
    generalize hnw : (bits + 63) / 64 = nw at *
    clear hnw
    go_wp2
    go_upto_region 4 with fail
    go_region_law (first
      | (refine step_copyR rfl (.tmp 18) (.tmp 22) 95 106 Try.underlying95 size106 rfl w.heap.size g nw 106 106 (fun _ => .int .u64 ((0 : Nat) : Int)) (fun i => .int .u64 (ws i : Int)) (by first | rfl | simp [Act.eval, Act.put]) (by first | rfl | simp [Act.eval, Act.put]) (R1.out 1) (R2.out 1) (fun _ => rfl) ?_
         intro W2 hr2 hg2
         have HR2 := Hid.mk' (HFin.out 1 W2 hr2 hg2)
         clear hr2 hg2)
      | fail)
  all_goals
    go_wp2
    go_ret
    exact ⟨_, _, rfl, HR2.out.1, HR2.out.2, Nat.le_refl _, Nat.le_succ _⟩
theorem size4 : (Try.prog.info? 4).map (·.size) = some 1 := by kernel_rfl
set_option maxRecDepth 100000 in
set_option maxHeartbeats 4000000 in
/-- The document's Fork. -/
theorem rfork_any (q g bits p : Nat) (f : Nat → Bool) (w : World) (h : RW w q g bits p f) (h1 : 8 ≤ bits) (h2 : bits ≤ 65536) (h3 : bits % 8 = 0) (h4 : 1 ≤ p) (h5 : p ≤ 16) :
    Calls Try.prog 17 #[.pointer (some ⟨q, 0, none⟩)] w fun e w' => ∃ q2 g2, e = .returned (.pointer (some ⟨q2, 0, none⟩)) ∧ RW w' q2 g2 bits p f ∧ Below w.heap.size w w' ∧ w.heap.size ≤ g2 ∧ w.heap.size ≤ q2 := by
  have HE : Hid (∀ W, Calls Try.prog 19 #[.int .i64 (bits : Int), .int .i64 (p : Int)] W fun e w' => e = .returned (.tuple #[.pointer (some ⟨W.heap.size + 1, 0, none⟩), .int .i64 0]) ∧ RW w' (W.heap.size + 1) W.heap.size bits p (fun _ => false) ∧ Below W.heap.size W w' ∧ W.heap.size + 1 < w'.heap.size) := fun W => rnew_ok bits p W h1 h2 h3 h4 h5
  have HW := Hid.mk' h
  have c0 := h.rc.c0
  have c1 := h.rc.c1
  clear h h3
  go_enter Try.func17, Try.ntmps17
  go_upto_region 3 with fail
  go_region_law (first
    | (rw [if_pos (by rfl)]
       go_simp
       go_at_call 19
       refine (HE.out _).mono ?_
       rintro e W1 ⟨rfl, rw1, bel1, sz1⟩
       have RW1 := Hid.mk' rw1
       have B1 := Hid.mk' bel1
       have SZ1 := Hid.mk' sz1
       clear rw1 bel1 sz1)
    | fail)
  all_goals
    have bw : Below w.heap.size w W1 := ⟨B1.out.os, B1.out.tape, B1.out.output, B1.out.size, B1.out.block⟩
    have BW := Hid.mk' bw
    have FW1 : Hid (RW W1 q g bits p f) := HW.out.below bw
    have lq := HW.out.rc.lt
    have lg := HW.out.rb.lt
    have d2 := FW1.out.rc.c0
    have d3 : W1.cell? ⟨w.heap.size + 1, 0, none⟩ = some (.slice (some ⟨w.heap.size, 0, none⟩) bits bits) := RW1.out.rc.c0
    have R1 : Hid (∀ m, (W1.drewN m).rowIs w.heap.size 4 bits (fun _ => .bool false)) := fun m => RW1.out.rb
    have R2 : Hid (∀ m, (W1.drewN m).rowIs g 4 bits (fun i => .bool (f i))) := fun m => FW1.out.rb
    have HFin : Hid (∀ m W2, W2.rowIs w.heap.size 4 bits (fun i => .bool (f i)) → (W1.drewN m).grownBy W2 (some w.heap.size) → RW W2 (w.heap.size + 1) w.heap.size bits p f ∧ Below w.heap.size w W2) := fun m W2 hr hgr => by
      have hs : w.heap.size + 1 < W1.heap.size := SZ1.out
      have e1 : W2.heap[w.heap.size + 1]? = W1.heap[w.heap.size + 1]? := hgr.block _ (by show w.heap.size + 1 < W1.heap.size; exact hs) (fun e => by simp at e)
      have fcx : RC W1 (w.heap.size + 1) w.heap.size bits p := RW1.out.rc
      refine ⟨⟨fcx.of e1, hr⟩, BW.out.trans ⟨hgr.os, hgr.tape, hgr.output, hgr.size, fun k hk => hgr.block k (by show k < W1.heap.size; omega) (fun e => by simp at e; omega)⟩⟩
    clear bw RW1 B1 SZ1 c0 c1 HE FW1
    go_wp2
    go_upto_region 4 with fail
    go_region_law (first
      | (refine step_copyR rfl (.tmp 23) (.tmp 27) 99 4 Try.underlying99 size4 rfl w.heap.size g bits 4 4 (fun _ => .bool false) (fun i => .bool (f i)) (by first | rfl | simp [Act.eval, Act.put]) (by first | rfl | simp [Act.eval, Act.put]) (R1.out 1) (R2.out 1) (fun _ => rfl) ?_
         intro W2 hr2 hg2
         have HR2 := Hid.mk' (HFin.out 1 W2 hr2 hg2)
         clear hr2 hg2)
      | fail)
  all_goals
    go_wp2
    go_ret
    exact ⟨_, _, rfl, HR2.out.1, HR2.out.2, Nat.le_refl _, Nat.le_succ _⟩
end Go.Proofs.Ytdajeabhhkgibaa

namespace Go.Proofs.Ytdajeabhhkgibaa
open Go.RowKit Go.Shelf
set_option linter.unusedVariables false
set_option linter.unusedSimpArgs false
attribute [local go_sem] Oper.semAt_some

set_option maxRecDepth 100000 in
set_option maxHeartbeats 4000000 in
/-- The spots of a filter that is nil. -/
theorem spots0_stops (n bh bf n₀ : Nat) (h : List UInt8) (w : World) (hH : HB w bh h) (hF : w.cell? ⟨bf, 0, none⟩ = some (.pointer none)) (l1 : bh < n₀) (l2 : bf < n₀) (hn : n₀ ≤ w.heap.size) :
    SeqStopsK Fence.wide n Try.prog 98 #[.pointer (some ⟨bh, 0, none⟩), .pointer (some ⟨bf, 0, none⟩)] (fun x : Fin 2 => #[.int .i64 (x.val : Int)]) (Kb n₀ n₀) (fun xs => xs = []) (fun pre => False) 0 w := by
  intro l J Jx W hW hJ hJx hY h0
  have HHW : Hid (HB W bh h) := fun k hk => (hW.cell (p := ⟨bh, k, none⟩) (by show bh < _; omega)).trans (hH k hk)
  have HN : Hid (∀ k o c, (o = 0 ∧ c = 32) ∨ (o = 8 ∧ c = 24) → Calls Try.prog 99 #[.slice (some ⟨bh, o, none⟩) 8 c] (W.drewN k) fun e w' => e = .returned (.int .u64 (numB h o 8 : Int)) ∧ w' = W.drewN k) := fun k o c hc =>
    number_any bh o o c h _ (fun i hi => HHW.out (o + i) (by omega))
  refine callsIn_of_wp Try.func98 rfl trivial ?_ rfl
  simp only [Try.ntmps98, List.size_toArray, List.length_cons, List.length_nil, Nat.reduceAdd, Nat.reduceSub, Array.replicate_succ, Array.replicate_zero, List.push_toArray, List.append_toArray, List.nil_append, List.cons_append]
  refine wpIn_wide.2 ?_
  go_upto_region 0 with fail
  go_quiet (first | (go_at_call 99; exact Calls.quiet_of_same (HN.out _ _ _ (by first | exact .inl ⟨rfl, rfl⟩ | exact .inr ⟨rfl, rfl⟩))) | fail)
  rename_i hK
  refine hK _ _ ?_
  have h01 : J [] (W.drewN nq) := hJ [] W (W.drewN nq) none h0 ⟨rfl, rfl, rfl, Nat.le_refl _, fun _ _ _ => rfl⟩ (fun r e => by cases e)
  have hF1 : (W.drewN nq).cell? ⟨bf, 0, none⟩ = some (.pointer none) := (hW.cell (p := ⟨bf, 0, none⟩) (by show bf < _; omega)).trans hF
  clear hK HN HHW h0 hH hF hY
  generalize W.drewN nq = W1 at *
  have HJ0 := Hid.mk' h01
  clear h01
  go_wp2_with (first | (go_at_call 53; refine (nil_53 _).mono ?_; rintro e w' ⟨rfl, hw⟩; obtain rfl := hw.symm) | fail)
  refine (wpIn_wide (n := n)).1 ?_
  gi_loopw [4, 12] (fun x i wr => i = .int .i64 0 ∧ Hid (J [] wr)) (fun _ i _ => 0)
  case atStart => exact ⟨rfl, HJ0⟩
  case round =>
    obtain ⟨rfl, HJk⟩ := hrel
    gi_wp2
    go_end0
    exact ⟨⟨_, rfl⟩, .inl ⟨[], rfl, HJk.out⟩⟩
theorem belowB_own (m : Nat) (w : World) (hB : w.heap.size ≤ m) : OwnFrom m (fun (_ : List (Fin 2)) W => Below w.heap.size w W) := ownFrom_below (Nat.le_refl _) hB
set_option maxRecDepth 100000 in
set_option maxHeartbeats 4000000 in
theorem add_nil (h : List UInt8) (w : World) (hl : h.length = 32) : Calls Try.prog 12 #[.pointer none, .agg (bs h)] w fun e w' => e = .returned (.tuple #[]) ∧ Below w.heap.size w w' := by
  refine (callsIn_wide (n := 4)).1 ?_
  refine callsIn_of_wp_marks Try.func12 rfl trivial ?_ rfl
  simp only [Try.ntmps12, List.size_toArray, List.length_cons, List.length_nil, Nat.reduceAdd, Nat.reduceSub, Array.replicate_succ, Array.replicate_zero, List.push_toArray, List.append_toArray, List.nil_append, List.cons_append]
  refine wpIn_wide.2 ?_
  have HR : Hid (((w.alloc (.cells #[.pointer none] 23)).alloc (.cells (bs h) 30)).rangeAt (w.heap.size + 1) 0 (hcs h)) := by have := range_box (w.alloc (.cells #[.pointer none] 23)) h 30; rwa [World.size_alloc] at this
  go_wp2_with (first
    | (with_reducible refine at_ld ?_; refine wpList_ld (.tmp 3) rfl rfl (w.heap.size + 1) 0 rfl h hl HR.out ?_)
    | (go_at_call 42; refine (spots_any _ h _ hl).mono ?_; rintro e w' ⟨rfl, hw⟩; subst hw)
    | fail)
  obtain ⟨W0, hW0⟩ : ∃ W0, (((w.alloc (.cells #[.pointer none] 23)).alloc (.cells (bs h) 30)).alloc (.cells #[.pointer none] 23)).alloc (.cells (bs h) 30) = W0 := ⟨_, rfl⟩
  obtain ⟨s0, k1, k2, k3, k4⟩ := boxes4 w _ h hl hW0
  rw [hW0]
  clear hW0 HR
  refine (wpIn_wide (n := 4)).1 ?_
  refine wpIn_rangeFunc_ownF (F := Fence.wide) rfl (by omega) (gf := 98) (lb := #[.pointer (some ⟨w.heap.size + 1 + 1 + 1, 0, none⟩), .pointer (some ⟨w.heap.size + 1 + 1, 0, none⟩)]) rfl trivial (enters_of Try.func98 (by kernel_rfl) rfl)
    (spots0_stops (4 - 1) (w.heap.size + 1 + 1 + 1) (w.heap.size + 1 + 1) W0.heap.size h W0 k3 k2 (by omega) (by omega) (Nat.le_refl _)) (fun h k => h.trans k) (Kb.put (Nat.le_refl _)) (Below.refl _ _) (fun _ => rfl)
    (fun pre W => Below w.heap.size w W)
    (fun _ _ _ => False)
    (belowB_own W0.heap.size w (by omega))
    (fun _ _ _ _ _ hs _ _ => hs)
    k4
    (fun x => { tmps := #[.pointer none, .agg (bs h), .pointer (some ⟨w.heap.size, 0, none⟩), .pointer (some ⟨w.heap.size + 1, 0, none⟩), .int .i64 (x.val : Int), .pointer none, .agg (bs h), .func (.func 98) #[] #[.pointer (some ⟨w.heap.size + 1 + 1 + 1, 0, none⟩), .pointer (some ⟨w.heap.size + 1 + 1, 0, none⟩)], .int .i64 (x.val : Int), undef, undef, undef, undef, undef, undef], defers := [] }) ?assign ?body ?done ?stop
  case assign =>
    intro l x W K hK
    gi_wp2
    exact hK
  case body =>
    rintro l pre x W hI hlt
    exact absurd hlt (Nat.not_lt_zero _)
  case done =>
    rintro D ys W hD rfl hI hK
    gi_wp2
    refine ⟨by simp, .inl ⟨_, _, rfl, run_takeDeferred hK, ?_⟩⟩
    exact ⟨_, results_none rfl _ _ _, rfl, hI.trans (belowK_b (w := w) (Nat.le_refl _) W D _ _ (by omega) hK rfl rfl)⟩
  case stop =>
    rintro D c pre W _ _ h _
    exact h.elim
/-- What Has of a nil one keeps. -/
structure HN0 (w : World) (W : World) : Prop where
  bx : W.cell? ⟨w.heap.size, 0, none⟩ = some (.pointer none)
  rc : W.cell? ⟨w.heap.size + 2, 0, none⟩ = some (.bool false)
  rf : W.frozen? ⟨w.heap.size + 2, 0, none⟩ = false
  be : Below w.heap.size w W
  sz : w.heap.size + 5 ≤ W.heap.size
theorem HN0.own (w : World) (m : Nat) (hm : m = w.heap.size + 5) : OwnFrom m (fun (_ : List (Fin 2)) W => HN0 w W) := by
  intro s W W' row hs hg hr
  have keep : ∀ k, k < w.heap.size + 5 → W'.heap[k]? = W.heap[k]? := fun k hk => hg.block k (by have := hs.sz; omega) (fun e => by have := (hr k e.symm).1; omega)
  exact ⟨(World.cell?_of_block (w := W) (a := ⟨w.heap.size, 0, none⟩) (keep w.heap.size (by omega))).trans hs.bx, (World.cell?_of_block (w := W) (a := ⟨w.heap.size + 2, 0, none⟩) (keep (w.heap.size + 2) (by omega))).trans hs.rc, (World.frozen?_of_block (w := W) (a := ⟨w.heap.size + 2, 0, none⟩) (keep (w.heap.size + 2) (by omega))).trans hs.rf, hs.be.trans ⟨hg.os, hg.tape, hg.output, hg.size, fun k hk => keep k (by omega)⟩, Nat.le_trans hs.sz hg.size⟩
set_option maxRecDepth 100000 in
set_option maxHeartbeats 4000000 in
theorem has_nil (h : List UInt8) (w : World) (hl : h.length = 32) : Calls Try.prog 22 #[.pointer none, .agg (bs h)] w fun e w' => e = .returned (.bool false) ∧ Below w.heap.size w w' := by
  refine (callsIn_wide (n := 4)).1 ?_
  refine callsIn_of_wp_marks Try.func22 rfl trivial ?_ rfl
  simp only [Try.ntmps22, List.size_toArray, List.length_cons, List.length_nil, Nat.reduceAdd, Nat.reduceSub, Array.replicate_succ, Array.replicate_zero, List.push_toArray, List.append_toArray, List.nil_append, List.cons_append]
  refine wpIn_wide.2 ?_
  have HR : Hid ((((w.alloc (.cells #[.pointer none] 23)).alloc (.cells (bs h) 30)).alloc (.cells #[.bool false] 4)).rangeAt (w.heap.size + 1) 0 (hcs h)) := by
    have := range_box (w.alloc (.cells #[.pointer none] 23)) h 30
    rw [World.size_alloc] at this
    exact rangeAt_below this ((Below.refl _ _).alloc (Nat.le_refl _) _) (by simp)
  go_wp2_with (first
    | (with_reducible refine at_ld ?_; refine wpList_ld (.tmp 3) rfl rfl (w.heap.size + 1) 0 rfl h hl HR.out ?_)
    | (go_at_call 42; refine (spots_any _ h _ hl).mono ?_; rintro e w' ⟨rfl, hw⟩; subst hw)
    | fail)
  obtain ⟨W0, hW0⟩ : ∃ W0, ((((w.alloc (.cells #[.pointer none] 23)).alloc (.cells (bs h) 30)).alloc (.cells #[.bool false] 4)).alloc (.cells #[.pointer none] 23)).alloc (.cells (bs h) 30) = W0 := ⟨_, rfl⟩
  obtain ⟨s0, k1, k2, k3, k4, k5, k6⟩ := boxes5 w _ h hl hW0
  rw [hW0]
  clear hW0 HR
  refine (wpIn_wide (n := 4)).1 ?_
  refine wpIn_rangeFunc_ownF (F := Fence.wide) rfl (by omega) (gf := 98) (lb := #[.pointer (some ⟨w.heap.size + 1 + 1 + 1 + 1, 0, none⟩), .pointer (some ⟨w.heap.size + 1 + 1 + 1, 0, none⟩)]) rfl trivial (enters_of Try.func98 (by kernel_rfl) rfl)
    (spots0_stops (4 - 1) (w.heap.size + 1 + 1 + 1 + 1) (w.heap.size + 1 + 1 + 1) W0.heap.size h W0 k3 k2 (by omega) (by omega) (Nat.le_refl _)) (fun h k => h.trans k) (Kb.put (Nat.le_refl _)) (Below.refl _ _) (fun _ => rfl)
    (fun pre W => HN0 w W)
    (fun _ _ _ => False)
    (HN0.own w W0.heap.size s0)
    (fun _ _ _ _ _ hs _ _ => hs)
    ⟨k1, k5, k6, k4, by omega⟩
    (fun x => { tmps := #[.pointer none, .agg (bs h), .pointer (some ⟨w.heap.size, 0, none⟩), .pointer (some ⟨w.heap.size + 1, 0, none⟩), .pointer (some ⟨w.heap.size + 1 + 1, 0, none⟩), .int .i64 (x.val : Int), .pointer none, .agg (bs h), .func (.func 98) #[] #[.pointer (some ⟨w.heap.size + 1 + 1 + 1 + 1, 0, none⟩), .pointer (some ⟨w.heap.size + 1 + 1 + 1, 0, none⟩)], .int .i64 (x.val : Int), undef, undef, undef, undef, undef, undef, undef, undef, undef], defers := [] }) ?assign ?body ?done ?stop
  case assign =>
    intro l x W K hK
    gi_wp2
    exact hK
  case body =>
    rintro l pre x W hI hlt
    exact absurd hlt (Nat.not_lt_zero _)
  case done =>
    rintro D ys W hD rfl hI hK
    have bx := hI.bx
    have rc := hI.rc
    have rf := hI.rf
    go_wp2
    have hK' := (KeepsOthers.setCell W ⟨w.heap.size + 2, 0, none⟩ (.bool false)).same D _ hK rfl
    refine ⟨by simp, .inl ⟨_, _, rfl, run_takeDeferred hK', ?_⟩⟩
    have hc5 := cell_kept (World.cell?_setCell_same' W ⟨w.heap.size + 2, 0, none⟩ (.bool false) (by rw [rc]; rfl)) (grownBy_putObj' _ D (.deferred none)) (fun r e => by cases e; exact ⟨_, hK', rfl⟩)
    refine ⟨.bool false, ?_, rfl, (hI.be.setCell (p := ⟨w.heap.size + 2, 0, none⟩) (by show w.heap.size ≤ w.heap.size + 2; omega) _).trans (belowK_b (w := w) (Nat.le_refl _) _ D _ _ (by omega) hK' rfl rfl)⟩
    simp [results, Try.f22, go_sem, hc5]
  case stop =>
    rintro D c pre W _ _ h _
    exact h.elim
end Go.Proofs.Ytdajeabhhkgibaa

namespace Go.Proofs.Ytdajeabhhkgibaa
open Go.RowKit Go.Shelf
set_option linter.unusedVariables false
set_option linter.unusedSimpArgs false
attribute [local go_sem] Oper.semAt_some

set_option maxRecDepth 100000 in
set_option maxHeartbeats 4000000 in
theorem appseq_nil (bh bf : Nat) (h : List UInt8) (w : World) (hH : HB w bh h) (hF : w.cell? ⟨bf, 0, none⟩ = some (.pointer none)) (l1 : bh < w.heap.size) :
    Calls Try.prog 100 #[.slice none 0 0, .func (.func 98) #[] #[.pointer (some ⟨bh, 0, none⟩), .pointer (some ⟨bf, 0, none⟩)]] w fun e w' => ∃ v, e = .returned v ∧ w'.ownsRow w.heap.size 3 1 v 0 [] ∧ Below w.heap.size w w' := by
  refine (callsIn_wide (n := 4)).1 ?_
  refine callsIn_of_wp_marks Try.func100 rfl trivial ?_ rfl
  simp only [Try.ntmps100, List.size_toArray, List.length_cons, List.length_nil, Nat.reduceAdd, Nat.reduceSub, Array.replicate_succ, Array.replicate_zero, List.push_toArray, List.append_toArray, List.nil_append, List.cons_append]
  refine wpIn_wide.2 ?_
  obtain ⟨i0, hi, hz0, hz1, hz2⟩ := info_parts info3x
  have l2 : bf < w.heap.size := World.block_lt_of_cell? _ _ hF
  go_wp2_with fail
  obtain ⟨W1, hW1⟩ : ∃ W1, w.alloc (.cells #[.slice none 0 0] 49) = W1 := ⟨_, rfl⟩
  have be1 : Below w.heap.size w W1 := by rw [← hW1]; exact (Below.refl _ _).alloc (Nat.le_refl _) _
  have bx1 : Boxed W1 w.heap.size 49 (.slice none 0 0) := by rw [← hW1]; exact Boxed.new w 49 _
  have sz1 : W1.heap.size = w.heap.size + 1 := by rw [← hW1]; simp
  rw [hW1]
  clear hW1
  have hH1 : HB W1 bh h := fun k hk => (be1.cell (p := ⟨bh, k, none⟩) l1).trans (hH k hk)
  have hF1 : W1.cell? ⟨bf, 0, none⟩ = some (.pointer none) := (be1.cell (p := ⟨bf, 0, none⟩) l2).trans hF
  refine (wpIn_wide (n := 4)).1 ?_
  refine wpIn_rangeFunc_ownF (F := Fence.wide) rfl (by omega) (gf := 98) (lb := #[.pointer (some ⟨bh, 0, none⟩), .pointer (some ⟨bf, 0, none⟩)]) rfl trivial (enters_of Try.func98 (by kernel_rfl) rfl)
    (spots0_stops (4 - 1) bh bf w.heap.size h W1 hH1 hF1 l1 l2 (by omega)) (fun h k => h.trans k) (Kb.put (by omega)) (Below.refl _ _) (fun _ => rfl)
    (fun pre W => (∃ v, Boxed W w.heap.size 49 v ∧ W.ownsRow w.heap.size 3 1 v pre.length (pre.map spV) ∧ True) ∧ Below w.heap.size w W)
    (fun _ _ _ => False)
    (OwnFrom.and ((holdsRow_own w.heap.size w.heap.size 49 3 1 (fun pre : List (Fin 2) => pre.length) (fun pre : List (Fin 2) => pre.map spV) (fun _ _ => True)).from _) (ownFrom_below (Nat.le_refl _) (by omega)))
    (fun _ _ _ _ _ hs _ _ => hs)
    ⟨⟨_, bx1, World.ownsRow_nil _ _ _ _, trivial⟩, be1⟩
    (fun x => { tmps := #[.slice none 0 0, .func (.func 98) #[] #[.pointer (some ⟨bh, 0, none⟩), .pointer (some ⟨bf, 0, none⟩)], .pointer (some ⟨w.heap.size, 0, none⟩), undef, .slice none 0 0, .int .i64 (x.val : Int), .func (.func 98) #[] #[.pointer (some ⟨bh, 0, none⟩), .pointer (some ⟨bf, 0, none⟩)], .int .i64 (x.val : Int), undef, undef, undef, undef, undef], defers := [] }) ?assign ?body ?done ?stop
  case assign =>
    intro l x W K hK
    gi_wp2
    exact hK
  case body =>
    rintro l pre x W _ hlt
    exact absurd hlt (Nat.not_lt_zero _)
  case done =>
    rintro D ys W hD rfl ⟨⟨v, hv, hrow, _⟩, hB⟩ hK
    have hc := hv.cell
    have HR := Hid.mk' hrow
    go_wp2
    refine ⟨by simp, .inl ⟨_, _, rfl, run_takeDeferred hK, ?_⟩⟩
    refine ⟨v, ?_, v, rfl, ownsRow_putObj HR.out _ hK rfl, hB.trans (belowK_b (w := w) (Nat.le_refl _) W D _ _ (by omega) hK rfl rfl)⟩
    simp [results, Try.f100, go_sem]
  case stop =>
    rintro D c pre W _ _ h _
    exact h.elim
set_option maxRecDepth 100000 in
theorem spotsF_nil (h : List UInt8) (w : World) (hl : h.length = 32) :
    Calls Try.prog 25 #[.pointer none, .agg (bs h)] w (SpPost 0 [] w) := by
  have HR : Hid ((w.alloc (.cells (bs h) 30)).rangeAt w.heap.size 0 (hcs h)) := range_box w h 30
  obtain ⟨W0, hW0⟩ : ∃ W0, ((w.alloc (.cells (bs h) 30)).alloc (.cells #[.pointer none] 23)).alloc (.cells (bs h) 30) = W0 := ⟨_, rfl⟩
  have hA : W0.heap.size = w.heap.size + 3 ∧ W0.cell? ⟨w.heap.size + 1, 0, none⟩ = some (.pointer none) ∧ HB W0 (w.heap.size + 2) h ∧ Below w.heap.size w W0 := by
    obtain ⟨w1, e1⟩ : ∃ x, w.alloc (.cells (bs h) 30) = x := ⟨_, rfl⟩
    rw [e1] at hW0
    obtain ⟨w2, e2⟩ : ∃ x, w1.alloc (.cells #[.pointer none] 23) = x := ⟨_, rfl⟩
    rw [e2] at hW0
    have s1 : w1.heap.size = w.heap.size + 1 := by rw [← e1]; simp
    have s2 : w2.heap.size = w1.heap.size + 1 := by rw [← e2]; simp
    have s3 : W0.heap.size = w2.heap.size + 1 := by rw [← hW0]; simp
    have b1 : Below w.heap.size w w1 := by rw [← e1]; exact (Below.refl _ _).alloc (Nat.le_refl _) _
    have b2 : Below w1.heap.size w1 w2 := by rw [← e2]; exact (Below.refl _ _).alloc (Nat.le_refl _) _
    have b3 : Below w2.heap.size w2 W0 := by rw [← hW0]; exact (Below.refl _ _).alloc (Nat.le_refl _) _
    have c2 : w2.cell? ⟨w1.heap.size, 0, none⟩ = some (.pointer none) := by rw [← e2]; exact (cell_of_row _ _ 0 _ _ _ (heap_alloc_new w1 _)).trans rfl
    refine ⟨by omega, ?_, ?_, b1.trans ((b2.trans (b3.mono (by omega))).mono (by omega))⟩
    · rw [show w.heap.size + 1 = w1.heap.size by omega]
      exact (b3.cell (p := ⟨w1.heap.size, 0, none⟩) (by show w1.heap.size < _; omega)).trans c2
    · rw [show w.heap.size + 2 = w2.heap.size by omega, ← hW0]
      exact hb_box w2 h hl 30
  obtain ⟨s0, k1, k2, k3⟩ := hA
  have HAP := Hid.mk' (appseq_nil (w.heap.size + 2) (w.heap.size + 1) h W0 k2 k1 (by omega))
  have HC : Hid (Calls Try.prog 50 #[.func (.func 98) #[] #[.pointer (some ⟨w.heap.size + 2, 0, none⟩), .pointer (some ⟨w.heap.size + 1, 0, none⟩)]] W0 (SpPost 0 [] w)) := by
    go_enter Try.func50, Try.ntmps50
    go_wp2_with (first
      | (go_at_call 100; refine HAP.out.mono ?_; rintro e W5 ⟨v, rfl, ow, be⟩; have OW := Hid.mk' ow; have BE := Hid.mk' be; clear ow be)
      | fail)
    go_ret
    obtain ⟨a, c, rfl, hc⟩ := own_cells OW.out rfl
    exact ⟨a, c, rfl, hc, k3.trans (BE.out.mono k3.size)⟩
  clear HAP
  have HW0 := Hid.mk' hW0
  clear hW0
  go_enter Try.func25, Try.ntmps25
  go_wp2_with (first
    | (with_reducible refine at_ld ?_; refine wpList_ld (.tmp 3) rfl rfl w.heap.size 0 rfl h hl HR.out ?_)
    | (go_at_call 42; refine (spots_any _ h _ hl).mono ?_; rintro e w' ⟨rfl, hw⟩; have hw2 := hw.trans HW0.out; clear hw; obtain rfl := hw2.symm; clear hw2)
    | (go_at_call 50; refine HC.out.mono ?_; rintro e W5 ⟨a, c, rfl, hc, be⟩; have HCC := Hid.mk' hc; have BE := Hid.mk' be; clear hc be)
    | fail)
  go_ret
  exact ⟨a, c, rfl, HCC.out, BE.out⟩
end Go.Proofs.Ytdajeabhhkgibaa

namespace Go.Proofs.Ytdajeabhhkgibaa
open Go.RowKit
set_option linter.unusedVariables false
set_option linter.unusedSimpArgs false

set_option maxRecDepth 100000 in
theorem rspots_nil (h : List UInt8) (w : World) (hl : h.length = 32) : Calls Try.prog 26 #[.pointer none, .agg (bs h)] w fun e w' => e = .returned (.slice none 0 0) ∧ Below w.heap.size w w' := by
  have B0 : Hid (Below w.heap.size w (w.alloc (.cells (bs h) 30))) := (Below.refl _ _).alloc (Nat.le_refl _) _
  go_enter Try.func26, Try.ntmps26
  go_wp2
  go_ret
  exact ⟨rfl, B0.out⟩
set_option maxRecDepth 100000 in
theorem radd_nil (h : List UInt8) (w : World) (hl : h.length = 32) : Calls Try.prog 13 #[.pointer none, .agg (bs h)] w fun e w' => e = .returned (.tuple #[]) ∧ Below w.heap.size w w' := by
  have HR : Hid ((w.alloc (.cells (bs h) 30)).rangeAt w.heap.size 0 (hcs h)) := range_box w h 30
  have B0 : Hid (Below w.heap.size w (w.alloc (.cells (bs h) 30))) := (Below.refl _ _).alloc (Nat.le_refl _) _
  have C26 := Hid.mk' (rspots_nil h (w.alloc (.cells (bs h) 30)) hl)
  go_enter Try.func13, Try.ntmps13
  go_wp2_with (first
    | (with_reducible refine at_ld ?_; refine wpList_ld (.tmp 3) rfl rfl w.heap.size 0 rfl h hl HR.out ?_)
    | (go_at_call 26; refine C26.out.mono ?_; rintro e W1 ⟨rfl, be⟩; have BE := Hid.mk' be; clear be)
    | fail)
  have BW : Hid (Below w.heap.size w W1) := B0.out.trans (BE.out.mono B0.out.size)
  clear BE B0 C26 HR
  go_loopw [5] (fun i wr => i = .int .i64 0 ∧ Hid (Below w.heap.size w wr)) (fun _ _ => 0)
  case atStart => exact ⟨rfl, BW⟩
  case round =>
    obtain ⟨rfl, HB⟩ := hrel
    go_wp2
    go_end0
    exact ⟨rfl, HB.out⟩
set_option maxRecDepth 100000 in
theorem rhas_nil (h : List UInt8) (w : World) (hl : h.length = 32) : Calls Try.prog 23 #[.pointer none, .agg (bs h)] w fun e w' => e = .returned (.bool false) ∧ Below w.heap.size w w' := by
  have HR : Hid ((w.alloc (.cells (bs h) 30)).rangeAt w.heap.size 0 (hcs h)) := range_box w h 30
  have B0 : Hid (Below w.heap.size w (w.alloc (.cells (bs h) 30))) := (Below.refl _ _).alloc (Nat.le_refl _) _
  have C26 := Hid.mk' (rspots_nil h (w.alloc (.cells (bs h) 30)) hl)
  go_enter Try.func23, Try.ntmps23
  go_wp2_with (first
    | (with_reducible refine at_ld ?_; refine wpList_ld (.tmp 3) rfl rfl w.heap.size 0 rfl h hl HR.out ?_)
    | (go_at_call 26; refine C26.out.mono ?_; rintro e W1 ⟨rfl, be⟩; have BE := Hid.mk' be; clear be)
    | fail)
  have BW : Hid (Below w.heap.size w W1) := B0.out.trans (BE.out.mono B0.out.size)
  clear BE B0 C26 HR
  go_loopw [6] (fun i wr => i = .int .i64 0 ∧ Hid (Below w.heap.size w wr)) (fun _ _ => 0)
  case atStart => exact ⟨rfl, BW⟩
  case round =>
    obtain ⟨rfl, HB⟩ := hrel
    go_wp2
    go_ret
    exact ⟨rfl, HB.out⟩
end Go.Proofs.Ytdajeabhhkgibaa

namespace Go.Proofs.Ytdajeabhhkgibaa
open Go.RowKit
set_option linter.unusedVariables false
set_option linter.unusedSimpArgs false

set_option maxRecDepth 100000 in
set_option maxHeartbeats 4000000 in
theorem joinW_self (g m : Nat) (ws : Nat → Nat) (w : World) (h : WR w g m ws) (hw : ∀ i, ws i < 18446744073709551616) (hm : m ≤ 1024) :
    Calls Try.prog 45 #[.slice (some ⟨g, 0, none⟩) m m, .slice (some ⟨g, 0, none⟩) m m] w fun e w' => e = .returned (.tuple #[]) ∧ WR w' g m ws ∧ w.grownBy w' (some g) := by
  have H0 := Hid.mk' h
  have HW1 := Hid.mk' hw
  clear h hw
  go_enter Try.func45, Try.ntmps45
  go_wp2
  go_loopw [8] (fun i wr => ∃ k : Nat, k ≤ m ∧ i = .int .i64 (k : Int) ∧ Hid (WR wr g m ws) ∧ Hid (w.grownBy wr (some g))) (fun i _ => m - (intOf i).toNat)
  case atStart => exact ⟨0, by omega, rfl, H0, grown_refl _ _⟩
  case round =>
    obtain ⟨k, hk, rfl, HR, HG⟩ := hrel
    clear H0
    by_cases hkm : k < m
    · have hkm' : (k : Int) < (m : Int) := by omega
      have ix := fun wx => index95 g m m k wx hkm
      have c1 : wr.cell? ⟨g, k, none⟩ = some (.int .u64 (ws k : Int)) := HR.out.cell hkm
      have f1 : wr.frozen? ⟨g, k, none⟩ = false := HR.out.frozen k
      have ho : bits .or .u64 (ws k : Int) (ws k : Int) = (ws k : Int) := by have := bits_or_u64_nat (ws k) (ws k) (HW1.out k) (HW1.out k); rw [Nat.or_self] at this; exact this
      have hor := HW1.out k
      have HN : Hid (WR (wr.setCell ⟨g, k, none⟩ (.int .u64 (ws k : Int))) g m ws) := (HR.out.set k _).congr (fun i _ => by
        by_cases e : i = k
        · subst e
          rw [if_pos rfl]
        · rw [if_neg e])
      have HGN : Hid (w.grownBy (wr.setCell ⟨g, k, none⟩ (.int .u64 (ws k : Int))) (some g)) := grown_trans HG.out (grown_set' _ _ _ _)
      have HO := Hid.mk' ho
      rw [← ho] at HN HGN
      clear ho
      generalize ws k = x at *
      go_wp2
      exact ⟨⟨k + 1, by omega, by go_num, HN, HGN⟩, by simp [intOf]; omega⟩
    · obtain rfl : k = m := by omega
      have hkm' : ¬ (k : Int) < (k : Int) := by omega
      go_wp2
      go_end0
      exact ⟨rfl, HR.out, HG.out⟩
set_option maxRecDepth 100000 in
set_option maxHeartbeats 4000000 in
/-- Join with itself. -/
theorem join_self (q g bits probes : Nat) (ws : Nat → Nat) (w : World) (h : FW w q g bits probes ws) (hw : ∀ i, ws i < 18446744073709551616) (hb : bits ≤ 65536) :
    Calls Try.prog 14 #[.pointer (some ⟨q, 0, none⟩), .pointer (some ⟨q, 0, none⟩)] w fun e w' => e = .returned (.int .i64 0) ∧ FW w' q g bits probes ws ∧ w.grownBy w' (some g) := by
  have HS := Hid.mk' (shape_any q g bits probes q g bits probes w h.fc h.fc)
  have hdd : decide (bits = bits ∧ probes = probes) = true := by simp
  rw [hdd] at HS
  have hq : q ≠ g := fun e => h.fc.ne e.symm
  have HJ := Hid.mk' (joinW_self g ((bits + 63) / 64) ws w.drew h.wr hw (by omega))
  have HF : Hid (∀ w', w.drew.grownBy w' (some g) → WR w' g ((bits + 63) / 64) ws → FW w' q g bits probes ws ∧ w.grownBy w' (some g)) := fun w' hg hr => ⟨⟨h.fc.of (hg.block q h.fc.lt (fun e => hq (by cases e; rfl))), hr⟩, ⟨hg.os, hg.tape, hg.output, hg.size, hg.block⟩⟩
  have HC : Hid (∀ w', w.drew.grownBy w' (some g) → w'.cell? ⟨q, 2, none⟩ = some (.slice (some ⟨g, 0, none⟩) ((bits + 63) / 64) ((bits + 63) / 64))) := fun w' hg => (World.cell?_of_block (w := w) (a := ⟨q, 2, none⟩) (hg.block q h.fc.lt (fun e => hq (by cases e; rfl)))).trans h.fc.c2
  have c1 := h.fc.c2
  clear h hw hdd
  generalize (bits + 63) / 64 = m at *
  go_enter Try.func14, Try.ntmps14
  go_wp2_with (first
    | (go_at_call 44; refine HS.out.mono ?_; rintro e W ⟨rfl, hw⟩; obtain rfl := hw.symm)
    | fail)
  go_region_held3 (fun w' => w'.cell? ⟨q, 2, none⟩ = some (.slice (some ⟨g, 0, none⟩) m m)) (first | assumption | go_keep) (first
    | (go_at_call 45; refine HJ.out.mono ?_; rintro e W3 ⟨rfl, wr3, gr3⟩; have HF3 := Hid.mk' (HF.out _ gr3 wr3); have s1 := HC.out _ gr3; clear wr3 gr3)
    | fail)
  all_goals go_wp2
  all_goals (go_ret; exact ⟨rfl, HF3.out.1, HF3.out.2⟩)
set_option maxRecDepth 100000 in
set_option maxHeartbeats 2000000 in
/-- The document's New that refuses, of any numbers. -/
theorem rnew_noI (b p : Int) (w : World) (hb0 : -9223372036854775808 ≤ b) (hb1 : b ≤ 9223372036854775807) (hp0 : -9223372036854775808 ≤ p) (hp1 : p ≤ 9223372036854775807) (hk : ¬ (okBi b = true ∧ okP p = true)) :
    Calls Try.prog 19 #[.int .i64 b, .int .i64 p] w fun e w' => e = .returned (.tuple #[.pointer none, .int .i64 2]) ∧ w' = w := by
  have hk' : ¬ ((8 ≤ b ∧ b ≤ 65536 ∧ b % 8 = 0) ∧ (1 ≤ p ∧ p ≤ 16)) := fun h => hk ⟨decide_eq_true h.1, decide_eq_true h.2⟩
  clear hk
  by_cases h8 : b < 8
  · clear hk'
    go_enter Try.func19, Try.ntmps19
    go_wp2
    go_ret2
    exact ⟨rfl, rfl⟩
  · by_cases h9 : 65536 < b
    · clear hk'
      go_enter Try.func19, Try.ntmps19
      go_wp2
      go_ret2
      exact ⟨rfl, rfl⟩
    · have e3 : b.tmod 8 = b % 8 := Int.tmod_eq_emod_of_nonneg (by omega)
      by_cases hm : b % 8 = 0
      · rw [hm] at e3
        by_cases hp : p < 1
        · clear hk'
          go_enter Try.func19, Try.ntmps19
          go_wp2
          go_ret2
          exact ⟨rfl, rfl⟩
        · have e5 : 16 < p := by omega
          clear hk'
          go_enter Try.func19, Try.ntmps19
          go_wp2
          go_ret2
          exact ⟨rfl, rfl⟩
      · have e5 : (b % 8 == 0) = false := by simp [hm]
        have e6 : (b % 8 != 0) = true := by simp [hm]
        clear hk' hm
        go_enter Try.func19, Try.ntmps19
        go_wp2
        go_ret2
        exact ⟨rfl, rfl⟩
end Go.Proofs.Ytdajeabhhkgibaa

namespace Go.Proofs.Ytdajeabhhkgibaa
open Go.RowKit
set_option linter.unusedVariables false

/-- A world in which all that was there in 'w' is as it was. -/
structure ExtT (w : World) where
  wd : World
  ok : Below w.heap.size w wd

theorem ExtT.some (w : World) : Nonempty (ExtT w) := ⟨⟨w, Below.refl _ _⟩⟩
section
variable {P : Program}
/-- A region that draws, whose operations and callees turn nothing that was there: one walk. -/
theorem wp_region_ext {id : Nat} {Q : Exit → Act → World → Prop} {a : Act} {w : World} {l : List Oper} (hm : P.follows .mixedOrders = true) (hB : Region.lexB .any l.toArray = true)
    (h : wpQuiet P l.toArray (fun w' => ∃ e : ExtT w, w' = e.wd) (fun a' => ∀ w', (∃ e : ExtT w, w' = e.wd) → Q .normal a' w') l a) : (Code.region id l.toArray true).wp P Q a w :=
  wp_region_quiet (C := fun w' => ∃ e : ExtT w, w' = e.wd) hm hB ⟨⟨{ w with drawn := w.drawn + 1 }, (Below.refl _ _).drew⟩, rfl⟩ (by simpa using h)

theorem ext_of {f : FuncId} {args : Array Value} {w : World} {e : ExtT w} {v : Value}
    (h : Calls P f args e.wd fun x w' => x = .returned v ∧ Below e.wd.heap.size e.wd w') : Calls P f args e.wd fun x w'' => x = .returned v ∧ ∃ e2 : ExtT w, w'' = e2.wd :=
  h.mono fun _ w'' ⟨he, hb⟩ => ⟨he, ⟨w'', e.ok.trans (hb.mono e.ok.size)⟩, rfl⟩
theorem ext_of_drew {f : FuncId} {args : Array Value} {w : World} {e : ExtT w} {v : Value}
    (h : Calls P f args e.wd fun x w' => x = .returned v ∧ ∃ m, w' = e.wd.drewN m) : Calls P f args e.wd fun x w'' => x = .returned v ∧ ∃ e2 : ExtT w, w'' = e2.wd :=
  h.mono fun _ w'' ⟨he, m, hm⟩ => ⟨he, ⟨w'', by rw [hm]; exact ⟨e.ok.os, e.ok.tape, e.ok.output, e.ok.size, e.ok.block⟩⟩, rfl⟩
theorem ext_of_same {f : FuncId} {args : Array Value} {w : World} {e : ExtT w} {v : Value}
    (h : Calls P f args e.wd fun x w' => x = .returned v ∧ w' = e.wd) : Calls P f args e.wd fun x w'' => x = .returned v ∧ ∃ e2 : ExtT w, w'' = e2.wd :=
  h.mono fun _ w'' ⟨he, hm⟩ => ⟨he, e, hm⟩
theorem ExtT.range {w : World} (e : ExtT w) {b o : Nat} {cs : List Value} (h : w.rangeAt b o cs) (h0 : 0 < cs.length) : e.wd.rangeAt b o cs := fun j v hv => by
  rw [e.ok.cell (p := ⟨b, o + j, none⟩) (World.block_lt_of_cell? w ⟨b, o + 0, none⟩ (h 0 _ (List.getElem?_eq_getElem h0)))]
  exact h j v hv
end
end Go.Proofs.Ytdajeabhhkgibaa

namespace Go.Proofs.Ytdajeabhhkgibaa
open Go.RowKit
set_option linter.unusedVariables false
set_option linter.unusedSimpArgs false

/-- A slice of bytes that lies in memory. -/
def Byt (w : World) (a : Option Addr) (l : List UInt8) : Prop :=
  l = [] ∨ ∃ b off, a = some ⟨b, off, none⟩ ∧ ∀ j, j < l.length → w.cell? ⟨b, off + j, none⟩ = some (.int .u8 (at8 l j))
def byC (x : List UInt8) : List Value := x.map (fun b => Value.int .u8 (b.toNat : Int))
theorem byC_len (x : List UInt8) : (byC x).length = x.length := by simp [byC]
theorem byC_get (x : List UInt8) (j : Nat) (v : Value) (h : (byC x)[j]? = some v) : j < x.length ∧ v = .int .u8 (at8 x j) := by
  have hj : j < x.length := by have := (List.getElem?_eq_some_iff.1 h).1; simpa [byC] using this
  refine ⟨hj, ?_⟩
  simp [byC, List.getElem?_eq_getElem hj] at h
  simp [at8, List.getElem?_eq_getElem hj, h]
theorem byC_one (x : List UInt8) : ∀ v ∈ byC x, v.oneCell' = true := by
  intro v hv
  simp [byC] at hv
  obtain ⟨b, _, rfl⟩ := hv
  rfl
theorem hsz5 : (Try.prog.info? 5).map (·.size) = some 1 := by kernel_rfl
def lenOf : Value → Nat | .slice _ n _ => n | _ => 0
theorem byt_below {w w' : World} {a : Option Addr} {l : List UInt8} (h : Byt w a l) (hb : Below w.heap.size w w') : Byt w' a l := by
  rcases h with rfl | ⟨b, off, rfl, hc⟩
  · exact .inl rfl
  · exact .inr ⟨b, off, rfl, fun j hj => (hb.cell (p := ⟨b, off + j, none⟩) (block_lt_of_cell (hc j hj))).trans (hc j hj)⟩
theorem byt_lt {w : World} {a : Option Addr} {l : List UInt8} (h : Byt w a l) (hl : 0 < l.length) {b off : Nat} (e : a = some ⟨b, off, none⟩) : b < w.heap.size := by
  rcases h with rfl | ⟨b', off', rfl, hc⟩
  · simp at hl
  · cases e; exact block_lt_of_cell (hc 0 hl)

/-- A slice of the call's own that holds bytes. -/
def OwnB (w : World) (base : Nat) (v : Value) (L : List UInt8) : Prop := w.ownsRow base 5 1 v L.length (byC L)

theorem ownB_nil (w : World) (base : Nat) : OwnB w base (.slice none 0 0) [] := World.ownsRow_nil w base 5 1

theorem OwnB.open {w : World} {base : Nat} {v : Value} {L : List UInt8} (h : OwnB w base v L) :
    ∃ a cap, v = .slice a L.length cap ∧ L.length ≤ cap ∧ Byt w a L ∧ (∀ b off, a = some ⟨b, off, none⟩ → base ≤ b ∧ b < w.heap.size) := by
  rcases h.2 with ⟨rfl, hn⟩ | ⟨g, cap, cur, rfl, hbg, hg, hnc, hcm, hcs, htake⟩
  · obtain rfl : L = [] := List.eq_nil_of_length_eq_zero hn
    exact ⟨none, 0, rfl, Nat.le_refl _, .inl rfl, fun _ _ e => by cases e⟩
  · refine ⟨some ⟨g, 0, none⟩, cap, rfl, hnc, .inr ⟨g, 0, rfl, fun j hj => ?_⟩, fun b off e => by cases e; exact ⟨hbg, (Array.getElem?_eq_some_iff.1 hg).1⟩⟩
    rw [Nat.zero_add, cell_of_row w g j cur 5 (0, 0) hg]
    have e : (byC L)[j]? = some (.int .u8 (at8 L j)) := by simp [byC, at8, List.getElem?_eq_getElem hj]
    rw [← htake, List.getElem?_take] at e
    split at e
    · simpa using e
    · cases e
/-- .. that is not empty. -/
theorem OwnB.open1 {w : World} {base : Nat} {v : Value} {L : List UInt8} (h : OwnB w base v L) (h0 : 0 < L.length) :
    ∃ g cap, v = .slice (some ⟨g, 0, none⟩) L.length cap ∧ L.length ≤ cap ∧ (∀ j, j < L.length → w.cell? ⟨g, j, none⟩ = some (.int .u8 (at8 L j))) ∧ base ≤ g ∧ g < w.heap.size := by
  rcases h.2 with ⟨rfl, hn⟩ | ⟨g, cap, cur, rfl, hbg, hg, hnc, hcm, hcs, htake⟩
  · omega
  · refine ⟨g, cap, rfl, hnc, fun j hj => ?_, hbg, (Array.getElem?_eq_some_iff.1 hg).1⟩
    rw [cell_of_row w g j cur 5 (0, 0) hg]
    have e : (byC L)[j]? = some (.int .u8 (at8 L j)) := by simp [byC, at8, List.getElem?_eq_getElem hj]
    rw [← htake, List.getElem?_take] at e
    split at e
    · simpa using e
    · cases e
theorem OwnB.below {w w' : World} {base : Nat} {v : Value} {L : List UInt8} (h : OwnB w base v L) (hb : Below w.heap.size w w') : OwnB w' base v L := by
  refine ⟨h.1, ?_⟩
  rcases h.2 with hn | ⟨g, cap, cur, rfl, hbg, hg, rest⟩
  · exact .inl hn
  · exact .inr ⟨g, cap, cur, rfl, hbg, by rw [hb.block g (Array.getElem?_eq_some_iff.1 hg).1]; exact hg, rest⟩
theorem info5' : ∃ i, Try.prog.info? 5 = some i ∧ i.zero = some (.int .u8 0) ∧ i.size = 1 ∧ i.bytes = 1 := by
  obtain ⟨i, h1, h2, h3, h4⟩ := info_parts Try.info5
  exact ⟨i, h1, h2, h3, h4⟩

theorem run_app (w : World) (base : Nat) (ty : TypeId) (v : Value) (L : List UInt8) (a : Option Addr) (M : List UInt8) (c : Nat) (hown : OwnB w base v L) (hb : Byt w a M)
    (h : L.length + M.length ≤ 140737488355328) (hbase : base ≤ w.heap.size) :
    ∃ v' w', (Builtin.append_ #[53, 53] ty #[v, .slice a M.length c]).run Try.prog w = .ok v' w' ∧ OwnB w' base v' (L ++ M) ∧ w.grownBy w' v.ownBlock := by
  obtain ⟨i, hi, hz, hs, hby⟩ := info5'
  cases a with
  | some ad =>
    have hnews : ∀ j u, (byC M)[j]? = some u → w.cell? (ad.add j) = some u := fun j u hj => by
      obtain ⟨h1, rfl⟩ := byC_get _ j u hj
      rcases hb with rfl | ⟨b, off, e, hc⟩
      · simp at h1
      · cases e
        rw [Addr.add_mid]
        exact hc j h1
    obtain ⟨v', w', hr, h2, h3, _⟩ := run_append_own (P := Try.prog) w base 53 ty 5 i (.int .u8 0) 1 1 Try.underlying53 hi hz hs hby rfl (by decide) v L.length (byC L) hown ad M.length c (byC M) (by rw [byC_len]; omega) hnews (byC_one _) (by unfold maxLen; omega) (by omega) hbase
    refine ⟨v', w', hr, ?_, h3⟩
    unfold OwnB
    rw [List.length_append, show byC (L ++ M) = byC L ++ byC M by simp [byC]]
    exact h2
  | none =>
    obtain rfl : M = [] := by
      rcases hb with rfl | ⟨b, off, e, _⟩
      · rfl
      · cases e
    rcases hown.2 with ⟨rfl, hn⟩ | ⟨g, cap, cur, rfl, hbg, hg, hnc, rest⟩
    · refine ⟨.slice none 0 0, w, ?_, by rw [List.append_nil]; exact hown, ⟨rfl, rfl, rfl, Nat.le_refl _, fun _ _ _ => rfl⟩⟩
      simp [Builtin.append_, run_underlying Try.underlying53, sizeOf, typeInfo, hi, Builtin.lenOf, Builtin.firstCells, loadCells, loadCellsFrom]
    · refine ⟨.slice (some ⟨g, 0, none⟩) L.length cap, w, ?_, by rw [List.append_nil]; exact hown, ⟨rfl, rfl, rfl, Nat.le_refl _, fun _ _ _ => rfl⟩⟩
      simp [Builtin.append_, run_underlying Try.underlying53, sizeOf, typeInfo, hi, Builtin.lenOf, Builtin.firstCells, hnc, storeCells]

theorem wpList_app {ops : Array Oper} {rest : List Oper} {o : Oper} {a : Act} {w : World} {Q : Exit → Act → World → Prop} (hgd : o.guard = none) (s x : Operand)
    (ho : o.op = .call { callee := .builtin .append, args := #[s, x], argTypes := #[53, 53] }) (base : Nat) (v : Value) (L : List UInt8) (hs : a.eval s = v) (hown : OwnB w base v L)
    (aa : Option Addr) (m c : Nat) (M : List UInt8) (hx : a.eval x = .slice aa m c) (hm : M.length = m) (hb : Byt w aa M) (hlen : L.length + M.length ≤ 140737488355328) (hbase : base ≤ w.heap.size)
    (h : ∀ v' w', OwnB w' base v' (L ++ M) → w.grownBy w' v.ownBlock → wpList Try.prog ops Q rest (a.put o.dst v') w') : wpList Try.prog ops Q (o :: rest) a w :=
  wpList_plain hgd fun _ hK => by
    subst hm
    obtain ⟨v', w', hr, h2, h3⟩ := run_app w base o.type v L aa M c hown hb hlen hbase
    unfold Oper.wp execOp
    simp only [ho, resolve, invoke, builtin, Sem.run_bind, Sem.run_pure, Result.andThen_ok, List.map_toArray, List.map_cons, List.map_nil, hs, hx, hr]
    exact hK _ _ (h v' w' h2 h3)
theorem byt_one (w : World) (b : UInt8) (t : TypeId) : Byt (w.alloc (.cells #[.int .u8 (b.toNat : Int)] t)) (some ⟨w.heap.size, 0, none⟩) [b] :=
  .inr ⟨w.heap.size, 0, rfl, fun j hj => by
    obtain rfl : j = 0 := by simp at hj; omega
    rw [cell_of_row _ w.heap.size 0 _ _ _ (heap_alloc_new _ _)]
    rfl⟩

/-- append onto an owned row, as one step of a region that draws. -/
theorem step_app {ops : Array Oper} {o : Oper} {a : Act} {w : World} {K : Act → World → Prop} {Q : Exit → Act → World → Prop} {E : Prop} (hgd : o.guard = none) (s x : Operand)
    (ho : o.op = .call { callee := .builtin .append, args := #[s, x], argTypes := #[53, 53] }) (base : Nat) (v : Value) (L : List UInt8) (hs : a.eval s = v) (hown : OwnB w base v L)
    (aa : Option Addr) (m c : Nat) (M : List UInt8) (hx : a.eval x = .slice aa m c) (hm : M.length = m) (hb : Byt w aa M) (hlen : L.length + M.length ≤ 140737488355328) (hbase : base ≤ w.heap.size)
    (h : ∀ v' w', OwnB w' base v' (L ++ M) → w.grownBy w' v.ownBlock → K (a.put o.dst v') w') : if Region.wanted o (yielded ops a.tmps) = true then Oper.wp Try.prog o a w K Q else E := by
  have hw : Region.wanted o (yielded ops a.tmps) = true := by simp [Region.wanted, hgd]
  rw [if_pos hw]
  subst hm
  obtain ⟨v', w', hr, h2, h3⟩ := run_app w base o.type v L aa M c hown hb hlen hbase
  unfold Oper.wp execOp
  simp only [ho, resolve, invoke, builtin, Sem.run_bind, Sem.run_pure, Result.andThen_ok, List.map_toArray, List.map_cons, List.map_nil, hs, hx, hr]
  exact h v' w' h2 h3

end Go.Proofs.Ytdajeabhhkgibaa

namespace Go.Proofs.Ytdajeabhhkgibaa
open Go.RowKit
set_option linter.unusedVariables false
set_option linter.unusedSimpArgs false

/-- Which of two rows of bytes comes first. -/
def cmpL : List UInt8 → List UInt8 → Int
  | x :: a, y :: b => if x.toNat < y.toNat then -1 else if y.toNat < x.toNat then 1 else cmpL a b
  | _, _ => 0
theorem cmpL_at : ∀ (a b : List UInt8) (k : Nat), k < a.length → k < b.length → (∀ j, j < k → at8 a j = at8 b j) → (at8 a k < at8 b k → cmpL a b = -1) ∧ (at8 b k < at8 a k → cmpL a b = 1)
  | x :: a, y :: b, 0, _, _, _ => by
    simp only [at8_zero, cmpL]
    constructor
    · intro h; rw [if_pos (by omega)]
    · intro h; rw [if_neg (by omega), if_pos (by omega)]
  | x :: a, y :: b, k + 1, h1, h2, h3 => by
    have e := h3 0 (by omega)
    simp only [at8_zero] at e
    simp only [at8_succ, cmpL]
    rw [if_neg (by omega), if_neg (by omega)]
    exact cmpL_at a b k (by simpa using h1) (by simpa using h2) (fun j hj => by have := h3 (j + 1) (by omega); simpa [at8_succ] using this)
  | [], _, k, h1, _, _ => by simp at h1
  | _ :: _, [], k, _, h2, _ => by simp at h2
theorem cmpL_same (a : List UInt8) : cmpL a a = 0 := by
  induction a with
  | nil => rfl
  | cons x a ih => simp only [cmpL]; rw [if_neg (by omega), if_neg (by omega)]; exact ih

theorem cmpL_lib : ∀ (a b : List UInt8), a.length = b.length → cmpL a b = Lib.compareBytes a b
  | [], [], _ => rfl
  | [], _ :: _, h => by simp at h
  | _ :: _, [], h => by simp at h
  | x :: a, y :: b, h => by
    simp only [cmpL, Lib.compareBytes, UInt8.lt_iff_toNat_lt]
    rw [cmpL_lib a b (by simpa using h)]
theorem load_row (w : World) (g : Nat) (a : List UInt8) (fr : Nat × Nat) (hg : w.heap[g]? = some (.cells (bs a) 30 fr)) : (Extern.Bytes.bytesOf (.slice (some ⟨g, 0, none⟩) a.length 32)).run Try.prog w = .ok ⟨a.toArray⟩ w := by
  show (Extern.Bytes.loadBytes ⟨g, 0, none⟩ a.length .empty).run Try.prog w = _
  have h := Lib.run_loadBytesX (P := Try.prog) w (a.map (fun b => (b.toNat : Int))) ⟨g, 0, none⟩ .empty (fun j x hx => by
    have hj : j < a.length := by have := (List.getElem?_eq_some_iff.1 hx).1; simpa using this
    have e : (⟨g, 0, none⟩ : Addr).add j = ⟨g, j, none⟩ := by simpa using Addr.add_mid g 0 j
    rw [e, cell_of_row w g j _ _ _ hg, bs_get a j hj]
    simp [List.getElem?_eq_getElem hj] at hx
    simp [at8, List.getElem?_eq_getElem hj, hx])
  rw [List.length_map] at h
  rw [h]
  congr 1
  apply ByteArray.ext
  have e2 : Lib.bytesOf (a.map fun b => (b.toNat : Int)) = a := by
    simp only [Lib.bytesOf, List.map_map]
    exact (List.map_congr_left (fun b _ => by simp)).trans (List.map_id a)
  rw [e2]
  simp
end Go.Proofs.Ytdajeabhhkgibaa

namespace Go.Proofs.Ytdajeabhhkgibaa
open Go.RowKit
set_option linter.unusedVariables false
set_option linter.unusedSimpArgs false

/-- Two rows of 32 bytes have the same digits up to number n. -/
def Agree (a b : List UInt8) (n : Nat) : Prop := ∀ j, j < n → dig a j = dig b j
theorem Agree.mono {a b : List UInt8} {n m : Nat} (h : Agree a b n) (hm : m ≤ n) : Agree a b m := fun j hj => h j (by omega)
theorem Agree.symm {a b : List UInt8} {n : Nat} (h : Agree a b n) : Agree b a n := fun j hj => (h j hj).symm
theorem Agree.trans {a b c : List UInt8} {n : Nat} (h : Agree a b n) (k : Agree b c n) : Agree a c n := fun j hj => (h j hj).trans (k j hj)
theorem agree_zero (a b : List UInt8) : Agree a b 0 := fun j hj => by omega

theorem dig_even (h : List UInt8) (i : Nat) : dig h (2 * i) = at8 h i / 16 := by unfold dig; rw [if_pos (by omega), show 2 * i / 2 = i by omega]
theorem dig_odd (h : List UInt8) (i : Nat) : dig h (2 * i + 1) = at8 h i % 16 := by unfold dig; rw [if_neg (by omega), show (2 * i + 1) / 2 = i by omega]
theorem at8_dig (h : List UInt8) (i : Nat) : at8 h i = dig h (2 * i) * 16 + dig h (2 * i + 1) := by rw [dig_even, dig_odd]; have := at8_lo h i; omega

theorem agree_all {a b : List UInt8} (ha : a.length = 32) (hb : b.length = 32) (h : Agree a b 64) : a = b :=
  at8_ext 32 ha hb fun i hi => by rw [at8_dig, at8_dig, h (2 * i) (by omega), h (2 * i + 1) (by omega)]

/-- How many of the first n digits, counted from number k on, agree till one parts. -/
def cmF (a b : List UInt8) : Nat → Nat → Nat
  | 0, k => k
  | n + 1, k => if dig a k = dig b k then cmF a b n (k + 1) else k
/-- With how many digits both begin. -/
def cm (a b : List UInt8) : Nat := cmF a b 64 0
theorem cmF_spec (a b : List UInt8) : ∀ n k, Agree a b k → k ≤ cmF a b n k ∧ cmF a b n k ≤ k + n ∧ Agree a b (cmF a b n k) ∧ (cmF a b n k < k + n → dig a (cmF a b n k) ≠ dig b (cmF a b n k))
  | 0, k, h => ⟨Nat.le_refl _, by simp [cmF], h, by simp [cmF]⟩
  | n + 1, k, h => by
    unfold cmF
    split
    · rename_i e
      have h' : Agree a b (k + 1) := fun j hj => by
        by_cases ej : j = k
        · subst ej; exact e
        · exact h j (by omega)
      obtain ⟨h1, h2, h3, h4⟩ := cmF_spec a b n (k + 1) h'
      exact ⟨by omega, by omega, h3, fun hh => h4 (by omega)⟩
    · rename_i e
      exact ⟨Nat.le_refl _, by omega, h, fun _ => e⟩
theorem cm_le (a b : List UInt8) : cm a b ≤ 64 := by have := (cmF_spec a b 64 0 (agree_zero a b)).2.1; unfold cm; omega
theorem cm_agree (a b : List UInt8) : Agree a b (cm a b) := (cmF_spec a b 64 0 (agree_zero a b)).2.2.1
theorem cm_parts (a b : List UInt8) (h : cm a b < 64) : dig a (cm a b) ≠ dig b (cm a b) := (cmF_spec a b 64 0 (agree_zero a b)).2.2.2 (by unfold cm at h; omega)
theorem cm_eq {a b : List UInt8} {n : Nat} (hn : n ≤ 64) (h : Agree a b n) (hp : n < 64 → dig a n ≠ dig b n) : cm a b = n := by
  by_cases h1 : cm a b < n
  · exact absurd (h _ h1) (cm_parts a b (by omega))
  · by_cases h2 : n < cm a b
    · exact absurd (cm_agree a b n h2) (hp (by have := cm_le a b; omega))
    · omega
theorem le_cm {a b : List UInt8} {n : Nat} (hn : n ≤ 64) : n ≤ cm a b ↔ Agree a b n := by
  constructor
  · intro h; exact (cm_agree a b).mono h
  · intro h
    by_cases h1 : cm a b < n
    · exact absurd (h _ h1) (cm_parts a b (by omega))
    · omega
theorem cm_lt {a b : List UInt8} (ha : a.length = 32) (hb : b.length = 32) (h : a ≠ b) : cm a b < 64 := by
  by_cases h1 : cm a b < 64
  · exact h1
  · have := cm_le a b
    exact absurd (agree_all ha hb ((cm_agree a b).mono (by omega))) h
theorem cm_comm (a b : List UInt8) : cm a b = cm b a :=
  cm_eq (cm_le b a) (cm_agree b a).symm (fun h => fun e => cm_parts b a h e.symm)

/-- The first place at which two rows part. -/
theorem first_part {a b : List UInt8} (ha : a.length = 32) (hb : b.length = 32) (h : a ≠ b) : ∃ k, k < 32 ∧ (∀ j, j < k → at8 a j = at8 b j) ∧ at8 a k ≠ at8 b k := by
  have hc := cm_lt ha hb h
  have hg := cm_agree a b
  have hp := cm_parts a b hc
  refine ⟨cm a b / 2, by omega, fun j hj => ?_, fun e => hp ?_⟩
  · rw [at8_dig, at8_dig, hg (2 * j) (by omega), hg (2 * j + 1) (by omega)]
  · by_cases h2 : cm a b % 2 = 0
    · have e1 : cm a b = 2 * (cm a b / 2) := by omega
      rw [e1, dig_even, dig_even, e]
    · have e1 : cm a b = 2 * (cm a b / 2) + 1 := by omega
      rw [e1, dig_odd, dig_odd, e]

/-- Not behind: by digits. -/
theorem cmpL_digits {a b : List UInt8} (ha : a.length = 32) (hb : b.length = 32) (n : Nat) (hn : n < 64) (hg : Agree a b n) (h : dig a n < dig b n) : cmpL a b = -1 := by
  have hk : ∀ j, j < n / 2 → at8 a j = at8 b j := fun j hj => by rw [at8_dig, at8_dig, hg (2 * j) (by omega), hg (2 * j + 1) (by omega)]
  refine (cmpL_at a b (n / 2) (by omega) (by omega) hk).1 ?_
  by_cases h2 : n % 2 = 0
  · have e1 : n = 2 * (n / 2) := by omega
    rw [e1, dig_even, dig_even] at h
    omega
  · have e1 : n = 2 * (n / 2) + 1 := by omega
    have h3 := hg (2 * (n / 2)) (by omega)
    rw [dig_even, dig_even] at h3
    rw [e1, dig_odd, dig_odd] at h
    omega
theorem cmpL_neg {a b : List UInt8} (ha : a.length = 32) (hb : b.length = 32) : cmpL b a = - cmpL a b := by
  by_cases e : a = b
  · subst e; rw [cmpL_same]; rfl
  · obtain ⟨k, hk, h1, h2⟩ := first_part ha hb e
    have p := cmpL_at a b k (by omega) (by omega) h1
    have q := cmpL_at b a k (by omega) (by omega) (fun j hj => (h1 j hj).symm)
    by_cases h3 : at8 a k < at8 b k
    · rw [p.1 h3, q.2 h3]; rfl
    · have h4 : at8 b k < at8 a k := by omega
      rw [p.2 h4, q.1 h4]
theorem cmpL_zero {a b : List UInt8} (ha : a.length = 32) (hb : b.length = 32) : cmpL a b = 0 ↔ a = b := by
  constructor
  · intro h
    by_cases e : a = b
    · exact e
    · obtain ⟨k, hk, h1, h2⟩ := first_part ha hb e
      have p := cmpL_at a b k (by omega) (by omega) h1
      by_cases h3 : at8 a k < at8 b k
      · rw [p.1 h3] at h; cases h
      · rw [p.2 (by omega)] at h; cases h
  · intro h; subst h; exact cmpL_same a
/-- Less: at the first parting digit. -/
theorem cmpL_lt_iff {a b : List UInt8} (ha : a.length = 32) (hb : b.length = 32) : cmpL a b < 0 ↔ ∃ n, n < 64 ∧ Agree a b n ∧ dig a n < dig b n := by
  constructor
  · intro h
    have hne : a ≠ b := fun e => by subst e; rw [cmpL_same] at h; omega
    have hc := cm_lt ha hb hne
    refine ⟨cm a b, hc, cm_agree a b, ?_⟩
    have hp := cm_parts a b hc
    by_cases h3 : dig a (cm a b) < dig b (cm a b)
    · exact h3
    · have := cmpL_digits hb ha (cm a b) hc (cm_agree a b).symm (by omega)
      rw [cmpL_neg ha hb] at this
      omega
  · rintro ⟨n, h1, h2, h3⟩
    rw [cmpL_digits ha hb n h1 h2 h3]; omega
theorem lt_trans {a b c : List UInt8} (ha : a.length = 32) (hb : b.length = 32) (hc : c.length = 32) (h1 : cmpL a b < 0) (h2 : cmpL b c < 0) : cmpL a c < 0 := by
  rw [cmpL_lt_iff ha hb] at h1
  rw [cmpL_lt_iff hb hc] at h2
  rw [cmpL_lt_iff ha hc]
  obtain ⟨n, n1, n2, n3⟩ := h1
  obtain ⟨m, m1, m2, m3⟩ := h2
  by_cases h : n < m
  · exact ⟨n, n1, n2.trans (m2.mono (by omega)), by rw [← m2 n h]; exact n3⟩
  · by_cases h' : m < n
    · exact ⟨m, m1, (n2.mono (by omega)).trans m2, by rw [n2 m h']; exact m3⟩
    · obtain rfl : n = m := by omega
      exact ⟨n, n1, n2.trans m2, by omega⟩
/-- a, p, x in their order: what a and x have in common p and x have too. -/
theorem cm_between {a p x : List UInt8} (ha : a.length = 32) (hp : p.length = 32) (hx : x.length = 32) (h1 : ¬ cmpL p a < 0) (h2 : ¬ cmpL x p < 0) : cm a x ≤ cm p x := by
  by_cases h : cm p x < cm a x
  · exfalso
    have hl := cm_le a x
    have hg := (cm_agree p x)
    have hax : dig a (cm p x) = dig x (cm p x) := cm_agree a x _ h
    have hne := cm_parts p x (by omega)
    by_cases h3 : dig p (cm p x) < dig x (cm p x)
    · apply h1
      rw [cmpL_digits hp ha (cm p x) (by omega) (hg.trans ((cm_agree a x).mono (by omega)).symm) (by omega)]
      omega
    · apply h2
      rw [cmpL_digits hx hp (cm p x) (by omega) hg.symm (by omega)]
      omega
  · omega

/-- How many digits tell hashes apart: by who is among them alone. -/
def IsLead (S : List UInt8 → Prop) (n : Nat) : Prop :=
  (∀ a b, S a → S b → a ≠ b → cm a b < n) ∧ (n = 0 ∨ ∃ a b, S a ∧ S b ∧ a ≠ b ∧ cm a b + 1 = n)
theorem IsLead.unique {S : List UInt8 → Prop} {n m : Nat} (h : IsLead S n) (k : IsLead S m) : n = m := by
  have key : ∀ n m, IsLead S n → IsLead S m → ¬ n < m := by
    intro n m h k hlt
    rcases k.2 with k2 | ⟨a, b, sa, sb, hab, e⟩
    · omega
    · have := h.1 a b sa sb hab; omega
  have := key n m h k
  have := key m n k h
  omega
end Go.Proofs.Ytdajeabhhkgibaa

namespace Go.Proofs.Ytdajeabhhkgibaa
open Go.RowKit
set_option linter.unusedVariables false
set_option linter.unusedSimpArgs false

theorem range_row {w : World} {g : Nat} {l : List UInt8} {t : TypeId} {fr : Nat × Nat} (h : w.heap[g]? = some (.cells (bs l) t fr)) : w.rangeAt g 0 (hcs l) := fun j v hv => by
  rw [Nat.zero_add, cell_of_row w g j _ _ _ h]
  simpa [hcs] using hv
theorem hcs_pos {l : List UInt8} (h : l.length = 32) : 0 < (hcs l).length := by rw [hcs_len, h]; omega
theorem sizeH {l : List UInt8} (h : l.length = 32) : (Try.prog.info? 30).map (·.size) = some (bs l).toList.length := by
  rw [show (bs l).toList = hcs l from rfl, hcs_len, h]; exact hsH
end Go.Proofs.Ytdajeabhhkgibaa

namespace Go.Proofs.Ytdajeabhhkgibaa
open Go.RowKit
set_option linter.unusedVariables false
set_option linter.unusedSimpArgs false

theorem slice_fromH (g off n cap i : Nat) (w : World) (hi : i < n) (hc : n ≤ cap) : (Instr.slice 31 (.slice (some ⟨g, off, none⟩) n cap) (some (.int .i64 (i : Int))) none none).run Try.prog w = .ok (.slice (some ⟨g, off + 32 * i, none⟩) (n - i) (cap - i)) w := by
  obtain ⟨inf, hi', hz, hs, hb⟩ := infoH
  have h1 : i ≤ n := by omega
  have h2 : ¬ cap = i := by omega
  simp [Instr.slice, Instr.sliceBounds, Instr.sliceBound, asIntOf, run_underlying Try.underlying31, Go.sizeOf, typeInfo, hi', hs, h1, h2, hc, Addr.add_mid]
theorem slice_toH (g off n cap i : Nat) (w : World) (hi : i ≤ cap) : (Instr.slice 31 (.slice (some ⟨g, off, none⟩) n cap) none (some (.int .i64 (i : Int))) none).run Try.prog w = .ok (.slice (some ⟨g, off, none⟩) i cap) w := by
  obtain ⟨inf, hi', hz, hs, hb⟩ := infoH
  simp [Instr.slice, Instr.sliceBounds, Instr.sliceBound, asIntOf, run_underlying Try.underlying31, Go.sizeOf, typeInfo, hi', hs, hi, Addr.add_mid]
theorem zeroCells_one (n : Nat) : ∀ v ∈ (Builtin.zeroCells (bs z32) n).toList, v.oneCell' = true := by
  intro v hv
  have hz : (bs z32).size = 32 := by rw [bs_size]; rfl
  simp only [Builtin.zeroCells, hz, Array.toList_map, List.mem_map] at hv
  obtain ⟨i, _, rfl⟩ := hv
  have hlt : i % 32 < (bs z32).size := by rw [hz]; omega
  rw [getElem!_pos (bs z32) (i % 32) hlt]
  exact hcs_one z32 _ (by simp [hcs])
theorem run_clear_gen (w : World) (ty : TypeId) (g o n c : Nat) (Z : Array Value) (hn : 0 < n) (hv : ∀ w, (zeroValue 30).run Try.prog w = .ok (.agg Z) w)
    (hst : (storeCells ⟨g, o, none⟩ (Builtin.zeroCells Z n).toList).run Try.prog w = .ok () (w.setCells g o (Builtin.zeroCells Z n).toList)) :
    (Builtin.clear_ #[31] ty #[.slice (some ⟨g, o, none⟩) n c]).run Try.prog w = .ok (.tuple #[]) (w.setCells g o (Builtin.zeroCells Z n).toList) := by
  obtain ⟨m, rfl⟩ : ∃ m, n = m + 1 := ⟨n - 1, by omega⟩
  simp only [Builtin.clear_, List.getElem?_toArray, List.getElem?_cons_zero, Sem.run_bind, run_underlying Try.underlying31, Result.andThen_ok, hv, Value.cells, hst, Sem.run_pure]
theorem run_clearH (w : World) (ty : TypeId) (g o n c : Nat) (hn : 0 < n) (ht : w.there g o (32 * n)) :
    (Builtin.clear_ #[31] ty #[.slice (some ⟨g, o, none⟩) n c]).run Try.prog w = .ok (.tuple #[]) (w.setCells g o (Builtin.zeroCells (bs z32) n).toList) := by
  have hz : (bs z32).size = 32 := by rw [bs_size]; rfl
  have hlen : (Builtin.zeroCells (bs z32) n).toList.length = n * 32 := by rw [Array.length_toList, size_zeroCells, hz]
  have hst := run_storeCells_cells (P := Try.prog) g o (Builtin.zeroCells (bs z32) n).toList 0 w (fun j hj => by rw [hlen] at hj; exact (ht j (by omega)).1) (fun j hj => by rw [hlen] at hj; exact (ht j (by omega)).2) (zeroCells_one n)
  simp only [Nat.add_zero] at hst
  exact run_clear_gen w ty g o n c (bs z32) hn hzH hst
theorem zeroCells_len (n : Nat) : (Builtin.zeroCells (bs z32) n).toList.length = 32 * n := by
  have hz : (bs z32).size = 32 := by rw [bs_size]; rfl
  rw [Array.length_toList, size_zeroCells, hz]; omega
/-- Hashes ahead of what is written over stay. -/
theorem hs_clear {w : World} {g i n : Nat} {M : List (List UInt8)} (h : Hs w g 0 M) (hM : All32 M) (hi : i ≤ M.length) : Hs (w.setCells g (32 * i) (Builtin.zeroCells (bs z32) n).toList) g 0 (M.take i) := fun j x e => by
  rw [List.getElem?_take] at e
  split at e
  · rename_i hj
    refine World.rangeAt_setCells_apart (h j x e) _ _ _ ?_
    rw [hcs_len, hM.get e]
    omega
  · cases e

/-- Of neighbours that are alike the first alone, what stood ahead being told. -/
def ddF (p : List UInt8) : List (List UInt8) → List (List UInt8)
  | [] => []
  | x :: r => if x = p then ddF p r else x :: ddF x r
def dd : List (List UInt8) → List (List UInt8)
  | [] => []
  | x :: r => x :: ddF x r
theorem ddF_snoc (p : List UInt8) (l : List (List UInt8)) (x : List UInt8) : ddF p (l ++ [x]) = if x = (l.getLast?).getD p then ddF p l else ddF p l ++ [x] := by
  induction l generalizing p with
  | nil =>
    simp only [List.nil_append, ddF, List.getLast?_nil, Option.getD_none]
    by_cases h : x = p <;> simp [h]
  | cons y r ih =>
    simp only [List.cons_append, ddF]
    have hl : ((y :: r).getLast?).getD p = (r.getLast?).getD y := by
      cases r with
      | nil => simp
      | cons z s => simp [List.getLast?_cons_cons, List.getLast?_cons]
    rw [hl]
    by_cases hy : y = p
    · subst hy
      rw [if_pos rfl, if_pos rfl, ih y]
    · rw [if_neg hy, if_neg hy, ih y]
      split <;> simp
theorem dd_snoc (L : List (List UInt8)) (k : Nat) (p x : List UInt8) (hk : 1 ≤ k) (hp : L[k - 1]? = some p) (hx : L[k]? = some x) : dd (L.take (k + 1)) = if x = p then dd (L.take k) else dd (L.take k) ++ [x] := by
  have ht : L.take (k + 1) = L.take k ++ [x] := by rw [List.take_add_one, hx]; rfl
  rw [ht]
  have hkl : k ≤ L.length := by have := (List.getElem?_eq_some_iff.1 hx).1; omega
  cases hq : L.take k with
  | nil =>
    have := congrArg List.length hq
    rw [List.length_take, List.length_nil] at this
    omega
  | cons y r =>
    have hlast : (r.getLast?).getD y = p := by
      have h1 : (L.take k).getLast? = some p := by
        rw [List.getLast?_eq_getElem?, List.length_take, show min k L.length = k by omega, List.getElem?_take, if_pos (by omega), hp]
      rw [hq] at h1
      cases r with
      | nil => simpa using h1
      | cons z s => simpa [List.getLast?_cons_cons] using congrArg (fun o => o.getD y) h1
    simp only [List.cons_append, dd]
    rw [ddF_snoc, hlast]
    split <;> simp
theorem dd_take_one (L : List (List UInt8)) : dd (L.take 1) = L.take 1 := by
  cases L with
  | nil => rfl
  | cons x r => simp [dd, ddF]
theorem dd_short {L : List (List UInt8)} (h : L.length < 2) : dd L = L := by
  have := dd_take_one L
  rwa [List.take_of_length_le (by omega)] at this
theorem ddF_mem (p : List UInt8) (l : List (List UInt8)) (x : List UInt8) : x ∈ ddF p l → x ∈ l := by
  induction l generalizing p with
  | nil => simp [ddF]
  | cons y r ih =>
    simp only [ddF]
    split
    · intro h; exact List.mem_cons_of_mem _ (ih p h)
    · intro h
      rcases List.mem_cons.1 h with rfl | h
      · simp
      · exact List.mem_cons_of_mem _ (ih y h)
theorem dd_mem {L : List (List UInt8)} {x : List UInt8} : x ∈ dd L → x ∈ L := by
  cases L with
  | nil => simp [dd]
  | cons y r =>
    simp only [dd]
    intro h
    rcases List.mem_cons.1 h with rfl | h
    · simp
    · exact List.mem_cons_of_mem _ (ddF_mem y r x h)
theorem all32_dd {L : List (List UInt8)} (h : All32 L) : All32 (dd L) := fun x hx => h x (dd_mem hx)
end Go.Proofs.Ytdajeabhhkgibaa

namespace Go.Proofs.Ytdajeabhhkgibaa
open Go.RowKit
set_option linter.unusedVariables false
set_option linter.unusedSimpArgs false

/-- How the first ones lie, and that the others are as they were. -/
def Cpt (L M : List (List UInt8)) (i k : Nat) : Prop := M.length = L.length ∧ All32 M ∧ M.take i = dd (L.take k) ∧ (dd (L.take k)).length = i ∧ i < k ∧ ∀ p, k - 1 ≤ p → M[p]? = L[p]?

end Go.Proofs.Ytdajeabhhkgibaa

namespace Go.Proofs.Ytdajeabhhkgibaa
open Go.RowKit
set_option linter.unusedVariables false
set_option linter.unusedSimpArgs false

def Rises (L : List (List UInt8)) : Prop := ∀ (i j : Nat) (x y : List UInt8), L[i]? = some x → L[j]? = some y → i < j → ¬ cmpL y x < 0
end Go.Proofs.Ytdajeabhhkgibaa

namespace Go.Proofs.Ytdajeabhhkgibaa
open Go.RowKit
set_option linter.unusedVariables false
set_option linter.unusedSimpArgs false

/-- The cells of a list of hashes. -/
def flat (L : List (List UInt8)) : List Value := L.flatMap hcs
theorem flat_len {L : List (List UInt8)} (h : All32 L) : (flat L).length = L.length * 32 := by
  induction L with
  | nil => rfl
  | cons x r ih =>
    have h1 := h x (by simp)
    have h2 := ih (fun y hy => h y (by simp [hy]))
    simp only [flat, List.flatMap_cons, List.length_append, List.length_cons] at h2 ⊢
    rw [h2, hcs_len, h1]
    omega
theorem flat_get {L : List (List UInt8)} (h : All32 L) (i j : Nat) (x : List UInt8) (hx : L[i]? = some x) (hj : j < 32) : (flat L)[i * 32 + j]? = (hcs x)[j]? := by
  induction L generalizing i with
  | nil => simp at hx
  | cons y r ih =>
    have h1 := h y (by simp)
    have hl : (hcs y).length = 32 := by rw [hcs_len, h1]
    simp only [flat, List.flatMap_cons]
    cases i with
    | zero =>
      simp at hx
      subst hx
      rw [List.getElem?_append_left (by omega)]
      simp
    | succ i =>
      rw [List.getElem?_append_right (by omega), hl, show (i + 1) * 32 + j - 32 = i * 32 + j by omega]
      exact ih (fun z hz => h z (by simp [hz])) i (by simpa using hx)
theorem flat_app (L M : List (List UInt8)) : flat (L ++ M) = flat L ++ flat M := by simp [flat]
theorem flat_one (L : List (List UInt8)) : ∀ v ∈ flat L, v.oneCell' = true := by
  intro v hv
  simp only [flat, List.mem_flatMap] at hv
  obtain ⟨x, _, hx⟩ := hv
  exact hcs_one x v hx
/-- A slice of the call's own that holds hashes. -/
def OwnH (w : World) (base : Nat) (v : Value) (L : List (List UInt8)) : Prop := All32 L ∧ w.ownsRow base 30 32 v L.length (flat L)
theorem OwnH.nil (w : World) (base : Nat) : OwnH w base (.slice none 0 0) [] := ⟨fun _ h => by simp at h, World.ownsRow_nil w base 30 32⟩
theorem OwnH.open {w : World} {base : Nat} {v : Value} {L : List (List UInt8)} (h : OwnH w base v L) :
    (v = .slice none 0 0 ∧ L = []) ∨ ∃ g cap, v = .slice (some ⟨g, 0, none⟩) L.length cap ∧ L.length ≤ cap ∧ base ≤ g ∧ g < w.heap.size ∧ Hs w g 0 L ∧ w.there g 0 (32 * L.length) := by
  obtain ⟨hL, hlen, ⟨rfl, hn⟩ | ⟨g, cap, cur, rfl, hbg, hg, hnc, hcm, hcs', htake⟩⟩ := h
  · exact .inl ⟨rfl, List.eq_nil_of_length_eq_zero hn⟩
  · have hcell : ∀ j, j < 32 * L.length → w.cell? ⟨g, 0 + j, none⟩ = (flat L)[j]? := fun j hj => by
      rw [Nat.zero_add, cell_of_row w g j cur _ (0, 0) hg, ← htake, List.getElem?_take, if_pos (by omega)]
      simp
    refine .inr ⟨g, cap, rfl, hnc, hbg, (Array.getElem?_eq_some_iff.1 hg).1, ?_, ?_⟩
    · intro i x hx j v hv
      have hi := (List.getElem?_eq_some_iff.1 hx).1
      have hj : j < 32 := by have := (List.getElem?_eq_some_iff.1 hv).1; rwa [hcs_len, hL.get hx] at this
      have := hcell (i * 32 + j) (by omega)
      rw [flat_get hL i j x hx hj, hv] at this
      rw [show 0 + 32 * i + j = 0 + (i * 32 + j) by omega]
      exact this
    · intro j hj
      refine ⟨?_, ?_⟩
      · rw [hcell j hj, List.getElem?_eq_getElem (by rw [flat_len hL]; omega)]; rfl
      · rw [Nat.zero_add]; exact frozen_of_row w g j cur _ hg
theorem OwnH.below {w w' : World} {base : Nat} {v : Value} {L : List (List UInt8)} (h : OwnH w base v L) (hb : Below w.heap.size w w') : OwnH w' base v L := by
  refine ⟨h.1, h.2.1, ?_⟩
  rcases h.2.2 with hn | ⟨g, cap, cur, rfl, hbg, hg, rest⟩
  · exact .inl hn
  · exact .inr ⟨g, cap, cur, rfl, hbg, by rw [hb.block g (Array.getElem?_eq_some_iff.1 hg).1]; exact hg, rest⟩
theorem zsize : (Value.agg (bs z32)).cells.size = 32 := by show (bs z32).size = 32; rw [bs_size]; rfl

theorem run_appH (w : World) (base : Nat) (ty : TypeId) (v : Value) (L : List (List UInt8)) (a : Addr) (M : List (List UInt8)) (c : Nat) (hown : OwnH w base v L) (hM : All32 M) (hb : Hl w (some a) M)
    (h : L.length + M.length ≤ 4398046511104 + 4096) (hbase : base ≤ w.heap.size) :
    ∃ v' w', (Builtin.append_ #[31, 31] ty #[v, .slice (some a) M.length c]).run Try.prog w = .ok v' w' ∧ OwnH w' base v' (L ++ M) ∧ w.grownBy w' v.ownBlock ∧ (v' = .slice none 0 0 ↔ v = .slice none 0 0 ∧ M.length = 0) := by
  obtain ⟨i, hi, hz, hs, hby⟩ := infoH
  have hnews : ∀ j u, (flat M)[j]? = some u → w.cell? (a.add j) = some u := fun j u hj => by
    have hlt : j < M.length * 32 := by have := (List.getElem?_eq_some_iff.1 hj).1; rwa [flat_len hM] at this
    rcases hb with rfl | ⟨b, off, e, hc⟩
    · simp at hlt
    · cases e
      have hx : M[j / 32]? = some M[j / 32] := List.getElem?_eq_getElem (by omega)
      have h1 := flat_get hM (j / 32) (j % 32) _ hx (by omega)
      rw [show j / 32 * 32 + j % 32 = j by omega, hj] at h1
      have h2 := hc (j / 32) _ hx (j % 32) u h1.symm
      rw [Addr.add_mid]
      rwa [show off + 32 * (j / 32) + j % 32 = off + j by omega] at h2
  obtain ⟨v', w', hr, h2, h3, h4⟩ := run_append_own_wide (P := Try.prog) w base 31 ty 30 i (.agg (bs z32)) 32 32 Try.underlying31 hi hz hs hby zsize (by omega) v L.length (flat L) hown.2 a M.length c (flat M) (flat_len hM) hnews (flat_one M) (by unfold maxLen; omega) (by omega) hbase
  refine ⟨v', w', hr, ⟨?_, ?_⟩, h3, h4⟩
  · intro x hx
    rcases List.mem_append.1 hx with hx | hx
    · exact hown.1 x hx
    · exact hM x hx
  · rw [List.length_append, flat_app]; exact h2
theorem wpList_appH {ops : Array Oper} {rest : List Oper} {o : Oper} {a : Act} {w : World} {Q : Exit → Act → World → Prop} (hgd : o.guard = none) (s x : Operand)
    (ho : o.op = .call { callee := .builtin .append, args := #[s, x], argTypes := #[31, 31] }) (base : Nat) (v : Value) (L : List (List UInt8)) (hs : a.eval s = v) (hown : OwnH w base v L)
    (aa : Addr) (m c : Nat) (M : List (List UInt8)) (hx : a.eval x = .slice (some aa) m c) (hm : M.length = m) (hM : All32 M) (hb : Hl w (some aa) M) (hlen : L.length + M.length ≤ 4398046511104 + 4096) (hbase : base ≤ w.heap.size)
    (h : ∀ v' w', OwnH w' base v' (L ++ M) → w.grownBy w' v.ownBlock → (v' = .slice none 0 0 ↔ v = .slice none 0 0 ∧ M.length = 0) → wpList Try.prog ops Q rest (a.put o.dst v') w') : wpList Try.prog ops Q (o :: rest) a w :=
  wpList_plain hgd fun _ hK => by
    subst hm
    obtain ⟨v', w', hr, h2, h3, h4⟩ := run_appH w base o.type v L aa M c hown hM hb hlen hbase
    unfold Oper.wp execOp
    simp only [ho, resolve, invoke, builtin, Sem.run_bind, Sem.run_pure, Result.andThen_ok, List.map_toArray, List.map_cons, List.map_nil, hs, hx, hr]
    exact hK _ _ (h v' w' h2 h3 h4)

end Go.Proofs.Ytdajeabhhkgibaa

namespace Go.Proofs.Ytdajeabhhkgibaa
open Go.RowKit
set_option linter.unusedVariables false
set_option linter.unusedSimpArgs false

theorem bs_k (l : List UInt8) : K.bs l = bs l := rfl
/-- Each is less than those behind it. -/
def SRise (L : List (List UInt8)) : Prop := ∀ (i j : Nat) (x y : List UInt8), L[i]? = some x → L[j]? = some y → i < j → cmpL x y < 0
theorem SRise.tail {x : List UInt8} {r : List (List UInt8)} (h : SRise (x :: r)) : SRise r := fun i j a b ha hb hij => h (i + 1) (j + 1) a b (by simpa using ha) (by simpa using hb) (by omega)
theorem SRise.head {x y : List UInt8} {r : List (List UInt8)} (h : SRise (x :: r)) (hy : y ∈ r) : cmpL x y < 0 := by
  obtain ⟨i, hi⟩ := List.mem_iff_getElem?.1 hy
  exact h 0 (i + 1) x y rfl (by simpa using hi) (by omega)
/-- One list of what there is. -/
theorem SRise.unique : ∀ (L M : List (List UInt8)), All32 L → SRise L → SRise M → (∀ x, x ∈ L ↔ x ∈ M) → L = M
  | [], [], _, _, _, _ => rfl
  | [], y :: s, _, _, _, h => absurd ((h y).2 (by simp)) (by simp)
  | x :: r, [], _, _, _, h => absurd ((h x).1 (by simp)) (by simp)
  | x :: r, y :: s, h32, hL, hM, h => by
    have hM32 : All32 (y :: s) := fun z hz => h32 z ((h z).2 hz)
    have exy : x = y := by
      by_cases e : x = y
      · exact e
      · exfalso
        have hx : x ∈ s := (List.mem_cons.1 ((h x).1 (by simp))).resolve_left e
        have hy : y ∈ r := (List.mem_cons.1 ((h y).2 (by simp))).resolve_left (fun e' => e e'.symm)
        have h1 := hM.head hx
        have h2 := hL.head hy
        rw [cmpL_neg (h32 x (by simp)) (hM32 y (by simp))] at h1
        omega
    subst exy
    rw [SRise.unique r s (fun z hz => h32 z (by simp [hz])) hL.tail hM.tail (fun z => ?_)]
    have hxr : x ∉ r := fun hr => by have := hL.head hr; rw [cmpL_same] at this; omega
    have hxs : x ∉ s := fun hr => by have := hM.head hr; rw [cmpL_same] at this; omega
    constructor
    · intro hz
      rcases List.mem_cons.1 ((h z).1 (by simp [hz])) with rfl | h1
      · exact absurd hz hxr
      · exact h1
    · intro hz
      rcases List.mem_cons.1 ((h z).2 (by simp [hz])) with rfl | h1
      · exact absurd hz hxs
      · exact h1
theorem rises_tail {x : List UInt8} {r : List (List UInt8)} (h : Rises (x :: r)) : Rises r := fun i j a b ha hb hij => h (i + 1) (j + 1) a b (by simpa using ha) (by simpa using hb) (by omega)
theorem srise_cons {x : List UInt8} {r : List (List UInt8)} (h : SRise r) (hx : ∀ y ∈ r, cmpL x y < 0) : SRise (x :: r) := fun i j a b ha hb hij => by
  cases j with
  | zero => omega
  | succ j =>
    cases i with
    | zero =>
      simp at ha
      subst ha
      exact hx b (List.mem_of_getElem? (by simpa using hb))
    | succ i => exact h i j a b (by simpa using ha) (by simpa using hb) (by omega)
theorem lt_of_not {x y : List UInt8} (hx : x.length = 32) (hy : y.length = 32) (h : ¬ cmpL y x < 0) (hne : ¬ y = x) : cmpL x y < 0 := by
  have e := cmpL_neg hx hy
  have h0 : cmpL x y ≠ 0 := fun h0 => hne ((cmpL_zero hx hy).1 h0).symm
  omega
theorem ddF_rise : ∀ (p : List UInt8) (l : List (List UInt8)), All32 (p :: l) → Rises (p :: l) → SRise (ddF p l) ∧ ∀ y ∈ ddF p l, cmpL p y < 0
  | p, [], _, _ => ⟨fun i j x y h => by simp [ddF] at h, fun y h => by simp [ddF] at h⟩
  | p, x :: r, h32, hr => by
    have hp32 := h32 p (by simp)
    have hx32 := h32 x (by simp)
    unfold ddF
    split
    · rename_i hxp
      subst hxp
      exact ddF_rise x r (fun z hz => h32 z (List.mem_cons_of_mem _ hz)) (rises_tail hr)
    · rename_i hxp
      obtain ⟨h1, h2⟩ := ddF_rise x r (fun z hz => h32 z (List.mem_cons_of_mem _ hz)) (rises_tail hr)
      have hpx : cmpL p x < 0 := lt_of_not hp32 hx32 (hr 0 1 p x rfl rfl (by omega)) hxp
      refine ⟨srise_cons h1 h2, fun y hy => ?_⟩
      rcases List.mem_cons.1 hy with rfl | hy
      · exact hpx
      · exact lt_trans hp32 hx32 (h32 y (by have := ddF_mem x r y hy; simp [this])) hpx (h2 y hy)
theorem dd_rise {L : List (List UInt8)} (h32 : All32 L) (hr : Rises L) : SRise (dd L) := by
  cases L with
  | nil => intro i j x y h; simp [dd] at h
  | cons x r =>
    obtain ⟨h1, h2⟩ := ddF_rise x r h32 hr
    exact srise_cons h1 h2
theorem ddF_all (p : List UInt8) (l : List (List UInt8)) (x : List UInt8) : x ∈ l → x = p ∨ x ∈ ddF p l := by
  induction l generalizing p with
  | nil => simp
  | cons y r ih =>
    intro h
    simp only [ddF]
    by_cases hy : y = p
    · rw [if_pos hy]
      rcases List.mem_cons.1 h with rfl | h
      · exact .inl hy
      · exact ih p h
    · rw [if_neg hy]
      rcases List.mem_cons.1 h with rfl | h
      · exact .inr (by simp)
      · rcases ih y h with rfl | h
        · exact .inr (by simp)
        · exact .inr (by simp [h])
theorem dd_all {L : List (List UInt8)} {x : List UInt8} (h : x ∈ L) : x ∈ dd L := by
  cases L with
  | nil => exact h
  | cons y r =>
    simp only [dd]
    rcases List.mem_cons.1 h with rfl | h
    · simp
    · rcases ddF_all y r x h with rfl | h
      · simp
      · simp [h]
/-- The one rising list of the members of another. -/
def Srt (L D : List (List UInt8)) : Prop := SRise D ∧ All32 D ∧ (∀ x, x ∈ D ↔ x ∈ L)
theorem srt_dd {L M : List (List UInt8)} (hL : All32 L) (hp : M.Perm L) (hr : Rises M) : Srt L (dd M) := by
  have hM : All32 M := fun x hx => hL x (hp.mem_iff.1 hx)
  exact ⟨dd_rise hM hr, all32_dd hM, fun x => ⟨fun h => hp.mem_iff.1 (dd_mem h), fun h => dd_all (hp.mem_iff.2 h)⟩⟩
theorem dd_length_le (L : List (List UInt8)) : (dd L).length ≤ L.length := by
  have key : ∀ (l : List (List UInt8)) p, (ddF p l).length ≤ l.length := by
    intro l
    induction l with
    | nil => intro p; simp [ddF]
    | cons y r ih =>
      intro p
      simp only [ddF]
      split
      · have := ih p; simp; omega
      · have := ih y; simp; omega
  cases L with
  | nil => simp [dd]
  | cons x r => have := key r x; simp [dd]; omega
end Go.Proofs.Ytdajeabhhkgibaa

namespace Go.Proofs.Ytdajeabhhkgibaa
open Go.RowKit
set_option linter.unusedVariables false
set_option linter.unusedSimpArgs false

/-- All hashes one behind the other. -/
def cat (L : List (List UInt8)) : List UInt8 := L.flatten
theorem cat_nil : cat [] = [] := rfl
theorem cat_snoc (L : List (List UInt8)) (k : Nat) (x : List UInt8) (h : L[k]? = some x) : cat (L.take (k + 1)) = cat (L.take k) ++ x := by
  rw [List.take_add_one, h]; simp [cat]
theorem cat_len {L : List (List UInt8)} (h : All32 L) : (cat L).length = 32 * L.length := by
  induction L with
  | nil => rfl
  | cons x r ih =>
    have h1 := ih (fun z hz => h z (List.mem_cons_of_mem _ hz))
    have h2 := h x (by simp)
    simp [cat] at h1 ⊢
    omega
theorem all32_take {L : List (List UInt8)} (h : All32 L) (k : Nat) : All32 (L.take k) := fun x hx => h x (List.mem_of_mem_take hx)
/-- What Writer.Hashes writes. -/
def hw (D : List (List UInt8)) : List UInt8 := K.vint D.length ++ cat D
/-- The hashes' block stays beside a Writer. -/
theorem hs_frw {p q : Nat} {g : Option Nat} {w w' : World} {D : List (List UInt8)} (hD : All32 D) (h : Hs w q 0 D) (f : K.FrW p g w w') (hq : q < w.heap.size) (h1 : q ≠ p) (h2 : some q ≠ g) : Hs w' q 0 D := fun i x e => by
  have h3 := h i x e
  intro j v hv
  have h4 := h3 j v hv
  exact (World.cell?_of_block (f.block q hq h1 h2)).trans h4

theorem WS.gone {w : World} {T : TypeId} {p q : Nat} {g : Option Nat} {M : List UInt8} {e : Int} (h : K.WS w T p g M e) (hq : w.heap.size ≤ q) : some q ≠ g := by
  obtain ⟨v, h1, h2, h3⟩ := h.ex
  intro e
  have := (World.ownsRow.lt h2 q (h3.trans e.symm)).2
  omega
theorem nw_apart {g g1 : Option Nat} {q z : Nat} (h : K.Nw g g1 z) (hq : q < z) (hg : some q ≠ g) : some q ≠ g1 := by
  rcases h with e | ⟨k, e, hk⟩
  · rw [e]; exact hg
  · rw [e]; intro h2; cases h2; omega
end Go.Proofs.Ytdajeabhhkgibaa

namespace Go.Proofs.Ytdajeabhhkgibaa.K
open Go.RowKit
set_option linter.unusedVariables false
set_option linter.unusedSimpArgs false

variable {p : Nat} {g : Option Nat} {M : List UInt8} {e : Int}
theorem WS.view3 {w : World} {T : TypeId} (h : WS w T p g M e) : ∃ a cv, w.cell? ⟨p, 0, none⟩ = some (.slice a M.length cv) ∧ w.cell? ⟨p, 1, none⟩ = some (.int .i64 e) ∧ Byt w a M ∧ (a = none ∧ M = [] ∧ cv = 0 ∨ ∃ b, a = some ⟨b, 0, none⟩) := by
  obtain ⟨v, hq, own, hg⟩ := h.ex
  have c0 := (cell_of_row w p 0 _ _ _ hq).trans (show (#[v, .int .i64 e] : Array Value)[0]? = some v from rfl)
  have c1 := (cell_of_row w p 1 _ _ _ hq).trans (show (#[v, .int .i64 e] : Array Value)[1]? = some (.int .i64 e) from rfl)
  obtain ⟨a, cv, rfl, h1, h2, h3⟩ := own.open
  refine ⟨a, cv, c0, c1, h2, ?_⟩
  rcases own.2 with ⟨hv, hn⟩ | ⟨gg, cap, cur, hv, _⟩
  · simp only [Value.slice.injEq] at hv
    exact .inl ⟨hv.1, List.eq_nil_of_length_eq_zero hn, hv.2.2⟩
  · simp only [Value.slice.injEq] at hv
    exact .inr ⟨_, hv.1⟩
set_option maxRecDepth 100000 in
set_option maxHeartbeats 1000000 in
/-- Done, where there is no error and something was written. -/
theorem wdone3 (w : World) (hw : WS w 119 p g M 0) (hM : 0 < M.length) (hl : M.length ≤ 140737488355328) :
    Calls Try.prog 77 #[.pointer (some ⟨p, 0, none⟩)] w fun x w' => ∃ b cv, x = .returned (.tuple #[.slice (some ⟨b, 0, none⟩) M.length cv, .int .i64 0]) ∧ OwnB w' w.heap.size (.slice (some ⟨b, 0, none⟩) M.length cv) M ∧ Below w.heap.size w w' := by
  obtain ⟨a, cv, c0, c1, hb, ha⟩ := hw.view3
  clear hw
  rcases ha with ⟨rfl, rfl, rfl⟩ | ⟨b, rfl⟩
  · simp at hM
  · have HC : Hid (Calls Try.prog 105 #[.slice (some ⟨b, 0, none⟩) M.length cv] w fun x w' => ∃ b cv, x = .returned (.slice (some ⟨b, 0, none⟩) M.length cv) ∧ OwnB w' w.heap.size (.slice (some ⟨b, 0, none⟩) M.length cv) M ∧ Below w.heap.size w w') := (clone_any b 0 M.length cv M w rfl hl hb).mono fun x w' h => by
      obtain ⟨v, h1, h2, h3⟩ := h
      obtain ⟨g, cap, rfl, _⟩ := h2.open1 hM
      exact ⟨g, cap, h1, h2, h3⟩
    clear hb hl
    generalize M.length = n at *
    go_enter Try.func77, Try.ntmps77
    go_wp2_with fail
    refine HC.out.mono ?_
    rintro x w1 ⟨b1, cv1, rfl, h2, h3⟩
    have H2 : Hid (OwnB w1 w.heap.size (.slice (some ⟨b1, 0, none⟩) n cv1) M) := h2
    have H3 : Hid (Below w.heap.size w w1) := h3
    clear h2 h3
    go_wp2
    go_ret2
    exact ⟨_, _, rfl, H2.out, H3.out⟩

theorem rd_of_own3 {w : World} {T : TypeId} {v : Value} {l : List UInt8} {base : Nat} (own : OwnB w base v l) (hl : l.length ≤ 140737488351232) :
    ∃ a cap, v = .slice a l.length cap ∧ RD (w.alloc (.cells #[.slice a l.length cap, .int .i64 0, .int .i64 0, .int .i64 0] T)) T w.heap.size a cap l ⟨0, 0, 0⟩ ∧ (∀ ad, a = some ad → base ≤ ad.block ∧ ad.block < w.heap.size) := by
  have hop : ∃ a cap, v = .slice a l.length cap ∧ l.length ≤ cap ∧ Byt w a l ∧ (∀ ad, a = some ad → ad.spot = none ∧ base ≤ ad.block ∧ ad.block < w.heap.size) := by
    rcases own.2 with ⟨rfl, hn⟩ | ⟨g, cap, cur, rfl, hbg, hg, hnc, hcm, hcs, htake⟩
    · obtain rfl : l = [] := List.eq_nil_of_length_eq_zero hn
      exact ⟨none, 0, rfl, Nat.le_refl _, .inl rfl, fun _ e => by cases e⟩
    · obtain ⟨a', cap', e, hc, hb, _⟩ := own.open
      cases e
      exact ⟨_, _, rfl, hc, hb, fun ad e => by cases e; exact ⟨rfl, hbg, (Array.getElem?_eq_some_iff.1 hg).1⟩⟩
  obtain ⟨a, cap, rfl, hcap, hb, hp⟩ := hop
  refine ⟨a, cap, rfl, ⟨heap_alloc_new _ _, hcap, byt_below hb ((Below.refl _ _).alloc (Nat.le_refl _) _), fun ad e => ⟨(hp ad e).1, by have := (hp ad e).2.2; omega⟩, Nat.zero_le _, hl⟩, fun ad e => (hp ad e).2⟩
set_option maxRecDepth 100000 in
set_option maxHeartbeats 1000000 in
theorem new_any (b off n cap : Nat) (l : List UInt8) (w : World) (hl : l.length = n) (hn : n ≤ 140737488351232) (hb : Byt w (some ⟨b, off, none⟩) l) :
    Calls Try.prog 57 #[.slice (some ⟨b, off, none⟩) n cap] w fun e w' => ∃ r a c, e = .returned (.pointer (some ⟨r, 0, none⟩)) ∧ RD w' 139 r a c l ⟨0, 0, 0⟩ ∧ w.heap.size ≤ r ∧ Below w.heap.size w w' := by
  have HC : Hid (Calls Try.prog 105 #[.slice (some ⟨b, off, none⟩) n cap] w fun e w' => ∃ v, e = .returned v ∧ OwnB w' w.heap.size v l ∧ Below w.heap.size w w') := clone_any b off n cap l w hl (by omega) hb
  clear hb
  go_enter Try.func57, Try.ntmps57
  go_wp2_with fail
  refine HC.out.mono ?_
  rintro e w1 ⟨v, rfl, own, b1⟩
  obtain ⟨a, c, rfl, rd, hp⟩ := rd_of_own3 (w := w1) (T := 139) own (by omega)
  have z1 := b1.size
  have HRD : Hid (RD (w1.alloc (.cells #[.slice a l.length c, .int .i64 0, .int .i64 0, .int .i64 0] 139)) 139 w1.heap.size a c l ⟨0, 0, 0⟩) := rd
  have B2 : Hid (Below w.heap.size w (w1.alloc (.cells #[.slice a l.length c, .int .i64 0, .int .i64 0, .int .i64 0] 139))) := b1.alloc (by omega) (.cells #[.slice a l.length c, .int .i64 0, .int .i64 0, .int .i64 0] 139)
  rw [hl] at HRD B2
  clear own rd hp b1
  go_wp2
  go_ret
  exact ⟨_, a, c, rfl, HRD.out, z1, B2.out⟩

/-- A number is read as it was written. -/
theorem num_vint (len k : Nat) (t : List UInt8) : ∀ (f v i acc : Nat), v ≤ f → v * 2 ^ (7 * i) < 2 ^ 63 → (0 < i → 0 < v) → numL len k (vint v ++ t) i acc = ⟨acc + v * 2 ^ (7 * i), i + (vint v).length, 0, len⟩ := by
  intro f
  induction f with
  | zero =>
    intro v i acc hf hv h0
    obtain rfl : v = 0 := by omega
    have hi : i = 0 := by omega
    subst hi
    rw [vint_lt (by omega)]
    simp [numL]
  | succ f ih =>
    intro v i acc hf hv h0
    have h9 : i = 9 → v = 0 := fun e => by
      subst e
      have : v * 2 ^ 63 < 1 * 2 ^ 63 := by simpa using hv
      have := Nat.lt_of_mul_lt_mul_right this
      omega
    by_cases h : v < 128
    · rw [vint_lt h]
      have e1 : (UInt8.ofNat v).toNat = v := by simp; omega
      simp only [List.cons_append, List.nil_append, numL, e1]
      rw [if_neg (by omega), if_pos h]
      simp
    · rw [vint_ge h]
      have e1 : (UInt8.ofNat (v % 128 + 128)).toNat = v % 128 + 128 := by simp; omega
      simp only [List.cons_append, numL, e1]
      rw [if_neg (by omega), if_neg (by omega), ih (v / 128) (i + 1) _ (by omega) ?_ (fun _ => by omega)]
      · have e2 : 2 ^ (7 * (i + 1)) = 128 * 2 ^ (7 * i) := by rw [Nat.mul_add, Nat.pow_add]; omega
        have e3 : v * 2 ^ (7 * i) = (v % 128) * 2 ^ (7 * i) + v / 128 * (128 * 2 ^ (7 * i)) := by
          rw [← Nat.mul_assoc, ← Nat.add_mul]
          congr 1
          omega
        rw [e2, e3, Nat.add_sub_cancel]
        simp only [List.length_cons, Num.mk.injEq, and_true]
        exact ⟨by omega, by omega⟩
      · have e2 : 2 ^ (7 * (i + 1)) = 128 * 2 ^ (7 * i) := by rw [Nat.mul_add, Nat.pow_add]; omega
        rw [e2, ← Nat.mul_assoc]
        exact Nat.lt_of_le_of_lt (Nat.mul_le_mul_right _ (by omega)) hv
theorem num_front (v : Nat) (hv : v ≤ 4398046510976) (t : List UInt8) : num (vint v ++ t) 0 = ⟨v, (vint v).length, 0, (vint v ++ t).length⟩ := by
  unfold num
  rw [List.drop_zero, num_vint _ _ t v v 0 0 (Nat.le_refl _) (by simp; omega) (by omega)]
  simp
end Go.Proofs.Ytdajeabhhkgibaa.K

namespace Go.Proofs.Ytdajeabhhkgibaa
open Go.RowKit
set_option linter.unusedVariables false
set_option linter.unusedSimpArgs false

theorem byC_bs (l : List UInt8) : K.byC l = (bs l).toList := by simp [K.byC, bs]
theorem splice_all (x : List UInt8) (h : x.length = 32) : ((bs z32).toList.take 0 ++ (K.byC x ++ (bs z32).toList.drop (0 + (K.byC x).length))).toArray = bs x := by
  have e : (bs z32).toList.length = 32 := by rw [Array.length_toList, bs_size]; rfl
  rw [K.byC_len, h, List.drop_of_length_le (by omega), byC_bs]
  simp

variable {T : TypeId} {r cap : Nat} {a : Option Addr} {L : List UInt8} {s : K.St}
set_option maxRecDepth 100000 in
set_option maxHeartbeats 2000000 in
theorem counted32 (most : Nat) (hm : most ≤ 9223372036854775807) (w : World) (h : K.RD w T r a cap L s) (hb : s.bad = 0) (v sz : Nat) (pl : Int) (hN : K.num L s.k = ⟨v, sz, 0, pl⟩) (hv : v ≤ most) (hlen : s.k + sz + v * 32 ≤ L.length) :
    Calls Try.prog 111 #[.pointer (some ⟨r, 0, none⟩), .int .i64 (most : Int), .int .i64 32] w fun e w' => e = .returned (.tuple #[.slice (K.from23 a cap (s.k + sz)) (v * 32) (cap - (s.k + sz)), .int .i64 (sz : Int), .bool true]) ∧ K.On w w' T r a cap L s := by
  have HN : Hid (Calls Try.prog 108 #[.pointer (some ⟨r, 0, none⟩)] w fun e w' => e = .returned (.tuple #[.int .u64 (v : Int), .int .i64 (sz : Int), .bool true]) ∧ K.On w w' T r a cap L s) := (K.number_any w h hb).mono fun e w' hx => by
    rw [hN, K.St.fl_ok] at hx
    exact hx
  have hf := h.few
  have hr := h.room
  have HL : Hid (∀ wx, K.On w wx T r a cap L s → Calls Try.prog 122 #[.pointer (some ⟨r, 0, none⟩)] wx fun e w' => e = .returned (.int .i64 ((L.length : Int) - (s.k : Int))) ∧ ∃ m, w' = wx.drewN m) := fun (wx : World) (hx : K.On w wx T r a cap L s) => K.cleft_any wx hx.1
  have s1 := K.sl_mid a L.length cap (s.k + sz) (s.k + sz + v * 32) ((s.k : Int) + (sz : Int)) ((s.k : Int) + (sz : Int) + (v : Int) * 32) (by omega) (by omega) (by omega) (by omega)
  have s2 := K.sl_mid' a L.length cap (s.k + sz) (s.k + sz + v * 32) ((s.k : Int) + (sz : Int)) ((s.k : Int) + (sz : Int) + (v : Int) * 32) (by omega) (by omega) (by omega) (by omega)
  rw [Nat.add_sub_cancel_left] at s1 s2
  clear h hN
  generalize K.from23 a cap (s.k + sz) = a4 at *
  generalize cap - (s.k + sz) = c4 at *
  obtain ⟨d, hd⟩ : ∃ d, d = (L.length - (s.k + sz)) / 32 := ⟨_, rfl⟩
  have tq : Int.tdiv ((L.length : Int) - (s.k : Int) - (sz : Int)) 32 = (d : Int) := by rw [Int.tdiv_eq_ediv_of_nonneg (by omega)]; omega
  have hvd : v ≤ d := by omega
  have hdL : d ≤ L.length := by omega
  have g3 : ¬ (d : Int) < (v : Int) := by omega
  clear hd
  generalize v * 32 = v32 at *
  have g1 : ¬ (most : Int) < 0 := by omega
  have g2 : ¬ (most : Int) < (v : Int) := by omega
  go_enter Try.func111, Try.ntmps111
  go_wp2_with fail
  refine HN.out.mono ?_
  rintro e w1 ⟨rfl, ho⟩
  have HON : Hid (K.On w w1 T r a cap L s) := ho
  have c0 := ho.1.c0
  have c1 := ho.1.c1
  clear ho
  go_wp2_with fail
  refine (HL.out w1 HON.out).mono ?_
  rintro e w2 ⟨rfl, m, rfl⟩
  have HON2 : Hid (K.On w (w1.drewN m) T r a cap L s) := HON.out.drew m
  go_wp2
  try (go_quiet (fail); go_wp2)
  go_ret3
  exact ⟨rfl, HON2.out⟩
end Go.Proofs.Ytdajeabhhkgibaa

namespace Go.Proofs.Ytdajeabhhkgibaa
open Go.RowKit
set_option linter.unusedVariables false
set_option linter.unusedSimpArgs false

variable {T : TypeId} {r cap : Nat} {a : Option Addr}
theorem drop_past (A B : List UInt8) (k : Nat) : (A ++ B).drop (A.length + k) = B.drop k := by
  rw [← List.drop_drop, List.drop_left]
/-- What stands in the k-th place of a list of hashes. -/
theorem cat_drop {D : List (List UInt8)} (hD : All32 D) (k : Nat) (x : List UInt8) (h : D[k]? = some x) : ((cat D).drop (k * 32)).take 32 = x := by
  induction D generalizing k with
  | nil => simp at h
  | cons y t ih =>
    have hy := hD y (by simp)
    cases k with
    | zero =>
      simp at h
      subst h
      simp [cat, List.take_append, hy]
    | succ k =>
      have := ih (fun z hz => hD z (List.mem_cons_of_mem _ hz)) k (by simpa using h)
      rw [← this]
      simp only [cat, List.flatten_cons]
      rw [show (k + 1) * 32 = y.length + k * 32 by omega, drop_past]

theorem on_below {w0 wr w2 : World} {B : Nat} {L : List UInt8} {s0 s : K.St} (h0 : K.RD w0 T r a cap L s0) (h : K.On w0 wr T r a cap L s) (hb : Below B wr w2) (hB : w0.heap.size ≤ B) : K.On w0 w2 T r a cap L s := by
  have hr := h0.lt
  have hbyt : K.Byt w2 a L := by
    rcases h0.byt with e | ⟨b, off, rfl, hc⟩
    · exact .inl e
    · rcases h.1.byt with e | ⟨b', off', e, hc'⟩
      · exact .inl e
      · cases e
        refine .inr ⟨b, off, rfl, fun j hj => ?_⟩
        have hlt : b < w0.heap.size := block_lt_of_cell (hc j hj)
        exact (World.cell?_of_block (hb.block b (by omega))).trans (hc' j hj)
  exact ⟨⟨by rw [hb.block r (by omega)]; exact h.1.row, h.1.room, hbyt, h.1.plain, h.1.at_le, h.1.few⟩, ⟨hb.os.trans h.2.os, hb.tape.trans h.2.tape, hb.output.trans h.2.output, Nat.le_trans h.2.size hb.size, fun i hi hne => (hb.block i (by omega)).trans (h.2.block i hi hne)⟩⟩

end Go.Proofs.Ytdajeabhhkgibaa

namespace Go.Proofs.Ytdajeabhhkgibaa
open Go.RowKit
set_option linter.unusedVariables false
set_option linter.unusedSimpArgs false

set_option maxHeartbeats 1000000 in
/-- The reference's Compare. -/
theorem rcmp_any (a b : List UInt8) (ha : a.length = 32) (hb : b.length = 32) (w : World) :
    Calls Try.prog 97 #[.agg (bs a), .agg (bs b)] w fun e w' => e = .returned (.int .i64 (cmpL a b)) ∧ Below w.heap.size w w' := by
  have be0 : Below w.heap.size w ((w.alloc (.cells (bs a) 30)).alloc (.cells (bs b) 30)) := ((Below.refl _ _).alloc (Nat.le_refl _) _).alloc (by simp) _
  have g0 : ((w.alloc (.cells (bs a) 30)).alloc (.cells (bs b) 30)).heap[w.heap.size]? = some (.cells (bs a) 30 (0, 0)) := heap_alloc2_old _ _ _
  have g1 : ((w.alloc (.cells (bs a) 30)).alloc (.cells (bs b) 30)).heap[w.heap.size + 1]? = some (.cells (bs b) 30 (0, 0)) := heap_alloc2_new _ _ _
  go_enter Try.func97, Try.ntmps97
  go_wp2
  generalize ((w.alloc (.cells (bs a) 30)).alloc (.cells (bs b) 30)) = W0 at *
  go_loopw [5] (fun i wr => ∃ k : Nat, k ≤ 32 ∧ i = .int .i64 k ∧ Hid (∀ j, j < k → at8 a j = at8 b j) ∧ ∃ m, wr = W0.drewN m) (fun i _ => 32 - (intOf i).toNat)
  case atStart => exact ⟨0, by omega, rfl, (fun j hj => by omega : ∀ j, j < 0 → at8 a j = at8 b j), 0, rfl⟩
  case round =>
    obtain ⟨k, hk, rfl, hsame, m, rfl⟩ := hrel
    by_cases hlt : k < 32
    · have ca := (cell_of_row W0 w.heap.size k _ _ _ g0).trans (bs_get a k (by omega))
      have cb := (cell_of_row W0 (w.heap.size + 1) k _ _ _ g1).trans (bs_get b k (by omega))
      have HL := cmpL_at a b k (by omega) (by omega) hsame.out
      have HL1 : Hid ((at8 a k < at8 b k → cmpL a b = -1) ∧ (at8 b k < at8 a k → cmpL a b = 1)) := HL
      clear HL
      have hlt' : (k : Int) < 32 := by omega
      by_cases h1 : at8 a k < at8 b k
      · go_wp2
        go_quiet (fail)
        go_wp2
        go_ret
        exact ⟨ret_int (HL1.out.1 h1).symm, below_drewN (below_drewN be0 _) _⟩
      · by_cases h2 : at8 b k < at8 a k
        · go_wp2
          go_quiet (fail)
          go_wp2
          go_quiet (fail)
          go_wp2
          go_ret
          exact ⟨ret_int (HL1.out.2 h2).symm, below_drewN (below_drewN (below_drewN be0 _) _) _⟩
        · go_wp2
          go_quiet (fail)
          go_wp2
          go_quiet (fail)
          go_wp2
          refine ⟨⟨k + 1, by omega, by go_num, ?_, _, rfl⟩, by simp [intOf]; omega⟩
          show ∀ j, j < k + 1 → at8 a j = at8 b j
          intro j hj
          by_cases e : j = k
          · subst e; omega
          · exact hsame.out j (by omega)
    · have hk2 : k = 32 := by omega
      subst hk2
      have HE : Hid (cmpL a b = 0) := by
        show cmpL a b = 0
        rw [at8_ext 32 ha hb hsame.out]
        exact cmpL_same b
      go_wp2
      go_ret
      exact ⟨ret_int HE.out.symm, below_drewN be0 _⟩

/-! ### A hash put in its place -/
theorem srise_app : ∀ {A B : List (List UInt8)}, SRise A → SRise B → (∀ a ∈ A, ∀ b ∈ B, cmpL a b < 0) → SRise (A ++ B)
  | [], B, _, hB, _ => hB
  | x :: r, B, hA, hB, h => by
    rw [List.cons_append]
    refine srise_cons (srise_app hA.tail hB (fun a ha b hb => h a (by simp [ha]) b hb)) (fun y hy => ?_)
    rcases List.mem_append.1 hy with hy | hy
    · exact hA.head hy
    · exact h x (by simp) y hy
theorem srise_take {D : List (List UInt8)} (h : SRise D) (k : Nat) : SRise (D.take k) := fun i j x y hx hy hij => by
  rw [List.getElem?_take] at hx hy
  split at hx
  · split at hy
    · exact h i j x y hx hy hij
    · simp at hy
  · simp at hx
theorem srise_drop {D : List (List UInt8)} (h : SRise D) (k : Nat) : SRise (D.drop k) := fun i j x y hx hy hij => by
  rw [List.getElem?_drop] at hx hy
  exact h (k + i) (k + j) x y hx hy (by omega)
/-- Put in at a place. -/
def ins (D : List (List UInt8)) (k : Nat) (x : List UInt8) : List (List UInt8) := D.take k ++ x :: D.drop k
theorem ins_len (D : List (List UInt8)) (k : Nat) (x : List UInt8) : (ins D k x).length = D.length + 1 := by simp [ins]; omega
theorem ins_mem (D : List (List UInt8)) (k : Nat) (x y : List UInt8) : y ∈ ins D k x ↔ y ∈ D ∨ y = x := by
  have h : y ∈ D ↔ y ∈ D.take k ∨ y ∈ D.drop k := by rw [← List.mem_append, List.take_append_drop]
  simp only [ins, List.mem_append, List.mem_cons, h]
  constructor
  · rintro (h | h | h)
    · exact .inl (.inl h)
    · exact .inr h
    · exact .inl (.inr h)
  · rintro ((h | h) | h)
    · exact .inl h
    · exact .inr (.inr h)
    · exact .inr (.inl h)
theorem all32_ins {D : List (List UInt8)} (h : All32 D) (k : Nat) {x : List UInt8} (hx : x.length = 32) : All32 (ins D k x) := fun y hy => by
  rcases (ins_mem D k x y).1 hy with hy | rfl
  · exact h y hy
  · exact hx
theorem srise_ins {D : List (List UInt8)} (h32 : All32 D) (h : SRise D) {k : Nat} {x : List UInt8} (hx : x.length = 32) (hk : k ≤ D.length) (hlo : ∀ j y, j < k → D[j]? = some y → cmpL y x < 0) (hhi : ∀ y, D[k]? = some y → cmpL x y < 0) : SRise (ins D k x) := by
  have hall : ∀ y ∈ D.drop k, cmpL x y < 0 := fun y hy => by
    obtain ⟨j, hj⟩ := List.mem_iff_getElem?.1 hy
    rw [List.getElem?_drop] at hj
    have hlt := (List.getElem?_eq_some_iff.1 hj).1
    have hz : D[k]? = some D[k] := List.getElem?_eq_getElem (by omega)
    by_cases e : j = 0
    · subst e; exact hhi y (by simpa using hj)
    · exact lt_trans hx (h32.get hz) (h32.get hj) (hhi _ hz) (h k (k + j) _ y hz hj (by omega))
  have hal : ∀ y ∈ D.take k, cmpL y x < 0 := fun y hy => by
    obtain ⟨j, hj⟩ := List.mem_iff_getElem?.1 hy
    rw [List.getElem?_take] at hj
    split at hj
    · rename_i hjk; exact hlo j y hjk hj
    · simp at hj
  refine srise_app (srise_take h k) (srise_cons (srise_drop h k) hall) (fun a ha b hb => ?_)
  rcases List.mem_cons.1 hb with rfl | hb
  · exact hal a ha
  · exact lt_trans (h32 a (List.mem_of_mem_take ha)) hx (h32 b (List.mem_of_mem_drop hb)) (hal a ha) (hall b hb)
/-- The first of a list, and the next one. -/
theorem srt_next {L D E : List (List UInt8)} {k : Nat} {x : List UInt8} (hx : L[k]? = some x) (h : Srt (L.take k) D) (h1 : SRise E) (h2 : All32 E) (h3 : ∀ y, y ∈ E ↔ y ∈ D ∨ y = x) : Srt (L.take (k + 1)) E := by
  refine ⟨h1, h2, fun y => ?_⟩
  rw [h3, h.2.2, List.take_add_one, hx]
  simp
/-- What a list is while places are freed. -/
def Shf (D X : List (List UInt8)) (k : Nat) : Prop := X.length = D.length + 1 ∧ All32 X ∧ (∀ j, j < k → X[j]? = D[j]?) ∧ ∀ j, k ≤ j → j < D.length → X[j + 1]? = D[j]?
theorem shf_zero {D : List (List UInt8)} (h : All32 D) : Shf D (D ++ [z32]) D.length := ⟨by simp, all32_app h (fun x hx => by simp at hx; subst hx; exact z32_len), fun j hj => List.getElem?_append_left hj, fun j h1 h2 => by omega⟩
theorem shf_step {D X : List (List UInt8)} {k : Nat} {p : List UInt8} (h : Shf D X k) (hk : 1 ≤ k) (hkD : k ≤ D.length) (hp : D[k - 1]? = some p) (hp32 : p.length = 32) : Shf D (X.set k p) (k - 1) := by
  obtain ⟨h1, h2, h3, h4⟩ := h
  refine ⟨by simp [h1], h2.set k hp32, fun j hj => ?_, fun j hj hjD => ?_⟩
  · rw [List.getElem?_set_ne (by omega)]; exact h3 j (by omega)
  · by_cases e : j = k - 1
    · subst e
      rw [show k - 1 + 1 = k by omega, List.getElem?_set_self (by omega)]
      exact hp.symm
    · rw [List.getElem?_set_ne (by omega)]; exact h4 j (by omega) hjD
theorem shf_end {D X : List (List UInt8)} {k : Nat} {x : List UInt8} (h : Shf D X k) (hk : k ≤ D.length) : X.set k x = ins D k x := by
  obtain ⟨h1, h2, h3, h4⟩ := h
  apply List.ext_getElem?
  intro j
  unfold ins
  rcases Nat.lt_trichotomy j k with h | h | h
  · rw [List.getElem?_set_ne (by omega), List.getElem?_append_left (by simp; omega), List.getElem?_take, if_pos h]
    exact h3 j h
  · subst h
    rw [List.getElem?_set_self (by omega), List.getElem?_append_right (by simp; omega)]
    simp [Nat.min_eq_left hk]
  · rw [List.getElem?_set_ne (by omega), List.getElem?_append_right (by simp; omega)]
    have e : (D.take k).length = k := by simp; omega
    rw [e]
    obtain ⟨m, rfl⟩ : ∃ m, j = k + 1 + m := ⟨j - (k + 1), by omega⟩
    rw [show k + 1 + m - k = m + 1 by omega, List.getElem?_cons_succ, List.getElem?_drop]
    by_cases hm : k + m < D.length
    · have := h4 (k + m) (by omega) hm
      rw [show k + 1 + m = k + m + 1 by omega]
      exact this
    · rw [List.getElem?_eq_none (by omega), List.getElem?_eq_none (by omega)]

/-! ### A block of hashes of the call's own -/
def Box (w : World) (g cap : Nat) : Prop := ∃ cur, w.heap[g]? = some (.cells cur 30 (0, 0)) ∧ cur.size = cap * 32
theorem box_setCells (g cap : Nat) : ∀ (vs : List Value) (o : Nat) (w : World), Box w g cap → Box (w.setCells g o vs) g cap
  | [], _, _, h => h
  | v :: r, o, w, ⟨cur, h1, h2⟩ => box_setCells g cap r (o + 1) _ ⟨_, heap_setCell_same w g o cur _ v h1, by simp [h2]⟩
theorem Box.below {w w' : World} {g cap B : Nat} (h : Box w g cap) (hb : Below B w w') (hg : g < B) : Box w' g cap := by
  obtain ⟨cur, h1, h2⟩ := h
  exact ⟨cur, by rw [hb.block g hg]; exact h1, h2⟩
theorem Box.lt {w : World} {g cap : Nat} (h : Box w g cap) : g < w.heap.size := by
  obtain ⟨cur, h1, h2⟩ := h
  exact (Array.getElem?_eq_some_iff.1 h1).1
theorem Box.there {w : World} {g cap n : Nat} (h : Box w g cap) (hn : n ≤ cap) : w.there g 0 (32 * n) := fun j hj => by
  obtain ⟨cur, h1, h2⟩ := h
  refine ⟨?_, ?_⟩
  · rw [Nat.zero_add, cell_of_row w g j cur _ _ h1, Array.getElem?_eq_getElem (by omega)]; rfl
  · rw [Nat.zero_add]; exact frozen_of_row w g j cur _ h1
theorem OwnH.box {w : World} {base : Nat} {v : Value} {L : List (List UInt8)} (h : OwnH w base v L) (h0 : 0 < L.length) :
    ∃ g cap, v = .slice (some ⟨g, 0, none⟩) L.length cap ∧ L.length ≤ cap ∧ cap ≤ maxLen ∧ base ≤ g ∧ Box w g cap ∧ Hs w g 0 L := by
  have ho := h.open
  obtain ⟨hL, hlen, ⟨rfl, hn⟩ | ⟨g, cap, cur, rfl, hbg, hg, hnc, hcm, hcs', htake⟩⟩ := h
  · omega
  · rcases ho with ⟨h1, _⟩ | ⟨g', cap', h1, _, _, _, h5, _⟩
    · cases h1
    · cases h1
      exact ⟨g, cap, rfl, hnc, hcm, hbg, ⟨cur, hg, hcs'⟩, h5⟩
theorem ownH_mk {w : World} {base g cap : Nat} {L : List (List UInt8)} (hL : All32 L) (hb : Box w g cap) (hn : L.length ≤ cap) (hm : cap ≤ maxLen) (hg : base ≤ g) (hs : Hs w g 0 L) : OwnH w base (.slice (some ⟨g, 0, none⟩) L.length cap) L := by
  obtain ⟨cur, h1, h2⟩ := hb
  refine ⟨hL, flat_len hL, .inr ⟨g, cap, cur, rfl, hg, h1, hn, hm, h2, ?_⟩⟩
  apply List.ext_getElem?
  intro j
  by_cases hj : j < L.length * 32
  · have hx : L[j / 32]? = some L[j / 32] := List.getElem?_eq_getElem (by omega)
    have e1 := flat_get hL (j / 32) (j % 32) _ hx (by omega)
    rw [show j / 32 * 32 + j % 32 = j by omega] at e1
    have hlt : j % 32 < (hcs L[j / 32]).length := by rw [hcs_len, hL.get hx]; omega
    have e2 := hs (j / 32) _ hx (j % 32) _ (List.getElem?_eq_getElem hlt)
    rw [show 0 + 32 * (j / 32) + j % 32 = j by omega, cell_of_row w g j cur _ _ h1] at e2
    rw [e1, List.getElem?_take, if_pos hj, List.getElem?_eq_getElem hlt, ← e2]
    simp
  · rw [List.getElem?_take, if_neg hj, List.getElem?_eq_none (by rw [flat_len hL]; omega)]
end Go.Proofs.Ytdajeabhhkgibaa

namespace Go.Proofs.Ytdajeabhhkgibaa
open Go.RowKit
set_option linter.unusedVariables false
set_option linter.unusedSimpArgs false
theorem OwnH.size {w : World} {base : Nat} {v : Value} {L : List (List UInt8)} (h : OwnH w base v L) : ∃ a cap, v = .slice a L.length cap := by
  rcases h.open with ⟨rfl, rfl⟩ | ⟨g, cap, rfl, _⟩
  · exact ⟨none, 0, rfl⟩
  · exact ⟨_, _, rfl⟩

theorem int_pred {m : Nat} (h : 1 ≤ m) : Value.int .i64 ((m : Int) - 1) = .int .i64 ((m - 1 : Nat) : Int) := by
  rw [show ((m - 1 : Nat) : Int) = (m : Int) - 1 by omega]
theorem hl_one (w : World) : Hl (w.alloc (.cells (bs z32) 30)) (some ⟨w.heap.size, 0, none⟩) [z32] := by
  refine .inr ⟨w.heap.size, 0, rfl, fun i x e => ?_⟩
  have hi : i = 0 := by have := (List.getElem?_eq_some_iff.1 e).1; simp at this; omega
  subst hi
  simp at e
  subst e
  intro j v hv
  rw [Nat.mul_zero, Nat.add_zero, Nat.zero_add, cell_of_row _ w.heap.size j (bs z32) _ (0, 0) (heap_alloc_new _ _)]
  simpa [hcs] using hv

set_option maxRecDepth 100000 in
set_option maxHeartbeats 2000000 in
theorem sorted_any (a : Option Addr) (L : List (List UInt8)) (cap : Nat) (w : World) (hL : All32 L) (hb : L.length ≤ 4398046510976) (hl : Hl w a L) :
    Calls Try.prog 41 #[.slice a L.length cap] w fun e w' => ∃ v D, e = .returned v ∧ Srt L D ∧ OwnH w' w.heap.size v D ∧ Below w.heap.size w w' := by
  obtain ⟨n, hn⟩ : ∃ n, n = L.length := ⟨_, rfl⟩
  rw [← hn] at hb ⊢
  have HN : Hid (n = L.length) := hn
  have HL : Hid (Hl w a L) := hl
  clear hn hl
  have HO0 : Hid (OwnH w w.heap.size (.slice none 0 0) []) := OwnH.nil _ _
  have HS0 : Hid (Srt (L.take 0) []) := (⟨fun i j x y h => by simp at h, fun x h => by simp at h, fun x => by simp⟩ : Srt (L.take 0) [])
  go_enter Try.func41, Try.ntmps41
  go_wp2
  go_loopw [3, 4] (fun v i wr => ∃ k : Nat, ∃ D : List (List UInt8), ∃ (va : Option Addr) (vc d : Nat), k ≤ n ∧ d ≤ k ∧ i = .int .i64 k ∧ v = .slice va d vc ∧ Hid (d = D.length) ∧ Hid (OwnH wr w.heap.size (.slice va d vc) D) ∧ Hid (Srt (L.take k) D) ∧ Below w.heap.size w wr) (fun _ i _ => n - (intOf i).toNat)
  case atStart => exact ⟨0, [], none, 0, 0, by omega, by omega, rfl, rfl, rfl, HO0, HS0, Below.refl _ _⟩
  case round =>
    obtain ⟨k, D, va, vc, d, hk, hdk, rfl, rfl, HD, HOr, HSr, bel⟩ := hrel
    by_cases hkn : k < n
    · have hkL : k < L.length := by rw [← HN.out]; exact hkn
      obtain ⟨b, off, rfl, hsA⟩ := HL.out.at hkL
      obtain ⟨x, hx⟩ : ∃ x, L[k]? = some x := ⟨_, List.getElem?_eq_getElem hkL⟩
      have hx32 := hL.get hx
      have hbB : b < w.heap.size := hsA.lt hL (by omega)
      have SX0 : Hid (w.rangeAt b (off + 32 * k) (hcs x)) := hsA k x hx
      have ixL := fun wx => indexH b off n cap k wx hkn
      have HX : Hid (L[k]? = some x) := hx
      clear hx hsA
      go_wp2
      go_loopw [5] (fun i wq => ∃ t : Nat, t ≤ d ∧ i = .int .i64 t ∧ Hid (∀ j y, j < t → D[j]? = some y → cmpL y x < 0) ∧ Hid (OwnH wq w.heap.size (.slice va d vc) D) ∧ Below w.heap.size w wq) (fun i _ => d - (intOf i).toNat)
      case atStart => exact ⟨0, by omega, rfl, (fun j y hj => by omega : ∀ j y, j < 0 → D[j]? = some y → cmpL y x < 0), HOr, bel⟩
      case round =>
        clear HOr bel
        obtain ⟨t, ht, rfl, HLo, HOr, bel⟩ := hrel
        have SX : Hid (wr.rangeAt b (off + 32 * k) (hcs x)) := rangeAt_below SX0.out bel hbB
        by_cases htd : t < d
        · have htD : t < D.length := by rw [← HD.out]; exact htd
          obtain ⟨y, hy⟩ : ∃ y, D[t]? = some y := ⟨_, List.getElem?_eq_getElem htD⟩
          have hy32 := HSr.out.2.1.get hy
          obtain ⟨g, rfl, hnc, hcm, hgB, hbox, hsg⟩ : ∃ g, va = some ⟨g, 0, none⟩ ∧ d ≤ vc ∧ vc ≤ maxLen ∧ w.heap.size ≤ g ∧ Box wr g vc ∧ Hs wr g 0 D := by
            obtain ⟨g, cg, hvg, hnc, hcm, hgB, hbox, hsg⟩ := HOr.out.box (by omega)
            simp only [Value.slice.injEq] at hvg
            obtain ⟨rfl, h2, rfl⟩ := hvg
            exact ⟨g, rfl, by omega, hcm, hgB, hbox, hsg⟩
          have SY : Hid (wr.rangeAt g (32 * t) (hcs y)) := (by have := hsg t y hy; rwa [Nat.zero_add] at this : wr.rangeAt g (32 * t) (hcs y))
          have ixD := fun wx => indexH g 0 d vc t wx htd
          simp only [Nat.zero_add] at ixD
          have HY : Hid (D[t]? = some y) := hy
          have HCm : Hid (∀ wx, Calls Try.prog 97 #[.agg (bs y), .agg (bs x)] wx fun e w' => e = .returned (.int .i64 (cmpL y x)) ∧ Below wx.heap.size wx w') := fun wx => rcmp_any y x hy32 hx32 wx
          have hne : Nonempty (ExtT wr) := ExtT.some wr
          have hgl : g < wr.heap.size := hbox.lt
          clear hy hsg hbox htD
          by_cases hc : cmpL y x < 0
          · have HL2 : Hid (∀ j z, j < t + 1 → D[j]? = some z → cmpL z x < 0) := fun j z hj hz => by
              by_cases e : j = t
              · subst e; rw [HY.out] at hz; cases hz; exact hc
              · exact HLo.out j z (by omega) hz
            generalize cmpL y x = c at *
            go_wp2_with fail
            refine wp_region_ext (by kernel_rfl) (by kernel_rfl) ?_
            repeat (first
              | (go_big_quiet_want; refine quiet_load_mid 30 _ rfl g (32 * t) rfl (bs y) _ (by rintro _ ⟨e, rfl⟩; exact e.range SY.out (hcs_pos hy32)) Try.underlying30 rfl (sizeH hy32) ?_; simp only [Act.put, List.setIfInBounds_toArray, List.set_cons_zero, List.set_cons_succ]; go_big_quiet_on)
              | (go_big_quiet_want; refine quiet_load_mid 30 _ rfl b (off + 32 * k) rfl (bs x) _ (by rintro _ ⟨e, rfl⟩; exact e.range SX.out (hcs_pos hx32)) Try.underlying30 rfl (sizeH hx32) ?_; simp only [Act.put, List.setIfInBounds_toArray, List.set_cons_zero, List.set_cons_succ]; go_big_quiet_on)
              | go_big_quiet_step (first | (go_at_call 97; exact ext_of (HCm.out _)) | fail))
            refine wpQuiet_nil ?_
            rintro w3 ⟨⟨_, bl3⟩, rfl⟩
            have O3 : Hid (OwnH w3 w.heap.size (.slice (some ⟨g, 0, none⟩) d vc) D) := HOr.out.below bl3
            have bel3 : Below w.heap.size w w3 := bel.trans (bl3.mono bel.size)
            clear bl3 hne SX SY HCm hc
            go_wp2
            exact ⟨⟨t + 1, by omega, by go_num, HL2, O3, bel3⟩, by simp [intOf]; omega⟩
          · have HXY : Hid (¬ y = x → cmpL x y < 0) := fun h => lt_of_not hx32 hy32 hc h
            generalize cmpL y x = c at *
            go_wp2_with fail
            refine wp_region_ext (by kernel_rfl) (by kernel_rfl) ?_
            repeat (first
              | (go_big_quiet_want; refine quiet_load_mid 30 _ rfl g (32 * t) rfl (bs y) _ (by rintro _ ⟨e, rfl⟩; exact e.range SY.out (hcs_pos hy32)) Try.underlying30 rfl (sizeH hy32) ?_; simp only [Act.put, List.setIfInBounds_toArray, List.set_cons_zero, List.set_cons_succ]; go_big_quiet_on)
              | (go_big_quiet_want; refine quiet_load_mid 30 _ rfl b (off + 32 * k) rfl (bs x) _ (by rintro _ ⟨e, rfl⟩; exact e.range SX.out (hcs_pos hx32)) Try.underlying30 rfl (sizeH hx32) ?_; simp only [Act.put, List.setIfInBounds_toArray, List.set_cons_zero, List.set_cons_succ]; go_big_quiet_on)
              | go_big_quiet_step (first | (go_at_call 97; exact ext_of (HCm.out _)) | fail))
            refine wpQuiet_nil ?_
            rintro w3 ⟨⟨_, bl3⟩, rfl⟩
            have O3 : Hid (OwnH w3 w.heap.size (.slice (some ⟨g, 0, none⟩) d vc) D) := HOr.out.below bl3
            have bel3 : Below w.heap.size w w3 := bel.trans (bl3.mono bel.size)
            have SX3 : Hid (w3.rangeAt b (off + 32 * k) (hcs x)) := rangeAt_below SX0.out bel3 hbB
            have SY3 : Hid (w3.rangeAt g (32 * t) (hcs y)) := rangeAt_below SY.out bl3 hgl
            have eqq := fun wx => eq23 y x hy32 hx32 wx
            clear bl3 hne SX SY HCm
            have hne : Nonempty (ExtT w3) := ExtT.some w3
            by_cases hyx : y = x
            · have hd : decide (y = x) = true := by simp [hyx]
              rw [hd] at eqq
              have HE : Hid (Srt (L.take (k + 1)) D) := srt_next HX.out HSr.out HSr.out.1 HSr.out.2.1 (fun z => ⟨fun h => .inl h, fun h => h.elim id (fun e => by rw [e, ← hyx]; exact List.mem_of_getElem? HY.out)⟩)
              clear hd hyx
              go_wp2_with fail
              refine wp_region_ext (by kernel_rfl) (by kernel_rfl) ?_
              repeat (first
                | (go_big_quiet_want; refine quiet_load_mid 30 _ rfl g (32 * t) rfl (bs y) _ (by rintro _ ⟨e, rfl⟩; exact e.range SY3.out (hcs_pos hy32)) Try.underlying30 rfl (sizeH hy32) ?_; simp only [Act.put, List.setIfInBounds_toArray, List.set_cons_zero, List.set_cons_succ]; go_big_quiet_on)
                | (go_big_quiet_want; refine quiet_load_mid 30 _ rfl b (off + 32 * k) rfl (bs x) _ (by rintro _ ⟨e, rfl⟩; exact e.range SX3.out (hcs_pos hx32)) Try.underlying30 rfl (sizeH hx32) ?_; simp only [Act.put, List.setIfInBounds_toArray, List.set_cons_zero, List.set_cons_succ]; go_big_quiet_on)
                | go_big_quiet_step (fail))
              refine wpQuiet_nil ?_
              rintro w4 ⟨⟨_, bl4⟩, rfl⟩
              have OW4 : Hid (OwnH w4 w.heap.size (.slice (some ⟨g, 0, none⟩) d vc) D) := O3.out.below bl4
              have bel4 : Below w.heap.size w w4 := bel3.trans (bl4.mono bel3.size)
              clear bl4 hne O3 bel3 SX3 SY3
              go_wp2
              exact ⟨⟨k + 1, D, some ⟨g, 0, none⟩, vc, d, by omega, by omega, by go_num, rfl, HD, OW4, HE, bel4⟩, by simp [intOf]; omega⟩
            · have hd : decide (y = x) = false := by simp [hyx]
              rw [hd] at eqq
              have HHi : Hid (∀ z, D[t]? = some z → cmpL x z < 0) := fun z hz => by
                rw [HY.out] at hz
                cases hz
                exact HXY.out hyx
              clear hd hyx
              go_wp2_with fail
              refine wp_region_ext (by kernel_rfl) (by kernel_rfl) ?_
              repeat (first
                | (go_big_quiet_want; refine quiet_load_mid 30 _ rfl g (32 * t) rfl (bs y) _ (by rintro _ ⟨e, rfl⟩; exact e.range SY3.out (hcs_pos hy32)) Try.underlying30 rfl (sizeH hy32) ?_; simp only [Act.put, List.setIfInBounds_toArray, List.set_cons_zero, List.set_cons_succ]; go_big_quiet_on)
                | (go_big_quiet_want; refine quiet_load_mid 30 _ rfl b (off + 32 * k) rfl (bs x) _ (by rintro _ ⟨e, rfl⟩; exact e.range SX3.out (hcs_pos hx32)) Try.underlying30 rfl (sizeH hx32) ?_; simp only [Act.put, List.setIfInBounds_toArray, List.set_cons_zero, List.set_cons_succ]; go_big_quiet_on)
                | go_big_quiet_step (fail))
              refine wpQuiet_nil ?_
              rintro w4 ⟨⟨_, bl4⟩, rfl⟩
              have OW4 : Hid (OwnH w4 w.heap.size (.slice (some ⟨g, 0, none⟩) d vc) D) := O3.out.below bl4
              have bel4 : Below w.heap.size w w4 := bel3.trans (bl4.mono bel3.size)
              clear bl4 hne O3 bel3 SX3 SY3
              have O1 : Hid (OwnH (w4.alloc (.cells (bs z32) 30)) w.heap.size (.slice (some ⟨g, 0, none⟩) d vc) D) := OW4.out.below ((Below.refl _ _).alloc (Nat.le_refl _) _)
              have be1 : Below w.heap.size w (w4.alloc (.cells (bs z32) 30)) := bel4.alloc bel4.size _
              have B1 : Hid (Hl (w4.alloc (.cells (bs z32) 30)) (some ⟨w4.heap.size, 0, none⟩) [z32]) := hl_one w4
              have A1 : Hid (All32 [z32]) := (fun y h => by simp at h; subst h; exact z32_len : All32 [z32])
              have S1 : Hid (D.length + ([z32] : List (List UInt8)).length ≤ 4398046511104 + 4096) := (by rw [← HD.out]; simp; omega : D.length + ([z32] : List (List UInt8)).length ≤ 4398046511104 + 4096)
              have Z1 : Hid (w.heap.size ≤ (w4.alloc (.cells (bs z32) 30)).heap.size) := be1.size
              go_wp2_with (first | (at_builtin; refine wpList_appH rfl (.tmp 46) (.tmp 48) rfl w.heap.size (.slice (some ⟨g, 0, none⟩) d vc) D rfl O1.out ⟨w4.heap.size, 0, none⟩ 1 1 [z32] rfl rfl A1.out B1.out S1.out Z1.out ?_) | fail)
              intro v5 w5 own5 grow5 hv5
              have be5 : Below w.heap.size w w5 := be1.grown grow5 Z1.out (fun k hk => (World.ownsRow.lt O1.out.2 k hk).1)
              have hz5 : (D ++ [z32]).length = d + 1 := by rw [List.length_append, ← HD.out]; rfl
              obtain ⟨g5, c5, rfl, hc5, hm5, hg5, hbox5, hs5⟩ := own5.box (by omega)
              rw [hz5] at hc5 ⊢
              have HB5 : Hid (Box w5 g5 c5) := hbox5
              have HS5 : Hid (Hs w5 g5 0 (D ++ [z32])) := hs5
              have HF5 : Hid (Shf D (D ++ [z32]) d) := (by have := shf_zero HSr.out.2.1; rwa [← HD.out] at this : Shf D (D ++ [z32]) d)
              have HM5 : Hid (c5 ≤ maxLen) := hm5
              clear own5 grow5 hv5 hz5 hbox5 hs5 hm5 O1 B1 A1 S1 Z1 be1 OW4 bel4
              go_wp2
              go_loopw [6] (fun i wq => ∃ (m : Nat) (X : List (List UInt8)), t ≤ m ∧ m ≤ d ∧ i = .int .i64 m ∧ Hid (Shf D X m) ∧ Hid (Hs wq g5 0 X) ∧ Hid (Box wq g5 c5) ∧ Below w.heap.size w wq) (fun i _ => (intOf i).toNat)
              case atStart => exact ⟨d, D ++ [z32], by omega, Nat.le_refl _, by go_num, HF5, HS5, HB5, be5⟩
              case round =>
                clear HF5 HS5 HB5 be5 bel
                obtain ⟨m, X, htm, hmd, rfl, HF, HSx, HBx, bel⟩ := hrel
                by_cases hlt : t < m
                · obtain ⟨q, hq⟩ : ∃ q, D[m - 1]? = some q := ⟨_, List.getElem?_eq_getElem (by have := HD.out; omega)⟩
                  have hq32 := HSr.out.2.1.get hq
                  have SQ : Hid (wr.rangeAt g5 (32 * (m - 1)) (hcs q)) := (by have := HSx.out (m - 1) q ((HF.out.2.2.1 (m - 1) (by omega)).trans hq); rwa [Nat.zero_add] at this : wr.rangeAt g5 (32 * (m - 1)) (hcs q))
                  have ix1 : ∀ wx, (Instr.indexAt 31 (.slice (some ⟨g5, 0, none⟩) (d + 1) c5) (.int .i64 ((m : Int) - 1))).run Try.prog wx = .ok (.pointer (some ⟨g5, 32 * (m - 1), none⟩)) wx := fun wx => (by
                    have := indexH g5 0 (d + 1) c5 (m - 1) wx (by omega)
                    rwa [Nat.zero_add, show ((m - 1 : Nat) : Int) = (m : Int) - 1 by omega] at this)
                  have ix2 := fun wx => indexH g5 0 (d + 1) c5 m wx (by omega)
                  simp only [Nat.zero_add] at ix2
                  have hXl : X.length = d + 1 := by rw [HF.out.1, ← HD.out]
                  have HTm : Hid (wr.there g5 (32 * m) 32) := (by have := there_part (m := 32) (i := 32 * m) (HBx.out.there hc5) (by omega); rwa [Nat.zero_add] at this : wr.there g5 (32 * m) 32)
                  have HF2 : Hid (Shf D (X.set m q) (m - 1)) := shf_step HF.out (by omega) (by have := HD.out; omega) hq hq32
                  have HS2 : Hid (Hs (wr.setCells g5 (32 * m) (hcs q)) g5 0 (X.set m q)) := (by
                    have := Hs.set HSx.out HF.out.2.1 m q hq32 (by omega) (by rw [Nat.zero_add]; exact HTm.out)
                    rwa [Nat.zero_add] at this : Hs (wr.setCells g5 (32 * m) (hcs q)) g5 0 (X.set m q))
                  have HB2 : Hid (Box (wr.setCells g5 (32 * m) (hcs q)) g5 c5) := box_setCells g5 c5 _ _ _ HBx.out
                  have bel2 : Below w.heap.size w (wr.setCells g5 (32 * m) (hcs q)) := below_setCells bel hg5 _ _
                  clear hq HF HSx HBx hXl
                  go_wp2_with (first
                    | (refine wpList_load_mid rfl 30 _ rfl g5 (32 * (m - 1)) rfl (hcs q) _ SQ.out Try.underlying30 rfl (by rw [hcs_len, hq32]; exact hsH) ?_; rw [hcs_arr])
                    | (refine wpList_store_mid rfl 30 _ _ rfl g5 (32 * m) (bs q) rfl rfl (by rw [bs_size, hq32]; exact HTm.out) (by rw [bs_size, hq32]; exact hsH) (bs_one _) ?_)
                    | fail)
                  exact ⟨⟨m - 1, X.set m q, by omega, by omega, int_pred (by omega), HF2, HS2, HB2, bel2⟩, by simp [intOf]; omega⟩
                · obtain rfl : t = m := by omega
                  have SX5 : Hid (wr.rangeAt b (off + 32 * k) (hcs x)) := rangeAt_below SX0.out bel hbB
                  have ix2 := fun wx => indexH g5 0 (d + 1) c5 t wx (by omega)
                  simp only [Nat.zero_add] at ix2
                  have HTm : Hid (wr.there g5 (32 * t) 32) := (by have := there_part (m := 32) (i := 32 * t) (HBx.out.there hc5) (by omega); rwa [Nat.zero_add] at this : wr.there g5 (32 * t) 32)
                  have hXl : X.length = d + 1 := by rw [HF.out.1, ← HD.out]
                  have HI : Hid (X.set t x = ins D t x) := shf_end HF.out (by rw [← HD.out]; omega)
                  have hil : (ins D t x).length = d + 1 := by rw [ins_len, ← HD.out]
                  have HS2 : Hid (Hs (wr.setCells g5 (32 * t) (hcs x)) g5 0 (ins D t x)) := (by
                    have := Hs.set HSx.out HF.out.2.1 t x hx32 (by omega) (by rw [Nat.zero_add]; exact HTm.out)
                    rwa [Nat.zero_add, HI.out] at this : Hs (wr.setCells g5 (32 * t) (hcs x)) g5 0 (ins D t x))
                  have HI32 : Hid (All32 (ins D t x)) := all32_ins HSr.out.2.1 t hx32
                  have HO2 : Hid (OwnH (wr.setCells g5 (32 * t) (hcs x)) w.heap.size (.slice (some ⟨g5, 0, none⟩) (d + 1) c5) (ins D t x)) := (by
                    have := ownH_mk (base := w.heap.size) HI32.out (box_setCells g5 c5 _ _ _ HBx.out) (by rw [hil]; exact hc5) HM5.out hg5 HS2.out
                    rwa [hil] at this : OwnH (wr.setCells g5 (32 * t) (hcs x)) w.heap.size (.slice (some ⟨g5, 0, none⟩) (d + 1) c5) (ins D t x))
                  have HI1 : Hid (d + 1 = (ins D t x).length) := hil.symm
                  have HS3 : Hid (Srt (L.take (k + 1)) (ins D t x)) := srt_next HX.out HSr.out (srise_ins HSr.out.2.1 HSr.out.1 hx32 (by rw [← HD.out]; omega) HLo.out HHi.out) HI32.out (fun y => ins_mem D t x y)
                  have bel2 : Below w.heap.size w (wr.setCells g5 (32 * t) (hcs x)) := below_setCells bel hg5 _ _
                  clear HF HSx HBx hXl hil HI HS2
                  go_wp2_with (first
                    | (refine wpList_load_mid rfl 30 _ rfl b (off + 32 * k) rfl (hcs x) _ SX5.out Try.underlying30 rfl (by rw [hcs_len, hx32]; exact hsH) ?_; rw [hcs_arr])
                    | (refine wpList_store_mid rfl 30 _ _ rfl g5 (32 * t) (bs x) rfl rfl (by rw [bs_size, hx32]; exact HTm.out) (by rw [bs_size, hx32]; exact hsH) (bs_one _) ?_)
                    | fail)
                  exact ⟨⟨k + 1, ins D t x, some ⟨g5, 0, none⟩, c5, d + 1, by omega, by omega, by go_num, rfl, HI1, HO2, HS3, bel2⟩, by simp [intOf]; omega⟩
        · obtain rfl : t = d := by omega
          have hne : Nonempty (ExtT wr) := ExtT.some wr
          go_wp2_with fail
          refine wp_region_ext (by kernel_rfl) (by kernel_rfl) ?_
          repeat (go_big_quiet_step (fail))
          refine wpQuiet_nil ?_
          rintro w3 ⟨⟨_, bl3⟩, rfl⟩
          have O3 : Hid (OwnH w3 w.heap.size (.slice va t vc) D) := HOr.out.below bl3
          have bel3 : Below w.heap.size w w3 := bel.trans (bl3.mono bel.size)
          clear bl3 hne SX
          have hne : Nonempty (ExtT w3) := ExtT.some w3
          go_wp2_with fail
          refine wp_region_ext (by kernel_rfl) (by kernel_rfl) ?_
          repeat (go_big_quiet_step (fail))
          refine wpQuiet_nil ?_
          rintro w4 ⟨⟨_, bl4⟩, rfl⟩
          have OW4 : Hid (OwnH w4 w.heap.size (.slice va t vc) D) := O3.out.below bl4
          have bel4 : Below w.heap.size w w4 := bel3.trans (bl4.mono bel3.size)
          clear bl4 hne O3 bel3
          have HHi : Hid (∀ y, D[t]? = some y → cmpL x y < 0) := fun y hy => by have := (List.getElem?_eq_some_iff.1 hy).1; have := HD.out; omega
          have O1 : Hid (OwnH (w4.alloc (.cells (bs z32) 30)) w.heap.size (.slice va t vc) D) := OW4.out.below ((Below.refl _ _).alloc (Nat.le_refl _) _)
          have be1 : Below w.heap.size w (w4.alloc (.cells (bs z32) 30)) := bel4.alloc bel4.size _
          have B1 : Hid (Hl (w4.alloc (.cells (bs z32) 30)) (some ⟨w4.heap.size, 0, none⟩) [z32]) := hl_one w4
          have A1 : Hid (All32 [z32]) := (fun y h => by simp at h; subst h; exact z32_len : All32 [z32])
          have S1 : Hid (D.length + ([z32] : List (List UInt8)).length ≤ 4398046511104 + 4096) := (by rw [← HD.out]; simp; omega : D.length + ([z32] : List (List UInt8)).length ≤ 4398046511104 + 4096)
          have Z1 : Hid (w.heap.size ≤ (w4.alloc (.cells (bs z32) 30)).heap.size) := be1.size
          go_wp2_with (first | (at_builtin; refine wpList_appH rfl (.tmp 46) (.tmp 48) rfl w.heap.size (.slice va t vc) D rfl O1.out ⟨w4.heap.size, 0, none⟩ 1 1 [z32] rfl rfl A1.out B1.out S1.out Z1.out ?_) | fail)
          intro v5 w5 own5 grow5 hv5
          have be5 : Below w.heap.size w w5 := be1.grown grow5 Z1.out (fun k hk => (World.ownsRow.lt O1.out.2 k hk).1)
          have hz5 : (D ++ [z32]).length = t + 1 := by rw [List.length_append, ← HD.out]; rfl
          obtain ⟨g5, c5, rfl, hc5, hm5, hg5, hbox5, hs5⟩ := own5.box (by omega)
          rw [hz5] at hc5 ⊢
          have HB5 : Hid (Box w5 g5 c5) := hbox5
          have HS5 : Hid (Hs w5 g5 0 (D ++ [z32])) := hs5
          have HF5 : Hid (Shf D (D ++ [z32]) t) := (by have := shf_zero HSr.out.2.1; rwa [← HD.out] at this : Shf D (D ++ [z32]) t)
          have HM5 : Hid (c5 ≤ maxLen) := hm5
          clear own5 grow5 hv5 hz5 hbox5 hs5 hm5 O1 B1 A1 S1 Z1 be1 OW4 bel4
          go_wp2
          go_loopw [6] (fun i wq => ∃ (m : Nat) (X : List (List UInt8)), t ≤ m ∧ m ≤ t ∧ i = .int .i64 m ∧ Hid (Shf D X m) ∧ Hid (Hs wq g5 0 X) ∧ Hid (Box wq g5 c5) ∧ Below w.heap.size w wq) (fun i _ => (intOf i).toNat)
          case atStart => exact ⟨t, D ++ [z32], by omega, Nat.le_refl _, by go_num, HF5, HS5, HB5, be5⟩
          case round =>
            clear HF5 HS5 HB5 be5 bel
            obtain ⟨m, X, htm, hmd, rfl, HF, HSx, HBx, bel⟩ := hrel
            by_cases hlt : t < m
            · omega
            · obtain rfl : t = m := by omega
              have SX5 : Hid (wr.rangeAt b (off + 32 * k) (hcs x)) := rangeAt_below SX0.out bel hbB
              have ix2 := fun wx => indexH g5 0 (t + 1) c5 t wx (by omega)
              simp only [Nat.zero_add] at ix2
              have HTm : Hid (wr.there g5 (32 * t) 32) := (by have := there_part (m := 32) (i := 32 * t) (HBx.out.there hc5) (by omega); rwa [Nat.zero_add] at this : wr.there g5 (32 * t) 32)
              have hXl : X.length = t + 1 := by rw [HF.out.1, ← HD.out]
              have HI : Hid (X.set t x = ins D t x) := shf_end HF.out (by rw [← HD.out]; omega)
              have hil : (ins D t x).length = t + 1 := by rw [ins_len, ← HD.out]
              have HS2 : Hid (Hs (wr.setCells g5 (32 * t) (hcs x)) g5 0 (ins D t x)) := (by
                have := Hs.set HSx.out HF.out.2.1 t x hx32 (by omega) (by rw [Nat.zero_add]; exact HTm.out)
                rwa [Nat.zero_add, HI.out] at this : Hs (wr.setCells g5 (32 * t) (hcs x)) g5 0 (ins D t x))
              have HI32 : Hid (All32 (ins D t x)) := all32_ins HSr.out.2.1 t hx32
              have HO2 : Hid (OwnH (wr.setCells g5 (32 * t) (hcs x)) w.heap.size (.slice (some ⟨g5, 0, none⟩) (t + 1) c5) (ins D t x)) := (by
                have := ownH_mk (base := w.heap.size) HI32.out (box_setCells g5 c5 _ _ _ HBx.out) (by rw [hil]; exact hc5) HM5.out hg5 HS2.out
                rwa [hil] at this : OwnH (wr.setCells g5 (32 * t) (hcs x)) w.heap.size (.slice (some ⟨g5, 0, none⟩) (t + 1) c5) (ins D t x))
              have HI1 : Hid (t + 1 = (ins D t x).length) := hil.symm
              have HS3 : Hid (Srt (L.take (k + 1)) (ins D t x)) := srt_next HX.out HSr.out (srise_ins HSr.out.2.1 HSr.out.1 hx32 (by rw [← HD.out]; omega) HLo.out HHi.out) HI32.out (fun y => ins_mem D t x y)
              have bel2 : Below w.heap.size w (wr.setCells g5 (32 * t) (hcs x)) := below_setCells bel hg5 _ _
              clear HF HSx HBx hXl hil HI HS2
              go_wp2_with (first
                | (refine wpList_load_mid rfl 30 _ rfl b (off + 32 * k) rfl (hcs x) _ SX5.out Try.underlying30 rfl (by rw [hcs_len, hx32]; exact hsH) ?_; rw [hcs_arr])
                | (refine wpList_store_mid rfl 30 _ _ rfl g5 (32 * t) (bs x) rfl rfl (by rw [bs_size, hx32]; exact HTm.out) (by rw [bs_size, hx32]; exact hsH) (bs_one _) ?_)
                | fail)
              exact ⟨⟨k + 1, ins D t x, some ⟨g5, 0, none⟩, c5, t + 1, by omega, by omega, by go_num, rfl, HI1, HO2, HS3, bel2⟩, by simp [intOf]; omega⟩
    · obtain rfl : k = n := by omega
      have HE : Hid (Srt L D) := (by have := HSr.out; rwa [HN.out, List.take_length] at this : Srt L D)
      go_wp2
      go_ret
      exact ⟨_, D, rfl, HE.out, HOr.out, bel⟩
end Go.Proofs.Ytdajeabhhkgibaa

namespace Go.Proofs.Ytdajeabhhkgibaa
open Go.RowKit
set_option linter.unusedVariables false
set_option linter.unusedSimpArgs false

theorem nodup_len : ∀ (A B : List (List UInt8)), A.Nodup → (∀ x ∈ A, x ∈ B) → A.length ≤ B.length
  | [], B, _, _ => by simp
  | a :: A, B, hn, hs => by
    have hm : a ∈ B := hs a (by simp)
    rw [List.nodup_cons] at hn
    have := nodup_len A (B.erase a) hn.2 (fun x hx => by
      have hne : x ≠ a := fun e => hn.1 (by rw [← e]; exact hx)
      exact (List.mem_erase_of_ne hne).2 (hs x (by simp [hx])))
    rw [List.length_erase_of_mem hm] at this
    have hp : 0 < B.length := List.length_pos_of_mem hm
    simp only [List.length_cons]
    omega
theorem fold_keys : ∀ (L : List (List UInt8)) (E : List (List UInt8 × Value)), (E.map (·.1)).Nodup → ((L.foldl (fun E h => M.put E h (.agg #[])) E).map (·.1)).Nodup ∧ ∀ x, (M.look (L.foldl (fun E h => M.put E h (.agg #[])) E) x).isSome = true ↔ ((M.look E x).isSome = true ∨ x ∈ L)
  | [], E, hn => ⟨hn, fun x => by simp⟩
  | h :: L, E, hn => by
    have ih := fold_keys L (M.put E h (.agg #[])) (M.put_keys E h _ hn)
    refine ⟨ih.1, fun x => ?_⟩
    rw [List.foldl_cons, ih.2 x, M.put_look E h _ hn x]
    by_cases e : x = h
    · simp [e]
    · simp [e]
theorem uMap_keys (L : List (List UInt8)) : ((uMap L).map (·.1)).Nodup ∧ ∀ x, x ∈ (uMap L).map (·.1) ↔ x ∈ L := by
  have h := fold_keys L [] (by simp)
  refine ⟨h.1, fun x => ?_⟩
  have h2 := h.2 x
  have h3 : (M.look ([] : List (List UInt8 × Value)) x).isSome = false := rfl
  rw [h3] at h2
  simp only [Bool.false_eq_true, false_or] at h2
  rw [← h2]
  show _ ↔ (M.look (uMap L) x).isSome = true
  constructor
  · intro hm
    rw [List.mem_map] at hm
    obtain ⟨⟨k, v⟩, hp, rfl⟩ := hm
    have hn : ((uMap L).map (·.1)).Nodup := h.1
    show (M.look (uMap L) k).isSome = true
    rw [M.look_of_mem hn hp]
    rfl
  · intro hm
    obtain ⟨v, hv⟩ := Option.isSome_iff_exists.1 hm
    rw [List.mem_map]
    exact ⟨(x, v), M.look_mem hv, rfl⟩
theorem srise_nodup {D : List (List UInt8)} (h : SRise D) : D.Nodup := by
  rw [List.nodup_iff_pairwise_ne, List.pairwise_iff_getElem]
  intro i j hi hj hij e
  have := h i j D[i] D[j] (List.getElem?_eq_getElem hi) (List.getElem?_eq_getElem hj) hij
  rw [e, cmpL_same] at this
  omega
theorem srt_len {L D : List (List UInt8)} (h : Srt L D) : D.length = (uMap L).length := by
  obtain ⟨k1, k2⟩ := uMap_keys L
  have a := nodup_len D ((uMap L).map (·.1)) (srise_nodup h.1) (fun x hx => (k2 x).2 ((h.2.2 x).1 hx))
  have b := nodup_len ((uMap L).map (·.1)) D k1 (fun x hx => (h.2.2 x).2 ((k2 x).1 hx))
  rw [List.length_map] at a b
  omega
/-- What the document's Of answers. -/
def ROf (U : Nat) (L : List (List UInt8)) (w : World) (e : Ending) (w' : World) : Prop := ∃ q g, e = .returned (.pointer (some ⟨q, 0, none⟩)) ∧ RW w' q g (ofB U) 7 (bitAt (addL _ (ofB_pos U) 7 (fun _ => 0) L)) ∧ Below w.heap.size w w' ∧ w.heap.size ≤ g ∧ w.heap.size ≤ q
theorem ofB_end (U j : Nat) (h1 : j = 0 ∨ (64 + 8 * j - 8 < 10 * U ∧ 64 + 8 * j - 8 < 65536)) (h2 : ¬ (64 + 8 * j < 10 * U ∧ 64 + 8 * j < 65536)) : 64 + 8 * j = ofB U := by
  unfold ofB
  by_cases a : 10 * U ≤ 65536
  · rw [Nat.min_eq_right a]
    by_cases b : 10 * U ≤ 64
    · rw [Nat.max_eq_left b]; omega
    · rw [Nat.max_eq_right (by omega)]; omega
  · rw [Nat.min_eq_left (by omega), Nat.max_eq_right (by omega)]; omega
theorem ofB_8 (U : Nat) : 8 ≤ ofB U ∧ ofB U % 8 = 0 := by
  have h1 : 64 ≤ max 64 (min 65536 (10 * U)) := Nat.le_max_left _ _
  unfold ofB
  generalize max 64 (min 65536 (10 * U)) = m at *
  omega
set_option maxRecDepth 100000 in
set_option maxHeartbeats 4000000 in
/-- The document's Of. -/
theorem rof_any (a : Option Addr) (L : List (List UInt8)) (c : Nat) (w : World) (hL : All32 L) (hn : L.length ≤ 4398046510976) (hl : Hl w a L) :
    Calls Try.prog 10 #[.slice a L.length c] w (ROf (uMap L).length L w) := by
  have HU := Hid.mk' (sorted_any a L c w hL hn hl)
  have hul := uMap_len L
  have HLL := Hid.mk' (fun wx (h : Below w.heap.size w wx) => hl.below hL h)
  have HAL := Hid.mk' hL
  have HLen : Hid (∀ D, Srt L D → D.length = (uMap L).length) := fun D h => srt_len h
  clear hl hL
  generalize (uMap L).length = U at *
  have hb0 := ofB_pos U
  have hb1 := ofB_le U
  have hb8 := (ofB_8 U).1
  have hbm := (ofB_8 U).2
  have HBE := Hid.mk' (ofB_end U)
  have HE := Hid.mk' (fun W => rnew_ok (ofB U) 7 W hb8 hb1 hbm (by omega) (by omega))
  have HAD := Hid.mk' (fun q g f h W (hl : h.length = 32) (hF : RW W q g (ofB U) 7 f) => radd_any q g (ofB U) 7 f h W hl hb0 hb1 (by omega) hF)
  obtain ⟨AA, hAA⟩ : ∃ AA : List (List UInt8) → Nat → Bool, AA = fun M => bitAt (addL (ofB U) hb0 7 (fun _ => 0) M) := ⟨_, rfl⟩
  have HSN : Hid (∀ M h, AA (M ++ [h]) = onAll (AA M) (spotL h (ofB U) hb0 7)) := fun M h => by rw [hAA]; show bitAt _ = onAll (bitAt _) _; rw [addL_snoc, onAll_bits]
  have HA0 : Hid (AA [] = fun _ => false) := by show _ = _; rw [hAA]; funext n; exact bit_zero n
  have HFin : Hid (∀ q g W, RW W q g (ofB U) 7 (AA L) → Below w.heap.size w W → w.heap.size ≤ g → w.heap.size ≤ q → ROf U L w (.returned (.pointer (some ⟨q, 0, none⟩))) W) := fun q g W h1 h2 h3 h4 => by rw [hAA] at h1; exact ⟨q, g, rfl, h1, h2, h3, h4⟩
  clear hAA hbm
  go_enter Try.func10, Try.ntmps10
  go_wp2_with (first
    | (go_at_call 41; refine HU.out.mono ?_; rintro e W1 ⟨v, D, rfl, hsrt, hown, b1⟩; obtain ⟨va, vc, rfl⟩ := OwnH.size hown; rw [HLen.out D hsrt]; have B1 := Hid.mk' b1; clear b1 hsrt hown)
    | fail)
  clear HU HLen
  go_loopw [4] (fun b wr => ∃ j : Nat, b = .int .i64 ((64 + 8 * j : Nat) : Int) ∧ j ≤ 8184 ∧ wr = W1 ∧ Hid (j = 0 ∨ (64 + 8 * j - 8 < 10 * U ∧ 64 + 8 * j - 8 < 65536))) (fun b _ => 65536 - (intOf b).toNat)
  case atStart => exact ⟨0, rfl, by omega, rfl, .inl rfl⟩
  case round =>
    obtain ⟨j, rfl, hj, rfl, HJ⟩ := hrel
    by_cases h1 : 64 + 8 * j < 10 * U ∧ 64 + 8 * j < 65536
    · have k1 : ((64 + 8 * j : Nat) : Int) < 10 * (U : Int) := by omega
      have k2 : ((64 + 8 * j : Nat) : Int) < 65536 := by omega
      have HJ2 : Hid (j + 1 = 0 ∨ (64 + 8 * (j + 1) - 8 < 10 * U ∧ 64 + 8 * (j + 1) - 8 < 65536)) := .inr (by omega)
      have hj2 : j + 1 ≤ 8184 := by omega
      have he : ((64 + 8 * (j + 1) : Nat) : Int) = ((64 + 8 * j : Nat) : Int) + 8 := by omega
      have HE8 := Hid.mk' he
      clear h1 HJ he
      generalize hbb : 64 + 8 * j = bb at *
      have HBB := Hid.mk' hbb
      clear hbb
      go_wp2
      go_roundw
      case rel => exact ⟨j + 1, by rw [HE8.out], hj2, trivial, HJ2⟩
      case measure => simp [intOf]; omega
    · have hEnd := HBE.out j HJ.out h1
      have k12 : ¬ ((ofB U : Nat) : Int) < 10 * (U : Int) ∨ ¬ ((ofB U : Nat) : Int) < 65536 := by rw [← hEnd]; omega
      rw [hEnd]
      have HNew := Hid.mk' (HE.out wr)
      have HW1 := Hid.mk' B1.out.size
      clear h1 HJ hEnd HBE hj HE
      generalize ofB U = bits at *
      generalize hnn : L.length = n at *
      have HNN := Hid.mk' hnn
      clear hnn
      by_cases k1 : ((bits : Nat) : Int) < 10 * (U : Int)
      · have k2 : ¬ ((bits : Nat) : Int) < 65536 := by omega
        clear k12
        go_wp2_with (first
          | (go_at_call 19; refine HNew.out.mono ?_; rintro e W2 ⟨rfl, rw2, b2, s2⟩; have R2 := Hid.mk' rw2; have B2 := Hid.mk' (B1.out.trans (b2.mono B1.out.size)); clear rw2 b2 s2)
          | fail)
        have H0 : Hid (RW W2 (wr.heap.size + 1) wr.heap.size bits 7 (AA (L.take 0))) := by rw [List.take_zero, HA0.out]; exact R2
        clear HNew B1 R2 k1
        generalize wr.heap.size = g at *
        go_loopw [7] (fun i wq => ∃ k : Nat, k ≤ n ∧ i = .int .i64 (k : Int) ∧ Hid (RW wq (g + 1) g bits 7 (AA (L.take k))) ∧ Hid (Below w.heap.size w wq)) (fun i _ => n - (intOf i).toNat)
        case atStart => exact ⟨0, by omega, rfl, H0, B2⟩
        case round =>
          clear H0 B2
          obtain ⟨k, hk, rfl, HF, HW⟩ := hrel
          by_cases hkn : k < n
          · have hkn' : (k : Int) < (n : Int) := by omega
            obtain ⟨b, off, rfl, hs⟩ := (HLL.out _ HW.out).at (i := k) (by rw [HNN.out]; exact hkn)
            obtain ⟨h, hh⟩ : ∃ h, L[k]? = some h := ⟨L[k]'(by rw [HNN.out]; exact hkn), List.getElem?_eq_getElem _⟩
            have HRA := Hid.mk' (hs k h hh)
            have HH := Hid.mk' (HAL.out.get hh)
            have ix := fun wx => indexH b off n c k wx hkn
            have HS : Hid (AA (L.take (k + 1)) = onAll (AA (L.take k)) (spotL h bits hb0 7)) := by show _ = _; rw [List.take_add_one, hh, Option.toList, HSN.out]
            have HC := Hid.mk' (HAD.out (g + 1) g (AA (L.take k)) h _ HH.out HF.out)
            clear hs hh
            go_wp2_with (first
              | (with_reducible refine at_ld ?_; refine wpList_ld (.tmp 35) rfl rfl b (off + 32 * k) rfl h HH.out HRA.out ?_)
              | (go_at_call 13; refine HC.out.mono ?_; rintro e W3 ⟨rfl, f3, k3⟩; have F3 : Hid (RW W3 (g + 1) g bits 7 (AA (L.take (k + 1)))) := (by rw [HS.out]; exact f3); have B3 := Hid.mk' (k3.toBelow HW.out HW.out.size HW1.out); clear f3 k3)
              | fail)
            exact ⟨⟨k + 1, by omega, by go_num, F3, B3⟩, by simp [intOf]; omega⟩
          · obtain rfl : k = n := by omega
            have hkn' : ¬ (k : Int) < (k : Int) := by omega
            have HF2 : Hid (RW wr (g + 1) g bits 7 (AA L)) := by have := HF.out; rw [← HNN.out, List.take_length] at this; exact this
            have HR := Hid.mk' (HFin.out (g + 1) g _ HF2.out HW.out HW1.out (by have := HW1.out; omega))
            clear HF HF2
            go_wp2
            go_ret
            exact HR.out
      · clear k12
        go_wp2_with (first
          | (go_at_call 19; refine HNew.out.mono ?_; rintro e W2 ⟨rfl, rw2, b2, s2⟩; have R2 := Hid.mk' rw2; have B2 := Hid.mk' (B1.out.trans (b2.mono B1.out.size)); clear rw2 b2 s2)
          | fail)
        have H0 : Hid (RW W2 (wr.heap.size + 1) wr.heap.size bits 7 (AA (L.take 0))) := by rw [List.take_zero, HA0.out]; exact R2
        clear HNew B1 R2 k1
        generalize wr.heap.size = g at *
        go_loopw [7] (fun i wq => ∃ k : Nat, k ≤ n ∧ i = .int .i64 (k : Int) ∧ Hid (RW wq (g + 1) g bits 7 (AA (L.take k))) ∧ Hid (Below w.heap.size w wq)) (fun i _ => n - (intOf i).toNat)
        case atStart => exact ⟨0, by omega, rfl, H0, B2⟩
        case round =>
          clear H0 B2
          obtain ⟨k, hk, rfl, HF, HW⟩ := hrel
          by_cases hkn : k < n
          · have hkn' : (k : Int) < (n : Int) := by omega
            obtain ⟨b, off, rfl, hs⟩ := (HLL.out _ HW.out).at (i := k) (by rw [HNN.out]; exact hkn)
            obtain ⟨h, hh⟩ : ∃ h, L[k]? = some h := ⟨L[k]'(by rw [HNN.out]; exact hkn), List.getElem?_eq_getElem _⟩
            have HRA := Hid.mk' (hs k h hh)
            have HH := Hid.mk' (HAL.out.get hh)
            have ix := fun wx => indexH b off n c k wx hkn
            have HS : Hid (AA (L.take (k + 1)) = onAll (AA (L.take k)) (spotL h bits hb0 7)) := by show _ = _; rw [List.take_add_one, hh, Option.toList, HSN.out]
            have HC := Hid.mk' (HAD.out (g + 1) g (AA (L.take k)) h _ HH.out HF.out)
            clear hs hh
            go_wp2_with (first
              | (with_reducible refine at_ld ?_; refine wpList_ld (.tmp 35) rfl rfl b (off + 32 * k) rfl h HH.out HRA.out ?_)
              | (go_at_call 13; refine HC.out.mono ?_; rintro e W3 ⟨rfl, f3, k3⟩; have F3 : Hid (RW W3 (g + 1) g bits 7 (AA (L.take (k + 1)))) := (by rw [HS.out]; exact f3); have B3 := Hid.mk' (k3.toBelow HW.out HW.out.size HW1.out); clear f3 k3)
              | fail)
            exact ⟨⟨k + 1, by omega, by go_num, F3, B3⟩, by simp [intOf]; omega⟩
          · obtain rfl : k = n := by omega
            have hkn' : ¬ (k : Int) < (k : Int) := by omega
            have HF2 : Hid (RW wr (g + 1) g bits 7 (AA L)) := by have := HF.out; rw [← HNN.out, List.take_length] at this; exact this
            have HR := Hid.mk' (HFin.out (g + 1) g _ HF2.out HW.out HW1.out (by have := HW1.out; omega))
            clear HF HF2
            go_wp2
            go_ret
            exact HR.out
end Go.Proofs.Ytdajeabhhkgibaa

namespace Go.Proofs.Ytdajeabhhkgibaa.K
open Go.RowKit
set_option linter.unusedVariables false
set_option linter.unusedSimpArgs false

/-- Values of one cell that lie in memory. -/
def Vals (w : World) (a : Option Addr) (X : List Value) : Prop := X = [] ∨ ∃ b off, a = some ⟨b, off, none⟩ ∧ ∀ j u, X[j]? = some u → w.cell? ⟨b, off + j, none⟩ = some u
/-- A row of the call's own. -/
def OwnV (w : World) (base : Nat) (e : TypeId) (v : Value) (X : List Value) : Prop := w.ownsRow base e 1 v X.length X
theorem Vals.below {w w' : World} {a : Option Addr} {X : List Value} (h : Vals w a X) (hb : Below w.heap.size w w') : Vals w' a X := by
  rcases h with rfl | ⟨b, off, rfl, hc⟩
  · exact .inl rfl
  · exact .inr ⟨b, off, rfl, fun j u hj => (hb.cell (p := ⟨b, off + j, none⟩) (block_lt_of_cell (hc j u hj))).trans (hc j u hj)⟩
theorem OwnV.below {w w' : World} {base : Nat} {e : TypeId} {v : Value} {X : List Value} (h : OwnV w base e v X) (hb : Below w.heap.size w w') : OwnV w' base e v X := by
  refine ⟨h.1, ?_⟩
  rcases h.2 with hn | ⟨g, cap, cur, rfl, hbg, hg, rest⟩
  · exact .inl hn
  · exact .inr ⟨g, cap, cur, rfl, hbg, by rw [hb.block g (Array.getElem?_eq_some_iff.1 hg).1]; exact hg, rest⟩
theorem OwnV.open {w : World} {base : Nat} {e : TypeId} {v : Value} {X : List Value} (h : OwnV w base e v X) :
    ∃ a cap, v = .slice a X.length cap ∧ X.length ≤ cap ∧ Vals w a X ∧ (a = none → X = [] ∧ cap = 0) := by
  rcases h.2 with ⟨rfl, hn⟩ | ⟨g, cap, cur, rfl, hbg, hg, hnc, hcm, hcs, htake⟩
  · obtain rfl : X = [] := List.eq_nil_of_length_eq_zero hn
    exact ⟨none, 0, rfl, Nat.le_refl _, .inl rfl, fun _ => ⟨rfl, rfl⟩⟩
  · refine ⟨some ⟨g, 0, none⟩, cap, rfl, hnc, .inr ⟨g, 0, rfl, fun j u hj => ?_⟩, fun h => by cases h⟩
    rw [Nat.zero_add, cell_of_row w g j cur e (0, 0) hg]
    rw [← htake, List.getElem?_take] at hj
    split at hj
    · simpa using hj
    · cases hj
theorem app_at {P : Program} (w : World) (base : Nat) (t ty e : TypeId) (i : TypeInfo) (z : Value) (size bytes : Nat) (ht : P.underlying t = some (.slice e)) (hi : P.info? e = some i) (hz : i.zero = some z)
    (hsize : i.size = size) (hby : i.bytes = bytes) (hzs : z.cells.size = size) (hsz : 0 < size) (v : Value) (n : Nat) (xs : List Value) (hown : w.ownsRow base e size v n xs)
    (a : Addr) (m c : Nat) (news : List Value) (hl : news.length = m * size) (hnews : ∀ j u, news[j]? = some u → w.cell? (a.add j) = some u) (h1 : ∀ u ∈ news, u.oneCell' = true)
    (h63 : n + m ≤ maxLen) (hbytes : ((n + m) + (n + m) / 4 + 192) * bytes ≤ 281474976710656) (hbase : base ≤ w.heap.size) :
    ∃ v' w', (Builtin.append_ #[t, t] ty #[v, .slice (some a) m c]).run P w = .ok v' w' ∧ w'.ownsRow base e size v' (n + m) (xs ++ news) ∧ w.grownBy w' v.ownBlock ∧ (v'.ownBlock = v.ownBlock ∨ v'.ownBlock = some w.heap.size) := by
  obtain ⟨v', w', hr, h2, h3, h4⟩ := run_append_own_wide (P := P) w base t ty e i z size bytes ht hi hz hsize hby hzs hsz v n xs hown a m c news hl hnews h1 h63 hbytes hbase
  refine ⟨v', w', hr, h2, h3, ?_⟩
  have hx := hown.1
  subst hsize
  subst hby
  have hbig : n + m ≤ 9223372036854775807 := by simp only [maxLen] at h63; omega
  rcases hown.2 with ⟨rfl, rfl⟩ | ⟨g, cap, cur, rfl, hbg, hg, hnc, hcm, hcs, htake⟩
  · by_cases hm : m = 0
    · left; rw [(h4.2 ⟨rfl, hm⟩)]
    · have hk := run_append_nil (P := P) w t ty e i z ht hi hz a m c news hl hnews (by omega) (by omega) (Nat.le_trans (Nat.mul_le_mul_right _ (by omega)) hbytes)
      rw [hr] at hk
      simp only [Result.ok.injEq] at hk
      rw [hk.1]
      exact .inr rfl
  · by_cases hroom : n + m ≤ cap
    · have hk := run_append_room (P := P) w t ty e i ht hi g n cap cur hg a m c news hl hnews h1 hroom (by rw [hl, hcs, ← Nat.add_mul]; exact Nat.mul_le_mul_right _ hroom)
      rw [hr] at hk
      simp only [Result.ok.injEq] at hk
      rw [hk.1]
      exact .inl rfl
    · have hk := run_append_grow (P := P) w t ty e i z ht hi hz ⟨g, 0, none⟩ n cap xs hx (hown.cells (g := g) rfl) a m c news hl hnews (by omega) (by omega) (growslice_fits_wide (by omega) hbytes)
      rw [hr] at hk
      simp only [Result.ok.injEq] at hk
      rw [hk.1]
      exact .inr rfl

theorem run_appV (T e : TypeId) (z : Value) (ht : Try.prog.underlying T = some (.slice e)) (hi : (Try.prog.info? e).map (fun i => (i.zero, i.size, i.bytes)) = some (some z, 1, 8)) (hz1 : z.cells.size = 1)
    (w : World) (base : Nat) (ty : TypeId) (v : Value) (L : List Value) (a : Option Addr) (M : List Value) (c : Nat) (hown : OwnV w base e v L) (hb : Vals w a M) (h1 : ∀ u ∈ M, u.oneCell' = true)
    (h : L.length + M.length ≤ 28000000000000) (hbase : base ≤ w.heap.size) :
    ∃ v' w', (Builtin.append_ #[T, T] ty #[v, .slice a M.length c]).run Try.prog w = .ok v' w' ∧ OwnV w' base e v' (L ++ M) ∧ w.grownBy w' v.ownBlock ∧ (v'.ownBlock = v.ownBlock ∨ v'.ownBlock = some w.heap.size) := by
  obtain ⟨i, hi, hz, hs, hby⟩ := info_parts hi
  cases a with
  | some ad =>
    have hnews : ∀ j u, M[j]? = some u → w.cell? (ad.add j) = some u := fun j u hj => by
      rcases hb with rfl | ⟨b, off, e, hc⟩
      · simp at hj
      · cases e
        rw [Addr.add_mid]
        exact hc j u hj
    obtain ⟨v', w', hr, h2, h3, h5⟩ := app_at (P := Try.prog) w base T ty e i z 1 8 ht hi hz hs hby hz1 (by decide) v L.length L hown ad M.length c M (by omega) hnews h1 (by unfold maxLen; omega) (by omega) hbase
    refine ⟨v', w', hr, ?_, h3, h5⟩
    unfold OwnV
    rw [List.length_append]
    exact h2
  | none =>
    obtain rfl : M = [] := by
      rcases hb with rfl | ⟨b, off, e, _⟩
      · rfl
      · cases e
    rcases hown.2 with ⟨rfl, hn⟩ | ⟨g, cap, cur, rfl, hbg, hg, hnc, rest⟩
    · refine ⟨.slice none 0 0, w, ?_, by rw [List.append_nil]; exact hown, ⟨rfl, rfl, rfl, Nat.le_refl _, fun _ _ _ => rfl⟩, .inl rfl⟩
      simp [Builtin.append_, run_underlying ht, sizeOf, typeInfo, hi, Builtin.lenOf, Builtin.firstCells, loadCells, loadCellsFrom]
    · refine ⟨.slice (some ⟨g, 0, none⟩) L.length cap, w, ?_, by rw [List.append_nil]; exact hown, ⟨rfl, rfl, rfl, Nat.le_refl _, fun _ _ _ => rfl⟩, .inl rfl⟩
      simp [Builtin.append_, run_underlying ht, sizeOf, typeInfo, hi, Builtin.lenOf, Builtin.firstCells, hnc, storeCells]
theorem wpList_appV {ops : Array Oper} {rest : List Oper} {o : Oper} {a : Act} {w : World} {Q : Exit → Act → World → Prop} (hgd : o.guard = none) (s x : Operand) (T e : TypeId) (z : Value) (ht : Try.prog.underlying T = some (.slice e)) (hi : (Try.prog.info? e).map (fun i => (i.zero, i.size, i.bytes)) = some (some z, 1, 8)) (hz1 : z.cells.size = 1)
    (ho : o.op = .call { callee := .builtin .append, args := #[s, x], argTypes := #[T, T] }) (base : Nat) (v : Value) (L : List Value) (hs : a.eval s = v) (hown : OwnV w base e v L)
    (aa : Option Addr) (m c : Nat) (M : List Value) (hx : a.eval x = .slice aa m c) (hm : M.length = m) (hb : Vals w aa M) (h1 : ∀ u ∈ M, u.oneCell' = true) (hlen : L.length + M.length ≤ 28000000000000) (hbase : base ≤ w.heap.size)
    (h : ∀ v' w', OwnV w' base e v' (L ++ M) → w.grownBy w' v.ownBlock → (v'.ownBlock = v.ownBlock ∨ v'.ownBlock = some w.heap.size) → wpList Try.prog ops Q rest (a.put o.dst v') w') : wpList Try.prog ops Q (o :: rest) a w :=
  wpList_plain hgd fun _ hK => by
    subst hm
    obtain ⟨v', w', hr, h2, h3, h4⟩ := run_appV T e z ht hi hz1 w base o.type v L aa M c hown hb h1 hlen hbase
    unfold Oper.wp execOp
    simp only [ho, resolve, invoke, builtin, Sem.run_bind, Sem.run_pure, Result.andThen_ok, List.map_toArray, List.map_cons, List.map_nil, hs, hx, hr]
    exact hK _ _ (h v' w' h2 h3 h4)
theorem vals_lit (w : World) (x : Value) (t : TypeId) : Vals (w.alloc (.cells #[x] t)) (some ⟨w.heap.size, 0, none⟩) [x] :=
  .inr ⟨w.heap.size, 0, rfl, fun j u hj => by
    have hl := (List.getElem?_eq_some_iff.1 hj).1
    obtain rfl : j = 0 := by simp at hl; omega
    rw [cell_of_row _ w.heap.size 0 _ _ _ (heap_alloc_new _ _)]
    simpa using hj⟩
theorem ownV_empty (w : World) (e : TypeId) : OwnV (w.alloc (.cells #[] e)) w.heap.size e (.slice (some ⟨w.heap.size, 0, none⟩) 0 0) [] :=
  ⟨rfl, .inr ⟨w.heap.size, 0, #[], rfl, Nat.le_refl _, heap_alloc_new _ _, by simp, by simp [maxLen], rfl, rfl⟩⟩
theorem ownV_nil (w : World) (base : Nat) (e : TypeId) : OwnV w base e (.slice none 0 0) [] := World.ownsRow_nil w base e 1
theorem below_ownV {w w1 w2 : World} {base : Nat} {e : TypeId} {v : Value} {L : List Value} (hb : Below base w w1) (ho : OwnV w1 base e v L) (gr : w1.grownBy w2 v.ownBlock) (hz : base ≤ w1.heap.size) : Below base w w2 :=
  hb.grown gr hz (fun k hk => (World.ownsRow.lt ho k hk).1)
theorem step_appV {ops : Array Oper} {o : Oper} {a : Act} {w : World} {K : Act → World → Prop} {Q : Exit → Act → World → Prop} {E : Prop} (hgd : o.guard = none) (s x : Operand) (T e : TypeId) (z : Value) (ht : Try.prog.underlying T = some (.slice e)) (hi : (Try.prog.info? e).map (fun i => (i.zero, i.size, i.bytes)) = some (some z, 1, 8)) (hz1 : z.cells.size = 1)
    (ho : o.op = .call { callee := .builtin .append, args := #[s, x], argTypes := #[T, T] }) (base : Nat) (v : Value) (L : List Value) (hs : a.eval s = v) (hown : OwnV w base e v L)
    (aa : Option Addr) (m c : Nat) (M : List Value) (hx : a.eval x = .slice aa m c) (hm : M.length = m) (hb : Vals w aa M) (h1 : ∀ u ∈ M, u.oneCell' = true) (hlen : L.length + M.length ≤ 28000000000000) (hbase : base ≤ w.heap.size)
    (h : ∀ v' w', OwnV w' base e v' (L ++ M) → w.grownBy w' v.ownBlock → (v'.ownBlock = v.ownBlock ∨ v'.ownBlock = some w.heap.size) → K (a.put o.dst v') w') : if Region.wanted o (yielded ops a.tmps) = true then Oper.wp Try.prog o a w K Q else E := by
  have hw : Region.wanted o (yielded ops a.tmps) = true := by simp [Region.wanted, hgd]
  rw [if_pos hw]
  subst hm
  obtain ⟨v', w', hr, h2, h3, h4⟩ := run_appV T e z ht hi hz1 w base o.type v L aa M c hown hb h1 hlen hbase
  unfold Oper.wp execOp
  simp only [ho, resolve, invoke, builtin, Sem.run_bind, Sem.run_pure, Result.andThen_ok, List.map_toArray, List.map_cons, List.map_nil, hs, hx, hr]
  exact h v' w' h2 h3 h4
end Go.Proofs.Ytdajeabhhkgibaa.K

