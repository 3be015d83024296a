import Derived.Test.YtbpmpcmmdiaiiaaDoorP12
import Derived.StillTailTactics
import Derived.Test.YtbpmpcmmdiaiiaaDoorP3
import Derived.Laws.FloatArith
namespace Go.Proofs.YtbpmpcmmdiaiiaaDoor
open Go.RowKit
set_option linter.unusedVariables false
set_option linter.unusedSimpArgs false

section
variable {P : Program} {ops : Array Oper} {a : Act} {w : World} {o : Oper} {K : Act → Prop}
/-- A whole row out of the middle of a block, in a region that stands still. -/
theorem still_load_mid (hw : Region.wanted o (yielded ops a.tmps) = true) (ty : TypeId) (x : Operand) (ho : o.op = .load ty x) (b j : Nat) (hx : a.eval x = .pointer (some ⟨b, j, none⟩)) (cs : List Value) (d : TypeDesc) (hS : w.rangeAt b j cs)
    (hu : P.underlying ty = some d) (hd : d.isRow = true) (hi : (P.info? ty).map (·.size) = some cs.length) (hk : K (a.put o.dst (.agg cs.toArray))) : if Region.wanted o (yielded ops a.tmps) = true then o.still P a w K else K (a.put o.dst undef) := by
  rw [if_pos hw]
  unfold Oper.still execOp
  simp only [ho, hx, Instr.loadAt, Instr.sureAddr, Sem.run_bind, Sem.run_pure, Result.andThen_ok, run_loadVar_mid w b j ty cs d hS hu hd hi]
  exact ⟨rfl, hk⟩
/-- What is built of parts, likewise. -/
theorem still_build (hw : Region.wanted o (yielded ops a.tmps) = true) (ty : TypeId) (parts : Array (Nat × Operand)) (ho : o.op = .build ty parts) (l : List (Nat × Value)) (hl : (parts.map fun (i, x) => (i, a.eval x)).toList = l) (Z : Array Value) (hz : P.built ty l = some Z)
    (hk : K (a.put o.dst (.agg Z))) : if Region.wanted o (yielded ops a.tmps) = true then o.still P a w K else K (a.put o.dst undef) := by
  rw [if_pos hw]
  unfold Oper.still execOp
  simp only [ho, Sem.run_bind, Sem.run_pure, Result.andThen_ok, run_build w ty _ Z (by rw [hl]; exact hz)]
  exact ⟨rfl, hk⟩
end
/-- The two, side by side. -/
structure OneI (w : World) (r : Nat) (a : Option Addr) (cap : Nat) (B : List UInt8) (p : Nat) (wr : World) (s : K.St) (g : Option Nat) (M : List UInt8) (k : Nat) : Prop where
  rd : K.RD wr 92 r a cap B s
  ws : K.WS wr 50 p g M 0
  bl : Below w.heap.size w wr
  gr : g ≠ some r
  ga : ∀ ad, a = some ad → some ad.block ≠ g
  al : ∀ ad, a = some ad → ad.block < wr.heap.size
  gz : ∀ q, g = some q → w.heap.size ≤ q
  eq : s.bad = 0 → M = B.take s.k
  le : M.length ≤ B.length + 40 * k
  rp : r ≠ p
  ap : ∀ ad, a = some ad → ad.block ≠ p
  wr0 : w.heap.size ≤ r
  wp0 : w.heap.size ≤ p
theorem OneI.ext {w : World} {r : Nat} {a : Option Addr} {cap : Nat} {B : List UInt8} {p : Nat} {wr : World} {s : K.St} {g : Option Nat} {M : List UInt8} {k : Nat} (I : OneI w r a cap B p wr s g M k) : OneI w r a cap B p wr s g M (k + 1) :=
  ⟨I.rd, I.ws, I.bl, I.gr, I.ga, I.al, I.gz, I.eq, by have := I.le; omega, I.rp, I.ap, I.wr0, I.wp0⟩
set_option maxHeartbeats 1000000 in
/-- One thing read, and written again. -/
theorem OneI.step {w : World} {r : Nat} {a : Option Addr} {cap : Nat} {B : List UInt8} {p : Nat} {wr : World} {s : K.St} {g : Option Nat} {M : List UInt8} {k : Nat} (I : OneI w r a cap B p wr s g M k) (hT : K.Tabs w) (hB : B.length ≤ 1048576) (hk : k ≤ 1048576)
    (kd : Int) (hk10 : kd ≠ 10) (o : OpV) (R : List UInt8) (D : List (List UInt8)) (s' : K.St) (w2 wx : World) (on : K.On wr w2 92 r a cap B s') (gd : GdO w2 wr.heap.size kd o R D) (rel : Rel B s s' (enc kd o R D)) (hx : Below w2.heap.size w2 wx) :
    Calls Tryd.prog 7 #[.pointer (some ⟨p, 0, none⟩), .agg (o.c kd)] wx fun x w4 => x = .returned (.bool true) ∧ (∃ g' M', OneI w r a cap B p w4 s' g' M' (k + 1)) ∧ K.FrW p g wx w4 := by
  have hE : (enc kd o R D).length ≤ 1048576 + 40 := by
    rcases rel with ⟨_, _, h3, _, h5⟩ | ⟨_, h2⟩
    · omega
    · omega
  have hle := I.le
  have hlp := I.ws.lt
  have hlr := I.rd.lt
  have b2 : Below w.heap.size w w2 := I.bl.trans (on.2.below _ I.wr0 I.bl.size)
  have bx : Below w.heap.size w wx := b2.trans (hx.mono b2.size)
  have ws2 : K.WS w2 50 p g M 0 := WS_fr I.ws on.2 (fun e => I.rp e.symm) I.gr
  have wsx : K.WS wx 50 p g M 0 := ws2.below hx
  have rdx : K.RD wx 92 r a cap B s' := RD_b on.1 hx
  have hsz : wr.heap.size ≤ wx.heap.size := Nat.le_trans on.2.size hx.size
  have hpx : p < wx.heap.size := wsx.lt
  have hrx : r < wx.heap.size := rdx.lt
  refine (wr_one kd hk10 o R D wx wr.heap.size (gd.below hx) wsx (fun q e => I.ws.glt e) hlp (hT.below bx) (by omega)).mono fun x w4 h => ?_
  obtain ⟨h1, g', ws4, fr, nw⟩ := h
  refine ⟨h1, ⟨g', M ++ enc kd o R D, ?_⟩, fr⟩
  have hg' : ∀ q, g' = some q → q < wx.heap.size → g = some q := fun q e hq => by
    rcases nw with e1 | ⟨y, e1, hy⟩
    · exact e1.symm.trans e
    · rw [e1] at e; cases e; omega
  refine ⟨RD_frw rdx fr I.rp (fun e => I.gr e.symm) (fun ad e => ⟨I.ap ad e, I.ga ad e⟩), ws4, ?_, ?_, ?_, ?_, ?_, ?_, ?_, I.rp, I.ap, I.wr0, I.wp0⟩
  · have hz := bx.size
    have hw0 := I.wp0
    refine ⟨fr.os.trans bx.os, fr.tape.trans bx.tape, fr.output.trans bx.output, Nat.le_trans bx.size fr.size, fun q hq => (fr.block q (by omega) (by omega) (fun e => by have := I.gz q e.symm; omega)).trans (bx.block q hq)⟩
  · intro e
    exact I.gr (hg' r e hrx)
  · intro ad e e2
    exact I.ga ad e (hg' _ e2.symm (Nat.lt_of_lt_of_le (I.al ad e) hsz)).symm
  · intro ad e
    exact Nat.lt_of_lt_of_le (Nat.lt_of_lt_of_le (I.al ad e) hsz) fr.size
  · intro q e
    rcases nw with e1 | ⟨y, e1, hy⟩
    · exact I.gz q (e1.symm.trans e)
    · rw [e1] at e
      cases e
      exact Nat.le_trans bx.size hy
  · intro hb
    rcases rel with ⟨h3, h4, h5, h6, h7⟩ | ⟨h3, _⟩
    · rw [I.eq h3, h5, List.take_add]
      congr 1
      exact h6.symm
    · exact absurd hb h3
  · rw [List.length_append]
    rcases rel with ⟨h3, h4, h5, h6, h7⟩ | ⟨h3, h4⟩
    · have := I.eq h3
      have hlM : M.length ≤ s.k := by rw [this, List.length_take]; omega
      omega
    · omega
namespace K
set_option maxRecDepth 100000 in
theorem wdone_gen {p : Nat} {g : Option Nat} {M : List UInt8} (w : World) (hw : WS w 50 p g M 0) (hl : M.length ≤ 140737488355328) :
    Calls Tryd.prog 9 #[.pointer (some ⟨p, 0, none⟩)] w fun x w' => ∃ a cv, x = .returned (.tuple #[.slice a M.length cv, .int .i64 0]) ∧ Byt w' a M ∧ Below w.heap.size w w' := by
  obtain ⟨a, cv, c0, c1, hb, ha⟩ := hw.view
  clear hw
  have HC : Hid (Calls Tryd.prog 39 #[.slice a M.length cv] w fun x w' => ∃ a cv, x = .returned (.slice a M.length cv) ∧ Byt w' a M ∧ Below w.heap.size w w') := (clone_all a M.length cv M w rfl hl (fun e => by rcases ha with ⟨_, _, h⟩ | ⟨b, h⟩; exact h; rw [e] at h; cases h) hb).mono fun x w' h => by
    obtain ⟨v, h1, h2, h3⟩ := h
    obtain ⟨a', cap', rfl, _, hb', _⟩ := h2.open
    exact ⟨a', cap', h1, hb', h3⟩
  clear hb hl ha
  generalize M.length = n at *
  go_enter Tryd.func9, Tryd.ntmps9
  go_wp2_with fail
  refine HC.out.mono ?_
  rintro x w1 ⟨a1, cv1, rfl, h2, h3⟩
  have H2 := Hid.mk' h2
  have H3 := Hid.mk' h3
  clear h2 h3
  go_wp2
  go_ret2
  exact ⟨_, _, rfl, H2.out, H3.out⟩
end K
set_option maxRecDepth 100000 in
set_option maxHeartbeats 4000000 in
theorem one_all (a0 : Option Addr) (B : List UInt8) (nb cb : Nat) (a1 : Option Addr) (rs : List (Int × Int × Int × Int)) (n c1 : Nat) (w : World) (hB : B.length = nb) (hnb : nb ≤ 1048576) (ha0 : a0 = none → cb = 0) (hb : K.Byt w a0 B) (hn : rs.length = n) (hnn : n ≤ 1048576) (hr : Rdl w a1 rs)
    (hrb : ∀ k u m e, (k, u, m, e) ∈ rs → 0 ≤ u ∧ u < 18446744073709551616 ∧ -9223372036854775808 ≤ m ∧ m < 9223372036854775808) (hT : K.Tabs w) :
    Calls Tryd.prog 5 #[.slice a0 nb cb, .slice a1 n c1] w fun e w' => e = .returned (.bool true) ∧ Below w.heap.size w w' := by
  have HL := K.Hid.mk' (K.live_any w hT)
  have HT := K.Hid.mk' hT
  have HB := K.Hid.mk' hb
  have HBn := K.Hid.mk' hB
  have HN := K.Hid.mk' hn
  have HR := K.Hid.mk' hr
  have HRB := K.Hid.mk' hrb
  have HA := K.Hid.mk' ha0
  clear hT hb hB hn hr hrb ha0
  go_enter Tryd.func5, Tryd.ntmps5
  go_wp2_with fail
  refine HL.out.mono ?_
  rintro e w1 ⟨rfl, b1⟩
  have B1 := K.Hid.mk' b1
  have N1 := K.Hid.mk' (K.new_gen a0 nb cb B w1 HBn.out (by omega) HA.out (K.byt_below HB.out b1))
  clear b1 HL
  go_wp2_with fail
  refine N1.out.mono ?_
  rintro e w2 ⟨r, a, cap, rfl, rd2, hr2, b2, hblk⟩
  have B2 : Hid (Below w.heap.size w w2) := B1.out.trans (b2.mono B1.out.size)
  have hz1 := B1.out.size
  have hz2 := B2.out.size
  have I0 : Hid (OneI w r a cap B w2.heap.size (w2.alloc (.cells #[.slice none 0 0, .int .i64 0] 50)) ⟨0, 0, 0⟩ none [] 0) := by
    have bA : Below w2.heap.size w2 (w2.alloc (.cells #[.slice none 0 0, .int .i64 0] 50)) := (Below.refl _ _).alloc (Nat.le_refl _) _
    have hlr := rd2.lt
    refine ⟨RD_b rd2 bA, K.ws_new w2 _, B2.out.trans (bA.mono hz2), by simp, fun ad _ => (by simp), fun ad e => Nat.lt_of_lt_of_le (hblk ad e) bA.size, fun q e => (by cases e), fun _ => (by simp), by simp, by omega, fun ad e => (by have := hblk ad e; omega), by omega, by omega⟩
  clear rd2 hr2 b2 hblk N1 hz1
  go_wp2
  generalize (w2.alloc (.cells #[.slice none 0 0, .int .i64 0] 50)) = W0 at *
  go_loopw [7] (fun i wr => ∃ (k : Nat) (s : K.St) (g : Option Nat) (M : List UInt8), k ≤ n ∧ i = .int .i64 k ∧ Hid (OneI w r a cap B w2.heap.size wr s g M k)) (fun i _ => n - (intOf i).toNat)
  case atStart => exact ⟨0, _, _, _, Nat.zero_le _, rfl, I0⟩
  case round =>
    obtain ⟨k, s, g, M, hk, rfl, HI⟩ := hrel
    by_cases hkn : k < n
    · obtain ⟨bl, off, kd, ou, om, oe, rfl, hmem, hra, hbl⟩ := HR.out.at (i := k) (by rw [HN.out]; exact hkn)
      have HM := K.Hid.mk' (HRB.out kd ou om oe (List.mem_of_getElem? hmem))
      have RA : Hid (wr.rangeAt bl (off + 4 * k) [.int .i64 kd, .int .u64 ou, .int .i64 om, .int .i64 oe]) := rangeAt_below hra HI.out.bl hbl
      have HBL := K.Hid.mk' hbl
      have ix := fun wx => indexRead bl off n c1 k wx hkn
      have c0 : wr.cell? ⟨bl, off + 4 * k, none⟩ = some (.int .i64 kd) := RA.out 0 _ rfl
      clear hra hbl hmem
      by_cases h10 : kd = 10
      · subst h10
        have I1 := K.Hid.mk' HI.out.ext
        go_wp2
        go_roundw
        case rel => exact ⟨k + 1, s, g, M, by omega, by go_num, I1⟩
        case measure => simp [intOf]; omega
      · have RD1 := K.Hid.mk' (rd_one kd ou om oe h10 HM.out.1 HM.out.2.1 HM.out.2.2.1 HM.out.2.2.2 wr (HT.out.below HI.out.bl) (fun wx _ => HT.out.ne HI.out.wr0) HI.out.rd)
        go_wp2_with (first
          | (refine wpList_load_mid rfl 45 _ rfl bl (off + 4 * k) rfl [.int .i64 kd, .int .u64 ou, .int .i64 om, .int .i64 oe] _ RA.out Tryd.underlying45 rfl sizeRead ?_)
          | fail)
        refine RD1.out.mono ?_
        rintro x w3 ⟨o, R, D, s', rfl, on3, gd3, rel3⟩
        have hg0 : w3.heap.size < (w3.alloc (.cells o.g 42)).heap.size := by simp
        have hgs : o.g.size = 40 := gC_size gd3.hh
        have hgo : o.g.all (·.oneCell') = true := gC_one rfl rfl rfl rfl rfl rfl rfl rfl
        have GA := gotAt_row gd3.hh (heap_alloc_new w3 (.cells o.g 42)) (show o.g = gC _ _ _ _ _ _ _ _ _ from rfl)
        have bA : Below w3.heap.size w3 (w3.alloc (.cells o.g 42)) := (Below.refl _ _).alloc (Nat.le_refl _) _
        have hbu := built_op kd o gd3.hh gd3.e
        have hi7 : (Tryd.prog.info? 31).map (·.size) = some (hcs o.h).length := by rw [hcs_len, gd3.hh]; exact hsH
        have hu7 := Tryd.underlying31
        have HST : Hid (∀ wx, Below (w3.alloc (.cells o.g 42)).heap.size (w3.alloc (.cells o.g 42)) wx → Calls Tryd.prog 7 #[.pointer (some ⟨w2.heap.size, 0, none⟩), .agg (o.c kd)] wx fun x w4 => x = .returned (.bool true) ∧ (∃ g' M', OneI w r a cap B w2.heap.size w4 s' g' M' (k + 1)) ∧ K.FrW w2.heap.size g wx w4) := fun wx hx =>
          HI.out.step HT.out (by rw [HBn.out]; omega) (by omega) kd h10 o R D s' w3 wx on3 gd3 rel3 (bA.trans (hx.mono bA.size))
        have hp3 : w2.heap.size < w3.heap.size := Nat.lt_of_lt_of_le HI.out.ws.lt on3.2.size
        have hg3 : ∀ q, g = some q → q < w3.heap.size := fun q e => Nat.lt_of_lt_of_le (HI.out.ws.glt e) on3.2.size
        have hb3 : Below w.heap.size w w3 := HI.out.bl.trans (on3.2.below _ HI.out.wr0 HI.out.bl.size)
        have c3 : (w3.alloc (.cells o.g 42)).cell? ⟨bl, off + 4 * k, none⟩ = some (.int .i64 kd) := by
          have := on3.2.cell (p := ⟨bl, off + 4 * k, none⟩) (by show bl ≠ r; have := HI.out.wr0; have := HBL.out; omega) c0
          rw [bA.cell (p := ⟨bl, off + 4 * k, none⟩) (by show bl < _; have := hb3.size; have := HBL.out; omega)]
          exact this
        have hblp : bl ≠ w2.heap.size := by have := HI.out.wp0; have := HBL.out; omega
        have hblg : some bl ≠ g := fun e => by have := HI.out.gz bl e.symm; have := HBL.out; omega
        have hbl3 : bl < (w3.alloc (.cells o.g 42)).heap.size := by have := hb3.size; have := HBL.out; simp; omega
        obtain ⟨q, hq⟩ : ∃ q, q = w3.heap.size := ⟨_, rfl⟩
        have hqp : q ≠ w2.heap.size := by omega
        have hqg : some q ≠ g := fun e => by have := hg3 q e.symm; omega
        have hgg : o.g = gC (.int .u8 o.b) (.bool o.v) (.int .u64 (o.u : Int)) (.int .i64 o.n) (.float .f64 o.f) (.string o.s) (.slice o.ra o.rn o.rc) o.h (.slice o.la o.ln o.lc) := rfl
        rw [← hq] at GA hg0
        generalize hW : w3.alloc (.cells o.g 42) = W at *
        obtain ⟨oC', hoC⟩ : ∃ C, C = o.c kd := ⟨_, rfl⟩
        obtain ⟨oG', hoG⟩ : ∃ C, C = o.g := ⟨_, rfl⟩
        rw [← hoC] at hbu HST
        rw [← hoG] at hgs hgo hW ⊢
        clear hoC hoG hgg on3 gd3 rel3 RD1 hg3 hp3 hb3 bA c0
        obtain ⟨ob, ov, ou', on', of', os, ora, orn, orc, oh, ola, oln, olc, oe'⟩ := o
        simp only at GA hbu hi7
        obtain ⟨p0, p1, p2, p3, p4, p5, p6, ph, p39⟩ := GA
        have HSS : Hid (∀ wx w4, Below W.heap.size W wx → K.FrW w2.heap.size g wx w4 → w4.cell? ⟨bl, off + 4 * k, none⟩ = some (.int .i64 kd) ∧ w4.cell? ⟨q, 0, none⟩ = some (.int .u8 ob) ∧ w4.cell? ⟨q, 1, none⟩ = some (.bool ov) ∧ w4.cell? ⟨q, 2, none⟩ = some (.int .u64 (ou' : Int)) ∧ w4.cell? ⟨q, 3, none⟩ = some (.int .i64 on') ∧ w4.cell? ⟨q, 4, none⟩ = some (.float .f64 of') ∧ w4.cell? ⟨q, 5, none⟩ = some (.string os) ∧ w4.cell? ⟨q, 6, none⟩ = some (.slice ora orn orc) ∧ w4.rangeAt q 7 (hcs oh) ∧ w4.cell? ⟨q, 39, none⟩ = some (.slice ola oln olc)) := fun wx w4 hx fr => by
          have e1 : w4.heap[bl]? = W.heap[bl]? := (fr.block bl (Nat.lt_of_lt_of_le hbl3 hx.size) hblp hblg).trans (hx.block bl hbl3)
          have e2 : w4.heap[q]? = W.heap[q]? := (fr.block q (Nat.lt_of_lt_of_le hg0 hx.size) hqp hqg).trans (hx.block q hg0)
          exact ⟨cell_block e1 c3, cell_block e2 p0, cell_block e2 p1, cell_block e2 p2, cell_block e2 p3, cell_block e2 p4, cell_block e2 p5, cell_block e2 p6, fun j v hv => cell_block e2 (ph j v hv), cell_block e2 p39⟩
        have HWR : Hid (∀ wx, Below W.heap.size W wx → Calls Tryd.prog 7 #[.pointer (some ⟨w2.heap.size, 0, none⟩), .agg oC'] wx fun x w4 => x = .returned (.bool true) ∧ Hid (∃ g' M', OneI w r a cap B w2.heap.size w4 s' g' M' (k + 1)) ∧ w4.cell? ⟨bl, off + 4 * k, none⟩ = some (.int .i64 kd) ∧ w4.cell? ⟨q, 0, none⟩ = some (.int .u8 ob) ∧ w4.cell? ⟨q, 1, none⟩ = some (.bool ov) ∧ w4.cell? ⟨q, 2, none⟩ = some (.int .u64 (ou' : Int)) ∧ w4.cell? ⟨q, 3, none⟩ = some (.int .i64 on') ∧ w4.cell? ⟨q, 4, none⟩ = some (.float .f64 of') ∧ w4.cell? ⟨q, 5, none⟩ = some (.string os) ∧ w4.cell? ⟨q, 6, none⟩ = some (.slice ora orn orc) ∧ w4.rangeAt q 7 (hcs oh) ∧ w4.cell? ⟨q, 39, none⟩ = some (.slice ola oln olc)) := fun wx hx => (HST.out wx hx).mono fun x w4 h => ⟨h.1, h.2.1, HSS.out wx w4 hx h.2.2⟩
        have HWW := K.Hid.mk' hW
        rw [← hcs_arr] at hbu
        clear HST HSS hblp hblg hbl3 hqp hqg hg0
        go_wp2_with (first
          | (refine wpList_alloc_row rfl 42 rfl gz (hzG _) ?_)
          | (refine wpList_store_row rfl 42 _ _ rfl w3.heap.size oG' rfl rfl 42 gz (heap_alloc_new _ _) (by rw [hgs]; exact sizeGot) (by rw [gz_size, hgs]) hgo ?_; rw [World.setRow_alloc_new, HWW.out])
          | fail)
        change Code.wp _ _ _ _ W
        simp only [Act.put]
        rw [← hq]
        clear hq HWW hW hgs hgo RA
        have bD : Below W.heap.size W ({ W with drawn := W.drawn + 1 } : World) := (Below.refl W.heap.size W).drew
        refine wp_region_still_tail 25 (by kernel_rfl) (by kernel_rfl) ?_
        simp only [List.take_succ_cons, List.take_zero, List.drop_succ_cons, List.drop_zero]
        generalize hWd : ({ W with drawn := W.drawn + 1 } : World) = Wd at *
        have HPH : Hid (Wd.rangeAt q 7 (hcs oh)) := by rw [← hWd]; exact ph
        replace c3 : Wd.cell? ⟨bl, off + 4 * k, none⟩ = some (.int .i64 kd) := by rw [← hWd]; exact c3
        replace p0 : Wd.cell? ⟨q, 0, none⟩ = some (.int .u8 ob) := by rw [← hWd]; exact p0
        replace p1 : Wd.cell? ⟨q, 1, none⟩ = some (.bool ov) := by rw [← hWd]; exact p1
        replace p2 : Wd.cell? ⟨q, 2, none⟩ = some (.int .u64 (ou' : Int)) := by rw [← hWd]; exact p2
        replace p3 : Wd.cell? ⟨q, 3, none⟩ = some (.int .i64 on') := by rw [← hWd]; exact p3
        replace p4 : Wd.cell? ⟨q, 4, none⟩ = some (.float .f64 of') := by rw [← hWd]; exact p4
        replace p5 : Wd.cell? ⟨q, 5, none⟩ = some (.string os) := by rw [← hWd]; exact p5
        replace p6 : Wd.cell? ⟨q, 6, none⟩ = some (.slice ora orn orc) := by rw [← hWd]; exact p6
        replace p39 : Wd.cell? ⟨q, 39, none⟩ = some (.slice ola oln olc) := by rw [← hWd]; exact p39
        have HWD := K.Hid.mk' (HWR.out Wd bD)
        clear hWd ph HWR bD
        iterate 21 still_step
        refine wpStill_step (fun K hK => ?_)
        refine still_load_mid rfl 31 (.tmp 56) rfl q 7 rfl (hcs oh) _ HPH.out Tryd.underlying31 rfl hi7 (hK _ ?_)
        simp only [Act.put, List.setIfInBounds_toArray, List.set_cons_zero, List.set_cons_succ]
        clear hK K
        iterate 2 still_step
        refine wpStill_step (fun K hK => ?_)
        refine still_build rfl 35 _ rfl [(0, .int .i64 kd), (1, .int .u8 ob), (2, .bool ov), (3, .int .u64 (ou' : Int)), (4, .int .i64 on'), (5, .float .f64 of'), (6, .string os), (7, .slice ora orn orc), (8, .agg (hcs oh).toArray), (9, .slice ola oln olc)] (by first | kernel_rfl | simp) oC' hbu (hK _ ?_)
        simp only [Act.put, List.setIfInBounds_toArray, List.set_cons_zero, List.set_cons_succ]
        clear hK K
        refine wpStill_nil ?_
        go_wp2_with fail
        refine HWD.out.mono ?_
        rintro e w4 ⟨rfl, hI, s1⟩
        obtain ⟨g', M', I4⟩ := hI.out
        have I5 := K.Hid.mk' I4
        clear I4 hI s1 p0 p1 p2 p3 p4 p5 p6 p39 c3
        go_wp2
        go_roundw
        case rel => exact ⟨k + 1, s', g', M', by omega, by go_num, I5⟩
        case measure => simp [intOf]; omega
    · have HD := K.Hid.mk' (K.rdone_any wr HI.out.rd)
      have HE : Hid (K.doneE B s = 0 → M = B) := fun h => by
        unfold K.doneE at h
        have hle := HI.out.rd.at_le
        split at h
        · rename_i hb
          split at h
          · simp at h
          · rw [HI.out.eq hb, List.take_of_length_le (by omega)]
        · rename_i hb
          exact absurd h hb
      generalize K.doneE B s = de at *
      generalize K.doneP B s = dp at *
      go_wp2_with fail
      refine HD.out.mono ?_
      rintro e w5 ⟨rfl, m5, hm5⟩
      have bd : Below wr.heap.size wr w5 := by rw [hm5]; exact below_drewN' (Below.refl _ _) _
      have B5 : Hid (Below w.heap.size w w5) := HI.out.bl.trans (bd.mono HI.out.bl.size)
      have WS5 : Hid (K.WS w5 50 w2.heap.size g M 0) := HI.out.ws.below bd
      clear hm5 bd HD
      by_cases hde : de = 0
      · have hMB := HE.out hde
        subst hde
        rw [hMB] at WS5
        have DN := K.Hid.mk' (K.wdone_gen w5 WS5.out (by rw [HBn.out]; omega))
        rw [HBn.out] at DN
        clear hMB HE HI
        go_wp2_with fail
        refine DN.out.mono ?_
        rintro e w6 ⟨a6, c6, rfl, y6, b6⟩
        have B6 : Hid (Below w.heap.size w w6) := B5.out.trans (b6.mono B5.out.size)
        have SM := K.Hid.mk' (K.same_any a6 a0 B nb c6 cb w6 HBn.out y6 (K.byt_below HB.out B6.out) (by omega))
        clear y6 b6 DN
        go_wp2_with fail
        refine SM.out.mono ?_
        rintro e w7 ⟨rfl, m7, hm7⟩
        have B7 : Hid (Below w.heap.size w w7) := by rw [hm7]; exact below_drewN' B6.out _
        clear hm7 SM
        go_wp2
        go_ret
        exact ⟨rfl, B7.out⟩
      · go_wp2
        go_ret
        exact ⟨rfl, B5.out⟩
end Go.Proofs.YtbpmpcmmdiaiiaaDoor

namespace Go.Proofs.YtbpmpcmmdiaiiaaDoor.K
open Go.RowKit
set_option linter.unusedVariables false
set_option linter.unusedSimpArgs false

theorem fsub_fin (f : Nat) (h : ffin f) : FloatKind.f64.format.sub f f = some 0 := by
  show Ieee.double.sub f f = some 0
  unfold Ieee.Format.sub
  rw [fread f h]
  generalize (f / 2 ^ 63 % 2 == 1) = sg
  generalize fmag (f % 2 ^ 63) = m
  generalize (Ieee.double.leastPlace + (fplace (f % 2 ^ 63) : Nat)) = e
  simp only [Ieee.Datum.opposite, Ieee.Datum.sum, Int.min_self, Int.sub_self]
  have ht : Ieee.signed sg m (0 : Int).toNat + Ieee.signed (!sg) m (0 : Int).toNat = 0 := by
    cases sg <;> simp [Ieee.signed] <;> omega
  rw [ht]
  have hs : (if (0 : Int) = 0 then (sg && !sg) else decide ((0 : Int) < 0)) = false := by cases sg <;> rfl
  rw [hs]
  simp only [Option.map_some, Int.natAbs_zero, Ieee.Format.write, Option.some.injEq]
  unfold Ieee.Format.nearest
  rw [if_pos rfl]
  rfl
theorem fsub_not (f : Nat) (h : ¬ ffin f) : FloatKind.f64.format.sub f f = none := by
  show Ieee.double.sub f f = none
  have e1 : Ieee.double.signWeight = 2 ^ 63 := rfl
  have e2 : Ieee.double.binade = 2 ^ 52 := rfl
  have e3 : Ieee.double.infRung = 2047 * 2 ^ 52 := rfl
  unfold ffin at h
  unfold Ieee.Format.sub Ieee.Format.read
  rw [e1, e2, e3]
  by_cases hi : f % 2 ^ 63 = 2047 * 2 ^ 52
  · simp only [if_neg (show ¬ f % 2 ^ 63 < 2 ^ 52 by omega), if_neg (show ¬ f % 2 ^ 63 < 2047 * 2 ^ 52 by omega), if_pos hi]
    generalize (f / 2 ^ 63 % 2 == 1) = sg
    cases sg <;> rfl
  · simp only [if_neg (show ¬ f % 2 ^ 63 < 2 ^ 52 by omega), if_neg (show ¬ f % 2 ^ 63 < 2047 * 2 ^ 52 by omega), if_neg hi]
    rfl
/-- The NaN that a difference without an answer gives. -/
def nanOf (f : Nat) (w : World) : Nat := (Question.nanBits .f64 f f).cut (w.tape w.drawn (.nanBits .f64 f f))
theorem sub_nan (f : Nat) (h : FloatKind.f64.format.sub f f = none) (w : World) : (binOp .sub 28 (.float .f64 f) (.float .f64 f)).run Tryd.prog w = .ok (.float .f64 (nanOf f w)) w.drew := by
  simp [binOp, Op.floatArith, h, Question.forced]
  rfl
theorem ford_nan0 (x : Nat) (h : 9218868437227405312 < x % 9223372036854775808) : (FloatKind.f64.format.order x 0 == some .eq) = false := by
  have e : Ieee.double.order x 0 = none := by
    have e1 : Ieee.double.signWeight = 2 ^ 63 := rfl
    have e2 : Ieee.double.binade = 2 ^ 52 := rfl
    have e3 : Ieee.double.infRung = 2047 * 2 ^ 52 := rfl
    unfold Ieee.Format.order Ieee.Format.read
    rw [e1, e2, e3]
    simp only [if_neg (show ¬ x % 2 ^ 63 < 2 ^ 52 by omega), if_neg (show ¬ x % 2 ^ 63 < 2047 * 2 ^ 52 by omega), if_neg (show ¬ x % 2 ^ 63 = 2047 * 2 ^ 52 by omega)]
    rfl
  show (Ieee.double.order x 0 == some .eq) = false
  rw [e]
  rfl
theorem nanOf_hi (f : Nat) (w : World) : 9218868437227405312 < nanOf f w % 9223372036854775808 := by
  unfold nanOf Question.cut
  simp only
  generalize w.tape w.drawn (.nanBits .f64 f f) = t
  have h1 : t % 2 < 2 := Nat.mod_lt _ (by decide)
  have h2 : t / 2 % (2 ^ 52 - 1) < 2 ^ 52 - 1 := Nat.mod_lt _ (by decide)
  generalize t % 2 = p at *
  generalize t / 2 % (2 ^ 52 - 1) = q at *
  obtain rfl | rfl : p = 0 ∨ p = 1 := by omega
  · omega
  · omega
set_option maxRecDepth 100000 in
set_option maxHeartbeats 400000 in
theorem qfin_any (f : Nat) (w : World) :
    Calls Tryd.prog 52 #[.float .f64 f] w fun e w' => e = .returned (.bool (finN f)) ∧ ∃ m, w' = w.drewN m := by
  by_cases h : ffin f
  · have e1 : finN f = true := by unfold finN; unfold ffin at h; rw [decide_eq_true (by omega)]
    rw [e1]
    have hs := fun wx => run_float_arith (P := Tryd.prog) wx .sub 28 .f64 f f 0 (fsub_fin f h)
    have z : (FloatKind.f64.format.order 0 0 == some .eq) = true := by decide +kernel
    clear h e1
    go_enter Tryd.func52, Tryd.ntmps52
    go_wp2
    go_ret
    exact ⟨rfl, 0, rfl⟩
  · have e1 : finN f = false := by unfold finN; unfold ffin at h; rw [decide_eq_false (by omega)]
    rw [e1]
    have hs := sub_nan f (fsub_not f h) w
    have z := ford_nan0 (nanOf f w) (nanOf_hi f w)
    generalize nanOf f w = N at *
    clear h e1
    go_enter Tryd.func52, Tryd.ntmps52
    go_wp2
    go_ret
    exact ⟨rfl, 1, rfl⟩

end Go.Proofs.YtbpmpcmmdiaiiaaDoor.K

namespace Go.Proofs.YtbpmpcmmdiaiiaaDoor
open Go.RowKit
set_option linter.unusedVariables false
set_option linter.unusedSimpArgs false

/-- The most that a read of what was written needs, and whether it is one. -/
def mostOf (k : Int) (o : OpV) : Nat := if k = 6 then o.s.size else if k = 7 then o.rn else if k = 9 then o.ln else 0
def sentB (k : Int) (o : OpV) : Bool := if k = 6 then decide (K.good o.s.data.toList = o.s.size) else if k = 5 then K.finN o.f else decide (0 ≤ k ∧ k ≤ 9)
def rz4 : Array Value := #[.int .i64 0, .int .u64 0, .int .i64 0, .int .i64 0]
theorem hz45 (w : World) : (zeroValue 45).run Tryd.prog w = .ok (.agg rz4) w := (zero_of_info (n := 4) (by kernel_rfl)).1 w
theorem op_blocks (o : OpV) (hh : o.h.length = 32) (k : Int) (w : World) (R : Array Value) : ∃ wx, wx = ((w.alloc (.cells (o.c k) 35)).alloc (.cells rz4 45)).alloc (.cells R 45) ∧ Below w.heap.size w wx ∧ wx.heap.size = w.heap.size + 3 ∧ wx.heap[w.heap.size + 1]? = some (.cells rz4 45 (0, 0)) ∧ wx.heap[w.heap.size + 2]? = some (.cells R 45 (0, 0)) ∧ OpAt wx w.heap.size (.int .i64 k) (.int .u8 o.b) (.bool o.v) (.int .u64 (o.u : Int)) (.int .i64 o.n) (.float .f64 o.f) (.string o.s) (.slice o.ra o.rn o.rc) o.h (.slice o.la o.ln o.lc) (.int .i64 o.e) := by
  obtain ⟨h1, h2, h3, h4⟩ := alloc3 w (.cells (o.c k) 35) (.cells rz4 45) (.cells R 45)
  exact ⟨_, rfl, bel3 _ _ _ _, h4, h2, h3, opAt_row hh h1 rfl⟩
theorem rz4_one (a b c d : Value) (ha : a.oneCell' = true) (hb : b.oneCell' = true) (hc : c.oneCell' = true) (hd : d.oneCell' = true) : (#[a, b, c, d] : Array Value).all (·.oneCell') = true := by simp [ha, hb, hc, hd]
theorem resRO (tmps : Array Value) (w : World) (g : Nat) (t : TypeId) (C : Array Value) (hl : C.size = 4) (fr : Nat × Nat) (v : Value) (hp : tmps.getD 2 undef = .pointer (some ⟨g, 0, none⟩)) (hv : tmps.getD 3 undef = v) (hg : w.heap[g]? = some (.cells C t fr)) :
    (results Tryd.f16 tmps).run Tryd.prog w = .ok (.tuple #[.agg C, v]) w := by
  have hp' : tmps[2]?.getD undef = .pointer (some ⟨g, 0, none⟩) := by simpa using hp
  have hv' : tmps[3]?.getD undef = v := by simpa using hv
  simp [results, Tryd.results16, hp', hv', asAddr, run_loadVar_row w g t 45 C fr _ hg Tryd.underlying45 rfl (by rw [hl]; exact sizeRead)]
theorem four_set {wx : World} {g : Nat} {t : TypeId} (a b c d : Value) (hg : wx.heap[g]? = some (.cells rz4 t (0, 0))) (m : Nat) : (((((wx.setCell ⟨g, 0, none⟩ a).setCell ⟨g, 1, none⟩ b).setCell ⟨g, 2, none⟩ c).setCell ⟨g, 3, none⟩ d).drewN m).heap[g]? = some (.cells #[a, b, c, d] t (0, 0)) := by
  show ((((wx.setCell ⟨g, 0, none⟩ a).setCell ⟨g, 1, none⟩ b).setCell ⟨g, 2, none⟩ c).setCell ⟨g, 3, none⟩ d).heap[g]? = _
  have h1 : (wx.setCell ⟨g, 0, none⟩ a).heap[g]? = some (.cells (rz4.setIfInBounds 0 a) t (0, 0)) := heap_setCell_same wx g 0 _ t _ hg
  have h2 := heap_setCell_same _ g 1 _ t b h1
  have h3 := heap_setCell_same _ g 2 _ t c h2
  have h4 := heap_setCell_same _ g 3 _ t d h3
  rw [h4]
  rfl
theorem four_below {w wx : World} {g : Nat} (a b c d : Value) (h : Below w.heap.size w wx) (hg : w.heap.size ≤ g) (m : Nat) : Below w.heap.size w (((((wx.setCell ⟨g, 0, none⟩ a).setCell ⟨g, 1, none⟩ b).setCell ⟨g, 2, none⟩ c).setCell ⟨g, 3, none⟩ d).drewN m) :=
  below_drewN' ((((h.setCell (by exact hg) a).setCell (by exact hg) b).setCell (by exact hg) c).setCell (by exact hg) d) m
theorem OpAt.of_block {w w' : World} {g : Nat} {k b v u n f s r : Value} {h : List UInt8} {l e : Value} (H : OpAt w g k b v u n f s r h l e) (hb : w'.heap[g]? = w.heap[g]?) : OpAt w' g k b v u n f s r h l e :=
  ⟨cell_block hb H.c0, cell_block hb H.c1, cell_block hb H.c2, cell_block hb H.c3, cell_block hb H.c4, cell_block hb H.c5, cell_block hb H.c6, cell_block hb H.c7, fun j x hx => cell_block hb (H.ch j x hx), cell_block hb H.c40, cell_block hb H.c41⟩
set_option maxRecDepth 100000 in
set_option maxHeartbeats 2000000 in
theorem ro_pos (k : Int) (h0 : 0 ≤ k) (h5 : k ≠ 5) (h6 : k ≠ 6) (h7 : k ≠ 7) (h9 : k ≠ 9) (o : OpV) (hh : o.h.length = 32) (w : World) :
    Calls Tryd.prog 16 #[.agg (o.c k)] w fun x w' => x = .returned (.tuple #[.agg #[.int .i64 k, .int .u64 (o.u : Int), .int .i64 0, .int .i64 0], .bool (decide (k ≤ 9))]) ∧ Below w.heap.size w w' := by
  obtain ⟨wx, hwx, bx, sx, g1, g2, ⟨r0, r1, r2, r3, r4, r5, r6, r7, rh, r40, r41⟩⟩ := op_blocks o hh k w #[.int .i64 k, .int .u64 (o.u : Int), .int .i64 0, .int .i64 0]
  have BX := K.Hid.mk' bx
  have SX := K.Hid.mk' sx
  have G1 := K.Hid.mk' g1
  have G2 := K.Hid.mk' g2
  obtain ⟨wy, hwy, by', sy, ⟨t0, t1, t2, t3, t4, t5, t6, t7, th, t40, t41⟩⟩ := op_block o hh k w
  have by2 : Below wy.heap.size wy (wy.alloc (.cells rz4 45)) := (Below.refl _ _).alloc (Nat.le_refl _) _
  have u0 := (by2.cell (p := ⟨w.heap.size, 0, none⟩) (by show w.heap.size < _; omega)).trans t0
  have u3 := (by2.cell (p := ⟨w.heap.size, 3, none⟩) (by show w.heap.size < _; omega)).trans t3
  have sy2 : (wy.alloc (.cells rz4 45)).heap.size = w.heap.size + 2 := by simp; omega
  rw [hwy] at u0 u3 sy2
  have HSY := K.Hid.mk' sy2
  have y0 := (cell_of_row wx (w.heap.size + 2) 0 _ _ _ g2).trans (show (#[.int .i64 k, .int .u64 (o.u : Int), .int .i64 0, .int .i64 0] : Array Value)[0]? = some (.int .i64 k) from rfl)
  have y1 := (cell_of_row wx (w.heap.size + 2) 1 _ _ _ g2).trans (show (#[.int .i64 k, .int .u64 (o.u : Int), .int .i64 0, .int .i64 0] : Array Value)[1]? = some (.int .u64 (o.u : Int)) from rfl)
  have y2 := (cell_of_row wx (w.heap.size + 2) 2 _ _ _ g2).trans (show (#[.int .i64 k, .int .u64 (o.u : Int), .int .i64 0, .int .i64 0] : Array Value)[2]? = some (.int .i64 0) from rfl)
  have y3 := (cell_of_row wx (w.heap.size + 2) 3 _ _ _ g2).trans (show (#[.int .i64 k, .int .u64 (o.u : Int), .int .i64 0, .int .i64 0] : Array Value)[3]? = some (.int .i64 0) from rfl)
  have x0 := (cell_of_row wx (w.heap.size + 1) 0 _ _ _ g1).trans (show rz4[0]? = some (.int .i64 0) from rfl)
  have x1 := (cell_of_row wx (w.heap.size + 1) 1 _ _ _ g1).trans (show rz4[1]? = some (.int .u64 0) from rfl)
  have x2 := (cell_of_row wx (w.heap.size + 1) 2 _ _ _ g1).trans (show rz4[2]? = some (.int .i64 0) from rfl)
  have x3 := (cell_of_row wx (w.heap.size + 1) 3 _ _ _ g1).trans (show rz4[3]? = some (.int .i64 0) from rfl)
  have f0 := frozen_of_row wx (w.heap.size + 1) 0 _ _ g1
  have f1 := frozen_of_row wx (w.heap.size + 1) 1 _ _ g1
  have f2 := frozen_of_row wx (w.heap.size + 1) 2 _ _ g1
  have f3 := frozen_of_row wx (w.heap.size + 1) 3 _ _ g1
  have e2 := frozen_of_row wx (w.heap.size + 2) 2 _ _ g2
  clear bx sx rh th t0 t1 t2 t3 t4 t5 t6 t7 t40 t41 by' sy by2 hwy g1 g2
  generalize o.c k = C at *
  go_enter Tryd.func16, Tryd.ntmps16
  go_upto_region 1 with (first | (refine wpList_alloc_row rfl 45 rfl rz4 (hz45 _) ?_) | fail)
  generalize hV : ((w.alloc (.cells C 35)).alloc (.cells rz4 45)) = V at *
  go_upto_region 2 with (first
    | (refine wpList_alloc_row rfl 45 rfl rz4 (hz45 _) ?_)
    | (refine wpList_store_row rfl 45 _ _ rfl V.heap.size #[.int .i64 k, .int .u64 (o.u : Int), .int .i64 0, .int .i64 0] rfl rfl 45 rz4 (heap_alloc_new _ _) sizeRead rfl (rz4_one _ _ _ _ rfl rfl rfl rfl) ?_; rw [World.setRow_alloc_new, ← hwx])
    | fail)
  simp only [Act.put, List.setIfInBounds_toArray, List.set_cons_zero, List.set_cons_succ]
  rw [HSY.out]
  clear hwx hV u0 u3 sy2 HSY
  go_wp2
  go_region_held3 (fun w' => w'.cell? ⟨w.heap.size, 0, none⟩ = some (.int .i64 k) ∧ w'.cell? ⟨w.heap.size + 2, 0, none⟩ = some (.int .i64 k) ∧ w'.cell? ⟨w.heap.size + 2, 1, none⟩ = some (.int .u64 (o.u : Int)) ∧ w'.cell? ⟨w.heap.size + 2, 2, none⟩ = some (.int .i64 0) ∧ w'.cell? ⟨w.heap.size + 2, 3, none⟩ = some (.int .i64 0)) (first | assumption | go_keep) (fail)
  go_wp2
  exact bodyPost_ret (resRO _ _ (w.heap.size + 1) 45 _ rfl (0, 0) _ rfl rfl (four_set _ _ _ _ G1.out 1)) rfl ⟨rfl, four_below _ _ _ _ BX.out (by omega) 1⟩
set_option maxRecDepth 100000 in
set_option maxHeartbeats 2000000 in
theorem ro_7 (o : OpV) (hh : o.h.length = 32) (w : World) :
    Calls Tryd.prog 16 #[.agg (o.c 7)] w fun x w' => x = .returned (.tuple #[.agg #[.int .i64 7, .int .u64 (o.u : Int), .int .i64 (o.rn : Int), .int .i64 0], .bool true]) ∧ Below w.heap.size w w' := by
  obtain ⟨wx, hwx, bx, sx, g1, g2, ⟨r0, r1, r2, r3, r4, r5, r6, r7, rh, r40, r41⟩⟩ := op_blocks o hh 7 w #[.int .i64 7, .int .u64 (o.u : Int), .int .i64 0, .int .i64 0]
  have BX := K.Hid.mk' bx
  have SX := K.Hid.mk' sx
  have G1 := K.Hid.mk' g1
  have G2 := K.Hid.mk' g2
  obtain ⟨wy, hwy, by', sy, ⟨t0, t1, t2, t3, t4, t5, t6, t7, th, t40, t41⟩⟩ := op_block o hh 7 w
  have by2 : Below wy.heap.size wy (wy.alloc (.cells rz4 45)) := (Below.refl _ _).alloc (Nat.le_refl _) _
  have u0 := (by2.cell (p := ⟨w.heap.size, 0, none⟩) (by show w.heap.size < _; omega)).trans t0
  have u3 := (by2.cell (p := ⟨w.heap.size, 3, none⟩) (by show w.heap.size < _; omega)).trans t3
  have sy2 : (wy.alloc (.cells rz4 45)).heap.size = w.heap.size + 2 := by simp; omega
  rw [hwy] at u0 u3 sy2
  have HSY := K.Hid.mk' sy2
  have y0 := (cell_of_row wx (w.heap.size + 2) 0 _ _ _ g2).trans (show (#[.int .i64 7, .int .u64 (o.u : Int), .int .i64 0, .int .i64 0] : Array Value)[0]? = some (.int .i64 7) from rfl)
  have y1 := (cell_of_row wx (w.heap.size + 2) 1 _ _ _ g2).trans (show (#[.int .i64 7, .int .u64 (o.u : Int), .int .i64 0, .int .i64 0] : Array Value)[1]? = some (.int .u64 (o.u : Int)) from rfl)
  have y2 := (cell_of_row wx (w.heap.size + 2) 2 _ _ _ g2).trans (show (#[.int .i64 7, .int .u64 (o.u : Int), .int .i64 0, .int .i64 0] : Array Value)[2]? = some (.int .i64 0) from rfl)
  have y3 := (cell_of_row wx (w.heap.size + 2) 3 _ _ _ g2).trans (show (#[.int .i64 7, .int .u64 (o.u : Int), .int .i64 0, .int .i64 0] : Array Value)[3]? = some (.int .i64 0) from rfl)
  have x0 := (cell_of_row wx (w.heap.size + 1) 0 _ _ _ g1).trans (show rz4[0]? = some (.int .i64 0) from rfl)
  have x1 := (cell_of_row wx (w.heap.size + 1) 1 _ _ _ g1).trans (show rz4[1]? = some (.int .u64 0) from rfl)
  have x2 := (cell_of_row wx (w.heap.size + 1) 2 _ _ _ g1).trans (show rz4[2]? = some (.int .i64 0) from rfl)
  have x3 := (cell_of_row wx (w.heap.size + 1) 3 _ _ _ g1).trans (show rz4[3]? = some (.int .i64 0) from rfl)
  have f0 := frozen_of_row wx (w.heap.size + 1) 0 _ _ g1
  have f1 := frozen_of_row wx (w.heap.size + 1) 1 _ _ g1
  have f2 := frozen_of_row wx (w.heap.size + 1) 2 _ _ g1
  have f3 := frozen_of_row wx (w.heap.size + 1) 3 _ _ g1
  have e2 := frozen_of_row wx (w.heap.size + 2) 2 _ _ g2
  have OPA : Hid (OpAt wx w.heap.size (.int .i64 7) (.int .u8 o.b) (.bool o.v) (.int .u64 (o.u : Int)) (.int .i64 o.n) (.float .f64 o.f) (.string o.s) (.slice o.ra o.rn o.rc) o.h (.slice o.la o.ln o.lc) (.int .i64 o.e)) := ⟨r0, r1, r2, r3, r4, r5, r6, r7, rh, r40, r41⟩
  clear bx sx rh th t0 t1 t2 t3 t4 t5 t6 t7 t40 t41 by' sy by2 hwy g1 g2
  generalize o.c 7 = C at *
  go_enter Tryd.func16, Tryd.ntmps16
  go_upto_region 1 with (first | (refine wpList_alloc_row rfl 45 rfl rz4 (hz45 _) ?_) | fail)
  generalize hV : ((w.alloc (.cells C 35)).alloc (.cells rz4 45)) = V at *
  go_upto_region 2 with (first
    | (refine wpList_alloc_row rfl 45 rfl rz4 (hz45 _) ?_)
    | (refine wpList_store_row rfl 45 _ _ rfl V.heap.size #[.int .i64 7, .int .u64 (o.u : Int), .int .i64 0, .int .i64 0] rfl rfl 45 rz4 (heap_alloc_new _ _) sizeRead rfl (rz4_one _ _ _ _ rfl rfl rfl rfl) ?_; rw [World.setRow_alloc_new, ← hwx])
    | fail)
  simp only [Act.put, List.setIfInBounds_toArray, List.set_cons_zero, List.set_cons_succ]
  rw [HSY.out]
  clear hwx hV u0 u3 sy2 HSY
  obtain ⟨W', hW'⟩ : ∃ W', W' = wx.setCell ⟨w.heap.size + 2, 2, none⟩ (.int .i64 (o.rn : Int)) := ⟨_, rfl⟩
  have WG1 : Hid (W'.heap[w.heap.size + 1]? = some (.cells rz4 45 (0, 0))) := by show _ = _; rw [hW', Below.heap_setCell _ _ _ _ (by show w.heap.size + 1 ≠ w.heap.size + 2; omega)]; exact G1.out
  have g2' : W'.heap[w.heap.size + 2]? = some (.cells #[.int .i64 7, .int .u64 (o.u : Int), .int .i64 (o.rn : Int), .int .i64 0] 45 (0, 0)) := by rw [hW', heap_setCell_same wx _ 2 _ 45 _ G2.out]; rfl
  have WBX : Hid (Below w.heap.size w W') := by rw [hW']; exact BX.out.setCell (by show w.heap.size ≤ w.heap.size + 2; omega) _
  have opw := OPA.out.of_block (w' := W') (by rw [hW', Below.heap_setCell _ _ _ _ (by show w.heap.size ≠ w.heap.size + 2; omega)])
  have n0 := opw.c0
  have z0 := (cell_of_row W' (w.heap.size + 2) 0 _ _ _ g2').trans (show (#[.int .i64 7, .int .u64 (o.u : Int), .int .i64 (o.rn : Int), .int .i64 0] : Array Value)[0]? = some (.int .i64 7) from rfl)
  have z1 := (cell_of_row W' (w.heap.size + 2) 1 _ _ _ g2').trans (show (#[.int .i64 7, .int .u64 (o.u : Int), .int .i64 (o.rn : Int), .int .i64 0] : Array Value)[1]? = some (.int .u64 (o.u : Int)) from rfl)
  have z2 := (cell_of_row W' (w.heap.size + 2) 2 _ _ _ g2').trans (show (#[.int .i64 7, .int .u64 (o.u : Int), .int .i64 (o.rn : Int), .int .i64 0] : Array Value)[2]? = some (.int .i64 (o.rn : Int)) from rfl)
  have z3 := (cell_of_row W' (w.heap.size + 2) 3 _ _ _ g2').trans (show (#[.int .i64 7, .int .u64 (o.u : Int), .int .i64 (o.rn : Int), .int .i64 0] : Array Value)[3]? = some (.int .i64 0) from rfl)
  have a0 := (cell_of_row W' (w.heap.size + 1) 0 _ _ _ WG1.out).trans (show rz4[0]? = some (.int .i64 0) from rfl)
  have a1 := (cell_of_row W' (w.heap.size + 1) 1 _ _ _ WG1.out).trans (show rz4[1]? = some (.int .u64 0) from rfl)
  have a2 := (cell_of_row W' (w.heap.size + 1) 2 _ _ _ WG1.out).trans (show rz4[2]? = some (.int .i64 0) from rfl)
  have a3 := (cell_of_row W' (w.heap.size + 1) 3 _ _ _ WG1.out).trans (show rz4[3]? = some (.int .i64 0) from rfl)
  have b0 := frozen_of_row W' (w.heap.size + 1) 0 _ _ WG1.out
  have b1 := frozen_of_row W' (w.heap.size + 1) 1 _ _ WG1.out
  have b2 := frozen_of_row W' (w.heap.size + 1) 2 _ _ WG1.out
  have b3 := frozen_of_row W' (w.heap.size + 1) 3 _ _ WG1.out
  clear opw g2'
  go_upto_region 12 with fail
  rw [← hW']
  clear hW' x0 x1 x2 x3 f0 f1 f2 f3 y0 y1 y2 y3 e2 r0 r1 r2 r3 r4 r5 r6 r7 r40 r41
  go_region_held3 (fun w' => w'.cell? ⟨w.heap.size, 0, none⟩ = some (.int .i64 7) ∧ w'.cell? ⟨w.heap.size + 2, 0, none⟩ = some (.int .i64 7) ∧ w'.cell? ⟨w.heap.size + 2, 1, none⟩ = some (.int .u64 (o.u : Int)) ∧ w'.cell? ⟨w.heap.size + 2, 2, none⟩ = some (.int .i64 (o.rn : Int)) ∧ w'.cell? ⟨w.heap.size + 2, 3, none⟩ = some (.int .i64 0)) (first | assumption | go_keep) (fail)
  go_wp2
  exact bodyPost_ret (resRO _ _ (w.heap.size + 1) 45 _ rfl (0, 0) _ rfl rfl (four_set _ _ _ _ WG1.out 1)) rfl ⟨rfl, four_below _ _ _ _ WBX.out (by omega) 1⟩
set_option maxRecDepth 100000 in
set_option maxHeartbeats 2000000 in
theorem ro_9 (o : OpV) (hh : o.h.length = 32) (w : World) :
    Calls Tryd.prog 16 #[.agg (o.c 9)] w fun x w' => x = .returned (.tuple #[.agg #[.int .i64 9, .int .u64 (o.u : Int), .int .i64 (o.ln : Int), .int .i64 0], .bool true]) ∧ Below w.heap.size w w' := by
  obtain ⟨wx, hwx, bx, sx, g1, g2, ⟨r0, r1, r2, r3, r4, r5, r6, r7, rh, r40, r41⟩⟩ := op_blocks o hh 9 w #[.int .i64 9, .int .u64 (o.u : Int), .int .i64 0, .int .i64 0]
  have BX := K.Hid.mk' bx
  have SX := K.Hid.mk' sx
  have G1 := K.Hid.mk' g1
  have G2 := K.Hid.mk' g2
  obtain ⟨wy, hwy, by', sy, ⟨t0, t1, t2, t3, t4, t5, t6, t7, th, t40, t41⟩⟩ := op_block o hh 9 w
  have by2 : Below wy.heap.size wy (wy.alloc (.cells rz4 45)) := (Below.refl _ _).alloc (Nat.le_refl _) _
  have u0 := (by2.cell (p := ⟨w.heap.size, 0, none⟩) (by show w.heap.size < _; omega)).trans t0
  have u3 := (by2.cell (p := ⟨w.heap.size, 3, none⟩) (by show w.heap.size < _; omega)).trans t3
  have sy2 : (wy.alloc (.cells rz4 45)).heap.size = w.heap.size + 2 := by simp; omega
  rw [hwy] at u0 u3 sy2
  have HSY := K.Hid.mk' sy2
  have y0 := (cell_of_row wx (w.heap.size + 2) 0 _ _ _ g2).trans (show (#[.int .i64 9, .int .u64 (o.u : Int), .int .i64 0, .int .i64 0] : Array Value)[0]? = some (.int .i64 9) from rfl)
  have y1 := (cell_of_row wx (w.heap.size + 2) 1 _ _ _ g2).trans (show (#[.int .i64 9, .int .u64 (o.u : Int), .int .i64 0, .int .i64 0] : Array Value)[1]? = some (.int .u64 (o.u : Int)) from rfl)
  have y2 := (cell_of_row wx (w.heap.size + 2) 2 _ _ _ g2).trans (show (#[.int .i64 9, .int .u64 (o.u : Int), .int .i64 0, .int .i64 0] : Array Value)[2]? = some (.int .i64 0) from rfl)
  have y3 := (cell_of_row wx (w.heap.size + 2) 3 _ _ _ g2).trans (show (#[.int .i64 9, .int .u64 (o.u : Int), .int .i64 0, .int .i64 0] : Array Value)[3]? = some (.int .i64 0) from rfl)
  have x0 := (cell_of_row wx (w.heap.size + 1) 0 _ _ _ g1).trans (show rz4[0]? = some (.int .i64 0) from rfl)
  have x1 := (cell_of_row wx (w.heap.size + 1) 1 _ _ _ g1).trans (show rz4[1]? = some (.int .u64 0) from rfl)
  have x2 := (cell_of_row wx (w.heap.size + 1) 2 _ _ _ g1).trans (show rz4[2]? = some (.int .i64 0) from rfl)
  have x3 := (cell_of_row wx (w.heap.size + 1) 3 _ _ _ g1).trans (show rz4[3]? = some (.int .i64 0) from rfl)
  have f0 := frozen_of_row wx (w.heap.size + 1) 0 _ _ g1
  have f1 := frozen_of_row wx (w.heap.size + 1) 1 _ _ g1
  have f2 := frozen_of_row wx (w.heap.size + 1) 2 _ _ g1
  have f3 := frozen_of_row wx (w.heap.size + 1) 3 _ _ g1
  have e2 := frozen_of_row wx (w.heap.size + 2) 2 _ _ g2
  have OPA : Hid (OpAt wx w.heap.size (.int .i64 9) (.int .u8 o.b) (.bool o.v) (.int .u64 (o.u : Int)) (.int .i64 o.n) (.float .f64 o.f) (.string o.s) (.slice o.ra o.rn o.rc) o.h (.slice o.la o.ln o.lc) (.int .i64 o.e)) := ⟨r0, r1, r2, r3, r4, r5, r6, r7, rh, r40, r41⟩
  clear bx sx rh th t0 t1 t2 t3 t4 t5 t6 t7 t40 t41 by' sy by2 hwy g1 g2
  generalize o.c 9 = C at *
  go_enter Tryd.func16, Tryd.ntmps16
  go_upto_region 1 with (first | (refine wpList_alloc_row rfl 45 rfl rz4 (hz45 _) ?_) | fail)
  generalize hV : ((w.alloc (.cells C 35)).alloc (.cells rz4 45)) = V at *
  go_upto_region 2 with (first
    | (refine wpList_alloc_row rfl 45 rfl rz4 (hz45 _) ?_)
    | (refine wpList_store_row rfl 45 _ _ rfl V.heap.size #[.int .i64 9, .int .u64 (o.u : Int), .int .i64 0, .int .i64 0] rfl rfl 45 rz4 (heap_alloc_new _ _) sizeRead rfl (rz4_one _ _ _ _ rfl rfl rfl rfl) ?_; rw [World.setRow_alloc_new, ← hwx])
    | fail)
  simp only [Act.put, List.setIfInBounds_toArray, List.set_cons_zero, List.set_cons_succ]
  rw [HSY.out]
  clear hwx hV u0 u3 sy2 HSY
  obtain ⟨W', hW'⟩ : ∃ W', W' = wx.setCell ⟨w.heap.size + 2, 2, none⟩ (.int .i64 (o.ln : Int)) := ⟨_, rfl⟩
  have WG1 : Hid (W'.heap[w.heap.size + 1]? = some (.cells rz4 45 (0, 0))) := by show _ = _; rw [hW', Below.heap_setCell _ _ _ _ (by show w.heap.size + 1 ≠ w.heap.size + 2; omega)]; exact G1.out
  have g2' : W'.heap[w.heap.size + 2]? = some (.cells #[.int .i64 9, .int .u64 (o.u : Int), .int .i64 (o.ln : Int), .int .i64 0] 45 (0, 0)) := by rw [hW', heap_setCell_same wx _ 2 _ 45 _ G2.out]; rfl
  have WBX : Hid (Below w.heap.size w W') := by rw [hW']; exact BX.out.setCell (by show w.heap.size ≤ w.heap.size + 2; omega) _
  have opw := OPA.out.of_block (w' := W') (by rw [hW', Below.heap_setCell _ _ _ _ (by show w.heap.size ≠ w.heap.size + 2; omega)])
  have n0 := opw.c0
  have z0 := (cell_of_row W' (w.heap.size + 2) 0 _ _ _ g2').trans (show (#[.int .i64 9, .int .u64 (o.u : Int), .int .i64 (o.ln : Int), .int .i64 0] : Array Value)[0]? = some (.int .i64 9) from rfl)
  have z1 := (cell_of_row W' (w.heap.size + 2) 1 _ _ _ g2').trans (show (#[.int .i64 9, .int .u64 (o.u : Int), .int .i64 (o.ln : Int), .int .i64 0] : Array Value)[1]? = some (.int .u64 (o.u : Int)) from rfl)
  have z2 := (cell_of_row W' (w.heap.size + 2) 2 _ _ _ g2').trans (show (#[.int .i64 9, .int .u64 (o.u : Int), .int .i64 (o.ln : Int), .int .i64 0] : Array Value)[2]? = some (.int .i64 (o.ln : Int)) from rfl)
  have z3 := (cell_of_row W' (w.heap.size + 2) 3 _ _ _ g2').trans (show (#[.int .i64 9, .int .u64 (o.u : Int), .int .i64 (o.ln : Int), .int .i64 0] : Array Value)[3]? = some (.int .i64 0) from rfl)
  have a0 := (cell_of_row W' (w.heap.size + 1) 0 _ _ _ WG1.out).trans (show rz4[0]? = some (.int .i64 0) from rfl)
  have a1 := (cell_of_row W' (w.heap.size + 1) 1 _ _ _ WG1.out).trans (show rz4[1]? = some (.int .u64 0) from rfl)
  have a2 := (cell_of_row W' (w.heap.size + 1) 2 _ _ _ WG1.out).trans (show rz4[2]? = some (.int .i64 0) from rfl)
  have a3 := (cell_of_row W' (w.heap.size + 1) 3 _ _ _ WG1.out).trans (show rz4[3]? = some (.int .i64 0) from rfl)
  have b0 := frozen_of_row W' (w.heap.size + 1) 0 _ _ WG1.out
  have b1 := frozen_of_row W' (w.heap.size + 1) 1 _ _ WG1.out
  have b2 := frozen_of_row W' (w.heap.size + 1) 2 _ _ WG1.out
  have b3 := frozen_of_row W' (w.heap.size + 1) 3 _ _ WG1.out
  clear opw g2'
  go_upto_region 12 with fail
  rw [← hW']
  clear hW' x0 x1 x2 x3 f0 f1 f2 f3 y0 y1 y2 y3 e2 r0 r1 r2 r3 r4 r5 r6 r7 r40 r41
  go_region_held3 (fun w' => w'.cell? ⟨w.heap.size, 0, none⟩ = some (.int .i64 9) ∧ w'.cell? ⟨w.heap.size + 2, 0, none⟩ = some (.int .i64 9) ∧ w'.cell? ⟨w.heap.size + 2, 1, none⟩ = some (.int .u64 (o.u : Int)) ∧ w'.cell? ⟨w.heap.size + 2, 2, none⟩ = some (.int .i64 (o.ln : Int)) ∧ w'.cell? ⟨w.heap.size + 2, 3, none⟩ = some (.int .i64 0)) (first | assumption | go_keep) (fail)
  go_wp2
  exact bodyPost_ret (resRO _ _ (w.heap.size + 1) 45 _ rfl (0, 0) _ rfl rfl (four_set _ _ _ _ WG1.out 1)) rfl ⟨rfl, four_below _ _ _ _ WBX.out (by omega) 1⟩
end Go.Proofs.YtbpmpcmmdiaiiaaDoor

namespace Go.Proofs.YtbpmpcmmdiaiiaaDoor
open Go.RowKit
set_option linter.unusedVariables false
set_option linter.unusedSimpArgs false

variable {p : Nat} {g : Option Nat} {M : List UInt8}
namespace K
set_option maxRecDepth 100000 in
set_option maxHeartbeats 1000000 in
/-- A zero with a sign is written as 0. -/
theorem wfloat_neg {e : Int} (w : World) (hw : WS w 50 p g M e) (hsum : M.length + 64 ≤ 140737488355328) :
    Calls Tryd.prog 23 #[.pointer (some ⟨p, 0, none⟩), .float .f64 9223372036854775808] w fun x w' => x = .returned (.tuple #[]) ∧ Wr w w' 50 p g (wA M e (b8 0)) e := by
  have HFX := Hid.mk' (fun (n : Nat) (hn : n < 4294967296) (v : Int) (hv : v = (n : Int)) (P : List UInt8) (hP : P.length ≤ 50) (wx : World) hx => wfix_wr (p := p) (g := g) (M := M) (e := e) w hsum n hn v hv P hP wx hx)
  have h0 : Hid (Wr w w 50 p g (wA M e []) e) := by show Wr _ _ _ _ _ _ _; rw [wA_nil]; exact hw.wr
  have h1 : finN 9223372036854775808 = true := by decide +kernel
  have HF := Hid.mk' (fun (wx : World) => fin_any 9223372036854775808 wx (by decide))
  rw [h1] at HF
  clear hw hsum h1
  have z : (FloatKind.f64.format.order 9223372036854775808 0 == some .eq) = true := by decide +kernel
  go_enter Tryd.func23, Tryd.ntmps23
  go_wp2_with fail
  refine (HF.out _).mono ?_
  rintro x w1 ⟨rfl, hw1⟩
  subst hw1
  go_wp2_with fail
  refine (HFX.out 0 (by decide) _ (by first | rfl | omega) [] (by decide) _ h0.out).mono ?_
  rintro x w2 ⟨rfl, a2⟩
  have A2 := Hid.mk' a2
  clear a2
  go_wp2_with fail
  refine (HFX.out 0 (by decide) _ (by first | rfl | omega) _ (by simp [b4]) _ A2.out).mono ?_
  rintro x w3 ⟨rfl, a3⟩
  have A3 := Hid.mk' a3
  clear a3
  go_wp2
  go_end0
  exact ⟨rfl, A3.out⟩
end K
/-- A float as it is written. -/
def nzf (f : Nat) : Nat := if f = 9223372036854775808 then 0 else f
def OpV.z (o : OpV) : OpV := { o with f := nzf o.f }
/-- An Op that lies in memory, with its lists. -/
structure OpL (W : World) (o : OpV) (R : List UInt8) (L : List (List UInt8)) : Prop where
  hh : o.h.length = 32
  u : o.u < 18446744073709551616
  n0 : -9223372036854775808 ≤ o.n
  n1 : o.n < 9223372036854775808
  f : o.f < 18446744073709551616
  b0 : 0 ≤ o.b
  b1 : o.b ≤ 255
  s : o.s.size ≤ 1048576
  r : R.length = o.rn
  rl : o.rn ≤ 1048576
  rb : K.Byt W o.ra R
  l32 : All32 L
  l : L.length = o.ln
  ll : o.ln ≤ 1048576
  lb : Hl W o.la L
theorem OpL.below {W W' : World} {o : OpV} {R : List UInt8} {L : List (List UInt8)} (h : OpL W o R L) (b : Below W.heap.size W W') : OpL W' o R L :=
  ⟨h.hh, h.u, h.n0, h.n1, h.f, h.b0, h.b1, h.s, h.r, h.rl, K.byt_below h.rb b, h.l32, h.l, h.ll, h.lb.below h.l32 b⟩
theorem frw_below {W w w' : World} (b : Below W.heap.size W w) (f : K.FrW p g w w') (hp : W.heap.size ≤ p) (hg : ∀ k, g = some k → W.heap.size ≤ k) : Below W.heap.size W w' :=
  { os := f.os.trans b.os, tape := f.tape.trans b.tape, output := f.output.trans b.output, size := Nat.le_trans b.size f.size, block := fun k hk => (f.block k (Nat.lt_of_lt_of_le hk b.size) (by omega) (fun e => by have := hg _ e.symm; omega)).trans (b.block k hk) }
theorem sent_kind {kd : Int} {o : OpV} (h : sentB kd o = true) : 0 ≤ kd ∧ kd ≤ 9 := by
  unfold sentB at h
  split at h
  · omega
  · split at h
    · omega
    · exact of_decide_eq_true h
theorem sent_val {o : OpV} (h : sentB 6 o = true) : Lib.validD o.s.data.toList = true := by
  have : K.good o.s.data.toList = o.s.size := by unfold sentB at h; rw [if_pos rfl] at h; exact of_decide_eq_true h
  refine K.good_valid o.s.data.toList.length _ (Nat.le_refl _) ?_
  have hsl : o.s.data.toList.length = o.s.size := by simp
  unfold K.good at this
  rw [this, hsl]
set_option maxHeartbeats 1000000 in
/-- A write of an Op that is sent. -/
theorem wr_op (W : World) (kd : Int) (o : OpV) (R : List UInt8) (L D : List (List UInt8)) (ok : OpL W o R L) (hD : Srt L D) (hs : sentB kd o = true) (w : World) (bw : Below W.heap.size W w) (hw : K.WS w 50 p g M 0) (hp : W.heap.size ≤ p) (hg : ∀ k, g = some k → W.heap.size ≤ k) (hT : K.Tabs w)
    (hsum : M.length + 33555000 ≤ 140737488351232) :
    Calls Tryd.prog 7 #[.pointer (some ⟨p, 0, none⟩), .agg (o.c kd)] w fun x w' => x = .returned (.bool true) ∧ K.Wr w w' 50 p g (M ++ enc kd o.z R D) 0 := by
  have fin : ∀ {E : List UInt8} {x : Ending} {w' : World}, enc kd o.z R D = E → (x = .returned (.bool true) ∧ Wdd w (fun wx w1 => K.Wr wx w1 50 p g (K.wA M 0 E) 0) w') → (x = .returned (.bool true) ∧ K.Wr w w' 50 p g (M ++ enc kd o.z R D) 0) := fun he h => ⟨h.1, by rw [he, ← K.wA_0]; exact wdd_wr h.2⟩
  have okw := ok
  have hrn := ok.rl
  have hln := ok.ll
  have hsn := ok.s
  have hlr := ok.r
  have hl' := ok.l
  have hb64 := bw.size
  have := sent_kind hs
  have : kd = 0 ∨ kd = 1 ∨ kd = 2 ∨ kd = 3 ∨ kd = 4 ∨ kd = 5 ∨ kd = 6 ∨ kd = 7 ∨ kd = 8 ∨ kd = 9 := by omega
  rcases this with e | e | e | e | e | e | e | e | e | e <;> subst e
  · have b0 := ok.b0
    have b1 := ok.b1
    exact (write_0 _ o ok.hh w _ (fun wx bx _ => K.wbyte_any (UInt8.ofNat o.b.toNat) o.b (by rw [UInt8.toNat_ofNat']; omega) wx (hw.below bx) (by omega))).mono fun x w' h => fin (by unfold enc; rw [if_pos rfl]; rfl) h
  · exact (write_1 _ o ok.hh w _ (fun wx bx _ => K.wbool_any o.v wx (hw.below bx) (by omega))).mono fun x w' h => fin (by unfold enc; rw [if_neg (by decide), if_pos rfl]; rfl) h
  · refine (write_2 _ o ok.hh w _ (fun wx bx _ => ?_)).mono fun x w' h => fin (E := K.b4 (o.u % 4294967296)) (by unfold enc; rw [if_neg (by decide), if_neg (by decide), if_pos rfl]; rfl) h
    have := K.wfix_any (o.u % 4294967296) (by omega) wx (hw.below bx) (by omega)
    rw [show ((o.u % 4294967296 : Nat) : Int) = (o.u : Int) % 4294967296 by omega] at this
    exact this
  · exact (write_3 _ o ok.hh w _ (fun wx bx _ => K.wuint_any o.u ok.u wx (hw.below bx) (by omega))).mono fun x w' h => fin (by unfold enc; rw [if_neg (by decide), if_neg (by decide), if_neg (by decide), if_pos rfl]; rfl) h
  · exact (write_4 _ o ok.hh w _ (fun wx bx _ => K.wint_any o.n ok.n0 ok.n1 wx (hw.below bx) (by omega))).mono fun x w' h => fin (by unfold enc; rw [if_neg (by decide), if_neg (by decide), if_neg (by decide), if_neg (by decide), if_pos rfl]; rfl) h
  · have hfn : K.finN o.f = true := by unfold sentB at hs; rwa [if_neg (by decide), if_pos rfl] at hs
    by_cases hz : o.f = 9223372036854775808
    · have e0 : nzf o.f = 0 := by unfold nzf; rw [if_pos hz]
      refine (write_5 _ o ok.hh w _ (fun wx bx _ => ?_)).mono fun x w' h => fin (E := K.b8 0) (by unfold enc; rw [if_neg (by decide), if_neg (by decide), if_neg (by decide), if_neg (by decide), if_neg (by decide), if_pos rfl]; show K.b8 (nzf o.f) = _; rw [e0]) h
      rw [hz]
      exact K.wfloat_neg wx (hw.below bx) (by omega)
    · have e0 : nzf o.f = o.f := by unfold nzf; rw [if_neg hz]
      exact (write_5 _ o ok.hh w _ (fun wx bx _ => K.wfloat_any o.f ok.f (by unfold K.finB; rw [hfn, decide_eq_true hz]; rfl) wx (hw.below bx) (by omega))).mono fun x w' h => fin (by unfold enc; rw [if_neg (by decide), if_neg (by decide), if_neg (by decide), if_neg (by decide), if_neg (by decide), if_pos rfl]; show K.b8 (nzf o.f) = _; rw [e0]) h
  · have hsl : o.s.data.toList.length = o.s.size := by simp
    exact (write_6 _ o ok.hh w _ (fun wx bx _ => K.wtext_any o.s (by omega) (sent_val hs) wx (hw.below bx) (hT.below bx) (by omega))).mono fun x w' h => fin (enc6 _ _ _) h
  · have rbw : K.Byt w o.ra R := K.byt_below ok.rb bw
    refine (write_7 _ o ok.hh R ok.r (by omega) w rbw (fun wx w1 => K.Wr wx w1 50 p g (K.wA M 0 (K.vint o.rn ++ R)) 0) (fun wx bx hz hrow => ?_)).mono fun x w' h => ⟨h.1, by rw [show enc 7 o.z R D = K.vint o.rn ++ R from enc7 _ _ _, ← K.wA_0]; exact wee_wr hw h.2⟩
    have hlp := hw.lt
    refine (K.wraw_any R (some ⟨w.heap.size + 1, 0, none⟩) o.rn (o.rn + 9) wx (hw.below bx) ok.r (byt_row hrow) (fun ad e => by cases e; exact ⟨by show w.heap.size + 1 ≠ p; omega, fun e => by have h9 : w.heap.size + 1 < w.heap.size := hw.glt e.symm; omega⟩) (fun ad e => by cases e; exact hz) (by omega)).mono fun x w1 h => ⟨h.1, h.2, keeps_wr hw h.2, ?_⟩
    obtain ⟨g', ws, fr, nw⟩ := h.2
    exact K.byt_below ok.rb (frw_below (bw.trans (bx.mono bw.size)) fr hp hg)
  · have hh := ok.hh
    exact (write_8 _ o ok.hh w _ (fun wx bx _ => whash_any o.h ok.hh wx (hw.below bx) (by omega))).mono fun x w' h => fin (by unfold enc; rw [if_neg (by decide), if_neg (by decide), if_neg (by decide), if_neg (by decide), if_neg (by decide), if_neg (by decide), if_neg (by decide), if_neg (by decide), if_pos rfl]; rfl) h
  · refine (write_9 _ o ok.hh L ok.l32 ok.l (by omega) w (ok.lb.below ok.l32 bw) (fun wx w1 => K.Wr wx w1 50 p g (M ++ Go.Proofs.YtbpmpcmmdiaiiaaDoor.hw D) 0) (fun wx bx hz hs => ?_)).mono fun x w' h => ⟨h.1, by rw [enc9]; exact wee_wr hw h.2⟩
    have := whashes_gen ⟨w.heap.size + 1, 0, none⟩ L (o.ln + 9) wx ok.l32 (by omega) (.inr ⟨_, _, rfl, hs⟩) (hw.below bx) (by omega)
    rw [hl'] at this
    refine this.mono fun x w1 h => ?_
    obtain ⟨h1, D', ⟨s1, s2, s3⟩, _, wr⟩ := h
    obtain rfl : D' = D := SRise.unique D' D s2 s1 hD.1 (fun x => (s3 x).trans (hD.2.2 x).symm)
    refine ⟨h1, wr, keeps_wr hw wr, ?_⟩
    obtain ⟨g', ws, fr, nw⟩ := wr
    exact ok.lb.below ok.l32 (frw_below (bw.trans (bx.mono bw.size)) fr hp hg)
end Go.Proofs.YtbpmpcmmdiaiiaaDoor

