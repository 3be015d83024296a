import Derived.Test.YtbpmpcmmdiaiiaaDoorP12
import Derived.StillTailTactics
namespace Go.Proofs.YtbpmpcmmdiaiiaaDoor
open Go.RowKit
set_option linter.unusedVariables false
set_option linter.unusedSimpArgs false

section
variable {P : Program} {ops : Array Oper} {a : Act} {w : World} {o : Oper} {K : Act → Prop}
/-- A whole row out of the middle of a block, in a region that stands still. -/
theorem still_load_mid (hw : Region.wanted o (yielded ops a.tmps) = true) (ty : TypeId) (x : Operand) (ho : o.op = .load ty x) (b j : Nat) (hx : a.eval x = .pointer (some ⟨b, j, none⟩)) (cs : List Value) (d : TypeDesc) (hS : w.rangeAt b j cs)
    (hu : P.underlying ty = some d) (hd : d.isRow = true) (hi : (P.info? ty).map (·.size) = some cs.length) (hk : K (a.put o.dst (.agg cs.toArray))) : if Region.wanted o (yielded ops a.tmps) = true then o.still P a w K else K (a.put o.dst undef) := by
  rw [if_pos hw]
  unfold Oper.still execOp
  simp only [ho, hx, Instr.loadAt, Instr.sureAddr, Sem.run_bind, Sem.run_pure, Result.andThen_ok, run_loadVar_mid w b j ty cs d hS hu hd hi]
  exact ⟨rfl, hk⟩
/-- What is built of parts, likewise. -/
theorem still_build (hw : Region.wanted o (yielded ops a.tmps) = true) (ty : TypeId) (parts : Array (Nat × Operand)) (ho : o.op = .build ty parts) (l : List (Nat × Value)) (hl : (parts.map fun (i, x) => (i, a.eval x)).toList = l) (Z : Array Value) (hz : P.built ty l = some Z)
    (hk : K (a.put o.dst (.agg Z))) : if Region.wanted o (yielded ops a.tmps) = true then o.still P a w K else K (a.put o.dst undef) := by
  rw [if_pos hw]
  unfold Oper.still execOp
  simp only [ho, Sem.run_bind, Sem.run_pure, Result.andThen_ok, run_build w ty _ Z (by rw [hl]; exact hz)]
  exact ⟨rfl, hk⟩
end
/-- The two, side by side. -/
structure OneI (w : World) (r : Nat) (a : Option Addr) (cap : Nat) (B : List UInt8) (p : Nat) (wr : World) (s : K.St) (g : Option Nat) (M : List UInt8) (k : Nat) : Prop where
  rd : K.RD wr 92 r a cap B s
  ws : K.WS wr 50 p g M 0
  bl : Below w.heap.size w wr
  gr : g ≠ some r
  ga : ∀ ad, a = some ad → some ad.block ≠ g
  al : ∀ ad, a = some ad → ad.block < wr.heap.size
  gz : ∀ q, g = some q → w.heap.size ≤ q
  eq : s.bad = 0 → M = B.take s.k
  le : M.length ≤ B.length + 40 * k
  rp : r ≠ p
  ap : ∀ ad, a = some ad → ad.block ≠ p
  wr0 : w.heap.size ≤ r
  wp0 : w.heap.size ≤ p
theorem OneI.ext {w : World} {r : Nat} {a : Option Addr} {cap : Nat} {B : List UInt8} {p : Nat} {wr : World} {s : K.St} {g : Option Nat} {M : List UInt8} {k : Nat} (I : OneI w r a cap B p wr s g M k) : OneI w r a cap B p wr s g M (k + 1) :=
  ⟨I.rd, I.ws, I.bl, I.gr, I.ga, I.al, I.gz, I.eq, by have := I.le; omega, I.rp, I.ap, I.wr0, I.wp0⟩
set_option maxHeartbeats 1000000 in
/-- One thing read, and written again. -/
theorem OneI.step {w : World} {r : Nat} {a : Option Addr} {cap : Nat} {B : List UInt8} {p : Nat} {wr : World} {s : K.St} {g : Option Nat} {M : List UInt8} {k : Nat} (I : OneI w r a cap B p wr s g M k) (hT : K.Tabs w) (hB : B.length ≤ 1048576) (hk : k ≤ 1048576)
    (kd : Int) (hk10 : kd ≠ 10) (o : OpV) (R : List UInt8) (D : List (List UInt8)) (s' : K.St) (w2 wx : World) (on : K.On wr w2 92 r a cap B s') (gd : GdO w2 wr.heap.size kd o R D) (rel : Rel B s s' (enc kd o R D)) (hx : Below w2.heap.size w2 wx) :
    Calls Tryd.prog 7 #[.pointer (some ⟨p, 0, none⟩), .agg (o.c kd)] wx fun x w4 => x = .returned (.bool true) ∧ (∃ g' M', OneI w r a cap B p w4 s' g' M' (k + 1)) ∧ K.FrW p g wx w4 := by
  have hE : (enc kd o R D).length ≤ 1048576 + 40 := by
    rcases rel with ⟨_, _, h3, _, h5⟩ | ⟨_, h2⟩
    · omega
    · omega
  have hle := I.le
  have hlp := I.ws.lt
  have hlr := I.rd.lt
  have b2 : Below w.heap.size w w2 := I.bl.trans (on.2.below _ I.wr0 I.bl.size)
  have bx : Below w.heap.size w wx := b2.trans (hx.mono b2.size)
  have ws2 : K.WS w2 50 p g M 0 := WS_fr I.ws on.2 (fun e => I.rp e.symm) I.gr
  have wsx : K.WS wx 50 p g M 0 := ws2.below hx
  have rdx : K.RD wx 92 r a cap B s' := RD_b on.1 hx
  have hsz : wr.heap.size ≤ wx.heap.size := Nat.le_trans on.2.size hx.size
  have hpx : p < wx.heap.size := wsx.lt
  have hrx : r < wx.heap.size := rdx.lt
  refine (wr_one kd hk10 o R D wx wr.heap.size (gd.below hx) wsx (fun q e => I.ws.glt e) hlp (hT.below bx) (by omega)).mono fun x w4 h => ?_
  obtain ⟨h1, g', ws4, fr, nw⟩ := h
  refine ⟨h1, ⟨g', M ++ enc kd o R D, ?_⟩, fr⟩
  have hg' : ∀ q, g' = some q → q < wx.heap.size → g = some q := fun q e hq => by
    rcases nw with e1 | ⟨y, e1, hy⟩
    · exact e1.symm.trans e
    · rw [e1] at e; cases e; omega
  refine ⟨RD_frw rdx fr I.rp (fun e => I.gr e.symm) (fun ad e => ⟨I.ap ad e, I.ga ad e⟩), ws4, ?_, ?_, ?_, ?_, ?_, ?_, ?_, I.rp, I.ap, I.wr0, I.wp0⟩
  · have hz := bx.size
    have hw0 := I.wp0
    refine ⟨fr.os.trans bx.os, fr.tape.trans bx.tape, fr.output.trans bx.output, Nat.le_trans bx.size fr.size, fun q hq => (fr.block q (by omega) (by omega) (fun e => by have := I.gz q e.symm; omega)).trans (bx.block q hq)⟩
  · intro e
    exact I.gr (hg' r e hrx)
  · intro ad e e2
    exact I.ga ad e (hg' _ e2.symm (Nat.lt_of_lt_of_le (I.al ad e) hsz)).symm
  · intro ad e
    exact Nat.lt_of_lt_of_le (Nat.lt_of_lt_of_le (I.al ad e) hsz) fr.size
  · intro q e
    rcases nw with e1 | ⟨y, e1, hy⟩
    · exact I.gz q (e1.symm.trans e)
    · rw [e1] at e
      cases e
      exact Nat.le_trans bx.size hy
  · intro hb
    rcases rel with ⟨h3, h4, h5, h6, h7⟩ | ⟨h3, _⟩
    · rw [I.eq h3, h5, List.take_add]
      congr 1
      exact h6.symm
    · exact absurd hb h3
  · rw [List.length_append]
    rcases rel with ⟨h3, h4, h5, h6, h7⟩ | ⟨h3, h4⟩
    · have := I.eq h3
      have hlM : M.length ≤ s.k := by rw [this, List.length_take]; omega
      omega
    · omega
namespace K
set_option maxRecDepth 100000 in
theorem wdone_gen {p : Nat} {g : Option Nat} {M : List UInt8} (w : World) (hw : WS w 50 p g M 0) (hl : M.length ≤ 140737488355328) :
    Calls Tryd.prog 9 #[.pointer (some ⟨p, 0, none⟩)] w fun x w' => ∃ a cv, x = .returned (.tuple #[.slice a M.length cv, .int .i64 0]) ∧ Byt w' a M ∧ Below w.heap.size w w' := by
  obtain ⟨a, cv, c0, c1, hb, ha⟩ := hw.view
  clear hw
  have HC : Hid (Calls Tryd.prog 39 #[.slice a M.length cv] w fun x w' => ∃ a cv, x = .returned (.slice a M.length cv) ∧ Byt w' a M ∧ Below w.heap.size w w') := (clone_all a M.length cv M w rfl hl (fun e => by rcases ha with ⟨_, _, h⟩ | ⟨b, h⟩; exact h; rw [e] at h; cases h) hb).mono fun x w' h => by
    obtain ⟨v, h1, h2, h3⟩ := h
    obtain ⟨a', cap', rfl, _, hb', _⟩ := h2.open
    exact ⟨a', cap', h1, hb', h3⟩
  clear hb hl ha
  generalize M.length = n at *
  go_enter Tryd.func9, Tryd.ntmps9
  go_wp2_with fail
  refine HC.out.mono ?_
  rintro x w1 ⟨a1, cv1, rfl, h2, h3⟩
  have H2 := Hid.mk' h2
  have H3 := Hid.mk' h3
  clear h2 h3
  go_wp2
  go_ret2
  exact ⟨_, _, rfl, H2.out, H3.out⟩
end K
set_option maxRecDepth 100000 in
set_option maxHeartbeats 4000000 in
theorem one_all (a0 : Option Addr) (B : List UInt8) (nb cb : Nat) (a1 : Option Addr) (rs : List (Int × Int × Int × Int)) (n c1 : Nat) (w : World) (hB : B.length = nb) (hnb : nb ≤ 1048576) (ha0 : a0 = none → cb = 0) (hb : K.Byt w a0 B) (hn : rs.length = n) (hnn : n ≤ 1048576) (hr : Rdl w a1 rs)
    (hrb : ∀ k u m e, (k, u, m, e) ∈ rs → 0 ≤ u ∧ u < 18446744073709551616 ∧ -9223372036854775808 ≤ m ∧ m < 9223372036854775808) (hT : K.Tabs w) :
    Calls Tryd.prog 5 #[.slice a0 nb cb, .slice a1 n c1] w fun e w' => e = .returned (.bool true) ∧ Below w.heap.size w w' := by
  have HL := K.Hid.mk' (K.live_any w hT)
  have HT := K.Hid.mk' hT
  have HB := K.Hid.mk' hb
  have HBn := K.Hid.mk' hB
  have HN := K.Hid.mk' hn
  have HR := K.Hid.mk' hr
  have HRB := K.Hid.mk' hrb
  have HA := K.Hid.mk' ha0
  clear hT hb hB hn hr hrb ha0
  go_enter Tryd.func5, Tryd.ntmps5
  go_wp2_with fail
  refine HL.out.mono ?_
  rintro e w1 ⟨rfl, b1⟩
  have B1 := K.Hid.mk' b1
  have N1 := K.Hid.mk' (K.new_gen a0 nb cb B w1 HBn.out (by omega) HA.out (K.byt_below HB.out b1))
  clear b1 HL
  go_wp2_with fail
  refine N1.out.mono ?_
  rintro e w2 ⟨r, a, cap, rfl, rd2, hr2, b2, hblk⟩
  have B2 : Hid (Below w.heap.size w w2) := B1.out.trans (b2.mono B1.out.size)
  have hz1 := B1.out.size
  have hz2 := B2.out.size
  have I0 : Hid (OneI w r a cap B w2.heap.size (w2.alloc (.cells #[.slice none 0 0, .int .i64 0] 50)) ⟨0, 0, 0⟩ none [] 0) := by
    have bA : Below w2.heap.size w2 (w2.alloc (.cells #[.slice none 0 0, .int .i64 0] 50)) := (Below.refl _ _).alloc (Nat.le_refl _) _
    have hlr := rd2.lt
    refine ⟨RD_b rd2 bA, K.ws_new w2 _, B2.out.trans (bA.mono hz2), by simp, fun ad _ => (by simp), fun ad e => Nat.lt_of_lt_of_le (hblk ad e) bA.size, fun q e => (by cases e), fun _ => (by simp), by simp, by omega, fun ad e => (by have := hblk ad e; omega), by omega, by omega⟩
  clear rd2 hr2 b2 hblk N1 hz1
  go_wp2
  generalize (w2.alloc (.cells #[.slice none 0 0, .int .i64 0] 50)) = W0 at *
  go_loopw [7] (fun i wr => ∃ (k : Nat) (s : K.St) (g : Option Nat) (M : List UInt8), k ≤ n ∧ i = .int .i64 k ∧ Hid (OneI w r a cap B w2.heap.size wr s g M k)) (fun i _ => n - (intOf i).toNat)
  case atStart => exact ⟨0, _, _, _, Nat.zero_le _, rfl, I0⟩
  case round =>
    obtain ⟨k, s, g, M, hk, rfl, HI⟩ := hrel
    by_cases hkn : k < n
    · obtain ⟨bl, off, kd, ou, om, oe, rfl, hmem, hra, hbl⟩ := HR.out.at (i := k) (by rw [HN.out]; exact hkn)
      have HM := K.Hid.mk' (HRB.out kd ou om oe (List.mem_of_getElem? hmem))
      have RA : Hid (wr.rangeAt bl (off + 4 * k) [.int .i64 kd, .int .u64 ou, .int .i64 om, .int .i64 oe]) := rangeAt_below hra HI.out.bl hbl
      have HBL := K.Hid.mk' hbl
      have ix := fun wx => indexRead bl off n c1 k wx hkn
      have c0 : wr.cell? ⟨bl, off + 4 * k, none⟩ = some (.int .i64 kd) := RA.out 0 _ rfl
      clear hra hbl hmem
      by_cases h10 : kd = 10
      · subst h10
        have I1 := K.Hid.mk' HI.out.ext
        go_wp2
        go_roundw
        case rel => exact ⟨k + 1, s, g, M, by omega, by go_num, I1⟩
        case measure => simp [intOf]; omega
      · have RD1 := K.Hid.mk' (rd_one kd ou om oe h10 HM.out.1 HM.out.2.1 HM.out.2.2.1 HM.out.2.2.2 wr (HT.out.below HI.out.bl) (fun wx _ => HT.out.ne HI.out.wr0) HI.out.rd)
        go_wp2_with (first
          | (refine wpList_load_mid rfl 45 _ rfl bl (off + 4 * k) rfl [.int .i64 kd, .int .u64 ou, .int .i64 om, .int .i64 oe] _ RA.out Tryd.underlying45 rfl sizeRead ?_)
          | fail)
        refine RD1.out.mono ?_
        rintro x w3 ⟨o, R, D, s', rfl, on3, gd3, rel3⟩
        have hg0 : w3.heap.size < (w3.alloc (.cells o.g 42)).heap.size := by simp
        have hgs : o.g.size = 40 := gC_size gd3.hh
        have hgo : o.g.all (·.oneCell') = true := gC_one rfl rfl rfl rfl rfl rfl rfl rfl
        have GA := gotAt_row gd3.hh (heap_alloc_new w3 (.cells o.g 42)) (show o.g = gC _ _ _ _ _ _ _ _ _ from rfl)
        have bA : Below w3.heap.size w3 (w3.alloc (.cells o.g 42)) := (Below.refl _ _).alloc (Nat.le_refl _) _
        have hbu := built_op kd o gd3.hh gd3.e
        have hi7 : (Tryd.prog.info? 31).map (·.size) = some (hcs o.h).length := by rw [hcs_len, gd3.hh]; exact hsH
        have hu7 := Tryd.underlying31
        have HST : Hid (∀ wx, Below (w3.alloc (.cells o.g 42)).heap.size (w3.alloc (.cells o.g 42)) wx → Calls Tryd.prog 7 #[.pointer (some ⟨w2.heap.size, 0, none⟩), .agg (o.c kd)] wx fun x w4 => x = .returned (.bool true) ∧ (∃ g' M', OneI w r a cap B w2.heap.size w4 s' g' M' (k + 1)) ∧ K.FrW w2.heap.size g wx w4) := fun wx hx =>
          HI.out.step HT.out (by rw [HBn.out]; omega) (by omega) kd h10 o R D s' w3 wx on3 gd3 rel3 (bA.trans (hx.mono bA.size))
        have hp3 : w2.heap.size < w3.heap.size := Nat.lt_of_lt_of_le HI.out.ws.lt on3.2.size
        have hg3 : ∀ q, g = some q → q < w3.heap.size := fun q e => Nat.lt_of_lt_of_le (HI.out.ws.glt e) on3.2.size
        have hb3 : Below w.heap.size w w3 := HI.out.bl.trans (on3.2.below _ HI.out.wr0 HI.out.bl.size)
        have c3 : (w3.alloc (.cells o.g 42)).cell? ⟨bl, off + 4 * k, none⟩ = some (.int .i64 kd) := by
          have := on3.2.cell (p := ⟨bl, off + 4 * k, none⟩) (by show bl ≠ r; have := HI.out.wr0; have := HBL.out; omega) c0
          rw [bA.cell (p := ⟨bl, off + 4 * k, none⟩) (by show bl < _; have := hb3.size; have := HBL.out; omega)]
          exact this
        have hblp : bl ≠ w2.heap.size := by have := HI.out.wp0; have := HBL.out; omega
        have hblg : some bl ≠ g := fun e => by have := HI.out.gz bl e.symm; have := HBL.out; omega
        have hbl3 : bl < (w3.alloc (.cells o.g 42)).heap.size := by have := hb3.size; have := HBL.out; simp; omega
        obtain ⟨q, hq⟩ : ∃ q, q = w3.heap.size := ⟨_, rfl⟩
        have hqp : q ≠ w2.heap.size := by omega
        have hqg : some q ≠ g := fun e => by have := hg3 q e.symm; omega
        have hgg : o.g = gC (.int .u8 o.b) (.bool o.v) (.int .u64 (o.u : Int)) (.int .i64 o.n) (.float .f64 o.f) (.string o.s) (.slice o.ra o.rn o.rc) o.h (.slice o.la o.ln o.lc) := rfl
        rw [← hq] at GA hg0
        generalize hW : w3.alloc (.cells o.g 42) = W at *
        obtain ⟨oC', hoC⟩ : ∃ C, C = o.c kd := ⟨_, rfl⟩
        obtain ⟨oG', hoG⟩ : ∃ C, C = o.g := ⟨_, rfl⟩
        rw [← hoC] at hbu HST
        rw [← hoG] at hgs hgo hW ⊢
        clear hoC hoG hgg on3 gd3 rel3 RD1 hg3 hp3 hb3 bA c0
        obtain ⟨ob, ov, ou', on', of', os, ora, orn, orc, oh, ola, oln, olc, oe'⟩ := o
        simp only at GA hbu hi7
        obtain ⟨p0, p1, p2, p3, p4, p5, p6, ph, p39⟩ := GA
        have HSS : Hid (∀ wx w4, Below W.heap.size W wx → K.FrW w2.heap.size g wx w4 → w4.cell? ⟨bl, off + 4 * k, none⟩ = some (.int .i64 kd) ∧ w4.cell? ⟨q, 0, none⟩ = some (.int .u8 ob) ∧ w4.cell? ⟨q, 1, none⟩ = some (.bool ov) ∧ w4.cell? ⟨q, 2, none⟩ = some (.int .u64 (ou' : Int)) ∧ w4.cell? ⟨q, 3, none⟩ = some (.int .i64 on') ∧ w4.cell? ⟨q, 4, none⟩ = some (.float .f64 of') ∧ w4.cell? ⟨q, 5, none⟩ = some (.string os) ∧ w4.cell? ⟨q, 6, none⟩ = some (.slice ora orn orc) ∧ w4.rangeAt q 7 (hcs oh) ∧ w4.cell? ⟨q, 39, none⟩ = some (.slice ola oln olc)) := fun wx w4 hx fr => by
          have e1 : w4.heap[bl]? = W.heap[bl]? := (fr.block bl (Nat.lt_of_lt_of_le hbl3 hx.size) hblp hblg).trans (hx.block bl hbl3)
          have e2 : w4.heap[q]? = W.heap[q]? := (fr.block q (Nat.lt_of_lt_of_le hg0 hx.size) hqp hqg).trans (hx.block q hg0)
          exact ⟨cell_block e1 c3, cell_block e2 p0, cell_block e2 p1, cell_block e2 p2, cell_block e2 p3, cell_block e2 p4, cell_block e2 p5, cell_block e2 p6, fun j v hv => cell_block e2 (ph j v hv), cell_block e2 p39⟩
        have HWR : Hid (∀ wx, Below W.heap.size W wx → Calls Tryd.prog 7 #[.pointer (some ⟨w2.heap.size, 0, none⟩), .agg oC'] wx fun x w4 => x = .returned (.bool true) ∧ Hid (∃ g' M', OneI w r a cap B w2.heap.size w4 s' g' M' (k + 1)) ∧ w4.cell? ⟨bl, off + 4 * k, none⟩ = some (.int .i64 kd) ∧ w4.cell? ⟨q, 0, none⟩ = some (.int .u8 ob) ∧ w4.cell? ⟨q, 1, none⟩ = some (.bool ov) ∧ w4.cell? ⟨q, 2, none⟩ = some (.int .u64 (ou' : Int)) ∧ w4.cell? ⟨q, 3, none⟩ = some (.int .i64 on') ∧ w4.cell? ⟨q, 4, none⟩ = some (.float .f64 of') ∧ w4.cell? ⟨q, 5, none⟩ = some (.string os) ∧ w4.cell? ⟨q, 6, none⟩ = some (.slice ora orn orc) ∧ w4.rangeAt q 7 (hcs oh) ∧ w4.cell? ⟨q, 39, none⟩ = some (.slice ola oln olc)) := fun wx hx => (HST.out wx hx).mono fun x w4 h => ⟨h.1, h.2.1, HSS.out wx w4 hx h.2.2⟩
        have HWW := K.Hid.mk' hW
        rw [← hcs_arr] at hbu
        clear HST HSS hblp hblg hbl3 hqp hqg hg0
        go_wp2_with (first
          | (refine wpList_alloc_row rfl 42 rfl gz (hzG _) ?_)
          | (refine wpList_store_row rfl 42 _ _ rfl w3.heap.size oG' rfl rfl 42 gz (heap_alloc_new _ _) (by rw [hgs]; exact sizeGot) (by rw [gz_size, hgs]) hgo ?_; rw [World.setRow_alloc_new, HWW.out])
          | fail)
        change Code.wp _ _ _ _ W
        simp only [Act.put]
        rw [← hq]
        clear hq HWW hW hgs hgo RA
        have bD : Below W.heap.size W ({ W with drawn := W.drawn + 1 } : World) := (Below.refl W.heap.size W).drew
        refine wp_region_still_tail 25 (by kernel_rfl) (by kernel_rfl) ?_
        simp only [List.take_succ_cons, List.take_zero, List.drop_succ_cons, List.drop_zero]
        generalize hWd : ({ W with drawn := W.drawn + 1 } : World) = Wd at *
        have HPH : Hid (Wd.rangeAt q 7 (hcs oh)) := by rw [← hWd]; exact ph
        replace c3 : Wd.cell? ⟨bl, off + 4 * k, none⟩ = some (.int .i64 kd) := by rw [← hWd]; exact c3
        replace p0 : Wd.cell? ⟨q, 0, none⟩ = some (.int .u8 ob) := by rw [← hWd]; exact p0
        replace p1 : Wd.cell? ⟨q, 1, none⟩ = some (.bool ov) := by rw [← hWd]; exact p1
        replace p2 : Wd.cell? ⟨q, 2, none⟩ = some (.int .u64 (ou' : Int)) := by rw [← hWd]; exact p2
        replace p3 : Wd.cell? ⟨q, 3, none⟩ = some (.int .i64 on') := by rw [← hWd]; exact p3
        replace p4 : Wd.cell? ⟨q, 4, none⟩ = some (.float .f64 of') := by rw [← hWd]; exact p4
        replace p5 : Wd.cell? ⟨q, 5, none⟩ = some (.string os) := by rw [← hWd]; exact p5
        replace p6 : Wd.cell? ⟨q, 6, none⟩ = some (.slice ora orn orc) := by rw [← hWd]; exact p6
        replace p39 : Wd.cell? ⟨q, 39, none⟩ = some (.slice ola oln olc) := by rw [← hWd]; exact p39
        have HWD := K.Hid.mk' (HWR.out Wd bD)
        clear hWd ph HWR bD
        iterate 21 still_step
        refine wpStill_step (fun K hK => ?_)
        refine still_load_mid rfl 31 (.tmp 56) rfl q 7 rfl (hcs oh) _ HPH.out Tryd.underlying31 rfl hi7 (hK _ ?_)
        simp only [Act.put, List.setIfInBounds_toArray, List.set_cons_zero, List.set_cons_succ]
        clear hK K
        iterate 2 still_step
        refine wpStill_step (fun K hK => ?_)
        refine still_build rfl 35 _ rfl [(0, .int .i64 kd), (1, .int .u8 ob), (2, .bool ov), (3, .int .u64 (ou' : Int)), (4, .int .i64 on'), (5, .float .f64 of'), (6, .string os), (7, .slice ora orn orc), (8, .agg (hcs oh).toArray), (9, .slice ola oln olc)] (by first | kernel_rfl | simp) oC' hbu (hK _ ?_)
        simp only [Act.put, List.setIfInBounds_toArray, List.set_cons_zero, List.set_cons_succ]
        clear hK K
        refine wpStill_nil ?_
        go_wp2_with fail
        refine HWD.out.mono ?_
        rintro e w4 ⟨rfl, hI, s1⟩
        obtain ⟨g', M', I4⟩ := hI.out
        have I5 := K.Hid.mk' I4
        clear I4 hI s1 p0 p1 p2 p3 p4 p5 p6 p39 c3
        go_wp2
        go_roundw
        case rel => exact ⟨k + 1, s', g', M', by omega, by go_num, I5⟩
        case measure => simp [intOf]; omega
    · have HD := K.Hid.mk' (K.rdone_any wr HI.out.rd)
      have HE : Hid (K.doneE B s = 0 → M = B) := fun h => by
        unfold K.doneE at h
        have hle := HI.out.rd.at_le
        split at h
        · rename_i hb
          split at h
          · simp at h
          · rw [HI.out.eq hb, List.take_of_length_le (by omega)]
        · rename_i hb
          exact absurd h hb
      generalize K.doneE B s = de at *
      generalize K.doneP B s = dp at *
      go_wp2_with fail
      refine HD.out.mono ?_
      rintro e w5 ⟨rfl, m5, hm5⟩
      have bd : Below wr.heap.size wr w5 := by rw [hm5]; exact below_drewN' (Below.refl _ _) _
      have B5 : Hid (Below w.heap.size w w5) := HI.out.bl.trans (bd.mono HI.out.bl.size)
      have WS5 : Hid (K.WS w5 50 w2.heap.size g M 0) := HI.out.ws.below bd
      clear hm5 bd HD
      by_cases hde : de = 0
      · have hMB := HE.out hde
        subst hde
        rw [hMB] at WS5
        have DN := K.Hid.mk' (K.wdone_gen w5 WS5.out (by rw [HBn.out]; omega))
        rw [HBn.out] at DN
        clear hMB HE HI
        go_wp2_with fail
        refine DN.out.mono ?_
        rintro e w6 ⟨a6, c6, rfl, y6, b6⟩
        have B6 : Hid (Below w.heap.size w w6) := B5.out.trans (b6.mono B5.out.size)
        have SM := K.Hid.mk' (K.same_any a6 a0 B nb c6 cb w6 HBn.out y6 (K.byt_below HB.out B6.out) (by omega))
        clear y6 b6 DN
        go_wp2_with fail
        refine SM.out.mono ?_
        rintro e w7 ⟨rfl, m7, hm7⟩
        have B7 : Hid (Below w.heap.size w w7) := by rw [hm7]; exact below_drewN' B6.out _
        clear hm7 SM
        go_wp2
        go_ret
        exact ⟨rfl, B7.out⟩
      · go_wp2
        go_ret
        exact ⟨rfl, B5.out⟩
end Go.Proofs.YtbpmpcmmdiaiiaaDoor

