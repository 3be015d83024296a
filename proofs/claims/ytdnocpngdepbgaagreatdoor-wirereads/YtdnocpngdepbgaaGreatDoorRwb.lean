import Derived.Test.YtdnocpngdepbgaaGreatDoorRwr
import Derived.Test.YtdnocpngdepbgaaGreatDoorP6
namespace Go.Proofs.YtdnocpngdepbgaaGreatDoor
open Go.RowKit
set_option linter.unusedVariables false
set_option linter.unusedSimpArgs false

theorem kp_fo {g : Nat} {w w' : World} (h : Fo g w w') : Kp (fun k => k = g) w w' := ⟨h.os, h.tape, h.output, h.size, fun k hk hn => h.block k hn hk⟩
/-- Both Readers, the Book, and what was read. -/
structure Co (w wx : World) (z0 r1 r2 : Nat) (a3 : Option Addr) (c3 : Nat) (a4 : Option Addr) (c4 : Nat) (B : List UInt8) (s1 s2 : K.St) (i : Nat) (x y : Value) (VB : Nat → K.Lst) (VH : Nat → KH.Lst) (LB : Nat → List UInt8) (LH : Nat → List (List UInt8)) (q : Nat) (G : Array Value) (zr : Nat) (ra : Option Addr) (rc : Nat) (la : Option Addr) (lc : Nat) (A : Ans) : Prop where
  wi : WI w wx (z0 + 1) r1 r2 z0 a3 c3 a4 c4 B s1 s2
  bi : BI wx (z0 + 1) z0 i x y VB VH LB LH
  hq : wx.heap[q]? = some (.cells G 76 (0, 0))
  oR : K.OwnB wx zr (.slice ra A.R.length rc) A.R
  oD : OwnH wx zr (.slice la A.D.length lc) A.D
  zq : zr ≤ q
  zz : z0 + 1 ≤ zr
section
variable {w wx w' : World} {z0 r1 r2 : Nat} {a3 : Option Addr} {c3 : Nat} {a4 : Option Addr} {c4 : Nat} {B : List UInt8} {s1 s2 s' : K.St} {i : Nat} {x y : Value} {VB : Nat → K.Lst} {VH : Nat → KH.Lst} {LB : Nat → List UInt8} {LH : Nat → List (List UInt8)} {q : Nat} {G : Array Value} {zr : Nat} {ra : Option Addr} {rc : Nat} {la : Option Addr} {lc : Nat} {A : Ans}
theorem Co.by (h : Co w wx z0 r1 r2 a3 c3 a4 c4 B s1 s2 i x y VB VH LB LH q G zr ra rc la lc A) {P : Nat → Prop} (k : Kp P wx w') (hP : ∀ b, P b → b < z0 + 1 ∧ b ≠ z0) (wi : WI w w' (z0 + 1) r1 r2 z0 a3 c3 a4 c4 B s1 s') : Co w w' z0 r1 r2 a3 c3 a4 c4 B s1 s' i x y VB VH LB LH q G zr ra rc la lc A := by
  have no : ∀ b, zr ≤ b → ¬ P b := fun b hb hp => by have := (hP b hp).1; have := h.zz; omega
  exact ⟨wi, h.bi.kp k hP, (k.block q (Array.getElem?_eq_some_iff.1 h.hq).1 (no q h.zq)).trans h.hq, K.ownB_keep h.oR (fun b e => k.block b (World.ownsRow.lt h.oR b e).2 (no b (World.ownsRow.lt h.oR b e).1)), ownH_keep h.oD (fun b e => k.block b (World.ownsRow.lt h.oD.2 b e).2 (no b (World.ownsRow.lt h.oD.2 b e).1)), h.zq, h.zz⟩
theorem Co.on2 (h : Co w wx z0 r1 r2 a3 c3 a4 c4 B s1 s2 i x y VB VH LB LH q G zr ra rc la lc A) (o : K.On wx w' 110 r2 a4 c4 B s') : Co w w' z0 r1 r2 a3 c3 a4 c4 B s1 s' i x y VB VH LB LH q G zr ra rc la lc A :=
  h.by (kp_fr o.2) (fun b e => by subst e; exact ⟨h.wi.l2.2, h.wi.ne.2.2⟩) (h.wi.on2 o)
theorem Co.bel (h : Co w wx z0 r1 r2 a3 c3 a4 c4 B s1 s2 i x y VB VH LB LH q G zr ra rc la lc A) (b : Below wx.heap.size wx w') : Co w w' z0 r1 r2 a3 c3 a4 c4 B s1 s2 i x y VB VH LB LH q G zr ra rc la lc A :=
  h.by (kp_below b) (fun b e => e.elim) (h.wi.kp (kp_below b) (fun b e => e.elim))
end
set_option maxRecDepth 100000 in
set_option maxHeartbeats 4000000 in
theorem reads_all (a0 : Option Addr) (B : List UInt8) (nb cb : Nat) (a1 : Option Addr) (rs : List (Int × Int × Int × Int)) (n c1 : Nat) (w : World) (hB : B.length = nb) (hnb : nb ≤ 140737488351232) (hb : K.Byt w a0 B) (hn : rs.length = n) (hnn : n ≤ 4398046510976) (hr : Rdl w a1 rs)
    (hrb : ∀ k u m e, (k, u, m, e) ∈ rs → 0 ≤ u ∧ u < 18446744073709551616 ∧ -9223372036854775808 ≤ m ∧ m < 9223372036854775808) (hT : K.Tabs w) :
    Calls Tryz.prog 4 #[.slice a0 nb cb, .slice a1 n c1] w fun e w' => e = .returned (.bool true) ∧ Below w.heap.size w w' := by
  have HL := K.Hid.mk' (K.live_any w hT)
  have HT := K.Hid.mk' hT
  have HB := K.Hid.mk' hb
  have HBn := K.Hid.mk' hB
  have HN := K.Hid.mk' hn
  have HR := K.Hid.mk' hr
  have HRB := K.Hid.mk' hrb
  clear hT hb hB hn hr hrb
  go_enter Tryz.func4, Tryz.ntmps4
  go_wp2_with fail
  refine HL.out.mono ?_
  rintro e w1 ⟨rfl, b1⟩
  have B1 := K.Hid.mk' b1
  obtain ⟨g, hg⟩ : ∃ g, g = w1.heap.size := ⟨_, rfl⟩
  have HH : Hid (Calls Tryz.prog 17 #[.slice a0 nb cb] w1 fun e w' => e = .returned (.slice (some ⟨g, 0, none⟩) nb (nb + 9)) ∧ w'.heap[g]? = some (.cells (bs (B ++ K.marks)) 5 (0, 0)) ∧ Below w1.heap.size w1 w') := by
    have := K.hand_any a0 B cb w1 (K.byt_below HB.out b1) (by rw [HBn.out]; exact hnb)
    rw [HBn.out, ← hg] at this
    exact hg ▸ this
  have hgw : w.heap.size ≤ g := by rw [hg]; exact b1.size
  have HG := K.Hid.mk' hg
  clear b1 HL hg
  go_wp2_with fail
  refine HH.out.mono ?_
  rintro e w2 ⟨rfl, g2, b2⟩
  have B2 : Hid (Below w.heap.size w w2) := B1.out.trans (b2.mono B1.out.size)
  have hlg2 : g < w2.heap.size := (Array.getElem?_eq_some_iff.1 g2).1
  have G2 := K.Hid.mk' g2
  have Y2 : K.Byt w2 (some ⟨g, 0, none⟩) B := .inr ⟨g, 0, rfl, fun j hj => by
    rw [Nat.zero_add, ← K.own_at B j hj]
    exact (cell_of_row w2 g j _ _ _ g2).trans (bs_get _ j (by simp [K.marks]; omega))⟩
  have N2 := K.Hid.mk' (K.pnew_x g 0 nb (nb + 9) B w2 HBn.out hnb Y2)
  clear g2 b2 Y2 HH HG
  go_wp2_with fail
  refine N2.out.mono ?_
  rintro e w3 ⟨r1, a3, c3, rfl, rd1, l1, l1', p1, b3⟩
  have B3 : Hid (Below w.heap.size w w3) := B2.out.trans (b3.mono B2.out.size)
  have N3 := K.Hid.mk' (K.qnew_x a0 B nb cb w3 HBn.out (K.byt_below HB.out B3.out) hnb)
  have G3 : Hid (w3.heap[g]? = some (.cells (bs (B ++ K.marks)) 5 (0, 0))) := (b3.block g hlg2).trans G2.out
  have RD3 := K.Hid.mk' rd1
  have P3 := K.Hid.mk' p1
  clear b3 rd1 p1 N2 G2
  go_wp2_with fail
  refine N3.out.mono ?_
  rintro e w4 ⟨r2, a4, c4, rfl, rd2, l2, l2', p2, b4⟩
  have B4 : Hid (Below w.heap.size w w4) := B3.out.trans (b4.mono B3.out.size)
  have G4 : Hid (w4.heap[g]? = some (.cells (bs (B ++ K.marks)) 5 (0, 0))) := (b4.block g (by omega)).trans G3.out
  have RD4 : Hid (K.RD w4 108 r1 a3 c3 B ⟨0, 0, 0⟩ ∧ K.RD w4 110 r2 a4 c4 B ⟨0, 0, 0⟩) := ⟨RD_b RD3.out b4, rd2⟩
  have P4 := K.Hid.mk' p2
  have HK : Hid (Calls Tryz.prog 20 #[.slice (some ⟨g, 0, none⟩) nb (nb + 9), .slice a0 nb cb] w4 fun e w' => e = .returned (.bool true) ∧ ∃ m, w' = w4.drewN m) := by
    have := K.kept_any g a0 B cb w4 G4.out (K.byt_below HB.out B4.out) (by rw [HBn.out]; exact hnb)
    rw [HBn.out] at this
    exact this
  have Y4 : Hid (Byr w4 g (nb + 9)) := ⟨_, G4.out, fun j hj => ⟨_, bs_get _ j (by simp [K.marks, HBn.out]; omega)⟩⟩
  have S34 : Hid (w3.heap.size ≤ w4.heap.size) := b4.size
  clear b4 rd2 p2 N3 G3 RD3 G4
  go_wp2_with fail
  refine HK.out.mono ?_
  rintro e w5 ⟨rfl, m5, hm5⟩
  have Y5 : Hid (Byr w5 g (nb + 9)) := by rw [hm5]; exact Y4.out
  have F5 : Hid (Fo g w4 w5) := by rw [hm5]; exact (Fo.refl _ _).drew _
  clear hm5 HK Y4
  go_wp2
  go_loopw [8] (fun i wr => ∃ k : Nat, k ≤ nb ∧ i = .int .i64 k ∧ Hid (Byr wr g (nb + 9)) ∧ Hid (Fo g w4 wr)) (fun i _ => nb - (intOf i).toNat)
  case atStart => exact ⟨0, Nat.zero_le _, rfl, Y5, F5⟩
  case round =>
    obtain ⟨k, hk, rfl, HY, HF⟩ := hrel
    by_cases hkn : k < nb
    · obtain ⟨C, hgC, hcs⟩ := HY.out
      obtain ⟨q, hq⟩ := hcs k (by omega)
      have hc := (cell_of_row wr g k _ _ _ hgC).trans hq
      have hf := frozen_of_row wr g k _ _ hgC
      have YS : Hid (∀ v : Int, Byr (wr.setCell ⟨g, k, none⟩ (.int .u8 v)) g (nb + 9)) := fun v => HY.out.set k v
      have FS : Hid (∀ v : Value, Fo g w4 (wr.setCell ⟨g, k, none⟩ v)) := fun v => HF.out.cell k v
      clear hcs hgC hq
      go_wp2
      go_roundw
      case rel => exact ⟨k + 1, by omega, by go_num, YS.out _, FS.out _⟩
      case measure => simp [intOf]; omega
    · obtain rfl : k = nb := by omega
      clear hkn
      obtain ⟨z0, hz0⟩ : ∃ z0, z0 = wr.heap.size := ⟨_, rfl⟩
      obtain ⟨wq, hwq⟩ : ∃ wq, wq = wr.alloc (.cells (bkC2 (.slice none 0 0) (.slice none 0 0)) 66) := ⟨_, rfl⟩
      have hz4 : w4.heap.size ≤ z0 := by rw [hz0]; exact HF.out.size
      have bA : Below wr.heap.size wr wq := by rw [hwq]; exact (Below.refl _ _).alloc (Nat.le_refl _) _
      have sq : wq.heap.size = z0 + 1 := by rw [hwq, hz0]; simp
      have W0 : Hid (WI w wq (z0 + 1) r1 r2 z0 a3 c3 a4 c4 B ⟨0, 0, 0⟩ ⟨0, 0, 0⟩) := by
        have hz1 := B1.out.size
        have hz3 := B3.out.size
        have s34 := S34.out
        have e1 : ∀ k, k < w4.heap.size → k ≠ g → wq.heap[k]? = w4.heap[k]? := fun k h1 h2 => (bA.block k (by omega)).trans (HF.out.block k h2 h1)
        refine ⟨rd_keep RD4.out.1 (e1 _ (by omega) (by omega)) (fun ad e => e1 _ (by have := (P3.out ad e).2; omega) (by have := (P3.out ad e).1; omega)), rd_keep RD4.out.2 (e1 _ (by omega) (by omega)) (fun ad e => e1 _ (by have := (P4.out ad e).2; omega) (by have := (P4.out ad e).1; omega)), ?_, ⟨by omega, by omega⟩, ⟨by omega, by omega⟩, ⟨by omega, by omega⟩, ⟨by omega, by omega, by omega⟩, fun ad e => ?_, fun ad e => ?_, by omega⟩
        · exact ((kp_fo HF.out).bel B4.out (fun k hk e => by omega)).trans (bA.mono (by omega))
        · have := P3.out ad e; exact ⟨by omega, by omega, by omega⟩
        · have := P4.out ad e; exact ⟨by omega, by omega, by omega⟩
      have I0 : Hid (BI wq (z0 + 1) z0 0 (.slice none 0 0) (.slice none 0 0) (fun _ => ⟨none, 0, 0⟩) (fun _ => ⟨none, 0, 0⟩) (fun _ => []) (fun _ => [])) := by
        refine ⟨⟨by rw [hwq, hz0]; exact heap_alloc_new _ _, World.ownsRow_nil _ _ _ _, World.ownsRow_nil _ _ _ _⟩, ⟨fun i hi => by omega, fun i hi => by omega, fun i j hi => by omega, fun i j hi => by omega⟩, fun _ => ⟨rfl, rfl⟩⟩
      have HZ0 := K.Hid.mk' hz0
      unfold bkC2 at hwq
      have HWQ := K.Hid.mk' hwq
      have HZ4 := K.Hid.mk' hz4
      have SQ := K.Hid.mk' sq
      clear hz0 hwq bA HF HY RD4 P3 P4 B1 B2 B3 B4 S34 hz4 sq hgw hlg2 l1 l1' l2 l2' F5 Y5
      go_wp2_with fail
      rw [← HWQ.out, ← HZ0.out]
      clear HWQ HZ0
      go_loopw [10] (fun i wx => ∃ (k : Nat) (s : K.St) (x y : Value) (VB : Nat → K.Lst) (VH : Nat → KH.Lst) (LB : Nat → List UInt8) (LH : Nat → List (List UInt8)), k ≤ n ∧ i = .int .i64 k ∧ Hid (okS s) ∧ Hid (WI w wx (z0 + 1) r1 r2 z0 a3 c3 a4 c4 B s s) ∧ Hid (BI wx (z0 + 1) z0 k x y VB VH LB LH)) (fun i _ => n - (intOf i).toNat)
      case atStart => exact ⟨0, _, _, _, _, _, _, _, Nat.zero_le _, rfl, (fun _ => rfl : okS _), W0, I0⟩
      case round =>
        clear W0 I0
        obtain ⟨i, s, x, y, VB, VH, LB, LH, hin, rfl, HS, HW, HI⟩ := hrel
        by_cases hlt : i < n
        · have hlt' : (i : Int) < (n : Int) := by omega
          obtain ⟨bl, off, kd, ou, om, oe, rfl, hmem, hra, hbl⟩ := HR.out.at (i := i) (by rw [HN.out]; exact hlt)
          obtain ⟨hu0, hu1, hm0, hm1⟩ := HRB.out kd ou om oe (List.mem_of_getElem? hmem)
          obtain ⟨un, hun⟩ : ∃ un : Nat, ou = (un : Int) := ⟨ou.toNat, by omega⟩
          have P1 := K.Hid.mk' (px_all kd ou om oe un hun (by omega) hm0 hm1 wr HW.out.rd1 (HT.out.below HW.out.bel) (HT.out.ne HW.out.l1.1))
          have Q1 : Hid (∀ wx s', WI w wx (z0 + 1) r1 r2 z0 a3 c3 a4 c4 B s' s → Calls Tryz.prog 23 #[.pointer (some ⟨r2, 0, none⟩), .agg #[.int .i64 kd, .int .u64 ou, .int .i64 om, .int .i64 oe]] wx (RdX wx 110 r2 a4 c4 B (ans B s kd un om) (stn B s kd un om oe))) := fun wx s' h => qx_all kd ou om oe un hun (by omega) hm0 hm1 wx h.rd2
          have SO := K.Hid.mk' (stn_ok (L := B) HS.out kd un om oe)
          have AO := K.Hid.mk' (ans_ok B s kd un om)
          have RA : Hid (∀ wx, Below w.heap.size w wx → wx.rangeAt bl (off + 4 * i) [.int .i64 kd, .int .u64 ou, .int .i64 om, .int .i64 oe]) := fun wx b => rangeAt_below hra b hbl
          have R1 : Hid (wr.rangeAt bl (off + 4 * i) [.int .i64 kd, .int .u64 ou, .int .i64 om, .int .i64 oe]) := RA.out wr HW.out.bel
          have ix := fun wx => indexRead bl off n c1 i wx hlt
          clear hra hmem hu0 hu1 hm0 hm1 hun
          generalize ans B s kd un om = A at *
          generalize stn B s kd un om oe = s2 at *
          go_wp2_with (first
            | (refine wpList_load_mid rfl 79 _ rfl bl (off + 4 * i) rfl [.int .i64 kd, .int .u64 ou, .int .i64 om, .int .i64 oe] _ R1.out Tryz.underlying79 rfl sizeRead ?_)
            | fail)
          refine P1.out.mono ?_
          rintro x6 w6 ⟨ra, rc, la, lc, rfl, on6, oR, oD⟩
          have W6 := HW.out.on1 on6
          have I6 := HI.out.kp (kp_fr on6.2) (fun b e => by subst e; exact ⟨HW.out.l1.2, HW.out.ne.2.1⟩)
          obtain ⟨G, hG⟩ : ∃ G, G = A.g ra rc la lc := ⟨_, rfl⟩
          rw [← hG]
          have hgs : G.size = 40 := by rw [hG]; exact gC_size AO.out.h
          have hgo : G.all (·.oneCell') = true := by rw [hG]; exact gC_one rfl rfl rfl rfl rfl rfl rfl rfl
          obtain ⟨w7, hw7⟩ : ∃ w7, w7 = w6.alloc (.cells G 76) := ⟨_, rfl⟩
          obtain ⟨q, hq⟩ : ∃ q, q = w6.heap.size := ⟨_, rfl⟩
          obtain ⟨zr, hzr⟩ : ∃ zr, zr = wr.heap.size := ⟨_, rfl⟩
          have bA : Below w6.heap.size w6 w7 := by rw [hw7]; exact (Below.refl _ _).alloc (Nat.le_refl _) _
          have CO : Hid (Co w w7 z0 r1 r2 a3 c3 a4 c4 B s2 s i x y VB VH LB LH q G zr ra rc la lc A) :=
            ⟨W6.kp (kp_below bA) (fun b e => e.elim), I6.kp (kp_below bA) (fun b e => e.elim), by rw [hw7, hq]; exact heap_alloc_new _ _, by rw [hzr]; exact K.ownB_keep oR (fun b e => bA.block b (World.ownsRow.lt oR b e).2), by rw [hzr]; exact ownH_keep oD (fun b e => bA.block b (World.ownsRow.lt oD.2 b e).2), by rw [hq, hzr]; exact on6.2.size, by rw [hzr]; exact HW.out.zz⟩
          have LTB : Hid ((∀ j, j < i → ∀ b, (VB j).v.ownBlock = some b → b < zr) ∧ (∀ j, j < i → ∀ b, (VH j).v.ownBlock = some b → b < zr)) := ⟨fun j hj b e => by rw [hzr]; exact (HI.out.ltB j hj b e).2, fun j hj b e => by rw [hzr]; exact (HI.out.ltH j hj b e).2⟩
          have hAR : A.R.length ≤ 140737488351232 := by have := AO.out.R; rw [HBn.out] at this; omega
          have hAD : A.D.length ≤ 4398046510976 := by have := AO.out.D; rw [HBn.out] at this; omega
          have HW7 := K.Hid.mk' hw7
          have HG := K.Hid.mk' hG
          have HQ := K.Hid.mk' hq
          have HA : Hid (A.R.length ≤ 140737488351232 ∧ A.D.length ≤ 4398046510976) := ⟨hAR, hAD⟩
          clear hw7 hG hq I6 W6 oR oD on6 R1 P1 bA hzr HI HW hAR hAD HS
          go_upto_region 17 with (first
            | (refine wpList_alloc_row rfl 76 rfl gz (hzG _) ?_)
            | (refine wpList_store_row rfl 76 _ _ rfl w6.heap.size G rfl rfl 76 gz (heap_alloc_new _ _) (by rw [hgs]; exact sizeGot) (by rw [gz_size, hgs]) hgo ?_; rw [World.setRow_alloc_new, ← HW7.out])
            | fail)
          try simp only [Act.put, List.setIfInBounds_toArray, List.set_cons_zero, List.set_cons_succ]
          rw [← HQ.out]
          refine reads17 bl off c1 n i q r1 r2 G #[.int .i64 kd, .int .u64 ou, .int .i64 om, .int .i64 oe]
            (fun wx => wx.heap[q]? = some (.cells G 76 (0, 0)) ∧ Below w.heap.size w wx)
            (fun G2 wx => Co w wx z0 r1 r2 a3 c3 a4 c4 B s2 s2 i x y VB VH LB LH q G zr ra rc la lc A ∧ ∃ ra' rc' la' lc', G2 = A.g ra' rc' la' lc' ∧ K.Byt wx ra' A.R ∧ Hl wx la' A.D)
            (fun wx => Co w wx z0 r1 r2 a3 c3 a4 c4 B s2 s2 i x y VB VH LB LH q G zr ra rc la lc A) _ w7 _ rfl rfl rfl rfl rfl rfl (by omega) hlt' ix ?_ ?_ ?_ ?_ ?_ ?_ ?_
          · exact ⟨CO.out.hq, CO.out.wi.bel.drew⟩
          · intro wx h
            refine run_loadAt_mid (P := Tryz.prog) wx q 0 76 G.toList _ (fun j u hu => ?_) Tryz.underlying76 rfl (by rw [Array.length_toList, hgs]; exact sizeGot)
            rw [Nat.zero_add]
            exact (cell_of_row wx q j _ _ _ h.1).trans (by rw [← Array.getElem?_toList]; exact hu)
          · intro wx h
            exact run_loadAt_mid (P := Tryz.prog) wx bl (off + 4 * i) 79 [.int .i64 kd, .int .u64 ou, .int .i64 om, .int .i64 oe] _ (RA.out wx h.2) Tryz.underlying79 rfl sizeRead
          · have CD := CO.out.bel (w' := w7.drew) (Below.refl _ _).drew
            refine (Q1.out w7.drew s2 CD.wi).mono ?_
            rintro e w8 ⟨ra', rc', la', lc', rfl, on8, oR8, oD8⟩
            have C8 := CD.on2 on8
            obtain ⟨_, _, e1, _, by1, _⟩ := oR8.open
            simp only [Value.slice.injEq] at e1
            rw [← e1.1] at by1
            exact ⟨_, rfl, ⟨C8.hq, C8.wi.bel⟩, C8, ra', rc', la', lc', rfl, by1, KH.ownH_hl oD8⟩
          · rintro G2 wx ⟨C8, ra', rc', la', lc', rfl, by2, hl2⟩
            obtain ⟨_, _, e1, _, by1, _⟩ := C8.oR.open
            simp only [Value.slice.injEq] at e1
            rw [← e1.1] at by1
            rw [HG.out]
            refine (same_true A.b A.u A.n A.v A.f ⟨A.s.toArray⟩ ra ra' A.R.length rc rc' A.R A.h la la' A.D.length lc lc' A.D wx rfl HA.out.1 by1 by2 AO.out.h AO.out.d rfl (by have := HA.out.2; omega) (KH.ownH_hl C8.oD) hl2 (sameF A.f AO.out.f AO.out.f64)).mono ?_
            rintro e w9 ⟨h1, b9⟩
            have C9 := C8.bel b9
            rw [← HG.out]
            exact ⟨h1, ⟨C9.hq, C9.wi.bel⟩, C9⟩
          · intro wx C9
            refine (stands_any r1 r2 a3 a4 c3 c4 B s2 wx C9.wi.rd1 C9.wi.rd2 SO.out).mono ?_
            rintro e w9 ⟨h1, b9⟩
            have CB := C9.bel b9
            exact ⟨h1, ⟨CB.hq, CB.wi.bel⟩, CB⟩
          · intro G2 a' w8 C8 ha'
            subst ha'
            have C8' := K.Hid.mk' C8
            have GA := gotAt_row AO.out.h C8.hq (HG.out.trans rfl)
            have g6 := GA.c6
            have TB := K.Hid.mk' (take_both (z0 + 1) z0 i x y VB VH LB LH w8 C8.bi (by omega) C8.wi.zz (by omega) zr C8.zz ra rc A.R la lc A.D C8.oR C8.oD HA.out.1 HA.out.2 LTB.out.1 LTB.out.2)
            have G39 := K.Hid.mk' GA.c39
            clear GA C8 CO LTB Q1 RA ix HW7 HG HQ hgs hgo
            simp only [Act.put, List.setIfInBounds_toArray, List.set_cons_zero, List.set_cons_succ]
            go_wp2_with fail
            refine TB.out.mono ?_
            rintro e w9 ⟨rfl, kp9, fr9, TH⟩
            have g39 : w9.cell? ⟨q, 39, none⟩ = some (.slice la A.D.length lc) := cell_block (fr9 q (Array.getElem?_eq_some_iff.1 C8'.out.hq).1 (by have := C8'.out.zq; have := C8'.out.zz; omega) (own_ty C8'.out.bi.bk.ox C8'.out.hq (by decide))) G39.out
            have TH' := K.Hid.mk' TH
            clear TH fr9 kp9 TB G39 g6
            go_wp2_with fail
            refine TH'.out.mono ?_
            rintro e w10 ⟨rfl, kp10, x', y', I10⟩
            have WN := K.Hid.mk' (C8'.out.wi.kp kp10 (fun b h => h))
            have IN := K.Hid.mk' I10
            clear TH' kp10 I10 C8' g39
            go_wp2
            go_roundw
            case rel => exact ⟨i + 1, s2, x', y', _, _, _, _, by omega, by go_num, SO, WN, IN⟩
            case measure => simp [intOf]; omega
        · obtain rfl : i = n := by omega
          clear hlt
          have BA := K.Hid.mk' (book_all (z0 + 1) z0 i x y VB VH LB LH wr HI.out hnn HW.out.zz (by omega))
          go_wp2_with fail
          refine BA.out.mono ?_
          rintro e w9 ⟨rfl, kp9⟩
          have W9 := K.Hid.mk' (HW.out.kp kp9 (fun b h => h))
          have ST := K.Hid.mk' (stands_any r1 r2 a3 a4 c3 c4 B s w9 W9.out.rd1 W9.out.rd2 HS.out)
          clear kp9 BA HW HI
          go_wp2_with fail
          refine ST.out.mono ?_
          rintro e w10 ⟨rfl, b10⟩
          have B10 : Hid (Below w.heap.size w w10) := W9.out.bel.trans (b10.mono W9.out.bel.size)
          clear b10 ST W9
          go_wp2
          go_ret
          exact ⟨rfl, B10.out⟩
end Go.Proofs.YtdnocpngdepbgaaGreatDoor
