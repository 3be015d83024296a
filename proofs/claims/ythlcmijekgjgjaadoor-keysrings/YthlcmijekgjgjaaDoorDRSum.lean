import Derived.Test.YthlcmijekgjgjaaDoorDRSumA
namespace Go.Proofs.YthlcmijekgjgjaaDoor
open Go.RowKit
set_option linter.unusedVariables false
set_option linter.unusedSimpArgs false

theorem hu26 : Tryd.prog.underlying 45 = some (.slice (Tryd.prog.elem 45)) := by kernel_rfl
set_option maxRecDepth 100000 in
set_option maxHeartbeats 4000000 in
theorem rsum_any (a : Option Addr) (l : List UInt8) (len cap : Nat) (w : World) (hlen : l.length = len) (hb : Byt w a l) (hl : l.length ≤ 140737488355200) (hK : RoundsAt w) (hF : RootsAt w) (h5 : 4 ≤ w.heap.size) :
    Calls Tryd.prog 10 #[.slice a len cap] w fun e w' => e = .returned (.agg (bs (sha l))) ∧ Below w.heap.size w w' := by
  subst hlen
  have bl0 : Below w.heap.size w (w.alloc (.cells (bs z32) 43)) := (Below.refl _ _).alloc (Nat.le_refl _) _
  have gr0 : (w.alloc (.cells (bs z32) 43)).heap[w.heap.size]? = some (.cells (bs z32) 43 (0, 0)) := heap_alloc_new _ _
  have B0 := byt_below hb bl0
  have hsz : w.heap.size + 1 ≤ (w.alloc (.cells (bs z32) 43)).heap.size := by simp
  have HSZ : Hid (w.heap.size + 1 ≤ (w.alloc (.cells (bs z32) 43)).heap.size) := hsz
  clear hsz
  have rlo := room_lo l.length
  have rhi := room_hi l.length
  go_enter Tryd.func10, Tryd.ntmps10
  go_wp2_with (first | (refine wpList_alloc_row rfl 43 rfl (bs z32) (hz24 _) ?_) | (at_builtin; refine wpList_app rfl (.tmp 10) (.tmp 11) rfl (w.heap.size + 1) (.slice none 0 0) [] rfl (ownB_nil _ _) a l.length cap l rfl rfl B0 (by simp; omega) HSZ.out ?_))
  intro v1 w1 own1 gr1
  have st1 := app_step (w := w) (ownB_nil _ _) gr0 bl0 (Below.refl _ _) gr1
  obtain ⟨h01, bel1⟩ := st1
  have z1 : w.heap.size < w1.heap.size := (Array.getElem?_eq_some_iff.1 h01).1
  clear gr1 gr0 bl0 B0 HSZ
  have HA1 : Hid (OwnB (w1.alloc (.cells #[.int .u8 128] 5)) (w.heap.size + 1) v1 l) := own1.below ((Below.refl _ _).alloc (Nat.le_refl _) _)
  have HB1 : Hid (Byt (w1.alloc (.cells #[.int .u8 128] 5)) (some ⟨w1.heap.size, 0, none⟩) [128]) := byt_one w1 128 5
  have HC1 : Hid (w.heap.size + 1 ≤ (w1.alloc (.cells #[.int .u8 128] 5)).heap.size) := by show _ ≤ _; simp; omega
  have HD1 : Hid (Below w1.heap.size w1 (w1.alloc (.cells #[.int .u8 128] 5))) := (Below.refl _ _).alloc (Nat.le_refl _) _
  go_wp2_with (first | (at_builtin; refine wpList_app rfl (.tmp 13) (.tmp 15) rfl (w.heap.size + 1) v1 l rfl HA1.out (some ⟨w1.heap.size, 0, none⟩) 1 1 [128] rfl rfl HB1.out (by simp; omega) HC1.out ?_) | (at_builtin; refine wpList_app rfl (.tmp 13) (.tmp 14) rfl (w.heap.size + 1) v1 l rfl HA1.out (some ⟨w1.heap.size, 0, none⟩) 1 1 [128] rfl rfl HB1.out (by simp; omega) HC1.out ?_))
  intro v2 w2 own2 gr2
  obtain ⟨h02, bel2⟩ := app_step (w := w) own1 h01 bel1 HD1.out gr2
  have e1 : l ++ [128] = pAt l 1 := by
    have := pAt_succ l 0 128 (by omega) (by rw [padL_get _ _ (by omega)]; rfl)
    rw [pAt_zero] at this
    exact this
  rw [e1] at own2
  clear HA1 HB1 HC1 HD1 e1 gr2 h01 bel1 z1 own1
  go_wp2
  go_loopw [3] (fun v wr => ∃ k : Nat, 1 ≤ k ∧ k ≤ room l.length ∧ OwnB wr (w.heap.size + 1) v (pAt l k) ∧ wr.heap[w.heap.size]? = some (.cells (bs z32) 43 (0, 0)) ∧ Below w.heap.size w wr) (fun v _ => l.length + 64 - lenOf v)
  case atStart => exact ⟨1, by omega, by omega, own2, h02, bel2⟩
  case round =>
    clear own2 h02 bel2
    obtain ⟨k, hk1, hk2, own, h0, bel⟩ := hrel
    have z1 : w.heap.size < wr.heap.size := (Array.getElem?_eq_some_iff.1 h0).1
    have HL := pAt_len l k (by omega)
    obtain ⟨g, cp, hv, hcp, hcl, hg1, hg2⟩ := own.open1 (by omega)
    rw [HL] at hv hcp
    have hmod := room_mod l.length k hk1 hk2
    obtain ⟨q, hq⟩ : ∃ q, q = l.length + k := ⟨_, rfl⟩
    have hq2 : q ≤ 140737488355264 := by omega
    rw [← hq] at hv hcp hmod
    have HQ : Hid (q = l.length + k) := hq
    clear hq
    subst hv
    by_cases h1 : k = room l.length
    · subst h1
      have hm : ((q : Int) % 64 = 56) := by have := hmod.2 rfl; omega
      clear hmod HL
      go_wp2
      clear hm
      go_loopw [3, 5] (fun v i wq => ∃ k : Nat, k ≤ 8 ∧ i = .int .i64 k ∧ OwnB wq (w.heap.size + 1) v (pAt l (room l.length + k)) ∧ wq.heap[w.heap.size]? = some (.cells (bs z32) 43 (0, 0)) ∧ Below w.heap.size w wq) (fun _ i _ => 8 - (intOf i).toNat)
      case atStart => exact ⟨0, by omega, rfl, own, h0, bel⟩
      case round =>
        clear own h0 bel hcl z1 hg1 hg2 hcp hq2 HQ hk1 hk2
        obtain ⟨k, hk, rfl, own, h0, bel⟩ := hrel
        have z1 : w.heap.size < wr.heap.size := (Array.getElem?_eq_some_iff.1 h0).1
        have HL := pAt_len l (room l.length + k) (by omega)
        by_cases h1 : k < 8
        · have ht : (56 - 8 * (k : Int)).toNat = 56 - 8 * k := by omega
          have hx := lenB_int l.length k (by omega) h1
          generalize hbb : lenB l.length k = bb at hx
          have HBB : Hid (lenB l.length k = bb) := hbb
          clear hbb
          obtain ⟨gv, cv, hv, _⟩ := own.open1 (by omega)
          rw [HL] at hv
          obtain ⟨qv, hqv⟩ : ∃ qv, qv = l.length + (room l.length + k) := ⟨_, rfl⟩
          rw [← hqv] at hv
          have HQV : Hid (qv = l.length + (room l.length + k)) := hqv
          clear hqv
          subst hv
          have HA1 : Hid (OwnB (wr.alloc (.cells #[.int .u8 (bb.toNat : Int)] 5)) (w.heap.size + 1) (.slice (some ⟨gv, 0, none⟩) qv cv) (pAt l (room l.length + k))) := own.below ((Below.refl _ _).alloc (Nat.le_refl _) _)
          have HB1 : Hid (Byt (wr.alloc (.cells #[.int .u8 (bb.toNat : Int)] 5)) (some ⟨wr.heap.size, 0, none⟩) [bb]) := byt_one wr bb 5
          have HC1 : Hid (w.heap.size + 1 ≤ (wr.alloc (.cells #[.int .u8 (bb.toNat : Int)] 5)).heap.size) := by show _ ≤ _; simp; omega
          have HD1 : Hid (Below wr.heap.size wr (wr.alloc (.cells #[.int .u8 (bb.toNat : Int)] 5))) := (Below.refl _ _).alloc (Nat.le_refl _) _
          have HE : Hid ((pAt l (room l.length + k)).length + ([bb] : List UInt8).length ≤ 140737488355328) := by show _ ≤ _; simp; omega
          clear HL
          go_wp2_with (first | (at_builtin; refine wpList_app rfl (.tmp 31) (.tmp 38) rfl (w.heap.size + 1) (.slice (some ⟨gv, 0, none⟩) qv cv) (pAt l (room l.length + k)) rfl HA1.out (some ⟨wr.heap.size, 0, none⟩) 1 1 [bb] rfl rfl HB1.out HE.out HC1.out ?_))
          intro v3 w3 own3 gr3
          obtain ⟨h03, bel3⟩ := app_step (w := w) own h0 bel HD1.out gr3
          rw [pAt_succ l (room l.length + k) bb (by omega) (by rw [padL_get _ _ (by omega), if_neg (by omega), if_pos (by omega), ← HBB.out, show room l.length + k - room l.length = k by omega])] at own3
          clear HA1 HB1 HC1 HD1 HE gr3 h0 bel own hx ht
          go_wp2
          go_roundw
          case rel => exact ⟨k + 1, by omega, by go_num, own3, h03, bel3⟩
          case measure => simp [intOf]; omega
        · obtain rfl : k = 8 := by omega
          clear h1 hk
          rw [pAt_all] at own HL
          obtain ⟨g3, cp3, hv3, hcp3, hcl3, hg3, hg3'⟩ := own.open1 (by rw [HL]; omega)
          have HW := room_whole l.length
          have SH : Hid (sha l = out (stN (l ++ padL l.length) ((l ++ padL l.length).length / 64))) := rfl
          obtain ⟨N, hN⟩ : ∃ N, (l ++ padL l.length).length = 64 * N := ⟨(l ++ padL l.length).length / 64, by rw [HL]; omega⟩
          have hNN : 64 * N ≤ 140737488355328 := by omega
          rw [hN, show 64 * N / 64 = N by omega] at SH
          clear HL HW own
          generalize l ++ padL l.length = F at *
          rw [hN] at hv3 hcp3 hcl3
          subst hv3
          have hKr := roundsAt_below hK h5 bel
          have hFr := roots_range (rootsAt_below hF h5 bel)
          have G6 : (wr.alloc (.cells (ws z8) 52)).heap[wr.heap.size]? = some (.cells (ws z8) 52 (0, 0)) := heap_alloc_new _ _
          have ZF : (ws z8).size = (ws first.list).size := rfl
          have ZI : (Tryd.prog.info? 52).map (·.size) = some (ws first.list).size := hs58
          go_wp2_with (first | (refine wpList_load_mid rfl 52 (.global 0) rfl 0 0 rfl (ws first.list).toList _ hFr Tryd.underlying52 rfl (by exact hs58) ?_) | (refine wpList_alloc_row rfl 52 rfl (ws z8) (hz58 _) ?_) | (refine wpList_store_row rfl 52 (.tmp 6) (.tmp 40) rfl _ (ws first.list) rfl rfl 52 (ws z8) G6 ZI ZF (ws_one _) ?_; rw [World.setRow_alloc_new]))
          have g6 : (wr.alloc (.cells (ws first.list) 52)).heap[wr.heap.size]? = some (.cells (ws first.list) 52 (0, 0)) := heap_alloc_new _ _
          have be6 : Below wr.heap.size wr (wr.alloc (.cells (ws first.list) 52)) := (Below.refl _ _).alloc (Nat.le_refl _) _
          generalize (wr.alloc (.cells (ws first.list) 52)) = W3 at *
          have z3 : wr.heap.size < W3.heap.size := (Array.getElem?_eq_some_iff.1 g6).1
          have hc3 : ∀ j, j < 64 * N → W3.cell? ⟨g3, j, none⟩ = some (.int .u8 (at8 F j)) := fun j hj => (be6.cell (p := ⟨g3, j, none⟩) hg3').trans (hcl3 j hj)
          have belW : Below w.heap.size w W3 := bel.trans (be6.mono (by omega))
          have hK3 : RoundsAt W3 := roundsAt_below hK h5 belW
          have h03 : W3.heap[w.heap.size]? = some (.cells (bs z32) 43 (0, 0)) := by rw [be6.block _ z1]; exact h0
          obtain ⟨b6, hb6⟩ : ∃ b6, b6 = wr.heap.size := ⟨_, rfl⟩
          rw [← hb6] at g6 z3 hg3' z1 ⊢
          clear G6 ZF ZI hFr hcl3 hKr h0 bel be6 hb6
          go_loopw [7] (fun i wq => ∃ k : Nat, k ≤ N ∧ i = .int .i64 (64 * (k : Int)) ∧ wq.heap[b6]? = some (.cells (ws (stN F k).list) 52 (0, 0)) ∧ But b6 W3 wq) (fun i _ => 64 * N - (intOf i).toNat)
          case atStart => exact ⟨0, by omega, by simp, g6, But.refl _ _⟩
          case round =>
            clear g6
            obtain ⟨k, hk, rfl, h6, hbut⟩ := hrel
            have z4 : W3.heap.size ≤ wr.heap.size := hbut.size
            by_cases h1 : k < N
            · have hcpk : 64 * k + 64 ≤ cp3 := by omega
              obtain ⟨⟨y0, y1, y2, y3, y4, y5, y6, y7⟩, yf⟩ := v_cells h6
              have hKr : RoundsAt wr := fun j hj => (hbut.cell (p := ⟨2, j, none⟩) (block_lt_of_cell (hK3 j hj)) (by show 2 ≠ b6; omega)).trans (hK3 j hj)
              have H : Hid (∀ cp wx, wx.heap = wr.heap → Calls Tryd.prog 14 #[.agg #[.int .u32 (U (stN F k).a), .int .u32 (U (stN F k).b), .int .u32 (U (stN F k).c), .int .u32 (U (stN F k).d), .int .u32 (U (stN F k).e), .int .u32 (U (stN F k).f), .int .u32 (U (stN F k).g), .int .u32 (U (stN F k).h)], .slice (some ⟨g3, 64 * k, none⟩) 64 cp] wx fun e w' =>
                  ∃ r : S8, r = stN F (k + 1) ∧ e = .returned (.agg #[.int .u32 (U r.a), .int .u32 (U r.b), .int .u32 (U r.c), .int .u32 (U r.d), .int .u32 (U r.e), .int .u32 (U r.f), .int .u32 (U r.g), .int .u32 (U r.h)]) ∧ Below wx.heap.size wx w') := fun cp wx hx =>
                rmixed_lit (stN F k) g3 (64 * k) cp ((F.drop (64 * k)).take 64) wx (by simp; omega) (fun j hj => by
                  have e : at8 ((F.drop (64 * k)).take 64) j = at8 F (64 * k + j) := by simp [at8, List.getElem?_take, hj]
                  rw [e, World.cell?_of_block (w := wr) (by rw [hx])]
                  exact (hbut.cell (p := ⟨g3, 64 * k + j, none⟩) (by show g3 < _; omega) (by show g3 ≠ b6; omega)).trans (hc3 _ (by omega))) (fun j hj => by rw [World.cell?_of_block (w := wr) (by rw [hx])]; exact hKr j hj)
              generalize stN F k = sk at *
              have hwr : IntKind.i64.wrap (64 * (k : Int) + 64) = 64 * (k : Int) + 64 := by rw [IntKind.wrap_i64]; omega
              have hsl := slice64 g3 N k cp3 h1 hcp3
              have hsl2 : ∀ wx, (Instr.slice 45 (.slice (some ⟨g3, 0, none⟩) (64 * N) cp3) (some (.int .i64 (64 * (k : Int)))) (some (.int .i64 (64 * (k : Int) + 64))) none).run Tryd.prog wx = .ok (.slice (some ⟨g3, 64 * k, none⟩) 64 (cp3 - 64 * k)) wx := fun wx => (run_sliceAt_slice wx _ _ _ _ _ hu26).symm.trans (hsl wx)
              clear hK3 hc3
              go_wp2
              go_region_with (go_at_call 14; refine (H.out _ _ ?_).mono ?_; rfl; rintro e wz ⟨r, hr, rfl, hbz⟩; have HR : Hid (r = stN F (k + 1)) := hr; clear hr; have hgz : wz.heap[b6]? = some (.cells (ws sk.list) 52 (0, 0)) := (hbz.block b6 (by show b6 < wr.heap.size; omega)).trans h6; obtain ⟨⟨q0, q1, q2, q3, q4, q5, q6, q7⟩, qf⟩ := v_cells hgz)
              clear y0 y1 y2 y3 y4 y5 y6 y7 yf q0 q1 q2 q3 q4 q5 q6 q7 qf
              go_wp2
              all_goals go_roundw
              case rel => exact v_rel hbut (below_of_drew hbz) h6 HR.out h1 _ rfl
              case measure => simp [intOf]; omega
            · obtain rfl : k = N := by omega
              clear h1 hk
              generalize stN F k = S at *
              have W5b : Below wr.heap.size wr (wr.alloc (.cells (bs z32) 43)) := (Below.refl _ _).alloc (Nat.le_refl _) _
              have W58 : (wr.alloc (.cells (bs z32) 43)).heap[wr.heap.size]? = some (.cells (bs z32) 43 (0, 0)) := heap_alloc_new _ _
              have W5z := hbut.below (B := w.heap.size) (by omega) (by omega)
              have W50 : wr.heap[w.heap.size]? = some (.cells (bs z32) 43 (0, 0)) := by rw [hbut.block _ (by omega) (by omega)]; exact h03
              go_wp2_with (first | (refine wpList_alloc_row rfl 43 rfl (bs z32) (hz24 _) ?_))
              generalize (wr.alloc (.cells (bs z32) 43)) = W5 at *
              have b60 : W5.heap[b6]? = some (.cells (ws S.list) 52 (0, 0)) := by rw [W5b.block _ (by omega)]; exact h6
              have b00 : W5.heap[w.heap.size]? = some (.cells (bs z32) 43 (0, 0)) := by rw [W5b.block _ (by omega)]; exact W50
              have BW : Below w.heap.size w W5 := (belW.trans W5z).trans (W5b.mono (by omega))
              have zz5 : wr.heap.size < W5.heap.size := (Array.getElem?_eq_some_iff.1 W58).1
              obtain ⟨b8, hb8⟩ : ∃ b8, b8 = wr.heap.size := ⟨_, rfl⟩
              rw [← hb8] at W58 zz5 z4 ⊢
              clear W5b W5z W50 belW hbut h6 h03 hb8 hK3 hc3
              go_loopw [9] (fun i wq => ∃ k : Nat, k ≤ 32 ∧ i = .int .i64 (k : Int) ∧ wq.heap[b8]? = some (.cells (bs (outTo S k)) 43 (0, 0)) ∧ But b8 W5 wq) (fun i _ => 32 - (intOf i).toNat)
              case atStart => exact ⟨0, by omega, by simp, by rw [outTo_zero]; exact W58, But.refl _ _⟩
              case round =>
                clear W58
                obtain ⟨n, hn, rfl, h8, hbut⟩ := hrel
                have z8' : W5.heap.size ≤ wr.heap.size := hbut.size
                have b6r : wr.heap[b6]? = some (.cells (ws S.list) 52 (0, 0)) := by rw [hbut.block _ (by omega) (by omega)]; exact b60
                by_cases h1 : n < 32
                · have c6 := (cell_of_row wr b6 (n / 4) _ _ _ b6r).trans (ws_get S.list (n / 4) (by simp [S8.list]; omega))
                  have c8 := (cell_of_row wr b8 n _ _ _ h8).trans (bs_get _ n (by rw [outTo_len]; omega))
                  have f8 := frozen_of_row wr b8 n _ _ h8
                  have hob := ob_at S n h1
                  have ht : ((n : Int) / 4).toNat = n / 4 := by omega
                  have ht2 : (24 - 8 * ((n : Int) % 4)).toNat = 24 - 8 * (n % 4) := by omega
                  have hb4 : (n : Int) / 4 < 8 := by omega
                  have hb5 : 0 ≤ (n : Int) / 4 := by omega
                  have hb6 : 0 ≤ (n : Int) % 4 := by omega
                  have hb7 : (n : Int) % 4 < 4 := by omega
                  generalize S.list.getD (n / 4) 0 = x at *
                  go_wp2
                  go_roundw
                  case rel => exact o_rel h1 h8 hbut _ rfl _ rfl
                  case measure => simp [intOf]; omega
                · obtain rfl : n = 32 := by omega
                  have h8q : wr.heap[b8]? = some (.cells (bs (out S)) 43 (0, 0)) := h8
                  have b0r : wr.heap[w.heap.size]? = some (.cells (bs z32) 43 (0, 0)) := by rw [hbut.block _ (by omega) (by omega)]; exact b00
                  have LO : (out S).length = 32 := outTo_len _ _
                  have BE : Below w.heap.size w wr := BW.trans (hbut.below (by omega) (by omega))
                  clear h8 hbut b6r BW b00 b60
                  go_wp2_with (first | (refine wpList_load_arr rfl 43 (.tmp 8) rfl b8 rfl 43 (bs (out S)) (0, 0) _ h8q Tryd.underlying43 rfl (by rw [bs_size, LO]; exact hs24) ?_) | (refine wpList_store_row rfl 43 (.tmp 2) (.tmp 70) rfl w.heap.size (bs (out S)) rfl rfl 43 (bs z32) b0r (by rw [bs_size, LO]; exact hs24) (by rw [bs_size, bs_size, LO]; rfl) (bs_one _) ?_))
                  exact bodyPost_ret (res14 _ _ w.heap.size 43 (out S) LO (0, 0) rfl (setRow_heap _ _ _ _ _ _ b0r)) rfl ⟨by rw [SH.out], BE.trans (below_setRow _ _ _ _ (Nat.le_refl _))⟩
    · have hm : ¬ ((q : Int) % 64 = 56) := by have := mt hmod.1 h1; omega
      have HA1 : Hid (OwnB (wr.alloc (.cells #[.int .u8 0] 5)) (w.heap.size + 1) (.slice (some ⟨g, 0, none⟩) q cp) (pAt l k)) := own.below ((Below.refl _ _).alloc (Nat.le_refl _) _)
      have HB1 : Hid (Byt (wr.alloc (.cells #[.int .u8 0] 5)) (some ⟨wr.heap.size, 0, none⟩) [0]) := byt_one wr 0 5
      have HC1 : Hid (w.heap.size + 1 ≤ (wr.alloc (.cells #[.int .u8 0] 5)).heap.size) := by show _ ≤ _; simp; omega
      have HD1 : Hid (Below wr.heap.size wr (wr.alloc (.cells #[.int .u8 0] 5))) := (Below.refl _ _).alloc (Nat.le_refl _) _
      have HE : Hid ((pAt l k).length + ([0] : List UInt8).length ≤ 140737488355328) := by show _ ≤ _; simp; omega
      clear hmod HL
      go_wp2_with (first | (at_builtin; refine wpList_app rfl (.tmp 20) (.tmp 21) rfl (w.heap.size + 1) (.slice (some ⟨g, 0, none⟩) q cp) (pAt l k) rfl HA1.out (some ⟨wr.heap.size, 0, none⟩) 1 1 [0] rfl rfl HB1.out HE.out HC1.out ?_))
      intro v3 w3 own3 gr3
      obtain ⟨h03, bel3⟩ := app_step (w := w) own h0 bel HD1.out gr3
      rw [pAt_succ l k 0 (by omega) (by rw [padL_get _ _ (by omega), if_neg (by omega), if_neg (by omega)])] at own3
      have HL3 := pAt_len l (k + 1) (by omega)
      obtain ⟨g3, cp3, hv3, _⟩ := own3.open1 (by omega)
      rw [HL3] at hv3
      have HQ2 := HQ.out
      clear HA1 HB1 HC1 HD1 HE gr3 h0 bel own hcl
      go_wp2
      go_roundw
      case rel => exact ⟨k + 1, by omega, by omega, own3, h03, bel3⟩
      case measure => rw [hv3]; simp [lenOf]; omega
end Go.Proofs.YthlcmijekgjgjaaDoor
