import Derived.Test.YthlcmijekgjgjaaDoorDWr1
namespace Go.Proofs.YthlcmijekgjgjaaDoor
open Go.RowKit
set_option linter.unusedVariables false
set_option linter.unusedSimpArgs false

/-- The block that is full now. -/
theorem full_block (m l : List UInt8) (bl : List UInt8) (hbl : bl.length = 64) (htk : bl.take (m.length % 64) = m.drop (64 * (m.length / 64))) (h1 : 64 ≤ m.length % 64 + l.length) :
    bl.take (m.length % 64) ++ (l.take (64 - m.length % 64) ++ bl.drop (m.length % 64 + (l.take (64 - m.length % 64)).length)) = ((m ++ l).drop (64 * (m.length / 64))).take 64 := by
  have e1 : (l.take (64 - m.length % 64)).length = 64 - m.length % 64 := by simp; omega
  have e3 : (bl.take (m.length % 64)).length = m.length % 64 := by simp [hbl]; omega
  have hd : (m ++ l).drop (64 * (m.length / 64)) = bl.take (m.length % 64) ++ l := by rw [List.drop_append_of_le_length (by omega), htk]
  rw [hd, List.take_append, e3, List.take_of_length_le (l := bl.take (m.length % 64)) (by omega), e1, List.drop_eq_nil_of_le (by omega), List.append_nil]

theorem winv_fill {g : Nat} {m l : List UInt8} {w W2 w1 : World} {u b' off' : Nat} {blk : List UInt8} {s r : S8} {nn : Int} (hu : u = m.length % 64) (hu0 : 0 < u) (h1 : 64 ≤ u + l.length) (hblk : blk.length = 64)
    (hbut : But g w W2) (hcell : ∀ j, j < l.length → w.cell? ⟨b', off' + j, none⟩ = some (.int .u8 (at8 l j))) (hnb : b' ≠ g)
    (hb1 : Below W2.heap.size W2 w1) (hg1 : w1.heap[g]? = some (.cells (hc s blk nn) 56 (0, 0))) (hnn : nn = (((m ++ l).length : Nat) : Int)) (hr : r = stN (m ++ l) (m.length / 64 + 1))
    (a' : Option Addr) (hby : l.drop (64 - u) = [] ∨ a' = some ⟨b', off' + (64 - u), none⟩) (hne : ∀ b off, a' = some ⟨b, off, none⟩ → b ≠ g) {cap' : Nat} (hcp : l.length - (64 - u) ≤ cap') :
    WInv g m l w (.slice a' (l.length - (64 - u)) cap')
      ((((((((w1.setCell ⟨g, 0, none⟩ (.int .u32 (U r.a))).setCell ⟨g, 1, none⟩ (.int .u32 (U r.b))).setCell ⟨g, 2, none⟩ (.int .u32 (U r.c))).setCell ⟨g, 3, none⟩ (.int .u32 (U r.d))).setCell ⟨g, 4, none⟩ (.int .u32 (U r.e))).setCell ⟨g, 5, none⟩ (.int .u32 (U r.f))).setCell ⟨g, 6, none⟩ (.int .u32 (U r.g))).setCell ⟨g, 7, none⟩ (.int .u32 (U r.h))) := by
  have hlt : b' < w.heap.size := block_lt_of_cell (hcell 0 (by omega))
  have hbB : But g w ((((((((w1.setCell ⟨g, 0, none⟩ (.int .u32 (U r.a))).setCell ⟨g, 1, none⟩ (.int .u32 (U r.b))).setCell ⟨g, 2, none⟩ (.int .u32 (U r.c))).setCell ⟨g, 3, none⟩ (.int .u32 (U r.d))).setCell ⟨g, 4, none⟩ (.int .u32 (U r.e))).setCell ⟨g, 5, none⟩ (.int .u32 (U r.f))).setCell ⟨g, 6, none⟩ (.int .u32 (U r.g))).setCell ⟨g, 7, none⟩ (.int .u32 (U r.h))) :=
    ((((((((hbut.trans (But.of_below hb1)).setCell 0 _).setCell 1 _).setCell 2 _).setCell 3 _).setCell 4 _).setCell 5 _).setCell 6 _).setCell 7 _
  have hst := st_stores (r := r) hg1
  generalize ((((((((w1.setCell ⟨g, 0, none⟩ (.int .u32 (U r.a))).setCell ⟨g, 1, none⟩ (.int .u32 (U r.b))).setCell ⟨g, 2, none⟩ (.int .u32 (U r.c))).setCell ⟨g, 3, none⟩ (.int .u32 (U r.d))).setCell ⟨g, 4, none⟩ (.int .u32 (U r.e))).setCell ⟨g, 5, none⟩ (.int .u32 (U r.f))).setCell ⟨g, 6, none⟩ (.int .u32 (U r.g))).setCell ⟨g, 7, none⟩ (.int .u32 (U r.h))) = W at hbB hst ⊢
  refine ⟨64 - u, m.length / 64 + 1, a', cap', blk, rfl, by omega, by omega, hcp, by rw [hst, hr, hnn], hblk, hbB, ?_, hne⟩
  rcases hby with h | h
  · exact .inl h
  · refine .inr ⟨b', off' + (64 - u), h, fun j hj => ?_⟩
    exact (hbB.cell (p := ⟨b', off' + (64 - u) + j, none⟩) hlt hnb).trans (Byt.drop hcell (64 - u) j hj)

set_option maxRecDepth 100000 in
set_option maxHeartbeats 8000000 in
theorem write_u2 (g : Nat) (m l : List UInt8) (a : Option Addr) (cap : Nat) (w : World) (hr : Rep w g m) (hb : Byt w a l) (hbg : ∀ b off, a = some ⟨b, off, none⟩ → b ≠ g) (hK : KeysAt w) (hg4 : g ≠ 3)
    (hm : m.length ≤ 1152921504606846976) (hl : l.length ≤ 1152921504606846976) (hcap : l.length ≤ cap) (hu : 0 < m.length % 64) (h1 : 64 ≤ m.length % 64 + l.length) :
    Calls Tryd.prog 12 #[.pointer (some ⟨g, 0, none⟩), .slice a l.length cap] w fun e w' => e = .returned (.tuple #[]) ∧ Rep w' g (m ++ l) ∧ But g w w' := by
  obtain ⟨bl, hg, hbl, htk⟩ := hr
  have q72 := (cell_of_row w g 72 _ _ _ hg).trans (hc_len _ bl _ hbl)
  have f72 := frozen_of_row w g 72 _ _ hg
  have hb1 : But g w (w.setCell ⟨g, 72, none⟩ (.int .i64 ((m.length : Int) + (l.length : Int)))) := (But.refl _ _).setCell 72 _
  rcases hb with h | ⟨b', off', rfl, hcell⟩
  · rw [h] at h1; simp at h1; omega
  have hnb := hbg b' off' rfl
  have hx : (l.take (64 - m.length % 64)).length = 64 - m.length % 64 := by simp; omega
  have hsrc : Hid (∀ j v, (byC (l.take (64 - m.length % 64)))[j]? = some v → (w.setCell ⟨g, 72, none⟩ (.int .i64 ((m.length : Int) + (l.length : Int)))).cell? ((⟨b', off', none⟩ : Addr).add j) = some v) := fun j v hj => by
    obtain ⟨h1, rfl⟩ := byC_get _ j v hj
    have hj2 : j < l.length := by rw [hx] at h1; omega
    rw [Addr.add_mid, hb1.cell (p := ⟨b', off' + j, none⟩) (block_lt_of_cell (hcell j hj2)) hnb, hcell j hj2]
    have e : at8 (l.take (64 - m.length % 64)) j = at8 l j := by rw [hx] at h1; simp [at8, List.getElem?_take, h1]
    rw [e]
  have hfit : Hid (8 + m.length % 64 + (byC (l.take (64 - m.length % 64))).length ≤ (hc (stN m (m.length / 64)) bl ((m ++ l).length : Int)).size) := by
    show _ ≤ _
    rw [hc_size _ _ _ hbl, byC_len, hx]; omega
  have HL : Hid ((byC (l.take (64 - m.length % 64))).length = Nat.min l.length (64 - m.length % 64)) := by
    show _ = _
    rw [byC_len, hx]; exact (Nat.min_eq_right (by omega)).symm
  have hsp := hc_splice (stN m (m.length / 64)) bl ((m ++ l).length : Int) (m.length % 64) (l.take (64 - m.length % 64)) hbl (by rw [hx]; omega)
  rw [full_block m l bl hbl htk h1, ← stN_app m l _ (by omega)] at hsp
  have hgs := start_set (l := l) hg hbl
  have LB : (((m ++ l).drop (64 * (m.length / 64))).take 64).length = 64 := by simp; omega
  have LBC : Hid ((byC (l.take (64 - m.length % 64))).length = 64 - m.length % 64) := by show _ = _; rw [byC_len, hx]
  have HSP : Hid (_ = _) := hsp
  have HN : Hid (stN (m ++ l) (m.length / 64 + 1) = (stN (m ++ l) (m.length / 64)).mix (((m ++ l).drop (64 * (m.length / 64))).take 64)) := rfl
  have ES : Hid (stN (m ++ l) (m.length / 64) = stN m (m.length / 64)) := stN_app m l _ (by omega)
  clear hsp
  obtain ⟨nn, hnn⟩ : ∃ nn : Int, nn = (((m ++ l).length : Nat) : Int) := ⟨_, rfl⟩
  rw [← hnn] at hgs hfit HSP
  rw [← ES.out] at hgs hfit
  have ENN : Hid (nn = (((m ++ l).length : Nat) : Int)) := hnn
  clear hnn
  have hg2 : ((w.setCell ⟨g, 72, none⟩ (.int .i64 ((m.length : Int) + (l.length : Int)))).setRow g (hc (stN (m ++ l) (m.length / 64)) (((m ++ l).drop (64 * (m.length / 64))).take 64) nn)).heap[g]? = some (.cells (hc (stN (m ++ l) (m.length / 64)) (((m ++ l).drop (64 * (m.length / 64))).take 64) nn) 56 (0, 0)) := setRow_heap _ _ _ _ _ _ hgs
  have hbut2 := hb1.setRow (hc (stN (m ++ l) (m.length / 64)) (((m ++ l).drop (64 * (m.length / 64))).take 64) nn)
  obtain ⟨u, hu'⟩ : ∃ u, u = m.length % 64 := ⟨_, rfl⟩
  have HU : Hid (u = m.length % 64) := hu'
  have eu : (m.length : Int) % 64 = (u : Int) := by omega
  rw [← hu'] at hu h1 hfit HL hsrc LBC HSP
  have hul : u < 64 := by omega
  have hsl := fun wx => slice54 g u hu hul wx
  clear hu' htk hx
  obtain ⟨n, hn⟩ : ∃ n, n = 64 - u := ⟨_, rfl⟩
  have HNN : Hid (n = 64 - u) := hn
  have hn1 : u + n = 64 := by omega
  have hn2 : n ≤ l.length := by omega
  go_enter Tryd.func12, Tryd.ntmps12
  go_wp2_with (refine wpList_copy_own rfl (.tmp 28) (.tmp 29) 45 45 rfl 5 Tryd.underlying45 hsz5 g (8 + u) (64 - u) (64 - u) ⟨b', off', none⟩ l.length cap rfl rfl (hc (stN (m ++ l) (m.length / 64)) bl nn) 56 hgs (byC (l.take (64 - u))) HL.out hsrc.out hfit.out (byC_one _) ?_; rw [HSP.out, LBC.out])
  clear hsl hgs hsrc hfit HL HSP LBC q72 f72 eu
  generalize (w.setCell ⟨g, 72, none⟩ (.int .i64 ((m.length : Int) + (l.length : Int)))).setRow g (hc (stN (m ++ l) (m.length / 64)) (((m ++ l).drop (64 * (m.length / 64))).take 64) nn) = W2 at *
  obtain ⟨⟨y0, y1, y2, y3, y4, y5, y6, y7⟩, yf⟩ := st_cells hg2
  have hK2 := hbut2.keys hK hg4
  have hlt : g < W2.heap.size := (Array.getElem?_eq_some_iff.1 hg2).1
  have H : Hid (∀ wx, wx.heap = W2.heap → Calls Tryd.prog 15 #[.agg #[.int .u32 (U (stN (m ++ l) (m.length / 64)).a), .int .u32 (U (stN (m ++ l) (m.length / 64)).b), .int .u32 (U (stN (m ++ l) (m.length / 64)).c), .int .u32 (U (stN (m ++ l) (m.length / 64)).d), .int .u32 (U (stN (m ++ l) (m.length / 64)).e), .int .u32 (U (stN (m ++ l) (m.length / 64)).f), .int .u32 (U (stN (m ++ l) (m.length / 64)).g), .int .u32 (U (stN (m ++ l) (m.length / 64)).h)], .slice (some ⟨g, 8, none⟩) 64 64] wx fun e w' =>
      ∃ r : S8, r = stN (m ++ l) (m.length / 64 + 1) ∧ e = .returned (.agg #[.int .u32 (U r.a), .int .u32 (U r.b), .int .u32 (U r.c), .int .u32 (U r.d), .int .u32 (U r.e), .int .u32 (U r.f), .int .u32 (U r.g), .int .u32 (U r.h)]) ∧ Below wx.heap.size wx w') := fun wx hx =>
    mixed_lit (stN (m ++ l) (m.length / 64)) g 8 64 (((m ++ l).drop (64 * (m.length / 64))).take 64) wx LB (fun j hj => by
      rw [World.cell?_of_block (w := W2) (by rw [hx])]
      exact (cell_of_row W2 g (8 + j) _ _ _ hg2).trans (hc_block _ _ _ LB j hj)) (fun j hj => by rw [World.cell?_of_block (w := W2) (by rw [hx])]; exact hK2 j hj)
  have SN : Hid (stN (m ++ l) (m.length / 64 + 1) = stN (m ++ l) (m.length / 64 + 1)) := rfl
  generalize stN (m ++ l) (m.length / 64) = s at *
  generalize ((m ++ l).drop (64 * (m.length / 64))).take 64 = blk at *
  go_region_with (go_at_call 15; refine (H.out _ ?_).mono ?_; rfl; rintro e w1 ⟨r, hr, rfl, hb1'⟩; have HR : Hid (r = stN (m ++ l) (m.length / 64 + 1)) := hr; clear hr; have hg1 : w1.heap[g]? = some (.cells (hc s blk nn) 56 (0, 0)) := (hb1'.block g hlt).trans hg2; obtain ⟨⟨z0, z1, z2, z3, z4, z5, z6, z7⟩, zf⟩ := st_cells hg1)
  all_goals clear y0 y1 y2 y3 y4 y5 y6 y7 yf z0 z1 z2 z3 z4 z5 z6 z7 zf
  all_goals go_wp2
  all_goals
    clear hg H SN
    go_loopw [1] (fun v wr => WInv g m l w v wr) (fun v _ => lenOf v)
    case atStart => first | exact winv_fill HU.out hu h1 LB hbut2 hcell hnb (below_of_drew hb1') hg1 ENN.out HR.out _ (.inl (List.drop_eq_nil_of_le (by omega))) (fun b off e => by cases e; exact hnb) (by omega) | exact winv_fill HU.out hu h1 LB hbut2 hcell hnb (below_of_drew hb1') hg1 ENN.out HR.out _ (.inr rfl) (fun b off e => by cases e; exact hnb) (by omega)
    case round =>
      obtain ⟨c, k, a', cap', bl', rfl, hc1, hck, hcp, hgr, hbl', hbut, hby, hne⟩ := hrel
      by_cases h64 : 64 ≤ l.length - c
      · rcases hby with h0 | ⟨b', off', rfl, hcell⟩
        · have := congrArg List.length h0
          rw [List.length_drop, List.length_nil] at this
          omega
        · have hnb := hne b' off' rfl
          obtain ⟨⟨y0, y1, y2, y3, y4, y5, y6, y7⟩, yf⟩ := st_cells hgr
          have hKr := hbut.keys hK hg4
          have hlt : g < wr.heap.size := (Array.getElem?_eq_some_iff.1 hgr).1
          have H : Hid (∀ cp wx, wx.heap = wr.heap → Calls Tryd.prog 15 #[.agg #[.int .u32 (U (stN (m ++ l) k).a), .int .u32 (U (stN (m ++ l) k).b), .int .u32 (U (stN (m ++ l) k).c), .int .u32 (U (stN (m ++ l) k).d), .int .u32 (U (stN (m ++ l) k).e), .int .u32 (U (stN (m ++ l) k).f), .int .u32 (U (stN (m ++ l) k).g), .int .u32 (U (stN (m ++ l) k).h)], .slice (some ⟨b', off', none⟩) 64 cp] wx fun e w' =>
              ∃ r : S8, r = stN (m ++ l) (k + 1) ∧ e = .returned (.agg #[.int .u32 (U r.a), .int .u32 (U r.b), .int .u32 (U r.c), .int .u32 (U r.d), .int .u32 (U r.e), .int .u32 (U r.f), .int .u32 (U r.g), .int .u32 (U r.h)]) ∧ Below wx.heap.size wx w') := fun cp wx hx => by
            have hblk : (m ++ l).drop (64 * k) = l.drop c := by rw [List.drop_append, List.drop_eq_nil_of_le (by omega), List.nil_append]; congr 1; omega
            have := mixed_lit (stN (m ++ l) k) b' off' cp ((l.drop c).take 64) wx (by simp; omega) (fun j hj => by
              have e : at8 ((l.drop c).take 64) j = at8 (l.drop c) j := by simp [at8, List.getElem?_take, hj]
              rw [e, World.cell?_of_block (w := wr) (by rw [hx])]
              exact hcell j (by simp; omega)) (fun j hj => by rw [World.cell?_of_block (w := wr) (by rw [hx])]; exact hKr j hj)
            rw [← hblk] at this
            exact this
          generalize stN (m ++ l) k = s at *
          go_wp2
          all_goals (go_region_with (go_at_call 15; refine (H.out _ _ ?_).mono ?_; rfl; rintro e w1 ⟨r, hr, rfl, hb1⟩; have HR : Hid (r = stN (m ++ l) (k + 1)) := hr; clear hr; have hg1 : w1.heap[g]? = some (.cells (hc s bl' ((m ++ l).length : Int)) 56 (0, 0)) := (hb1.block g hlt).trans hgr; obtain ⟨⟨z0, z1, z2, z3, z4, z5, z6, z7⟩, zf⟩ := st_cells hg1))
          all_goals clear y0 y1 y2 y3 y4 y5 y6 y7 yf z0 z1 z2 z3 z4 z5 z6 z7 zf
          all_goals go_wp2
          all_goals exact ⟨winv_step hc1 hck hcp h64 hbl' hbut hcell hnb (below_of_drew hb1) hg1 HR.out, by simp [lenOf]; omega⟩
      · have HE := fun (W : World) (h : W.heap[g]? = _) => rep_end (W := W) hc1 hck (by omega) hbl' h
        have HEE : Hid (∀ W : World, W.heap[g]? = some (.cells (hc (stN (m ++ l) k) (l.drop c ++ bl'.drop (l.length - c)) ((m ++ l).length : Int)) 56 (0, 0)) → Rep W g (m ++ l)) := HE
        clear HE
        by_cases h0 : l.length - c = 0
        · have hlc : l.drop c = [] := List.drop_eq_nil_of_le (by omega)
          have hgr2 : wr.heap[g]? = some (.cells (hc (stN (m ++ l) k) (l.drop c ++ bl'.drop (l.length - c)) ((m ++ l).length : Int)) 56 (0, 0)) := by rw [hlc, h0]; simpa using hgr
          have R := HEE.out wr hgr2
          clear hgr2 hlc HEE hgr
          have hmin : Nat.min (l.length - c) 64 = 0 := by rw [h0]; rfl
          have h0' : l.length ≤ c := by omega
          have HM : Hid (Nat.min (l.length - c) 64 = 0) := hmin
          clear h0 hmin
          go_wp2_with (refine wpList_copy_nothing rfl (.tmp 68) (.tmp 69) 45 45 rfl 5 Tryd.underlying45 hsz5 _ _ 64 64 (l.length - c) cap' rfl rfl HM.out ?_)
          go_end0
          exact ⟨rfl, R, hbut⟩
        · rcases hby with h1 | ⟨b', off', rfl, hcell⟩
          · have := congrArg List.length h1
            rw [List.length_drop, List.length_nil] at this
            omega
          · have hlen : (byC (l.drop c)).length = Nat.min (l.length - c) 64 := by rw [byC_len, List.length_drop]; exact (Nat.min_eq_left (by omega)).symm
            have hsp := hc_splice (stN (m ++ l) k) bl' ((m ++ l).length : Int) 0 (l.drop c) hbl' (by simp; omega)
            simp only [List.take_zero, List.nil_append, Nat.zero_add, Nat.add_zero, List.length_drop] at hsp
            have R := HEE.out (wr.setRow g (hc (stN (m ++ l) k) (l.drop c ++ bl'.drop (l.length - c)) ((m ++ l).length : Int))) (setRow_heap _ _ _ _ _ _ hgr)
            rw [← hsp] at R
            have RR := And.intro R (hbut.setRow (g := g) (((hc (stN (m ++ l) k) bl' ((m ++ l).length : Int)).toList.take 8 ++ (byC (l.drop c) ++ (hc (stN (m ++ l) k) bl' ((m ++ l).length : Int)).toList.drop (8 + (byC (l.drop c)).length))).toArray))
            have RH : Hid (_ ∧ _) := RR
            clear RR R hsp HEE
            have hsrc : Hid (∀ j v, (byC (l.drop c))[j]? = some v → wr.cell? ((⟨b', off', none⟩ : Addr).add j) = some v) := fun j v hj => by
              obtain ⟨h1, rfl⟩ := byC_get _ j v hj
              rw [Addr.add_mid]
              exact hcell j h1
            have hfit : Hid (8 + (byC (l.drop c)).length ≤ (hc (stN (m ++ l) k) bl' ((m ++ l).length : Int)).size) := by
              show _ ≤ _
              rw [hc_size _ _ _ hbl', byC_len]; simp; omega
            have HL : Hid ((byC (l.drop c)).length = Nat.min (l.length - c) 64) := hlen
            clear hlen
            go_wp2_with (refine wpList_copy_own rfl (.tmp 68) (.tmp 69) 45 45 rfl 5 Tryd.underlying45 hsz5 g 8 64 64 ⟨b', off', none⟩ (l.length - c) cap' rfl rfl (hc (stN (m ++ l) k) bl' ((m ++ l).length : Int)) 56 hgr (byC (l.drop c)) HL.out hsrc.out hfit.out (byC_one _) ?_)
            go_end0
            rw [show ((m.length : Int) + (l.length : Int)) = (((m ++ l).length : Nat) : Int) by simp]
            exact ⟨rfl, RH.out.1, RH.out.2⟩
end Go.Proofs.YthlcmijekgjgjaaDoor
