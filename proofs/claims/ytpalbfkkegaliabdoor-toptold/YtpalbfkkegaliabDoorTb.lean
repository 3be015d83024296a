import Derived.Test.YtpalbfkkegaliabDoorTa
namespace Go.Proofs.YtpalbfkkegaliabDoor
open Go.RowKit
set_option linter.unusedVariables false
set_option linter.unusedSimpArgs false

variable {T : TypeId} {r cap : Nat} {a : Option Addr}
theorem drop_past (A B : List UInt8) (k : Nat) : (A ++ B).drop (A.length + k) = B.drop k := by
  rw [← List.drop_drop, List.drop_left]
/-- What stands in the k-th place of a list of hashes. -/
theorem cat_drop {D : List (List UInt8)} (hD : All32 D) (k : Nat) (x : List UInt8) (h : D[k]? = some x) : ((cat D).drop (k * 32)).take 32 = x := by
  induction D generalizing k with
  | nil => simp at h
  | cons y t ih =>
    have hy := hD y (by simp)
    cases k with
    | zero =>
      simp at h
      subst h
      simp [cat, List.take_append, hy]
    | succ k =>
      have := ih (fun z hz => hD z (List.mem_cons_of_mem _ hz)) k (by simpa using h)
      rw [← this]
      simp only [cat, List.flatten_cons]
      rw [show (k + 1) * 32 = y.length + k * 32 by omega, drop_past]

theorem on_below {w0 wr w2 : World} {B : Nat} {L : List UInt8} {s0 s : K.St} (h0 : K.RD w0 T r a cap L s0) (h : K.On w0 wr T r a cap L s) (hb : Below B wr w2) (hB : w0.heap.size ≤ B) : K.On w0 w2 T r a cap L s := by
  have hr := h0.lt
  have hbyt : K.Byt w2 a L := by
    rcases h0.byt with e | ⟨b, off, rfl, hc⟩
    · exact .inl e
    · rcases h.1.byt with e | ⟨b', off', e, hc'⟩
      · exact .inl e
      · cases e
        refine .inr ⟨b, off, rfl, fun j hj => ?_⟩
        have hlt : b < w0.heap.size := block_lt_of_cell (hc j hj)
        exact (World.cell?_of_block (hb.block b (by omega))).trans (hc' j hj)
  exact ⟨⟨by rw [hb.block r (by omega)]; exact h.1.row, h.1.room, hbyt, h.1.plain, h.1.at_le, h.1.few⟩, ⟨hb.os.trans h.2.os, hb.tape.trans h.2.tape, hb.output.trans h.2.output, Nat.le_trans h.2.size hb.size, fun i hi hne => (hb.block i (by omega)).trans (h.2.block i hi hne)⟩⟩

set_option maxRecDepth 100000 in
set_option maxHeartbeats 2000000 in
theorem rhashes_any (most : Nat) (hm : most ≤ 4398046510976) (D : List (List UInt8)) (hD : All32 D) (hr : SRise D) (hDm : D.length ≤ most) (w : World) (h : K.RD w 91 r a cap (hw D) ⟨0, 0, 0⟩) :
    Calls Tryd.prog 21 #[.pointer (some ⟨r, 0, none⟩), .int .i64 (most : Int)] w fun e w' => ∃ q, e = .returned (.slice (some ⟨q, 0, none⟩) D.length D.length) ∧ w.heap.size ≤ q ∧ q < w'.heap.size ∧ Hs w' q 0 D ∧ w'.there q 0 (32 * D.length) ∧ K.On w w' 91 r a cap (hw D) ⟨(hw D).length, 0, 0⟩ := by
  have HNum : Hid (K.num (hw D) 0 = ⟨D.length, (K.vint D.length).length, 0, (hw D).length⟩) := K.num_front D.length (by omega) (cat D)
  have HLen : Hid ((hw D).length = (K.vint D.length).length + D.length * 32) := (by unfold hw; rw [List.length_append, cat_len hD]; omega : (hw D).length = (K.vint D.length).length + D.length * 32)
  have HB : Hid (∀ k x, D[k]? = some x → (((hw D).drop ((K.vint D.length).length + k * 32)).take 32) = x) := fun k x hx => by
    unfold hw
    rw [drop_past]
    exact cat_drop hD k x hx
  obtain ⟨n, hn⟩ : ∃ n, n = D.length := ⟨_, rfl⟩
  obtain ⟨sz, hsz⟩ : ∃ sz, sz = (K.vint D.length).length := ⟨_, rfl⟩
  rw [← hsz] at HNum HLen HB
  rw [← hn] at HNum HLen hDm ⊢
  have HN : Hid (n = D.length) := hn
  clear hn hsz
  have hfw := h.few
  rw [HLen.out] at hfw
  have HC : Hid (Calls Tryd.prog 68 #[.pointer (some ⟨r, 0, none⟩), .int .i64 (most : Int), .int .i64 32] w fun e w' => e = .returned (.tuple #[.slice (K.from23 a cap sz) (n * 32) (cap - sz), .int .i64 (sz : Int), .bool true]) ∧ K.On w w' 91 r a cap (hw D) ⟨0, 0, 0⟩) := (by
    have := counted32 most hm w h rfl n sz _ HNum.out hDm (by rw [HLen.out]; simp)
    simp only [Nat.zero_add] at this
    exact this)
  have HSt : Hid (Calls Tryd.prog 67 #[.pointer (some ⟨r, 0, none⟩)] w fun e w' => e = .returned (.bool false) ∧ w' = w) := (by
    have := K.stopped_any w h
    rw [show decide ((⟨0, 0, 0⟩ : K.St).bad ≠ 0) = false by simp] at this
    exact this)
  have HR : Hid (K.RD w 91 r a cap (hw D) ⟨0, 0, 0⟩) := h
  clear h
  have hmk := make_hashes n (by omega)
  have tq : Int.tdiv (((n * 32 : Nat) : Int)) 32 = (n : Int) := by rw [Int.tdiv_eq_ediv_of_nonneg (by omega)]; omega
  go_enter Tryd.func21, Tryd.ntmps21
  go_wp2_with fail
  refine HSt.out.mono ?_
  rintro e w0 ⟨rfl, rfl⟩
  go_wp2_with fail
  refine HC.out.mono ?_
  rintro e w1 ⟨rfl, on1⟩
  have HO1 : Hid (K.On w0 w1 91 r a cap (hw D) ⟨0, 0, 0⟩) := on1
  clear on1 HC HSt
  have HLN : Hid (n * 32 = n * 32) := rfl
  obtain ⟨n32, hn32⟩ : ∃ n32, n32 = n * 32 := ⟨_, rfl⟩
  rw [← hn32] at HLen hfw tq ⊢
  have HN32 : Hid (n32 = n * 32) := hn32
  clear hn32 HLN
  have HS0 : Hid (Hs (w1.alloc (.cells (madeCells (bs z32) (n * 32)) 36)) w1.heap.size 0 (part D n 0)) := (by rw [part_zero]; exact hs_made w1 n 36 : Hs (w1.alloc (.cells (madeCells (bs z32) (n * 32)) 36)) w1.heap.size 0 (part D n 0))
  have HT0 : Hid ((w1.alloc (.cells (madeCells (bs z32) (n * 32)) 36)).there w1.heap.size 0 (32 * n)) := there_made w1 n 36
  have HA0 : Hid (K.On w0 (w1.alloc (.cells (madeCells (bs z32) (n * 32)) 36)) 91 r a cap (hw D) ⟨0, 0, 0⟩) := on_below HR.out HO1.out ((Below.refl _ _).alloc (Nat.le_refl _) _) HO1.out.2.size
  have hq0 : w0.heap.size ≤ w1.heap.size := HO1.out.2.size
  go_wp2
  go_loopw [29] (fun i wr => ∃ k : Nat, k ≤ n ∧ i = .int .i64 k ∧ Hid (Hs wr w1.heap.size 0 (part D n k)) ∧ Hid (wr.there w1.heap.size 0 (32 * n)) ∧ Hid (K.On w0 wr 91 r a cap (hw D) ⟨0, 0, 0⟩) ∧ w1.heap.size < wr.heap.size) (fun i _ => n - (intOf i).toNat)
  case atStart => exact ⟨0, by omega, rfl, HS0, HT0, HA0, by simp⟩
  case round =>
    obtain ⟨k, hk, rfl, HSr, HTr, HOr, hqr⟩ := hrel
    by_cases hkn : k < n
    · have h32 := HN32.out
      have hkD : k < D.length := by rw [← HN.out]; exact hkn
      obtain ⟨x, hx⟩ : ∃ x, D[k]? = some x := ⟨_, List.getElem?_eq_getElem hkD⟩
      have hx32 := hD.get hx
      have HCut : Hid ((((hw D).drop (sz + k * 32)).take 32) = x) := HB.out k x hx
      obtain ⟨b, off, rfl, hcell⟩ : ∃ b off, a = some ⟨b, off, none⟩ ∧ ∀ j, j < (hw D).length → wr.cell? ⟨b, off + j, none⟩ = some (.int .u8 (K.at8 (hw D) j)) := by
        rcases HOr.out.1.byt with e | h
        · have := HLen.out; rw [e] at this; simp at this; omega
        · exact h
      have hroom := HOr.out.1.room
      rw [HLen.out] at hroom
      have e1 : K.from23 (K.from23 (some ⟨b, off, none⟩) cap sz) (cap - sz) (k * 32) = some ⟨b, off + sz + k * 32, none⟩ := by
        unfold K.from23
        rw [if_neg (by omega), if_neg (by omega)]
        simp [Addr.add_mid]
      have sl1 := fun wx => K.sl_from (K.from23 (some ⟨b, off, none⟩) cap sz) n32 (cap - sz) (k * 32) ((k : Int) * 32) (by omega) (by omega) wx
      have sl2 := fun wx => K.sl_from' (K.from23 (some ⟨b, off, none⟩) cap sz) n32 (cap - sz) (k * 32) ((k : Int) * 32) (by omega) (by omega) wx
      rw [e1] at sl1 sl2
      have HH : Hid (Calls Tryd.prog 69 #[.slice (some ⟨b, off + sz + k * 32, none⟩) (n32 - k * 32) (cap - sz - k * 32)] wr fun e w' => e = .returned (.agg (bs x)) ∧ Below wr.heap.size wr w') := (by
        have h1 : ((hw D).drop (sz + k * 32)).length = n32 - k * 32 := by rw [List.length_drop, HLen.out]; omega
        have hbl : b < wr.heap.size := block_lt_of_cell (hcell 0 (by rw [HLen.out]; omega))
        have := hashOf_any b (off + sz + k * 32) (n32 - k * 32) (cap - sz - k * 32) ((hw D).drop (sz + k * 32)) wr h1 (by omega) (fun j hj => by
          rw [show off + sz + k * 32 + j = off + (sz + k * 32 + j) by omega, hcell _ (by rw [List.length_drop] at hj; omega)]
          unfold K.at8
          simp) hbl
        rw [HCut.out] at this
        exact this)
      have ix1 := fun wx => indexH w1.heap.size 0 n n k wx hkn
      simp only [Nat.zero_add] at ix1
      clear HCut hcell e1 hroom
      generalize off + sz + k * 32 = off4 at *
      generalize n32 - k * 32 = n4 at *
      generalize cap - sz - k * 32 = cap4 at *
      generalize hq : w1.heap.size = q at *
      have hzr : Hid (w0.heap.size ≤ q) := hq0
      clear h32 hq
      go_wp2_with fail
      refine HH.out.mono ?_
      rintro e w2 ⟨rfl, bl2⟩
      have HT2 : Hid (w2.there q 0 (32 * n)) := there_below HTr.out bl2 hqr
      have HTH : Hid (w2.there q (32 * k) 32) := (by have := there_part (m := 32) (i := 32 * k) HT2.out (by omega); rwa [Nat.zero_add] at this : w2.there q (32 * k) 32)
      have hPL : D.length = n := HN.out.symm
      have HX : Hid (Hs (w2.setCells q (32 * k) (hcs x)) q 0 (part D n (k + 1))) := (by
        have := Hs.set (HSr.out.below bl2 hqr) (all32_part hD _ _) k x hx32 (by rw [part_len _ _ _ (by omega) hPL]; omega) (there_part HT2.out (by omega))
        rw [Nat.zero_add] at this
        rwa [part_set _ _ _ (by omega) hPL x hx] at this : Hs (w2.setCells q (32 * k) (hcs x)) q 0 (part D n (k + 1)))
      have HT3 : Hid ((w2.setCells q (32 * k) (hcs x)).there q 0 (32 * n)) := World.there_setCells HT2.out _ _ _
      have HO3 : Hid (K.On w0 (w2.setCells q (32 * k) (hcs x)) 91 r (some ⟨b, off, none⟩) cap (hw D) ⟨0, 0, 0⟩) := on_below HR.out (on_below HR.out HOr.out bl2 HOr.out.2.size) (below_setCells (Below.refl _ _) (Nat.le_refl q) _ _) hzr.out
      have hq3 : q < (w2.setCells q (32 * k) (hcs x)).heap.size := by rw [size_setCells]; have := bl2.size; omega
      clear hPL bl2 HT2 HSr HTr HOr hqr HH sl1 sl2
      go_wp2_with (first
        | (refine wpList_store_mid rfl 36 _ _ rfl q (32 * k) (bs x) rfl rfl (by rw [bs_size, hx32]; exact HTH.out) (by rw [bs_size, hx32]; exact hsH) (bs_one _) ?_)
        | fail)
      change Code.wp _ _ _ _ (w2.setCells q (32 * k) (hcs x))
      simp only [Act.put]
      generalize w2.setCells q (32 * k) (hcs x) = w3 at *
      clear HTH
      by_cases hk0 : k = 0
      · have gk : decide (0 < k) = false := by simp; omega
        clear hk0
        have hne : Nonempty (ExtT w3) := ExtT.some w3
        refine wp_region_ext (by kernel_rfl) (by kernel_rfl) ?_
        repeat (go_big_quiet_step (fail))
        refine wpQuiet_nil ?_
        rintro w4 ⟨⟨_, bl4⟩, rfl⟩
        have A1 : Hid (Hs w4 q 0 (part D n (k + 1))) := HX.out.below bl4 hq3
        have A2 : Hid (w4.there q 0 (32 * n)) := there_below HT3.out bl4 hq3
        have A3 : Hid (K.On w0 w4 91 r (some ⟨b, off, none⟩) cap (hw D) ⟨0, 0, 0⟩) := on_below HR.out HO3.out bl4 HO3.out.2.size
        have A4 : q < w4.heap.size := by have := bl4.size; omega
        clear bl4 hne HX HT3 HO3 hq3 gk
        go_wp2
        exact ⟨⟨k + 1, by omega, by go_num, A1, A2, A3, A4⟩, by simp [intOf]; omega⟩
      · obtain ⟨p, hp⟩ : ∃ p, D[k - 1]? = some p := ⟨_, List.getElem?_eq_getElem (by omega)⟩
        have hp32 := hD.get hp
        have hcl : cmpL p x < 0 := hr (k - 1) k p x hp hx (by omega)
        have HCm : Hid (∀ wx, Calls Tryd.prog 61 #[.agg (bs p), .agg (bs x)] wx fun e w' => e = .returned (.int .i64 (cmpL p x)) ∧ Below wx.heap.size wx w') := fun wx => cmp_any p x hp32 hx32 wx
        have hpt : ∀ i y, i < k + 1 → D[i]? = some y → (part D n (k + 1))[i]? = some y := fun i y hi hy => by
          unfold part
          rw [List.getElem?_append_left (by rw [List.length_take]; have := (List.getElem?_eq_some_iff.1 hy).1; omega), List.getElem?_take, if_pos hi]
          exact hy
        have S1 : Hid (w3.rangeAt q (32 * (k - 1)) (hcs p)) := (by have := HX.out (k - 1) p (hpt _ _ (by omega) hp); rwa [Nat.zero_add] at this : w3.rangeAt q (32 * (k - 1)) (hcs p))
        have S2 : Hid (w3.rangeAt q (32 * k) (hcs x)) := (by have := HX.out k x (hpt _ _ (by omega) hx); rwa [Nat.zero_add] at this : w3.rangeAt q (32 * k) (hcs x))
        have ix2 : ∀ wx, (Instr.indexAt 37 (.slice (some ⟨q, 0, none⟩) n n) (.int .i64 ((k : Int) - 1))).run Tryd.prog wx = .ok (.pointer (some ⟨q, 32 * (k - 1), none⟩)) wx := fun wx => (by
          have := indexH q 0 n n (k - 1) wx (by omega)
          rwa [Nat.zero_add, show ((k - 1 : Nat) : Int) = (k : Int) - 1 by omega] at this)
        have wk : IntKind.i64.wrap ((k : Int) - 1) = (k : Int) - 1 := by simp only [IntKind.wrap, IntKind.bits, IntKind.signed]; simp; omega
        have wk2 : wrap64 ((k : Int) - 1) = (k : Int) - 1 := (by unfold wrap64; omega)
        generalize cmpL p x = c at *
        have gc : ¬ (0 : Int) ≤ c := by omega
        have gk : 0 < k := by omega
        clear hpt hx hp hcl hk0
        have hne : Nonempty (ExtT w3) := ExtT.some w3
        refine wp_region_ext (by kernel_rfl) (by kernel_rfl) ?_
        repeat (first
          | (go_big_quiet_want; refine quiet_load_mid 36 _ rfl q (32 * (k - 1)) rfl (bs p) _ (by rintro _ ⟨e, rfl⟩; exact e.range S1.out (hcs_pos hp32)) Tryd.underlying36 rfl (sizeH hp32) ?_; simp only [Act.put, List.setIfInBounds_toArray, List.set_cons_zero, List.set_cons_succ]; go_big_quiet_on)
          | (go_big_quiet_want; refine quiet_load_mid 36 _ rfl q (32 * k) rfl (bs x) _ (by rintro _ ⟨e, rfl⟩; exact e.range S2.out (hcs_pos hx32)) Tryd.underlying36 rfl (sizeH hx32) ?_; simp only [Act.put, List.setIfInBounds_toArray, List.set_cons_zero, List.set_cons_succ]; go_big_quiet_on)
          | go_big_quiet_step (first | (go_at_call 61; exact ext_of (HCm.out _)) | fail))
        refine wpQuiet_nil ?_
        rintro w4 ⟨⟨_, bl4⟩, rfl⟩
        have A1 : Hid (Hs w4 q 0 (part D n (k + 1))) := HX.out.below bl4 hq3
        have A2 : Hid (w4.there q 0 (32 * n)) := there_below HT3.out bl4 hq3
        have A3 : Hid (K.On w0 w4 91 r (some ⟨b, off, none⟩) cap (hw D) ⟨0, 0, 0⟩) := on_below HR.out HO3.out bl4 HO3.out.2.size
        have A4 : q < w4.heap.size := by have := bl4.size; omega
        clear bl4 hne HX HT3 HO3 hq3 wk wk2 S1 S2 HCm ix2
        go_wp2
        exact ⟨⟨k + 1, by omega, by go_num, A1, A2, A3, A4⟩, by simp [intOf]; omega⟩
    · obtain rfl : k = n := by omega
      have c1 := HOr.out.1.c1
      have fz := HOr.out.1.fz 1
      have hfew : (sz + n32 : Nat) ≤ 140737488351232 := hfw
      have HE : Hid (Hs wr w1.heap.size 0 D) := (by have := HSr.out; rwa [part_all D k HN.out.symm] at this : Hs wr w1.heap.size 0 D)
      have HO9 : Hid (K.On w0 (wr.setCell ⟨r, 1, none⟩ (.int .i64 ((sz : Int) + (n32 : Int)))) 91 r a cap (hw D) ⟨(hw D).length, 0, 0⟩) := HOr.out.set1 (hw D).length _ (by rw [HLen.out]; omega) (Nat.le_refl _)
      have hrq : r ≠ w1.heap.size := by have := HR.out.lt; omega
      have HE9 : Hid (Hs (wr.setCell ⟨r, 1, none⟩ (.int .i64 ((sz : Int) + (n32 : Int)))) w1.heap.size 0 D) := fun i x e j v hv => (World.cell?_setCell_far wr ⟨r, 1, none⟩ _ _ hrq).trans (HE.out i x e j v hv)
      have HT9 : Hid ((wr.setCell ⟨r, 1, none⟩ (.int .i64 ((sz : Int) + (n32 : Int)))).there w1.heap.size 0 (32 * k)) := fun j hj => by
        have := HTr.out j hj
        exact ⟨by rw [World.cell?_setCell_far wr ⟨r, 1, none⟩ _ _ hrq]; exact this.1, by rw [World.frozen?_setCell]; exact this.2⟩
      have hz9 : w1.heap.size < (wr.setCell ⟨r, 1, none⟩ (.int .i64 ((sz : Int) + (n32 : Int)))).heap.size := by rw [World.size_setCell]; exact hqr
      clear HE HTr HSr HOr
      go_wp2
      go_ret
      exact ⟨_, rfl, hq0, hz9, HE9.out, HT9.out, HO9.out⟩
end Go.Proofs.YtpalbfkkegaliabDoor

namespace Go.Proofs.YtpalbfkkegaliabDoor
open Go.RowKit
set_option linter.unusedVariables false
set_option linter.unusedSimpArgs false

set_option maxHeartbeats 1000000 in
/-- The reference's Compare. -/
theorem rcmp_any (a b : List UInt8) (ha : a.length = 32) (hb : b.length = 32) (w : World) :
    Calls Tryd.prog 71 #[.agg (bs a), .agg (bs b)] w fun e w' => e = .returned (.int .i64 (cmpL a b)) ∧ Below w.heap.size w w' := by
  have be0 : Below w.heap.size w ((w.alloc (.cells (bs a) 36)).alloc (.cells (bs b) 36)) := ((Below.refl _ _).alloc (Nat.le_refl _) _).alloc (by simp) _
  have g0 : ((w.alloc (.cells (bs a) 36)).alloc (.cells (bs b) 36)).heap[w.heap.size]? = some (.cells (bs a) 36 (0, 0)) := heap_alloc2_old _ _ _
  have g1 : ((w.alloc (.cells (bs a) 36)).alloc (.cells (bs b) 36)).heap[w.heap.size + 1]? = some (.cells (bs b) 36 (0, 0)) := heap_alloc2_new _ _ _
  go_enter Tryd.func71, Tryd.ntmps71
  go_wp2
  generalize ((w.alloc (.cells (bs a) 36)).alloc (.cells (bs b) 36)) = W0 at *
  go_loopw [5] (fun i wr => ∃ k : Nat, k ≤ 32 ∧ i = .int .i64 k ∧ Hid (∀ j, j < k → at8 a j = at8 b j) ∧ ∃ m, wr = W0.drewN m) (fun i _ => 32 - (intOf i).toNat)
  case atStart => exact ⟨0, by omega, rfl, (fun j hj => by omega : ∀ j, j < 0 → at8 a j = at8 b j), 0, rfl⟩
  case round =>
    obtain ⟨k, hk, rfl, hsame, m, rfl⟩ := hrel
    by_cases hlt : k < 32
    · have ca := (cell_of_row W0 w.heap.size k _ _ _ g0).trans (bs_get a k (by omega))
      have cb := (cell_of_row W0 (w.heap.size + 1) k _ _ _ g1).trans (bs_get b k (by omega))
      have HL := cmpL_at a b k (by omega) (by omega) hsame.out
      have HL1 : Hid ((at8 a k < at8 b k → cmpL a b = -1) ∧ (at8 b k < at8 a k → cmpL a b = 1)) := HL
      clear HL
      have hlt' : (k : Int) < 32 := by omega
      by_cases h1 : at8 a k < at8 b k
      · go_wp2
        go_quiet (fail)
        go_wp2
        go_ret
        exact ⟨ret_int (HL1.out.1 h1).symm, below_drewN (below_drewN be0 _) _⟩
      · by_cases h2 : at8 b k < at8 a k
        · go_wp2
          go_quiet (fail)
          go_wp2
          go_quiet (fail)
          go_wp2
          go_ret
          exact ⟨ret_int (HL1.out.2 h2).symm, below_drewN (below_drewN (below_drewN be0 _) _) _⟩
        · go_wp2
          go_quiet (fail)
          go_wp2
          go_quiet (fail)
          go_wp2
          refine ⟨⟨k + 1, by omega, by go_num, ?_, _, rfl⟩, by simp [intOf]; omega⟩
          show ∀ j, j < k + 1 → at8 a j = at8 b j
          intro j hj
          by_cases e : j = k
          · subst e; omega
          · exact hsame.out j (by omega)
    · have hk2 : k = 32 := by omega
      subst hk2
      have HE : Hid (cmpL a b = 0) := by
        show cmpL a b = 0
        rw [at8_ext 32 ha hb hsame.out]
        exact cmpL_same b
      go_wp2
      go_ret
      exact ⟨ret_int HE.out.symm, below_drewN be0 _⟩

/-! ### A hash put in its place -/
theorem srise_app : ∀ {A B : List (List UInt8)}, SRise A → SRise B → (∀ a ∈ A, ∀ b ∈ B, cmpL a b < 0) → SRise (A ++ B)
  | [], B, _, hB, _ => hB
  | x :: r, B, hA, hB, h => by
    rw [List.cons_append]
    refine srise_cons (srise_app hA.tail hB (fun a ha b hb => h a (by simp [ha]) b hb)) (fun y hy => ?_)
    rcases List.mem_append.1 hy with hy | hy
    · exact hA.head hy
    · exact h x (by simp) y hy
theorem srise_take {D : List (List UInt8)} (h : SRise D) (k : Nat) : SRise (D.take k) := fun i j x y hx hy hij => by
  rw [List.getElem?_take] at hx hy
  split at hx
  · split at hy
    · exact h i j x y hx hy hij
    · simp at hy
  · simp at hx
theorem srise_drop {D : List (List UInt8)} (h : SRise D) (k : Nat) : SRise (D.drop k) := fun i j x y hx hy hij => by
  rw [List.getElem?_drop] at hx hy
  exact h (k + i) (k + j) x y hx hy (by omega)
/-- Put in at a place. -/
def ins (D : List (List UInt8)) (k : Nat) (x : List UInt8) : List (List UInt8) := D.take k ++ x :: D.drop k
theorem ins_len (D : List (List UInt8)) (k : Nat) (x : List UInt8) : (ins D k x).length = D.length + 1 := by simp [ins]; omega
theorem ins_mem (D : List (List UInt8)) (k : Nat) (x y : List UInt8) : y ∈ ins D k x ↔ y ∈ D ∨ y = x := by
  have h : y ∈ D ↔ y ∈ D.take k ∨ y ∈ D.drop k := by rw [← List.mem_append, List.take_append_drop]
  simp only [ins, List.mem_append, List.mem_cons, h]
  constructor
  · rintro (h | h | h)
    · exact .inl (.inl h)
    · exact .inr h
    · exact .inl (.inr h)
  · rintro ((h | h) | h)
    · exact .inl h
    · exact .inr (.inr h)
    · exact .inr (.inl h)
theorem all32_ins {D : List (List UInt8)} (h : All32 D) (k : Nat) {x : List UInt8} (hx : x.length = 32) : All32 (ins D k x) := fun y hy => by
  rcases (ins_mem D k x y).1 hy with hy | rfl
  · exact h y hy
  · exact hx
theorem srise_ins {D : List (List UInt8)} (h32 : All32 D) (h : SRise D) {k : Nat} {x : List UInt8} (hx : x.length = 32) (hk : k ≤ D.length) (hlo : ∀ j y, j < k → D[j]? = some y → cmpL y x < 0) (hhi : ∀ y, D[k]? = some y → cmpL x y < 0) : SRise (ins D k x) := by
  have hall : ∀ y ∈ D.drop k, cmpL x y < 0 := fun y hy => by
    obtain ⟨j, hj⟩ := List.mem_iff_getElem?.1 hy
    rw [List.getElem?_drop] at hj
    have hlt := (List.getElem?_eq_some_iff.1 hj).1
    have hz : D[k]? = some D[k] := List.getElem?_eq_getElem (by omega)
    by_cases e : j = 0
    · subst e; exact hhi y (by simpa using hj)
    · exact lt_trans hx (h32.get hz) (h32.get hj) (hhi _ hz) (h k (k + j) _ y hz hj (by omega))
  have hal : ∀ y ∈ D.take k, cmpL y x < 0 := fun y hy => by
    obtain ⟨j, hj⟩ := List.mem_iff_getElem?.1 hy
    rw [List.getElem?_take] at hj
    split at hj
    · rename_i hjk; exact hlo j y hjk hj
    · simp at hj
  refine srise_app (srise_take h k) (srise_cons (srise_drop h k) hall) (fun a ha b hb => ?_)
  rcases List.mem_cons.1 hb with rfl | hb
  · exact hal a ha
  · exact lt_trans (h32 a (List.mem_of_mem_take ha)) hx (h32 b (List.mem_of_mem_drop hb)) (hal a ha) (hall b hb)
/-- The first of a list, and the next one. -/
theorem srt_next {L D E : List (List UInt8)} {k : Nat} {x : List UInt8} (hx : L[k]? = some x) (h : Srt (L.take k) D) (h1 : SRise E) (h2 : All32 E) (h3 : ∀ y, y ∈ E ↔ y ∈ D ∨ y = x) : Srt (L.take (k + 1)) E := by
  refine ⟨h1, h2, fun y => ?_⟩
  rw [h3, h.2.2, List.take_add_one, hx]
  simp
/-- What a list is while places are freed. -/
def Shf (D X : List (List UInt8)) (k : Nat) : Prop := X.length = D.length + 1 ∧ All32 X ∧ (∀ j, j < k → X[j]? = D[j]?) ∧ ∀ j, k ≤ j → j < D.length → X[j + 1]? = D[j]?
theorem shf_zero {D : List (List UInt8)} (h : All32 D) : Shf D (D ++ [z32]) D.length := ⟨by simp, all32_app h (fun x hx => by simp at hx; subst hx; exact z32_len), fun j hj => List.getElem?_append_left hj, fun j h1 h2 => by omega⟩
theorem shf_step {D X : List (List UInt8)} {k : Nat} {p : List UInt8} (h : Shf D X k) (hk : 1 ≤ k) (hkD : k ≤ D.length) (hp : D[k - 1]? = some p) (hp32 : p.length = 32) : Shf D (X.set k p) (k - 1) := by
  obtain ⟨h1, h2, h3, h4⟩ := h
  refine ⟨by simp [h1], h2.set k hp32, fun j hj => ?_, fun j hj hjD => ?_⟩
  · rw [List.getElem?_set_ne (by omega)]; exact h3 j (by omega)
  · by_cases e : j = k - 1
    · subst e
      rw [show k - 1 + 1 = k by omega, List.getElem?_set_self (by omega)]
      exact hp.symm
    · rw [List.getElem?_set_ne (by omega)]; exact h4 j (by omega) hjD
theorem shf_end {D X : List (List UInt8)} {k : Nat} {x : List UInt8} (h : Shf D X k) (hk : k ≤ D.length) : X.set k x = ins D k x := by
  obtain ⟨h1, h2, h3, h4⟩ := h
  apply List.ext_getElem?
  intro j
  unfold ins
  rcases Nat.lt_trichotomy j k with h | h | h
  · rw [List.getElem?_set_ne (by omega), List.getElem?_append_left (by simp; omega), List.getElem?_take, if_pos h]
    exact h3 j h
  · subst h
    rw [List.getElem?_set_self (by omega), List.getElem?_append_right (by simp; omega)]
    simp [Nat.min_eq_left hk]
  · rw [List.getElem?_set_ne (by omega), List.getElem?_append_right (by simp; omega)]
    have e : (D.take k).length = k := by simp; omega
    rw [e]
    obtain ⟨m, rfl⟩ : ∃ m, j = k + 1 + m := ⟨j - (k + 1), by omega⟩
    rw [show k + 1 + m - k = m + 1 by omega, List.getElem?_cons_succ, List.getElem?_drop]
    by_cases hm : k + m < D.length
    · have := h4 (k + m) (by omega) hm
      rw [show k + 1 + m = k + m + 1 by omega]
      exact this
    · rw [List.getElem?_eq_none (by omega), List.getElem?_eq_none (by omega)]

/-! ### A block of hashes of the call's own -/
def Box (w : World) (g cap : Nat) : Prop := ∃ cur, w.heap[g]? = some (.cells cur 36 (0, 0)) ∧ cur.size = cap * 32
theorem box_setCells (g cap : Nat) : ∀ (vs : List Value) (o : Nat) (w : World), Box w g cap → Box (w.setCells g o vs) g cap
  | [], _, _, h => h
  | v :: r, o, w, ⟨cur, h1, h2⟩ => box_setCells g cap r (o + 1) _ ⟨_, heap_setCell_same w g o cur _ v h1, by simp [h2]⟩
theorem Box.below {w w' : World} {g cap B : Nat} (h : Box w g cap) (hb : Below B w w') (hg : g < B) : Box w' g cap := by
  obtain ⟨cur, h1, h2⟩ := h
  exact ⟨cur, by rw [hb.block g hg]; exact h1, h2⟩
theorem Box.lt {w : World} {g cap : Nat} (h : Box w g cap) : g < w.heap.size := by
  obtain ⟨cur, h1, h2⟩ := h
  exact (Array.getElem?_eq_some_iff.1 h1).1
theorem Box.there {w : World} {g cap n : Nat} (h : Box w g cap) (hn : n ≤ cap) : w.there g 0 (32 * n) := fun j hj => by
  obtain ⟨cur, h1, h2⟩ := h
  refine ⟨?_, ?_⟩
  · rw [Nat.zero_add, cell_of_row w g j cur _ _ h1, Array.getElem?_eq_getElem (by omega)]; rfl
  · rw [Nat.zero_add]; exact frozen_of_row w g j cur _ h1
theorem OwnH.box {w : World} {base : Nat} {v : Value} {L : List (List UInt8)} (h : OwnH w base v L) (h0 : 0 < L.length) :
    ∃ g cap, v = .slice (some ⟨g, 0, none⟩) L.length cap ∧ L.length ≤ cap ∧ cap ≤ maxLen ∧ base ≤ g ∧ Box w g cap ∧ Hs w g 0 L := by
  have ho := h.open
  obtain ⟨hL, hlen, ⟨rfl, hn⟩ | ⟨g, cap, cur, rfl, hbg, hg, hnc, hcm, hcs', htake⟩⟩ := h
  · omega
  · rcases ho with ⟨h1, _⟩ | ⟨g', cap', h1, _, _, _, h5, _⟩
    · cases h1
    · cases h1
      exact ⟨g, cap, rfl, hnc, hcm, hbg, ⟨cur, hg, hcs'⟩, h5⟩
theorem ownH_mk {w : World} {base g cap : Nat} {L : List (List UInt8)} (hL : All32 L) (hb : Box w g cap) (hn : L.length ≤ cap) (hm : cap ≤ maxLen) (hg : base ≤ g) (hs : Hs w g 0 L) : OwnH w base (.slice (some ⟨g, 0, none⟩) L.length cap) L := by
  obtain ⟨cur, h1, h2⟩ := hb
  refine ⟨hL, flat_len hL, .inr ⟨g, cap, cur, rfl, hg, h1, hn, hm, h2, ?_⟩⟩
  apply List.ext_getElem?
  intro j
  by_cases hj : j < L.length * 32
  · have hx : L[j / 32]? = some L[j / 32] := List.getElem?_eq_getElem (by omega)
    have e1 := flat_get hL (j / 32) (j % 32) _ hx (by omega)
    rw [show j / 32 * 32 + j % 32 = j by omega] at e1
    have hlt : j % 32 < (hcs L[j / 32]).length := by rw [hcs_len, hL.get hx]; omega
    have e2 := hs (j / 32) _ hx (j % 32) _ (List.getElem?_eq_getElem hlt)
    rw [show 0 + 32 * (j / 32) + j % 32 = j by omega, cell_of_row w g j cur _ _ h1] at e2
    rw [e1, List.getElem?_take, if_pos hj, List.getElem?_eq_getElem hlt, ← e2]
    simp
  · rw [List.getElem?_take, if_neg hj, List.getElem?_eq_none (by rw [flat_len hL]; omega)]
end Go.Proofs.YtpalbfkkegaliabDoor

