import Derived.Test.YtdnocpngdepbgaaGreatDoorP0
import Derived.Test.YtdnocpngdepbgaaGreatDoorKGv
import Derived.Test.YtdnocpngdepbgaaGreatDoorKPr
import Derived.Test.YtdnocpngdepbgaaGreatDoorKPb
import Derived.Test.YtdnocpngdepbgaaGreatDoorKWb
import Derived.Laws.BytesArg
import Derived.Laws.IdiomStrings
import Ieee.Arith
import Derived.Laws.BitsAllLaws
namespace Go.Proofs.YtdnocpngdepbgaaGreatDoor
open Go.RowKit
set_option linter.unusedVariables false
set_option linter.unusedSimpArgs false

variable {T : TypeId} {r cap : Nat} {a : Option Addr}
theorem drop_past (A B : List UInt8) (k : Nat) : (A ++ B).drop (A.length + k) = B.drop k := by
  rw [← List.drop_drop, List.drop_left]
/-- What stands in the k-th place of a list of hashes. -/
theorem cat_drop {D : List (List UInt8)} (hD : All32 D) (k : Nat) (x : List UInt8) (h : D[k]? = some x) : ((cat D).drop (k * 32)).take 32 = x := by
  induction D generalizing k with
  | nil => simp at h
  | cons y t ih =>
    have hy := hD y (by simp)
    cases k with
    | zero =>
      simp at h
      subst h
      simp [cat, List.take_append, hy]
    | succ k =>
      have := ih (fun z hz => hD z (List.mem_cons_of_mem _ hz)) k (by simpa using h)
      rw [← this]
      simp only [cat, List.flatten_cons]
      rw [show (k + 1) * 32 = y.length + k * 32 by omega, drop_past]

theorem on_below {w0 wr w2 : World} {B : Nat} {L : List UInt8} {s0 s : K.St} (h0 : K.RD w0 T r a cap L s0) (h : K.On w0 wr T r a cap L s) (hb : Below B wr w2) (hB : w0.heap.size ≤ B) : K.On w0 w2 T r a cap L s := by
  have hr := h0.lt
  have hbyt : K.Byt w2 a L := by
    rcases h0.byt with e | ⟨b, off, rfl, hc⟩
    · exact .inl e
    · rcases h.1.byt with e | ⟨b', off', e, hc'⟩
      · exact .inl e
      · cases e
        refine .inr ⟨b, off, rfl, fun j hj => ?_⟩
        have hlt : b < w0.heap.size := block_lt_of_cell (hc j hj)
        exact (World.cell?_of_block (hb.block b (by omega))).trans (hc' j hj)
  exact ⟨⟨by rw [hb.block r (by omega)]; exact h.1.row, h.1.room, hbyt, h.1.plain, h.1.at_le, h.1.few⟩, ⟨hb.os.trans h.2.os, hb.tape.trans h.2.tape, hb.output.trans h.2.output, Nat.le_trans h.2.size hb.size, fun i hi hne => (hb.block i (by omega)).trans (h.2.block i hi hne)⟩⟩

set_option maxRecDepth 100000 in
set_option maxHeartbeats 2000000 in
theorem rhashes_any (most : Nat) (hm : most ≤ 4398046510976) (D : List (List UInt8)) (hD : All32 D) (hr : SRise D) (hDm : D.length ≤ most) (w : World) (h : K.RD w 108 r a cap (hw D) ⟨0, 0, 0⟩) :
    Calls Tryz.prog 80 #[.pointer (some ⟨r, 0, none⟩), .int .i64 (most : Int)] w fun e w' => ∃ q, e = .returned (.slice (some ⟨q, 0, none⟩) D.length D.length) ∧ w.heap.size ≤ q ∧ q < w'.heap.size ∧ Hs w' q 0 D ∧ w'.there q 0 (32 * D.length) ∧ K.On w w' 108 r a cap (hw D) ⟨(hw D).length, 0, 0⟩ := by
  have HNum : Hid (K.num (hw D) 0 = ⟨D.length, (K.vint D.length).length, 0, (hw D).length⟩) := K.num_front D.length (by omega) (cat D)
  have HLen : Hid ((hw D).length = (K.vint D.length).length + D.length * 32) := (by unfold hw; rw [List.length_append, cat_len hD]; omega : (hw D).length = (K.vint D.length).length + D.length * 32)
  have HB : Hid (∀ k x, D[k]? = some x → (((hw D).drop ((K.vint D.length).length + k * 32)).take 32) = x) := fun k x hx => by
    unfold hw
    rw [drop_past]
    exact cat_drop hD k x hx
  obtain ⟨n, hn⟩ : ∃ n, n = D.length := ⟨_, rfl⟩
  obtain ⟨sz, hsz⟩ : ∃ sz, sz = (K.vint D.length).length := ⟨_, rfl⟩
  rw [← hsz] at HNum HLen HB
  rw [← hn] at HNum HLen hDm ⊢
  have HN : Hid (n = D.length) := hn
  clear hn hsz
  have hfw := h.few
  rw [HLen.out] at hfw
  have HC : Hid (Calls Tryz.prog 107 #[.pointer (some ⟨r, 0, none⟩), .int .i64 (most : Int), .int .i64 32] w fun e w' => e = .returned (.tuple #[.slice (K.from23 a cap sz) (n * 32) (cap - sz), .int .i64 (sz : Int), .bool true]) ∧ K.On w w' 108 r a cap (hw D) ⟨0, 0, 0⟩) := (by
    have := counted32 most (by omega) w h rfl n sz _ HNum.out hDm (by rw [HLen.out]; simp)
    simp only [Nat.zero_add] at this
    exact this)
  have HSt : Hid (Calls Tryz.prog 104 #[.pointer (some ⟨r, 0, none⟩)] w fun e w' => e = .returned (.bool false) ∧ w' = w) := (by
    have := K.stopped_any w h
    rw [show decide ((⟨0, 0, 0⟩ : K.St).bad ≠ 0) = false by simp] at this
    exact this)
  have HR : Hid (K.RD w 108 r a cap (hw D) ⟨0, 0, 0⟩) := h
  clear h
  have hmk := make_hashes n (by omega)
  have tq : Int.tdiv (((n * 32 : Nat) : Int)) 32 = (n : Int) := by rw [Int.tdiv_eq_ediv_of_nonneg (by omega)]; omega
  go_enter Tryz.func80, Tryz.ntmps80
  go_wp2_with fail
  refine HSt.out.mono ?_
  rintro e w0 ⟨rfl, rfl⟩
  go_wp2_with fail
  refine HC.out.mono ?_
  rintro e w1 ⟨rfl, on1⟩
  have HO1 : Hid (K.On w0 w1 108 r a cap (hw D) ⟨0, 0, 0⟩) := on1
  clear on1 HC HSt
  have HLN : Hid (n * 32 = n * 32) := rfl
  obtain ⟨n32, hn32⟩ : ∃ n32, n32 = n * 32 := ⟨_, rfl⟩
  rw [← hn32] at HLen hfw tq ⊢
  have HN32 : Hid (n32 = n * 32) := hn32
  clear hn32 HLN
  have HS0 : Hid (Hs (w1.alloc (.cells (madeCells (bs z32) (n * 32)) 36)) w1.heap.size 0 (part D n 0)) := (by rw [part_zero]; exact hs_made w1 n 36 : Hs (w1.alloc (.cells (madeCells (bs z32) (n * 32)) 36)) w1.heap.size 0 (part D n 0))
  have HT0 : Hid ((w1.alloc (.cells (madeCells (bs z32) (n * 32)) 36)).there w1.heap.size 0 (32 * n)) := there_made w1 n 36
  have HA0 : Hid (K.On w0 (w1.alloc (.cells (madeCells (bs z32) (n * 32)) 36)) 108 r a cap (hw D) ⟨0, 0, 0⟩) := on_below HR.out HO1.out ((Below.refl _ _).alloc (Nat.le_refl _) _) HO1.out.2.size
  have hq0 : w0.heap.size ≤ w1.heap.size := HO1.out.2.size
  go_wp2
  go_loopw [29] (fun i wr => ∃ k : Nat, k ≤ n ∧ i = .int .i64 k ∧ Hid (Hs wr w1.heap.size 0 (part D n k)) ∧ Hid (wr.there w1.heap.size 0 (32 * n)) ∧ Hid (K.On w0 wr 108 r a cap (hw D) ⟨0, 0, 0⟩) ∧ w1.heap.size < wr.heap.size) (fun i _ => n - (intOf i).toNat)
  case atStart => exact ⟨0, by omega, rfl, HS0, HT0, HA0, by simp⟩
  case round =>
    obtain ⟨k, hk, rfl, HSr, HTr, HOr, hqr⟩ := hrel
    by_cases hkn : k < n
    · have h32 := HN32.out
      have hkD : k < D.length := by rw [← HN.out]; exact hkn
      obtain ⟨x, hx⟩ : ∃ x, D[k]? = some x := ⟨_, List.getElem?_eq_getElem hkD⟩
      have hx32 := hD.get hx
      have HCut : Hid ((((hw D).drop (sz + k * 32)).take 32) = x) := HB.out k x hx
      obtain ⟨b, off, rfl, hcell⟩ : ∃ b off, a = some ⟨b, off, none⟩ ∧ ∀ j, j < (hw D).length → wr.cell? ⟨b, off + j, none⟩ = some (.int .u8 (K.at8 (hw D) j)) := by
        rcases HOr.out.1.byt with e | h
        · have := HLen.out; rw [e] at this; simp at this; omega
        · exact h
      have hroom := HOr.out.1.room
      rw [HLen.out] at hroom
      have e1 : K.from23 (K.from23 (some ⟨b, off, none⟩) cap sz) (cap - sz) (k * 32) = some ⟨b, off + sz + k * 32, none⟩ := by
        unfold K.from23
        rw [if_neg (by omega), if_neg (by omega)]
        simp [Addr.add_mid]
      have sl1 := fun wx => K.sl_from (K.from23 (some ⟨b, off, none⟩) cap sz) n32 (cap - sz) (k * 32) ((k : Int) * 32) (by omega) (by omega) wx
      have sl2 := fun wx => K.sl_from' (K.from23 (some ⟨b, off, none⟩) cap sz) n32 (cap - sz) (k * 32) ((k : Int) * 32) (by omega) (by omega) wx
      rw [e1] at sl1 sl2
      have HH : Hid (Calls Tryz.prog 122 #[.slice (some ⟨b, off + sz + k * 32, none⟩) (n32 - k * 32) (cap - sz - k * 32)] wr fun e w' => e = .returned (.agg (bs x)) ∧ Below wr.heap.size wr w') := (by
        have h1 : ((hw D).drop (sz + k * 32)).length = n32 - k * 32 := by rw [List.length_drop, HLen.out]; omega
        have hbl : b < wr.heap.size := block_lt_of_cell (hcell 0 (by rw [HLen.out]; omega))
        have := hashOf_any b (off + sz + k * 32) (n32 - k * 32) (cap - sz - k * 32) ((hw D).drop (sz + k * 32)) wr h1 (by omega) (fun j hj => by
          rw [show off + sz + k * 32 + j = off + (sz + k * 32 + j) by omega, hcell _ (by rw [List.length_drop] at hj; omega)]
          unfold K.at8
          simp) hbl
        rw [HCut.out] at this
        exact this)
      have ix1 := fun wx => indexH w1.heap.size 0 n n k wx hkn
      simp only [Nat.zero_add] at ix1
      clear HCut hcell e1 hroom
      generalize off + sz + k * 32 = off4 at *
      generalize n32 - k * 32 = n4 at *
      generalize cap - sz - k * 32 = cap4 at *
      generalize hq : w1.heap.size = q at *
      have hzr : Hid (w0.heap.size ≤ q) := hq0
      clear h32 hq
      go_wp2_with fail
      refine HH.out.mono ?_
      rintro e w2 ⟨rfl, bl2⟩
      have HT2 : Hid (w2.there q 0 (32 * n)) := there_below HTr.out bl2 hqr
      have HTH : Hid (w2.there q (32 * k) 32) := (by have := there_part (m := 32) (i := 32 * k) HT2.out (by omega); rwa [Nat.zero_add] at this : w2.there q (32 * k) 32)
      have hPL : D.length = n := HN.out.symm
      have HX : Hid (Hs (w2.setCells q (32 * k) (hcs x)) q 0 (part D n (k + 1))) := (by
        have := Hs.set (HSr.out.below bl2 hqr) (all32_part hD _ _) k x hx32 (by rw [part_len _ _ _ (by omega) hPL]; omega) (there_part HT2.out (by omega))
        rw [Nat.zero_add] at this
        rwa [part_set _ _ _ (by omega) hPL x hx] at this : Hs (w2.setCells q (32 * k) (hcs x)) q 0 (part D n (k + 1)))
      have HT3 : Hid ((w2.setCells q (32 * k) (hcs x)).there q 0 (32 * n)) := World.there_setCells HT2.out _ _ _
      have HO3 : Hid (K.On w0 (w2.setCells q (32 * k) (hcs x)) 108 r (some ⟨b, off, none⟩) cap (hw D) ⟨0, 0, 0⟩) := on_below HR.out (on_below HR.out HOr.out bl2 HOr.out.2.size) (below_setCells (Below.refl _ _) (Nat.le_refl q) _ _) hzr.out
      have hq3 : q < (w2.setCells q (32 * k) (hcs x)).heap.size := by rw [size_setCells]; have := bl2.size; omega
      clear hPL bl2 HT2 HSr HTr HOr hqr HH sl1 sl2
      go_wp2_with (first
        | (refine wpList_store_mid rfl 36 _ _ rfl q (32 * k) (bs x) rfl rfl (by rw [bs_size, hx32]; exact HTH.out) (by rw [bs_size, hx32]; exact hsH) (bs_one _) ?_)
        | fail)
      change Code.wp _ _ _ _ (w2.setCells q (32 * k) (hcs x))
      simp only [Act.put]
      generalize w2.setCells q (32 * k) (hcs x) = w3 at *
      clear HTH
      by_cases hk0 : k = 0
      · have gk : decide (0 < k) = false := by simp; omega
        clear hk0
        have hne : Nonempty (ExtT w3) := ExtT.some w3
        refine wp_region_ext (by kernel_rfl) (by kernel_rfl) ?_
        repeat (go_big_quiet_step (fail))
        refine wpQuiet_nil ?_
        rintro w4 ⟨⟨_, bl4⟩, rfl⟩
        have A1 : Hid (Hs w4 q 0 (part D n (k + 1))) := HX.out.below bl4 hq3
        have A2 : Hid (w4.there q 0 (32 * n)) := there_below HT3.out bl4 hq3
        have A3 : Hid (K.On w0 w4 108 r (some ⟨b, off, none⟩) cap (hw D) ⟨0, 0, 0⟩) := on_below HR.out HO3.out bl4 HO3.out.2.size
        have A4 : q < w4.heap.size := by have := bl4.size; omega
        clear bl4 hne HX HT3 HO3 hq3 gk
        go_wp2
        exact ⟨⟨k + 1, by omega, by go_num, A1, A2, A3, A4⟩, by simp [intOf]; omega⟩
      · obtain ⟨p, hp⟩ : ∃ p, D[k - 1]? = some p := ⟨_, List.getElem?_eq_getElem (by omega)⟩
        have hp32 := hD.get hp
        have hcl : cmpL p x < 0 := hr (k - 1) k p x hp hx (by omega)
        have HCm : Hid (∀ wx, Calls Tryz.prog 116 #[.agg (bs p), .agg (bs x)] wx fun e w' => e = .returned (.int .i64 (cmpL p x)) ∧ Below wx.heap.size wx w') := fun wx => cmp_any p x hp32 hx32 wx
        have hpt : ∀ i y, i < k + 1 → D[i]? = some y → (part D n (k + 1))[i]? = some y := fun i y hi hy => by
          unfold part
          rw [List.getElem?_append_left (by rw [List.length_take]; have := (List.getElem?_eq_some_iff.1 hy).1; omega), List.getElem?_take, if_pos hi]
          exact hy
        have S1 : Hid (w3.rangeAt q (32 * (k - 1)) (hcs p)) := (by have := HX.out (k - 1) p (hpt _ _ (by omega) hp); rwa [Nat.zero_add] at this : w3.rangeAt q (32 * (k - 1)) (hcs p))
        have S2 : Hid (w3.rangeAt q (32 * k) (hcs x)) := (by have := HX.out k x (hpt _ _ (by omega) hx); rwa [Nat.zero_add] at this : w3.rangeAt q (32 * k) (hcs x))
        have ix2 : ∀ wx, (Instr.indexAt 37 (.slice (some ⟨q, 0, none⟩) n n) (.int .i64 ((k : Int) - 1))).run Tryz.prog wx = .ok (.pointer (some ⟨q, 32 * (k - 1), none⟩)) wx := fun wx => (by
          have := indexH q 0 n n (k - 1) wx (by omega)
          rwa [Nat.zero_add, show ((k - 1 : Nat) : Int) = (k : Int) - 1 by omega] at this)
        have wk : IntKind.i64.wrap ((k : Int) - 1) = (k : Int) - 1 := by simp only [IntKind.wrap, IntKind.bits, IntKind.signed]; simp; omega
        have wk2 : wrap64 ((k : Int) - 1) = (k : Int) - 1 := (by unfold wrap64; omega)
        generalize cmpL p x = c at *
        have gc : ¬ (0 : Int) ≤ c := by omega
        have gk : 0 < k := by omega
        clear hpt hx hp hcl hk0
        have hne : Nonempty (ExtT w3) := ExtT.some w3
        refine wp_region_ext (by kernel_rfl) (by kernel_rfl) ?_
        repeat (first
          | (go_big_quiet_want; refine quiet_load_mid 36 _ rfl q (32 * (k - 1)) rfl (bs p) _ (by rintro _ ⟨e, rfl⟩; exact e.range S1.out (hcs_pos hp32)) Tryz.underlying36 rfl (sizeH hp32) ?_; simp only [Act.put, List.setIfInBounds_toArray, List.set_cons_zero, List.set_cons_succ]; go_big_quiet_on)
          | (go_big_quiet_want; refine quiet_load_mid 36 _ rfl q (32 * k) rfl (bs x) _ (by rintro _ ⟨e, rfl⟩; exact e.range S2.out (hcs_pos hx32)) Tryz.underlying36 rfl (sizeH hx32) ?_; simp only [Act.put, List.setIfInBounds_toArray, List.set_cons_zero, List.set_cons_succ]; go_big_quiet_on)
          | go_big_quiet_step (first | (go_at_call 116; exact ext_of (HCm.out _)) | fail))
        refine wpQuiet_nil ?_
        rintro w4 ⟨⟨_, bl4⟩, rfl⟩
        have A1 : Hid (Hs w4 q 0 (part D n (k + 1))) := HX.out.below bl4 hq3
        have A2 : Hid (w4.there q 0 (32 * n)) := there_below HT3.out bl4 hq3
        have A3 : Hid (K.On w0 w4 108 r (some ⟨b, off, none⟩) cap (hw D) ⟨0, 0, 0⟩) := on_below HR.out HO3.out bl4 HO3.out.2.size
        have A4 : q < w4.heap.size := by have := bl4.size; omega
        clear bl4 hne HX HT3 HO3 hq3 wk wk2 S1 S2 HCm ix2
        go_wp2
        exact ⟨⟨k + 1, by omega, by go_num, A1, A2, A3, A4⟩, by simp [intOf]; omega⟩
    · obtain rfl : k = n := by omega
      have c1 := HOr.out.1.c1
      have fz := HOr.out.1.fz 1
      have hfew : (sz + n32 : Nat) ≤ 140737488351232 := hfw
      have HE : Hid (Hs wr w1.heap.size 0 D) := (by have := HSr.out; rwa [part_all D k HN.out.symm] at this : Hs wr w1.heap.size 0 D)
      have HO9 : Hid (K.On w0 (wr.setCell ⟨r, 1, none⟩ (.int .i64 ((sz : Int) + (n32 : Int)))) 108 r a cap (hw D) ⟨(hw D).length, 0, 0⟩) := HOr.out.set1 (hw D).length _ (by rw [HLen.out]; omega) (Nat.le_refl _)
      have hrq : r ≠ w1.heap.size := by have := HR.out.lt; omega
      have HE9 : Hid (Hs (wr.setCell ⟨r, 1, none⟩ (.int .i64 ((sz : Int) + (n32 : Int)))) w1.heap.size 0 D) := fun i x e j v hv => (World.cell?_setCell_far wr ⟨r, 1, none⟩ _ _ hrq).trans (HE.out i x e j v hv)
      have HT9 : Hid ((wr.setCell ⟨r, 1, none⟩ (.int .i64 ((sz : Int) + (n32 : Int)))).there w1.heap.size 0 (32 * k)) := fun j hj => by
        have := HTr.out j hj
        exact ⟨by rw [World.cell?_setCell_far wr ⟨r, 1, none⟩ _ _ hrq]; exact this.1, by rw [World.frozen?_setCell]; exact this.2⟩
      have hz9 : w1.heap.size < (wr.setCell ⟨r, 1, none⟩ (.int .i64 ((sz : Int) + (n32 : Int)))).heap.size := by rw [World.size_setCell]; exact hqr
      clear HE HTr HSr HOr
      go_wp2
      go_ret
      exact ⟨_, rfl, hq0, hz9, HE9.out, HT9.out, HO9.out⟩
end Go.Proofs.YtdnocpngdepbgaaGreatDoor

namespace Go.Proofs.YtdnocpngdepbgaaGreatDoor.K
open Go.RowKit
set_option linter.unusedVariables false
set_option linter.unusedSimpArgs false

def rText (L : List UInt8) (most : Nat) (s : St) : List UInt8 × St :=
  if s.bad = 0 then (match rCnt L most s with | (some (n, hd), _) => (if good (cut L (s.k + hd) n) < n then ([], ⟨s.k, 21, (s.k : Int) + (hd : Int) + (good (cut L (s.k + hd) n) : Int)⟩) else (cut L (s.k + hd) n, ⟨s.k + hd + n, s.bad, s.wh⟩)) | (none, s') => ([], s')) else ([], s)
variable {T : TypeId} {r cap : Nat} {a : Option Addr} {L : List UInt8} {s : St}
set_option maxRecDepth 100000 in
set_option maxHeartbeats 2000000 in
theorem text_any (most : Nat) (hm : most ≤ 9223372036854775807) (w : World) (h : RD w T r a cap L s) (hT : Tabs w) (hr4 : 0 ≠ r ∧ 1 ≠ r) :
    Calls Tryz.prog 32 #[.pointer (some ⟨r, 0, none⟩), .int .i64 (most : Int)] w fun e w' => e = .returned (.string ⟨(rText L most s).1.toArray⟩) ∧ On w w' T r a cap L (rText L most s).2 := by
  have HS : Hid (Calls Tryz.prog 104 #[.pointer (some ⟨r, 0, none⟩)] w fun e w' => e = .returned (.bool (decide (s.bad ≠ 0))) ∧ w' = w) := stopped_any w h
  by_cases hb : s.bad = 0
  · have HS' : Hid (Calls Tryz.prog 104 #[.pointer (some ⟨r, 0, none⟩)] w fun e w' => e = .returned (.bool false) ∧ w' = w) := by have := HS.out; rw [show decide (s.bad ≠ 0) = false by simp [hb]] at this; exact this
    clear HS
    rcases hq : rCnt L most s with ⟨_ | ⟨n, hd⟩, s'⟩
    · have hE : rText L most s = ([], s') := by unfold rText; rw [if_pos hb, hq]
      rw [hE]
      have HC := Hid.mk' (counted_none most hm w h hb s' hq)
      clear h hE hq
      go_enter Tryz.func32, Tryz.ntmps32
      go_wp2_with fail
      refine HS'.out.mono ?_
      rintro e w1 ⟨rfl, hw1⟩
      subst hw1
      go_wp2_with fail
      refine HC.out.mono ?_
      rintro e w2 ⟨rfl, ho⟩
      have HO := Hid.mk' ho
      clear ho
      go_wp2
      go_ret
      exact ⟨rfl, HO.out⟩
    · have hE : rText L most s = (if good (cut L (s.k + hd) n) < n then ([], ⟨s.k, 21, (s.k : Int) + (hd : Int) + (good (cut L (s.k + hd) n) : Int)⟩) else (cut L (s.k + hd) n, ⟨s.k + hd + n, s.bad, s.wh⟩)) := by unfold rText; rw [if_pos hb, hq]
      rw [hE]
      obtain ⟨rfl, h1, h2, h3⟩ := rCnt_some hq h.at_le
      have HC := Hid.mk' (counted_some most hm w h hb n hd hq)
      obtain ⟨b, off, eA⟩ := h.some (by omega) (s'.k + hd)
      have hf := h.few
      have hroom := h.room
      rw [eA] at HC
      have HCut := Hid.mk' (fun (wx : World) (s2 : St) (hx : On w wx T r a cap L s2) => hx.1.cut (s'.k + hd) n)
      rw [eA] at HCut
      have hlen := cut_len L (s'.k + hd) n (by omega)
      have hgle : good (cut L (s'.k + hd) n) ≤ n := by have := goodF_le (cut L (s'.k + hd) n).length (cut L (s'.k + hd) n); rw [hlen] at this; unfold good; rw [hlen]; exact this
      have HGT := Hid.mk' (fun (wx : World) (hx : On w wx T r a cap L s') => goodText_any b off n (cap - (s'.k + hd)) (cut L (s'.k + hd) n) wx hlen (by omega) (by omega) (HCut.out wx s' hx) (hT.fr hx.2 hr4))
      have HCV := Hid.mk' (fun (wx : World) (s2 : St) (hx : On w wx T r a cap L s2) => byt_string (cap := cap - (s'.k + hd)) hlen (HCut.out wx s2 hx))
      clear h hE hq eA hT hlen HCut hroom
      generalize cap - (s'.k + hd) = c4 at *
      generalize good (cut L (s'.k + hd) n) = g at *
      generalize cut L (s'.k + hd) n = tx at *
      by_cases hg : g < n
      · rw [if_pos hg]
        have hg' : (g : Int) < (n : Int) := by omega
        have HK := Hid.mk' (keep_on (a := a) (cap := cap) (L := L) (T := T) (r := r) w hb 21 ((s'.k : Int) + (hd : Int) + (g : Int)) (by decide))
        have hw1 : IntKind.i64.wrap ((s'.k : Int) + (hd : Int)) = (s'.k : Int) + (hd : Int) := by rw [IntKind.wrap_i64]; omega
        have hw2 : IntKind.i64.wrap ((s'.k : Int) + (hd : Int) + (g : Int)) = (s'.k : Int) + (hd : Int) + (g : Int) := by rw [IntKind.wrap_i64]; omega
        go_enter Tryz.func32, Tryz.ntmps32
        go_wp2_with fail
        refine HS'.out.mono ?_
        rintro e w1 ⟨rfl, hw1⟩
        subst hw1
        go_wp2_with fail
        refine HC.out.mono ?_
        rintro e w2 ⟨rfl, ho⟩
        have HON := Hid.mk' ho
        clear ho
        go_wp2_with fail
        refine (HGT.out _ HON.out).mono ?_
        rintro e w3 ⟨rfl, bl⟩
        have HON2 := Hid.mk' (HON.out.below bl)
        have c1 := HON2.out.1.c1
        clear bl HON
        go_wp2
        go_region_held3 (fun w' => w'.cell? ⟨r, 1, none⟩ = some (.int .i64 (s'.k : Int))) (first | assumption | go_keep) (first
          | (go_at_call 106; refine (HK.out _ ?_).mono ?_; (first | exact HON2.out | exact HON2.out.drew _ | exact (HON2.out.drew _).drew 1); rintro e w4 ⟨rfl, ho⟩; have s1 := ho.1.c1; have HO2 := Hid.mk' ho; clear ho)
          | fail)
        go_wp2
        go_ret
        exact ⟨rfl, HO2.out⟩
      · rw [if_neg hg]
        have hg' : ¬ (g : Int) < (n : Int) := by omega
        go_enter Tryz.func32, Tryz.ntmps32
        go_wp2_with fail
        refine HS'.out.mono ?_
        rintro e w1 ⟨rfl, hw1⟩
        subst hw1
        go_wp2_with fail
        refine HC.out.mono ?_
        rintro e w2 ⟨rfl, ho⟩
        have HON := Hid.mk' ho
        clear ho
        go_wp2_with fail
        refine (HGT.out _ HON.out).mono ?_
        rintro e w3 ⟨rfl, bl⟩
        have HON2 := Hid.mk' (HON.out.below bl)
        have c1 := HON2.out.1.c1
        have f1 := HON2.out.1.fz 1
        have HO2 := Hid.mk' (HON2.out.set1 (s'.k + hd + n) ((s'.k : Int) + ((hd : Int) + (n : Int))) (by omega) (by omega))
        have cv := HCV.out _ _ HO2.out
        clear bl HON
        go_wp2
        go_ret
        exact ⟨rfl, HO2.out⟩
  · have HS' : Hid (Calls Tryz.prog 104 #[.pointer (some ⟨r, 0, none⟩)] w fun e w' => e = .returned (.bool true) ∧ w' = w) := by have := HS.out; rw [show decide (s.bad ≠ 0) = true by simp [hb]] at this; exact this
    have e0 : rText L most s = ([], s) := by unfold rText; rw [if_neg hb]
    rw [e0]
    have HO := Hid.mk' h.on
    clear HS h e0
    go_enter Tryz.func32, Tryz.ntmps32
    go_wp2_with fail
    refine HS'.out.mono ?_
    rintro e w1 ⟨rfl, hw1⟩
    subst hw1
    go_wp2
    go_ret
    exact ⟨rfl, HO.out⟩
end Go.Proofs.YtdnocpngdepbgaaGreatDoor.K

namespace Go.Proofs.YtdnocpngdepbgaaGreatDoor.K
open Go.RowKit
set_option linter.unusedVariables false
set_option linter.unusedSimpArgs false

variable {T : TypeId} {r cap : Nat} {a : Option Addr} {L : List UInt8} {s : St}
/-- A read that has met a fault: it stays where it was. -/
def Flt (w w' : World) (T : TypeId) (r : Nat) (a : Option Addr) (cap : Nat) (L : List UInt8) (s : St) : Prop := ∃ s' : St, s'.bad ≠ 0 ∧ s'.k = s.k ∧ On w w' T r a cap L s'
theorem flt_mk {w w' : World} {e p : Int} (h : On w w' T r a cap L ⟨s.k, e, p⟩) (he : e ≠ 0) : Flt w w' T r a cap L s := ⟨⟨s.k, e, p⟩, he, rfl, h⟩
def Fits (L : List UInt8) (k : Nat) (most : Int) (u : Nat) : Prop := (num L k).why = 0 ∧ 0 ≤ most ∧ ((num L k).v : Int) ≤ most ∧ k + (num L k).size + (num L k).v * u ≤ L.length
set_option maxRecDepth 100000 in
set_option maxHeartbeats 2000000 in
theorem counted_no (u : Nat) (hu : u = 1 ∨ u = 32) (most : Int) (hm0 : -9223372036854775808 ≤ most) (hm : most < 9223372036854775808) (w : World) (h : RD w T r a cap L s) (hb : s.bad = 0) (hno : ¬ Fits L s.k most u) :
    Calls Tryz.prog 107 #[.pointer (some ⟨r, 0, none⟩), .int .i64 most, .int .i64 (u : Int)] w fun e w' => e = .returned (.tuple #[.slice none 0 0, .int .i64 0, .bool false]) ∧ Flt w w' T r a cap L s := by
  have HN := Hid.mk' (number_any w h hb)
  have hok := num_ok L s.k h.at_le
  have HAt := Hid.mk' (fun (wx : World) (hx : On w wx T r a cap L s) => cat_any wx hx.1)
  have HL := Hid.mk' (fun (wx : World) (hx : On w wx T r a cap L s) => cleft_any wx hx.1)
  have hf := h.few
  have hr := h.room
  unfold Fits at hno
  generalize num L s.k = N at *
  obtain ⟨v, sz, why, pl⟩ := N
  simp only at HN hok hno ⊢
  by_cases h1 : why = 0
  · subst h1
    have HN' : Hid (Calls Tryz.prog 105 #[.pointer (some ⟨r, 0, none⟩)] w fun e w' => e = .returned (.tuple #[.int .u64 (v : Int), .int .i64 (sz : Int), .bool true]) ∧ On w w' T r a cap L s) := HN.out.mono fun e w' hx => by
      rw [St.fl_ok] at hx
      exact hx
    obtain ⟨k1, k2, k3⟩ := hok.1 rfl
    clear HN h hok
    by_cases h2 : 0 ≤ most ∧ (v : Int) ≤ most
    · have h3 : ¬ s.k + sz + v * u ≤ L.length := fun h3 => hno ⟨rfl, h2.1, h2.2, h3⟩
      have HK := Hid.mk' (keep_on (a := a) (cap := cap) (L := L) (T := T) (r := r) w hb 20 (L.length : Int) (by decide))
      have g1 : ¬ most < 0 := by omega
      have g2 : ¬ most < (v : Int) := by omega
      obtain ⟨d, hd⟩ : ∃ d, d = (L.length - (s.k + sz)) / u := ⟨_, rfl⟩
      have hdu : d < v := by
        rcases hu with rfl | rfl
        · rw [hd]; omega
        · rw [hd]; omega
      have hdL : d ≤ L.length := by rcases hu with rfl | rfl <;> omega
      have tq : Int.tdiv ((L.length : Int) - (s.k : Int) - (sz : Int)) (u : Int) = (d : Int) := by
        rw [Int.tdiv_eq_ediv_of_nonneg (by omega)]
        rcases hu with rfl | rfl <;> omega
      have g3 : (d : Int) < (v : Int) := by omega
      have hq : ((u : Nat) : Int) ≠ 0 := by omega
      have hlim : (L.length : Int) - (s.k : Int) - (sz : Int) < 9223372036854775808 := by omega
      rcases hu with rfl | rfl
      · clear hd hno h3 h2
        have g4 : ((L.length : Int) - (s.k : Int) - (sz : Int)) < (v : Int) := by
          have e : Int.tdiv ((L.length : Int) - (s.k : Int) - (sz : Int)) 1 = (L.length : Int) - (s.k : Int) - (sz : Int) := by rw [Int.tdiv_eq_ediv_of_nonneg (by omega)]; omega
          have := tq
          rw [show ((1 : Nat) : Int) = 1 from rfl, e] at this
          omega
        rw [show ((1 : Nat) : Int) = 1 from rfl]
        go_enter Tryz.func107, Tryz.ntmps107
        go_wp2_with fail
        refine HN'.out.mono ?_
        rintro e w1 ⟨rfl, ho⟩
        have HON := Hid.mk' ho
        have c0 := ho.1.c0
        have c1 := ho.1.c1
        clear ho
        go_wp2_with fail
        refine (HL.out w1 HON.out).mono ?_
        rintro e w2 ⟨rfl, m, hw2⟩
        have HON2 : Hid (On w w2 T r a cap L s) := by show On _ _ _ _ _ _ _ _; rw [hw2]; exact HON.out.drew m
        have c0' := HON2.out.1.c0
        clear hw2 HON c0 c1
        go_wp2_with fail
        refine (HK.out w2 HON2.out).mono ?_
        rintro e w3 ⟨rfl, ho⟩
        have HO2 := Hid.mk' ho
        clear ho
        go_wp2
        go_ret3
        exact ⟨rfl, flt_mk HO2.out (by decide)⟩
      · clear hd hno h3 h2
        rw [show ((32 : Nat) : Int) = 32 from rfl] at tq ⊢
        go_enter Tryz.func107, Tryz.ntmps107
        go_wp2_with fail
        refine HN'.out.mono ?_
        rintro e w1 ⟨rfl, ho⟩
        have HON := Hid.mk' ho
        have c0 := ho.1.c0
        have c1 := ho.1.c1
        clear ho
        go_wp2_with fail
        refine (HL.out w1 HON.out).mono ?_
        rintro e w2 ⟨rfl, m, hw2⟩
        have HON2 : Hid (On w w2 T r a cap L s) := by show On _ _ _ _ _ _ _ _; rw [hw2]; exact HON.out.drew m
        have c0' := HON2.out.1.c0
        clear hw2 HON c0 c1
        go_wp2_with fail
        refine (HK.out w2 HON2.out).mono ?_
        rintro e w3 ⟨rfl, ho⟩
        have HO2 := Hid.mk' ho
        clear ho
        go_wp2
        go_ret3
        exact ⟨rfl, flt_mk HO2.out (by decide)⟩
    · have HK := Hid.mk' (keep_on (a := a) (cap := cap) (L := L) (T := T) (r := r) w hb 6 (s.k : Int) (by decide))
      by_cases g1 : most < 0
      · go_enter Tryz.func107, Tryz.ntmps107
        go_wp2_with fail
        refine HN'.out.mono ?_
        rintro e w1 ⟨rfl, ho⟩
        have HON := Hid.mk' ho
        clear ho
        go_wp2_with fail
        refine (HAt.out w1 HON.out).mono ?_
        rintro e w2 ⟨rfl, hw2⟩
        subst hw2
        go_wp2_with fail
        refine (HK.out w2 HON.out).mono ?_
        rintro e w3 ⟨rfl, ho⟩
        have HO2 := Hid.mk' ho
        clear ho
        go_wp2
        go_ret3
        exact ⟨rfl, flt_mk HO2.out (by decide)⟩
      · have g2 : most < (v : Int) := by omega
        go_enter Tryz.func107, Tryz.ntmps107
        go_wp2_with fail
        refine HN'.out.mono ?_
        rintro e w1 ⟨rfl, ho⟩
        have HON := Hid.mk' ho
        clear ho
        go_wp2_with fail
        refine (HAt.out w1 HON.out).mono ?_
        rintro e w2 ⟨rfl, hw2⟩
        subst hw2
        go_wp2_with fail
        refine (HK.out w2 HON.out).mono ?_
        rintro e w3 ⟨rfl, ho⟩
        have HO2 := Hid.mk' ho
        clear ho
        go_wp2
        go_ret3
        exact ⟨rfl, flt_mk HO2.out (by decide)⟩
  · have HN' : Hid (Calls Tryz.prog 105 #[.pointer (some ⟨r, 0, none⟩)] w fun e w' => e = .returned (.tuple #[.int .u64 (v : Int), .int .i64 (sz : Int), .bool false]) ∧ On w w' T r a cap L ⟨s.k, why, pl⟩) := HN.out.mono fun e w' hx => by
      rw [St.fl_new s _ _ hb h1] at hx
      rw [show decide (why = 0) = false by simp [h1]] at hx
      exact hx
    have H1 := Hid.mk' h1
    clear HN h
    go_enter Tryz.func107, Tryz.ntmps107
    go_wp2_with fail
    refine HN'.out.mono ?_
    rintro e w1 ⟨rfl, ho⟩
    have HO2 := Hid.mk' ho
    clear ho
    go_wp2
    go_ret3
    exact ⟨rfl, flt_mk HO2.out H1.out⟩
set_option maxRecDepth 100000 in
theorem raw_no (most : Int) (hm0 : -9223372036854775808 ≤ most) (hm : most < 9223372036854775808) (w : World) (h : RD w T r a cap L s) (hb : s.bad = 0) (hno : ¬ Fits L s.k most 1) :
    Calls Tryz.prog 78 #[.pointer (some ⟨r, 0, none⟩), .int .i64 most] w fun e w' => e = .returned (.slice none 0 0) ∧ Flt w w' T r a cap L s := by
  have HS := Hid.mk' (stopped_any w h)
  rw [show decide (s.bad ≠ 0) = false by simp [hb]] at HS
  have HC : Hid (Calls Tryz.prog 107 #[.pointer (some ⟨r, 0, none⟩), .int .i64 most, .int .i64 1] w fun e w' => e = .returned (.tuple #[.slice none 0 0, .int .i64 0, .bool false]) ∧ Flt w w' T r a cap L s) := counted_no 1 (.inl rfl) most hm0 hm w h hb hno
  clear h hno
  go_enter Tryz.func78, Tryz.ntmps78
  go_wp2_with fail
  refine HS.out.mono ?_
  rintro e w1 ⟨rfl, hw1⟩
  subst hw1
  go_wp2_with fail
  refine HC.out.mono ?_
  rintro e w2 ⟨rfl, ho⟩
  have HO := Hid.mk' ho
  clear ho
  go_wp2
  go_ret
  exact ⟨rfl, HO.out⟩
set_option maxRecDepth 100000 in
theorem text_no (most : Int) (hm0 : -9223372036854775808 ≤ most) (hm : most < 9223372036854775808) (w : World) (h : RD w T r a cap L s) (hb : s.bad = 0) (hno : ¬ Fits L s.k most 1) :
    Calls Tryz.prog 32 #[.pointer (some ⟨r, 0, none⟩), .int .i64 most] w fun e w' => e = .returned (.string ⟨#[]⟩) ∧ Flt w w' T r a cap L s := by
  have HS := Hid.mk' (stopped_any w h)
  rw [show decide (s.bad ≠ 0) = false by simp [hb]] at HS
  have HC : Hid (Calls Tryz.prog 107 #[.pointer (some ⟨r, 0, none⟩), .int .i64 most, .int .i64 1] w fun e w' => e = .returned (.tuple #[.slice none 0 0, .int .i64 0, .bool false]) ∧ Flt w w' T r a cap L s) := counted_no 1 (.inl rfl) most hm0 hm w h hb hno
  clear h hno
  go_enter Tryz.func32, Tryz.ntmps32
  go_wp2_with fail
  refine HS.out.mono ?_
  rintro e w1 ⟨rfl, hw1⟩
  subst hw1
  go_wp2_with fail
  refine HC.out.mono ?_
  rintro e w2 ⟨rfl, ho⟩
  have HO := Hid.mk' ho
  clear ho
  go_wp2
  go_ret
  exact ⟨rfl, HO.out⟩
end Go.Proofs.YtdnocpngdepbgaaGreatDoor.K

namespace Go.Proofs.YtdnocpngdepbgaaGreatDoor
open Go.RowKit
set_option linter.unusedVariables false
set_option linter.unusedSimpArgs false

/-- What Reader.Hash answers. -/
def rHash (L : List UInt8) (s : K.St) : List UInt8 × K.St := if s.bad = 0 then (if s.k + 32 ≤ L.length then ((L.drop s.k).take 32, ⟨s.k + 32, s.bad, s.wh⟩) else (z32, ⟨s.k, 20, L.length⟩)) else (z32, s)
theorem resRHash (tmps : Array Value) (w : World) (g : Nat) (t : TypeId) (l : List UInt8) (hl : l.length = 32) (fr : Nat × Nat) (j : Nat) (hj : j = 2) (hp : tmps.getD j undef = .pointer (some ⟨g, 0, none⟩)) (hg : w.heap[g]? = some (.cells (bs l) t fr)) :
    (results Tryz.f79 tmps).run Tryz.prog w = .ok (.agg (bs l)) w := by
  subst hj
  exact results_cell_row Tryz.results79 tmps w g t (bs l) fr _ hp hg Tryz.underlying36 rfl (by rw [bs_size, hl]; exact hsH)
variable {T : TypeId} {r cap : Nat} {a : Option Addr} {L : List UInt8} {s : K.St}
theorem RD_b {w w' : World} (h : K.RD w T r a cap L s) (hb : Below w.heap.size w w') : K.RD w' T r a cap L s :=
  ⟨by rw [hb.block r h.lt]; exact h.row, h.room, K.byt_below h.byt hb, h.plain, h.at_le, h.few⟩
set_option maxRecDepth 100000 in
set_option maxHeartbeats 1000000 in
theorem rhash_any (w : World) (h : K.RD w T r a cap L s) :
    Calls Tryz.prog 79 #[.pointer (some ⟨r, 0, none⟩)] w fun e w' => e = .returned (.agg (bs (rHash L s).1)) ∧ K.On w w' T r a cap L (rHash L s).2 := by
  have hzs : (bs z32).size = 32 := by rw [bs_size]; rfl
  have be0 : Below w.heap.size w (w.alloc (.cells (bs z32) 36)) := (Below.refl _ _).alloc (Nat.le_refl _) _
  have h0 : K.RD (w.alloc (.cells (bs z32) 36)) T r a cap L s := RD_b h be0
  have g0 : (w.alloc (.cells (bs z32) 36)).heap[w.heap.size]? = some (.cells (bs z32) 36 (0, 0)) := heap_alloc_new _ _
  have hrl := h.lt
  have ON0 : K.On w (w.alloc (.cells (bs z32) 36)) T r a cap L s := ⟨h0, K.Fr.of_below be0⟩
  generalize hW : w.alloc (.cells (bs z32) 36) = W at *
  have HS : Hid (Calls Tryz.prog 104 #[.pointer (some ⟨r, 0, none⟩)] W fun e w' => e = .returned (.bool (decide (s.bad ≠ 0))) ∧ w' = W) := K.stopped_any W h0
  by_cases hb : s.bad = 0
  · rw [show decide (s.bad ≠ 0) = false by simp [hb]] at HS
    by_cases hk : s.k + 32 ≤ L.length
    · obtain ⟨x, hx⟩ : ∃ x, x = (L.drop s.k).take 32 := ⟨_, rfl⟩
      have hx32 : x.length = 32 := by rw [hx]; simp; omega
      have e0 : rHash L s = (x, ⟨s.k + 32, s.bad, s.wh⟩) := by unfold rHash; rw [if_pos hb, if_pos hk, hx]
      rw [e0]
      have HNx : Hid (Calls Tryz.prog 109 #[.pointer (some ⟨r, 0, none⟩), .int .i64 32] W fun e w' => e = .returned (.tuple #[.slice (K.from23 a cap s.k) 32 (cap - s.k), .bool true]) ∧ ∃ m, w' = W.drewN m) := K.next_ok 32 W h0 hk
      obtain ⟨b, off, rfl, hcell⟩ : ∃ b off, a = some ⟨b, off, none⟩ ∧ ∀ j, j < L.length → W.cell? ⟨b, off + j, none⟩ = some (.int .u8 (K.at8 L j)) := by
        rcases h0.byt with e | h
        · rw [e] at hk; simp at hk
        · exact h
      have hbr : b ≠ r := (h0.plain _ rfl).2
      have hbW : b < W.heap.size := block_lt_of_cell (hcell 0 (by omega))
      have hroom := h0.room
      have e1 : K.from23 (some ⟨b, off, none⟩) cap s.k = some ⟨b, off + s.k, none⟩ := by
        unfold K.from23
        rw [if_neg (by omega)]
        simp [Addr.add_mid]
      rw [e1] at HNx
      have HO : Hid (∀ m, K.On w ((W.drewN m).setCell ⟨r, 1, none⟩ (.int .i64 ((s.k : Int) + 32))) T r (some ⟨b, off, none⟩) cap L ⟨s.k + 32, s.bad, s.wh⟩) := fun m => (ON0.drew m).set1 (s.k + 32) _ (by omega) hk
      have HG : Hid (∀ m, ((W.drewN m).setCell ⟨r, 1, none⟩ (.int .i64 ((s.k : Int) + 32))).heap[w.heap.size]? = some (.cells (bs z32) 36 (0, 0))) := fun m => by
        have : ((W.drewN m).setCell ⟨r, 1, none⟩ (.int .i64 ((s.k : Int) + 32))).heap[w.heap.size]? = (W.drewN m).heap[w.heap.size]? := Below.heap_setCell _ _ _ _ (by show w.heap.size ≠ r; omega)
        rw [this]
        exact g0
      have HH : Hid (∀ m, Calls Tryz.prog 122 #[.slice (some ⟨b, off + s.k, none⟩) 32 (cap - s.k)] ((W.drewN m).setCell ⟨r, 1, none⟩ (.int .i64 ((s.k : Int) + 32))) fun e w' => e = .returned (.agg (bs x)) ∧ Below ((W.drewN m).setCell ⟨r, 1, none⟩ (.int .i64 ((s.k : Int) + 32))).heap.size ((W.drewN m).setCell ⟨r, 1, none⟩ (.int .i64 ((s.k : Int) + 32))) w') := fun m => (by
        have := hashOf_any b (off + s.k) 32 (cap - s.k) x ((W.drewN m).setCell ⟨r, 1, none⟩ (.int .i64 ((s.k : Int) + 32))) hx32 (Nat.le_refl _) (fun j hj => by
          rw [World.cell?_setCell_far _ ⟨r, 1, none⟩ _ _ (by show r ≠ b; omega)]
          show W.cell? _ = _
          rw [show off + s.k + j = off + (s.k + j) by omega, hcell _ (by omega), hx]
          unfold K.at8
          simp [List.getElem?_take, show j < 32 by omega]) (by rw [World.size_setCell]; exact hbW)
        rwa [List.take_of_length_le (by omega)] at this)
      have c1 := h0.c1
      have f1 := h0.fz 1
      have hf := h0.few
      have h9 : Hid (K.RD w T r (some ⟨b, off, none⟩) cap L s) := h
      have hWz : w.heap.size < W.heap.size := (Array.getElem?_eq_some_iff.1 g0).1
      clear h h0 e0 e1 g0 ON0 be0 hcell hx
      generalize cap - s.k = c4 at *
      generalize off + s.k = off4 at *
      go_enter Tryz.func79, Tryz.ntmps79
      go_wp2_with (first | (refine wpList_alloc_row rfl 36 rfl (bs z32) (hzH _) ?_; rw [hW]) | fail)
      refine HS.out.mono ?_
      rintro e w1 ⟨rfl, hw1⟩
      subst hw1
      go_wp2_with fail
      refine HNx.out.mono ?_
      rintro e w2 ⟨rfl, m, rfl⟩
      go_wp2_with fail
      refine (HH.out m).mono ?_
      rintro e w3 ⟨rfl, bl3⟩
      have on3 := on_below h9.out (HO.out m) bl3 (by rw [World.size_setCell]; show w.heap.size ≤ w1.heap.size; omega)
      have g3 : w3.heap[w.heap.size]? = some (.cells (bs z32) 36 (0, 0)) := by rw [bl3.block w.heap.size (by rw [World.size_setCell]; exact hWz)]; exact HG.out m
      have HO4 : Hid (K.On w (w3.setRow w.heap.size (bs x)) T r (some ⟨b, off, none⟩) cap L ⟨s.k + 32, s.bad, s.wh⟩) := on_below h9.out on3 (below_setRow _ _ _ _ (Nat.le_refl _)) (Nat.le_refl _)
      clear on3 bl3
      go_wp2_with (first
        | (refine wpList_store_row rfl 36 _ _ rfl w.heap.size (bs x) rfl rfl 36 (bs z32) g3 (by rw [bs_size, hx32]; exact hsH) (by rw [hzs, bs_size, hx32]) (bs_one _) ?_)
        | fail)
      exact bodyPost_ret (resRHash _ _ w.heap.size 36 x hx32 (0, 0) 2 rfl rfl (setRow_heap _ _ _ _ _ _ g3)) rfl ⟨rfl, HO4.out⟩
    · have e0 : rHash L s = (z32, ⟨s.k, 20, L.length⟩) := by unfold rHash; rw [if_pos hb, if_neg hk]
      rw [e0]
      have HNx : Hid (Calls Tryz.prog 109 #[.pointer (some ⟨r, 0, none⟩), .int .i64 32] W fun e w' => e = .returned (.tuple #[.slice none 0 0, .bool false]) ∧ K.On w w' T r a cap L ⟨s.k, 20, L.length⟩ ∧ w'.heap[w.heap.size]? = some (.cells (bs z32) 36 (0, 0))) := (K.next_no 32 W h0 hb hk (by decide)).mono fun e w' h => ⟨h.1, ⟨h.2.1, ON0.2.trans h.2.2⟩, by rw [h.2.2.block w.heap.size (Array.getElem?_eq_some_iff.1 g0).1 (by omega)]; exact g0⟩
      have h9 : Hid (K.RD w T r a cap L s) := h
      clear h h0 e0 g0 ON0 be0
      go_enter Tryz.func79, Tryz.ntmps79
      go_wp2_with (first | (refine wpList_alloc_row rfl 36 rfl (bs z32) (hzH _) ?_; rw [hW]) | fail)
      refine HS.out.mono ?_
      rintro e w1 ⟨rfl, hw1⟩
      subst hw1
      go_wp2_with fail
      refine HNx.out.mono ?_
      rintro e w2 ⟨rfl, on2, g2⟩
      have HO : Hid (K.On w (w2.setRow w.heap.size (bs z32)) T r a cap L ⟨s.k, 20, L.length⟩) := on_below h9.out on2 (below_setRow _ _ _ _ (Nat.le_refl _)) (Nat.le_refl _)
      clear on2
      go_wp2_with (first
        | (refine wpList_store_row rfl 36 _ _ rfl w.heap.size (bs z32) rfl rfl 36 (bs z32) g2 (by rw [hzs]; exact hsH) rfl (bs_one _) ?_)
        | fail)
      exact bodyPost_ret (resRHash _ _ w.heap.size 36 z32 z32_len (0, 0) 2 rfl rfl (setRow_heap _ _ _ _ _ _ g2)) rfl ⟨rfl, HO.out⟩
  · rw [show decide (s.bad ≠ 0) = true by simp [hb]] at HS
    have e0 : rHash L s = (z32, s) := by unfold rHash; rw [if_neg hb]
    rw [e0]
    have HO : Hid (K.On w (W.setRow w.heap.size (bs z32)) T r a cap L s) := on_below h ON0 (below_setRow _ _ _ _ (Nat.le_refl _)) (Nat.le_refl _)
    clear h h0 e0 ON0 be0
    go_enter Tryz.func79, Tryz.ntmps79
    go_wp2_with (first | (refine wpList_alloc_row rfl 36 rfl (bs z32) (hzH _) ?_; rw [hW]) | fail)
    refine HS.out.mono ?_
    rintro e w1 ⟨rfl, hw1⟩
    subst hw1
    go_wp2_with (first
      | (refine wpList_store_row rfl 36 _ _ rfl w.heap.size (bs z32) rfl rfl 36 (bs z32) g0 (by rw [hzs]; exact hsH) rfl (bs_one _) ?_)
      | fail)
    exact bodyPost_ret (resRHash _ _ w.heap.size 36 z32 z32_len (0, 0) 2 rfl rfl (setRow_heap _ _ _ _ _ _ g0)) rfl ⟨rfl, HO.out⟩
end Go.Proofs.YtdnocpngdepbgaaGreatDoor

namespace Go.Proofs.YtdnocpngdepbgaaGreatDoor
open Go.RowKit
set_option linter.unusedVariables false
set_option linter.unusedSimpArgs false

variable {T : TypeId} {r cap : Nat} {a : Option Addr} {L : List UInt8} {s : K.St}
/-- The hashes that stand at a place. -/
def dch (L : List UInt8) (o n : Nat) : List (List UInt8) := (List.range n).map (fun i => (L.drop (o + i * 32)).take 32)
theorem dch_len (L : List UInt8) (o n : Nat) : (dch L o n).length = n := by simp [dch]
theorem dch_get (L : List UInt8) (o n i : Nat) (hi : i < n) : (dch L o n)[i]? = some ((L.drop (o + i * 32)).take 32) := by simp [dch, hi]
theorem dch_32 (L : List UInt8) (o n : Nat) (h : o + n * 32 ≤ L.length) : All32 (dch L o n) := fun x hx => by
  simp only [dch, List.mem_map, List.mem_range] at hx
  obtain ⟨i, hi, rfl⟩ := hx
  simp
  omega
theorem dch_cat (L : List UInt8) (o : Nat) : ∀ n, o + n * 32 ≤ L.length → cat (dch L o n) = (L.drop o).take (n * 32)
  | 0, _ => by simp [dch, cat]
  | n + 1, h => by
    have ih := dch_cat L o n (by omega)
    have e : dch L o (n + 1) = dch L o n ++ [(L.drop (o + n * 32)).take 32] := by simp [dch, List.range_succ]
    rw [e]
    show (dch L o n ++ [(L.drop (o + n * 32)).take 32]).flatten = _
    rw [List.flatten_append]
    show cat (dch L o n) ++ _ = _
    rw [ih, show (n + 1) * 32 = n * 32 + 32 by omega, List.take_add, List.drop_drop]
    simp
/-- Neighbours that rise make a list that rises. -/
theorem srise_adj {D : List (List UInt8)} (h32 : All32 D) (h : ∀ j x y, D[j]? = some x → D[j + 1]? = some y → cmpL x y < 0) : SRise D := fun i j x y hx hy hij => by
  obtain ⟨d, rfl⟩ : ∃ d, j = i + 1 + d := ⟨j - i - 1, by omega⟩
  induction d generalizing y with
  | zero => exact h i x y hx hy
  | succ d ih =>
    have hlt : i + 1 + d < D.length := by have := (List.getElem?_eq_some_iff.1 hy).1; omega
    obtain ⟨z, hz⟩ : ∃ z, D[i + 1 + d]? = some z := ⟨_, List.getElem?_eq_getElem hlt⟩
    exact lt_trans (h32.get hx) (h32.get hz) (h32.get hy) (ih z hz (by omega)) (h (i + 1 + d) z y hz hy)
set_option maxRecDepth 100000 in
set_option maxHeartbeats 2000000 in
theorem rhashes_gen (most : Nat) (hm : most ≤ 9223372036854775807) (w : World) (h : K.RD w 108 r a cap L s) (hb : s.bad = 0) (n sz : Nat) (pl : Int) (hNum : K.num L s.k = ⟨n, sz, 0, pl⟩) (hDm : n ≤ most) (hfit : s.k + sz + n * 32 ≤ L.length) :
    Calls Tryz.prog 80 #[.pointer (some ⟨r, 0, none⟩), .int .i64 (most : Int)] w fun e w' => (∃ q, e = .returned (.slice (some ⟨q, 0, none⟩) n n) ∧ w.heap.size ≤ q ∧ q < w'.heap.size ∧ Hs w' q 0 (dch L (s.k + sz) n) ∧ SRise (dch L (s.k + sz) n) ∧ K.On w w' 108 r a cap L ⟨s.k + sz + n * 32, s.bad, s.wh⟩) ∨ (e = .returned (.slice none 0 0) ∧ K.Flt w w' 108 r a cap L s) := by
  obtain ⟨D, hDd⟩ : ∃ D, D = dch L (s.k + sz) n := ⟨_, rfl⟩
  have hD : All32 D := by rw [hDd]; exact dch_32 _ _ _ hfit
  have HN : Hid (n = D.length) := by show _ = _; rw [hDd, dch_len]
  have HB : Hid (∀ k x, D[k]? = some x → ((L.drop (s.k + sz + k * 32)).take 32) = x) := fun k x hx => by
    have hk : k < n := by have := (List.getElem?_eq_some_iff.1 hx).1; rw [← HN.out] at this; exact this
    rw [hDd, dch_get _ _ _ _ hk] at hx
    exact Option.some.inj hx
  rw [← hDd]
  clear hDd
  have hfw := h.few
  have HF : Hid (s.k + sz + n * 32 ≤ L.length) := hfit
  have hnb : n ≤ 4398046510976 := by omega
  have HC : Hid (Calls Tryz.prog 107 #[.pointer (some ⟨r, 0, none⟩), .int .i64 (most : Int), .int .i64 32] w fun e w' => e = .returned (.tuple #[.slice (K.from23 a cap (s.k + sz)) (n * 32) (cap - (s.k + sz)), .int .i64 (sz : Int), .bool true]) ∧ K.On w w' 108 r a cap L s) := counted32 most hm w h hb n sz _ hNum hDm hfit
  have HSt : Hid (Calls Tryz.prog 104 #[.pointer (some ⟨r, 0, none⟩)] w fun e w' => e = .returned (.bool false) ∧ w' = w) := (by
    have := K.stopped_any w h
    rw [show decide (s.bad ≠ 0) = false by simp [hb]] at this
    exact this)
  have HR : Hid (K.RD w 108 r a cap L s) := h
  have hsk : s.k ≤ L.length := h.at_le
  clear h hNum
  have hmk := make_hashes n (by omega)
  have tq : Int.tdiv (((n * 32 : Nat) : Int)) 32 = (n : Int) := by rw [Int.tdiv_eq_ediv_of_nonneg (by omega)]; omega
  go_enter Tryz.func80, Tryz.ntmps80
  go_wp2_with fail
  refine HSt.out.mono ?_
  rintro e w0 ⟨rfl, rfl⟩
  go_wp2_with fail
  refine HC.out.mono ?_
  rintro e w1 ⟨rfl, on1⟩
  have HO1 : Hid (K.On w0 w1 108 r a cap L s) := on1
  clear on1 HC HSt
  have HLN : Hid (n * 32 = n * 32) := rfl
  obtain ⟨n32, hn32⟩ : ∃ n32, n32 = n * 32 := ⟨_, rfl⟩
  rw [← hn32] at hfit tq ⊢
  have HN32 : Hid (n32 = n * 32) := hn32
  clear hn32 HLN
  have HS0 : Hid (Hs (w1.alloc (.cells (madeCells (bs z32) (n * 32)) 36)) w1.heap.size 0 (part D n 0)) := (by rw [part_zero]; exact hs_made w1 n 36 : Hs (w1.alloc (.cells (madeCells (bs z32) (n * 32)) 36)) w1.heap.size 0 (part D n 0))
  have HT0 : Hid ((w1.alloc (.cells (madeCells (bs z32) (n * 32)) 36)).there w1.heap.size 0 (32 * n)) := there_made w1 n 36
  have HA0 : Hid (K.On w0 (w1.alloc (.cells (madeCells (bs z32) (n * 32)) 36)) 108 r a cap L s) := on_below HR.out HO1.out ((Below.refl _ _).alloc (Nat.le_refl _) _) HO1.out.2.size
  have hq0 : w0.heap.size ≤ w1.heap.size := HO1.out.2.size
  go_wp2
  go_loopw [29] (fun i wr => ∃ k : Nat, k ≤ n ∧ i = .int .i64 k ∧ Hid (Hs wr w1.heap.size 0 (part D n k)) ∧ Hid (wr.there w1.heap.size 0 (32 * n)) ∧ Hid (K.On w0 wr 108 r a cap L s) ∧ w1.heap.size < wr.heap.size ∧ Hid (∀ j x y, j + 1 < k → D[j]? = some x → D[j + 1]? = some y → cmpL x y < 0)) (fun i _ => n - (intOf i).toNat)
  case atStart => exact ⟨0, by omega, rfl, HS0, HT0, HA0, by simp, fun j x y h => by omega⟩
  case round =>
    obtain ⟨k, hk, rfl, HSr, HTr, HOr, hqr, HAdj⟩ := hrel
    by_cases hkn : k < n
    · have h32 := HN32.out
      have hkD : k < D.length := by rw [← HN.out]; exact hkn
      obtain ⟨x, hx⟩ : ∃ x, D[k]? = some x := ⟨_, List.getElem?_eq_getElem hkD⟩
      have hx32 := hD.get hx
      have HCut : Hid (((L.drop (s.k + sz + k * 32)).take 32) = x) := HB.out k x hx
      obtain ⟨b, off, rfl, hcell⟩ : ∃ b off, a = some ⟨b, off, none⟩ ∧ ∀ j, j < L.length → wr.cell? ⟨b, off + j, none⟩ = some (.int .u8 (K.at8 L j)) := by
        rcases HOr.out.1.byt with e | h
        · have := HF.out; rw [e] at this; simp at this; omega
        · exact h
      have hroom := HOr.out.1.room
      have hfit2 := HF.out
      have e1 : K.from23 (K.from23 (some ⟨b, off, none⟩) cap (s.k + sz)) (cap - (s.k + sz)) (k * 32) = some ⟨b, off + (s.k + sz) + k * 32, none⟩ := by
        unfold K.from23
        rw [if_neg (by omega), if_neg (by omega)]
        simp [Addr.add_mid]
      have sl1 := fun wx => K.sl_from (K.from23 (some ⟨b, off, none⟩) cap (s.k + sz)) n32 (cap - (s.k + sz)) (k * 32) ((k : Int) * 32) (by omega) (by omega) wx
      have sl2 := fun wx => K.sl_from' (K.from23 (some ⟨b, off, none⟩) cap (s.k + sz)) n32 (cap - (s.k + sz)) (k * 32) ((k : Int) * 32) (by omega) (by omega) wx
      rw [e1] at sl1 sl2
      have HH : Hid (Calls Tryz.prog 122 #[.slice (some ⟨b, off + (s.k + sz) + k * 32, none⟩) (n32 - k * 32) (cap - (s.k + sz) - k * 32)] wr fun e w' => e = .returned (.agg (bs x)) ∧ Below wr.heap.size wr w') := (by
        have h1 : ((L.drop (s.k + sz + k * 32)).take (n32 - k * 32)).length = n32 - k * 32 := by rw [List.length_take, List.length_drop]; omega
        have hbl : b < wr.heap.size := block_lt_of_cell (hcell 0 (by omega))
        have := hashOf_any b (off + (s.k + sz) + k * 32) (n32 - k * 32) (cap - (s.k + sz) - k * 32) ((L.drop (s.k + sz + k * 32)).take (n32 - k * 32)) wr h1 (by omega) (fun j hj => by
          rw [h1] at hj
          rw [show off + (s.k + sz) + k * 32 + j = off + (s.k + sz + k * 32 + j) by omega, hcell _ (by omega)]
          unfold K.at8
          simp [List.getElem?_take, hj]) hbl
        rw [List.take_take, show min 32 (n32 - k * 32) = 32 by omega, HCut.out] at this
        exact this)
      have ix1 := fun wx => indexH w1.heap.size 0 n n k wx hkn
      simp only [Nat.zero_add] at ix1
      clear HCut hcell e1 hroom hfit2
      generalize off + (s.k + sz) + k * 32 = off4 at *
      generalize n32 - k * 32 = n4 at *
      generalize cap - (s.k + sz) - k * 32 = cap4 at *
      generalize hq : w1.heap.size = q at *
      have hzr : Hid (w0.heap.size ≤ q) := hq0
      clear h32 hq
      go_wp2_with fail
      refine HH.out.mono ?_
      rintro e w2 ⟨rfl, bl2⟩
      have HT2 : Hid (w2.there q 0 (32 * n)) := there_below HTr.out bl2 hqr
      have HTH : Hid (w2.there q (32 * k) 32) := (by have := there_part (m := 32) (i := 32 * k) HT2.out (by omega); rwa [Nat.zero_add] at this : w2.there q (32 * k) 32)
      have hPL : D.length = n := HN.out.symm
      have HX : Hid (Hs (w2.setCells q (32 * k) (hcs x)) q 0 (part D n (k + 1))) := (by
        have := Hs.set (HSr.out.below bl2 hqr) (all32_part hD _ _) k x hx32 (by rw [part_len _ _ _ (by omega) hPL]; omega) (there_part HT2.out (by omega))
        rw [Nat.zero_add] at this
        rwa [part_set _ _ _ (by omega) hPL x hx] at this : Hs (w2.setCells q (32 * k) (hcs x)) q 0 (part D n (k + 1)))
      have HT3 : Hid ((w2.setCells q (32 * k) (hcs x)).there q 0 (32 * n)) := World.there_setCells HT2.out _ _ _
      have HO3 : Hid (K.On w0 (w2.setCells q (32 * k) (hcs x)) 108 r (some ⟨b, off, none⟩) cap L s) := on_below HR.out (on_below HR.out HOr.out bl2 HOr.out.2.size) (below_setCells (Below.refl _ _) (Nat.le_refl q) _ _) hzr.out
      have hq3 : q < (w2.setCells q (32 * k) (hcs x)).heap.size := by rw [size_setCells]; have := bl2.size; omega
      clear hPL bl2 HT2 HSr HTr HOr hqr HH sl1 sl2
      go_wp2_with (first
        | (refine wpList_store_mid rfl 36 _ _ rfl q (32 * k) (bs x) rfl rfl (by rw [bs_size, hx32]; exact HTH.out) (by rw [bs_size, hx32]; exact hsH) (bs_one _) ?_)
        | fail)
      change Code.wp _ _ _ _ (w2.setCells q (32 * k) (hcs x))
      simp only [Act.put]
      generalize w2.setCells q (32 * k) (hcs x) = w3 at *
      clear HTH
      by_cases hk0 : k = 0
      · have gk : decide (0 < k) = false := by simp; omega
        have HK1 : Hid (∀ j x y, j + 1 < k + 1 → D[j]? = some x → D[j + 1]? = some y → cmpL x y < 0) := fun j x y hj => by omega
        clear hk0
        have hne : Nonempty (ExtT w3) := ExtT.some w3
        refine wp_region_ext (by kernel_rfl) (by kernel_rfl) ?_
        repeat (go_big_quiet_step (fail))
        refine wpQuiet_nil ?_
        rintro w4 ⟨⟨_, bl4⟩, rfl⟩
        have A1 : Hid (Hs w4 q 0 (part D n (k + 1))) := HX.out.below bl4 hq3
        have A2 : Hid (w4.there q 0 (32 * n)) := there_below HT3.out bl4 hq3
        have A3 : Hid (K.On w0 w4 108 r (some ⟨b, off, none⟩) cap L s) := on_below HR.out HO3.out bl4 HO3.out.2.size
        have A4 : q < w4.heap.size := by have := bl4.size; omega
        clear bl4 hne HX HT3 HO3 hq3 gk
        go_wp2
        exact ⟨⟨k + 1, by omega, by go_num, A1, A2, A3, A4, fun j x y hj => HK1.out j x y hj⟩, by simp [intOf]; omega⟩
      · obtain ⟨p, hp⟩ : ∃ p, D[k - 1]? = some p := ⟨_, List.getElem?_eq_getElem (by omega)⟩
        have hp32 := hD.get hp
        have HCm : Hid (∀ wx, Calls Tryz.prog 116 #[.agg (bs p), .agg (bs x)] wx fun e w' => e = .returned (.int .i64 (cmpL p x)) ∧ Below wx.heap.size wx w') := fun wx => cmp_any p x hp32 hx32 wx
        have hpt : ∀ i y, i < k + 1 → D[i]? = some y → (part D n (k + 1))[i]? = some y := fun i y hi hy => by
          unfold part
          rw [List.getElem?_append_left (by rw [List.length_take]; have := (List.getElem?_eq_some_iff.1 hy).1; omega), List.getElem?_take, if_pos hi]
          exact hy
        have S1 : Hid (w3.rangeAt q (32 * (k - 1)) (hcs p)) := (by have := HX.out (k - 1) p (hpt _ _ (by omega) hp); rwa [Nat.zero_add] at this : w3.rangeAt q (32 * (k - 1)) (hcs p))
        have S2 : Hid (w3.rangeAt q (32 * k) (hcs x)) := (by have := HX.out k x (hpt _ _ (by omega) hx); rwa [Nat.zero_add] at this : w3.rangeAt q (32 * k) (hcs x))
        have ix2 : ∀ wx, (Instr.indexAt 37 (.slice (some ⟨q, 0, none⟩) n n) (.int .i64 ((k : Int) - 1))).run Tryz.prog wx = .ok (.pointer (some ⟨q, 32 * (k - 1), none⟩)) wx := fun wx => (by
          have := indexH q 0 n n (k - 1) wx (by omega)
          rwa [Nat.zero_add, show ((k - 1 : Nat) : Int) = (k : Int) - 1 by omega] at this)
        have wk : IntKind.i64.wrap ((k : Int) - 1) = (k : Int) - 1 := by simp only [IntKind.wrap, IntKind.bits, IntKind.signed]; simp; omega
        have wk2 : wrap64 ((k : Int) - 1) = (k : Int) - 1 := (by unfold wrap64; omega)
        have gk : 0 < k := by omega
        by_cases hcl : cmpL p x < 0
        · have HK1 : Hid (∀ j x y, j + 1 < k + 1 → D[j]? = some x → D[j + 1]? = some y → cmpL x y < 0) := fun j u v hj hu hv => by
            by_cases ej : j + 1 = k
            · rw [show j = k - 1 by omega, hp] at hu
              rw [ej, hx] at hv
              cases hu
              cases hv
              exact hcl
            · exact HAdj.out j u v (by omega) hu hv
          generalize cmpL p x = c at *
          have gc : ¬ (0 : Int) ≤ c := by omega
          clear hpt hx hp hcl hk0
          have hne : Nonempty (ExtT w3) := ExtT.some w3
          refine wp_region_ext (by kernel_rfl) (by kernel_rfl) ?_
          repeat (first
            | (go_big_quiet_want; refine quiet_load_mid 36 _ rfl q (32 * (k - 1)) rfl (bs p) _ (by rintro _ ⟨e, rfl⟩; exact e.range S1.out (hcs_pos hp32)) Tryz.underlying36 rfl (sizeH hp32) ?_; simp only [Act.put, List.setIfInBounds_toArray, List.set_cons_zero, List.set_cons_succ]; go_big_quiet_on)
            | (go_big_quiet_want; refine quiet_load_mid 36 _ rfl q (32 * k) rfl (bs x) _ (by rintro _ ⟨e, rfl⟩; exact e.range S2.out (hcs_pos hx32)) Tryz.underlying36 rfl (sizeH hx32) ?_; simp only [Act.put, List.setIfInBounds_toArray, List.set_cons_zero, List.set_cons_succ]; go_big_quiet_on)
            | go_big_quiet_step (first | (go_at_call 116; exact ext_of (HCm.out _)) | fail))
          refine wpQuiet_nil ?_
          rintro w4 ⟨⟨_, bl4⟩, rfl⟩
          have A1 : Hid (Hs w4 q 0 (part D n (k + 1))) := HX.out.below bl4 hq3
          have A2 : Hid (w4.there q 0 (32 * n)) := there_below HT3.out bl4 hq3
          have A3 : Hid (K.On w0 w4 108 r (some ⟨b, off, none⟩) cap L s) := on_below HR.out HO3.out bl4 HO3.out.2.size
          have A4 : q < w4.heap.size := by have := bl4.size; omega
          clear bl4 hne HX HT3 HO3 hq3 wk wk2 S1 S2 HCm ix2
          go_wp2
          exact ⟨⟨k + 1, by omega, by go_num, A1, A2, A3, A4, fun j x y hj => HK1.out j x y hj⟩, by simp [intOf]; omega⟩
        · have hcl : ¬ cmpL p x < 0 := hcl
          generalize cmpL p x = c at *
          have gc : (0 : Int) ≤ c := by omega
          clear hpt hx hp hcl hk0
          have hne : Nonempty (ExtT w3) := ExtT.some w3
          refine wp_region_ext (by kernel_rfl) (by kernel_rfl) ?_
          repeat (first
            | (go_big_quiet_want; refine quiet_load_mid 36 _ rfl q (32 * (k - 1)) rfl (bs p) _ (by rintro _ ⟨e, rfl⟩; exact e.range S1.out (hcs_pos hp32)) Tryz.underlying36 rfl (sizeH hp32) ?_; simp only [Act.put, List.setIfInBounds_toArray, List.set_cons_zero, List.set_cons_succ]; go_big_quiet_on)
            | (go_big_quiet_want; refine quiet_load_mid 36 _ rfl q (32 * k) rfl (bs x) _ (by rintro _ ⟨e, rfl⟩; exact e.range S2.out (hcs_pos hx32)) Tryz.underlying36 rfl (sizeH hx32) ?_; simp only [Act.put, List.setIfInBounds_toArray, List.set_cons_zero, List.set_cons_succ]; go_big_quiet_on)
            | go_big_quiet_step (first | (go_at_call 116; exact ext_of (HCm.out _)) | fail))
          refine wpQuiet_nil ?_
          rintro w4 ⟨⟨_, bl4⟩, rfl⟩
          have A3 : Hid (K.On w0 w4 108 r (some ⟨b, off, none⟩) cap L s) := on_below HR.out HO3.out bl4 HO3.out.2.size
          have c1 := A3.out.1.c1
          have HKp := K.Hid.mk' (K.keep_on (a := some ⟨b, off, none⟩) (cap := cap) (L := L) (T := 108) (r := r) w0 hb 21 ((s.k : Int) + (sz : Int) + (k : Int) * 32) (by decide))
          have hfit3 := HF.out
          have hw1 : IntKind.i64.wrap ((s.k : Int) + (sz : Int)) = (s.k : Int) + (sz : Int) := by rw [IntKind.wrap_i64]; omega
          have hw2 : IntKind.i64.wrap ((k : Int) * 32) = (k : Int) * 32 := by rw [IntKind.wrap_i64]; omega
          have hw3 : IntKind.i64.wrap ((s.k : Int) + (sz : Int) + (k : Int) * 32) = (s.k : Int) + (sz : Int) + (k : Int) * 32 := by rw [IntKind.wrap_i64]; omega
          clear bl4 hne HX HT3 HO3 hq3 wk wk2 S1 S2 HCm ix2 hfit3
          go_wp2
          go_region_held3 (fun w' => w'.cell? ⟨r, 1, none⟩ = some (.int .i64 (s.k : Int))) (first | assumption | go_keep) (first
            | (go_at_call 106; refine (HKp.out _ ?_).mono ?_; (first | exact A3.out | exact A3.out.drew _ | exact (A3.out.drew _).drew 1); rintro e w5 ⟨rfl, ho⟩; have s1 := ho.1.c1; have HO2 := K.Hid.mk' ho; clear ho)
            | fail)
          go_wp2
          go_ret
          exact .inr ⟨rfl, K.flt_mk HO2.out (by decide)⟩
    · obtain rfl : k = n := by omega
      have c1 := HOr.out.1.c1
      have fz := HOr.out.1.fz 1
      have HE : Hid (Hs wr w1.heap.size 0 D) := (by have := HSr.out; rwa [part_all D k HN.out.symm] at this : Hs wr w1.heap.size 0 D)
      have HSR : Hid (SRise D) := srise_adj hD (fun j x y hx hy => HAdj.out j x y (by have := (List.getElem?_eq_some_iff.1 hy).1; rw [← HN.out] at this; omega) hx hy)
      have h32 := HN32.out
      have hfit3 := HF.out
      have HO9 : Hid (K.On w0 (wr.setCell ⟨r, 1, none⟩ (.int .i64 ((s.k : Int) + ((sz : Int) + (n32 : Int))))) 108 r a cap L ⟨s.k + sz + k * 32, s.bad, s.wh⟩) := HOr.out.set1 (s.k + sz + k * 32) _ (by omega) (by omega)
      have hrq : r ≠ w1.heap.size := by have := HR.out.lt; omega
      have HE9 : Hid (Hs (wr.setCell ⟨r, 1, none⟩ (.int .i64 ((s.k : Int) + ((sz : Int) + (n32 : Int))))) w1.heap.size 0 D) := fun i x e j v hv => (World.cell?_setCell_far wr ⟨r, 1, none⟩ _ _ hrq).trans (HE.out i x e j v hv)
      have hz9 : w1.heap.size < (wr.setCell ⟨r, 1, none⟩ (.int .i64 ((s.k : Int) + ((sz : Int) + (n32 : Int))))).heap.size := by rw [World.size_setCell]; exact hqr
      have hn32b : n32 ≤ 140737488351232 := by omega
      have hszb : sz ≤ 140737488351232 := by omega
      clear HE HTr HSr HOr h32 hfit3
      go_wp2
      go_ret
      exact .inl ⟨_, rfl, hq0, hz9, HE9.out, HSR.out, HO9.out⟩
end Go.Proofs.YtdnocpngdepbgaaGreatDoor

namespace Go.Proofs.YtdnocpngdepbgaaGreatDoor.K
open Go.RowKit
set_option linter.unusedVariables false
set_option linter.unusedSimpArgs false

theorem conv_str (s : ByteArray) (w : World) : ∃ cap C fr, (convert 9 25 (.string s)).run Tryz.prog w = .ok (.slice (some ⟨w.heap.size, 0, none⟩) s.size cap) (w.drew.alloc (.cells C 5 fr)) ∧ ∀ j, j < s.size → C[j]? = some (.int .u8 (at8 s.data.toList j)) := by
  refine ⟨_, _, _, run_bytes_of_string w 9 25 5 s Tryz.underlying9 Tryz.underlying25 Tryz.underlying5, fun j hj => ?_⟩
  unfold bytesRow
  have hj' : j < s.data.size := hj
  rw [Array.getElem?_append_left (by simpa using hj')]
  simp only [at8, Array.getElem?_map]
  rw [List.getD_eq_getElem?_getD, Array.getElem?_toList, Array.getElem?_eq_getElem hj']
  rfl
theorem FrW.byt {p : Nat} {g : Option Nat} {w w' : World} (h : FrW p g w w') {a : Option Addr} {l : List UInt8} (hp : ∀ ad, a = some ad → ad.block ≠ p ∧ some ad.block ≠ g) (hb : Byt w a l) : Byt w' a l := by
  rcases hb with rfl | ⟨b, off, rfl, hc⟩
  · exact .inl rfl
  · refine .inr ⟨b, off, rfl, fun j hj => ?_⟩
    have hcj := hc j hj
    have hlt := block_lt_of_cell hcj
    obtain ⟨h1, h2⟩ := hp _ rfl
    have e : w'.cell? ⟨b, off + j, none⟩ = w.cell? ⟨b, off + j, none⟩ := by
      unfold World.cell?
      rw [h.block b hlt h1 h2]
    rw [e, hcj]
variable {p : Nat} {g : Option Nat} {M : List UInt8} {e : Int}
theorem sep_nw {a : Option Addr} {w w' : World} {l : List UInt8} {p : Nat} {g g1 : Option Nat} (hp : ∀ ad, a = some ad → ad.block ≠ p ∧ some ad.block ≠ g) (hlt : ∀ ad, a = some ad → ad.block < w.heap.size) (nw : Nw g g1 w.heap.size) : ∀ ad, a = some ad → ad.block ≠ p ∧ some ad.block ≠ g1 := fun ad e => ⟨(hp ad e).1, by
  rcases nw with h | ⟨k, h, hk⟩
  · rw [h]; exact (hp ad e).2
  · rw [h]; intro h2; have := hlt ad e; cases h2; omega⟩
set_option maxRecDepth 100000 in
set_option maxHeartbeats 1000000 in
theorem wraw_any (B : List UInt8) (a : Option Addr) (len cap : Nat) (w : World) (hw : WS w 28 p g M e) (hlen : B.length = len) (hb : Byt w a B) (hp : ∀ ad, a = some ad → ad.block ≠ p ∧ some ad.block ≠ g) (hlt : ∀ ad, a = some ad → ad.block < w.heap.size) (hsum : M.length + 64 + B.length ≤ 140737488355328) :
    Calls Tryz.prog 38 #[.pointer (some ⟨p, 0, none⟩), .slice a len cap] w fun x w' => x = .returned (.tuple #[]) ∧ Wr w w' 28 p g (wA M e (vint len ++ B)) e := by
  have h10 := vint_10 len (by omega)
  have H1 := Hid.mk' (wuint_any len (by omega) w hw (by omega))
  have H2 : Hid (∀ wx, Wr w wx 28 p g (wA M e (vint len)) e → Calls Tryz.prog 55 #[.pointer (some ⟨p, 0, none⟩), .slice a len cap] wx fun x w' => x = .returned (.tuple #[]) ∧ Wr w w' 28 p g (wA M e (vint len ++ B)) e) := fun wx hx => by
    obtain ⟨g1, ws, fr, nw⟩ := hx
    refine (add_any B a len cap wx ws hlen (fr.byt hp hb) (by have := wA_len M e (vint len); omega)).mono fun x w' h => ?_
    rw [wA_wA] at h
    exact ⟨h.1, Wr.step fr nw h.2⟩
  have hl2 : (len : Int) < 18446744073709551616 := by omega
  clear hw hb hp hlt
  go_enter Tryz.func38, Tryz.ntmps38
  go_wp2_with fail
  refine H1.out.mono ?_
  rintro x w1 ⟨rfl, a1⟩
  have A1 := Hid.mk' a1
  clear a1
  go_wp2_with fail
  refine (H2.out _ A1.out).mono ?_
  rintro x w2 ⟨rfl, a2⟩
  have A2 := Hid.mk' a2
  clear a2
  go_wp2
  go_end0
  exact ⟨rfl, A2.out⟩
end Go.Proofs.YtdnocpngdepbgaaGreatDoor.K

namespace Go.Proofs.YtdnocpngdepbgaaGreatDoor.K

theorem cmp_congr {a b c d : Int} (h1 : a < b ↔ c < d) (h2 : a = b ↔ c = d) : compare a b = compare c d := by
  simp only [compare, compareOfLessAndEq, h1, h2]

/-- The magnitude of a rung, in units of the least place. -/
def fval (r : Nat) : Nat := if r < 2 ^ 52 then r else (2 ^ 52 + r % 2 ^ 52) * 2 ^ (r / 2 ^ 52 - 1)
theorem fval_step (r : Nat) : fval r < fval (r + 1) := by
  unfold fval
  by_cases h : r + 1 < 2 ^ 52
  · rw [if_pos (by omega), if_pos h]; omega
  · by_cases h2 : r < 2 ^ 52
    · rw [if_pos h2, if_neg h]
      have e : r + 1 = 2 ^ 52 := by omega
      rw [e]
      have e2 : (2 ^ 52 + 2 ^ 52 % 2 ^ 52) * 2 ^ (2 ^ 52 / 2 ^ 52 - 1) = 2 ^ 52 := by decide
      rw [e2]
      omega
    · rw [if_neg h2, if_neg h]
      by_cases h3 : r % 2 ^ 52 + 1 < 2 ^ 52
      · have e1 : (r + 1) % 2 ^ 52 = r % 2 ^ 52 + 1 := by omega
        have e2 : (r + 1) / 2 ^ 52 = r / 2 ^ 52 := by omega
        rw [e1, e2]
        exact Nat.mul_lt_mul_of_pos_right (by omega) (Nat.two_pow_pos _)
      · have e1 : (r + 1) % 2 ^ 52 = 0 := by omega
        have e2 : (r + 1) / 2 ^ 52 - 1 = (r / 2 ^ 52 - 1) + 1 := by omega
        rw [e1, e2]
        generalize r / 2 ^ 52 - 1 = k
        rw [Nat.pow_succ 2 k, Nat.mul_comm (2 ^ k) 2, ← Nat.mul_assoc]
        exact Nat.mul_lt_mul_of_pos_right (by omega) (Nat.two_pow_pos _)
theorem fval_lt {r s : Nat} (h : r < s) : fval r < fval s := by
  induction s with
  | zero => omega
  | succ s ih =>
    rcases Nat.lt_or_ge r s with h1 | h1
    · exact Nat.lt_trans (ih h1) (fval_step s)
    · have : r = s := by omega
      subst this
      exact fval_step r
theorem fval_lt_iff (r s : Nat) : fval r < fval s ↔ r < s := by
  constructor
  · intro h
    rcases Nat.lt_or_ge r s with h1 | h1
    · exact h1
    · rcases Nat.eq_or_lt_of_le h1 with h2 | h2
      · subst h2; omega
      · have := fval_lt h2; omega
  · exact fval_lt
theorem fval_inj (r s : Nat) : fval r = fval s ↔ r = s := by
  have := fval_lt_iff r s
  have := fval_lt_iff s r
  omega
theorem fval_zero : fval 0 = 0 := rfl

/-- A float's place among all finite ones. -/
def fkey (x : Nat) : Int := if x / 2 ^ 63 % 2 = 1 then -((x % 2 ^ 63 : Nat) : Int) else ((x % 2 ^ 63 : Nat) : Int)
def ffin (x : Nat) : Prop := x % 2 ^ 63 < 2047 * 2 ^ 52
def fplace (r : Nat) : Nat := if r < 2 ^ 52 then 0 else r / 2 ^ 52 - 1
def fmag (r : Nat) : Nat := if r < 2 ^ 52 then r else 2 ^ 52 + r % 2 ^ 52
theorem fval_eq (r : Nat) : fval r = fmag r * 2 ^ fplace r := by
  unfold fval fmag fplace
  split <;> simp
theorem fread (x : Nat) (h : ffin x) : Ieee.double.read x = .number (x / 2 ^ 63 % 2 == 1) (fmag (x % 2 ^ 63)) (Ieee.double.leastPlace + (fplace (x % 2 ^ 63) : Nat)) := by
  unfold ffin at h
  have e1 : Ieee.double.signWeight = 2 ^ 63 := rfl
  have e2 : Ieee.double.binade = 2 ^ 52 := rfl
  have e3 : Ieee.double.infRung = 2047 * 2 ^ 52 := rfl
  unfold Ieee.Format.read fmag fplace
  rw [e1, e2, e3]
  by_cases h1 : x % 2 ^ 63 < 2 ^ 52
  · simp only [if_pos h1]; simp
  · simp only [if_neg h1, if_pos h]
theorem forder (x y : Nat) (hx : ffin x) (hy : ffin y) : Ieee.double.order x y = some (compare (fkey x) (fkey y)) := by
  unfold Ieee.Format.order
  rw [fread x hx, fread y hy]
  unfold fkey
  generalize x % 2 ^ 63 = r
  generalize y % 2 ^ 63 = s
  simp only [Ieee.Datum.order]
  refine congrArg some ?_
  have hr := fval_eq r
  have hs := fval_eq s
  have key : ∃ c : Nat, 0 < c ∧ fval r = fmag r * 2 ^ (Ieee.double.leastPlace + (fplace r : Int) - min (Ieee.double.leastPlace + (fplace r : Int)) (Ieee.double.leastPlace + (fplace s : Int))).toNat * c ∧ fval s = fmag s * 2 ^ (Ieee.double.leastPlace + (fplace s : Int) - min (Ieee.double.leastPlace + (fplace r : Int)) (Ieee.double.leastPlace + (fplace s : Int))).toNat * c := by
    refine ⟨2 ^ min (fplace r) (fplace s), Nat.two_pow_pos _, ?_, ?_⟩
    · rw [hr, Nat.mul_assoc, ← Nat.pow_add]; congr 2; omega
    · rw [hs, Nat.mul_assoc, ← Nat.pow_add]; congr 2; omega
  obtain ⟨c, hc, k1, k2⟩ := key
  simp only [Ieee.signed, Nat.shiftLeft_eq]
  generalize fmag r * 2 ^ (Ieee.double.leastPlace + (fplace r : Int) - min (Ieee.double.leastPlace + (fplace r : Int)) (Ieee.double.leastPlace + (fplace s : Int))).toNat = A at *
  generalize fmag s * 2 ^ (Ieee.double.leastPlace + (fplace s : Int) - min (Ieee.double.leastPlace + (fplace r : Int)) (Ieee.double.leastPlace + (fplace s : Int))).toNat = B at *
  have a1 : A < B ↔ r < s := by rw [← fval_lt_iff r s, k1, k2]; exact (Nat.mul_lt_mul_right hc).symm
  have a2 : B < A ↔ s < r := by rw [← fval_lt_iff s r, k1, k2]; exact (Nat.mul_lt_mul_right hc).symm
  have a3 : A = 0 ↔ r = 0 := by
    have := fval_inj r 0
    rw [fval_zero, k1] at this
    rw [← this, Nat.mul_eq_zero]
    omega
  have a4 : B = 0 ↔ s = 0 := by
    have := fval_inj s 0
    rw [fval_zero, k2] at this
    rw [← this, Nat.mul_eq_zero]
    omega
  clear k1 k2 hr hs
  by_cases p : x / 2 ^ 63 % 2 = 1 <;> by_cases q : y / 2 ^ 63 % 2 = 1 <;> simp only [p, q, beq_self_eq_true, if_true, if_false, beq_iff_eq] <;> exact cmp_congr (by omega) (by omega)
end Go.Proofs.YtdnocpngdepbgaaGreatDoor.K

namespace Go.Proofs.YtdnocpngdepbgaaGreatDoor.K
open Go.RowKit
set_option linter.unusedVariables false
set_option linter.unusedSimpArgs false

set_option maxRecDepth 100000 in
set_option maxHeartbeats 400000 in
theorem isnan_any (f : Nat) (w : World) :
    Calls Tryz.prog 130 #[.float .f64 f] w fun e w' => e = .returned (.bool (Ieee.double.order f f != some .eq)) ∧ w' = w := by
  go_enter Tryz.func130, Tryz.ntmps130
  go_wp2
  go_ret
  exact ⟨rfl, rfl⟩
set_option maxRecDepth 100000 in
set_option maxHeartbeats 400000 in
theorem abs_any (f r : Nat) (w : World) (hr : bits .andNot .u64 (f : Int) 9223372036854775808 = (r : Int)) :
    Calls Tryz.prog 137 #[.float .f64 f] w fun e w' => e = .returned (.float .f64 r) ∧ w' = w := by
  go_enter Tryz.func137, Tryz.ntmps137
  go_wp2
  go_ret
  exact ⟨rfl, rfl⟩
set_option maxRecDepth 100000 in
set_option maxHeartbeats 400000 in
theorem isinf_any (f r : Nat) (w : World) (hr : bits .andNot .u64 (f : Int) 9223372036854775808 = (r : Int)) :
    Calls Tryz.prog 131 #[.float .f64 f, .int .i64 0] w fun e w' => e = .returned (.bool (Ieee.double.order r 9218868437227405311 == some .gt)) ∧ w' = w := by
  have H := abs_any f r w hr
  clear hr
  go_enter Tryz.func131, Tryz.ntmps131
  go_wp2_with fail
  refine H.mono ?_
  rintro e _ ⟨rfl, rfl⟩
  go_wp2
  go_ret
  exact ⟨rfl, rfl⟩
set_option maxRecDepth 100000 in
set_option maxHeartbeats 400000 in
theorem sign_any (f : Nat) (w : World) (hf : f < 18446744073709551616) :
    Calls Tryz.prog 112 #[.float .f64 f] w fun e w' => e = .returned (.bool (decide (9223372036854775808 ≤ f))) ∧ w' = w := by
  go_enter Tryz.func112, Tryz.ntmps112
  go_wp2
  go_ret
  refine ⟨?_, rfl⟩
  have e : decide (wrap64 (f : Int) < 0) = decide (9223372036854775808 ≤ f) := by
    rw [decide_eq_decide]
    unfold wrap64
    constructor <;> intro h <;> (try split at h) <;> (try split) <;> omega
  rw [← e]
  rfl

theorem abs_bits (f : Nat) (hf : f < 18446744073709551616) : bits .andNot .u64 (f : Int) 9223372036854775808 = ((f % 9223372036854775808 : Nat) : Int) := by
  have h := u64_andNot_nat f 9223372036854775808 hf (by omega)
  rw [show ((9223372036854775808 : Nat) : Int) = 9223372036854775808 from rfl] at h
  rw [h, show (18446744073709551615 - 9223372036854775808 : Nat) = 2 ^ 63 - 1 by decide, Nat.and_two_pow_sub_one_eq_mod]
theorem ford_self (f : Nat) (h : ffin f) : Ieee.double.order f f = some .eq := by
  rw [forder f f h h]
  simp [compare, compareOfLessAndEq]
theorem ford_nan (f : Nat) (h : 9218868437227405312 < f % 9223372036854775808) : Ieee.double.order f f = none := by
  have e1 : Ieee.double.signWeight = 2 ^ 63 := rfl
  have e2 : Ieee.double.binade = 2 ^ 52 := rfl
  have e3 : Ieee.double.infRung = 2047 * 2 ^ 52 := rfl
  unfold Ieee.Format.order Ieee.Format.read
  rw [e1, e2, e3]
  simp only [if_neg (show ¬ f % 2 ^ 63 < 2 ^ 52 by omega), if_neg (show ¬ f % 2 ^ 63 < 2047 * 2 ^ 52 by omega), if_neg (show ¬ f % 2 ^ 63 = 2047 * 2 ^ 52 by omega)]
  rfl
theorem ford_inf (f : Nat) (h : f % 9223372036854775808 = 9218868437227405312) : Ieee.double.order f f = some .eq := by
  have e1 : Ieee.double.signWeight = 2 ^ 63 := rfl
  have e2 : Ieee.double.binade = 2 ^ 52 := rfl
  have e3 : Ieee.double.infRung = 2047 * 2 ^ 52 := rfl
  unfold Ieee.Format.order Ieee.Format.read
  rw [e1, e2, e3]
  simp only [if_neg (show ¬ f % 2 ^ 63 < 2 ^ 52 by omega), if_neg (show ¬ f % 2 ^ 63 < 2047 * 2 ^ 52 by omega), if_pos (show f % 2 ^ 63 = 2047 * 2 ^ 52 by omega)]
  simp [Ieee.Datum.order, compare, compareOfLessAndEq]
theorem ford_max (r : Nat) (h : r < 9218868437227405312) : (Ieee.double.order r 9218868437227405311 == some .gt) = false := by
  rw [forder r _ (by unfold ffin; omega) (by unfold ffin; omega)]
  have e1 : fkey r = (r : Int) := by unfold fkey; rw [if_neg (by omega)]; congr 1; omega
  have e2 : fkey 9218868437227405311 = 9218868437227405311 := by decide
  rw [e1, e2]
  simp only [compare, compareOfLessAndEq]
  split
  · rfl
  · split
    · rfl
    · omega
theorem ford_infmax : (Ieee.double.order 9218868437227405312 9218868437227405311 == some .gt) = true := by decide +kernel
theorem ford_zero (f : Nat) (h : ffin f) (h0 : f % 9223372036854775808 ≠ 0) : (Ieee.double.order f 0 != some .eq) = true := by
  rw [forder f 0 h (by unfold ffin; omega)]
  have e2 : fkey 0 = 0 := by decide
  have e1 : fkey f ≠ 0 := by unfold fkey; split <;> omega
  rw [e2]
  simp only [compare, compareOfLessAndEq]
  split
  · rfl
  · first | rfl | (rw [if_neg e1]; rfl)


/-- Finite. -/
def finN (f : Nat) : Bool := decide (f % 9223372036854775808 < 9218868437227405312)
set_option maxRecDepth 100000 in
set_option maxHeartbeats 1000000 in
theorem fin_any (f : Nat) (w : World) (hf : f < 18446744073709551616) :
    Calls Tryz.prog 102 #[.float .f64 f] w fun e w' => e = .returned (.bool (finN f)) ∧ w' = w := by
  have HN := isnan_any f w
  have HI := isinf_any f (f % 9223372036854775808) w (abs_bits f hf)
  rcases (show 9218868437227405312 < f % 9223372036854775808 ∨ f % 9223372036854775808 = 9218868437227405312 ∨ f % 9223372036854775808 < 9218868437227405312 by omega) with h | h | h
  · rw [ford_nan f h, show (none != some Ordering.eq) = true from rfl] at HN
    have e : finN f = false := by unfold finN; rw [decide_eq_false (by omega)]
    rw [e]
    clear HI hf h e
    go_enter Tryz.func102, Tryz.ntmps102
    go_wp2_with (first | (go_at_call 130; refine HN.mono ?_; rintro e _ ⟨rfl, rfl⟩) | fail)
    go_ret
    exact ⟨rfl, rfl⟩
  · rw [ford_inf f h, show (some Ordering.eq != some Ordering.eq) = false from rfl] at HN
    rw [h, ford_infmax] at HI
    have e : finN f = false := by unfold finN; rw [decide_eq_false (by omega)]
    rw [e]
    clear hf h e
    go_enter Tryz.func102, Tryz.ntmps102
    go_wp2_with (first | (go_at_call 130; refine HN.mono ?_; rintro e _ ⟨rfl, rfl⟩) | (go_at_call 131; refine HI.mono ?_; rintro e _ ⟨rfl, rfl⟩) | fail)
    go_ret
    exact ⟨rfl, rfl⟩
  · have hfin : ffin f := by unfold ffin; omega
    rw [ford_self f hfin, show (some Ordering.eq != some Ordering.eq) = false from rfl] at HN
    rw [ford_max _ h] at HI
    have e : finN f = true := by unfold finN; rw [decide_eq_true h]
    rw [e]
    clear hf h e hfin
    go_enter Tryz.func102, Tryz.ntmps102
    go_wp2_with (first | (go_at_call 130; refine HN.mono ?_; rintro e _ ⟨rfl, rfl⟩) | (go_at_call 131; refine HI.mono ?_; rintro e _ ⟨rfl, rfl⟩) | fail)
    go_ret
    exact ⟨rfl, rfl⟩
end Go.Proofs.YtdnocpngdepbgaaGreatDoor.K

namespace Go.Proofs.YtdnocpngdepbgaaGreatDoor.K
open Go.RowKit
set_option linter.unusedVariables false
set_option linter.unusedSimpArgs false

/-- Bytes as a number, the highest first. -/
def be (L : List UInt8) (k : Nat) : Nat → Nat
  | 0 => 0
  | i + 1 => be L k i * 256 + (L.getD (k + i) 0).toNat
theorem or32_nat (a b : Nat) (ha : a < 4294967296) (hb : b < 4294967296) : bits .or .u32 (a : Int) (b : Int) = ((a ||| b : Nat) : Int) := by
  have hx : a ||| b < 2 ^ 32 := Nat.or_lt_two_pow (by omega) (by omega)
  have o : ∀ x : Nat, x < 4294967296 → (BitVec.ofInt 32 (x : Int)).toNat = x := fun x h => by
    rw [BitVec.toNat_ofInt]; omega
  show IntKind.u32.wrap ((BitVec.ofInt 32 (a : Int) ||| BitVec.ofInt 32 (b : Int)).toNat : Int) = _
  rw [BitVec.toNat_or, o a ha, o b hb]
  simp [IntKind.wrap, IntKind.bits, IntKind.signed]
  omega
theorem or_add (a b k : Nat) (h : b < 2 ^ k) : a * 2 ^ k ||| b = a * 2 ^ k + b := by
  rw [← Nat.shiftLeft_eq]
  exact (Nat.shiftLeft_add_eq_or_of_lt h a).symm
theorem word32 (b0 b1 b2 b3 : Nat) (h0 : b0 < 256) (h1 : b1 < 256) (h2 : b2 < 256) (h3 : b3 < 256) : bits .or .u32 (bits .or .u32 (bits .or .u32 ((b0 : Int) * 16777216) ((b1 : Int) * 65536)) ((b2 : Int) * 256)) (b3 : Int) = ((((b0 * 256 + b1) * 256 + b2) * 256 + b3 : Nat) : Int) := by
  rw [show (b0 : Int) * 16777216 = ((b0 * 2 ^ 24 : Nat) : Int) by omega, show (b1 : Int) * 65536 = ((b1 * 2 ^ 16 : Nat) : Int) by omega, show (b2 : Int) * 256 = ((b2 * 2 ^ 8 : Nat) : Int) by omega]
  rw [or32_nat _ _ (by omega) (by omega), or_add b0 (b1 * 2 ^ 16) 24 (by omega)]
  rw [or32_nat _ _ (by omega) (by omega), show b0 * 2 ^ 24 + b1 * 2 ^ 16 = (b0 * 2 ^ 8 + b1) * 2 ^ 16 by omega, or_add _ (b2 * 2 ^ 8) 16 (by omega)]
  rw [or32_nat _ _ (by omega) (by omega), show (b0 * 2 ^ 8 + b1) * 2 ^ 16 + b2 * 2 ^ 8 = ((b0 * 2 ^ 8 + b1) * 2 ^ 8 + b2) * 2 ^ 8 by omega, or_add _ b3 8 (by omega)]
theorem word64 (a b : Nat) (ha : a < 4294967296) (hb : b < 4294967296) : bits .or .u64 ((a : Int) * 4294967296) (b : Int) = ((a * 4294967296 + b : Nat) : Int) := by
  rw [show (a : Int) * 4294967296 = ((a * 2 ^ 32 : Nat) : Int) by omega, or64_nat _ _ (by omega) (by omega), or_add a b 32 (by omega)]
theorem be_lt (L : List UInt8) (k : Nat) : ∀ i, be L k i < 256 ^ i
  | 0 => by show 0 < 1; decide
  | i + 1 => by
    have := be_lt L k i
    have := (L.getD (k + i) 0).toNat_lt
    rw [Nat.pow_succ]
    show be L k i * 256 + _ < _
    omega
theorem be_8 (L : List UInt8) (k : Nat) : be L k 8 = be L k 4 * 4294967296 + be L (k + 4) 4 := by
  simp only [be, Nat.add_zero, Nat.zero_mul, Nat.zero_add, Nat.add_assoc, Nat.reduceAdd]
  omega
set_option maxRecDepth 100000 in
set_option maxHeartbeats 1000000 in
theorem fix_any (b off n cap : Nat) (L : List UInt8) (k : Nat) (w : World) (hn : 4 ≤ n) (hc : ∀ j, j < 4 → w.cell? ⟨b, off + j, none⟩ = some (.int .u8 (at8 L (k + j)))) :
    Calls Tryz.prog 111 #[.slice (some ⟨b, off, none⟩) n cap] w fun e w' => e = .returned (.int .u32 (be L k 4 : Int)) ∧ ∃ m, w' = w.drewN m := by
  have c0 := hc 0 (by omega)
  have c1 := hc 1 (by omega)
  have c2 := hc 2 (by omega)
  have c3 := hc 3 (by omega)
  rw [Nat.add_zero] at c0
  rw [Nat.add_zero] at c0
  unfold at8 at c0 c1 c2 c3
  have E : be L k 4 = (((L.getD k 0).toNat * 256 + (L.getD (k + 1) 0).toNat) * 256 + (L.getD (k + 2) 0).toNat) * 256 + (L.getD (k + 3) 0).toNat := by
    simp only [be, Nat.add_zero, Nat.zero_mul, Nat.zero_add]
  rw [E]
  have h0 := (L.getD k 0).toNat_lt
  have h1 := (L.getD (k + 1) 0).toNat_lt
  have h2 := (L.getD (k + 2) 0).toNat_lt
  have h3 := (L.getD (k + 3) 0).toNat_lt
  generalize (L.getD k 0).toNat = b0 at *
  generalize (L.getD (k + 1) 0).toNat = b1 at *
  generalize (L.getD (k + 2) 0).toNat = b2 at *
  generalize (L.getD (k + 3) 0).toNat = b3 at *
  clear E hc
  go_enter Tryz.func111, Tryz.ntmps111
  go_wp2
  go_quiet (fail)
  go_wp2
  go_ret
  exact ⟨ret_int (word32 b0 b1 b2 b3 h0 h1 h2 h3), _, rfl⟩

def finB (f : Nat) : Bool := finN f && decide (f ≠ 9223372036854775808)
def rFloat (L : List UInt8) (s : St) : Nat × St := if s.bad = 0 then (if s.k + 8 ≤ L.length then (if finB (be L s.k 8) = true then (be L s.k 8, ⟨s.k + 8, s.bad, s.wh⟩) else (0, ⟨s.k, 21, s.k⟩)) else (0, ⟨s.k, 20, L.length⟩)) else (0, s)
variable {T : TypeId} {r cap : Nat} {a : Option Addr} {L : List UInt8} {s : St}
set_option maxRecDepth 100000 in
set_option maxHeartbeats 2000000 in
theorem float_any (w : World) (h : RD w T r a cap L s) :
    Calls Tryz.prog 33 #[.pointer (some ⟨r, 0, none⟩)] w fun e w' => e = .returned (.float .f64 (rFloat L s).1) ∧ On w w' T r a cap L (rFloat L s).2 := by
  have HS : Hid (Calls Tryz.prog 104 #[.pointer (some ⟨r, 0, none⟩)] w fun e w' => e = .returned (.bool (decide (s.bad ≠ 0))) ∧ w' = w) := stopped_any w h
  by_cases hb : s.bad = 0
  · have HS' : Hid (Calls Tryz.prog 104 #[.pointer (some ⟨r, 0, none⟩)] w fun e w' => e = .returned (.bool false) ∧ w' = w) := by have := HS.out; rw [show decide (s.bad ≠ 0) = false by simp [hb]] at this; exact this
    clear HS
    by_cases hk : s.k + 8 ≤ L.length
    · have HNx : Hid (Calls Tryz.prog 109 #[.pointer (some ⟨r, 0, none⟩), .int .i64 8] w fun e w' => e = .returned (.tuple #[.slice (from23 a cap s.k) 8 (cap - s.k), .bool true]) ∧ ∃ m, w' = w.drewN m) := next_ok 8 w h hk
      have HK := Hid.mk' (keep_on (a := a) (cap := cap) (L := L) (T := T) (r := r) w hb 21 (s.k : Int) (by decide))
      have HR := Hid.mk' h.on
      have hf := h.few
      have hrm := h.room
      rcases h.cells with hz | ⟨b, off, eA, hlt, hbr, hc⟩
      · omega
      rw [eA] at HNx
      have hE : rFloat L s = (if finB (be L s.k 8) = true then (be L s.k 8, ⟨s.k + 8, s.bad, s.wh⟩) else (0, ⟨s.k, 21, s.k⟩)) := by unfold rFloat; rw [if_pos hb, if_pos hk]
      rw [hE]
      have hB8 := be_8 L s.k
      have hA4 := be_lt L s.k 4
      have hB4 := be_lt L (s.k + 4) 4
      have FX : Hid (∀ wx, Fr r w wx → ∀ off' n c v, (off' = off ∧ n = 8 ∧ v = be L s.k 4 ∨ off' = off + 4 ∧ n = 4 ∧ v = be L (s.k + 4) 4) → Calls Tryz.prog 111 #[.slice (some ⟨b, off', none⟩) n c] wx fun e w' => e = .returned (.int .u32 (v : Int)) ∧ ∃ m, w' = wx.drewN m) := fun wx hx off' n c v ho => by
        rcases ho with ⟨rfl, rfl, rfl⟩ | ⟨rfl, rfl, rfl⟩
        · exact fix_any b off' 8 c L s.k wx (by decide) (fun j hj => hx.cell (p := ⟨b, off' + j, none⟩) hbr (hc j (by omega)))
        · exact fix_any b (off + 4) 4 c L (s.k + 4) wx (by decide) (fun j hj => by
            rw [Nat.add_assoc, Nat.add_assoc]
            exact hx.cell (p := ⟨b, off + (4 + j), none⟩) hbr (hc (4 + j) (by omega)))
      have s1 : ∀ wx, (Instr.sliceAt 25 (.slice (some ⟨b, off, none⟩) 8 (cap - s.k)) (some (.int .i64 4)) none none).run Tryz.prog wx = .ok (.slice (some ⟨b, off + 4, none⟩) 4 (cap - s.k - 4)) wx := fun wx => slice_from b off 8 (cap - s.k) 4 (by decide) (by omega) (by omega) wx
      have s2 : ∀ wx, (Instr.slice 25 (.slice (some ⟨b, off, none⟩) 8 (cap - s.k)) (some (.int .i64 4)) none none).run Tryz.prog wx = .ok (.slice (some ⟨b, off + 4, none⟩) 4 (cap - s.k - 4)) wx := fun wx => (run_sliceAt_slice wx _ _ _ _ _ hu27).symm.trans (s1 wx)
      clear h hc eA hE
      generalize be L s.k 8 = F at *
      generalize be L s.k 4 = A at *
      generalize be L (s.k + 4) 4 = B at *
      have hOR : bits .or .u64 ((A : Int) * 4294967296) (B : Int) = (F : Int) := by rw [word64 A B (by omega) (by omega), ← hB8]
      have hF : F < 18446744073709551616 := by omega
      have HFN := Hid.mk' (fin_any F · hF)
      have HSG := Hid.mk' (sign_any F · hF)
      generalize cap - s.k - 4 = c5 at *
      generalize cap - s.k = c4 at *
      clear hB8
      rcases (show ¬ F % 9223372036854775808 < 9218868437227405312 ∨ (F % 9223372036854775808 < 9218868437227405312 ∧ F % 9223372036854775808 ≠ 0) ∨ F = 0 ∨ F = 9223372036854775808 by omega) with hq | hq | hq | hq
      · have e1 : finN F = false := by unfold finN; rw [decide_eq_false hq]
        have e2 : finB F = false := by unfold finB; rw [e1]; rfl
        rw [e1] at HFN
        rw [e2, if_neg (by decide)]
        clear HSG hq e1 e2 hF
        go_enter Tryz.func33, Tryz.ntmps33
        go_wp2_with fail
        refine HS'.out.mono ?_
        rintro e w1 ⟨rfl, hw1⟩
        subst hw1
        go_wp2_with fail
        refine HNx.out.mono ?_
        rintro e w2 ⟨rfl, m, hw2⟩
        have HON : Hid (On w1 w2 T r a cap L s) := by show On _ _ _ _ _ _ _ _; rw [hw2]; exact HR.out.drew m
        clear hw2
        go_wp2
        go_quiet (first | (go_at_call 111; exact Calls.quiet_of (FX.out _ (HON.out.drew _).2 _ _ _ _ (by first | exact .inl ⟨rfl, rfl, rfl⟩ | exact .inr ⟨rfl, rfl, rfl⟩))) | fail)
        have HON2 := Hid.mk' (HON.out.drew nq)
        generalize w2.drewN nq = W at *
        have c1' := HON2.out.1.c1
        have f1' := HON2.out.1.fz 1
        clear FX HON
        go_wp2_with (first | (go_at_call 102; refine (HFN.out _).mono ?_; rintro e _ ⟨rfl, rfl⟩) | (go_at_call 112; refine (HSG.out _).mono ?_; rintro e _ ⟨rfl, rfl⟩) | fail)
        go_region_held3 (fun w' => w'.cell? ⟨r, 1, none⟩ = some (.int .i64 (s.k : Int))) (first | assumption | go_keep) (first
          | (go_at_call 106; refine (HK.out _ ?_).mono ?_; (first | exact HON2.out | exact HON2.out.drew _ | exact (HON2.out.drew _).drew 1); rintro e w3 ⟨rfl, ho⟩; have s1 := ho.1.c1; have HO2 := Hid.mk' ho; clear ho)
          | fail)
        go_wp2
        go_ret
        exact ⟨rfl, HO2.out⟩
      · have e1 : finN F = true := by unfold finN; rw [decide_eq_true hq.1]
        have e2 : finB F = true := by unfold finB; rw [e1, decide_eq_true (by omega)]; rfl
        rw [e1] at HFN
        rw [e2, if_pos rfl]
        have hfin : ffin F := by unfold ffin; omega
        have z : (FloatKind.f64.format.order F 0 == some .eq) = false := by
          have : (FloatKind.f64.format.order F 0 != some .eq) = true := ford_zero F hfin hq.2
          simpa [bne] using this
        clear HSG hq e1 e2 hF hfin
        go_enter Tryz.func33, Tryz.ntmps33
        go_wp2_with fail
        refine HS'.out.mono ?_
        rintro e w1 ⟨rfl, hw1⟩
        subst hw1
        go_wp2_with fail
        refine HNx.out.mono ?_
        rintro e w2 ⟨rfl, m, hw2⟩
        have HON : Hid (On w1 w2 T r a cap L s) := by show On _ _ _ _ _ _ _ _; rw [hw2]; exact HR.out.drew m
        clear hw2
        go_wp2
        go_quiet (first | (go_at_call 111; exact Calls.quiet_of (FX.out _ (HON.out.drew _).2 _ _ _ _ (by first | exact .inl ⟨rfl, rfl, rfl⟩ | exact .inr ⟨rfl, rfl, rfl⟩))) | fail)
        have HON2 := Hid.mk' (HON.out.drew nq)
        generalize w2.drewN nq = W at *
        have c1' := HON2.out.1.c1
        have f1' := HON2.out.1.fz 1
        clear FX HON
        have HO2 := Hid.mk' (HON2.out.set1 (s.k + 8) ((s.k : Int) + 8) (by omega) hk)
        go_wp2_with (first | (go_at_call 102; refine (HFN.out _).mono ?_; rintro e _ ⟨rfl, rfl⟩) | (go_at_call 112; refine (HSG.out _).mono ?_; rintro e _ ⟨rfl, rfl⟩) | fail)
        go_ret
        exact ⟨rfl, HO2.out⟩
      · have e1 : finN F = true := by subst hq; decide
        have e2 : finB F = true := by subst hq; decide
        rw [e1] at HFN
        rw [e2, if_pos rfl]
        have z : (FloatKind.f64.format.order F 0 == some .eq) = true := by subst hq; decide +kernel
        have e3 : decide (9223372036854775808 ≤ F) = false := by subst hq; decide
        rw [e3] at HSG
        clear hq e1 e2 hF e3
        go_enter Tryz.func33, Tryz.ntmps33
        go_wp2_with fail
        refine HS'.out.mono ?_
        rintro e w1 ⟨rfl, hw1⟩
        subst hw1
        go_wp2_with fail
        refine HNx.out.mono ?_
        rintro e w2 ⟨rfl, m, hw2⟩
        have HON : Hid (On w1 w2 T r a cap L s) := by show On _ _ _ _ _ _ _ _; rw [hw2]; exact HR.out.drew m
        clear hw2
        go_wp2
        go_quiet (first | (go_at_call 111; exact Calls.quiet_of (FX.out _ (HON.out.drew _).2 _ _ _ _ (by first | exact .inl ⟨rfl, rfl, rfl⟩ | exact .inr ⟨rfl, rfl, rfl⟩))) | fail)
        have HON2 := Hid.mk' (HON.out.drew nq)
        generalize w2.drewN nq = W at *
        have c1' := HON2.out.1.c1
        have f1' := HON2.out.1.fz 1
        clear FX HON
        have HO2 := Hid.mk' (HON2.out.set1 (s.k + 8) ((s.k : Int) + 8) (by omega) hk)
        go_wp2_with (first | (go_at_call 102; refine (HFN.out _).mono ?_; rintro e _ ⟨rfl, rfl⟩) | (go_at_call 112; refine (HSG.out _).mono ?_; rintro e _ ⟨rfl, rfl⟩) | fail)
        go_ret
        exact ⟨rfl, HO2.out⟩
      · have e1 : finN F = true := by subst hq; decide
        have e2 : finB F = false := by subst hq; decide
        rw [e1] at HFN
        rw [e2, if_neg (by decide)]
        have z : (FloatKind.f64.format.order F 0 == some .eq) = true := by subst hq; decide +kernel
        have e3 : decide (9223372036854775808 ≤ F) = true := by subst hq; decide
        rw [e3] at HSG
        clear hq e1 e2 hF e3
        go_enter Tryz.func33, Tryz.ntmps33
        go_wp2_with fail
        refine HS'.out.mono ?_
        rintro e w1 ⟨rfl, hw1⟩
        subst hw1
        go_wp2_with fail
        refine HNx.out.mono ?_
        rintro e w2 ⟨rfl, m, hw2⟩
        have HON : Hid (On w1 w2 T r a cap L s) := by show On _ _ _ _ _ _ _ _; rw [hw2]; exact HR.out.drew m
        clear hw2
        go_wp2
        go_quiet (first | (go_at_call 111; exact Calls.quiet_of (FX.out _ (HON.out.drew _).2 _ _ _ _ (by first | exact .inl ⟨rfl, rfl, rfl⟩ | exact .inr ⟨rfl, rfl, rfl⟩))) | fail)
        have HON2 := Hid.mk' (HON.out.drew nq)
        generalize w2.drewN nq = W at *
        have c1' := HON2.out.1.c1
        have f1' := HON2.out.1.fz 1
        clear FX HON
        go_wp2_with (first | (go_at_call 102; refine (HFN.out _).mono ?_; rintro e _ ⟨rfl, rfl⟩) | (go_at_call 112; refine (HSG.out _).mono ?_; rintro e _ ⟨rfl, rfl⟩) | fail)
        go_region_held3 (fun w' => w'.cell? ⟨r, 1, none⟩ = some (.int .i64 (s.k : Int))) (first | assumption | go_keep) (first
          | (go_at_call 106; refine (HK.out _ ?_).mono ?_; (first | exact HON2.out | exact HON2.out.drew _ | exact (HON2.out.drew _).drew 1); rintro e w3 ⟨rfl, ho⟩; have s1 := ho.1.c1; have HO2 := Hid.mk' ho; clear ho)
          | fail)
        go_wp2
        go_ret
        exact ⟨rfl, HO2.out⟩
    · have e0 : rFloat L s = (0, ⟨s.k, 20, L.length⟩) := by unfold rFloat; rw [if_pos hb, if_neg hk]
      rw [e0]
      clear e0
      have HNx : Hid (Calls Tryz.prog 109 #[.pointer (some ⟨r, 0, none⟩), .int .i64 8] w fun e w' => e = .returned (.tuple #[.slice none 0 0, .bool false]) ∧ On w w' T r a cap L ⟨s.k, 20, L.length⟩) := next_no 8 w h hb hk (by decide)
      clear h
      go_enter Tryz.func33, Tryz.ntmps33
      go_wp2_with fail
      refine HS'.out.mono ?_
      rintro e w1 ⟨rfl, hw1⟩
      subst hw1
      go_wp2_with fail
      refine HNx.out.mono ?_
      rintro e w2 ⟨rfl, ho⟩
      have HO := Hid.mk' ho
      clear ho
      go_wp2
      go_ret
      exact ⟨rfl, HO.out⟩
  · have HS' : Hid (Calls Tryz.prog 104 #[.pointer (some ⟨r, 0, none⟩)] w fun e w' => e = .returned (.bool true) ∧ w' = w) := by have := HS.out; rw [show decide (s.bad ≠ 0) = true by simp [hb]] at this; exact this
    have e0 : rFloat L s = (0, s) := by unfold rFloat; rw [if_neg hb]
    rw [e0]
    have HO := Hid.mk' h.on
    clear HS h e0
    go_enter Tryz.func33, Tryz.ntmps33
    go_wp2_with fail
    refine HS'.out.mono ?_
    rintro e w1 ⟨rfl, hw1⟩
    subst hw1
    go_wp2
    go_ret
    exact ⟨rfl, HO.out⟩
end Go.Proofs.YtdnocpngdepbgaaGreatDoor.K

