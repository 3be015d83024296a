import Derived.Test.YtpalbfkkegaliabDoorMat
import Derived.Test.YtpalbfkkegaliabDoorHj
import Derived.Test.YtpalbfkkegaliabDoorQx
namespace Go.Proofs.YtpalbfkkegaliabDoor
open Go.RowKit
set_option linter.unusedVariables false
set_option linter.unusedSimpArgs false

theorem range_row {w : World} {g : Nat} {l : List UInt8} {t : TypeId} {fr : Nat × Nat} (h : w.heap[g]? = some (.cells (bs l) t fr)) : w.rangeAt g 0 (hcs l) := fun j v hv => by
  rw [Nat.zero_add, cell_of_row w g j _ _ _ h]
  simpa [hcs] using hv
theorem hcs_pos {l : List UInt8} (h : l.length = 32) : 0 < (hcs l).length := by rw [hcs_len, h]; omega
theorem sizeH {l : List UInt8} (h : l.length = 32) : (Tryd.prog.info? 36).map (·.size) = some (bs l).toList.length := by
  rw [show (bs l).toList = hcs l from rfl, hcs_len, h]; exact hsH
theorem digitAt_ext (h : List UInt8) (k : Nat) (w : World) (hl : h.length = 32) (h1 : k < 64) :
    Calls Tryd.prog 89 #[.agg (bs h), .int .i64 k] w fun e w' => e = .returned (.int .u8 (dig h k)) ∧ Below w.heap.size w w' :=
  (digitAt_any h k w hl h1).mono fun e w' ⟨he, hw⟩ => ⟨he, by rw [hw]; exact (Below.refl _ _).alloc (Nat.le_refl _) _⟩

set_option maxRecDepth 100000 in
set_option maxHeartbeats 1000000 in
/-- With how many digits two hashes begin alike. -/
theorem common_any (a b : List UInt8) (ha : a.length = 32) (hb : b.length = 32) (w : World) :
    Calls Tryd.prog 72 #[.agg (bs a), .agg (bs b)] w fun e w' => e = .returned (.int .i64 (cm a b)) ∧ Below w.heap.size w w' := by
  have be0 : Below w.heap.size w ((w.alloc (.cells (bs a) 36)).alloc (.cells (bs b) 36)) := ((Below.refl _ _).alloc (Nat.le_refl _) _).alloc (by simp) _
  have g0 : ((w.alloc (.cells (bs a) 36)).alloc (.cells (bs b) 36)).heap[w.heap.size]? = some (.cells (bs a) 36 (0, 0)) := heap_alloc2_old _ _ _
  have g1 : ((w.alloc (.cells (bs a) 36)).alloc (.cells (bs b) 36)).heap[w.heap.size + 1]? = some (.cells (bs b) 36 (0, 0)) := heap_alloc2_new _ _ _
  have zz : w.heap.size + 2 = ((w.alloc (.cells (bs a) 36)).alloc (.cells (bs b) 36)).heap.size := by simp
  have R0 := range_row g0
  have R1 := range_row g1
  clear g0 g1
  obtain ⟨c, hc⟩ : ∃ c, c = cm a b := ⟨_, rfl⟩
  rw [← hc]
  have HC : Hid (c = cm a b) := hc
  clear hc
  go_enter Tryd.func72, Tryd.ntmps72
  go_wp2
  generalize ((w.alloc (.cells (bs a) 36)).alloc (.cells (bs b) 36)) = W0 at *
  have HR0 : Hid (W0.rangeAt w.heap.size 0 (hcs a)) := R0
  have HR1 : Hid (W0.rangeAt (w.heap.size + 1) 0 (hcs b)) := R1
  have HZ : Hid (w.heap.size + 2 = W0.heap.size) := zz
  clear R0 R1 zz
  go_loopw [5] (fun i wr => ∃ k : Nat, k ≤ 64 ∧ i = .int .i64 k ∧ Hid (Agree a b k) ∧ Below W0.heap.size W0 wr) (fun i _ => 64 - (intOf i).toNat)
  case atStart => exact ⟨0, by omega, rfl, agree_zero a b, Below.refl _ _⟩
  case round =>
    obtain ⟨k, hk, rfl, hag, bel⟩ := hrel
    have hne : Nonempty (ExtT wr) := ExtT.some wr
    have HS0 : Hid (wr.rangeAt w.heap.size 0 (hcs a)) := rangeAt_below HR0.out bel (by have := HZ.out; omega)
    have HS1 : Hid (wr.rangeAt (w.heap.size + 1) 0 (hcs b)) := rangeAt_below HR1.out bel (by have := HZ.out; omega)
    by_cases hlt : k < 64
    · have hlt' : (k : Int) < 64 := by omega
      have HD : Hid (∀ wx, Calls Tryd.prog 89 #[.agg (bs a), .int .i64 k] wx fun e w' => e = .returned (.int .u8 (dig a k)) ∧ Below wx.heap.size wx w') := fun wx => digitAt_ext a k wx ha hlt
      have HE : Hid (∀ wx, Calls Tryd.prog 89 #[.agg (bs b), .int .i64 k] wx fun e w' => e = .returned (.int .u8 (dig b k)) ∧ Below wx.heap.size wx w') := fun wx => digitAt_ext b k wx hb hlt
      have HDD : Hid (dig a k = dig b k → Agree a b (k + 1)) := (fun e j hj => by
        by_cases ej : j = k
        · subst ej; exact e
        · exact hag.out j (by omega) : dig a k = dig b k → Agree a b (k + 1))
      have HNE : Hid (dig a k ≠ dig b k → (k : Int) = c) := (fun e => by rw [HC.out, cm_eq hk hag.out (fun _ => e)] : dig a k ≠ dig b k → (k : Int) = c)
      generalize dig a k = x at *
      generalize dig b k = y at *
      by_cases hxy : x = y
      · have HG : Hid (Agree a b (k + 1)) := HDD.out hxy
        subst hxy
        go_wp2_with fail
        refine wp_region_ext (by kernel_rfl) (by kernel_rfl) ?_
        repeat (first
          | (go_big_quiet_want; refine quiet_load_mid 36 _ rfl w.heap.size 0 rfl (bs a) _ (by rintro _ ⟨e, rfl⟩; exact e.range HS0.out (hcs_pos ha)) Tryd.underlying36 rfl (sizeH ha) ?_; simp [Act.put]; go_big_quiet_on)
          | (go_big_quiet_want; refine quiet_load_mid 36 _ rfl (w.heap.size + 1) 0 rfl (bs b) _ (by rintro _ ⟨e, rfl⟩; exact e.range HS1.out (hcs_pos hb)) Tryd.underlying36 rfl (sizeH hb) ?_; simp [Act.put]; go_big_quiet_on)
          | go_big_quiet_step (first | (go_at_call_of 89 (bs a); exact ext_of (HD.out _)) | (go_at_call_of 89 (bs b); exact ext_of (HE.out _))))
        refine wpQuiet_nil ?_
        rintro _ ⟨⟨w2, bel2⟩, rfl⟩
        go_wp2
        exact ⟨⟨k + 1, by omega, by go_num, HG, bel.trans (bel2.mono bel.size)⟩, by simp [intOf]; omega⟩
      · have HG : Hid ((k : Int) = c) := HNE.out hxy
        go_wp2_with fail
        refine wp_region_ext (by kernel_rfl) (by kernel_rfl) ?_
        repeat (first
          | (go_big_quiet_want; refine quiet_load_mid 36 _ rfl w.heap.size 0 rfl (bs a) _ (by rintro _ ⟨e, rfl⟩; exact e.range HS0.out (hcs_pos ha)) Tryd.underlying36 rfl (sizeH ha) ?_; simp [Act.put]; go_big_quiet_on)
          | (go_big_quiet_want; refine quiet_load_mid 36 _ rfl (w.heap.size + 1) 0 rfl (bs b) _ (by rintro _ ⟨e, rfl⟩; exact e.range HS1.out (hcs_pos hb)) Tryd.underlying36 rfl (sizeH hb) ?_; simp [Act.put]; go_big_quiet_on)
          | go_big_quiet_step (first | (go_at_call_of 89 (bs a); exact ext_of (HD.out _)) | (go_at_call_of 89 (bs b); exact ext_of (HE.out _))))
        refine wpQuiet_nil ?_
        rintro _ ⟨⟨w2, bel2⟩, rfl⟩
        go_wp2
        go_ret
        exact ⟨ret_int HG.out, be0.trans ((bel.trans (bel2.mono bel.size)).mono (by have := HZ.out; omega))⟩
    · obtain rfl : k = 64 := by omega
      have HG : Hid ((64 : Int) = c) := (by rw [HC.out, cm_eq hk hag.out (fun h => by omega)]; rfl : (64 : Int) = c)
      go_wp2_with fail
      refine wp_region_ext (by kernel_rfl) (by kernel_rfl) ?_
      repeat (go_big_quiet_step (fail))
      refine wpQuiet_nil ?_
      rintro _ ⟨⟨w2, bel2⟩, rfl⟩
      go_wp2
      go_ret
      exact ⟨ret_int HG.out, be0.trans ((bel.trans (bel2.mono bel.size)).mono (by have := HZ.out; omega))⟩
end Go.Proofs.YtpalbfkkegaliabDoor
