import Derived.Test.YtpalbfkkegaliabDoorBe
import Derived.Test.YtpalbfkkegaliabDoorSh0
namespace Go.Proofs.YtpalbfkkegaliabDoor
open Go.RowKit
set_option linter.unusedVariables false
set_option linter.unusedSimpArgs false

/-- Does a hash begin with these digits? -/
def beg (h : List UInt8) (s : ByteArray) : Bool := decide (hexl h s.size = s.data.toList)
/-- All are digits. -/
def AllDg (s : ByteArray) : Prop := ∀ j, j < s.size → isDg (at8 s.data.toList j) = true
theorem len_str (s : ByteArray) : s.data.toList.length = s.size := Array.length_toList
theorem beg_true {h : List UInt8} {s : ByteArray} (hd : AllDg s) (hp : ∀ j, j < s.size → dig h j = dgVal (at8 s.data.toList j)) : beg h s = true := by
  unfold beg
  rw [decide_eq_true_eq]
  apply at8_ext s.size (hexl_len _ _) (len_str s)
  intro j hj
  have hj2 := hd j hj
  rw [at8_hexl _ _ _ hj, hp j hj]
  unfold at8 at hj2 ⊢
  rw [hx_back _ hj2]
theorem beg_false {h : List UInt8} {s : ByteArray} (j : Nat) (hj : j < s.size) (hp : dig h j ≠ dgVal (at8 s.data.toList j)) : beg h s = false := by
  unfold beg
  rw [decide_eq_false_iff_not]
  intro e
  apply hp
  rw [← e, at8_hexl _ _ _ hj, (hx_all _ (dig_bd h j).1 (dig_bd h j).2).2]

set_option maxRecDepth 100000 in
set_option maxHeartbeats 1000000 in
theorem begins_any (h : List UInt8) (hl : h.length = 32) (s : ByteArray) (hs : s.size ≤ 64) (hd : AllDg s) (w : World) :
    Calls Tryd.prog 74 #[.agg (bs h), .string s] w fun e w' => e = .returned (.bool (beg h s)) ∧ Below w.heap.size w w' := by
  have be0 : Below w.heap.size w (w.alloc (.cells (bs h) 36)) := (Below.refl _ _).alloc (Nat.le_refl _) _
  have R0 := range_row (heap_alloc_new w (.cells (bs h) 36))
  have zz : w.heap.size + 1 = (w.alloc (.cells (bs h) 36)).heap.size := by simp
  obtain ⟨c, hc⟩ : ∃ c, c = beg h s := ⟨_, rfl⟩
  rw [← hc]
  have HC : Hid (c = beg h s) := hc
  have HDg : Hid (AllDg s) := hd
  clear hc hd
  go_enter Tryd.func74, Tryd.ntmps74
  go_wp2
  generalize (w.alloc (.cells (bs h) 36)) = W0 at *
  have HR0 : Hid (W0.rangeAt w.heap.size 0 (hcs h)) := R0
  have HZ : Hid (w.heap.size + 1 = W0.heap.size) := zz
  clear R0 zz
  go_loopw [8] (fun i wr => ∃ k : Nat, k ≤ s.size ∧ i = .int .i64 k ∧ Hid (∀ j, j < k → dig h j = dgVal (at8 s.data.toList j)) ∧ Below W0.heap.size W0 wr) (fun i _ => s.size - (intOf i).toNat)
  case atStart => exact ⟨0, by omega, rfl, (fun j hj => by omega : ∀ j, j < 0 → dig h j = dgVal (at8 s.data.toList j)), Below.refl _ _⟩
  case round =>
    obtain ⟨k, hk, rfl, hag, bel⟩ := hrel
    have hne : Nonempty (ExtT wr) := ExtT.some wr
    have HS0 : Hid (wr.rangeAt w.heap.size 0 (hcs h)) := rangeAt_below HR0.out bel (by have := HZ.out; omega)
    by_cases hlt : k < s.size
    · have hlt' : (k : Int) < (s.size : Int) := by omega
      have HD : Hid (∀ wx, Calls Tryd.prog 89 #[.agg (bs h), .int .i64 k] wx fun e w' => e = .returned (.int .u8 (dig h k)) ∧ Below wx.heap.size wx w') := fun wx => digitAt_ext h k wx hl (by omega)
      have hix := fun wx => index_str s k wx hlt
      have HE : Hid (∀ wx, Calls Tryd.prog 91 #[.int .u8 (at8 s.data.toList k)] wx fun e w' => e = .returned (.int .u8 (dgVal (at8 s.data.toList k))) ∧ w' = wx) := fun wx => digitValue_any _ wx (at8_lo _ _) (at8_hi _ _)
      have HDD : Hid (dig h k = dgVal (at8 s.data.toList k) → ∀ j, j < k + 1 → dig h j = dgVal (at8 s.data.toList j)) := (fun e j hj => by
        by_cases ej : j = k
        · subst ej; exact e
        · exact hag.out j (by omega) : dig h k = dgVal (at8 s.data.toList k) → ∀ j, j < k + 1 → dig h j = dgVal (at8 s.data.toList j))
      have HNE : Hid (dig h k ≠ dgVal (at8 s.data.toList k) → c = false) := (fun e => by rw [HC.out]; exact beg_false k hlt e : dig h k ≠ dgVal (at8 s.data.toList k) → c = false)
      generalize dgVal (at8 s.data.toList k) = y at *
      generalize at8 s.data.toList k = z at *
      generalize dig h k = x at *
      by_cases hxy : x = y
      · have HG := HDD.out hxy
        have HGG : Hid (∀ j, j < k + 1 → dig h j = dgVal (at8 s.data.toList j)) := HG
        clear HG
        subst hxy
        go_wp2_with fail
        refine wp_region_ext (by kernel_rfl) (by kernel_rfl) ?_
        repeat (first
          | (go_big_quiet_want; refine quiet_load_mid 36 _ rfl w.heap.size 0 rfl (bs h) _ (by rintro _ ⟨e, rfl⟩; exact e.range HS0.out (hcs_pos hl)) Tryd.underlying36 rfl (sizeH hl) ?_; simp [Act.put]; go_big_quiet_on)
          | go_big_quiet_step (first | (go_at_call 89; exact ext_of (HD.out _)) | (go_at_call 91; exact ext_of_same (HE.out _))))
        refine wpQuiet_nil ?_
        rintro _ ⟨⟨w2, bel2⟩, rfl⟩
        go_wp2
        exact ⟨⟨k + 1, by omega, by go_num, HGG, bel.trans (bel2.mono bel.size)⟩, by simp [intOf]; omega⟩
      · have HG : Hid (c = false) := HNE.out hxy
        go_wp2_with fail
        refine wp_region_ext (by kernel_rfl) (by kernel_rfl) ?_
        repeat (first
          | (go_big_quiet_want; refine quiet_load_mid 36 _ rfl w.heap.size 0 rfl (bs h) _ (by rintro _ ⟨e, rfl⟩; exact e.range HS0.out (hcs_pos hl)) Tryd.underlying36 rfl (sizeH hl) ?_; simp [Act.put]; go_big_quiet_on)
          | go_big_quiet_step (first | (go_at_call 89; exact ext_of (HD.out _)) | (go_at_call 91; exact ext_of_same (HE.out _))))
        refine wpQuiet_nil ?_
        rintro _ ⟨⟨w2, bel2⟩, rfl⟩
        go_wp2
        go_ret
        exact ⟨ret_bool HG.out.symm, be0.trans ((bel.trans (bel2.mono bel.size)).mono (by have := HZ.out; omega))⟩
    · obtain rfl : k = s.size := by omega
      have HG : Hid (c = true) := (by rw [HC.out]; exact beg_true HDg.out hag.out : c = true)
      go_wp2
      go_ret
      exact ⟨ret_bool HG.out.symm, be0.trans (bel.mono (by have := HZ.out; omega))⟩
end Go.Proofs.YtpalbfkkegaliabDoor
