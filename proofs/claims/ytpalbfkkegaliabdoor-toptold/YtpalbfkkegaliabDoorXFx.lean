import Derived.Test.YtpalbfkkegaliabDoorXOwn
import Derived.Test.YtpalbfkkegaliabDoorXSha
import Derived.Test.YtpalbfkkegaliabDoorXTornM
import Derived.Lib.BufferMore
namespace Go.Proofs.YtpalbfkkegaliabDoor.X
open Go.RowKit
set_option linter.unusedVariables false
set_option linter.unusedSimpArgs false

def b4 (l : List UInt8) (k : Nat) : UInt32 := UInt32.ofNat (l.getD k 0).toNat
theorem at8_b4 (l : List UInt8) (k : Nat) : at8 l k % 4294967296 = U (b4 l k) := by
  unfold b4
  rw [← U_byte]
  unfold at8
  have := (l.getD k 0).toNat_lt
  omega
theorem at8_b4w (l : List UInt8) (k : Nat) : IntKind.u32.wrap (at8 l k) = U (b4 l k) := by rw [wrapU, at8_b4]
def rdw (l : List UInt8) : UInt32 := UInt32.ofNat (rd l 0)
theorem rd_lt (l : List UInt8) (i : Nat) : rd l i < 4294967296 := by
  unfold rd
  have := b4n_lt l i
  have := b4n_lt l (i + 1)
  have := b4n_lt l (i + 2)
  have := b4n_lt l (i + 3)
  omega
theorem rdw_nat (l : List UInt8) : (rdw l).toNat = rd l 0 := by
  unfold rdw; rw [UInt32.toNat_ofNat', Nat.mod_eq_of_lt (rd_lt l 0)]
theorem or_add (a b k : Nat) (h : b < 2 ^ k) : a * 2 ^ k ||| b = a * 2 ^ k + b := by
  rw [← Nat.shiftLeft_eq]
  exact (Nat.shiftLeft_add_eq_or_of_lt h a).symm
theorem word_eq (l : List UInt8) : (shl (b4 l 0) 24 ||| shl (b4 l 1) 16 ||| shl (b4 l 2) 8 ||| b4 l 3) = rdw l := by
  apply UInt32.toNat_inj.1
  have e : ∀ k, (b4 l k).toNat = b4n l k := fun k => by
    unfold b4 b4n
    have := (l.getD k 0).toNat_lt
    rw [UInt32.toNat_ofNat', Nat.mod_eq_of_lt (by omega)]
  have s : ∀ k r, r < 32 → (shl (b4 l k) r).toNat = b4n l k * 2 ^ r % 4294967296 := fun k r hr => by
    unfold shl
    rw [UInt32.toNat_shiftLeft, UInt32.toNat_ofNat', Nat.shiftLeft_eq, e, show r % 2 ^ 32 % 32 = r by omega]
  have q0 := b4n_lt l 0
  have q1 := b4n_lt l 1
  have q2 := b4n_lt l 2
  have q3 := b4n_lt l 3
  rw [UInt32.toNat_or, UInt32.toNat_or, UInt32.toNat_or, s 0 24 (by omega), s 1 16 (by omega), s 2 8 (by omega), e, rdw_nat]
  rw [Nat.mod_eq_of_lt (by omega), Nat.mod_eq_of_lt (by omega), Nat.mod_eq_of_lt (by omega)]
  rw [or_add (b4n l 0) (b4n l 1 * 2 ^ 16) 24 (by omega)]
  rw [show b4n l 0 * 2 ^ 24 + b4n l 1 * 2 ^ 16 = (b4n l 0 * 2 ^ 8 + b4n l 1) * 2 ^ 16 by omega, or_add _ (b4n l 2 * 2 ^ 8) 16 (by omega)]
  rw [show (b4n l 0 * 2 ^ 8 + b4n l 1) * 2 ^ 16 + b4n l 2 * 2 ^ 8 = (b4n l 0 * 2 ^ 16 + b4n l 1 * 2 ^ 8 + b4n l 2) * 2 ^ 8 by omega, or_add _ (b4n l 3) 8 (by omega)]
  unfold rd
  simp only [Nat.zero_add]
  omega
attribute [local go_sem] bits_xor bits_or bits_and U_add U_addw shl24 shl16 shl8 shl24w shl16w shl8w at8_b4 at8_b4w

set_option maxHeartbeats 2000000 in
theorem fix_any (b off n cap : Nat) (l : List UInt8) (w : World) (hn : 4 ≤ n) (hc : ∀ j, j < 4 → w.cell? ⟨b, off + j, none⟩ = some (.int .u8 (at8 l j))) :
    Calls Tryd.prog 66 #[.slice (some ⟨b, off, none⟩) n cap] w fun e w' => e = .returned (.int .u32 (U (rdw l))) ∧ ∃ m, w' = w.drewN m := by
  have c0 := hc 0 (by omega)
  have c1 := hc 1 (by omega)
  have c2 := hc 2 (by omega)
  have c3 := hc 3 (by omega)
  rw [Nat.add_zero] at c0
  have E : Hid ((shl (b4 l 0) 24 ||| shl (b4 l 1) 16 ||| shl (b4 l 2) 8 ||| b4 l 3) = rdw l) := word_eq l
  go_enter Tryd.func66, Tryd.ntmps66
  go_wp2
  go_quiet (fail)
  go_wp2
  go_ret
  exact ⟨ret_int (by rw [← E.out]), _, rfl⟩

theorem hu27 : Tryd.prog.underlying 25 = some (.slice (Tryd.prog.elem 25)) := by kernel_rfl
theorem he27 : Tryd.prog.elem 25 = 5 := by kernel_rfl
theorem slice_from (b off n cap k : Nat) (h : k ≤ n) (hc : n ≤ cap) (hk : k < cap) (w : World) :
    (Instr.sliceAt 25 (.slice (some ⟨b, off, none⟩) n cap) (some (.int .i64 (k : Int))) none none).run Tryd.prog w = .ok (.slice (some ⟨b, off + k, none⟩) (n - k) (cap - k)) w := by
  obtain ⟨i, hi, _, hs, _⟩ := info5'
  rw [run_sliceAt_slice w _ _ _ _ _ hu27, run_slice_l w _ _ _ _ hu27 .i64 _ (by omega) (by omega), he27]
  have hne : ¬ (cap = k) := by omega
  simp [sizeOf, typeInfo, hi, hs, sliced, hne, Addr.add_mid]
theorem slice_to (b off n cap k : Nat) (h : k ≤ n) (hc : n ≤ cap) (h0 : 0 < cap) (w : World) :
    (Instr.sliceAt 25 (.slice (some ⟨b, off, none⟩) n cap) none (some (.int .i64 (k : Int))) none).run Tryd.prog w = .ok (.slice (some ⟨b, off, none⟩) k cap) w := by
  obtain ⟨i, hi, _, hs, _⟩ := info5'
  rw [run_sliceAt_slice w _ _ _ _ _ hu27, run_slice_h w _ _ _ _ hu27 .i64 _ (by omega) (by omega), he27]
  simp [sizeOf, typeInfo, hi, hs, sliced, Addr.add_mid]
theorem slice_mid (b off n cap j k : Nat) (hj : j ≤ k) (h : k ≤ n) (hc : n ≤ cap) (hk : j < cap) (w : World) :
    (Instr.sliceAt 25 (.slice (some ⟨b, off, none⟩) n cap) (some (.int .i64 (j : Int))) (some (.int .i64 (k : Int))) none).run Tryd.prog w = .ok (.slice (some ⟨b, off + j, none⟩) (k - j) (cap - j)) w := by
  obtain ⟨i, hi, _, hs, _⟩ := info5'
  rw [run_sliceAt_slice w _ _ _ _ _ hu27, run_slice_lh w _ _ _ _ hu27 .i64 .i64 _ _ (by omega) (by omega) (by omega), he27]
  have hne : ¬ (cap = j) := by omega
  simp [sizeOf, typeInfo, hi, hs, sliced, hne, Addr.add_mid]
theorem at8_drop (l : List UInt8) (c j : Nat) : at8 (l.drop c) j = at8 l (c + j) := by simp [at8]
theorem at8_take (l : List UInt8) (n j : Nat) (h : j < n) : at8 (l.take n) j = at8 l j := by simp [at8, List.getElem?_take, h]
theorem rd_drop (l : List UInt8) (c : Nat) : rd (l.drop c) 0 = rd l c := by
  unfold rd b4n
  simp only [List.getD_eq_getElem?_getD, List.getElem?_drop, Nat.zero_add, Nat.add_zero]

theorem beq_U (a b : UInt32) : (U a == U b) = decide (a.toNat = b.toNat) := by
  unfold U
  by_cases h : a.toNat = b.toNat
  · simp [h]
  · have : ¬ ((a.toNat : Int) = (b.toNat : Int)) := by omega
    simp [h, this]

set_option maxHeartbeats 2000000 in
theorem fits_any (b off n cap k : Nat) (l : List UInt8) (w : World) (hl : l.length = n) (hk : k + 4 ≤ n) (hcap : n ≤ cap) (hn : n ≤ 281474976710656) (hc : ∀ j, j < n → w.cell? ⟨b, off + j, none⟩ = some (.int .u8 (at8 l j))) (hN : NibsAt w) :
    Calls Tryd.prog 65 #[.slice (some ⟨b, off, none⟩) n cap, .int .i64 (k : Int)] w fun e w' => e = .returned (.bool (decide (rd l k = (crc (l.take k)).toNat))) ∧ ∃ m, w' = w.drewN m := by
  have s1 := slice_from b off n cap k (by omega) hcap (by omega)
  have s2 := slice_to b off n cap k (by omega) hcap (by omega)
  have F : Hid (∀ m, Calls Tryd.prog 66 #[.slice (some ⟨b, off + k, none⟩) (n - k) (cap - k)] (w.drewN m) fun e w' => e = .returned (.int .u32 (U (rdw (l.drop k)))) ∧ ∃ m', w' = (w.drewN m).drewN m') := fun m =>
    fix_any b (off + k) (n - k) (cap - k) (l.drop k) (w.drewN m) (by omega) (fun j hj => by
      rw [at8_drop, Nat.add_assoc]
      exact hc (k + j) (by omega))
  have G : Hid (∀ m, Calls Tryd.prog 63 #[.slice (some ⟨b, off, none⟩) k cap] (w.drewN m) fun e w' => e = .returned (.int .u32 (U (crc (l.take k)))) ∧ w' = w.drewN m) := fun m =>
    crc_at k _ (l.take k) cap (w.drewN m) (by simp; omega) (.inr ⟨b, off, rfl, fun j hj => by
      have hjk : j < k := by simp at hj; omega
      rw [at8_take _ _ _ hjk]
      exact hc j (by omega)⟩) (by omega) hN
  have E : Hid ((U (rdw (l.drop k)) == U (crc (l.take k))) = decide (rd l k = (crc (l.take k)).toNat)) := by show _ = _; rw [beq_U, rdw_nat, rd_drop]
  go_enter Tryd.func65, Tryd.ntmps65
  go_wp2
  go_quiet (first
    | (go_at_call 66; exact Calls.quiet_of (F.out _))
    | (go_at_call 63; exact Calls.quiet_of_same (G.out _)))
  go_wp2
  go_ret
  exact ⟨ret_bool (by rw [← E.out]), _, rfl⟩

set_option maxHeartbeats 2000000 in
theorem clone_any (b off n cap : Nat) (l : List UInt8) (w : World) (hl : l.length = n) (hn : n ≤ 140737488355328) (hb : Byt w (some ⟨b, off, none⟩) l) :
    Calls Tryd.prog 47 #[.slice (some ⟨b, off, none⟩) n cap] w fun e w' => ∃ v, e = .returned v ∧ OwnB w' w.heap.size v l ∧ Below w.heap.size w w' := by
  have hnil : ∀ W, (binOp .eql 25 (.slice (some ⟨b, off, none⟩) n cap) (.slice none 0 0)).run Tryd.prog W = .ok (.bool false) W := fun W => Lib.run_eql_slice_some_nil W _ _ _ Tryd.underlying25
  have O0 : Hid (OwnB (w.alloc (.cells #[] 5)) w.heap.size (.slice (some ⟨w.heap.size, 0, none⟩) 0 0) []) := ⟨rfl, .inr ⟨w.heap.size, 0, #[], rfl, Nat.le_refl _, heap_alloc_new _ _, by simp, by simp [maxLen], rfl, rfl⟩⟩
  have be0 : Below w.heap.size w (w.alloc (.cells #[] 5)) := (Below.refl _ _).alloc (Nat.le_refl _) _
  have B0 : Hid (Byt (w.alloc (.cells #[] 5)) (some ⟨b, off, none⟩) l) := byt_below hb be0
  have S0 : Hid (([] : List UInt8).length + l.length ≤ 140737488355328) := by show _ ≤ _; simp; omega
  have Z0 : Hid (w.heap.size ≤ (w.alloc (.cells #[] 5)).heap.size) := by show _ ≤ _; simp
  go_enter Tryd.func47, Tryd.ntmps47
  go_wp2_with (first | (at_builtin; refine wpList_app rfl (.tmp 5) (.tmp 6) rfl w.heap.size (.slice (some ⟨w.heap.size, 0, none⟩) 0 0) [] rfl O0.out (some ⟨b, off, none⟩) n cap l rfl hl B0.out S0.out Z0.out ?_) | fail)
  intro v w1 own1 grow1
  have be1 : Below w.heap.size w w1 := be0.grown grow1 Z0.out (fun k hk => (World.ownsRow.lt O0.out k hk).1)
  have OW : Hid (OwnB w1 w.heap.size v l) := by show OwnB _ _ _ _; simpa using own1
  clear own1 grow1 O0 B0 S0 Z0
  go_wp2
  go_ret
  exact ⟨v, rfl, OW.out, be1⟩
end Go.Proofs.YtpalbfkkegaliabDoor.X
