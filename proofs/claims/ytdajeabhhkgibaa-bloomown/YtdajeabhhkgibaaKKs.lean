import Derived.Test.YtdajeabhhkgibaaKOb
import Derived.Lib.BufferMore
namespace Go.Proofs.Ytdajeabhhkgibaa.K
open Go.RowKit
set_option linter.unusedVariables false
set_option linter.unusedSimpArgs false

theorem hu27 : Try.prog.underlying 53 = some (.slice (Try.prog.elem 53)) := by kernel_rfl
theorem he27 : Try.prog.elem 53 = 5 := by kernel_rfl
theorem slice_from (b off n cap k : Nat) (h : k ≤ n) (hc : n ≤ cap) (hk : k < cap) (w : World) :
    (Instr.sliceAt 53 (.slice (some ⟨b, off, none⟩) n cap) (some (.int .i64 (k : Int))) none none).run Try.prog w = .ok (.slice (some ⟨b, off + k, none⟩) (n - k) (cap - k)) w := by
  obtain ⟨i, hi, _, hs, _⟩ := info5'
  rw [run_sliceAt_slice w _ _ _ _ _ hu27, run_slice_l w _ _ _ _ hu27 .i64 _ (by omega) (by omega), he27]
  have hne : ¬ (cap = k) := by omega
  simp [sizeOf, typeInfo, hi, hs, sliced, hne, Addr.add_mid]
theorem slice_to (b off n cap k : Nat) (h : k ≤ n) (hc : n ≤ cap) (h0 : 0 < cap) (w : World) :
    (Instr.sliceAt 53 (.slice (some ⟨b, off, none⟩) n cap) none (some (.int .i64 (k : Int))) none).run Try.prog w = .ok (.slice (some ⟨b, off, none⟩) k cap) w := by
  obtain ⟨i, hi, _, hs, _⟩ := info5'
  rw [run_sliceAt_slice w _ _ _ _ _ hu27, run_slice_h w _ _ _ _ hu27 .i64 _ (by omega) (by omega), he27]
  simp [sizeOf, typeInfo, hi, hs, sliced, Addr.add_mid]
theorem slice_mid (b off n cap j k : Nat) (hj : j ≤ k) (h : k ≤ n) (hc : n ≤ cap) (hk : j < cap) (w : World) :
    (Instr.sliceAt 53 (.slice (some ⟨b, off, none⟩) n cap) (some (.int .i64 (j : Int))) (some (.int .i64 (k : Int))) none).run Try.prog w = .ok (.slice (some ⟨b, off + j, none⟩) (k - j) (cap - j)) w := by
  obtain ⟨i, hi, _, hs, _⟩ := info5'
  rw [run_sliceAt_slice w _ _ _ _ _ hu27, run_slice_lh w _ _ _ _ hu27 .i64 .i64 _ _ (by omega) (by omega) (by omega), he27]
  have hne : ¬ (cap = j) := by omega
  simp [sizeOf, typeInfo, hi, hs, sliced, hne, Addr.add_mid]
theorem at8_drop (l : List UInt8) (c j : Nat) : at8 (l.drop c) j = at8 l (c + j) := by simp [at8]
theorem at8_take (l : List UInt8) (n j : Nat) (h : j < n) : at8 (l.take n) j = at8 l j := by simp [at8, List.getElem?_take, h]
set_option maxHeartbeats 2000000 in
theorem clone_any (b off n cap : Nat) (l : List UInt8) (w : World) (hl : l.length = n) (hn : n ≤ 140737488355328) (hb : Byt w (some ⟨b, off, none⟩) l) :
    Calls Try.prog 105 #[.slice (some ⟨b, off, none⟩) n cap] w fun e w' => ∃ v, e = .returned v ∧ OwnB w' w.heap.size v l ∧ Below w.heap.size w w' := by
  have hnil : ∀ W, (binOp .eql 53 (.slice (some ⟨b, off, none⟩) n cap) (.slice none 0 0)).run Try.prog W = .ok (.bool false) W := fun W => Lib.run_eql_slice_some_nil W _ _ _ Try.underlying53
  have O0 : Hid (OwnB (w.alloc (.cells #[] 5)) w.heap.size (.slice (some ⟨w.heap.size, 0, none⟩) 0 0) []) := ⟨rfl, .inr ⟨w.heap.size, 0, #[], rfl, Nat.le_refl _, heap_alloc_new _ _, by simp, by simp [maxLen], rfl, rfl⟩⟩
  have be0 : Below w.heap.size w (w.alloc (.cells #[] 5)) := (Below.refl _ _).alloc (Nat.le_refl _) _
  have B0 : Hid (Byt (w.alloc (.cells #[] 5)) (some ⟨b, off, none⟩) l) := byt_below hb be0
  have S0 : Hid (([] : List UInt8).length + l.length ≤ 140737488355328) := by show _ ≤ _; simp; omega
  have Z0 : Hid (w.heap.size ≤ (w.alloc (.cells #[] 5)).heap.size) := by show _ ≤ _; simp
  go_enter Try.func105, Try.ntmps105
  go_wp2_with (first | (at_builtin; refine wpList_app rfl (.tmp 5) (.tmp 6) rfl w.heap.size (.slice (some ⟨w.heap.size, 0, none⟩) 0 0) [] rfl O0.out (some ⟨b, off, none⟩) n cap l rfl hl B0.out S0.out Z0.out ?_) | fail)
  intro v w1 own1 grow1
  have be1 : Below w.heap.size w w1 := be0.grown grow1 Z0.out (fun k hk => (World.ownsRow.lt O0.out k hk).1)
  have OW : Hid (OwnB w1 w.heap.size v l) := by show OwnB _ _ _ _; simpa using own1
  clear own1 grow1 O0 B0 S0 Z0
  go_wp2
  go_ret
  exact ⟨v, rfl, OW.out, be1⟩
end Go.Proofs.Ytdajeabhhkgibaa.K
