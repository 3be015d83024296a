import Derived.Test.YtdajeabhhkgibaaYd
namespace Go.Proofs.Ytdajeabhhkgibaa
open Go.RowKit
set_option linter.unusedVariables false
set_option linter.unusedSimpArgs false

/-- The document's filter in memory: its cells. -/
structure RC (w : World) (q g bits probes : Nat) : Prop where
  c0 : w.cell? ⟨q, 0, none⟩ = some (.slice (some ⟨g, 0, none⟩) bits bits)
  c1 : w.cell? ⟨q, 1, none⟩ = some (.int .i64 (probes : Int))
  ne : g ≠ q
theorem RC.of {w w' : World} {q g bits probes : Nat} (h : RC w q g bits probes) (e : w'.heap[q]? = w.heap[q]?) : RC w' q g bits probes :=
  ⟨(World.cell?_of_block (w := w) (a := ⟨q, 0, none⟩) e).trans h.c0, (World.cell?_of_block (w := w) (a := ⟨q, 1, none⟩) e).trans h.c1, h.ne⟩
theorem RC.lt {w : World} {q g bits probes : Nat} (h : RC w q g bits probes) : q < w.heap.size := World.block_lt_of_cell? _ _ h.c0
/-- .. its bits. -/
def RB (w : World) (g bits : Nat) (f : Nat → Bool) : Prop := w.rowIs g 4 bits (fun i => .bool (f i))
structure RW (w : World) (q g bits probes : Nat) (f : Nat → Bool) : Prop where
  rc : RC w q g bits probes
  rb : RB w g bits f
theorem RW.of {w w' : World} {q g bits probes : Nat} {f : Nat → Bool} (h : RW w q g bits probes f) (e1 : w'.heap[q]? = w.heap[q]?) (e2 : w'.heap[g]? = w.heap[g]?) : RW w' q g bits probes f := ⟨h.rc.of e1, h.rb.of_block e2⟩
theorem RW.below {w w' : World} {q g bits probes : Nat} {f : Nat → Bool} (h : RW w q g bits probes f) (hb : Below w.heap.size w w') : RW w' q g bits probes f := h.of (hb.block _ h.rc.lt) (hb.block _ h.rb.lt)
theorem info4x : (Try.prog.info? 4).map (fun i => (i.zero, i.size, i.bytes)) = some (some (.bool false), 1, 1) := by kernel_rfl
set_option maxRecDepth 100000 in
theorem rbits_x (q g bits probes : Nat) (w : World) (h : RC w q g bits probes) : Calls Try.prog 52 #[.pointer (some ⟨q, 0, none⟩)] w fun e w' => e = .returned (.int .i64 (bits : Int)) ∧ w' = w := by
  have hc := h.c0
  clear h
  go_enter Try.func52, Try.ntmps52
  go_wp2
  go_ret
  exact ⟨rfl, rfl⟩
set_option maxRecDepth 100000 in
theorem rprobes_x (q g bits probes : Nat) (w : World) (h : RC w q g bits probes) : Calls Try.prog 54 #[.pointer (some ⟨q, 0, none⟩)] w fun e w' => e = .returned (.int .i64 (probes : Int)) ∧ w' = w := by
  have hc := h.c1
  clear h
  go_enter Try.func54, Try.ntmps54
  go_wp2
  go_ret
  exact ⟨rfl, rfl⟩
set_option maxRecDepth 100000 in
set_option maxHeartbeats 2000000 in
theorem rnew_ok (bits probes : Nat) (w : World) (h1 : 8 ≤ bits) (h2 : bits ≤ 65536) (h3 : bits % 8 = 0) (h4 : 1 ≤ probes) (h5 : probes ≤ 16) :
    Calls Try.prog 19 #[.int .i64 (bits : Int), .int .i64 (probes : Int)] w fun e w' => e = .returned (.tuple #[.pointer (some ⟨w.heap.size + 1, 0, none⟩), .int .i64 0]) ∧ RW w' (w.heap.size + 1) w.heap.size bits probes (fun _ => false) ∧ Below w.heap.size w w' ∧ w.heap.size + 1 < w'.heap.size := by
  have mk2 := run_make_row' (P := Try.prog) 99 4 (.bool false) 1 Try.underlying99 info4x rfl .i64 .i64 bits (by omega) (by omega)
  have e1 : ¬ (bits : Int) < 8 := by omega
  have e2 : ¬ (65536 : Int) < (bits : Int) := by omega
  have e3 : (bits : Int).tmod 8 = 0 := by rw [Int.tmod_eq_emod_of_nonneg (by omega)]; omega
  have e4 : ¬ (probes : Int) < 1 := by omega
  have e5 : ¬ (16 : Int) < (probes : Int) := by omega
  have HW : Hid (RW ((w.alloc (.cells (madeCells #[.bool false] bits) 4)).alloc (.cells #[.slice (some ⟨w.heap.size, 0, none⟩) bits bits, .int .i64 (probes : Int)] 101)) (w.heap.size + 1) w.heap.size bits probes (fun _ => false) ∧ Below w.heap.size w ((w.alloc (.cells (madeCells #[.bool false] bits) 4)).alloc (.cells #[.slice (some ⟨w.heap.size, 0, none⟩) bits bits, .int .i64 (probes : Int)] 101))) := by
    have g := heap_alloc_new (w.alloc (.cells (madeCells #[.bool false] bits) 4)) (.cells #[.slice (some ⟨w.heap.size, 0, none⟩) bits bits, .int .i64 (probes : Int)] 101)
    rw [World.size_alloc] at g
    refine ⟨⟨⟨(cell_of_row _ _ 0 _ _ _ g).trans rfl, (cell_of_row _ _ 1 _ _ _ g).trans rfl, by omega⟩, ?_⟩, ((Below.refl _ _).alloc (Nat.le_refl _) _).alloc (by simp) _⟩
    exact ((World.rowIs_made w (.bool false) bits 4).alloc _)
  clear h3
  go_enter Try.func19, Try.ntmps19
  go_wp2
  go_ret2
  exact ⟨rfl, HW.out.1, HW.out.2, by simp⟩
set_option maxRecDepth 100000 in
set_option maxHeartbeats 2000000 in
theorem rnew_no (bits probes : Nat) (w : World) (h2 : bits ≤ 65536) (hk : ¬ (okB bits = true ∧ okP (probes : Int) = true)) :
    Calls Try.prog 19 #[.int .i64 (bits : Int), .int .i64 (probes : Int)] w fun e w' => e = .returned (.tuple #[.pointer none, .int .i64 2]) ∧ w' = w := by
  have hk' : ¬ ((8 ≤ bits ∧ bits ≤ 65536 ∧ bits % 8 = 0) ∧ (1 ≤ (probes : Int) ∧ (probes : Int) ≤ 16)) := fun h => hk ⟨decide_eq_true h.1, decide_eq_true h.2⟩
  clear hk
  have e2 : ¬ (65536 : Int) < (bits : Int) := by omega
  by_cases h8 : bits < 8
  · have e1 : (bits : Int) < 8 := by omega
    clear hk'
    go_enter Try.func19, Try.ntmps19
    go_wp2
    go_ret2
    exact ⟨rfl, rfl⟩
  · have e1 : ¬ (bits : Int) < 8 := by omega
    have e3 : (bits : Int).tmod 8 = ((bits % 8 : Nat) : Int) := by rw [Int.tmod_eq_emod_of_nonneg (by omega)]; omega
    by_cases hm : bits % 8 = 0
    · rw [hm] at e3
      by_cases hp : 1 ≤ probes
      · have e4 : ¬ (probes : Int) < 1 := by omega
        have e5 : (16 : Int) < (probes : Int) := by omega
        clear hk' hm h8 hp
        go_enter Try.func19, Try.ntmps19
        go_wp2
        go_ret2
        exact ⟨rfl, rfl⟩
      · have e4 : (probes : Int) < 1 := by omega
        clear hk' hm h8 hp
        go_enter Try.func19, Try.ntmps19
        go_wp2
        go_ret2
        exact ⟨rfl, rfl⟩
    · have e5 : (((bits % 8 : Nat) : Int) == 0) = false := by simp; omega
      have e6 : 0 < bits % 8 := by omega
      clear hk' hm h8
      generalize bits % 8 = z at *
      go_enter Try.func19, Try.ntmps19
      go_wp2
      go_ret2
      exact ⟨rfl, rfl⟩
set_option maxRecDepth 100000 in
theorem index99 (b n cap k : Nat) (w : World) (hk : k < n) : (Instr.indexAt 99 (.slice (some ⟨b, 0, none⟩) n cap) (.int .i64 (k : Int))).run Try.prog w = .ok (.pointer (some ⟨b, k, none⟩)) w := by
  rw [run_indexAt_slice (P := Try.prog) _ _ _ _ _ _ _ Try.underlying99]
  have hsz : (sizeOf (Try.prog.elem 99)).run Try.prog w = .ok 1 w := by kernel_rfl
  simp [hk, hsz, Addr.add_mid]
/-- How many bits are set below k. -/
def cntB (f : Nat → Bool) : Nat → Nat
  | 0 => 0
  | k + 1 => cntB f k + (if f k = true then 1 else 0)
theorem cntB_le (f : Nat → Bool) (k : Nat) : cntB f k ≤ k := by
  induction k with
  | zero => exact Nat.le_refl _
  | succ k ih => rw [cntB]; split <;> omega
set_option maxRecDepth 100000 in
set_option maxHeartbeats 2000000 in
theorem rset_any (q g bits probes : Nat) (f : Nat → Bool) (w : World) (h : RW w q g bits probes f) (hb : bits ≤ 65536) :
    Calls Try.prog 55 #[.pointer (some ⟨q, 0, none⟩)] w fun e w' => e = .returned (.int .i64 (cntB f bits : Int)) ∧ w' = w := by
  have HB := Hid.mk' (rbits_x q g bits probes w h.rc)
  have c0 := h.rc.c0
  have HR := Hid.mk' h.rb
  have HL : Hid (∀ k, cntB f k ≤ k) := cntB_le f
  clear h
  go_enter Try.func55, Try.ntmps55
  go_wp2
  go_loopw [3, 4] (fun n i wr => wr = w ∧ ∃ k : Nat, k ≤ bits ∧ i = .int .i64 (k : Int) ∧ n = .int .i64 (cntB f k : Int)) (fun _ i _ => bits - (intOf i).toNat)
  case atStart => exact ⟨rfl, 0, by omega, rfl, rfl⟩
  case round =>
    obtain ⟨rfl, k, hk, rfl, rfl⟩ := hrel
    have hcl := HL.out k
    by_cases hkb : k < bits
    · have hkb' : (k : Int) < (bits : Int) := by omega
      have c1 : wr.cell? ⟨g, k, none⟩ = some (.bool (f k)) := HR.out.cell hkb
      have ix := fun wx => index99 g bits bits k wx hkb
      have HS : Hid (cntB f (k + 1) = cntB f k + (if f k = true then 1 else 0)) := rfl
      cases hf : f k with
      | true =>
        rw [hf] at c1 HS
        have HS2 : Hid (cntB f (k + 1) = cntB f k + 1) := HS.out
        generalize cntB f k = C at *
        go_wp2_with (first
          | (go_at_call 52; refine HB.out.mono ?_; rintro e W ⟨rfl, hw⟩; obtain rfl := hw.symm; clear hw)
          | fail)
        exact ⟨⟨by first | trivial | rfl, k + 1, by omega, by go_num, by rw [HS2.out]; go_num⟩, by simp [intOf]; omega⟩
      | false =>
        rw [hf] at c1 HS
        have HS2 : Hid (cntB f (k + 1) = cntB f k) := HS.out
        generalize cntB f k = C at *
        go_wp2_with (first
          | (go_at_call 52; refine HB.out.mono ?_; rintro e W ⟨rfl, hw⟩; obtain rfl := hw.symm; clear hw)
          | fail)
        exact ⟨⟨by first | trivial | rfl, k + 1, by omega, by go_num, by rw [HS2.out]⟩, by simp [intOf]; omega⟩
    · obtain rfl : k = bits := by omega
      have hkb' : ¬ (k : Int) < (k : Int) := by omega
      go_wp2_with (first
        | (go_at_call 52; refine HB.out.mono ?_; rintro e W ⟨rfl, hw⟩; obtain rfl := hw.symm; clear hw)
        | fail)
      go_ret
      exact ⟨rfl, rfl⟩
end Go.Proofs.Ytdajeabhhkgibaa
