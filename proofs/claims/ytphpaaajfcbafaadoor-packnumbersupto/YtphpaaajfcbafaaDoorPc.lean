import Derived.Test.YtphpaaajfcbafaaDoorPb
namespace Go.Proofs.YtphpaaajfcbafaaDoor.K
open Go.RowKit
set_option linter.unusedVariables false
set_option linter.unusedSimpArgs false

theorem hu22 : Tryd.prog.underlying 24 = some (.slice (Tryd.prog.elem 24)) := by kernel_rfl
theorem he22 : Tryd.prog.elem 24 = 35 := by kernel_rfl
theorem info24 : (Tryd.prog.info? 35).map (fun i => (i.zero, i.size, i.bytes)) = some (some (.int .u64 0), 1, 8) := by kernel_rfl
theorem info24' : ∃ i, Tryd.prog.info? 35 = some i ∧ i.zero = some (.int .u64 0) ∧ i.size = 1 ∧ i.bytes = 8 := by
  obtain ⟨i, h1, h2, h3, h4⟩ := info_parts info24
  exact ⟨i, h1, h2, h3, h4⟩
/-- l[k:] -/
theorem from22 (b off n cap k : Nat) (h : k ≤ n) (hc : n ≤ cap) : ∃ a', (∀ w, (Instr.sliceAt 24 (.slice (some ⟨b, off, none⟩) n cap) (some (.int .i64 (k : Int))) none none).run Tryd.prog w = .ok (.slice a' (n - k) (cap - k)) w) ∧ (k < n → a' = some ⟨b, off + k, none⟩) := by
  obtain ⟨i, hi, _, hs, _⟩ := info24'
  by_cases hk : k < cap
  · refine ⟨some ⟨b, off + k, none⟩, fun w => ?_, fun _ => rfl⟩
    rw [run_sliceAt_slice w _ _ _ _ _ hu22, run_slice_l w _ _ _ _ hu22 .i64 _ (by omega) (by omega), he22]
    have hne : ¬ (cap = k) := by omega
    simp [sizeOf, typeInfo, hi, hs, sliced, hne, Addr.add_mid]
  · obtain rfl : cap = k := by omega
    refine ⟨some ⟨b, off, none⟩, fun w => ?_, fun e => by omega⟩
    rw [run_sliceAt_slice w _ _ _ _ _ hu22, run_slice_l w _ _ _ _ hu22 .i64 _ (by omega) (by omega), he22]
    simp [sizeOf, typeInfo, hi, hs, sliced, Addr.add_mid]
/-- l[:k] -/
theorem to22 (b off n cap k : Nat) (h : k ≤ cap) (h0 : 0 < cap) (w : World) :
    (Instr.sliceAt 24 (.slice (some ⟨b, off, none⟩) n cap) none (some (.int .i64 (k : Int))) none).run Tryd.prog w = .ok (.slice (some ⟨b, off, none⟩) k cap) w := by
  obtain ⟨i, hi, _, hs, _⟩ := info24'
  rw [run_sliceAt_slice w _ _ _ _ _ hu22, run_slice_h w _ _ _ _ hu22 .i64 _ (by omega) (by omega), he22]
  simp [sizeOf, typeInfo, hi, hs, sliced, Addr.add_mid]
theorem Nums.drop {w : World} {b off : Nat} {L : List Nat} (k : Nat) (a' : Option Addr) (h : ∀ j, j < L.length → w.cell? ⟨b, off + j, none⟩ = some (.int .u64 ((L.getD j 0 : Nat) : Int))) (ha : k < L.length → a' = some ⟨b, off + k, none⟩) : Nums w a' (L.drop k) := by
  by_cases hk : k < L.length
  · right
    refine ⟨b, off + k, ha hk, fun j hj => ?_⟩
    rw [List.length_drop] at hj
    have := h (k + j) (by omega)
    rw [Nat.add_assoc, this]
    simp
  · left
    exact List.drop_of_length_le (by omega)
theorem Nums.take {w : World} {b off : Nat} {L : List Nat} (k : Nat) (h : ∀ j, j < L.length → w.cell? ⟨b, off + j, none⟩ = some (.int .u64 ((L.getD j 0 : Nat) : Int))) : Nums w (some ⟨b, off, none⟩) (L.take k) := by
  right
  refine ⟨b, off, rfl, fun j hj => ?_⟩
  rw [List.length_take] at hj
  rw [h j (by omega)]
  simp [List.getElem?_take, show j < k by omega]
theorem Nums.frw {w w' : World} {a : Option Addr} {L : List Nat} {p : Nat} {g : Option Nat} (h : Nums w a L) (hf : FrW p g w w') (hp : ∀ ad, a = some ad → ad.block ≠ p ∧ some ad.block ≠ g) : Nums w' a L := by
  rcases h with rfl | ⟨b, off, rfl, hc⟩
  · exact .inl rfl
  · refine .inr ⟨b, off, rfl, fun j hj => ?_⟩
    have h1 := hp _ rfl
    have hcj := hc j hj
    have e : w'.cell? ⟨b, off + j, none⟩ = w.cell? ⟨b, off + j, none⟩ := by
      unfold World.cell?
      rw [hf.block b (block_lt_of_cell hcj) h1.1 h1.2]
    rw [e, hcj]
variable {p : Nat} {g : Option Nat} {M : List UInt8}
set_option maxRecDepth 100000 in
set_option maxHeartbeats 2000000 in
/-- writeRow -/
theorem row_any (a : Option Addr) (L : List Nat) (n cap : Nat) (w : World) (hn : L.length = n) (h : Nums w a L) (hv : ∀ x ∈ L, x < 18446744073709551616) (hb : L.length ≤ 17592186044416) (hw : WS w 54 p g M 0)
    (hp : ∀ ad, a = some ad → ad.block ≠ p ∧ some ad.block ≠ g) (hlt : ∀ ad, a = some ad → ad.block < w.heap.size) (hsum : M.length + (vs L).length + 80 ≤ 225000000000000) :
    Calls Tryd.prog 28 #[.pointer (some ⟨p, 0, none⟩), .slice a n cap] w fun e w' => e = .returned (.tuple #[]) ∧ Wr w w' 54 p g (M ++ (vint (zig (-(L.length : Int))) ++ vs L)) 0 := by
  subst hn
  have z7 := zig_len (-(L.length : Int)) (by omega) (by omega)
  have H1 : Hid (∀ v : Int, v = -(L.length : Int) → Calls Tryd.prog 25 #[.pointer (some ⟨p, 0, none⟩), .int .i64 v] w fun x w' => x = .returned (.tuple #[]) ∧ Wr w w' 54 p g (M ++ vint (zig (-(L.length : Int)))) 0) := fun v hv => by
    subst hv
    have := wint_any (-(L.length : Int)) (by omega) (by omega) w hw (by omega)
    rw [wA_0] at this
    exact this
  have HU : Hid (∀ wx (P : List UInt8) (v : Nat), v < 18446744073709551616 → P.length ≤ 7 + (vs L).length → Wr w wx 54 p g (M ++ P) 0 → Calls Tryd.prog 26 #[.pointer (some ⟨p, 0, none⟩), .int .u64 (v : Int)] wx fun x w' => x = .returned (.tuple #[]) ∧ Wr w w' 54 p g (M ++ (P ++ vint v)) 0) := fun wx P v hv hP hx => by
    obtain ⟨g1, ws, fr, nw⟩ := hx
    refine (wuint_any v hv wx ws (by rw [List.length_append]; omega)).mono fun x w' h => ?_
    rw [wA_0, List.append_assoc] at h
    exact And.intro h.1 (Wr.step fr nw h.2)
  have HB : Hid (∀ wx (P : List UInt8), Wr w wx 54 p g P 0 → Nums wx a L) := fun wx P hx => by
    obtain ⟨g1, ws, fr, nw⟩ := hx
    exact h.frw fr hp
  have HV : Hid (∀ j, (L.getD j 0) < 18446744073709551616) := fun j => by
    by_cases hj : j < L.length
    · rw [List.getD_eq_getElem?_getD, List.getElem?_eq_getElem hj]; exact hv _ (List.getElem_mem hj)
    · rw [List.getD_eq_getElem?_getD, List.getElem?_eq_none (by omega)]; simp
  have HL : Hid (∀ k, (vs (L.take k)).length ≤ (vs L).length) := fun k => by
    have e := vs_app (L.take k) (L.drop k)
    rw [List.take_append_drop] at e
    rw [e, List.length_append]
    omega
  have HZ : Hid ((vint (zig (-(L.length : Int)))).length ≤ 7) := z7
  generalize (vs L).length = NV at *
  generalize hzz : vint (zig (-(L.length : Int))) = ZZ at *
  clear hw h hp hlt hsum hv z7 hzz
  go_enter Tryd.func28, Tryd.ntmps28
  go_wp2_with fail
  refine (H1.out _ (by first | rfl | (rw [IntKind.wrap_i64]; omega) | omega)).mono ?_
  rintro x w1 ⟨rfl, a1⟩
  have A1 := Hid.mk' a1
  clear a1 H1
  go_wp2
  go_loopw [5, 13] (fun _ i wr => ∃ j : Nat, i = .int .i64 (j : Int) ∧ j ≤ L.length ∧ Hid (Wr w wr 54 p g (M ++ (ZZ ++ vs (L.take j))) 0)) (fun _ i _ => L.length - (intOf i).toNat)
  case atStart => exact ⟨0, rfl, by omega, by show Wr _ _ _ _ _ _ _; rw [List.take_zero, vs_nil, List.append_nil]; exact A1.out⟩
  case round =>
    clear A1
    obtain ⟨j, rfl, hj, HW⟩ := hrel
    by_cases hjl : j < L.length
    · have hjl' : (j : Int) < (L.length : Int) := by omega
      obtain ⟨b, off, rfl, hbl, hc⟩ := (HB.out _ _ HW.out).open (by omega)
      have cc := hc j hjl
      have H := Hid.mk' (HU.out wr _ (L.getD j 0) (HV.out j) (by rw [List.length_append]; have := HL.out j; have := HZ.out; omega) HW.out)
      rw [List.append_assoc ZZ, ← vs_one, ← vs_app, show L.take j ++ [L.getD j 0] = L.take (j + 1) by rw [List.take_succ_eq_append_getElem (by omega)]; simp [List.getElem?_eq_getElem hjl]] at H
      generalize L.getD j 0 = bn at *
      clear HW hc
      go_wp2_with fail
      refine H.out.mono ?_
      rintro x w2 ⟨rfl, a2⟩
      have A2 := Hid.mk' a2
      clear a2
      go_wp2
      exact ⟨⟨j + 1, by go_num, by omega, A2⟩, by simp [intOf]; omega⟩
    · have hjl' : ¬ (j : Int) < (L.length : Int) := by omega
      have HW2 : Hid (Wr w wr 54 p g (M ++ (ZZ ++ vs L)) 0) := by
        have := HW.out
        rw [List.take_of_length_le (by omega)] at this
        exact this
      clear HW
      go_wp2
      go_end0
      exact ⟨rfl, HW2.out⟩
/-- A Writer that was made since: how far it is. -/
def WG (w W : World) (T : TypeId) (M : List UInt8) : Prop := Wr (w.alloc (.cells #[.slice none 0 0, .int .i64 0] T)) W T w.heap.size none M 0
theorem WG.start (w : World) (T : TypeId) : WG w (w.alloc (.cells #[.slice none 0 0, .int .i64 0] T)) T [] :=
  WS.wr ⟨⟨_, heap_alloc_new _ _, ownB_nil _ _, rfl⟩, by simp⟩
theorem WG.below {w W : World} {T : TypeId} {M : List UInt8} (h : WG w W T M) : Below w.heap.size w W := by
  obtain ⟨g', ws, fr, nw⟩ := h
  have b : Below w.heap.size w (w.alloc (.cells #[.slice none 0 0, .int .i64 0] T)) := (Below.refl _ _).alloc (Nat.le_refl _) _
  exact b.trans ⟨fr.os, fr.tape, fr.output, fr.size, fun k hk => fr.block k (by simp; omega) (by omega) (by simp)⟩
theorem WG.drew {w W : World} {T : TypeId} {M : List UInt8} (h : WG w W T M) (m : Nat) : WG w (W.drewN m) T M := Wr.post h (below_drewN (Below.refl _ _) m)
theorem WG.uint {w W : World} {M : List UInt8} (h : WG w W 54 M) (v : Nat) (hv : v < 18446744073709551616) (hM : M.length + 64 ≤ 225000000000000) :
    Calls Tryd.prog 26 #[.pointer (some ⟨w.heap.size, 0, none⟩), .int .u64 (v : Int)] W fun x w' => x = .returned (.tuple #[]) ∧ WG w w' 54 (M ++ vint v) := by
  obtain ⟨g', ws, fr, nw⟩ := h
  refine (wuint_any v hv W ws hM).mono ?_
  rintro e W' ⟨rfl, hr⟩
  rw [wA_0] at hr
  exact ⟨rfl, Wr.step fr nw hr⟩
theorem WG.int {w W : World} {M : List UInt8} (h : WG w W 54 M) (v : Int) (h0 : -9223372036854775808 ≤ v) (h1 : v < 9223372036854775808) (hM : M.length + 64 ≤ 225000000000000) :
    Calls Tryd.prog 25 #[.pointer (some ⟨w.heap.size, 0, none⟩), .int .i64 v] W fun x w' => x = .returned (.tuple #[]) ∧ WG w w' 54 (M ++ vint (zig v)) := by
  obtain ⟨g', ws, fr, nw⟩ := h
  refine (wint_any v h0 h1 W ws hM).mono ?_
  rintro e W' ⟨rfl, hr⟩
  rw [wA_0] at hr
  exact ⟨rfl, Wr.step fr nw hr⟩
theorem WG.done {w W : World} {M : List UInt8} (h : WG w W 54 M) (hM : M.length ≤ 225000000000000) :
    Calls Tryd.prog 29 #[.pointer (some ⟨w.heap.size, 0, none⟩)] W fun x w' => ∃ v, x = .returned (.tuple #[v, .int .i64 0]) ∧ OwnB w' w.heap.size v M ∧ Below w.heap.size w w' := by
  have hb := h.below
  obtain ⟨g', ws, fr, nw⟩ := h
  refine (wdone_own W ws hM).mono ?_
  rintro e W' ⟨v, rfl, ho, h2⟩
  rw [show dM M 0 = M by simp [dM]] at ho
  refine ⟨v, rfl, ⟨ho.1, ?_⟩, hb.trans (h2.mono hb.size)⟩
  rcases ho.2 with hn | ⟨gg, cap, cur, e, hg, r⟩
  · exact .inl hn
  · exact .inr ⟨gg, cap, cur, e, Nat.le_trans hb.size hg, r⟩
theorem WG.row {w W : World} {M : List UInt8} (h : WG w W 54 M) (a : Option Addr) (L : List Nat) (n cap : Nat) (hn : L.length = n) (hL : Nums W a L) (ha : ∀ ad, a = some ad → ad.block < w.heap.size) (hv : ∀ x ∈ L, x < 18446744073709551616) (hb : L.length ≤ 17592186044416) (hM : M.length + (vs L).length + 80 ≤ 225000000000000) :
    Calls Tryd.prog 28 #[.pointer (some ⟨w.heap.size, 0, none⟩), .slice a n cap] W fun x w' => x = .returned (.tuple #[]) ∧ WG w w' 54 (M ++ (vint (zig (-(L.length : Int))) ++ vs L)) := by
  obtain ⟨g', ws, fr, nw⟩ := h
  have hz := fr.size
  simp at hz
  refine (row_any a L n cap W hn hL hv hb ws (fun ad e => ⟨by have := ha ad e; omega, fun e2 => ?_⟩) (fun ad e => by have := ha ad e; omega) hM).mono ?_
  · have h1 := ha ad e
    rcases nw with e3 | ⟨k, e3, hk⟩
    · rw [e3] at e2; cases e2
    · rw [e3] at e2; cases e2; simp at hk; omega
  · rintro e W' ⟨rfl, hr⟩
    exact ⟨rfl, Wr.step fr nw hr⟩
end Go.Proofs.YtphpaaajfcbafaaDoor.K
