import Derived.Test.YtpalbfkkegaliaaOw
namespace Go.Proofs.Ytpalbfkkegaliaa
open Go.RowKit
set_option linter.unusedVariables false
set_option linter.unusedSimpArgs false

theorem hexl_two (h : List UInt8) (k : Nat) : hexl h (2 * k) ++ [hx (at8 h k / 16), hx (at8 h k % 16)] = hexl h (2 * (k + 1)) := by
  unfold hexl
  rw [show 2 * (k + 1) = 2 * k + 1 + 1 by omega, List.range_succ, List.range_succ]
  simp only [List.map_append, List.map_cons, List.map_nil, List.append_assoc, List.cons_append, List.nil_append]
  have e1 : dig h (2 * k) = at8 h k / 16 := by unfold dig; rw [if_pos (by omega), show 2 * k / 2 = k by omega]
  have e2 : dig h (2 * k + 1) = at8 h k % 16 := by unfold dig; rw [if_neg (by omega), show (2 * k + 1) / 2 = k by omega]
  rw [e1, e2]
theorem two_cells (x y : UInt8) : (bs [x, y]) = #[.int .u8 (x.toNat : Int), .int .u8 (y.toNat : Int)] := rfl
theorem byt_lit2 (w : World) (l : List UInt8) (t : TypeId) : Byt (w.alloc (.cells (bs l) t)) (some ⟨w.heap.size, 0, none⟩) l :=
  .inr ⟨w.heap.size, 0, rfl, fun j hj => by rw [Nat.zero_add]; exact (cell_of_row _ w.heap.size j _ _ _ (heap_alloc_new _ _)).trans (bs_get _ j hj)⟩

attribute [local go_sem ↓] index_digits
set_option maxRecDepth 100000 in
set_option maxHeartbeats 2000000 in
theorem hexOf_any (g : Nat) (h : List UInt8) (hl : h.length = 32) (w : World) (hg : w.heap[g]? = some (.cells (bs h) 25 (0, 0))) :
    Calls Try.prog 29 #[.slice (some ⟨g, 0, none⟩) 32 32] w fun e w' => e = .returned (.string ⟨(hexl h 64).toArray⟩) ∧ Below w.heap.size w w' := by
  have hgl : g < w.heap.size := (Array.getElem?_eq_some_iff.1 hg).1
  go_enter Try.func29, Try.ntmps29
  go_wp2
  go_loopw [3, 4] (fun v i wr => ∃ k : Nat, k ≤ 32 ∧ i = .int .i64 k ∧ OwnB wr w.heap.size v (hexl h (2 * k)) ∧ Below w.heap.size w wr) (fun _ i _ => 32 - (intOf i).toNat)
  case atStart => exact ⟨0, by omega, rfl, ownB_nil _ _, Below.refl _ _⟩
  case round =>
    obtain ⟨k, hk, rfl, own, bel⟩ := hrel
    have zr := bel.size
    obtain ⟨av, cv, rfl, hcv, byv, hav⟩ := own.open
    rw [hexl_len] at hcv own ⊢
    have HO : Hid (OwnB wr w.heap.size (.slice av (2 * k) cv) (hexl h (2 * k))) := own
    clear own
    by_cases hlt : k < 32
    · have hlt' : (k : Int) < 32 := by omega
      have cw := (cell_of_row w g k _ _ _ hg).trans (bs_get h k (by omega))
      have ck : wr.cell? ⟨g, k, none⟩ = some (.int .u8 (at8 h k)) := (bel.cell (p := ⟨g, k, none⟩) hgl).trans cw
      have b0 := at8_lo h k
      have b1 := at8_hi h k
      obtain ⟨d1, hd1⟩ : ∃ d1, d1 = at8 h k / 16 := ⟨_, rfl⟩
      obtain ⟨d2, hd2⟩ : ∃ d2, d2 = at8 h k % 16 := ⟨_, rfl⟩
      have l1 : 0 ≤ d1 := by omega
      have u1 : d1 < 16 := by omega
      have l2 : 0 ≤ d2 := by omega
      have u2 : d2 < 16 := by omega
      have beA : Below w.heap.size w (wr.drew.alloc (.cells #[.int .u8 ((hx d1).toNat : Int), .int .u8 ((hx d2).toNat : Int)] 5)) := (below_drewN bel 1).alloc (by show w.heap.size ≤ wr.heap.size; omega) _
      have beW : Below wr.heap.size wr (wr.drew.alloc (.cells #[.int .u8 ((hx d1).toNat : Int), .int .u8 ((hx d2).toNat : Int)] 5)) := (below_drewN (Below.refl _ _) 1).alloc (Nat.le_refl _) _
      have OA : Hid (OwnB (wr.drew.alloc (.cells #[.int .u8 ((hx d1).toNat : Int), .int .u8 ((hx d2).toNat : Int)] 5)) w.heap.size (.slice av (2 * k) cv) (hexl h (2 * k))) := HO.out.below beW
      have BA : Hid (Byt (wr.drew.alloc (.cells #[.int .u8 ((hx d1).toNat : Int), .int .u8 ((hx d2).toNat : Int)] 5)) (some ⟨wr.heap.size, 0, none⟩) [hx d1, hx d2]) := byt_lit2 wr.drew _ 5
      have SA : Hid ((hexl h (2 * k)).length + [hx d1, hx d2].length ≤ 140737488355328) := by show _ ≤ _; rw [hexl_len]; simp; omega
      have ZA : Hid (w.heap.size ≤ (wr.drew.alloc (.cells #[.int .u8 ((hx d1).toNat : Int), .int .u8 ((hx d2).toNat : Int)] 5)).heap.size) := by show _ ≤ _; simp; omega
      have sA : (wr.drew.alloc (.cells #[.int .u8 ((hx d1).toNat : Int), .int .u8 ((hx d2).toNat : Int)] 5)).cell? ⟨g, k, none⟩ = some (.int .u8 (at8 h k)) := (beA.cell (p := ⟨g, k, none⟩) hgl).trans cw
      have sD : wr.drew.cell? ⟨g, k, none⟩ = some (.int .u8 (at8 h k)) := ck
      have HT2 : Hid (hexl h (2 * k) ++ [hx d1, hx d2] = hexl h (2 * (k + 1))) := (by rw [hd1, hd2]; exact hexl_two h k)
      have q1 : (at8 h k).tdiv 16 = d1 := (by rw [hd1]; exact Int.tdiv_eq_ediv_of_nonneg b0)
      have q2 : (at8 h k).tmod 16 = d2 := (by rw [hd2]; exact Int.tmod_eq_emod_of_nonneg b0)
      have wr1 : IntKind.u8.wrap d1 = d1 := by rw [IntKind.wrap_u8]; omega
      have wr2 : IntKind.u8.wrap d2 = d2 := by rw [IntKind.wrap_u8]; omega
      have q3 := hd1.symm
      have q4 := hd2.symm
      clear hd1 hd2
      go_wp2
      go_region_held3 (fun w' => w'.cell? ⟨g, k, none⟩ = some (.int .u8 (at8 h k))) (first | assumption | go_keep) (first
        | (refine step_app rfl (.tmp 11) (.tmp 24) rfl w.heap.size (.slice av (2 * k) cv) (hexl h (2 * k)) (by first | rfl | simp [Act.eval, Act.put]) OA.out (some ⟨wr.heap.size, 0, none⟩) 2 2 [hx d1, hx d2] (by first | rfl | simp [Act.eval, Act.put]) rfl BA.out SA.out ZA.out ?_
           intro v3 w3 own3 gr3
           have b3 : Below w.heap.size w w3 := beA.grown gr3 ZA.out (fun k hk => (World.ownsRow.lt OA.out k hk).1)
           have s3 : w3.cell? ⟨g, k, none⟩ = some (.int .u8 (at8 h k)) := (b3.cell (p := ⟨g, k, none⟩) hgl).trans cw
           have O3 : Hid (OwnB w3 w.heap.size v3 (hexl h (2 * (k + 1)))) := (by rw [← HT2.out]; exact own3)
           clear own3 gr3)
        | fail)
      all_goals go_wp2
      all_goals exact ⟨⟨k + 1, by omega, by go_num, O3.out, b3⟩, by simp [intOf]; omega⟩
    · have hk2 : k = 32 := by omega
      subst hk2
      obtain ⟨g1, c1, e1, hc1, hcl, _, _⟩ := HO.out.open1 (by rw [hexl_len]; omega)
      rw [hexl_len] at e1
      cases e1
      have hcv := run_convert_bytes_back (P := Try.prog) wr 40 9 5 ⟨g1, 0, none⟩ cv (hexl h 64) Try.underlying40 Try.underlying5 Try.underlying9 (fun j hj => by
        have e : (⟨g1, 0, none⟩ : Addr).add j = ⟨g1, j, none⟩ := by simpa using Addr.add_mid g1 0 j
        rw [e, hcl j hj]
        simp [at8, List.getElem?_eq_getElem hj])
      rw [hexl_len] at hcv
      clear HO byv hav hcl hc1
      go_wp2
      go_ret
      exact ⟨rfl, bel⟩
set_option maxRecDepth 100000 in
set_option maxHeartbeats 2000000 in
theorem rhex_any (h : List UInt8) (hl : h.length = 32) (w : World) :
    Calls Try.prog 25 #[.agg (bs h)] w fun e w' => e = .returned (.string ⟨(hexl h 64).toArray⟩) ∧ Below w.heap.size w w' := by
  have H : Hid (Calls Try.prog 29 #[.slice (some ⟨w.heap.size, 0, none⟩) 32 32] (w.alloc (.cells (bs h) 25)) fun e w' => e = .returned (.string ⟨(hexl h 64).toArray⟩) ∧ Below w.heap.size w w') :=
    (hexOf_any w.heap.size h hl (w.alloc (.cells (bs h) 25)) (heap_alloc_new _ _)).mono fun e w' ⟨h1, h2⟩ => ⟨h1, ((Below.refl _ _).alloc (Nat.le_refl _) _).trans (h2.mono (by simp))⟩
  go_enter Try.func25, Try.ntmps25
  go_wp2_with fail
  refine H.out.mono ?_
  rintro e w1 ⟨rfl, b1⟩
  go_wp2
  go_ret
  exact ⟨rfl, b1⟩
end Go.Proofs.Ytpalbfkkegaliaa
