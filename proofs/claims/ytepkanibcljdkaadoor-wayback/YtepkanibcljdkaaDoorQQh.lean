import Derived.Test.YtepkanibcljdkaaDoorQQq
namespace Go.Proofs.YtepkanibcljdkaaDoor.Q
open Go.RowKit
set_option linter.unusedVariables false
set_option linter.unusedSimpArgs false

attribute [local go_sem ↓] index_digits
set_option maxRecDepth 100000 in
set_option maxHeartbeats 2000000 in
theorem hex_one (g : Nat) (c : UInt8) (w : World) (cv0 : Int) (hcv0 : cv0 = (c.toNat : Int)) (hg : w.heap[g]? = some (.cells #[.int .u8 cv0] 5 (0, 0))) :
    Calls Tryd.prog 48 #[.slice (some ⟨g, 0, none⟩) 1 1] w fun e w' => e = .returned (.string ⟨#[hx ((c.toNat : Int) / 16), hx ((c.toNat : Int) % 16)]⟩) ∧ Below w.heap.size w w' := by
  have hgl : g < w.heap.size := (Array.getElem?_eq_some_iff.1 hg).1
  have cw := (cell_of_row w g 0 _ _ _ hg).trans (show (#[.int .u8 cv0] : Array Value)[0]? = some (.int .u8 cv0) from rfl)
  have c0 : 0 ≤ cv0 := by omega
  have c1 : cv0 ≤ 255 := by have := c.toNat_lt; omega
  obtain ⟨d1, hd1⟩ : ∃ d1, d1 = cv0 / 16 := ⟨_, rfl⟩
  obtain ⟨d2, hd2⟩ : ∃ d2, d2 = cv0 % 16 := ⟨_, rfl⟩
  have l1 : 0 ≤ d1 := by omega
  have u1 : d1 < 16 := by omega
  have l2 : 0 ≤ d2 := by omega
  have u2 : d2 < 16 := by omega
  rw [← hcv0, ← hd1, ← hd2]
  clear hg hcv0
  go_enter Tryd.func48, Tryd.ntmps48
  go_wp2
  go_loopw [3, 4] (fun v i wr => ∃ k : Nat, k ≤ 1 ∧ i = .int .i64 k ∧ Hid (OwnB wr w.heap.size v (if k = 0 then [] else [hx d1, hx d2])) ∧ Hid (Below w.heap.size w wr)) (fun _ i _ => 1 - (intOf i).toNat)
  case atStart => exact ⟨0, by omega, rfl, ownB_nil _ _, Below.refl _ _⟩
  case round =>
    obtain ⟨k, hk, rfl, own, bel⟩ := hrel
    have zr := bel.out.size
    rcases (show k = 0 ∨ k = 1 by omega) with rfl | rfl
    · have own0 : OwnB wr w.heap.size u3 [] := own.out
      obtain ⟨av, cv, rfl, hcv, byv, hav⟩ := own0.open
      have ck : wr.cell? ⟨g, 0, none⟩ = some (.int .u8 cv0) := (bel.out.cell (p := ⟨g, 0, none⟩) hgl).trans cw
      have beA : Below w.heap.size w (wr.drew.alloc (.cells #[.int .u8 ((hx d1).toNat : Int), .int .u8 ((hx d2).toNat : Int)] 5)) := (below_drewN bel.out 1).alloc (by show w.heap.size ≤ wr.heap.size; omega) _
      have beW : Below wr.heap.size wr (wr.drew.alloc (.cells #[.int .u8 ((hx d1).toNat : Int), .int .u8 ((hx d2).toNat : Int)] 5)) := (below_drewN (Below.refl _ _) 1).alloc (Nat.le_refl _) _
      have OA : Hid (OwnB (wr.drew.alloc (.cells #[.int .u8 ((hx d1).toNat : Int), .int .u8 ((hx d2).toNat : Int)] 5)) w.heap.size (.slice av 0 cv) []) := own0.below beW
      have BA : Hid (Byt (wr.drew.alloc (.cells #[.int .u8 ((hx d1).toNat : Int), .int .u8 ((hx d2).toNat : Int)] 5)) (some ⟨wr.heap.size, 0, none⟩) [hx d1, hx d2]) := byt_lit2 wr.drew _ 5
      have SA : Hid (([] : List UInt8).length + [hx d1, hx d2].length ≤ 140737488355328) := (by simp : _ ≤ _)
      have ZA : Hid (w.heap.size ≤ (wr.drew.alloc (.cells #[.int .u8 ((hx d1).toNat : Int), .int .u8 ((hx d2).toNat : Int)] 5)).heap.size) := by show _ ≤ _; simp; omega
      have sA : (wr.drew.alloc (.cells #[.int .u8 ((hx d1).toNat : Int), .int .u8 ((hx d2).toNat : Int)] 5)).cell? ⟨g, 0, none⟩ = some (.int .u8 cv0) := (beA.cell (p := ⟨g, 0, none⟩) hgl).trans cw
      have sD : wr.drew.cell? ⟨g, 0, none⟩ = some (.int .u8 cv0) := ck
      have q1 : cv0.tdiv 16 = d1 := (by rw [hd1]; exact Int.tdiv_eq_ediv_of_nonneg c0)
      have q2 : cv0.tmod 16 = d2 := (by rw [hd2]; exact Int.tmod_eq_emod_of_nonneg c0)
      have wr1 : IntKind.u8.wrap d1 = d1 := by rw [IntKind.wrap_u8]; omega
      have wr2 : IntKind.u8.wrap d2 = d2 := by rw [IntKind.wrap_u8]; omega
      have q3 := hd1.symm
      have q4 := hd2.symm
      clear own own0 byv hav hd1 hd2
      go_wp2
      go_region_held3 (fun w' => w'.cell? ⟨g, 0, none⟩ = some (.int .u8 cv0)) (first | assumption | go_keep) (first
        | (refine step_app rfl (.tmp 11) (.tmp 24) rfl w.heap.size (.slice av 0 cv) [] (by first | rfl | simp [Act.eval, Act.put]) OA.out (some ⟨wr.heap.size, 0, none⟩) 2 2 [hx d1, hx d2] (by first | rfl | simp [Act.eval, Act.put]) rfl BA.out SA.out ZA.out ?_
           intro v3 w3 own3 gr3
           have b3 : Below w.heap.size w w3 := beA.grown gr3 ZA.out (fun k hk => (World.ownsRow.lt OA.out k hk).1)
           have s3 : w3.cell? ⟨g, 0, none⟩ = some (.int .u8 cv0) := (b3.cell (p := ⟨g, 0, none⟩) hgl).trans cw
           have O3 : Hid (OwnB w3 w.heap.size v3 [hx d1, hx d2]) := own3
           clear own3 gr3)
        | fail)
      all_goals go_wp2
      all_goals exact ⟨⟨1, by omega, by go_num, O3, b3⟩, by simp [intOf]⟩
    · have own1 : OwnB wr w.heap.size u3 [hx d1, hx d2] := own.out
      obtain ⟨g1, c1', e1, hc1, hcl, _, _⟩ := own1.open1 (by simp)
      subst e1
      have hcv := run_convert_bytes_back (P := Tryd.prog) wr 36 9 5 ⟨g1, 0, none⟩ c1' [hx d1, hx d2] Tryd.underlying36 Tryd.underlying5 Tryd.underlying9 (fun j hj => by
        have e : (⟨g1, 0, none⟩ : Addr).add j = ⟨g1, j, none⟩ := by simpa using Addr.add_mid g1 0 j
        rw [e, hcl j hj]
        simp [at8, List.getElem?_eq_getElem hj])
      simp only [List.length_cons, List.length_nil] at hcv
      clear own own1 hcl hc1 hd1 hd2
      go_wp2
      go_ret
      exact ⟨rfl, bel.out⟩
end Go.Proofs.YtepkanibcljdkaaDoor.Q
