import Derived.Test.YtdajeabhhkgibaaVb
import Derived.Test.YtdajeabhhkgibaaVDo
namespace Go.Proofs.Ytdajeabhhkgibaa
open Go.RowKit
set_option linter.unusedVariables false
set_option linter.unusedSimpArgs false

theorem tmod_cases (n a : Int) (ha : 0 < a) : (0 ≤ n.tmod a ∧ n.tmod a = n % a) ∨ (n.tmod a < 0 ∧ n.tmod a + a = n % a) := by
  have h1 := Int.emod_nonneg n (show a ≠ 0 by omega)
  have h2 := Int.emod_lt_of_pos n ha
  rw [Int.tmod_eq_emod]
  split
  · left; omega
  · right
    have : ((a.natAbs : Nat) : Int) = a := by omega
    omega
set_option maxRecDepth 100000 in
theorem which_any (n : Int) (all : Nat) (w : World) (ha : 0 < all) (ha2 : all ≤ 1048576) :
    Calls Try.prog 11 #[.int .i64 n, .int .i64 (all : Int)] w fun e w' => e = .returned (.int .i64 (n % (all : Int))) ∧ w' = w := by
  have h1 := Int.emod_nonneg n (show (all : Int) ≠ 0 by omega)
  have h2 := Int.emod_lt_of_pos n (show 0 < (all : Int) by omega)
  have hz : ((all : Int) == 0) = false := by simp; omega
  have hz2 : ¬ (all : Int) = 0 := by omega
  have HR : Hid (n % (all : Int) = n % (all : Int)) := rfl
  rcases tmod_cases n (all : Int) (by omega) with ⟨c1, c2⟩ | ⟨c1, c2⟩
  · obtain ⟨R, hR⟩ : ∃ R, n % (all : Int) = R := ⟨_, rfl⟩
    rw [hR] at c2 h1 h2 ⊢
    clear hR HR
    rw [c2] at c1
    have c3 : ¬ R < 0 := by omega
    go_enter Try.func11, Try.ntmps11
    go_wp2
    go_ret
    exact ⟨rfl, rfl⟩
  · obtain ⟨R, hR⟩ : ∃ R, n % (all : Int) = R := ⟨_, rfl⟩
    rw [hR] at c2 h1 h2 ⊢
    clear hR HR
    go_enter Try.func11, Try.ntmps11
    go_wp2
    go_ret
    exact ⟨rfl, rfl⟩
set_option maxRecDepth 100000 in
theorem rbits_ok (bits : Nat) (w : World) (h1 : 8 ≤ bits) (h2 : bits ≤ 65536) (h3 : bits % 8 = 0) : Calls Try.prog 46 #[.int .i64 (bits : Int)] w fun e w' => e = .returned (.bool true) ∧ w' = w := by
  have e1 : (8 : Int) ≤ (bits : Int) := by omega
  have e2 : (bits : Int) ≤ 65536 := by omega
  have e3 : (bits : Int).tmod 8 = 0 := by rw [Int.tmod_eq_emod_of_nonneg (by omega)]; omega
  go_enter Try.func46, Try.ntmps46
  go_wp2
  go_ret
  exact ⟨rfl, rfl⟩
set_option maxRecDepth 100000 in
theorem rprobes_ok (probes : Nat) (w : World) (h4 : 1 ≤ probes) (h5 : probes ≤ 16) : Calls Try.prog 47 #[.int .i64 (probes : Int)] w fun e w' => e = .returned (.bool true) ∧ w' = w := by
  have e4 : (1 : Int) ≤ (probes : Int) := by omega
  have e5 : (probes : Int) ≤ 16 := by omega
  go_enter Try.func47, Try.ntmps47
  go_wp2
  go_ret
  exact ⟨rfl, rfl⟩
set_option maxRecDepth 100000 in
theorem new_ok (bits probes : Nat) (w : World) (h1 : 8 ≤ bits) (h2 : bits ≤ 65536) (h3 : bits % 8 = 0) (h4 : 1 ≤ probes) (h5 : probes ≤ 16) :
    Calls Try.prog 18 #[.int .i64 (bits : Int), .int .i64 (probes : Int)] w fun e w' => e = .returned (.tuple #[.pointer (some ⟨w.heap.size + 1, 0, none⟩), .int .i64 0]) ∧ FC w' (w.heap.size + 1) w.heap.size bits probes ∧ WR w' w.heap.size ((bits + 63) / 64) (fun _ => 0) ∧ Below w.heap.size w w' ∧ w.heap.size + 1 < w'.heap.size := by
  have HE := Hid.mk' (empty_any bits probes w h2 (by omega) h5)
  have H46 := Hid.mk' (rbits_ok bits w h1 h2 h3)
  have H47 := Hid.mk' (rprobes_ok probes w h4 h5)
  go_enter Try.func18, Try.ntmps18
  go_wp2_with (first
    | (go_at_call 46; refine H46.out.mono ?_; rintro e W ⟨rfl, hw⟩; obtain rfl := hw.symm)
    | (go_at_call 47; refine H47.out.mono ?_; rintro e W ⟨rfl, hw⟩; obtain rfl := hw.symm)
    | (go_at_call 40; refine HE.out.mono ?_; rintro e W ⟨rfl, k1, k2, k3, k4⟩; have K1 := Hid.mk' k1; have K2 := Hid.mk' k2; have K3 := Hid.mk' k3; have K4 := Hid.mk' k4; clear k1 k2 k3 k4)
    | fail)
  go_ret2
  exact ⟨rfl, K1.out, K2.out, K3.out, K4.out⟩
/-- A byte of the words. -/
def byW (ws : Nat → Nat) (i : Nat) : UInt8 := UInt8.ofNat (ws (i / 8) / 2 ^ (i % 8 * 8))
def bytesW (ws : Nat → Nat) (n : Nat) : List UInt8 := (List.range n).map (byW ws)
theorem bytesW_len (ws : Nat → Nat) (n : Nat) : (bytesW ws n).length = n := by simp [bytesW]
theorem info5x : (Try.prog.info? 5).map (fun i => (i.zero, i.size, i.bytes)) = some (some (.int .u8 0), 1, 1) := by kernel_rfl
set_option maxRecDepth 100000 in
theorem index53 (b n cap k : Nat) (w : World) (hk : k < n) : (Instr.indexAt 53 (.slice (some ⟨b, 0, none⟩) n cap) (.int .i64 (k : Int))).run Try.prog w = .ok (.pointer (some ⟨b, k, none⟩)) w := by
  rw [run_indexAt_slice (P := Try.prog) _ _ _ _ _ _ _ Try.underlying53]
  have hsz : (sizeOf (Try.prog.elem 53)).run Try.prog w = .ok 1 w := by kernel_rfl
  simp [hk, hsz, Addr.add_mid]
set_option maxRecDepth 100000 in
set_option maxHeartbeats 4000000 in
theorem bytes_any (g m n : Nat) (ws : Nat → Nat) (w : World) (h : WR w g m ws) (hw : ∀ i, ws i < 18446744073709551616) (hn : n ≤ 8 * m) (hm : m ≤ 1024) (h0 : 0 < n) :
    Calls Try.prog 76 #[.slice (some ⟨g, 0, none⟩) m m, .int .i64 (n : Int)] w fun e w' => e = .returned (.slice (some ⟨w.heap.size, 0, none⟩) n n) ∧ w'.rowIs w.heap.size 5 n (fun j => .int .u8 ((byW ws j).toNat : Int)) ∧ Below w.heap.size w w' := by
  have mk2 := run_make_row' (P := Try.prog) 53 5 (.int .u8 0) 1 Try.underlying53 info5x rfl .i64 .i64 n (by omega) (by omega)
  have hg := h.lt
  have HC : Hid (∀ wx, Below w.heap.size w wx → ∀ k, k < m → wx.cell? ⟨g, k, none⟩ = some (.int .u64 (ws k : Int))) := fun wx hb k hk => (hb.cell (p := ⟨g, k, none⟩) hg).trans (h.cell hk)
  have HW := Hid.mk' hw
  have H0 : Hid ((w.alloc (.cells (madeCells #[.int .u8 0] n) 5)).rowIs w.heap.size 5 n (fun j => if j < 0 then .int .u8 ((byW ws j).toNat : Int) else .int .u8 0)) := (World.rowIs_made w (.int .u8 0) n 5).congr (fun j _ => by rw [if_neg (by omega)])
  have HB0 : Hid (Below w.heap.size w (w.alloc (.cells (madeCells #[.int .u8 0] n) 5))) := (Below.refl _ _).alloc (Nat.le_refl _) _
  clear h hw
  go_enter Try.func76, Try.ntmps76
  go_wp2
  clear mk2
  generalize hB : w.heap.size = B at *
  have HBB := Hid.mk' hB
  clear hB
  go_loopw [11] (fun i wr => ∃ k : Nat, k ≤ n ∧ i = .int .i64 (k : Int) ∧ Hid (wr.rowIs B 5 n (fun j => if j < k then .int .u8 ((byW ws j).toNat : Int) else .int .u8 0)) ∧ Hid (Below B w wr)) (fun i _ => n - (intOf i).toNat)
  case atStart => exact ⟨0, by omega, rfl, H0, HB0⟩
  case round =>
    obtain ⟨k, hk, rfl, HR, HBe⟩ := hrel
    clear H0 HB0
    by_cases hkn : k < n
    · have hkn' : (k : Int) < (n : Int) := by omega
      have hd : k / 8 < m := by omega
      have c1 := HC.out wr HBe.out (k / 8) hd
      have ix := fun wx => index95 g m m (k / 8) wx hd
      have ix2 := fun wx => index53 B n n k wx hkn
      have e1 : (k : Int).tdiv 8 = ((k / 8 : Nat) : Int) := by rw [Int.tdiv_eq_ediv_of_nonneg (by omega)]; omega
      have e2 : (k : Int).tmod 8 = ((k % 8 : Nat) : Int) := by rw [Int.tmod_eq_emod_of_nonneg (by omega)]; omega
      have c2 : ∃ v, wr.cell? ⟨B, k, none⟩ = some (.int .u8 v) := ⟨0, by have := HR.out.cell hkn; rw [this, if_neg (by omega)]⟩
      obtain ⟨v0, c2⟩ := c2
      have f2 : wr.frozen? ⟨B, k, none⟩ = false := HR.out.frozen k
      have HN : Hid ((wr.setCell ⟨B, k, none⟩ (.int .u8 ((byW ws k).toNat : Int))).rowIs B 5 n (fun j => if j < k + 1 then .int .u8 ((byW ws j).toNat : Int) else .int .u8 0)) := (HR.out.set k _).congr (fun j _ => by
        by_cases e : j = k
        · subst e
          rw [if_pos rfl, if_pos (by omega)]
        · rw [if_neg e]
          by_cases e2 : j < k
          · rw [if_pos e2, if_pos (by omega)]
          · rw [if_neg e2, if_neg (by omega)])
      have HBN : Hid (Below B w (wr.setCell ⟨B, k, none⟩ (.int .u8 ((byW ws k).toNat : Int)))) := HBe.out.setCell (p := ⟨B, k, none⟩) (Nat.le_refl _) _
      have hby : ((byW ws k).toNat : Int) = (ws (k / 8) : Int) / 2 ^ (k % 8 * 8) % 256 := by
        unfold byW
        rw [UInt8.toNat_ofNat']
        have : (ws (k / 8) : Int) / 2 ^ (k % 8 * 8) = ((ws (k / 8) / 2 ^ (k % 8 * 8) : Nat) : Int) := by simp
        rw [this]
        generalize ws (k / 8) / 2 ^ (k % 8 * 8) = z
        omega
      have hlt := HW.out (k / 8)
      have hq : k % 8 < 8 := Nat.mod_lt _ (by omega)
      rw [hby] at HN HBN
      clear hby
      generalize ws (k / 8) = x at *
      generalize k / 8 = d at *
      generalize k % 8 = r at *
      go_wp2
      exact ⟨⟨k + 1, by omega, by go_num, HN, HBN⟩, by simp [intOf]; omega⟩
    · obtain rfl : k = n := by omega
      have hkn' : ¬ (k : Int) < (k : Int) := by omega
      have HF : Hid (wr.rowIs B 5 k (fun j => .int .u8 ((byW ws j).toNat : Int))) := HR.out.congr (fun j hj => by rw [if_pos hj])
      go_wp2
      go_ret
      refine ⟨?_, ?_, ?_⟩
      · rw [HBB.out]; rfl
      · rw [HBB.out]; exact HF.out
      · rw [HBB.out]; exact HBe.out
end Go.Proofs.Ytdajeabhhkgibaa
