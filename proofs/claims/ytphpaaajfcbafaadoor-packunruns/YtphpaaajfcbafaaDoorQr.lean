import Derived.Test.YtphpaaajfcbafaaDoorQp
namespace Go.Proofs.YtphpaaajfcbafaaDoor.K
open Go.RowKit
set_option linter.unusedVariables false
set_option linter.unusedSimpArgs false

variable {L : List UInt8}
set_option maxRecDepth 100000 in
set_option maxHeartbeats 1000000 in
/-- The document's UnRuns, of any number. -/
theorem rUn_all (n : Int) (a0 : Option Addr) (nb c0 : Nat) (w : World) (hl : L.length = nb) (hnb : nb ≤ 140737488351232) (hb : Byt w a0 L) (hn0 : -9223372036854775808 ≤ n) (hn : n ≤ 2147483647) :
    Calls Tryd.prog 7 #[.slice a0 nb c0, .int .i64 n] w fun e w' => UR w w' (unA L n) e := by
  by_cases hneg : n < 0
  · have HP : Hid (∀ W, Below w.heap.size w W → UR w W (unA L n) (.returned (.tuple #[.slice none 0 0, .int .i64 2, .int .i64 0]))) := fun W hW => by
      have e1 : unA L n = ([], 2, 0) := by unfold unA; rw [if_pos hneg]
      rw [e1]
      exact ⟨_, rfl, ownV_nil _ _ _, hW⟩
    clear hb
    go_enter Tryd.func7, Tryd.ntmps7
    go_wp2
    go_ret3
    exact HP.out _ (Below.refl _ _)
  · obtain ⟨m, rfl⟩ : ∃ m : Nat, n = (m : Int) := ⟨n.toNat, by omega⟩
    have e1 : unA L (m : Int) = un L m ⟨0, 0, 0⟩ [] false := by unfold unA; rw [if_neg hneg]; rfl
    rw [e1]
    exact rUn_any m a0 nb c0 w hl hnb hb (by omega)
def ts (X : List Nat) (k : Nat) : List Int := (dsl X).take k
theorem ts_succ (X : List Nat) (k : Nat) (h : k < X.length) : ts X (k + 1) = ts X k ++ [acc X (k + 1)] := by
  unfold ts
  rw [List.take_succ_eq_append_getElem (by rw [dsl_len]; exact h)]
  congr 2
  simp [dsl]
theorem ts_len (X : List Nat) (k : Nat) (h : k ≤ X.length) : (ts X k).length = k := by
  unfold ts
  rw [List.length_take, dsl_len]
  omega
set_option maxRecDepth 100000 in
set_option maxHeartbeats 4000000 in
/-- The document's UnDeltas. -/
theorem rUnD_all (n : Int) (a0 : Option Addr) (nb c0 : Nat) (w : World) (hl : L.length = nb) (hnb : nb ≤ 140737488351232) (hb : Byt w a0 L) (hn0 : -9223372036854775808 ≤ n) (hn : n ≤ 2147483647) :
    Calls Tryd.prog 9 #[.slice a0 nb c0, .int .i64 n] w fun e w' => UF w w' (unDA (unA L n)) e := by
  have HU := Hid.mk' (rUn_all n a0 nb c0 w hl hnb hb hn0 hn)
  have hok := unA_ok L n hn
  clear hb
  generalize unA L n = A at *
  obtain ⟨X, y, z⟩ := A
  go_enter Tryd.func9, Tryd.ntmps9
  go_wp2_with (first
    | (go_at_call 7; refine HU.out.mono ?_)
    | fail)
  rintro e w1 hur
  obtain ⟨v, rfl, ho, hbe⟩ := hur
  simp only at ho hok ⊢
  obtain ⟨ax, cx, rfl, _, hx, _⟩ := ho.open
  rw [uC_len]
  have HS := Hid.mk' (vals_nums hx)
  have HB1 := Hid.mk' hbe
  have HX := Hid.mk' hok.2
  have hxl := hok.1
  clear ho hx hbe hok HU
  by_cases hy : y = 0
  · subst hy
    have HFin : Hid (∀ W av cv, OwnV W w1.heap.size 2 (.slice av X.length cv) (sC (dsl X)) → Below w1.heap.size w1 W → UF w W (unDA (X, 0, z)) (.returned (.tuple #[.slice av X.length cv, .int .i64 0, .int .i64 0]))) := fun W av cv o b => by
      have e1 : unDA (X, 0, z) = (dsl X, 0, 0) := by simp [unDA]
      rw [e1]
      obtain ⟨a2, c2, e2, _, hv2, _⟩ := o.open
      simp only [Value.slice.injEq] at e2
      obtain ⟨rfl, _, rfl⟩ := e2
      exact ⟨_, _, by rw [dsl_len], vals_sgn hv2, HB1.out.trans (b.mono HB1.out.size)⟩
    clear HB1
    go_wp2
    go_loopw [10, 11, 12, 13] (fun d la i _ wr => ∃ (k : Nat) (av : Option Addr) (cv : Nat), k ≤ X.length ∧ i = .int .i64 (k : Int) ∧ la = .int .i64 (acc X k) ∧ d = .slice av k cv ∧ Hid (OwnV wr w1.heap.size 2 (.slice av k cv) (sC (ts X k))) ∧ Hid (Below w1.heap.size w1 wr)) (fun _ _ i _ _ => X.length - (intOf i).toNat)
    case atStart => exact ⟨0, none, 0, by omega, rfl, rfl, rfl, ownV_nil _ _ _, Below.refl _ _⟩
    case round =>
      obtain ⟨k, av, cv, hk, rfl, rfl, rfl, HO, HBe⟩ := hrel
      have HLn := Hid.mk' (ts_len X k hk)
      by_cases hkn : k < X.length
      · have hkn' : (k : Int) < (X.length : Int) := by omega
        have HLn2 := Hid.mk' (ts_len X (k + 1) hkn)
        have HT := Hid.mk' (ts_succ X k hkn)
        obtain ⟨b, off, rfl, hbl, hc⟩ := HS.out.open (by omega)
        have c1 : wr.cell? ⟨b, off + k, none⟩ = some (.int .u64 ((X.getD k 0 : Nat) : Int)) := (HBe.out.cell (p := ⟨b, off + k, none⟩) hbl).trans (hc k hkn)
        have hlt : X.getD k 0 < 18446744073709551616 := by rw [List.getD_eq_getElem?_getD, List.getElem?_eq_getElem hkn]; exact HX.out _ (List.getElem_mem hkn)
        have hacc : wrap64 (acc X k + unzig (X.getD k 0)) = acc X (k + 1) := by show _ = IntKind.i64.wrap _; rw [IntKind.wrap_i64]; unfold wrap64; omega
        generalize hk1 : acc X (k + 1) = ak1 at *
        have HK1 := Hid.mk' hk1
        generalize acc X k = ak at *
        generalize X.getD k 0 = x at *
        clear hc hk1
        have mkA : ∀ v : Int, Hid (OwnV (wr.alloc (.cells #[.int .i64 v] 2)) w1.heap.size 2 (.slice av k cv) (sC (ts X k)) ∧ Vals (wr.alloc (.cells #[.int .i64 v] 2)) (some ⟨wr.heap.size, 0, none⟩) [.int .i64 v] ∧ w1.heap.size ≤ (wr.alloc (.cells #[.int .i64 v] 2)).heap.size ∧ Below w1.heap.size w1 (wr.alloc (.cells #[.int .i64 v] 2))) := fun v => by
          have be : Below wr.heap.size wr (wr.alloc (.cells #[.int .i64 v] 2)) := (Below.refl _ _).alloc (Nat.le_refl _) _
          exact ⟨HO.out.below be, vals_lit _ _ _, Nat.le_trans HBe.out.size be.size, HBe.out.trans (be.mono HBe.out.size)⟩
        have hL : Hid (∀ v : Int, (sC (ts X k)).length + [Value.int .i64 v].length ≤ 28000000000000) := fun v => by rw [sC_len, HLn.out]; simp; omega
        have HA := Hid.mk' mkA
        clear mkA HO HBe
        by_cases hod : x % 2 = 1
        · have hz : unzig x = -((x / 2 : Nat) : Int) - 1 := by unfold unzig; rw [if_pos hod]
          rw [hz] at hacc
          have hdv : ((x / 2 : Nat) : Int) = (x : Int) / 2 := by omega
          rw [hdv] at hacc
          have hmod : (x : Int) % 2 = 1 := by omega
          have hw1 : IntKind.i64.wrap ((x : Int) / 2) = (x : Int) / 2 := by rw [IntKind.wrap_i64]; omega
          have hxb : 0 ≤ (x : Int) / 2 ∧ (x : Int) / 2 < 9223372036854775808 := by omega
          have hneg1 : wrap64 (-((x : Int) / 2)) = -((x : Int) / 2) := by unfold wrap64; omega
          have hneg2 : wrap64 (-((x : Int) / 2) - 1) = -((x : Int) / 2) - 1 := by unfold wrap64; omega
          clear hz hod hdv
          have HAcc := Hid.mk' hacc
          go_wp2_with (first | (at_builtin; refine wpList_appV rfl (.tmp 49) (.tmp 51) 28 2 (.int .i64 0) Tryd.underlying28 info2 rfl rfl w1.heap.size (.slice av k cv) (sC (ts X k)) rfl ((HA.out _).out.1) (some ⟨wr.heap.size, 0, none⟩) 1 1 [.int .i64 ak1] rfl rfl ((HA.out _).out.2.1) (by intro u hu; simp at hu; rw [hu]; rfl) (hL.out _) ((HA.out _).out.2.2.1) ?_) | fail)
          intro v' W1 own1 gr1 hblk
          have B1 : Hid (Below w1.heap.size w1 W1) := below_ownV (HA.out _).out.2.2.2 (HA.out _).out.1 gr1 (HA.out _).out.2.2.1
          have e1 : sC (ts X k) ++ [.int .i64 ak1] = sC (ts X (k + 1)) := by rw [HT.out]; simp [sC, HAcc.out]
          rw [e1] at own1
          obtain ⟨av2, cv2, rfl, _⟩ := own1.open
          rw [sC_len, HLn2.out] at own1 ⊢
          have O1 : Hid (OwnV W1 w1.heap.size 2 (.slice av2 (k + 1) cv2) (sC (ts X (k + 1)))) := own1
          clear own1 gr1 hblk e1
          go_wp2
          go_roundw
          case rel => exact ⟨k + 1, av2, cv2, by omega, by go_num, by rw [HK1.out], rfl, O1, B1⟩
          case measure => simp [intOf]; omega
        · have hz : unzig x = ((x / 2 : Nat) : Int) := by unfold unzig; rw [if_neg hod]
          rw [hz] at hacc
          have hdv : ((x / 2 : Nat) : Int) = (x : Int) / 2 := by omega
          rw [hdv] at hacc
          have hmod : (x : Int) % 2 = 0 := by omega
          have hw1 : IntKind.i64.wrap ((x : Int) / 2) = (x : Int) / 2 := by rw [IntKind.wrap_i64]; omega
          have hxb : 0 ≤ (x : Int) / 2 ∧ (x : Int) / 2 < 9223372036854775808 := by omega
          clear hz hod hdv
          have HAcc := Hid.mk' hacc
          go_wp2_with (first | (at_builtin; refine wpList_appV rfl (.tmp 49) (.tmp 51) 28 2 (.int .i64 0) Tryd.underlying28 info2 rfl rfl w1.heap.size (.slice av k cv) (sC (ts X k)) rfl ((HA.out _).out.1) (some ⟨wr.heap.size, 0, none⟩) 1 1 [.int .i64 ak1] rfl rfl ((HA.out _).out.2.1) (by intro u hu; simp at hu; rw [hu]; rfl) (hL.out _) ((HA.out _).out.2.2.1) ?_) | fail)
          intro v' W1 own1 gr1 hblk
          have B1 : Hid (Below w1.heap.size w1 W1) := below_ownV (HA.out _).out.2.2.2 (HA.out _).out.1 gr1 (HA.out _).out.2.2.1
          have e1 : sC (ts X k) ++ [.int .i64 ak1] = sC (ts X (k + 1)) := by rw [HT.out]; simp [sC, HAcc.out]
          rw [e1] at own1
          obtain ⟨av2, cv2, rfl, _⟩ := own1.open
          rw [sC_len, HLn2.out] at own1 ⊢
          have O1 : Hid (OwnV W1 w1.heap.size 2 (.slice av2 (k + 1) cv2) (sC (ts X (k + 1)))) := own1
          clear own1 gr1 hblk e1
          go_wp2
          go_roundw
          case rel => exact ⟨k + 1, av2, cv2, by omega, by go_num, by rw [HK1.out], rfl, O1, B1⟩
          case measure => simp [intOf]; omega
      · obtain rfl : k = X.length := by omega
        have hkn' : ¬ (X.length : Int) < (X.length : Int) := by omega
        have hall : ts X X.length = dsl X := by unfold ts; rw [List.take_of_length_le (by rw [dsl_len]; exact Nat.le_refl _)]
        rw [hall] at HO
        have HF := Hid.mk' (HFin.out _ _ _ HO.out HBe.out)
        clear HO HBe hall
        go_wp2
        go_ret3
        exact HF.out
  · have HF : Hid (UF w w1 (unDA (X, y, z)) (.returned (.tuple #[.slice none 0 0, .int .i64 y, .int .i64 z]))) := by
      have e1 : unDA (X, y, z) = ([], y, z) := by unfold unDA; rw [if_neg hy]
      rw [e1]
      exact ⟨none, 0, rfl, .inl rfl, HB1.out⟩
    have hy1 : (y == 0) = false := by simp [hy]
    have hy2 : (y != 0) = true := by simp [hy]
    clear hy
    go_wp2
    go_ret3
    exact HF.out
end Go.Proofs.YtphpaaajfcbafaaDoor.K
