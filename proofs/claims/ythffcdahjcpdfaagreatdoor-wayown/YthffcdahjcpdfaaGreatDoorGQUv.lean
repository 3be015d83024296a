import Derived.Test.YthffcdahjcpdfaaGreatDoorGQUm
import Derived.Test.YthffcdahjcpdfaaGreatDoorGPb
import Derived.Deep.RegionWith
namespace Go.Proofs.YthffcdahjcpdfaaGreatDoor.Q
open Go.RowKit
set_option linter.unusedVariables false
set_option linter.unusedSimpArgs false

/-- How great what Unquote tells may be. -/
def UB (s : ByteArray) : Prop := 0 ≤ (unqA s).2.1 ∧ (unqA s).2.1 ≤ (s.size : Int) ∧ ((unqA s).2.2 = 0 → 1 ≤ (unqA s).2.1) ∧ ((unqA s).2.2 = 0 ∨ (unqA s).2.2 = 31) ∧ (unqA s).1.length ≤ s.size
def UnqB (s : ByteArray) (w : World) (e : Ending) (w' : World) : Prop := e = .returned (.tuple #[.string ⟨(unqA s).1.toArray⟩, .int .i64 (unqA s).2.1, .int .i64 (unqA s).2.2]) ∧ Below w.heap.size w w' ∧ UB s
theorem unqb_mk {s : ByteArray} {w w' : World} {l : List UInt8} {a b : Int} (h : unqA s = (l, a, b)) (hw : Below w.heap.size w w') (h1 : 0 ≤ a) (h2 : a ≤ (s.size : Int)) (h3 : b = 0 → 1 ≤ a) (h4 : b = 0 ∨ b = 31) (h5 : l.length ≤ s.size) : UnqB s w (.returned (.tuple #[.string ⟨l.toArray⟩, .int .i64 a, .int .i64 b])) w' :=
  ⟨by rw [h], hw, by unfold UB; rw [h]; exact ⟨h1, h2, h3, h4, h5⟩⟩
theorem unqb_mk0 {s : ByteArray} {w w' : World} {a b : Int} (h : unqA s = ([], a, b)) (hw : Below w.heap.size w w') (h1 : 0 ≤ a) (h2 : a ≤ (s.size : Int)) (h3 : b = 0 → 1 ≤ a) (h4 : b = 0 ∨ b = 31) : UnqB s w (.returned (.tuple #[.string { data := #[] }, .int .i64 a, .int .i64 b])) w' :=
  ⟨by rw [h], hw, by unfold UB; rw [h]; exact ⟨h1, h2, h3, h4, Nat.zero_le _⟩⟩
set_option maxRecDepth 100000 in
set_option maxHeartbeats 4000000 in
theorem unquote_b (s : ByteArray) (w : World) (hs : s.size ≤ 140737488351232) (hT : Tabs w) :
    Calls Tryz.prog 56 #[.string s] w (UnqB s w) := by
  by_cases h0 : s.size = 0
  · have hE := empty_list h0
    have hA : unqA s = ([], 0, 31) := by unfold unqA; rw [if_pos (.inl h0)]
    go_enter Tryz.func56, Tryz.ntmps56
    go_wp2
    exact bodyPost_ret (res17 _ _ _ _ _ rfl rfl rfl) rfl (unqb_mk0 hA (Below.refl _ _) (by omega) (by omega) (by omega) (.inr rfl))
  have h0s : 0 < s.size := by omega
  have h0' : (0 : Int) < (s.size : Int) := by omega
  have hE := not_empty s h0s
  obtain ⟨b0, hb0⟩ : ∃ b, (s[0]'h0s).toNat = b := ⟨_, rfl⟩
  have g0 : by8 s 0 = b0 := by rw [by8_get s 0 h0s, hb0]
  by_cases hq : b0 = 34
  · have hA : Hid (unqF s s.size 1 [] = unqA s) := by
      show _ = _
      unfold unqA
      rw [if_neg (by rw [g0]; omega)]
    have c0 : ((b0 : Int) != 34) = false := by rw [hq]; rfl
    clear g0 hq
    have HT : Hid (Tabs w) := hT
    clear hT
    go_enter Tryz.func56, Tryz.ntmps56
    go_wp2
    go_loopw [6] (fun i wr => ∃ (k f : Nat) (acc : List UInt8), i = .int .i64 k ∧ k ≤ s.size ∧ 1 ≤ k ∧ Hid (s.size + 1 ≤ k + f) ∧ Hid (acc.length ≤ k) ∧ Hid (Lib.IsBuilderF 163 5 w.heap.size w.heap.size (Lib.byteCells acc) wr) ∧ Hid (Below w.heap.size w wr) ∧ Hid (unqF s f k acc = unqA s)) (fun i _ => s.size - (intOf i).toNat)
    case atStart => exact ⟨1, s.size, [], rfl, by omega, by omega, (by omega : _ ≤ _), (Nat.zero_le 1 : _ ≤ _), Lib.IsBuilderF.of (Lib.fresh_isBuilder 163 5 w), (Below.refl _ w).alloc (Nat.le_refl _) _, hA⟩
    case round =>
      obtain ⟨k, f, acc, rfl, hk, hk1, hf, hal, hI, bel, hF⟩ := hrel
      clear hA
      have hfp : ∃ f', f = f' + 1 := ⟨f - 1, by have := hf.out; omega⟩
      obtain ⟨f', rfl⟩ := hfp
      have ZB : Hid (w.heap.size ≤ wr.heap.size) := bel.out.size
      by_cases h1 : k < s.size
      · have h1' : (k : Int) < (s.size : Int) := by omega
        obtain ⟨b, hb⟩ : ∃ b, (s[k]'h1).toNat = b := ⟨_, rfl⟩
        have gk : by8 s k = b := by rw [by8_get s k h1, hb]
        by_cases h2 : b = 34
        · have c2 : ((b : Int) != 34) = false := by rw [h2]; rfl
          have c3 : ((k : Int) == (s.size : Int)) = false := beq_eq_false_iff_ne.2 (by omega)
          have hA : Hid (unqA s = (acc, (k : Int) + 1, 0)) := by
            show _ = _
            rw [← hF.out]
            exact unqF_shut h1 (by omega)
          clear gk h2 hF
          go_wp2_with fail
          refine (bstring_any w.heap.size w.heap.size acc _ hI.out ZB.out).mono ?_
          rintro e W1 ⟨rfl, _, b1, _⟩
          go_wp2
          exact bodyPost_ret (res17 _ _ _ _ _ rfl rfl rfl) rfl (unqb_mk hA.out (bel.out.trans b1) (by omega) (by omega) (by omega) (.inl rfl) (by have := hal.out; omega))
        · have c2 : ((b : Int) != 34) = true := bne_iff_ne.2 (by omega)
          have h2' : Hid (by8 s k ≠ 34) := by show _ ≠ _; omega
          obtain ⟨t, ht⟩ : ∃ t, s.extract k s.size = t := ⟨_, rfl⟩
          have zt : t.size = s.size - k := by rw [← ht, Lib.ext_size]
          have HC : Hid (Calls Tryz.prog 63 #[.string t] wr (ChrOut t wr)) := character_any t wr (by omega) (by omega) (HT.out.below bel.out)
          have ht' : Hid (s.extract k s.size = t) := ht
          clear gk h2
          go_wp2_with fail
          refine HC.out.mono ?_
          rintro e W1 ⟨⟨v, hv, rfl⟩, b1⟩
          obtain ⟨c, n, ok⟩ := v
          obtain ⟨n0, n1, nok⟩ := chr_ok (by omega) hv
          have HV : Hid (ChrV (s.extract k s.size) (c, n, ok)) := by show ChrV _ _; rw [ht'.out]; exact hv
          obtain ⟨m, rfl⟩ := Int.eq_ofNat_of_zero_le n0
          have B1 : Hid (Below w.heap.size w W1) := bel.out.trans (b1.mono bel.out.size)
          cases ok with
          | false =>
            have hA : Hid (unqA s = ([], (k : Int) + (m : Int), 31)) := by
              show _ = _
              rw [← hF.out]
              exact unqF_bad h1 h2'.out HV.out
            clear hv nok b1 hF HV
            go_wp2
            exact bodyPost_ret (res17 _ _ _ _ _ rfl rfl rfl) rfl (unqb_mk0 hA.out B1.out (by omega) (by omega) (by omega) (.inr rfl))
          | true =>
            obtain ⟨m1, c0', c1', el⟩ := nok rfl
            have hA : Hid (unqF s f' (k + m) (acc ++ Lib.encodeRune c) = unqA s) := by
              show _ = _
              rw [← hF.out, unqF_step h1 h2'.out HV.out]
              rfl
            have I1 : Hid (Lib.IsBuilderF 163 5 w.heap.size w.heap.size (Lib.byteCells acc) W1) := builder_below hI.out b1
            have Z1 : Hid (w.heap.size ≤ W1.heap.size) := B1.out.size
            have LB : Hid ((Lib.byteCells acc).length + 4 ≤ 140737488355328) := by
              show _ ≤ _
              rw [Lib.byteCells_length]
              have := hal.out
              omega
            have F2 : Hid (s.size + 1 ≤ k + m + f') := (by have := hf.out; omega : _ ≤ _)
            have L2 : Hid ((acc ++ Lib.encodeRune c).length ≤ k + m) := by
              show _ ≤ _
              rw [List.length_append]
              have := hal.out
              omega
            clear hv nok b1 hF HV hI bel el hf
            go_wp2_with fail
            refine (wrune_any w.heap.size w.heap.size _ c (by omega) (by omega) _ I1.out LB.out Z1.out).mono ?_
            rintro e W2 ⟨rfl, h2b, b2, _⟩
            have I2 : Hid (Lib.IsBuilderF 163 5 w.heap.size w.heap.size (Lib.byteCells (acc ++ Lib.encodeRune c)) W2) := by
              show Lib.IsBuilderF _ _ _ _ _ _
              rw [Lib.byteCells_append, Lib.byteCells_encodeRune]
              exact Or.inr h2b
            have B2 : Hid (Below w.heap.size w W2) := B1.out.trans b2
            clear h2b b2
            go_wp2
            go_roundw
            case rel => exact ⟨k + m, f', acc ++ Lib.encodeRune c, by go_num, by omega, by omega, F2, L2, I2, B2, hA⟩
            case measure => simp [intOf]; omega
      · obtain rfl : k = s.size := by omega
        have h1' : ¬ (s.size : Int) < (s.size : Int) := by omega
        have hA : Hid (unqA s = ([], (s.size : Int), 31)) := by
          show _ = _
          rw [← hF.out]
          exact unqF_end rfl
        clear hF
        go_wp2
        exact bodyPost_ret (res17 _ _ _ _ _ rfl rfl rfl) rfl (unqb_mk0 hA.out bel.out (by omega) (by omega) (by omega) (.inr rfl))
  · have c0 : ((b0 : Int) != 34) = true := bne_iff_ne.2 (by omega)
    have hA : unqA s = ([], 0, 31) := by unfold unqA; rw [if_pos (.inr (by rw [g0]; exact hq))]
    clear g0 hq
    go_enter Tryz.func56, Tryz.ntmps56
    go_wp2
    exact bodyPost_ret (res17 _ _ _ _ _ rfl rfl rfl) rfl (unqb_mk0 hA (Below.refl _ _) (by omega) (by omega) (by omega) (.inr rfl))
end Go.Proofs.YthffcdahjcpdfaaGreatDoor.Q

namespace Go.Proofs.YthffcdahjcpdfaaGreatDoor
open Go.RowKit
set_option linter.unusedVariables false
set_option linter.unusedSimpArgs false

/-- A key in quotes that stands at a place. -/
noncomputable def quP (s : ByteArray) (k0 : Nat) : ByteArray × Nat × Bool :=
  if (Q.unqA (s.extract k0 s.size)).2.2 ≠ 0 then (⟨#[]⟩, k0 + (Q.unqA (s.extract k0 s.size)).2.1.toNat, false)
  else if keyB ⟨(Q.unqA (s.extract k0 s.size)).1.toArray⟩ = false ∨ plS ⟨(Q.unqA (s.extract k0 s.size)).1.toArray⟩ = true then (⟨#[]⟩, k0, false)
  else (⟨(Q.unqA (s.extract k0 s.size)).1.toArray⟩, k0 + (Q.unqA (s.extract k0 s.size)).2.1.toNat, true)
/-- A key that stands at a place. -/
noncomputable def kyP (s : ByteArray) (k0 : Nat) : ByteArray × Nat × Bool :=
  if k0 < s.size ∧ K.V.by8 s k0 = 34 then quP s k0
  else if plN (s.extract k0 s.size) = 0 then (⟨#[]⟩, k0, false)
  else if 64 < plN (s.extract k0 s.size) then (⟨#[]⟩, k0 + 64, false)
  else (s.extract k0 (k0 + plN (s.extract k0 s.size)), k0 + plN (s.extract k0 s.size), true)
theorem sl_from (s : ByteArray) (k : Nat) (h : k ≤ s.size) (w : World) : (Instr.slice 9 (.string s) (some (.int .i64 (k : Int))) none none).run Tryz.prog w = .ok (.string (s.extract k s.size)) w := by
  have h1 : ¬ ((k : Int) < 0) := by omega
  simp [Instr.slice, run_underlying Tryz.underlying9, Instr.sliceBounds, Instr.sliceBound, asIntOf, h1, h]
theorem sl_both (s : ByteArray) (k m : Nat) (h : k ≤ m) (h2 : m ≤ s.size) (w : World) : (Instr.slice 9 (.string s) (some (.int .i64 (k : Int))) (some (.int .i64 (m : Int))) none).run Tryz.prog w = .ok (.string (s.extract k m)) w := by
  have h1 : ¬ ((k : Int) < 0) := by omega
  have h3 : ¬ ((m : Int) < 0) := by omega
  simp [Instr.slice, run_underlying Tryz.underlying9, Instr.sliceBounds, Instr.sliceBound, asIntOf, h1, h3, h, h2]
theorem plN_le (s : ByteArray) : plN s ≤ s.size := by
  have hz : s.data.toList.length = s.size := Array.length_toList
  unfold plN
  rw [← hz]
  exact (List.takeWhile_sublist _).length_le
theorem plN_is (s : ByteArray) : (plS s = true → (plN s : Int) = (s.size : Int)) ∧ (plS s = false → ¬ (plN s : Int) = (s.size : Int)) := ⟨fun h => by rw [plN_all h], fun h => by have := plN_ne h; omega⟩
set_option maxRecDepth 100000 in
set_option maxHeartbeats 1000000 in
theorem rquoted_any (s : ByteArray) (k0 : Nat) (w : World) (hk0 : k0 ≤ s.size) (hs : s.size ≤ 5000) (hT : K.V.Tabs w) (a0 a1 a2 : Addr) (hE : Snt w a0 a1 a2) :
    Calls Tryz.prog 48 #[.string s, .int .i64 (k0 : Int)] w fun e w' => e = .returned (.tuple #[.string (quP s k0).1, .int .i64 ((quP s k0).2.1 : Int), erV a2 (quP s k0).2.2]) ∧ Below w.heap.size w w' := by
  have zt : (s.extract k0 s.size).size = s.size - k0 := Lib.ext_size s k0
  have H := Hid.mk' (Q.unquote_b (s.extract k0 s.size) w (by omega) hT)
  have SL := sl_from s k0 hk0
  have HI : Hid (quP s k0 = if (Q.unqA (s.extract k0 s.size)).2.2 ≠ 0 then (⟨#[]⟩, k0 + (Q.unqA (s.extract k0 s.size)).2.1.toNat, false)
    else if keyB ⟨(Q.unqA (s.extract k0 s.size)).1.toArray⟩ = false ∨ plS ⟨(Q.unqA (s.extract k0 s.size)).1.toArray⟩ = true then (⟨#[]⟩, k0, false)
    else (⟨(Q.unqA (s.extract k0 s.size)).1.toArray⟩, k0 + (Q.unqA (s.extract k0 s.size)).2.1.toNat, true)) := rfl
  have HT := Hid.mk' (fun wx (h : Below w.heap.size w wx) => hT.below h)
  have HG : Hid (∀ wx, Below w.heap.size w wx → wx.cell? ⟨1, 0, none⟩ = some (.iface 189 (.pointer (some a2)))) := fun wx h => (hE.below h).g2
  generalize quP s k0 = R at *
  unfold Q.UnqB Q.UB at H
  generalize s.extract k0 s.size = t at *
  generalize Q.unqA t = U at *
  obtain ⟨l, n, er⟩ := U
  simp only [] at H HI
  obtain ⟨key, hkey⟩ : ∃ K : ByteArray, K = ⟨l.toArray⟩ := ⟨_, rfl⟩
  rw [← hkey] at H HI
  have hkl : key.size = l.length := by rw [hkey, ba_size]
  clear hE hT hkey
  go_enter Tryz.func48, Tryz.ntmps48
  go_wp2_with fail
  refine H.out.mono ?_
  rintro e w1 ⟨rfl, b1, u1, u2, u3, u4, u5⟩
  obtain ⟨m, rfl⟩ := Int.eq_ofNat_of_zero_le u1
  have hg := HG.out w1 b1
  have BW := Hid.mk' b1
  rcases u4 with rfl | rfl
  · have HK := Hid.mk' (wkey_any key w1 (HT.out w1 b1))
    have HPS : Hid (∀ wx, Calls Tryz.prog 44 #[.string key] wx fun e w' => e = .returned (.int .i64 (plN key : Int)) ∧ w' = wx) := fun wx => psize_any key wx (by omega)
    have HPN := Hid.mk' (plN_is key)
    clear H b1 u3
    cases hkb : keyB key with
    | false =>
      have HRR : Hid (R = (⟨#[]⟩, k0, false)) := by show _ = _; rw [HI.out, if_neg (by simp), if_pos (.inl hkb)]
      rw [hkb] at HK
      clear HI hkb HPS HPN
      go_wp2_with fail
      refine HK.out.mono ?_
      rintro e w2 ⟨rfl, b2⟩
      have BW2 : Hid (Below w.heap.size w w2) := BW.out.trans (b2.mono BW.out.size)
      have hg2 := HG.out w2 BW2.out
      clear HK b2 hg
      go_wp2
      go_quiet (fail)
      go_wp2
      go_ret3
      exact ⟨by rw [HRR.out]; rfl, below_drewN BW2.out _⟩
    | true =>
      rw [hkb] at HK
      by_cases hpl : plS key = true
      · have HRR : Hid (R = (⟨#[]⟩, k0, false)) := by show _ = _; rw [HI.out, if_neg (by simp), if_pos (.inr hpl)]
        have hN := HPN.out.1 hpl
        clear HI hkb HPN hpl
        go_wp2_with fail
        refine HK.out.mono ?_
        rintro e w2 ⟨rfl, b2⟩
        have BW2 : Hid (Below w.heap.size w w2) := BW.out.trans (b2.mono BW.out.size)
        have hg2 := HG.out w2 BW2.out
        clear HK b2 hg
        go_wp2_with fail
        refine (HPS.out _).mono ?_
        rintro e _ ⟨rfl, rfl⟩
        go_wp2
        go_quiet (fail)
        go_wp2
        go_ret3
        exact ⟨by rw [HRR.out]; rfl, below_drewN BW2.out _⟩
      · have HRR : Hid (R = (key, k0 + m, true)) := by show _ = _; rw [HI.out, if_neg (by simp), if_neg (by rw [hkb]; simp [hpl])]; rfl
        have hN := HPN.out.2 (by simpa using hpl)
        clear HI hkb HPN hpl
        go_wp2_with fail
        refine HK.out.mono ?_
        rintro e w2 ⟨rfl, b2⟩
        have BW2 : Hid (Below w.heap.size w w2) := BW.out.trans (b2.mono BW.out.size)
        clear HK b2 hg
        go_wp2_with fail
        refine (HPS.out _).mono ?_
        rintro e _ ⟨rfl, rfl⟩
        go_wp2
        go_ret3
        exact ⟨by rw [HRR.out]; simp [erV], BW2.out⟩
  · have HRR : Hid (R = (⟨#[]⟩, k0 + m, false)) := by show _ = _; rw [HI.out, if_pos (by simp)]; rfl
    clear HI H b1 u3
    go_wp2
    go_quiet (fail)
    go_wp2
    go_ret3
    exact ⟨by rw [HRR.out]; simp [erV], below_drewN BW.out _⟩
end Go.Proofs.YthffcdahjcpdfaaGreatDoor

namespace Go.Proofs.YthffcdahjcpdfaaGreatDoor
open Go.RowKit
set_option linter.unusedVariables false
set_option linter.unusedSimpArgs false

set_option maxRecDepth 100000 in
set_option maxHeartbeats 1000000 in
theorem rkey2_any (s : ByteArray) (k0 : Nat) (w : World) (hk0 : k0 ≤ s.size) (hs : s.size ≤ 5000) (hT : K.V.Tabs w) (a0 a1 a2 : Addr) (hE : Snt w a0 a1 a2) :
    Calls Tryz.prog 37 #[.string s, .int .i64 (k0 : Int)] w fun e w' => e = .returned (.tuple #[.string (kyP s k0).1, .int .i64 ((kyP s k0).2.1 : Int), erV a2 (kyP s k0).2.2]) ∧ Below w.heap.size w w' := by
  have zt : (s.extract k0 s.size).size = s.size - k0 := Lib.ext_size s k0
  have HQ := Hid.mk' (rquoted_any s k0 w hk0 hs hT a0 a1 a2 hE)
  have HG : Hid (∀ wx, Below w.heap.size w wx → wx.cell? ⟨1, 0, none⟩ = some (.iface 189 (.pointer (some a2)))) := fun wx h => (hE.below h).g2
  have HX : Hid (k0 < s.size → ∀ wx, (Instr.index 9 (.string s) (.int .i64 (k0 : Int))).run Tryz.prog wx = .ok (.int .u8 (K.V.by8 s k0 : Int)) wx) := fun h wx => K.V.index_str s k0 wx h
  by_cases hq : k0 < s.size ∧ K.V.by8 s k0 = 34
  · have HI : Hid (kyP s k0 = quP s k0) := by show _ = _; unfold kyP; rw [if_pos hq]
    have ix := HX.out hq.1
    rw [hq.2] at ix
    have h1 : (k0 : Int) < (s.size : Int) := by omega
    generalize kyP s k0 = R at *
    generalize quP s k0 = U at *
    obtain ⟨ky, m, ok⟩ := U
    simp only [] at HQ
    clear hE hT hq HX HG
    go_enter Tryz.func37, Tryz.ntmps37
    go_wp2_with fail
    refine HQ.out.mono ?_
    rintro e w1 ⟨rfl, b1⟩
    have BW := Hid.mk' b1
    clear HQ b1
    generalize hev : erV a2 ok = EV at *
    go_wp2
    go_ret3
    exact ⟨by rw [HI.out, hev]; rfl, BW.out⟩
  · have SL := sl_from s k0 hk0
    have HPS := Hid.mk' (psize_any (s.extract k0 s.size) w (by omega))
    have hle := plN_le (s.extract k0 s.size)
    have HI : Hid (kyP s k0 = if plN (s.extract k0 s.size) = 0 then (⟨#[]⟩, k0, false)
      else if 64 < plN (s.extract k0 s.size) then (⟨#[]⟩, k0 + 64, false)
      else (s.extract k0 (k0 + plN (s.extract k0 s.size)), k0 + plN (s.extract k0 s.size), true)) := by show _ = _; unfold kyP; rw [if_neg hq]
    generalize kyP s k0 = R at *
    generalize s.extract k0 s.size = t at *
    generalize plN t = m at *
    have hg := HG.out w (Below.refl _ _)
    have SB := sl_both s k0 (k0 + m) (by omega) (by omega)
    have e1 : ((k0 + m : Nat) : Int) = (k0 : Int) + (m : Int) := by omega
    rw [e1] at SB
    clear hE hT HQ HG
    have key : Hid (∀ (P : Prop), (k0 < s.size → ¬ (K.V.by8 s k0 : Int) = 34 → P) → (¬ k0 < s.size → P) → P) := fun P f g => by
      by_cases h : k0 < s.size
      · exact f h (by have : ¬ K.V.by8 s k0 = 34 := fun e => hq ⟨h, e⟩; omega)
      · exact g h
    by_cases hks : k0 < s.size
    · have hks' : (k0 : Int) < (s.size : Int) := by omega
      have ix := HX.out hks
      have h34 : ¬ (K.V.by8 s k0 : Int) = 34 := by have : ¬ K.V.by8 s k0 = 34 := fun e => hq ⟨hks, e⟩; omega
      clear hq HX key
      generalize K.V.by8 s k0 = c at *
      have h34b : ((c : Int) == 34) = false := by simp; omega
      by_cases h0 : m = 0
      · have HRR : Hid (R = (⟨#[]⟩, k0, false)) := by show _ = _; rw [HI.out, if_pos h0]
        subst h0
        clear HI
        go_enter Tryz.func37, Tryz.ntmps37
        go_wp2_with fail
        refine HPS.out.mono ?_
        rintro e _ ⟨rfl, rfl⟩
        go_wp2
        go_quiet (fail)
        go_wp2
        go_ret3
        exact ⟨by rw [HRR.out]; simp [erV], below_drewN (Below.refl _ _) _⟩
      · have h0' : ((m : Int) == 0) = false := by simp; omega
        by_cases h64 : 64 < m
        · have h64' : (64 : Int) < (m : Int) := by omega
          have HRR : Hid (R = (⟨#[]⟩, k0 + 64, false)) := by show _ = _; rw [HI.out, if_neg h0, if_pos h64]
          clear HI
          go_enter Tryz.func37, Tryz.ntmps37
          go_wp2_with fail
          refine HPS.out.mono ?_
          rintro e _ ⟨rfl, rfl⟩
          go_wp2
          go_quiet (fail)
          go_wp2
          go_ret3
          exact ⟨by rw [HRR.out]; simp [erV], below_drewN (Below.refl _ _) _⟩
        · have h64' : ¬ (64 : Int) < (m : Int) := by omega
          have HRR : Hid (R = (s.extract k0 (k0 + m), k0 + m, true)) := by show _ = _; rw [HI.out, if_neg h0, if_neg h64]
          clear HI
          go_enter Tryz.func37, Tryz.ntmps37
          go_wp2_with fail
          refine HPS.out.mono ?_
          rintro e _ ⟨rfl, rfl⟩
          go_wp2
          go_ret3
          exact ⟨by rw [HRR.out]; simp [erV], Below.refl _ _⟩
    · have hks' : ¬ (k0 : Int) < (s.size : Int) := by omega
      clear hq HX key
      have h0 : m = 0 := by omega
      have HRR : Hid (R = (⟨#[]⟩, k0, false)) := by show _ = _; rw [HI.out, if_pos h0]
      subst h0
      clear HI
      go_enter Tryz.func37, Tryz.ntmps37
      go_wp2_with fail
      refine HPS.out.mono ?_
      rintro e _ ⟨rfl, rfl⟩
      go_wp2
      go_quiet (fail)
      go_wp2
      go_ret3
      exact ⟨by rw [HRR.out]; simp [erV], below_drewN (Below.refl _ _) _⟩
end Go.Proofs.YthffcdahjcpdfaaGreatDoor

