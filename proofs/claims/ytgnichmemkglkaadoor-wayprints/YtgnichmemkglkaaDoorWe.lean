import Derived.Test.YtgnichmemkglkaaDoorWd
import Derived.Lib.ItoaLen
namespace Go.Proofs.YtgnichmemkglkaaDoor
open Go.RowKit
set_option linter.unusedVariables false
set_option linter.unusedSimpArgs false

theorem step_cases {p : St} (h : stepB p = true) : (p.k = 1 ∧ 0 < p.s.size ∧ p.s.size ≤ 64 ∧ Lib.validD p.s.data.toList = true) ∨ (p.k = 2 ∧ 0 ≤ p.n ∧ p.n ≤ 2147483647) ∨ (p.k = 3 ∧ 0 ≤ p.n ∧ p.n ≤ 2147483647) := by
  unfold stepB at h
  split at h
  · next h1 =>
    unfold keyB rightB at h
    simp only [Bool.and_eq_true, decide_eq_true_eq] at h
    exact .inl ⟨h1, h.1.1.1, h.1.1.2, h.1.2.2⟩
  · split at h
    · next h2 =>
      simp only [Bool.and_eq_true, decide_eq_true_eq] at h
      rcases h2 with h2 | h2
      · exact .inr (.inl ⟨h2, h.1.2, h.2⟩)
      · exact .inr (.inr ⟨h2, h.1.2, h.2⟩)
    · cases h
theorem stepT_len {p : St} (h : stepB p = true) : 1 ≤ (stepT p).length ∧ (stepT p).length ≤ 500 := by
  have hs : p.s.data.toList.length = p.s.size := Array.length_toList
  unfold stepT
  rcases step_cases h with ⟨h1, h2, h3, h4⟩ | ⟨h1, h2, h3⟩ | ⟨h1, h2, h3⟩
  · rw [if_neg (by omega), if_neg (by omega)]
    have := Q.quoL_len p.s.data.toList
    split <;> simp <;> omega
  · have := Lib.itoa_length_le p.n (by omega) (by omega)
    rw [if_pos h1]
    simp
    omega
  · have := Lib.itoa_length_le p.n (by omega) (by omega)
    rw [if_neg (by omega), if_pos h1]
    simp
    omega
theorem astep_any (base : Nat) (v : Value) (L : List UInt8) (p : St) (w : World) (hown : Q.OwnB w base v L) (hbase : base ≤ w.heap.size) (hlen : L.length + 1000 ≤ 140737488355328) (hP : PowB base w) (hTB : ∀ wx, Below base w wx → Q.Tabs wx) (hp : stepB p = true) :
    Calls Tryd.prog 14 #[v, .agg #[.int .u8 p.k, .string p.s, .int .i64 p.n]] w fun e w' => ∃ v', e = .returned v' ∧ Q.OwnB w' base v' (L ++ stepT p) ∧ Below base w w' := by
  obtain ⟨k, s, n⟩ := p
  rcases step_cases hp with ⟨h1, h2, h3, h4⟩ | ⟨h1, h2, h3⟩ | ⟨h1, h2, h3⟩ <;> simp only [] at h1 h2 h3 <;> subst h1
  · exact astep_key base v L s n w hown hbase hlen h3 h4 hTB
  · exact astep_idx base v L s n w hown hbase hlen h2 h3 hP (Lib.itoa_length_le n (by omega) (by omega))
  · exact astep_kid base v L s n w hown hbase hlen h2 h3 hP (Lib.itoa_length_le n (by omega) (by omega))
/-- The text of a way. -/
def printL (l : List St) : List UInt8 := if l.length = 0 then [47] else l.flatMap stepT
theorem flat_succ {l : List St} {k : Nat} {p : St} (h : l[k]? = some p) : (l.take (k + 1)).flatMap stepT = (l.take k).flatMap stepT ++ stepT p := by
  rw [List.take_add_one, h]
  simp
theorem rightL_zero {l : List St} (h : rightL l = 0) : l.length ≤ 32 ∧ ∀ (i : Nat) (p : St), l[i]? = some p → stepB p = true := by
  unfold rightL at h
  split at h
  · omega
  · split at h
    · next h1 h2 => exact ⟨by omega, fun i p hi => List.all_eq_true.1 h2 p (List.mem_of_getElem? hi)⟩
    · omega
abbrev PowW (w : World) : Prop := Lib.TabIs Tryd.prog w "internal/strconv.uint64pow10" .u64 Lib.pow10Tab
def strOf (l : List St) : ByteArray := if rightL l = 0 then ⟨(printL l).toArray⟩ else ⟨#[]⟩
set_option maxRecDepth 100000 in
set_option maxHeartbeats 1000000 in
theorem print_any (a : Option Addr) (l : List St) (c : Nat) (w : World) (ha : Sts w a l) (hl : l.length ≤ 140737488355328) (hT : K.V.Tabs w) (a0 a1 a2 : Addr) (hE : Snt w a0 a1 a2) (hP : PowB w.heap.size w) :
    Calls Tryd.prog 6 #[.slice a l.length c] w fun e w' => e = .returned (.tuple #[.string (strOf l), .int .i64 (rightL l)]) ∧ Below w.heap.size w w' := by
  have HR := Hid.mk' (right_l a l c w ha hl hT a0 a1 a2 hE)
  by_cases hR : rightL l = 0
  · obtain ⟨h32, hall⟩ := rightL_zero hR
    have HA := Hid.mk' (fun wx (h : Below w.heap.size w wx) => ha.below h)
    have HALL := Hid.mk' hall
    have HP := Hid.mk' (fun wx (h : Below w.heap.size w wx) => Lib.TabBelow.on hP h)
    have HT : Hid (∀ wx, Below w.heap.size w wx → Q.Tabs wx) := fun wx h => hT.below h
    have hst : strOf l = ⟨(printL l).toArray⟩ := by unfold strOf; rw [if_pos hR]
    rw [hst, hR]
    rw [hR] at HR
    obtain ⟨n, hn⟩ : ∃ n, n = l.length := ⟨_, rfl⟩
    obtain ⟨PL, hPL⟩ : ∃ P, P = printL l := ⟨_, rfl⟩
    have HPL : Hid ((n = 0 → PL = [47]) ∧ (n ≠ 0 → PL = l.flatMap stepT)) := by
      rw [hn, hPL]
      exact ⟨fun h => by unfold printL; rw [if_pos h], fun h => by unfold printL; rw [if_neg h]⟩
    rw [← hPL, ← hn]
    rw [← hn] at h32 HR hl
    have HN := Hid.mk' hn
    clear ha hT hE hP hall hst hR hn hPL
    by_cases h0 : n = 0
    · subst h0
      have HP0 := Hid.mk' (HPL.out.1 rfl)
      clear HPL
      go_enter Tryd.func6, Tryd.ntmps6
      go_wp2_with fail
      refine HR.out.mono ?_
      rintro e w1 ⟨rfl, b1⟩
      go_wp2
      go_ret2
      exact ⟨by rw [HP0.out]; rfl, b1⟩
    · have HP1 := Hid.mk' (HPL.out.2 h0)
      have h0' : ((n : Int) == 0) = false := by rw [beq_eq_false_iff_ne]; omega
      have H0 := Hid.mk' h0
      clear HPL h0
      go_enter Tryd.func6, Tryd.ntmps6
      go_wp2_with fail
      refine HR.out.mono ?_
      rintro e w1 ⟨rfl, b1⟩
      have BW1 := Hid.mk' b1
      have ON := Hid.mk' (Q.ownB_nil w1 w.heap.size)
      clear HR b1
      go_wp2
      go_loopw [5, 18] (fun v i wr => ∃ k : Nat, k ≤ n ∧ i = .int .i64 k ∧ Hid (Below w.heap.size w wr) ∧ Hid (Q.OwnB wr w.heap.size v ((l.take k).flatMap stepT)) ∧ Hid (k ≤ ((l.take k).flatMap stepT).length ∧ ((l.take k).flatMap stepT).length ≤ 500 * k)) (fun _ i _ => n - (intOf i).toNat)
      case atStart => exact ⟨0, by omega, rfl, BW1, ON, by simp [Hid]⟩
      case round =>
        obtain ⟨k, hk, rfl, HW, HO, HL⟩ := hrel
        by_cases hkn : k < n
        · have hkn' : (k : Int) < (n : Int) := by omega
          obtain ⟨b1, o1, p, rfl, hp, c0, c1, c2⟩ := (HA.out wr HW.out).at (i := k) (by rw [← HN.out]; omega)
          have hst := HALL.out k p hp
          have hln := stepT_len hst
          have HF := Hid.mk' (flat_succ hp)
          have ix := fun wx => indexS b1 o1 n c k wx hkn
          obtain ⟨W1, hW1⟩ : ∃ W, W = wr.alloc (.cells #[.int .u8 p.k, .string p.s, .int .i64 p.n] 35) := ⟨_, rfl⟩
          have bw1 : Below wr.heap.size wr W1 := by rw [hW1]; exact (Below.refl _ _).alloc (Nat.le_refl _) _
          have bww : Below w.heap.size w W1 := HW.out.trans (bw1.mono HW.out.size)
          obtain ⟨T, hTT⟩ : ∃ T, T = (l.take k).flatMap stepT := ⟨_, rfl⟩
          rw [← hTT] at HF HO HL
          obtain ⟨va, vc, rfl, _, _, _⟩ := HO.out.open
          have HS := Hid.mk' (astep_any w.heap.size (.slice va T.length vc) T p W1 (HO.out.below bw1) bww.size (by have := HL.out.2; omega) (HP.out W1 bww) (fun wx h => HT.out wx (bww.trans h)) hst)
          have HWW := Hid.mk' bww
          have HL2 : Hid (k + 1 ≤ (T ++ stepT p).length ∧ (T ++ stepT p).length ≤ 500 * (k + 1)) := by show _ ∧ _; have := HL.out; simp only [List.length_append]; omega
          obtain ⟨pk, ps, pn⟩ := p
          simp only [] at c0 c1 c2
          rw [hW1] at HS HWW
          clear hp hst hln bw1 bww hW1 hTT HO HL
          generalize T.length = tl at *
          go_wp2_with fail
          refine HS.out.mono ?_
          rintro e w2 ⟨v2, rfl, own2, b2⟩
          have BW2 : Hid (Below w.heap.size w w2) := HWW.out.trans b2
          have O2 : Hid (Q.OwnB w2 w.heap.size v2 ((l.take (k + 1)).flatMap stepT)) := by show Q.OwnB _ _ _ _; rw [HF.out]; exact own2
          rw [← HF.out] at HL2
          obtain ⟨va2, vc2, rfl, _, _, _⟩ := own2.open
          clear own2 b2 HS HWW HF
          generalize (T ++ stepT ⟨pk, ps, pn⟩).length = tl2 at *
          go_wp2
          go_roundw
          case rel => exact ⟨k + 1, by omega, by go_num, BW2, O2, HL2⟩
          case measure => simp [intOf]; omega
        · obtain rfl : k = n := by omega
          have hkn' : ¬ (k : Int) < (k : Int) := by omega
          have hO := HO.out
          rw [List.take_of_length_le (by rw [← HN.out]; exact Nat.le_refl _)] at hO
          have hLL := HL.out
          rw [List.take_of_length_le (by rw [← HN.out]; exact Nat.le_refl _)] at hLL
          rw [← HP1.out] at hO hLL
          have h0n := H0.out
          obtain ⟨g1, d1, rfl, hc1, hcl, _, _⟩ := hO.open1 (by omega)
          clear h0n
          have hcv := run_convert_bytes_back (P := Tryd.prog) wr 36 9 5 ⟨g1, 0, none⟩ d1 PL Tryd.underlying36 Tryd.underlying5 Tryd.underlying9 (fun j hj => by
            have e : (⟨g1, 0, none⟩ : Addr).add j = ⟨g1, j, none⟩ := by simpa using Addr.add_mid g1 0 j
            rw [e, hcl j hj]
            simp [Q.at8, List.getElem?_eq_getElem hj])
          clear hO hLL hc1 hcl HO HL HA HALL HP HT HP1
          go_wp2
          go_ret2
          exact ⟨rfl, HW.out⟩
  · have hst : strOf l = ⟨#[]⟩ := by unfold strOf; rw [if_neg hR]
    rw [hst]
    clear ha hT hE hP hst
    generalize rightL l = R at *
    generalize l.length = n at *
    go_enter Tryd.func6, Tryd.ntmps6
    go_wp2_with fail
    refine HR.out.mono ?_
    rintro e w1 ⟨rfl, b1⟩
    go_wp2
    go_ret2
    exact ⟨rfl, b1⟩
end Go.Proofs.YtgnichmemkglkaaDoor
