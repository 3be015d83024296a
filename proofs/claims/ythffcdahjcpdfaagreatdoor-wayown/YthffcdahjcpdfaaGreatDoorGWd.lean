import Derived.Test.YthffcdahjcpdfaaGreatDoorGQQd
import Derived.Lib.ItoaLen
import Derived.Test.YthffcdahjcpdfaaGreatDoorOwa
import Derived.Test.YthffcdahjcpdfaaGreatDoorGPo
import Derived.Test.YthffcdahjcpdfaaGreatDoorGZe
namespace Go.Proofs.YthffcdahjcpdfaaGreatDoor
open Go.RowKit
set_option linter.unusedVariables false
set_option linter.unusedSimpArgs false

set_option maxRecDepth 100000 in
set_option maxHeartbeats 2000000 in
theorem astep_key (base : Nat) (v : Value) (L : List UInt8) (s : ByteArray) (n : Int) (w : World) (hown : Q.OwnB w base v L) (hbase : base ≤ w.heap.size) (hlen : L.length + 1000 ≤ 140737488355328) (hs : s.size ≤ 64) (hv : Lib.validD s.data.toList = true) (hTB : ∀ wx, Below base w wx → Q.Tabs wx) :
    Calls Tryz.prog 17 #[v, .agg #[.int .u8 1, .string s, .int .i64 n]] w fun e w' => ∃ v', e = .returned v' ∧ Q.OwnB w' base v' (L ++ ([47] ++ (if plS s = true then s.data.toList else Q.quoL s.data.toList))) ∧ Below base w w' := by
  obtain ⟨W0, hW0⟩ : ∃ W, W = w.alloc (.cells #[.int .u8 1, .string s, .int .i64 n] 54) := ⟨_, rfl⟩
  obtain ⟨W1, hW1⟩ : ∃ W, W = W0.alloc (.cells #[.int .u8 47] 5) := ⟨_, rfl⟩
  have z0 : W0.heap.size = w.heap.size + 1 := by rw [hW0]; simp
  have z1 : W1.heap.size = w.heap.size + 2 := by rw [hW1]; simp [z0]
  have bw0 : Below w.heap.size w W0 := by rw [hW0]; exact (Below.refl _ _).alloc (Nat.le_refl _) _
  have bw01 : Below W0.heap.size W0 W1 := by rw [hW1]; exact (Below.refl _ _).alloc (Nat.le_refl _) _
  have bw1 : Below w.heap.size w W1 := bw0.trans (bw01.mono bw0.size)
  have g0 := heap_alloc_new w (.cells #[.int .u8 1, .string s, .int .i64 n] 54)
  rw [← hW0] at g0
  have g1 : W1.heap[w.heap.size]? = some (.cells #[.int .u8 1, .string s, .int .i64 n] 54 (0, 0)) := by rw [bw01.block _ (by omega)]; exact g0
  have ne1 : v.ownBlock ≠ some w.heap.size := own_ne hown (Nat.le_refl _)
  have O1 : Hid (Q.OwnB W1 base v L) := hown.below bw1
  have B1 : Hid (Q.Byt W1 (some ⟨w.heap.size + 1, 0, none⟩) [47]) := by
    have h := Q.byt_lit2 W0 [47] 5
    rw [z0] at h
    show Q.Byt _ _ _
    rw [hW1]
    exact h
  have S1 : Hid (L.length + ([47] : List UInt8).length ≤ 140737488355328) := by show _ ≤ _; simp; omega
  have Z1 : Hid (base ≤ W1.heap.size) := by show _ ≤ _; omega
  have BB1 : Hid (Below base w W1) := bw1.mono hbase
  have HX : Hid (∀ w2, W1.grownBy w2 v.ownBlock → w2.cell? ⟨w.heap.size, 1, none⟩ = some (.string s) ∧ w2.cell? ⟨w.heap.size, 2, none⟩ = some (.int .i64 n)) := fun w2 gr =>
    ⟨grown_cell gr ne1 ((cell_of_row _ _ 1 _ _ _ g1).trans rfl), grown_cell gr ne1 ((cell_of_row _ _ 2 _ _ _ g1).trans rfl)⟩
  have HW0 := Hid.mk' hW0
  have HW1 := Hid.mk' hW1
  obtain ⟨RS, hRS⟩ : ∃ R, R = L ++ ([47] ++ (if plS s = true then s.data.toList else Q.quoL s.data.toList)) := ⟨_, rfl⟩
  rw [← hRS]
  have HRS : Hid ((plS s = true → RS = L ++ ([47] ++ s.data.toList)) ∧ (plS s = false → RS = L ++ ([47] ++ Q.quoL s.data.toList))) := ⟨fun h => by rw [hRS, if_pos h], fun h => by rw [hRS, if_neg (by rw [h]; decide)]⟩
  clear hRS
  have HTT : Hid (∀ wx, Below base w wx → Q.Tabs wx) := fun wx hb => hTB wx hb
  have HPS : Hid (∀ wx, Calls Tryz.prog 44 #[.string s] wx fun e w' => e = .returned (.int .i64 (plN s : Int)) ∧ w' = wx) := fun wx => psize_any s wx (by omega)
  have HQ : Hid (∀ wx, Below base w wx → Calls Tryz.prog 45 #[.string s] wx fun e w' => e = .returned (.string ⟨(Q.quoL s.data.toList).toArray⟩) ∧ Below wx.heap.size wx w') := fun wx hb => Q.quote_yes s wx (by omega) (HTT.out wx hb) hv
  have HPN : Hid ((plS s = true → (plN s : Int) = (s.size : Int)) ∧ (plS s = false → ¬ (plN s : Int) = (s.size : Int))) := ⟨fun h => by rw [plN_all h], fun h => by have := plN_ne h; omega⟩
  have HQL : Hid ((Q.quoL s.data.toList).length ≤ 400) := by
    have h := Q.quoL_len s.data.toList
    have h2 : s.data.toList.length = s.size := Array.length_toList
    show _ ≤ _
    omega
  have HSL : Hid (s.data.toList.length ≤ 64) := by
    have h2 : s.data.toList.length = s.size := Array.length_toList
    show _ ≤ _
    omega
  clear hW0 hW1 bw0 bw01 bw1 g0 g1 hown z0 z1 hTB hv
  go_enter Tryz.func17, Tryz.ntmps17
  go_wp2_with (first | (at_builtin; rw [← HW0.out, ← HW1.out]; refine Q.wpList_app rfl (.tmp 28) (.tmp 29) rfl base v L rfl O1.out (some ⟨w.heap.size + 1, 0, none⟩) 1 1 [47] rfl rfl B1.out S1.out Z1.out ?_) | fail)
  intro v2 w2 own2 gr2
  obtain ⟨d1, d2⟩ := HX.out w2 gr2
  have BB2 : Hid (Below base w w2) := Q.below_own BB1.out O1.out gr2 Z1.out
  have O2 : Hid (Q.OwnB w2 base v2 (L ++ [47])) := own2
  have Z2 : Hid (base ≤ w2.heap.size) := Nat.le_trans Z1.out gr2.size
  clear own2 gr2 O1 B1 S1 Z1 BB1 HX HW0 HW1
  have O2d : Hid (Q.OwnB w2.drew base v2 (L ++ [47])) := O2.out.below ((Below.refl _ _).drew)
  have BBd : Hid (Below base w w2.drew) := BB2.out.drew
  have Zd : Hid (base ≤ w2.drew.heap.size) := Z2.out
  have S3 : Hid ((L ++ [47]).length + s.data.toList.length ≤ 140737488355328) := by show _ ≤ _; have := HSL.out; simp; omega
  have S4 : Hid ((L ++ [47]).length + (⟨(Q.quoL s.data.toList).toArray⟩ : ByteArray).data.toList.length ≤ 140737488355328) := by show _ ≤ _; have := HQL.out; simp; omega
  go_wp2_with fail
  have HPS2 := HPS.out
  clear HPS
  go_region_with (go_at_call 44; refine (HPS2 _).mono ?_; rintro e _ ⟨rfl, rfl⟩)
  all_goals clear HPS2
  all_goals by_cases hpl : plS s = true
  all_goals first
    | (have hN := HPN.out.1 hpl
       have HR2 := Hid.mk' (HRS.out.1 hpl)
       clear HPN HQ HRS hpl
       go_wp2_with (first | (at_builtin; refine Q.wpList_appS rfl (.tmp 38) (.tmp 40) rfl base v2 (L ++ [47]) rfl O2d.out s rfl S3.out Zd.out ?_) | fail)
       intro v3 w3 own3 gr3
       have BB3 : Hid (Below base w w3) := Q.below_own BBd.out O2d.out gr3 Zd.out
       have O3 : Hid (Q.OwnB w3 base v3 (L ++ ([47] ++ s.data.toList))) := by show Q.OwnB _ _ _ _; simpa using own3
       clear own3 gr3 O2d BBd Zd S3 S4
       go_wp2
       go_ret
       exact ⟨_, rfl, by rw [HR2.out]; exact O3.out, BB3.out⟩)
    | (have hN := HPN.out.2 (by simpa using hpl)
       have HR2 := Hid.mk' (HRS.out.2 (by simpa using hpl))
       have HQ2 := Hid.mk' (HQ.out _ BBd.out)
       clear HPN HQ HRS hpl
       go_wp2_with fail
       refine HQ2.out.mono ?_
       rintro e w3 ⟨rfl, b3⟩
       have O3 : Hid (Q.OwnB w3 base v2 (L ++ [47])) := O2d.out.below b3
       have BB3 : Hid (Below base w w3) := BBd.out.trans (b3.mono Zd.out)
       have Z3 : Hid (base ≤ w3.heap.size) := Nat.le_trans Zd.out b3.size
       clear HQ2 b3 O2d BBd Zd
       go_wp2_with (first | (at_builtin; refine Q.wpList_appS rfl (.tmp 42) (.tmp 45) rfl base v2 (L ++ [47]) rfl O3.out ⟨(Q.quoL s.data.toList).toArray⟩ rfl S4.out Z3.out ?_) | fail)
       intro v4 w4 own4 gr4
       have BB4 : Hid (Below base w w4) := Q.below_own BB3.out O3.out gr4 Z3.out
       have O4 : Hid (Q.OwnB w4 base v4 (L ++ ([47] ++ Q.quoL s.data.toList))) := by show Q.OwnB _ _ _ _; simpa using own4
       clear own4 gr4 O3 BB3 Z3 S3 S4
       go_wp2
       go_ret
       exact ⟨_, rfl, by rw [HR2.out]; exact O4.out, BB4.out⟩)
end Go.Proofs.YthffcdahjcpdfaaGreatDoor

namespace Go.Proofs.YthffcdahjcpdfaaGreatDoor
open Go.RowKit
set_option linter.unusedVariables false
set_option linter.unusedSimpArgs false

theorem step_cases {p : St} (h : stepB p = true) : (p.k = 1 ∧ 0 < p.s.size ∧ p.s.size ≤ 64 ∧ Lib.validD p.s.data.toList = true) ∨ (p.k = 2 ∧ 0 ≤ p.n ∧ p.n ≤ 2147483647) ∨ (p.k = 3 ∧ 0 ≤ p.n ∧ p.n ≤ 2147483647) := by
  unfold stepB at h
  split at h
  · next h1 =>
    unfold keyB rightB at h
    simp only [Bool.and_eq_true, decide_eq_true_eq] at h
    exact .inl ⟨h1, h.1.1.1, h.1.1.2, h.1.2.2⟩
  · split at h
    · next h2 =>
      simp only [Bool.and_eq_true, decide_eq_true_eq] at h
      rcases h2 with h2 | h2
      · exact .inr (.inl ⟨h2, h.1.2, h.2⟩)
      · exact .inr (.inr ⟨h2, h.1.2, h.2⟩)
    · cases h
theorem stepT_len {p : St} (h : stepB p = true) : 1 ≤ (stepT p).length ∧ (stepT p).length ≤ 500 := by
  have hs : p.s.data.toList.length = p.s.size := Array.length_toList
  unfold stepT
  rcases step_cases h with ⟨h1, h2, h3, h4⟩ | ⟨h1, h2, h3⟩ | ⟨h1, h2, h3⟩
  · rw [if_neg (by omega), if_neg (by omega)]
    have := Q.quoL_len p.s.data.toList
    split <;> simp <;> omega
  · have := Lib.itoa_length_le p.n (by omega) (by omega)
    rw [if_pos h1]
    simp
    omega
  · have := Lib.itoa_length_le p.n (by omega) (by omega)
    rw [if_neg (by omega), if_pos h1]
    simp
    omega
theorem astep_any (base : Nat) (v : Value) (L : List UInt8) (p : St) (w : World) (hown : Q.OwnB w base v L) (hbase : base ≤ w.heap.size) (hlen : L.length + 1000 ≤ 140737488355328) (hP : PowB base w) (hTB : ∀ wx, Below base w wx → Q.Tabs wx) (hp : stepB p = true) :
    Calls Tryz.prog 17 #[v, .agg #[.int .u8 p.k, .string p.s, .int .i64 p.n]] w fun e w' => ∃ v', e = .returned v' ∧ Q.OwnB w' base v' (L ++ stepT p) ∧ Below base w w' := by
  obtain ⟨k, s, n⟩ := p
  rcases step_cases hp with ⟨h1, h2, h3, h4⟩ | ⟨h1, h2, h3⟩ | ⟨h1, h2, h3⟩ <;> simp only [] at h1 h2 h3 <;> subst h1
  · exact astep_key base v L s n w hown hbase hlen h3 h4 hTB
  · exact astep_idx base v L s n w hown hbase hlen h2 h3 hP (Lib.itoa_length_le n (by omega) (by omega))
  · exact astep_kid base v L s n w hown hbase hlen h2 h3 hP (Lib.itoa_length_le n (by omega) (by omega))
/-- The text of a way. -/
def printL (l : List St) : List UInt8 := if l.length = 0 then [47] else l.flatMap stepT
theorem flat_succ {l : List St} {k : Nat} {p : St} (h : l[k]? = some p) : (l.take (k + 1)).flatMap stepT = (l.take k).flatMap stepT ++ stepT p := by
  rw [List.take_add_one, h]
  simp
theorem rightL_zero {l : List St} (h : rightL l = 0) : l.length ≤ 32 ∧ ∀ (i : Nat) (p : St), l[i]? = some p → stepB p = true := by
  unfold rightL at h
  split at h
  · omega
  · split at h
    · next h1 h2 => exact ⟨by omega, fun i p hi => List.all_eq_true.1 h2 p (List.mem_of_getElem? hi)⟩
    · omega
abbrev PowW (w : World) : Prop := Lib.TabIs Tryz.prog w "internal/strconv.uint64pow10" .u64 Lib.pow10Tab
def strOf (l : List St) : ByteArray := if rightL l = 0 then ⟨(printL l).toArray⟩ else ⟨#[]⟩
set_option maxRecDepth 100000 in
set_option maxHeartbeats 1000000 in
theorem print_any (a : Option Addr) (l : List St) (c : Nat) (w : World) (ha : Sts w a l) (hl : l.length ≤ 140737488355328) (hT : K.V.Tabs w) (a0 a1 a2 : Addr) (hE : Snt w a0 a1 a2) (hP : PowB w.heap.size w) :
    Calls Tryz.prog 9 #[.slice a l.length c] w fun e w' => e = .returned (.tuple #[.string (strOf l), .int .i64 (rightL l)]) ∧ Below w.heap.size w w' := by
  have HR := Hid.mk' (right_l a l c w ha hl hT a0 a1 a2 hE)
  by_cases hR : rightL l = 0
  · obtain ⟨h32, hall⟩ := rightL_zero hR
    have HA := Hid.mk' (fun wx (h : Below w.heap.size w wx) => ha.below h)
    have HALL := Hid.mk' hall
    have HP := Hid.mk' (fun wx (h : Below w.heap.size w wx) => Lib.TabBelow.on hP h)
    have HT : Hid (∀ wx, Below w.heap.size w wx → Q.Tabs wx) := fun wx h => hT.below h
    have hst : strOf l = ⟨(printL l).toArray⟩ := by unfold strOf; rw [if_pos hR]
    rw [hst, hR]
    rw [hR] at HR
    obtain ⟨n, hn⟩ : ∃ n, n = l.length := ⟨_, rfl⟩
    obtain ⟨PL, hPL⟩ : ∃ P, P = printL l := ⟨_, rfl⟩
    have HPL : Hid ((n = 0 → PL = [47]) ∧ (n ≠ 0 → PL = l.flatMap stepT)) := by
      rw [hn, hPL]
      exact ⟨fun h => by unfold printL; rw [if_pos h], fun h => by unfold printL; rw [if_neg h]⟩
    rw [← hPL, ← hn]
    rw [← hn] at h32 HR hl
    have HN := Hid.mk' hn
    clear ha hT hE hP hall hst hR hn hPL
    by_cases h0 : n = 0
    · subst h0
      have HP0 := Hid.mk' (HPL.out.1 rfl)
      clear HPL
      go_enter Tryz.func9, Tryz.ntmps9
      go_wp2_with fail
      refine HR.out.mono ?_
      rintro e w1 ⟨rfl, b1⟩
      go_wp2
      go_ret2
      exact ⟨by rw [HP0.out]; rfl, b1⟩
    · have HP1 := Hid.mk' (HPL.out.2 h0)
      have h0' : ((n : Int) == 0) = false := by rw [beq_eq_false_iff_ne]; omega
      have H0 := Hid.mk' h0
      clear HPL h0
      go_enter Tryz.func9, Tryz.ntmps9
      go_wp2_with fail
      refine HR.out.mono ?_
      rintro e w1 ⟨rfl, b1⟩
      have BW1 := Hid.mk' b1
      have ON := Hid.mk' (Q.ownB_nil w1 w.heap.size)
      clear HR b1
      go_wp2
      go_loopw [5, 18] (fun v i wr => ∃ k : Nat, k ≤ n ∧ i = .int .i64 k ∧ Hid (Below w.heap.size w wr) ∧ Hid (Q.OwnB wr w.heap.size v ((l.take k).flatMap stepT)) ∧ Hid (k ≤ ((l.take k).flatMap stepT).length ∧ ((l.take k).flatMap stepT).length ≤ 500 * k)) (fun _ i _ => n - (intOf i).toNat)
      case atStart => exact ⟨0, by omega, rfl, BW1, ON, by simp [Hid]⟩
      case round =>
        obtain ⟨k, hk, rfl, HW, HO, HL⟩ := hrel
        by_cases hkn : k < n
        · have hkn' : (k : Int) < (n : Int) := by omega
          obtain ⟨b1, o1, p, rfl, hp, c0, c1, c2⟩ := (HA.out wr HW.out).at (i := k) (by rw [← HN.out]; omega)
          have hst := HALL.out k p hp
          have hln := stepT_len hst
          have HF := Hid.mk' (flat_succ hp)
          have ix := fun wx => indexS b1 o1 n c k wx hkn
          obtain ⟨W1, hW1⟩ : ∃ W, W = wr.alloc (.cells #[.int .u8 p.k, .string p.s, .int .i64 p.n] 54) := ⟨_, rfl⟩
          have bw1 : Below wr.heap.size wr W1 := by rw [hW1]; exact (Below.refl _ _).alloc (Nat.le_refl _) _
          have bww : Below w.heap.size w W1 := HW.out.trans (bw1.mono HW.out.size)
          obtain ⟨T, hTT⟩ : ∃ T, T = (l.take k).flatMap stepT := ⟨_, rfl⟩
          rw [← hTT] at HF HO HL
          obtain ⟨va, vc, rfl, _, _, _⟩ := HO.out.open
          have HS := Hid.mk' (astep_any w.heap.size (.slice va T.length vc) T p W1 (HO.out.below bw1) bww.size (by have := HL.out.2; omega) (HP.out W1 bww) (fun wx h => HT.out wx (bww.trans h)) hst)
          have HWW := Hid.mk' bww
          have HL2 : Hid (k + 1 ≤ (T ++ stepT p).length ∧ (T ++ stepT p).length ≤ 500 * (k + 1)) := by show _ ∧ _; have := HL.out; simp only [List.length_append]; omega
          obtain ⟨pk, ps, pn⟩ := p
          simp only [] at c0 c1 c2
          rw [hW1] at HS HWW
          clear hp hst hln bw1 bww hW1 hTT HO HL
          generalize T.length = tl at *
          go_wp2_with fail
          refine HS.out.mono ?_
          rintro e w2 ⟨v2, rfl, own2, b2⟩
          have BW2 : Hid (Below w.heap.size w w2) := HWW.out.trans b2
          have O2 : Hid (Q.OwnB w2 w.heap.size v2 ((l.take (k + 1)).flatMap stepT)) := by show Q.OwnB _ _ _ _; rw [HF.out]; exact own2
          rw [← HF.out] at HL2
          obtain ⟨va2, vc2, rfl, _, _, _⟩ := own2.open
          clear own2 b2 HS HWW HF
          generalize (T ++ stepT ⟨pk, ps, pn⟩).length = tl2 at *
          go_wp2
          go_roundw
          case rel => exact ⟨k + 1, by omega, by go_num, BW2, O2, HL2⟩
          case measure => simp [intOf]; omega
        · obtain rfl : k = n := by omega
          have hkn' : ¬ (k : Int) < (k : Int) := by omega
          have hO := HO.out
          rw [List.take_of_length_le (by rw [← HN.out]; exact Nat.le_refl _)] at hO
          have hLL := HL.out
          rw [List.take_of_length_le (by rw [← HN.out]; exact Nat.le_refl _)] at hLL
          rw [← HP1.out] at hO hLL
          have h0n := H0.out
          obtain ⟨g1, d1, rfl, hc1, hcl, _, _⟩ := hO.open1 (by omega)
          clear h0n
          have hcv := run_convert_bytes_back (P := Tryz.prog) wr 66 9 5 ⟨g1, 0, none⟩ d1 PL Tryz.underlying66 Tryz.underlying5 Tryz.underlying9 (fun j hj => by
            have e : (⟨g1, 0, none⟩ : Addr).add j = ⟨g1, j, none⟩ := by simpa using Addr.add_mid g1 0 j
            rw [e, hcl j hj]
            simp [Q.at8, List.getElem?_eq_getElem hj])
          clear hO hLL hc1 hcl HO HL HA HALL HP HT HP1
          go_wp2
          go_ret2
          exact ⟨rfl, HW.out⟩
  · have hst : strOf l = ⟨#[]⟩ := by unfold strOf; rw [if_neg hR]
    rw [hst]
    clear ha hT hE hP hst
    generalize rightL l = R at *
    generalize l.length = n at *
    go_enter Tryz.func9, Tryz.ntmps9
    go_wp2_with fail
    refine HR.out.mono ?_
    rintro e w1 ⟨rfl, b1⟩
    go_wp2
    go_ret2
    exact ⟨rfl, b1⟩
end Go.Proofs.YthffcdahjcpdfaaGreatDoor

namespace Go.Proofs.YthffcdahjcpdfaaGreatDoor
open Go.RowKit
set_option linter.unusedVariables false
set_option linter.unusedSimpArgs false

theorem paF_len (s : ByteArray) : (paF s).1.length ≤ 32 := by
  have key : ∀ f k (acc : List St), acc.length ≤ 32 → (rP s f k acc).1.length ≤ 32 := by
    intro f
    induction f with
    | zero => intro k acc h; simp [rP]
    | succ f ih =>
      intro k acc h
      rw [rP]
      split
      · simp
      · next h1 =>
        simp only [not_or] at h1
        split
        · simp
        · split
          · exact ih _ _ (by rw [List.length_append]; simp; omega)
          · simp; omega
  unfold paF
  split
  · simp
  · split
    · simp
    · unfold cvP
      split
      · exact key _ _ _ (by simp)
      · simp
theorem dec_7 : Lib.itoa 7 = [55] := by
  unfold Lib.itoa
  rw [if_neg (by decide), Lib.decDigits, dif_pos (by decide)]
  rfl
theorem st7_str : rightL [⟨2, ⟨#[]⟩, 7⟩] = 0 ∧ strOf [⟨2, ⟨#[]⟩, 7⟩] = ⟨#[91, 55, 93]⟩ := by
  have h : rightL [⟨2, ⟨#[]⟩, 7⟩] = 0 := by
    unfold rightL
    rw [if_neg (by decide), if_pos]
    simp [stepB, ByteArray.size]
  refine ⟨h, ?_⟩
  unfold strOf printL
  rw [if_pos h, if_neg (by decide)]
  simp [stepT, dec_7]
theorem joinL_len (L M : List St) (h : L.length + M.length ≤ 4398046510976) : (joinL L M).length ≤ 4398046510976 := by
  unfold joinL
  split
  · rw [List.length_append]; exact h
  · simp
set_option maxRecDepth 100000 in
set_option maxHeartbeats 2000000 in
theorem own_all (a : Option Addr) (x : List St) (c1 : Nat) (s : ByteArray) (w : World) (ha : Sts w a x) (na : a = none → x = []) (hx : x.length ≤ 4398046510976) (hT : K.V.Tabs w) (a0 a1 a2 : Addr) (hE : Snt w a0 a1 a2) (hP : PowB w.heap.size w) :
    Calls Tryz.prog 3 #[.slice a x.length c1, .string s] w fun e w' => e = .returned (.bool true) ∧ Below w.heap.size w w' := by
  have L1 := Hid.mk' (lent_any a x c1 w ha na hx)
  have HA := Hid.mk' (fun wx (h : Below w.heap.size w wx) => ha.below h)
  have HT := Hid.mk' (fun wx (h : Below w.heap.size w wx) => hT.below h)
  have HE := Hid.mk' (fun wx (h : Below w.heap.size w wx) => hE.below h)
  have HP : Hid (∀ wx, Below w.heap.size w wx → PowB wx.heap.size wx) := fun wx h w' h' => hP w' (h.trans (h'.mono h.size))
  have HX := Hid.mk' hx
  clear ha na hT hE hP
  go_enter Tryz.func3, Tryz.ntmps3
  go_wp2_with fail
  refine L1.out.mono ?_
  rintro e w2 ⟨g1, k1, rfl, hk1, s1, b2⟩
  have BW2 := Hid.mk' b2
  have SX : Hid (∀ wx, Below w2.heap.size w2 wx → Sts wx (some ⟨g1, 0, none⟩) (x ++ [mSt])) := fun wx h => s1.below h
  have UP : Hid (∀ wx, Below w2.heap.size w2 wx → Below w.heap.size w wx) := fun wx h => BW2.out.trans (h.mono BW2.out.size)
  have PA : Hid (∀ wx, Below w2.heap.size w2 wx → Calls Tryz.prog 5 #[.string s] wx fun e w' => ∃ v e1 e2, e = .returned (.tuple #[v, e1, e2]) ∧ OwnS w' wx.heap.size v (paF s).1 ∧ Below wx.heap.size wx w') := fun wx h =>
    (parse_any s wx (HT.out wx (UP.out wx h)) a0 a1 a2 (HE.out wx (UP.out wx h))).mono fun e w' ⟨v, k1, k2, k3⟩ => ⟨v, _, _, k1, k2, k3⟩
  have J1 : Hid (∀ wx, Below w2.heap.size w2 wx → Calls Tryz.prog 6 #[.slice (some ⟨g1, 0, none⟩) x.length k1, .slice none 0 0] wx fun e w' => ∃ v e1, e = .returned (.tuple #[v, e1]) ∧ OwnS w' wx.heap.size v (joinL x []) ∧ Below wx.heap.size wx w') := fun wx h =>
    (join_any (some ⟨g1, 0, none⟩) none x [] x.length 0 k1 0 wx (SX.out wx h).front (.inl rfl) rfl rfl (fun h => by cases h) (fun _ => rfl) (by have := HX.out; omega) (HT.out wx (UP.out wx h)) a0 a1 a2 (HE.out wx (UP.out wx h))).mono fun e w' ⟨v, k1, k2, k3⟩ => ⟨v, _, k1, k2, k3⟩
  have J2 : Hid (∀ wx, Below w2.heap.size w2 wx → Calls Tryz.prog 6 #[.slice none 0 0, .slice (some ⟨g1, 0, none⟩) x.length k1] wx fun e w' => ∃ v e1, e = .returned (.tuple #[v, e1]) ∧ OwnS w' wx.heap.size v (joinL [] x) ∧ Below wx.heap.size wx w') := fun wx h =>
    (join_any none (some ⟨g1, 0, none⟩) [] x 0 x.length 0 k1 wx (.inl rfl) (SX.out wx h).front rfl rfl (fun _ => rfl) (fun h => by cases h) (by have := HX.out; omega) (HT.out wx (UP.out wx h)) a0 a1 a2 (HE.out wx (UP.out wx h))).mono fun e w' ⟨v, k1, k2, k3⟩ => ⟨v, _, k1, k2, k3⟩
  have UU : Hid (∀ wx, Below w2.heap.size w2 wx → Calls Tryz.prog 8 #[.slice (some ⟨g1, 0, none⟩) x.length k1] wx fun e w' => ∃ v, e = .returned v ∧ OwnS w' wx.heap.size v (x.take (x.length - 1)) ∧ Below wx.heap.size wx w') := fun wx h =>
    up_any ⟨g1, 0, none⟩ x k1 wx (SX.out wx h).front (by omega) HX.out
  have CK : Hid (∀ wx, Below w2.heap.size w2 wx → Calls Tryz.prog 11 #[.slice (some ⟨g1, 0, none⟩) x.length k1, .slice a x.length c1] wx fun e w' => e = .returned (.bool true) ∧ Below w2.heap.size w2 w') := fun wx h =>
    (kept_any g1 a x k1 c1 wx (SX.out wx h) (HA.out wx (UP.out wx h)) hk1 HX.out).mono fun e w' k => ⟨k.1, h.trans (k.2.mono h.size)⟩
  have PR : Hid (∀ wx, Below w2.heap.size w2 wx → Calls Tryz.prog 9 #[.slice (some ⟨wx.heap.size, 0, none⟩) 1 1] (wx.alloc (.cells #[.int .u8 2, .string ⟨#[]⟩, .int .i64 7] 54)) fun e w' => e = .returned (.tuple #[.string ⟨#[91, 55, 93]⟩, .int .i64 0]) ∧ Below wx.heap.size wx w') := fun wx h => by
    have bx : Below wx.heap.size wx (wx.alloc (.cells #[.int .u8 2, .string ⟨#[]⟩, .int .i64 7] 54)) := (Below.refl _ _).alloc (Nat.le_refl _) _
    have hx2 := h.trans (bx.mono h.size)
    have k := print_any (some ⟨wx.heap.size, 0, none⟩) [⟨2, ⟨#[]⟩, 7⟩] 1 (wx.alloc (.cells #[.int .u8 2, .string ⟨#[]⟩, .int .i64 7] 54)) (sts_lit wx ⟨2, ⟨#[]⟩, 7⟩) (by simp) (HT.out _ (UP.out _ hx2)) a0 a1 a2 (HE.out _ (UP.out _ hx2)) (HP.out _ (UP.out _ hx2))
    rw [st7_str.1, st7_str.2] at k
    exact k.mono fun e w' k => ⟨k.1, bx.trans (k.2.mono bx.size)⟩
  have lp : Hid ((paF s).1.length ≤ 4398046510976) := Nat.le_trans (paF_len s) (by decide)
  have lj1 : Hid ((joinL x []).length ≤ 4398046510976) := joinL_len _ _ (by have := HX.out; simp; omega)
  have lj2 : Hid ((joinL [] x).length ≤ 4398046510976) := joinL_len _ _ (by have := HX.out; simp; omega)
  have lu : Hid ((x.take (x.length - 1)).length ≤ 4398046510976) := by show _ ≤ _; rw [List.length_take]; have := HX.out; omega
  obtain ⟨W3, hW3⟩ : ∃ W, W = w2.alloc (.cells (B.bkC (.slice none 0 0)) 43) := ⟨_, rfl⟩
  have K0 : Hid (KS w2 W3 w2.heap.size (.slice none 0 0) [] []) := by
    show KS _ _ _ _ _ _
    rw [hW3]
    exact ⟨(Below.refl _ _).alloc (Nat.le_refl _) _, Nat.le_refl _, ⟨heap_alloc_new _ _, World.ownsRow_nil _ _ _ _, by simp [Value.ownBlock]⟩, (fun p hp => absurd hp (by simp)), List.Pairwise.nil⟩
  have HW3 : Hid (W3 = w2.alloc (.cells #[.slice none 0 0, .slice none 0 0, .slice none 0 0, .slice none 0 0, .slice none 0 0, .slice none 0 0, .slice none 0 0, .slice none 0 0, .slice none 0 0, .slice none 0 0, .slice none 0 0, .slice none 0 0, .slice none 0 0, .slice none 0 0, .slice none 0 0, .slice none 0 0, .slice none 0 0, .slice none 0 0] 43)) := hW3
  generalize paF s = PF at *
  obtain ⟨pl, pe, pk⟩ := PF
  generalize joinL x [] = jx at *
  generalize joinL [] x = jy at *
  generalize x.take (x.length - 1) = ux at *
  clear L1 SX HA HT HE HP s1 b2 HX hk1 hW3 hx
  generalize x.length = n at *
  simp only [] at PA lp
  go_wp2_with fail
  rw [← HW3.out]
  clear HW3
  refine (PA.out _ K0.out.be).mono ?_
  rintro e w10 ⟨v1, q1a, q1b, rfl, o1, b1⟩
  have K1 := Hid.mk' (K0.out.more o1 lp.out b1)
  obtain ⟨va1, vc1, rfl, _, _⟩ := o1.slice
  clear o1 b1 K0
  go_wp2_with fail
  refine (PA.out _ K1.out.be).mono ?_
  rintro e w11 ⟨v2, q2a, q2b, rfl, o2, b2⟩
  have K2 := Hid.mk' (K1.out.more o2 lp.out b2)
  obtain ⟨va2, vc2, rfl, _, _⟩ := o2.slice
  clear o2 b2 K1
  go_wp2_with fail
  refine (J1.out _ K2.out.be).mono ?_
  rintro e w12 ⟨v3, q3a, rfl, o3, b3⟩
  have K3 := Hid.mk' (K2.out.more o3 lj1.out b3)
  obtain ⟨va3, vc3, rfl, _, _⟩ := o3.slice
  clear o3 b3 K2
  go_wp2_with fail
  refine (J2.out _ K3.out.be).mono ?_
  rintro e w13 ⟨v4, q4a, rfl, o4, b4⟩
  have K4 := Hid.mk' (K3.out.more o4 lj2.out b4)
  obtain ⟨va4, vc4, rfl, _, _⟩ := o4.slice
  clear o4 b4 K3
  go_wp2_with fail
  refine (K4.out.take va1 pl.length vc1 (by simp)).mono ?_
  rintro e w14 ⟨rfl, al5, kk5⟩
  have K5 := Hid.mk' kk5
  clear kk5 K4
  go_wp2_with fail
  refine (K5.out.take va2 pl.length vc2 (by simp)).mono ?_
  rintro e w15 ⟨rfl, al6, kk6⟩
  have K6 := Hid.mk' kk6
  clear kk6 K5
  go_wp2_with fail
  refine (K6.out.take va3 jx.length vc3 (by simp)).mono ?_
  rintro e w16 ⟨rfl, al7, kk7⟩
  have K7 := Hid.mk' kk7
  clear kk7 K6
  go_wp2_with fail
  refine (K7.out.take va4 jy.length vc4 (by simp)).mono ?_
  rintro e w17 ⟨rfl, al8, kk8⟩
  have K8 := Hid.mk' kk8
  clear kk8 K7
  go_wp2_with fail
  refine (UU.out _ K8.out.be).mono ?_
  rintro e w18 ⟨v5, rfl, o5, b5⟩
  have K9 := Hid.mk' (K8.out.more o5 lu.out b5)
  obtain ⟨va5, vc5, rfl, _, _⟩ := o5.slice
  clear o5 b5 K8
  go_wp2_with fail
  refine (K9.out.take va5 ux.length vc5 (by simp)).mono ?_
  rintro e w19 ⟨rfl, al10, kk10⟩
  have K10 := Hid.mk' kk10
  clear kk10 K9
  go_wp2_with fail
  refine (UU.out _ K10.out.be).mono ?_
  rintro e w20 ⟨v6, rfl, o6, b6⟩
  have K11 := Hid.mk' (K10.out.more o6 lu.out b6)
  obtain ⟨va6, vc6, rfl, _, _⟩ := o6.slice
  clear o6 b6 K10
  go_wp2_with fail
  refine (K11.out.take va6 ux.length vc6 (by simp)).mono ?_
  rintro e w21 ⟨rfl, al12, kk12⟩
  have K12 := Hid.mk' kk12
  clear kk12 K11
  go_wp2_with (first | (refine wpList_bs1 rfl (.tmp 58) rfl #[.int .u8 2, .string ⟨#[]⟩, .int .i64 7] rfl rfl ?_) | fail)
  refine (PR.out _ K12.out.be).mono ?_
  rintro e wp1 ⟨rfl, bp⟩
  have KP := Hid.mk' (K12.out.below bp)
  clear bp K12
  go_wp2_with fail
  refine (KP.out.alone rfl (by simp) (by simp)).mono ?_
  rintro e wp2 ⟨rfl, bq⟩
  have BQ := Hid.mk' bq
  clear KP bq
  go_wp2_with fail
  refine (CK.out _ BQ.out).mono ?_
  rintro e wp3 ⟨rfl, br⟩
  have B9 := Hid.mk' (UP.out _ br)
  clear br BQ
  go_wp2
  go_ret
  exact ⟨by simp, B9.out⟩
end Go.Proofs.YthffcdahjcpdfaaGreatDoor

