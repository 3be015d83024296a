import Derived.Test.YthffcdahjcpdfaaGreatDoorQUf
import Derived.Lib.ValidLaws
import Derived.Test.YthffcdahjcpdfaaGreatDoorGQLv
import Derived.Ground.NamesProg
import Derived.Shelf.Unicode.DecodeAny
namespace Go.Proofs.YthffcdahjcpdfaaGreatDoor.Q
open Go.RowKit
set_option linter.unusedVariables false
set_option linter.unusedSimpArgs false

def fullAt (s : ByteArray) (n : Nat) : Bool := fullB n (by8 s 0) (by8 s 1) (by8 s 2)
/-- n bytes of a text begin a character that is not whole. -/
structure BegP (s : ByteArray) (n : Nat) : Prop where
  le : n ≤ s.size
  no : ∀ j, j < n → fullAt s (j + 1) = false
  yes : n < s.size → fullAt s (n + 1) = true
theorem ext_by8 (s : ByteArray) (m j : Nat) (hj : j < m) : by8 (s.extract 0 m) j = by8 s j := by
  unfold by8
  have e : (s.extract 0 m).data.toList = s.data.toList.take m := by simp [ByteArray.data_extract]
  rw [e, List.getD_eq_getElem?_getD, List.getD_eq_getElem?_getD, List.getElem?_take, if_pos hj]
theorem fullB_1 (n b0 b1 b2 c1 c2 : Nat) (h : n ≤ 1) : fullB n b0 b1 b2 = fullB n b0 c1 c2 := by
  unfold fullB
  rw [if_neg (show ¬ (1 < n ∧ _) by omega), if_neg (show ¬ (1 < n ∧ _) by omega), decide_eq_false (show ¬ (2 < n ∧ _) by omega), decide_eq_false (show ¬ (2 < n ∧ _) by omega)]
theorem fullB_2 (n b0 b1 b2 c2 : Nat) (h : n ≤ 2) : fullB n b0 b1 b2 = fullB n b0 b1 c2 := by
  unfold fullB
  rw [decide_eq_false (show ¬ (2 < n ∧ (b2 < 128 ∨ 191 < b2)) by omega), decide_eq_false (show ¬ (2 < n ∧ (c2 < 128 ∨ 191 < c2)) by omega)]
theorem full_ext (s : ByteArray) (m : Nat) (h1 : 1 ≤ m) : fullB m (by8 (s.extract 0 m) 0) (by8 (s.extract 0 m) 1) (by8 (s.extract 0 m) 2) = fullAt s m := by
  unfold fullAt
  rw [ext_by8 s m 0 (by omega)]
  by_cases h2 : m ≤ 1
  · exact fullB_1 _ _ _ _ _ _ h2
  rw [ext_by8 s m 1 (by omega)]
  by_cases h3 : m ≤ 2
  · exact fullB_2 _ _ _ _ _ h3
  rw [ext_by8 s m 2 (by omega)]
set_option maxRecDepth 100000 in
set_option maxHeartbeats 1000000 in
theorem begun_any (s : ByteArray) (w : World) (hs : s.size ≤ 140737488355328) (hT : Tabs w) :
    Calls Tryz.prog 74 #[.string s] w fun e w' => (∃ n : Nat, BegP s n ∧ e = .returned (.int .i64 n)) ∧ Below w.heap.size w w' := by
  go_enter Tryz.func74, Tryz.ntmps74
  go_wp2
  go_loopw [3] (fun i wr => ∃ k : Nat, k ≤ s.size ∧ i = .int .i64 k ∧ Hid (Below w.heap.size w wr) ∧ Hid (∀ j, j < k → fullAt s (j + 1) = false)) (fun i _ => s.size - (intOf i).toNat)
  case atStart => exact ⟨0, by omega, rfl, Below.refl _ _, fun j hj => by omega⟩
  case round =>
    obtain ⟨k, hk, rfl, bel, hall⟩ := hrel
    by_cases h1 : k < s.size
    · have h1' : (k : Int) < (s.size : Int) := by omega
      have h1'' : (k : Int) + 1 ≤ (s.size : Int) := by omega
      obtain ⟨t, ht⟩ : ∃ t, s.extract 0 (k + 1) = t := ⟨_, rfl⟩
      have zt : t.size = k + 1 := by rw [← ht, ByteArray.size_extract]; omega
      have fe := full_ext s (k + 1) (by omega)
      rw [ht] at fe
      have HF : Hid (Calls Tryz.prog 83 #[.string t] wr fun e w' => e = .returned (.bool (fullAt s (k + 1))) ∧ Below wr.heap.size wr w') := (full_any t wr (hT.below bel.out) (by omega)).mono fun e w' h => ⟨by rw [h.1, zt, fe], h.2⟩
      have ht' : s.extract 0 (k + 1) = t := ht
      clear fe zt hT
      have e1 : ((k : Int) + 1).toNat = k + 1 := by omega
      by_cases hF : fullAt s (k + 1) = true
      · have HP : Hid (BegP s k) := ⟨hk, hall.out, fun _ => hF⟩
        rw [hF] at HF
        go_wp2_with fail
        refine HF.out.mono ?_
        rintro e w5 ⟨rfl, b5⟩
        go_wp2
        go_ret
        exact ⟨⟨k, HP.out, rfl⟩, bel.out.trans (b5.mono bel.out.size)⟩
      · have hF' : fullAt s (k + 1) = false := by simpa using hF
        have HA : Hid (∀ j, j < k + 1 → fullAt s (j + 1) = false) := fun j hj => by
          rcases Nat.lt_or_ge j k with h | h
          · exact hall.out j h
          · have : j = k := by omega
            subst this; exact hF'
        rw [hF'] at HF
        go_wp2_with fail
        refine HF.out.mono ?_
        rintro e w5 ⟨rfl, b5⟩
        go_wp2
        go_roundw
        case rel => exact ⟨k + 1, by omega, by go_num, bel.out.trans (b5.mono bel.out.size), HA⟩
        case measure => simp [intOf]; omega
    · have h1' : ¬ (k : Int) < (s.size : Int) := by omega
      have HP : Hid (BegP s k) := ⟨hk, hall.out, fun h => absurd h h1⟩
      clear hT hall
      go_wp2
      go_ret
      exact ⟨⟨k, HP.out, rfl⟩, bel.out⟩
end Go.Proofs.YthffcdahjcpdfaaGreatDoor.Q

namespace Go.Proofs.YthffcdahjcpdfaaGreatDoor.Q
open Go.Shelf Go.RowKit
set_option linter.unusedVariables false
set_option linter.unusedSimpArgs false
def laysDec_ren : Go.Shelf.Ren := ⟨fun | 197 => 72 | 260 => 81 | n => n, fun | 9 => 9 | 21 => 21 | 3 => 3 | 4 => 4 | 5 => 5 | 105 => 175 | 119 => 155 | 0 => 0 | 46 => 79 | 139 => 158 | 138 => 157 | n => n, fun | 3 => 3 | 4 => 4 | n => n⟩
theorem laysDec : Lays.n197 Tryz.prog laysDec_ren := {
  mixed := by kernel_rfl
  f197 := Tryz.func72.trans (congrArg some (by kernel_rfl))
  f260 := Tryz.func81.trans (congrArg some (by kernel_rfl))
  t0 := Tryz.underlying0
  a0 := Tryz.isAgg0
  z0 := Tryz.sizeOf0
  v0 := Tryz.zeroValue0
  t3 := Tryz.underlying3
  a3 := Tryz.isAgg3
  z3 := Tryz.sizeOf3
  v3 := Tryz.zeroValue3
  t4 := Tryz.underlying4
  a4 := Tryz.isAgg4
  z4 := Tryz.sizeOf4
  v4 := Tryz.zeroValue4
  t5 := Tryz.underlying5
  a5 := Tryz.isAgg5
  z5 := Tryz.sizeOf5
  v5 := Tryz.zeroValue5
  t9 := Tryz.underlying9
  a9 := Tryz.isAgg9
  z9 := Tryz.sizeOf9
  v9 := Tryz.zeroValue9
  t21 := Tryz.underlying21
  a21 := Tryz.isAgg21
  z21 := Tryz.sizeOf21
  v21 := Tryz.zeroValue21
  t46 := Tryz.underlying79
  a46 := Tryz.isAgg79
  z46 := Tryz.sizeOf79
  v46 := Tryz.zeroValue79
  t105 := Tryz.underlying175
  a105 := Tryz.isAgg175
  z105 := Tryz.sizeOf175
  v105 := Tryz.zeroValue175
  t119 := Tryz.underlying155
  a119 := Tryz.isAgg155
  z119 := Tryz.sizeOf155
  t138 := Tryz.underlying157
  a138 := Tryz.isAgg157
  z138 := Tryz.sizeOf157
  v138 := Tryz.zeroValue157
  t139 := Tryz.underlying158
  a139 := Tryz.isAgg158
  z139 := Tryz.sizeOf158
  v139 := Tryz.zeroValue158
  g3 := by kernel_rfl
  g4 := by kernel_rfl }

theorem decode_any (s : ByteArray) (w : World) (h0 : 0 < s.size) (hT : Tabs w) :
    Calls Tryz.prog 72 #[.string s] w fun e w' => e = .returned (.tuple #[.int .i32 ((Lib.decodeL s.data.toList).1 : Nat), .int .i64 ((Lib.decodeL s.data.toList).2 : Nat)]) ∧ Below w.heap.size w w' := by
  have h := Any.utf8_DecodeRuneInString laysDec s w hT
  have e : Lib.decodeGo s = Lib.decodeL s.data.toList := by
    unfold Lib.decodeGo
    rw [if_neg (by omega), decode_drop]
    rfl
  rw [e] at h
  exact h
end Go.Proofs.YthffcdahjcpdfaaGreatDoor.Q

namespace Go.Proofs.YthffcdahjcpdfaaGreatDoor.Q
open Go.RowKit
set_option linter.unusedVariables false
set_option linter.unusedSimpArgs false

/-- What character tells of a text that is not empty. -/
def ChrV (s : ByteArray) (v : Int × Int × Bool) : Prop :=
  ((Lib.decodeL s.data.toList).1 = 92 ∧ EscV s v) ∨
  ((Lib.decodeL s.data.toList).1 = 65533 ∧ (Lib.decodeL s.data.toList).2 = 1 ∧ ∃ k, BegP s k ∧ v = (0, (k : Int), false)) ∨
  ((Lib.decodeL s.data.toList).1 ≠ 92 ∧ ¬ ((Lib.decodeL s.data.toList).1 = 65533 ∧ (Lib.decodeL s.data.toList).2 = 1) ∧ hidB ((Lib.decodeL s.data.toList).1 : Int) = true ∧ v = (0, 0, false)) ∨
  ((Lib.decodeL s.data.toList).1 ≠ 92 ∧ ¬ ((Lib.decodeL s.data.toList).1 = 65533 ∧ (Lib.decodeL s.data.toList).2 = 1) ∧ hidB ((Lib.decodeL s.data.toList).1 : Int) = false ∧ v = (((Lib.decodeL s.data.toList).1 : Int), ((Lib.decodeL s.data.toList).2 : Int), true))
def ChrOut (s : ByteArray) (w : World) (e : Ending) (w' : World) : Prop := (∃ v, ChrV s v ∧ e = .returned (.tuple #[.int .i32 v.1, .int .i64 v.2.1, .bool v.2.2])) ∧ Below w.heap.size w w'
theorem chr_mk {s : ByteArray} {w w' : World} {a b : Int} {c : Bool} (h : ChrV s (a, b, c)) (hw : Below w.heap.size w w') : ChrOut s w (.returned (.tuple #[.int .i32 a, .int .i64 b, .bool c])) w' :=
  ⟨⟨(a, b, c), h, rfl⟩, hw⟩
theorem res37 (tmps : Array Value) (w : World) (a b c : Value) (h1 : tmps.getD 2 undef = a) (h2 : tmps.getD 3 undef = b) (h3 : tmps.getD 4 undef = c) : (results Tryz.f63 tmps).run Tryz.prog w = .ok (.tuple #[a, b, c]) w := by
  subst h1 h2 h3
  simp [results, Tryz.results63]
set_option maxRecDepth 100000 in
set_option maxHeartbeats 2000000 in
theorem character_any (s : ByteArray) (w : World) (h0 : 0 < s.size) (hs : s.size ≤ 140737488355328) (hT : Tabs w) :
    Calls Tryz.prog 63 #[.string s] w (ChrOut s w) := by
  have HD : Hid (Calls Tryz.prog 72 #[.string s] w fun e w' => e = .returned (.tuple #[.int .i32 ((Lib.decodeL s.data.toList).1 : Nat), .int .i64 ((Lib.decodeL s.data.toList).2 : Nat)]) ∧ Below w.heap.size w w') := decode_any s w h0 hT
  have HV : Hid (∀ v, ChrV s v ↔ ChrV s v) := fun v => Iff.rfl
  unfold ChrV at HV
  generalize hr : (Lib.decodeL s.data.toList).1 = r at *
  generalize hn : (Lib.decodeL s.data.toList).2 = n at *
  have KR : Hid ((Lib.decodeL s.data.toList).1 = r ∧ (Lib.decodeL s.data.toList).2 = n) := ⟨hr, hn⟩
  clear hr hn HV
  have HT : Hid (Tabs w) := hT
  clear hT
  by_cases h1 : r = 92
  · have c1 : ((r : Int) == 92) = true := beq_iff_eq.2 (by omega)
    go_enter Tryz.func63, Tryz.ntmps63
    go_wp2_with fail
    refine HD.out.mono ?_
    rintro e w1 ⟨rfl, b1⟩
    go_wp2_with fail
    refine (escaped_any s _ hs).mono ?_
    rintro e w2 ⟨⟨v, hv, rfl⟩, b2⟩
    have hC : ChrV s v := .inl ⟨by rw [KR.out.1]; exact h1, hv⟩
    have B2 : Below w.heap.size w w2 := b1.trans (b2.mono b1.size)
    clear hv b1 b2
    obtain ⟨va, vb, vc⟩ := v
    go_wp2
    exact bodyPost_ret (res37 _ _ _ _ _ rfl rfl rfl) rfl (chr_mk hC B2)
  · have c1 : ((r : Int) == 92) = false := beq_eq_false_iff_ne.2 (by omega)
    by_cases h2 : r = 65533 ∧ n = 1
    · obtain ⟨rfl, rfl⟩ := h2
      go_enter Tryz.func63, Tryz.ntmps63
      go_wp2_with fail
      refine HD.out.mono ?_
      rintro e w1 ⟨rfl, b1⟩
      go_wp2_with fail
      refine (begun_any s _ hs (HT.out.below b1)).mono ?_
      rintro e w2 ⟨⟨k, hk, rfl⟩, b2⟩
      have hC : ChrV s (0, (k : Int), false) := .inr (.inl ⟨KR.out.1, KR.out.2, k, hk, rfl⟩)
      have B2 : Below w.heap.size w w2 := b1.trans (b2.mono b1.size)
      clear hk b1 b2
      go_wp2
      exact bodyPost_ret (res37 _ _ _ _ _ rfl rfl rfl) rfl (chr_mk hC B2)
    · have H49 := hidden_chr (r : Int)
      obtain ⟨B, hB⟩ : ∃ B, hidB (r : Int) = B := ⟨_, rfl⟩
      rw [hB] at H49
      have HB : Hid (hidB (r : Int) = B) := hB
      clear hB
      have hne : Hid ((Lib.decodeL s.data.toList).1 ≠ 92 ∧ ¬ ((Lib.decodeL s.data.toList).1 = 65533 ∧ (Lib.decodeL s.data.toList).2 = 1)) := ⟨by rw [KR.out.1]; exact h1, by rw [KR.out.1, KR.out.2]; exact h2⟩
      cases B with
      | true =>
        have hC : ChrV s (0, 0, false) := .inr (.inr (.inl ⟨hne.out.1, hne.out.2, by rw [KR.out.1]; exact HB.out, rfl⟩))
        by_cases h3 : r = 65533
        · subst h3
          have c3 : ((n : Int) == 1) = false := beq_eq_false_iff_ne.2 (by omega)
          go_enter Tryz.func63, Tryz.ntmps63
          go_wp2_with fail
          refine HD.out.mono ?_
          rintro e w1 ⟨rfl, b1⟩
          go_wp2_with fail
          refine (H49 _).mono ?_
          rintro e _ ⟨rfl, rfl⟩
          go_wp2
          exact bodyPost_ret (res37 _ _ _ _ _ rfl rfl rfl) rfl (chr_mk hC b1)
        · have c2 : ((r : Int) == 65533) = false := beq_eq_false_iff_ne.2 (by omega)
          go_enter Tryz.func63, Tryz.ntmps63
          go_wp2_with fail
          refine HD.out.mono ?_
          rintro e w1 ⟨rfl, b1⟩
          go_wp2_with fail
          refine (H49 _).mono ?_
          rintro e _ ⟨rfl, rfl⟩
          go_wp2
          exact bodyPost_ret (res37 _ _ _ _ _ rfl rfl rfl) rfl (chr_mk hC b1)
      | false =>
        have hC : ChrV s ((r : Int), (n : Int), true) := .inr (.inr (.inr ⟨hne.out.1, hne.out.2, by rw [KR.out.1]; exact HB.out, by rw [KR.out.1, KR.out.2]⟩))
        by_cases h3 : r = 65533
        · subst h3
          have c3 : ((n : Int) == 1) = false := beq_eq_false_iff_ne.2 (by omega)
          go_enter Tryz.func63, Tryz.ntmps63
          go_wp2_with fail
          refine HD.out.mono ?_
          rintro e w1 ⟨rfl, b1⟩
          go_wp2_with fail
          refine (H49 _).mono ?_
          rintro e _ ⟨rfl, rfl⟩
          go_wp2
          exact bodyPost_ret (res37 _ _ _ _ _ rfl rfl rfl) rfl (chr_mk hC b1)
        · have c2 : ((r : Int) == 65533) = false := beq_eq_false_iff_ne.2 (by omega)
          go_enter Tryz.func63, Tryz.ntmps63
          go_wp2_with fail
          refine HD.out.mono ?_
          rintro e w1 ⟨rfl, b1⟩
          go_wp2_with fail
          refine (H49 _).mono ?_
          rintro e _ ⟨rfl, rfl⟩
          go_wp2
          exact bodyPost_ret (res37 _ _ _ _ _ rfl rfl rfl) rfl (chr_mk hC b1)
end Go.Proofs.YthffcdahjcpdfaaGreatDoor.Q

