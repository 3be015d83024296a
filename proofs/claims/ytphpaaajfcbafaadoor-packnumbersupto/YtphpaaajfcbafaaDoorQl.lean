import Derived.Test.YtphpaaajfcbafaaDoorQk
namespace Go.Proofs.YtphpaaajfcbafaaDoor.K
open Go.RowKit
set_option linter.unusedVariables false
set_option linter.unusedSimpArgs false

/-- UnRuns' answer, of any number. -/
def unA (L : List UInt8) (n : Int) : List Nat × Int × Int := if n < 0 then ([], 2, 0) else un L n.toNat ⟨0, 0, 0⟩ [] false
variable {L : List UInt8}
/-- What unRuns answers, of any number. -/
def UQ (w w' : World) (L : List UInt8) (n : Int) (e : Ending) : Prop := ∃ v err, e = .returned (.tuple #[v, err]) ∧ Er w' err (unA L n).2.1 (unA L n).2.2 ∧ OwnV w' w.heap.size 35 v (uC (unA L n).1) ∧ Below w.heap.size w w'
set_option maxRecDepth 100000 in
set_option maxHeartbeats 1000000 in
theorem unruns_all (n : Int) (a0 : Option Addr) (nb c0 : Nat) (w : World) (hl : L.length = nb) (hnb : nb ≤ 140737488351232) (ha : a0 = none → c0 = 0) (hb : Byt w a0 L) (hn0 : -9223372036854775808 ≤ n) (hn : n ≤ 2147483647) :
    Calls Tryd.prog 15 #[.slice a0 nb c0, .int .i64 n] w fun e w' => UQ w w' L n e := by
  by_cases hneg : n < 0
  · have e1 : unA L n = ([], 2, 0) := by unfold unA; rw [if_pos hneg]
    have HP : Hid (UQ w (w.alloc (.cells #[.int .i64 2, .int .i64 0] 65)) L n (.returned (.tuple #[.slice none 0 0, .iface 63 (.pointer (some ⟨w.heap.size, 0, none⟩))]))) := ⟨_, _, rfl, by
      rw [e1]
      exact .inr ⟨by decide, w.heap.size, rfl, (cell_of_row _ w.heap.size 0 _ _ _ (heap_alloc_new w _)).trans rfl, (cell_of_row _ w.heap.size 1 _ _ _ (heap_alloc_new w _)).trans rfl⟩, by rw [e1]; exact ownV_nil _ _ _, (Below.refl _ _).alloc (Nat.le_refl _) _⟩
    clear hb e1
    go_enter Tryd.func15, Tryd.ntmps15
    go_wp2
    go_ret2
    exact HP.out
  · obtain ⟨m, rfl⟩ : ∃ m : Nat, n = (m : Int) := ⟨n.toNat, by omega⟩
    refine (unruns_any m a0 nb c0 w hl hnb ha hb (by omega)).mono fun e w' h => ?_
    have e1 : unA L (m : Int) = un L m ⟨0, 0, 0⟩ [] false := by unfold unA; rw [if_neg hneg]; rfl
    unfold UQ
    rw [e1]
    exact h
/-- What UnRuns answers. -/
def UR (w w' : World) (A : List Nat × Int × Int) (e : Ending) : Prop := ∃ v, e = .returned (.tuple #[v, .int .i64 A.2.1, .int .i64 A.2.2]) ∧ OwnV w' w.heap.size 35 v (uC A.1) ∧ Below w.heap.size w w'
set_option maxRecDepth 100000 in
set_option maxHeartbeats 1000000 in
theorem UnRuns_any (n : Int) (a0 : Option Addr) (nb c0 : Nat) (w : World) (hg : EG w) (hl : L.length = nb) (hnb : nb ≤ 140737488351232) (ha : a0 = none → c0 = 0) (hb : Byt w a0 L) (hn0 : -9223372036854775808 ≤ n) (hn : n ≤ 2147483647) :
    Calls Tryd.prog 6 #[.slice a0 nb c0, .int .i64 n] w fun e w' => UR w w' (unA L n) e := by
  have HU := Hid.mk' (unruns_all n a0 nb c0 w hl hnb ha hb hn0 hn)
  have HG := Hid.mk' hg
  clear hb ha hg
  unfold UQ at HU
  generalize unA L n = A at *
  go_enter Tryd.func6, Tryd.ntmps6
  go_wp2_with (first
    | (go_at_call 15; refine HU.out.mono ?_)
    | fail)
  rintro e w1 ⟨v, err, rfl, he, ho, hb⟩
  have HT := Hid.mk' (told_any err _ _ w1 (HG.out.below hb) he)
  have HO := Hid.mk' ho
  have HB := Hid.mk' hb
  clear he ho hb
  go_wp2_with (first
    | (go_at_call 16; refine HT.out.mono ?_)
    | fail)
  rintro e w2 ⟨rfl, b2⟩
  have HR : Hid (UR w w2 A (.returned (.tuple #[v, .int .i64 A.2.1, .int .i64 A.2.2]))) := ⟨v, rfl, HO.out.below b2, HB.out.trans (b2.mono HB.out.size)⟩
  clear b2 HO HB HT
  go_wp2
  go_ret3
  exact HR.out
theorem xorm1 (a : Int) (h0 : 0 ≤ a) (h1 : a < 9223372036854775808) : bits .xor .i64 a (-1) = -a - 1 := by
  show IntKind.i64.wrap ((BitVec.ofInt 64 a ^^^ BitVec.ofInt 64 (-1)).toNat : Int) = _
  rw [show BitVec.ofInt 64 (-1) = BitVec.allOnes 64 by decide, BitVec.xor_allOnes, BitVec.toNat_not, BitVec.toNat_ofInt, IntKind.wrap_i64]
  omega
theorem xori0 (a : Int) (h0 : 0 ≤ a) (h1 : a < 9223372036854775808) : bits .xor .i64 a 0 = a := by
  show IntKind.i64.wrap ((BitVec.ofInt 64 a ^^^ BitVec.ofInt 64 0).toNat : Int) = _
  rw [show BitVec.ofInt 64 0 = 0#64 by decide, BitVec.xor_zero, BitVec.toNat_ofInt, IntKind.wrap_i64]
  omega
theorem and1 (x : Nat) (h : x < 18446744073709551616) : bits .and .u64 (x : Int) 1 = ((x % 2 : Nat) : Int) := by
  show IntKind.u64.wrap ((BitVec.ofInt 64 (x : Int) &&& BitVec.ofInt 64 1).toNat : Int) = _
  have e1 : BitVec.ofInt 64 1 = BitVec.ofNat 64 1 := by decide
  have e2 : BitVec.ofInt 64 (x : Int) = BitVec.ofNat 64 x := BitVec.ofInt_natCast 64 x
  rw [e1, e2, BitVec.toNat_and, BitVec.toNat_ofNat, BitVec.toNat_ofNat]
  have e3 : x % 2 ^ 64 = x := by omega
  rw [e3, show 1 % 2 ^ 64 = 1 by decide, Nat.and_one_is_mod, IntKind.wrap_u64]
  omega
set_option maxRecDepth 100000 in
set_option maxHeartbeats 1000000 in
theorem unfold_any (x : Nat) (w : World) (h : x < 18446744073709551616) : Calls Tryd.prog 43 #[.int .u64 (x : Int)] w fun e w' => e = .returned (.int .i64 (unzig x)) ∧ w' = w := by
  have ha := and1 x h
  by_cases hx : x % 2 = 1
  · rw [hx] at ha
    have e2 : unzig x = -((x / 2 : Nat) : Int) - 1 := by unfold unzig; rw [if_pos hx]
    have e3 := xorm1 ((x / 2 : Nat) : Int) (by omega) (by omega)
    rw [e2]
    go_enter Tryd.func43, Tryd.ntmps43
    go_wp2
    go_ret
    exact ⟨ret_int (by have := xorm1 ((x : Int) / 2) (by omega) (by omega); rw [this]; omega), rfl⟩
  · have hx0 : x % 2 = 0 := by omega
    rw [hx0] at ha
    have e2 : unzig x = ((x / 2 : Nat) : Int) := by unfold unzig; rw [if_neg hx]
    rw [e2]
    go_enter Tryd.func43, Tryd.ntmps43
    go_wp2
    go_ret
    exact ⟨ret_int (by have := xori0 ((x : Int) / 2) (by omega) (by omega); rw [this]; omega), rfl⟩
/-- What stands at a place, summed up. -/
def acc (X : List Nat) : Nat → Int
  | 0 => 0
  | k + 1 => IntKind.i64.wrap (acc X k + unzig (X.getD k 0))
def dsl (X : List Nat) : List Int := (List.range X.length).map (fun k => acc X (k + 1))
theorem dsl_len (X : List Nat) : (dsl X).length = X.length := by simp [dsl]
theorem dsl_get (X : List Nat) (k : Nat) (h : k < X.length) : (dsl X).getD k 0 = acc X (k + 1) := by simp [dsl, h]
def unDA (A : List Nat × Int × Int) : List Int × Int × Int := if A.2.1 = 0 then (dsl A.1, 0, 0) else ([], A.2.1, A.2.2)
/-- What unDeltas answers. -/
def UE (w w' : World) (D : List Int × Int × Int) (e : Ending) : Prop := ∃ a c err, e = .returned (.tuple #[.slice a D.1.length c, err]) ∧ Er w' err D.2.1 D.2.2 ∧ Sgn w' a D.1 ∧ Below w.heap.size w w'
set_option maxRecDepth 100000 in
theorem index28 (b n cap k : Nat) (w : World) (hk : k < n) : (Instr.indexAt 28 (.slice (some ⟨b, 0, none⟩) n cap) (.int .i64 (k : Int))).run Tryd.prog w = .ok (.pointer (some ⟨b, k, none⟩)) w := by
  rw [run_indexAt_slice (P := Tryd.prog) _ _ _ _ _ _ _ Tryd.underlying28]
  have hsz : (sizeOf (Tryd.prog.elem 28)).run Tryd.prog w = .ok 1 w := by kernel_rfl
  simp [hk, hsz, Addr.add_mid]
set_option maxRecDepth 100000 in
set_option maxHeartbeats 4000000 in
theorem undeltas_any (n : Int) (a0 : Option Addr) (nb c0 : Nat) (w : World) (hl : L.length = nb) (hnb : nb ≤ 140737488351232) (ha : a0 = none → c0 = 0) (hb : Byt w a0 L) (hn0 : -9223372036854775808 ≤ n) (hn : n ≤ 2147483647) (hA1 : (unA L n).1.length ≤ 2147483647) (hA2 : ∀ x ∈ (unA L n).1, x < 18446744073709551616) :
    Calls Tryd.prog 22 #[.slice a0 nb c0, .int .i64 n] w fun e w' => UE w w' (unDA (unA L n)) e := by
  have HU := Hid.mk' (unruns_all n a0 nb c0 w hl hnb ha hb hn0 hn)
  clear hb ha
  unfold UQ at HU
  generalize unA L n = A at *
  go_enter Tryd.func22, Tryd.ntmps22
  go_wp2_with (first
    | (go_at_call 15; refine HU.out.mono ?_)
    | fail)
  rintro e w1 ⟨v, err, rfl, he, ho, hb⟩
  obtain ⟨A1, y, p⟩ := A
  simp only at he ho hA1 hA2 ⊢
  rcases he with ⟨rfl, rfl, rfl⟩ | ⟨hy, q, rfl, d0, d1⟩
  · obtain ⟨av, cv, rfl, _, hv, _⟩ := ho.open
    rw [uC_len]
    have hN := vals_nums hv
    have e1 : unDA (A1, 0, 0) = (dsl A1, 0, 0) := by simp [unDA]
    have HE1 := Hid.mk' e1
    clear ho hv e1 HU
    have mk2 := run_make_row' (P := Tryd.prog) 28 2 (.int .i64 0) 8 Tryd.underlying28 info2 rfl .i64 .i64 A1.length (by omega) (by omega)
    have HS := Hid.mk' hN
    have HLT := Hid.mk' hA2
    have H0 : Hid ((w1.alloc (.cells (madeCells #[.int .i64 0] A1.length) 2)).rowIs w1.heap.size 2 A1.length (fun j => if j < 0 then .int .i64 (acc A1 (j + 1)) else .int .i64 0)) := (World.rowIs_made w1 (.int .i64 0) A1.length 2).congr (fun j _ => by rw [if_neg (by omega)])
    have HB0 : Hid (Below w1.heap.size w1 (w1.alloc (.cells (madeCells #[.int .i64 0] A1.length) 2))) := (Below.refl _ _).alloc (Nat.le_refl _) _
    have HB1 := Hid.mk' hb
    clear hN hA2 hb
    go_wp2
    clear mk2
    generalize hB : w1.heap.size = B at *
    have HBB := Hid.mk' hB
    clear hB
    go_loopw [9, 10, 11, 26] (fun ah _ _ i wr => ∃ k : Nat, k ≤ A1.length ∧ i = .int .i64 (k : Int) ∧ ah = .int .i64 (acc A1 k) ∧ Hid (wr.rowIs B 2 A1.length (fun j => if j < k then .int .i64 (acc A1 (j + 1)) else .int .i64 0)) ∧ Hid (Below B w1 wr)) (fun _ _ _ i _ => A1.length - (intOf i).toNat)
    case atStart => exact ⟨0, by omega, rfl, rfl, H0, HB0⟩
    case round =>
      obtain ⟨k, hk, rfl, rfl, HR, HBe⟩ := hrel
      clear H0 HB0
      by_cases hkn : k < A1.length
      · have hkn' : (k : Int) < (A1.length : Int) := by omega
        obtain ⟨b, off, rfl, hbl, hc⟩ := HS.out.open (by omega)
        have c1 : wr.cell? ⟨b, off + k, none⟩ = some (.int .u64 ((A1.getD k 0 : Nat) : Int)) := (HBe.out.cell (p := ⟨b, off + k, none⟩) (by rw [← HBB.out]; exact hbl)).trans (hc k hkn)
        have hlt : A1.getD k 0 < 18446744073709551616 := by rw [List.getD_eq_getElem?_getD, List.getElem?_eq_getElem hkn]; exact HLT.out _ (List.getElem_mem hkn)
        have HF := Hid.mk' (fun W => unfold_any (A1.getD k 0) W hlt)
        have ix2 := fun wx => index28 B A1.length A1.length k wx hkn
        have c2 : ∃ v, wr.cell? ⟨B, k, none⟩ = some (.int .i64 v) := ⟨0, by have := HR.out.cell hkn; rw [this, if_neg (by omega)]⟩
        obtain ⟨v0, c2⟩ := c2
        have f2 : wr.frozen? ⟨B, k, none⟩ = false := HR.out.frozen k
        have HN : Hid ((wr.setCell ⟨B, k, none⟩ (.int .i64 (acc A1 (k + 1)))).rowIs B 2 A1.length (fun j => if j < k + 1 then .int .i64 (acc A1 (j + 1)) else .int .i64 0)) := (HR.out.set k _).congr (fun j _ => by
          by_cases e : j = k
          · subst e
            rw [if_pos rfl, if_pos (by omega)]
          · rw [if_neg e]
            by_cases e2 : j < k
            · rw [if_pos e2, if_pos (by omega)]
            · rw [if_neg e2, if_neg (by omega)])
        have HBN : Hid (Below B w1 (wr.setCell ⟨B, k, none⟩ (.int .i64 (acc A1 (k + 1))))) := HBe.out.setCell (p := ⟨B, k, none⟩) (Nat.le_refl _) _
        have hacc : wrap64 (acc A1 k + unzig (A1.getD k 0)) = acc A1 (k + 1) := by show _ = IntKind.i64.wrap _; rw [IntKind.wrap_i64]; unfold wrap64; omega
        generalize hk1 : acc A1 (k + 1) = ak1 at *
        have HK1 := Hid.mk' hk1
        generalize acc A1 k = ak at *
        generalize unzig (A1.getD k 0) = uz at *
        generalize A1.getD k 0 = x at *
        clear hc hk1
        go_wp2_with (first
          | (go_at_call 43; refine (HF.out _).mono ?_; rintro e W1 ⟨rfl, hw1⟩; obtain rfl := hw1)
          | fail)
        go_roundw
        case rel => exact ⟨k + 1, by omega, by go_num, by rw [HK1.out, hacc], by first | exact HN | (rw [hacc]; exact HN), by first | exact HBN | (rw [hacc]; exact HBN)⟩
        case measure => simp [intOf]; omega
      · obtain rfl : k = A1.length := by omega
        have hkn' : ¬ (A1.length : Int) < (A1.length : Int) := by omega
        have HF : Hid (UE w wr (unDA (A1, 0, 0)) (.returned (.tuple #[.slice (some ⟨B, 0, none⟩) A1.length A1.length, .nilIface]))) := by
         rw [HE1.out]
         exact ⟨_, _, _, by rw [dsl_len], .inl ⟨rfl, rfl, rfl⟩, .inr ⟨B, 0, rfl, fun j hj => by
          rw [dsl_len] at hj
          rw [Nat.zero_add, HR.out.cell hj, if_pos hj, dsl_get A1 j hj]⟩, HB1.out.trans (HBe.out.mono (by rw [← HBB.out]; exact HB1.out.size))⟩
        clear HR
        go_wp2
        go_ret2
        exact HF.out
  · have e1 : unDA (A1, y, p) = ([], y, p) := by unfold unDA; rw [if_neg hy]
    have HF : Hid (UE w w1 (unDA (A1, y, p)) (.returned (.tuple #[.slice none 0 0, .iface 63 (.pointer (some ⟨q, 0, none⟩))]))) := by
      rw [e1]
      exact ⟨none, 0, _, rfl, .inr ⟨hy, q, rfl, d0, d1⟩, .inl rfl, hb⟩
    clear d0 d1 ho hb e1
    go_wp2
    go_ret2
    exact HF.out
end Go.Proofs.YtphpaaajfcbafaaDoor.K
