import Derived.Test.YthffcdahjcpdfaaGreatDoorQQh
import Derived.Test.YthffcdahjcpdfaaGreatDoorGPb
import Derived.Test.YthffcdahjcpdfaaGreatDoorGQQm
import Derived.Test.YthffcdahjcpdfaaGreatDoorGWa
import Derived.Test.YthffcdahjcpdfaaGreatDoorGZc
import Derived.Test.YthffcdahjcpdfaaGreatDoorGZe
import Derived.Lib.AppendIntMem
import Derived.Deep.RegionWith
namespace Go.Proofs.YthffcdahjcpdfaaGreatDoor.Q
open Go.RowKit
set_option linter.unusedVariables false
set_option linter.unusedSimpArgs false

theorem wpList_appS {ops : Array Oper} {rest : List Oper} {o : Oper} {a : Act} {w : World} {Q : Exit → Act → World → Prop} (hgd : o.guard = none) (sl x : Operand)
    (ho : o.op = .call { callee := .builtin .append, args := #[sl, x], argTypes := #[66, 9] }) (base : Nat) (v : Value) (L : List UInt8) (hs : a.eval sl = v) (hown : OwnB w base v L)
    (s : ByteArray) (hx : a.eval x = .string s) (hlen : L.length + s.data.toList.length ≤ 140737488355328) (hbase : base ≤ w.heap.size)
    (h : ∀ v' w', OwnB w' base v' (L ++ s.data.toList) → w.grownBy w' v.ownBlock → wpList Tryz.prog ops Q rest (a.put o.dst v') w') : wpList Tryz.prog ops Q (o :: rest) a w :=
  wpList_plain hgd fun _ hK => by
    obtain ⟨v', w', hr, h2, h3⟩ := run_appS w base o.type v L s hown hlen hbase
    unfold Oper.wp execOp
    simp only [ho, resolve, invoke, builtin, Sem.run_bind, Sem.run_pure, Result.andThen_ok, List.map_toArray, List.map_cons, List.map_nil, hs, hx, hr]
    exact hK _ _ (h v' w' h2 h3)
theorem flat_at (l : List UInt8) (k : Nat) (h : k < l.length) : (l.drop k).flatMap escB = escB (l.getD k 0) ++ (l.drop (k + 1)).flatMap escB := by
  rw [List.drop_eq_getElem_cons h, List.flatMap_cons]
  congr 2
  simp [List.getElem?_eq_getElem h]
theorem esc_is {c : UInt8} {n : Nat} (h : c.toNat = n) (hn : n < 256) : c = UInt8.ofNat n := by
  apply UInt8.toNat_inj.1
  rw [UInt8.toNat_ofNat']
  omega
end Go.Proofs.YthffcdahjcpdfaaGreatDoor.Q

namespace Go.Proofs.YthffcdahjcpdfaaGreatDoor.Q
open Go.RowKit
set_option linter.unusedVariables false
set_option linter.unusedSimpArgs false

end Go.Proofs.YthffcdahjcpdfaaGreatDoor.Q

namespace Go.Proofs.YthffcdahjcpdfaaGreatDoor
open Go.RowKit
set_option linter.unusedVariables false
set_option linter.unusedSimpArgs false

abbrev PowB (B : Nat) (w : World) : Prop := Lib.TabBelow Tryz.prog B w "internal/strconv.uint64pow10" .u64 Lib.pow10Tab
theorem byC_app (L M : List UInt8) : Q.byC (L ++ M) = Q.byC L ++ Q.byC M := by simp [Q.byC]
theorem appInt_any (B : Nat) (v : Value) (L : List UInt8) (i : Int) (w : World) (h0 : 0 ≤ i) (h1 : i ≤ 2147483647) (hown : Q.OwnB w B v L) (hB : B ≤ w.heap.size) (hlen : L.length + 21 ≤ 140737488355328) (hP : PowB B w) :
    Calls Tryz.prog 43 #[v, .int .i64 i, .int .i64 10] w fun e w' => ∃ v', e = .returned v' ∧ Q.OwnB w' B v' (L ++ Lib.itoa i) ∧ Below B w w' :=
  (Any.strconv_AppendInt_10 laysAppInt B L.length i (by omega) (by omega) v (Q.byC L) w hown hB hlen hP).mono fun e w' ⟨v', h1, h2, h3, _⟩ => ⟨v', h1, by
    unfold Q.OwnB
    rw [List.length_append, byC_app]
    exact h2, h3⟩
/-- The text of a step. -/
def stepT (p : St) : List UInt8 := if p.k = 2 then [91] ++ Lib.itoa p.n ++ [93] else if p.k = 3 then [126] ++ Lib.itoa p.n else [47] ++ (if plS p.s = true then p.s.data.toList else Q.quoL p.s.data.toList)
theorem own_ne {w : World} {base : Nat} {v : Value} {L : List UInt8} (h : Q.OwnB w base v L) {k : Nat} (hk : w.heap.size ≤ k) : v.ownBlock ≠ some k := fun e => by
  have := (World.ownsRow.lt h k e).2
  omega
theorem grown_cell {w w' : World} {row : Option Nat} (gr : w.grownBy w' row) {b off : Nat} {x : Value} (hb : row ≠ some b) (h : w.cell? ⟨b, off, none⟩ = some x) : w'.cell? ⟨b, off, none⟩ = some x := by
  have hlt := block_lt_of_cell h
  exact (World.cell?_of_block (a := ⟨b, off, none⟩) (gr.block b hlt (fun e => hb e.symm))).trans h
set_option maxRecDepth 100000 in
set_option maxHeartbeats 2000000 in
theorem astep_idx (base : Nat) (v : Value) (L : List UInt8) (s : ByteArray) (n : Int) (w : World) (hown : Q.OwnB w base v L) (hbase : base ≤ w.heap.size) (hlen : L.length + 1000 ≤ 140737488355328) (h0 : 0 ≤ n) (h1 : n ≤ 2147483647) (hP : PowB base w) (hlenI : (Lib.itoa n).length ≤ 21) :
    Calls Tryz.prog 17 #[v, .agg #[.int .u8 2, .string s, .int .i64 n]] w fun e w' => ∃ v', e = .returned v' ∧ Q.OwnB w' base v' (L ++ ([91] ++ Lib.itoa n ++ [93])) ∧ Below base w w' := by
  obtain ⟨W0, hW0⟩ : ∃ W, W = w.alloc (.cells #[.int .u8 2, .string s, .int .i64 n] 54) := ⟨_, rfl⟩
  obtain ⟨W1, hW1⟩ : ∃ W, W = W0.alloc (.cells #[.int .u8 91] 5) := ⟨_, rfl⟩
  have z0 : W0.heap.size = w.heap.size + 1 := by rw [hW0]; simp
  have z1 : W1.heap.size = w.heap.size + 2 := by rw [hW1]; simp [z0]
  have bw0 : Below w.heap.size w W0 := by rw [hW0]; exact (Below.refl _ _).alloc (Nat.le_refl _) _
  have bw01 : Below W0.heap.size W0 W1 := by rw [hW1]; exact (Below.refl _ _).alloc (Nat.le_refl _) _
  have bw1 : Below w.heap.size w W1 := bw0.trans (bw01.mono bw0.size)
  have g0 := heap_alloc_new w (.cells #[.int .u8 2, .string s, .int .i64 n] 54)
  rw [← hW0] at g0
  have g1 : W1.heap[w.heap.size]? = some (.cells #[.int .u8 2, .string s, .int .i64 n] 54 (0, 0)) := by rw [bw01.block _ (by omega)]; exact g0
  have ne1 : v.ownBlock ≠ some w.heap.size := own_ne hown (Nat.le_refl _)
  have O1 : Hid (Q.OwnB W1 base v L) := hown.below bw1
  have B1 : Hid (Q.Byt W1 (some ⟨w.heap.size + 1, 0, none⟩) [91]) := by
    have h := Q.byt_lit2 W0 [91] 5
    rw [z0] at h
    show Q.Byt _ _ _
    rw [hW1]
    exact h
  have S1 : Hid (L.length + ([91] : List UInt8).length ≤ 140737488355328) := by show _ ≤ _; simp; omega
  have Z1 : Hid (base ≤ W1.heap.size) := by show _ ≤ _; omega
  have BB1 : Hid (Below base w W1) := bw1.mono hbase
  have HX : Hid (∀ w2, W1.grownBy w2 v.ownBlock → w2.cell? ⟨w.heap.size, 1, none⟩ = some (.string s) ∧ w2.cell? ⟨w.heap.size, 2, none⟩ = some (.int .i64 n)) := fun w2 gr =>
    ⟨grown_cell gr ne1 ((cell_of_row _ _ 1 _ _ _ g1).trans rfl), grown_cell gr ne1 ((cell_of_row _ _ 2 _ _ _ g1).trans rfl)⟩
  have HW0 := Hid.mk' hW0
  have HW1 := Hid.mk' hW1
  have HP := Hid.mk' (fun w2 (h : Below base w w2) => Lib.TabBelow.on hP h)
  have HLen := Hid.mk' hlenI
  clear hW0 hW1 bw0 bw01 bw1 g0 g1 hown z0 z1 hP hlenI
  go_enter Tryz.func17, Tryz.ntmps17
  go_wp2_with (first | (at_builtin; rw [← HW0.out, ← HW1.out]; refine Q.wpList_app rfl (.tmp 9) (.tmp 10) rfl base v L rfl O1.out (some ⟨w.heap.size + 1, 0, none⟩) 1 1 [91] rfl rfl B1.out S1.out Z1.out ?_) | fail)
  intro v2 w2 own2 gr2
  obtain ⟨d1, d2⟩ := HX.out w2 gr2
  have BB2 : Hid (Below base w w2) := Q.below_own BB1.out O1.out gr2 Z1.out
  have O2 : Hid (Q.OwnB w2 base v2 (L ++ [91])) := own2
  have Z2 : Hid (base ≤ w2.heap.size) := Nat.le_trans Z1.out gr2.size
  clear own2 gr2 O1 B1 S1 Z1 BB1 HX HW0 HW1
  have HI := Hid.mk' (appInt_any base v2 (L ++ [91]) n w2 h0 h1 O2.out Z2.out (by simp; omega) (HP.out w2 BB2.out))
  go_wp2_with fail
  refine HI.out.mono ?_
  rintro e w3 ⟨v3, rfl, own3, b3⟩
  have BB3 : Hid (Below base w w3) := BB2.out.trans b3
  have O3 : Hid (Q.OwnB w3 base v3 (L ++ [91] ++ Lib.itoa n)) := own3
  have HL : Hid ((Lib.itoa n).length ≤ 21) := HLen.out
  clear HI own3 d1 d2 O2 BB2
  have Z3 : Hid (base ≤ w3.heap.size) := by show _ ≤ _; exact Nat.le_trans Z2.out b3.size
  obtain ⟨W4, hW4⟩ : ∃ W, W = w3.alloc (.cells #[.int .u8 93] 5) := ⟨_, rfl⟩
  have bw4 : Below w3.heap.size w3 W4 := by rw [hW4]; exact (Below.refl _ _).alloc (Nat.le_refl _) _
  have O4 : Hid (Q.OwnB W4 base v3 (L ++ [91] ++ Lib.itoa n)) := O3.out.below bw4
  have B4 : Hid (Q.Byt W4 (some ⟨w3.heap.size, 0, none⟩) [93]) := by show Q.Byt _ _ _; rw [hW4]; exact Q.byt_lit2 w3 [93] 5
  have S4 : Hid ((L ++ [91] ++ Lib.itoa n).length + ([93] : List UInt8).length ≤ 140737488355328) := by show _ ≤ _; have := HL.out; simp; omega
  have Z4 : Hid (base ≤ W4.heap.size) := Nat.le_trans Z3.out bw4.size
  have BB4 : Hid (Below base w W4) := BB3.out.trans (bw4.mono Z3.out)
  have HW4 := Hid.mk' hW4
  clear hW4 bw4 O3 BB3 HL b3
  go_wp2_with (first | (at_builtin; rw [← HW4.out]; refine Q.wpList_app rfl (.tmp 16) (.tmp 17) rfl base v3 (L ++ [91] ++ Lib.itoa n) rfl O4.out (some ⟨w3.heap.size, 0, none⟩) 1 1 [93] rfl rfl B4.out S4.out Z4.out ?_) | fail)
  intro v5 w5 own5 gr5
  have BB5 : Hid (Below base w w5) := Q.below_own BB4.out O4.out gr5 Z4.out
  have O5 : Hid (Q.OwnB w5 base v5 (L ++ ([91] ++ Lib.itoa n ++ [93]))) := by show Q.OwnB _ _ _ _; simpa using own5
  clear own5 gr5 O4 B4 S4 Z4 BB4 HW4
  go_wp2
  go_ret
  exact ⟨_, rfl, O5.out, BB5.out⟩
set_option maxRecDepth 100000 in
set_option maxHeartbeats 2000000 in
theorem astep_kid (base : Nat) (v : Value) (L : List UInt8) (s : ByteArray) (n : Int) (w : World) (hown : Q.OwnB w base v L) (hbase : base ≤ w.heap.size) (hlen : L.length + 1000 ≤ 140737488355328) (h0 : 0 ≤ n) (h1 : n ≤ 2147483647) (hP : PowB base w) (hlenI : (Lib.itoa n).length ≤ 21) :
    Calls Tryz.prog 17 #[v, .agg #[.int .u8 3, .string s, .int .i64 n]] w fun e w' => ∃ v', e = .returned v' ∧ Q.OwnB w' base v' (L ++ ([126] ++ Lib.itoa n)) ∧ Below base w w' := by
  obtain ⟨W0, hW0⟩ : ∃ W, W = w.alloc (.cells #[.int .u8 3, .string s, .int .i64 n] 54) := ⟨_, rfl⟩
  obtain ⟨W1, hW1⟩ : ∃ W, W = W0.alloc (.cells #[.int .u8 126] 5) := ⟨_, rfl⟩
  have z0 : W0.heap.size = w.heap.size + 1 := by rw [hW0]; simp
  have z1 : W1.heap.size = w.heap.size + 2 := by rw [hW1]; simp [z0]
  have bw0 : Below w.heap.size w W0 := by rw [hW0]; exact (Below.refl _ _).alloc (Nat.le_refl _) _
  have bw01 : Below W0.heap.size W0 W1 := by rw [hW1]; exact (Below.refl _ _).alloc (Nat.le_refl _) _
  have bw1 : Below w.heap.size w W1 := bw0.trans (bw01.mono bw0.size)
  have g0 := heap_alloc_new w (.cells #[.int .u8 3, .string s, .int .i64 n] 54)
  rw [← hW0] at g0
  have g1 : W1.heap[w.heap.size]? = some (.cells #[.int .u8 3, .string s, .int .i64 n] 54 (0, 0)) := by rw [bw01.block _ (by omega)]; exact g0
  have ne1 : v.ownBlock ≠ some w.heap.size := own_ne hown (Nat.le_refl _)
  have O1 : Hid (Q.OwnB W1 base v L) := hown.below bw1
  have B1 : Hid (Q.Byt W1 (some ⟨w.heap.size + 1, 0, none⟩) [126]) := by
    have h := Q.byt_lit2 W0 [126] 5
    rw [z0] at h
    show Q.Byt _ _ _
    rw [hW1]
    exact h
  have S1 : Hid (L.length + ([126] : List UInt8).length ≤ 140737488355328) := by show _ ≤ _; simp; omega
  have Z1 : Hid (base ≤ W1.heap.size) := by show _ ≤ _; omega
  have BB1 : Hid (Below base w W1) := bw1.mono hbase
  have HX : Hid (∀ w2, W1.grownBy w2 v.ownBlock → w2.cell? ⟨w.heap.size, 1, none⟩ = some (.string s) ∧ w2.cell? ⟨w.heap.size, 2, none⟩ = some (.int .i64 n)) := fun w2 gr =>
    ⟨grown_cell gr ne1 ((cell_of_row _ _ 1 _ _ _ g1).trans rfl), grown_cell gr ne1 ((cell_of_row _ _ 2 _ _ _ g1).trans rfl)⟩
  have HW0 := Hid.mk' hW0
  have HW1 := Hid.mk' hW1
  have HP := Hid.mk' (fun w2 (h : Below base w w2) => Lib.TabBelow.on hP h)
  have HLen := Hid.mk' hlenI
  clear hW0 hW1 bw0 bw01 bw1 g0 g1 hown z0 z1 hP hlenI
  go_enter Tryz.func17, Tryz.ntmps17
  go_wp2_with (first | (at_builtin; rw [← HW0.out, ← HW1.out]; refine Q.wpList_app rfl (.tmp 21) (.tmp 22) rfl base v L rfl O1.out (some ⟨w.heap.size + 1, 0, none⟩) 1 1 [126] rfl rfl B1.out S1.out Z1.out ?_) | fail)
  intro v2 w2 own2 gr2
  obtain ⟨d1, d2⟩ := HX.out w2 gr2
  have BB2 : Hid (Below base w w2) := Q.below_own BB1.out O1.out gr2 Z1.out
  have O2 : Hid (Q.OwnB w2 base v2 (L ++ [126])) := own2
  have Z2 : Hid (base ≤ w2.heap.size) := Nat.le_trans Z1.out gr2.size
  clear own2 gr2 O1 B1 S1 Z1 BB1 HX HW0 HW1
  have HI := Hid.mk' (appInt_any base v2 (L ++ [126]) n w2 h0 h1 O2.out Z2.out (by simp; omega) (HP.out w2 BB2.out))
  go_wp2_with fail
  refine HI.out.mono ?_
  rintro e w3 ⟨v3, rfl, own3, b3⟩
  have BB3 : Hid (Below base w w3) := BB2.out.trans b3
  have O3 : Hid (Q.OwnB w3 base v3 (L ++ [126] ++ Lib.itoa n)) := own3
  have HL : Hid ((Lib.itoa n).length ≤ 21) := HLen.out
  clear HI own3 d1 d2 O2 BB2
  have O5 : Hid (Q.OwnB w3 base v3 (L ++ ([126] ++ Lib.itoa n))) := by show Q.OwnB _ _ _ _; simpa using O3.out
  clear b3
  go_wp2
  go_ret
  exact ⟨_, rfl, O5.out, BB3.out⟩
end Go.Proofs.YthffcdahjcpdfaaGreatDoor

