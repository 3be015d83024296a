import Derived.Test.YthffcdahjcpdfaaGreatDoorGQUx
import Derived.Lib.AppendStr
import Derived.Deep.RegionHeld3
import Derived.Deep.Cut
namespace Go.Proofs.YthffcdahjcpdfaaGreatDoor.Q
open Go.RowKit
set_option linter.unusedVariables false
set_option linter.unusedSimpArgs false

/-- A character, as Quote writes it. -/
def escR (r : Int) : List UInt8 := if signN r ≠ 0 then [92, UInt8.ofNat (signN r).toNat] else if hidB r = true then [92, 117, 48, 48, hx (r / 16), hx (r % 16)] else Lib.encodeRune r
theorem str_cells (s : ByteArray) : Lib.strCells s = byC s.data.toList := by
  unfold Lib.strCells byC
  simp
theorem run_appS (w : World) (base : Nat) (ty : TypeId) (v : Value) (L : List UInt8) (s : ByteArray) (hown : OwnB w base v L)
    (h : L.length + s.data.toList.length ≤ 140737488355328) (hbase : base ≤ w.heap.size) :
    ∃ v' w', (Builtin.append_ #[66, 9] ty #[v, .string s]).run Tryz.prog w = .ok v' w' ∧ OwnB w' base v' (L ++ s.data.toList) ∧ w.grownBy w' v.ownBlock := by
  obtain ⟨i, hi, hz, hs, hby⟩ := info5'
  have hsz : s.data.toList.length = s.size := by simp
  obtain ⟨v', w', hr, h2, h3, _⟩   := Lib.run_append_own_string (P := Tryz.prog) (w := w) base 66 9 ty 5 i Tryz.underlying66 Tryz.underlying9 hi hz hs hby v L.length (byC L) hown s (by unfold maxLen; omega) (by omega) hbase
  refine ⟨v', w', hr, ?_, h3⟩
  unfold OwnB
  rw [List.length_append, show byC (L ++ s.data.toList) = byC L ++ byC s.data.toList by simp [byC], hsz, ← str_cells]
  exact h2
set_option maxRecDepth 100000 in
set_option maxHeartbeats 1000000 in
theorem appchr_sign (base : Nat) (v : Value) (L : List UInt8) (r : Int) (w : World) (hs : signN r ≠ 0) (hown : OwnB w base v L) (hlen : L.length + 6 ≤ 140737488355328) (hb : base ≤ w.heap.size) (q : Nat) (s0 : ByteArray) (p0 : Nat) (hq : w.heap[q]? = some (.stringIter s0 p0)) :
    Calls Tryz.prog 55 #[v, .int .i32 r] w fun e w' => ∃ v', e = .returned v' ∧ OwnB w' base v' (L ++ escR r) ∧ Below base w w' ∧ w'.heap[q]? = some (.stringIter s0 p0) := by
  have eR : Hid (escR r = [92, UInt8.ofNat (signN r).toNat]) := (by unfold escR; rw [if_pos hs] : _ = _)
  have HS : Hid (∀ wx, Calls Tryz.prog 60 #[.int .i32 r] wx fun e w' => e = .returned (.int .u8 (signN r)) ∧ w' = wx) := fun wx => sign_chr r wx
  obtain ⟨c, hc⟩ : ∃ c : UInt8, signN r = (c.toNat : Int) ∧ UInt8.ofNat (signN r).toNat = c := by
    refine ⟨UInt8.ofNat (signN r).toNat, ?_, rfl⟩
    rw [UInt8.toNat_ofNat']
    unfold signN
    repeat' split
    all_goals omega
  rw [hc.2] at eR
  have hc1 := hc.1
  rw [hc1] at HS hs
  have hs' : ((c.toNat : Int) != 0) = true := by simpa using hs
  clear hc hc1 hs
  have be0 : Below w.heap.size w (w.alloc (.cells #[.int .u8 92, .int .u8 (c.toNat : Int)] 5)) := (Below.refl _ _).alloc (Nat.le_refl _) _
  obtain ⟨av, cv, rfl, hcv, byv, hav⟩ := hown.open
  have HO : Hid (OwnB (w.alloc (.cells #[.int .u8 92, .int .u8 (c.toNat : Int)] 5)) base (.slice av L.length cv) L) := hown.below be0
  have HB : Hid (Byt (w.alloc (.cells #[.int .u8 92, .int .u8 (c.toNat : Int)] 5)) (some ⟨w.heap.size, 0, none⟩) [92, c]) := byt_lit2 w [92, c] 5
  have HL : Hid (L.length + [92, c].length ≤ 140737488355328) := (by simp; omega : _ ≤ _)
  have HZ : Hid (base ≤ (w.alloc (.cells #[.int .u8 92, .int .u8 (c.toNat : Int)] 5)).heap.size) := (by simp; omega : _ ≤ _)
  have HE : Hid (Below base w (w.alloc (.cells #[.int .u8 92, .int .u8 (c.toNat : Int)] 5))) := be0.mono hb
  have HQ : Hid ((w.alloc (.cells #[.int .u8 92, .int .u8 (c.toNat : Int)] 5)).heap[q]? = some (.stringIter s0 p0)) := iter_alloc hq
  clear hown hlen be0 byv hav hq
  go_enter Tryz.func55, Tryz.ntmps55
  go_wp2_with fail
  refine (HS.out _).mono ?_
  rintro e _ ⟨rfl, rfl⟩
  go_wp2_with fail
  refine (HS.out _).mono ?_
  rintro e _ ⟨rfl, rfl⟩
  go_wp2_with (first | (at_builtin; refine wpList_app rfl (.tmp 9) (.tmp 12) rfl base (.slice av L.length cv) L rfl HO.out (some ⟨_, 0, none⟩) 2 2 [92, c] rfl rfl HB.out HL.out HZ.out ?_) | fail)
  intro v' w1 own1 gr1
  have O1 : Hid (OwnB w1 base v' (L ++ escR r)) := (by rw [eR.out]; exact own1)
  have B1 : Hid (Below base _ w1) := below_own HE.out HO.out gr1 HZ.out
  have Q1 : Hid (w1.heap[q]? = some (.stringIter s0 p0)) := iter_grown HO.out gr1 HQ.out
  clear own1 gr1 HO HB HL HZ HE eR
  go_wp2
  go_ret
  exact ⟨_, rfl, O1.out, B1.out, Q1.out⟩

/-- append of a text onto an owned row, as one step of a region that draws. -/
theorem step_appS {ops : Array Oper} {o : Oper} {a : Act} {w : World} {K : Act → World → Prop} {Q : Exit → Act → World → Prop} {E : Prop} (hgd : o.guard = none) (sl x : Operand)
    (ho : o.op = .call { callee := .builtin .append, args := #[sl, x], argTypes := #[66, 9] }) (base : Nat) (v : Value) (L : List UInt8) (hs : a.eval sl = v) (hown : OwnB w base v L)
    (s : ByteArray) (hx : a.eval x = .string s) (hlen : L.length + s.data.toList.length ≤ 140737488355328) (hbase : base ≤ w.heap.size)
    (h : ∀ v' w', OwnB w' base v' (L ++ s.data.toList) → w.grownBy w' v.ownBlock → K (a.put o.dst v') w') : if Region.wanted o (yielded ops a.tmps) = true then Oper.wp Tryz.prog o a w K Q else E := by
  have hw : Region.wanted o (yielded ops a.tmps) = true := by simp [Region.wanted, hgd]
  rw [if_pos hw]
  obtain ⟨v', w', hr, h2, h3⟩ := run_appS w base o.type v L s hown hlen hbase
  unfold Oper.wp execOp
  simp only [ho, resolve, invoke, builtin, Sem.run_bind, Sem.run_pure, Result.andThen_ok, List.map_toArray, List.map_cons, List.map_nil, hs, hx, hr]
  exact h v' w' h2 h3
attribute [local go_sem ↓] index_digits
set_option maxRecDepth 100000 in
set_option maxHeartbeats 1000000 in
theorem appchr_hid (base : Nat) (v : Value) (L : List UInt8) (r : Int) (w : World) (hs : signN r = 0) (hh : hidB r = true) (h0 : 0 ≤ r) (h1 : r ≤ 127) (hown : OwnB w base v L) (hlen : L.length + 6 ≤ 140737488355328) (hb : base ≤ w.heap.size) (q : Nat) (s0 : ByteArray) (p0 : Nat) (hq : w.heap[q]? = some (.stringIter s0 p0)) :
    Calls Tryz.prog 55 #[v, .int .i32 r] w fun e w' => ∃ v', e = .returned v' ∧ OwnB w' base v' (L ++ escR r) ∧ Below base w w' ∧ w'.heap[q]? = some (.stringIter s0 p0) := by
  have eR : Hid (escR r = [92, 117, 48, 48, hx (r / 16), hx (r % 16)]) := (by unfold escR; rw [if_neg (by rw [hs]; simp), if_pos hh] : _ = _)
  have HS : Hid (∀ wx, Calls Tryz.prog 60 #[.int .i32 r] wx fun e w' => e = .returned (.int .u8 0) ∧ w' = wx) := fun wx => by have := sign_chr r wx; rw [hs] at this; exact this
  have HH : Hid (∀ wx, Calls Tryz.prog 61 #[.int .i32 r] wx fun e w' => e = .returned (.bool true) ∧ w' = wx) := fun wx => by have := hidden_chr r wx; rw [hh] at this; exact this
  obtain ⟨d1, hd1⟩ : ∃ d1, d1 = r / 16 := ⟨_, rfl⟩
  obtain ⟨d2, hd2⟩ : ∃ d2, d2 = r % 16 := ⟨_, rfl⟩
  have l1 : 0 ≤ d1 := by omega
  have u1 : d1 < 16 := by omega
  have l2 : 0 ≤ d2 := by omega
  have u2 : d2 < 16 := by omega
  rw [← hd1, ← hd2] at eR
  obtain ⟨av, cv, rfl, hcv, byv, hav⟩ := hown.open
  have HO : Hid (∀ wx, Below w.heap.size w wx → OwnB wx base (.slice av L.length cv) L) := fun wx hx => hown.below hx
  clear hs hh hown byv hav
  go_enter Tryz.func55, Tryz.ntmps55
  go_wp2_with fail
  refine (HS.out _).mono ?_
  rintro e _ ⟨rfl, rfl⟩
  go_wp2_with fail
  refine (HH.out _).mono ?_
  rintro e W ⟨rfl, rfl⟩
  clear HS HH
  have q3 : r / 16 = d1 := hd1.symm
  have qA : bits .and .i32 r 15 = d2 := (by
    have key : ∀ x : Fin 128, bits .and .i32 ((x.val : Nat) : Int) 15 = ((x.val % 16 : Nat) : Int) := by decide +kernel
    have := key ⟨r.toNat, by omega⟩
    simp only [] at this
    rw [show ((r.toNat : Nat) : Int) = r by omega] at this
    rw [this, hd2]
    omega)
  have beD : Below W.heap.size W W.drew := below_drewN (Below.refl _ _) 1
  have beA : Below W.heap.size W (W.drew.alloc (.cells #[.int .u8 ((hx d1).toNat : Int), .int .u8 ((hx d2).toNat : Int)] 5)) := beD.alloc (by show W.heap.size ≤ W.heap.size; omega) _
  have OD : Hid (OwnB W.drew base (.slice av L.length cv) L) := HO.out _ beD
  have OA : Hid (OwnB (W.drew.alloc (.cells #[.int .u8 ((hx d1).toNat : Int), .int .u8 ((hx d2).toNat : Int)] 5)) base (.slice av L.length cv) L) := HO.out _ beA
  have OW : Hid (OwnB W base (.slice av L.length cv) L) := HO.out _ (Below.refl _ _)
  have ZD : Hid (base ≤ W.drew.heap.size) := hb
  have QD : Hid (W.drew.heap[q]? = some (.stringIter s0 p0)) := hq
  have QA : Hid ((W.drew.alloc (.cells #[.int .u8 ((hx d1).toNat : Int), .int .u8 ((hx d2).toNat : Int)] 5)).heap[q]? = some (.stringIter s0 p0)) := iter_alloc QD.out
  have ZA : Hid (base ≤ (W.drew.alloc (.cells #[.int .u8 ((hx d1).toNat : Int), .int .u8 ((hx d2).toNat : Int)] 5)).heap.size) := (by simp; omega : _ ≤ _)
  have L1 : Hid (L.length + (⟨#[92, 117, 48, 48]⟩ : ByteArray).data.toList.length ≤ 140737488355328) := (by simp; omega : _ ≤ _)
  have L2 : Hid ((L ++ [92, 117, 48, 48]).length + [hx d1, hx d2].length ≤ 140737488355328) := (by simp; omega : _ ≤ _)
  have eL : Hid (L ++ [92, 117, 48, 48] ++ [hx d1, hx d2] = L ++ escR r) := (by rw [eR.out]; simp : _ = _)
  have BD : Hid (Below base W W.drew) := beD.mono hb
  have BA : Hid (Below base W (W.drew.alloc (.cells #[.int .u8 ((hx d1).toNat : Int), .int .u8 ((hx d2).toNat : Int)] 5))) := beA.mono hb
  have gA : Hid ((W.drew.alloc (.cells #[.int .u8 ((hx d1).toNat : Int), .int .u8 ((hx d2).toNat : Int)] 5)).heap[W.heap.size]? = some (.cells (bs [hx d1, hx d2]) 5 (0, 0))) := heap_alloc_new W.drew _
  clear hd1 hd2 eR HO beD beA hlen hq
  go_upto_region 4 with fail
  go_region_held3 (fun w' => True) (first | trivial) (first
    | (refine step_appS rfl (.tmp 17) (.const (.string ⟨#[92, 117, 48, 48]⟩)) rfl base (.slice av L.length cv) L (by first | rfl | simp [Act.eval, Act.put]) OD.out ⟨#[92, 117, 48, 48]⟩ rfl L1.out ZD.out ?_
       intro v1 w1 own1 gr1
       have O1 : Hid (OwnB w1 base v1 (L ++ [92, 117, 48, 48])) := own1
       have b1 : Hid (Below base W w1) := below_own BD.out OD.out gr1 ZD.out
       have QF : Hid ((w1.alloc (.cells #[.int .u8 ((hx d1).toNat : Int), .int .u8 ((hx d2).toNat : Int)] 5)).heap[q]? = some (.stringIter s0 p0)) := iter_alloc (iter_grown OD.out gr1 QD.out)
       have OF : Hid (OwnB (w1.alloc (.cells #[.int .u8 ((hx d1).toNat : Int), .int .u8 ((hx d2).toNat : Int)] 5)) base v1 (L ++ [92, 117, 48, 48])) := own1.below ((Below.refl _ _).alloc (Nat.le_refl _) _)
       have BF : Hid (Byt (w1.alloc (.cells #[.int .u8 ((hx d1).toNat : Int), .int .u8 ((hx d2).toNat : Int)] 5)) (some ⟨w1.heap.size, 0, none⟩) [hx d1, hx d2]) := byt_lit2 w1 [hx d1, hx d2] 5
       have ZF : Hid (base ≤ (w1.alloc (.cells #[.int .u8 ((hx d1).toNat : Int), .int .u8 ((hx d2).toNat : Int)] 5)).heap.size) := (by have := b1.out.size; simp; omega : _ ≤ _)
       have bF : Hid (Below base W (w1.alloc (.cells #[.int .u8 ((hx d1).toNat : Int), .int .u8 ((hx d2).toNat : Int)] 5))) := b1.out.alloc (by have := b1.out.size; omega) _
       clear own1 gr1)
    | (refine step_app rfl (.tmp 18) (.tmp 25) rfl base v1 (L ++ [92, 117, 48, 48]) (by first | rfl | simp [Act.eval, Act.put]) OF.out (some ⟨_, 0, none⟩) 2 2 [hx d1, hx d2] (by first | rfl | simp [Act.eval, Act.put]) rfl BF.out L2.out ZF.out ?_
       intro v2 w2 own2 gr2
       have O2 : Hid (OwnB w2 base v2 (L ++ escR r)) := (by rw [← eL.out]; exact own2)
       have b2 : Hid (Below base W w2) := below_own bF.out OF.out gr2 ZF.out
       have Q2 : Hid (w2.heap[q]? = some (.stringIter s0 p0)) := iter_grown OF.out gr2 QF.out
       clear own2 gr2)
    | (refine step_appS rfl (.tmp 17) (.const (.string ⟨#[92, 117, 48, 48]⟩)) rfl base (.slice av L.length cv) L (by first | rfl | simp [Act.eval, Act.put]) OA.out ⟨#[92, 117, 48, 48]⟩ rfl L1.out ZA.out ?_
       intro v1 w1 own1 gr1
       have OF : Hid (OwnB w1 base v1 (L ++ [92, 117, 48, 48])) := own1
       have bF : Hid (Below base W w1) := below_own BA.out OA.out gr1 ZA.out
       have QF : Hid (w1.heap[q]? = some (.stringIter s0 p0)) := iter_grown OA.out gr1 QA.out
       have hne : (Value.slice av L.length cv).ownBlock ≠ some W.heap.size := fun e => by have := (World.ownsRow.lt OW.out _ e).2; omega
       have gF : w1.heap[W.heap.size]? = some (.cells (bs [hx d1, hx d2]) 5 (0, 0)) := (gr1.block W.heap.size (by simp) (fun e => hne e.symm)).trans gA.out
       have BF : Hid (Byt w1 (some ⟨W.heap.size, 0, none⟩) [hx d1, hx d2]) := .inr ⟨W.heap.size, 0, rfl, fun j hj => by rw [Nat.zero_add]; exact (cell_of_row _ W.heap.size j _ _ _ gF).trans (bs_get _ j hj)⟩
       have ZF : Hid (base ≤ w1.heap.size) := (by have := bF.out.size; omega : _ ≤ _)
       clear own1 gr1 gF hne))
  all_goals go_wp2
  all_goals go_ret
  all_goals exact ⟨_, rfl, O2.out, b2.out, Q2.out⟩
set_option maxRecDepth 100000 in
set_option maxHeartbeats 1000000 in
theorem appchr_plain (base : Nat) (v : Value) (L : List UInt8) (r : Int) (w : World) (hs : signN r = 0) (hh : hidB r = false) (h0 : 0 ≤ r) (h1 : r ≤ 1114111) (hown : OwnB w base v L) (hlen : L.length + 6 ≤ 140737488355328) (hb : base ≤ w.heap.size) (q : Nat) (s0 : ByteArray) (p0 : Nat) (hq : w.heap[q]? = some (.stringIter s0 p0)) :
    Calls Tryz.prog 55 #[v, .int .i32 r] w fun e w' => ∃ v', e = .returned v' ∧ OwnB w' base v' (L ++ escR r) ∧ Below base w w' ∧ w'.heap[q]? = some (.stringIter s0 p0) := by
  have eR : Hid (escR r = Lib.encodeRune r) := (by unfold escR; rw [if_neg (by rw [hs]; simp), if_neg (by rw [hh]; simp)] : _ = _)
  have HS : Hid (∀ wx, Calls Tryz.prog 60 #[.int .i32 r] wx fun e w' => e = .returned (.int .u8 0) ∧ w' = wx) := fun wx => by have := sign_chr r wx; rw [hs] at this; exact this
  have HH : Hid (∀ wx, Calls Tryz.prog 61 #[.int .i32 r] wx fun e w' => e = .returned (.bool false) ∧ w' = wx) := fun wx => by have := hidden_chr r wx; rw [hh] at this; exact this
  have HA : Hid (Calls Tryz.prog 62 #[v, .int .i32 r] w fun e w' => ∃ v', e = .returned v' ∧ OwnB w' base v' (L ++ escR r) ∧ Below base w w' ∧ w'.heap[q]? = some (.stringIter s0 p0)) := (by rw [eR.out]; exact apprune_any base v L r w h0 h1 hown (by omega) hb q s0 p0 hq)
  obtain ⟨av, cv, rfl, hcv, byv, hav⟩ := hown.open
  clear hs hh hown byv hav eR hlen
  go_enter Tryz.func55, Tryz.ntmps55
  go_wp2_with fail
  refine (HS.out _).mono ?_
  rintro e _ ⟨rfl, rfl⟩
  go_wp2_with fail
  refine (HH.out _).mono ?_
  rintro e _ ⟨rfl, rfl⟩
  go_wp2_with fail
  refine HA.out.mono ?_
  rintro e w1 ⟨v1, rfl, o1, b1, q1⟩
  have O1 : Hid (OwnB w1 base v1 (L ++ escR r)) := o1
  clear o1 HA HS HH
  go_wp2
  go_ret
  exact ⟨_, rfl, O1.out, b1, q1⟩
theorem hid_lt {r : Int} (h : hidB r = true) : r ≤ 127 := by
  unfold hidB at h
  simp at h
  omega
theorem appchr_any (base : Nat) (v : Value) (L : List UInt8) (r : Int) (w : World) (h0 : 0 ≤ r) (h1 : r ≤ 1114111) (hown : OwnB w base v L) (hlen : L.length + 6 ≤ 140737488355328) (hb : base ≤ w.heap.size) (q : Nat) (s0 : ByteArray) (p0 : Nat) (hq : w.heap[q]? = some (.stringIter s0 p0)) :
    Calls Tryz.prog 55 #[v, .int .i32 r] w fun e w' => ∃ v', e = .returned v' ∧ OwnB w' base v' (L ++ escR r) ∧ Below base w w' ∧ w'.heap[q]? = some (.stringIter s0 p0) := by
  by_cases hs : signN r = 0
  · cases hh : hidB r with
    | true => exact appchr_hid base v L r w hs hh h0 (hid_lt hh) hown hlen hb q s0 p0 hq
    | false => exact appchr_plain base v L r w hs hh h0 h1 hown hlen hb q s0 p0 hq
  · exact appchr_sign base v L r w hs hown hlen hb q s0 p0 hq
end Go.Proofs.YthffcdahjcpdfaaGreatDoor.Q
