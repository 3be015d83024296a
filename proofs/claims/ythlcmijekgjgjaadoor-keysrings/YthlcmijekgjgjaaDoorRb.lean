import Derived.Test.YthlcmijekgjgjaaDoorRa
namespace Go.Proofs.YthlcmijekgjgjaaDoor
open Go.RowKit Go.Maps
set_option linter.unusedVariables false
set_option linter.unusedSimpArgs false

/-- Whatever is in the map. -/
def anyE (v : Value) : Option (DataW Unit × List MemPlace) := some (uD, [])
theorem law3 : Keyed Tryd.prog 3 := int_keyed Tryd.underlying3
theorem mk36 (n : Int) (w : World) : (Instr.makeMap 36 (some (.int .i64 n))).run Tryd.prog w = .ok (.map (some w.heap.size)) (w.alloc (.map #[] 0)) := by
  unfold Instr.makeMap
  simp [run_underlying Tryd.underlying36, asInt, newObj]
  rfl
set_option maxRecDepth 100000 in
set_option maxHeartbeats 4000000 in
/-- NewRing of the program's. -/
theorem newRing_any (a : Option Addr) (L : List Hd) (n c : Nat) (w : World) (hln : L.length = n) (hok : ∀ h ∈ L, HdOk h) (hn : n ≤ 3518437208780) (hA : HdsAt w a L) :
    Calls Tryd.prog 4 #[.slice a n c] w fun e w' => ∃ p : Option Addr, e = .returned (.tuple #[.pointer p, .int .i64 (ringE (L.map (·.au)))]) ∧ p.isSome = decide (ringE (L.map (·.au)) = 0) ∧ Below w.heap.size w w' := by
  have HO := Hid.mk' hok
  have HA := Hid.mk' hA
  have HN := Hid.mk' hln
  have mk := mk36 (n : Int)
  obtain ⟨A, hAu⟩ : ∃ A, L.map (·.au) = A := ⟨_, rfl⟩
  have HAu := Hid.mk' hAu
  have HAl : Hid (A.length = n) := by show _ = _; rw [← hAu, List.length_map, hln]
  rw [hAu]
  obtain ⟨W0, hW0⟩ : ∃ W0, w.alloc (.map #[] 0) = W0 := ⟨_, rfl⟩
  have own0 : Hid (W0.ownsMap Tryd.prog 3 anyE w.heap.size 0 (setA [])) := by
    show World.ownsMap _ _ _ _ _ _ _
    rw [← hW0]
    exact World.ownsMap_made w Tryd.prog 3 anyE
  have bel0 : Hid (Below w.heap.size w W0) := by
    show Below _ _ _
    rw [← hW0]
    exact (Below.refl _ _).alloc (Nat.le_refl _) _
  have HW0 := Hid.mk' hW0
  clear hok hA hln hAu hW0
  go_enter Tryd.func4, Tryd.ntmps4
  go_wp2
  rw [HW0.out]
  go_loopw [13] (fun i wr => ∃ k : Nat, k ≤ n ∧ i = .int .i64 (k : Int) ∧ Hid (wr.ownsMap Tryd.prog 3 anyE w.heap.size k (setA (A.take k))) ∧ Hid (Below w.heap.size w wr)) (fun i _ => n - (intOf i).toNat)
  case atStart => exact ⟨0, by omega, rfl, own0, bel0⟩
  case round =>
    clear own0 bel0
    obtain ⟨k, hk, rfl, HM, HB⟩ := hrel
    by_cases hkn : k < n
    · have hkn' : (k : Int) < (n : Int) := by omega
      obtain ⟨h, hh⟩ : ∃ h, L[k]? = some h := ⟨L[k]'(by rw [HN.out]; exact hkn), List.getElem?_eq_getElem _⟩
      have OK := Hid.mk' (HO.out h (List.mem_of_getElem? hh))
      have ak : A[k]? = some h.au := by rw [← HAu.out, List.getElem?_map, hh]; rfl
      have tk : A.take (k + 1) = A.take k ++ [h.au] := by rw [List.take_add_one, ak]; rfl
      obtain ⟨b, off, rfl, hbw, hr⟩ : ∃ b off, a = some ⟨b, off, none⟩ ∧ b < w.heap.size ∧ ∀ i x, L[i]? = some x → w.rangeAt b (off + 33 * i) (hdC x) := by
        rcases HA.out with e | e
        · rw [e] at hh; cases hh
        · exact e
      have HR := Hid.mk' (rangeAt_keep (hr k h hh) (HB.out.block b hbw))
      have HT := Hid.mk' tk
      have ix := fun wx => index22 b off n c k wx hkn
      have c0 := (hd_box wr h).1
      have R1 := Hid.mk' (hd_box wr h).2
      have HM1 := Hid.mk' (HM.out.alloc (.cells (hdC h).toArray 26))
      have HB1 : Hid (Below w.heap.size w (wr.alloc (.cells (hdC h).toArray 26))) := HB.out.alloc HB.out.size _
      clear hr hh ak tk hbw
      go_wp2_with (first
        | (with_reducible refine at_ld26 ?_; refine wpList_ld26 (.tmp 15) rfl rfl b (off + 33 * k) rfl h OK.out HR.out ?_)
        | (with_reducible refine at_al26 ?_; refine wpList_box26 (.tmp 16) 6 rfl rfl rfl rfl rfl rfl rfl h OK.out rfl rfl ?_)
        | (with_reducible refine at_ld24 ?_; refine wpList_ld24 (.tmp 20) rfl rfl wr.heap.size 1 rfl h.key OK.out.l R1.out ?_)
        | (at_mapUpdate; refine wpList_mapUpdate_own _ rfl _ _ _ 36 rfl 3 24 law3 Tryd.underlying36 anyE w.heap.size k (setA (A.take k)) rfl HM1.out (by unfold maxLen; omega) _ _ (.int .i64 h.au) rfl rfl (keyOf_int_mk Tryd.underlying3 OK.out.wf) uD [] rfl ?_)
        | fail)
      intro w1 own1 g1
      rw [← setA_snoc, ← HT.out] at own1
      have HM2 := Hid.mk' own1
      have HB2 : Hid (Below w.heap.size w w1) := HB1.out.grown g1 HB1.out.size (fun j hj => by cases hj; exact Nat.le_refl _)
      clear own1 g1 HM HM1 HB HB1 HR R1 c0
      go_wp2
      exact ⟨⟨k + 1, by omega, by go_num, HM2, HB2⟩, by simp [intOf]; omega⟩
    · have hkn' : ¬ (k : Int) < (n : Int) := by omega
      obtain rfl : k = n := by omega
      have tk : A.take k = A := List.take_of_length_le (by rw [HAl.out]; exact Nat.le_refl _)
      have HM1 : Hid (wr.ownsMap Tryd.prog 3 anyE w.heap.size k (setA A)) := by
        have := HM.out
        rw [tk] at this
        exact this
      have zw : w.heap.size ≤ wr.heap.size := HB.out.size
      clear HM tk
      go_wp2_with (first
        | (at_range; refine wpList_range_own _ rfl _ 36 rfl 3 24 law3 Tryd.underlying36 anyE w.heap.size k (setA A) rfl HM1.out ?_; intro w0 rg0 g0 s0)
        | fail)
      have RG0 := Hid.mk' rg0
      have HB0 : Hid (Below w.heap.size w w0) := HB.out.grown g0 HB.out.size (fun j hj => by cases hj)
      clear rg0 g0 s0 HM1
      try go_frame
      generalize wr.heap.size = r at *
      go_loopw [7] (fun _ wq => ∃ left cnt, Hid (wq.ranges Tryd.prog 3 anyE w.heap.size r k (setA A) left cnt) ∧ Hid (∀ x, x ∈ A → left (.int .i64 x) = false → okA x = true) ∧ Hid (Below w.heap.size w wq)) (fun _ wq => wq.rangeLeft w.heap.size r)
      case atStart => exact ⟨_, _, RG0, (fun x hx hl => by rw [setA_has] at hl; simp at hl; exact absurd hx hl), HB0⟩
      case round =>
        obtain ⟨left, cnt, HRG, HG, HBq⟩ := hrel
        clear RG0 HB0
        go_wp2_with (first
          | (at_next; refine wpList_next_ranges _ rfl _ rfl 3 law3 anyE (Value.int .i64) (fun v : Value => v) (fun key kl hk => by obtain ⟨x, rfl, _⟩ := Maps.keyOf_int_inv Tryd.underlying3 hk; exact ⟨x, rfl⟩) (fun v y hv => ⟨v, rfl⟩) w.heap.size r k (setA A) left cnt rfl HRG.out ?_ ?_)
          | fail)
        · intro _ hl0
          have hall : A.all okA = true := List.all_eq_true.2 fun x hx => HG.out x hx (hl0 _)
          have hsz := size_nodup A
          rw [← setA_size, HAl.out] at hsz
          have HOW := Hid.mk' HRG.out.owns
          by_cases hnd : A.Nodup
          · have e0 : ringE A = 0 := by unfold ringE; rw [if_pos hall, if_pos hnd]
            have hlt : ¬ ((Maps.size (setA A) : Nat) : Int) < (k : Int) := fun h => hsz.1 h hnd
            clear hsz hall hnd hl0
            have HE0 := Hid.mk' e0
            clear e0
            go_wp2_with (first
              | (at_len; refine wpList_len_own _ rfl _ 36 rfl 3 24 Tryd.underlying36 anyE w.heap.size k (setA A) rfl HOW.out ?_)
              | fail)
            go_ret2
            rw [HE0.out]
            exact ⟨some ⟨wr.heap.size, 0, none⟩, rfl, rfl, HBq.out.alloc HBq.out.size _⟩
          · have e0 : ringE A = 5 := by unfold ringE; rw [if_pos hall, if_neg hnd]
            have hlt : ((Maps.size (setA A) : Nat) : Int) < (k : Int) := hsz.2 hnd
            clear hsz hall hnd hl0
            have HE0 := Hid.mk' e0
            clear e0
            go_wp2_with (first
              | (at_len; refine wpList_len_own _ rfl _ 36 rfl 3 24 Tryd.underlying36 anyE w.heap.size k (setA A) rfl HOW.out ?_)
              | fail)
            go_ret2
            rw [HE0.out]
            exact ⟨none, rfl, rfl, HBq.out⟩
        · intro x cv kl y1 y2 w1 cnt1 hkey hleft hv hat rg1 hlt g1 s1 hen
          obtain ⟨x', ex, rfl, hwx⟩ := Maps.keyOf_int_inv Tryd.underlying3 hkey
          cases ex
          have hin : x ∈ A := by
            have := Maps.has_true_of_atKey hat
            rw [setA_has] at this
            simpa using this
          have HB1 : Hid (Below w.heap.size w w1) := HBq.out.grown g1 HBq.out.size (fun j hj => by cases hj; exact zw)
          have RG1 := Hid.mk' rg1
          have HLT : Hid (cnt1 < cnt) := hlt
          clear hkey hleft hv hat g1 s1 hwx rg1 hlt
          by_cases hx : okA x = true
          · have h1 : ¬ x < 1 := by have := of_decide_eq_true hx; omega
            have h2 : ¬ 4294967296 ≤ x := by have := of_decide_eq_true hx; omega
            have HG2 : Hid (∀ z, z ∈ A → (left (.int .i64 z) && !(Lit.int .i64 z).sameKey (.int .i64 x)) = false → okA z = true) := fun z hz hl => by
              rw [sameKey_int] at hl
              by_cases ez : z = x
              · rw [ez]; exact hx
              · have : (z == x) = false := by simpa using ez
                rw [this] at hl
                exact HG.out z hz (by simpa using hl)
            clear hin hx
            go_wp2
            exact ⟨⟨_, cnt1, RG1, HG2, HB1⟩, by rw [RG1.out.left_eq, HRG.out.left_eq]; exact HLT⟩
          · have e0 : ringE A = 51 := by
              unfold ringE
              rw [if_neg]
              intro h
              exact hx (List.all_eq_true.1 h x hin)
            have HE0 := Hid.mk' e0
            have hx' : x < 1 ∨ (¬ x < 1 ∧ 4294967296 ≤ x) := by
              have : ¬ (1 ≤ x ∧ x < 4294967296) := fun h => hx (decide_eq_true h)
              omega
            clear hin hx e0
            rcases hx' with h1 | ⟨h1, h2⟩
            · go_wp2
              go_ret2
              rw [HE0.out]
              exact ⟨none, rfl, rfl, HB1.out⟩
            · go_wp2
              go_ret2
              rw [HE0.out]
              exact ⟨none, rfl, rfl, HB1.out⟩
end Go.Proofs.YthlcmijekgjgjaaDoor
