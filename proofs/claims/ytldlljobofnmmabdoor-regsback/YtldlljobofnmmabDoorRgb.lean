import Derived.Test.YtldlljobofnmmabDoorRgb0
namespace Go.Proofs.YtldlljobofnmmabDoor
open Go.RowKit
set_option linter.unusedVariables false
set_option linter.unusedSimpArgs false

theorem take_snoc {α : Type} {L : List α} {i : Nat} {x : α} (h : L[i]? = some x) : L.take (i + 1) = L.take i ++ [x] := by rw [List.take_add_one, h]; rfl
theorem RowT.At.at {κ : Type} {R : RowT κ} {w : World} {a : Option Addr} {L : List κ} (h : R.At w a L) {i : Nat} {x : κ} (hx : L[i]? = some x) : ∃ b o, a = some ⟨b, o, none⟩ ∧ b < w.heap.size ∧ w.rangeAt b (o + R.k * i) (R.c x) := by
  rcases h with rfl | ⟨b, o, e, hl, hr⟩
  · simp at hx
  · exact ⟨b, o, e, hl, hr i x hx⟩
theorem eql_fn0 (w : World) : (binOp .eql 63 .nilFunc .nilFunc).run Tryd.prog w = .ok (.bool true) w := by kernel_rfl
theorem eql_fn1 (F : Nat) (caps : Array Value) (w : World) : (binOp .eql 63 (.func (.func F) #[] caps) .nilFunc).run Tryd.prog w = .ok (.bool false) w := by kernel_rfl
attribute [local go_sem] eql_fn0 eql_fn1
set_option maxRecDepth 100000 in
set_option maxHeartbeats 2000000 in
theorem had_nil (v : Value) (w : World) : Calls Tryd.prog 27 #[v, .nilFunc] w fun e w' => e = .returned (.slice none 0 0) ∧ w' = w := by
  go_enter Tryd.func27, Tryd.ntmps27
  go_wp2
  go_ret
  exact ⟨rfl, rfl⟩
set_option maxRecDepth 100000 in
set_option maxHeartbeats 4000000 in
/-- The entries that were seen. -/
theorem had_any {w : World} {a : Option Addr} {c : Nat} {L : List EnV} {F : Nat} {caps : Array Value} {sn : IdK → Bool} (hL : RN.At w a L) (ok : ∀ x ∈ L, x.ok) (hn : L.length ≤ 2500000000000) (T : Tells w F caps sn) :
    Calls Tryd.prog 27 #[.slice a L.length c, .func (.func F) #[] caps] w fun e w' => ∃ tv, e = .returned tv ∧ RD.Own w' w.heap.size tv (Rg.hadI (fun x => sn x.id) 0 L) ∧ Below w.heap.size w w' := by
  obtain ⟨n, hnn⟩ : ∃ n, L.length = n := ⟨_, rfl⟩
  have HN := hidMk hnn
  rw [hnn]
  rw [hnn] at hn
  clear hnn
  have HT := hidMk T
  have HL := hidMk hL
  have HK := hidMk ok
  clear T hL ok
  go_enter Tryd.func27, Tryd.ntmps27
  go_wp2
  go_loopw [5, 12] (fun v5 v12 wr => ∃ i : Nat, v12 = .int .i64 (i : Int) ∧ i ≤ n ∧ Hid (RD.Own wr w.heap.size v5 (Rg.hadI (fun x => sn x.id) 0 (L.take i)) ∧ Below w.heap.size w wr)) (fun _ v12 wr => n - (match v12 with | .int _ i => i.toNat | _ => 0))
  case atStart => exact ⟨0, rfl, Nat.zero_le _, RowT.own_nil RD w w.heap.size, Below.refl _ _⟩
  case round =>
    obtain ⟨i, rfl, hin, HI⟩ := hrel
    by_cases hi : i < n
    · obtain ⟨x, hxi⟩ : ∃ o, L[i]? = some o := ⟨_, List.getElem?_eq_getElem (by rw [HN.out]; exact hi)⟩
      have hx := HK.out x (List.mem_of_getElem? hxi)
      obtain ⟨b, off, rfl, lb, hr⟩ := HL.out.at hxi
      have bel := HI.out.2
      have zb := bel.size
      have tk := take_snoc hxi
      go_upto_region 6 with fail
      refine had6 (eb := b) (eo := off) (n := n) (c := c) (i := i) (x := x) _ wr _ rfl rfl rfl hx hi (by omega) (rangeAt_keep hr (bel.block _ lb)) ?_
      intro a' w1 hw1 ha
      subst ha
      simp only [Act.put, List.setIfInBounds_toArray, List.set_cons_zero, List.set_cons_succ]
      obtain ⟨bx1, b1⟩ := RowT.bx_is RN wr x
      have z1 : w1.heap.size = wr.heap.size + 1 := by rw [hw1]; simp
      rw [show wr.alloc (.cells (RN.c x).toArray RN.e) = w1 from hw1.symm] at bx1 b1
      clear hw1
      have o1 := hidMk (HI.out.1.below b1)
      have bel1 := bel.trans (b1.mono zb)
      have CF := hidMk (HT.out.an w1 bel1 x.id hx.i)
      go_upto_region 7 with fail
      refine had7 (bx := wr.heap.size) (F := F) (caps := caps) (x := x) (r := sn x.id) (fun w' => Below w1.heap.size w1 w') _ w1 _ rfl rfl rfl hx bx1.rng HT.out.en CF.out ?_
      intro a' w2 b2 ha
      subst ha
      simp only [Act.put, List.setIfInBounds_toArray, List.set_cons_zero, List.set_cons_succ]
      have bx2 := bx1.below b2
      have o2 := hidMk (o1.out.below b2)
      have bel2 := bel1.trans (b2.mono bel1.size)
      have zb2 := bel2.size
      clear bx1 o1 CF HI
      have KE : Hid (∃ w1', w1' = w2) := ⟨w2, rfl⟩
      by_cases hs : sn x.id = true
      · have hlen : (Rg.hadI (fun x => sn x.id) 0 (L.take i)).length ≤ 2500000000000 := by
          have := Rg.hadI_len (fun x : EnV => sn x.id) (L.take i) 0
          simp at this
          omega
        obtain ⟨sv, w3, u2, w4, e3, e4, o4, b3, z3, g4, q4⟩ := RowT.run_push RD_is w2 w.heap.size _ _ (i, x) o2.out (show x.ok ∧ i ≤ 9223372036854775807 from ⟨hx, by omega⟩) (by unfold maxLen; omega) (by show _ * 88 ≤ _; omega) zb2
        have bel4 : Below w.heap.size w w4 := (bel2.trans (b3.mono zb2)).grown g4 (Nat.le_trans zb2 b3.size) (fun k hk => (o2.out.cells hk).1)
        have E3 := hidMk e3
        have E4 := hidMk e4
        have NX : Hid (RD.Own w4 w.heap.size u2 (Rg.hadI (fun x => sn x.id) 0 (L.take (i + 1))) ∧ Below w.heap.size w w4) := by
          refine ⟨?_, bel4⟩
          rw [tk, Rg.hadI_snoc, if_pos hs]
          have e : (0 + (L.take i).length, x) = (i, x) := by
            have : (L.take i).length = i := by rw [List.length_take, HN.out]; omega
            rw [this, Nat.zero_add]
          rw [e]
          exact o4
        rw [hs]
        clear e3 e4 o4 b3 z3 g4 q4 bel4 hlen tk
        go_upto_region 8 with fail
        refine had8 (bx := wr.heap.size) (i := i) (x := x) (sv := sv) (u2 := u2) (w1 := w3) (w2 := w4) _ w2 _ rfl rfl rfl rfl hx bx2.rng E3.out E4.out ?_
        intro a' w5 hw5 ha
        subst ha
        obtain rfl : w4 = w5 := hw5.symm
        simp only [Act.put, List.setIfInBounds_toArray, List.set_cons_zero, List.set_cons_succ]
        clear E3 E4
        go_wp2
        rw [show ((i : Int) + 1) = ((i + 1 : Nat) : Int) by omega]
        refine ⟨⟨i + 1, rfl, hi, NX⟩, ?_⟩
        show n - ((i + 1 : Nat) : Int).toNat < n - (i : Int).toNat
        omega
      · have hs' : sn x.id = false := by simpa using hs
        have NX : Hid (RD.Own w2 w.heap.size u5 (Rg.hadI (fun x => sn x.id) 0 (L.take (i + 1))) ∧ Below w.heap.size w w2) := by
          refine ⟨?_, bel2⟩
          rw [tk, Rg.hadI_snoc, if_neg (by rw [hs']; decide), List.append_nil]
          exact o2.out
        rw [hs']
        clear tk
        go_wp2
        rw [show ((i : Int) + 1) = ((i + 1 : Nat) : Int) by omega]
        refine ⟨⟨i + 1, rfl, hi, NX⟩, ?_⟩
        show n - ((i + 1 : Nat) : Int).toNat < n - (i : Int).toNat
        omega
    · obtain rfl : n = i := by omega
      have FN := HI.out
      rw [show L.take n = L from List.take_of_length_le (by rw [HN.out]; omega)] at FN
      have HF := hidMk FN
      clear HI FN
      go_wp2
      go_ret
      exact ⟨_, rfl, HF.out.1, HF.out.2⟩
end Go.Proofs.YtldlljobofnmmabDoor
