import Derived.Test.YtdajeabhhkgibaaVb
import Derived.RangeFuncNested
import Derived.RangeFuncBound
import Derived.RangeFuncCalls
import Derived.RangeFuncLeaves
import Derived.Shelf.Abstract
import Derived.Shelf.RegionOpen
import Derived.WalkKit
import Derived.OwnWalkIn
import Derived.TacticsInMore
import Derived.LoopNIn
import Derived.LoopIn
namespace Go.Proofs.Ytdajeabhhkgibaa
open Go.RowKit Go.Shelf
set_option linter.unusedVariables false
set_option linter.unusedSimpArgs false
attribute [local go_sem] Oper.semAt_some

/-- All below n but block g stay. -/
structure Kb (n g : Nat) (W W' : World) : Prop where
  os : W'.os = W.os
  tape : W'.tape = W.tape
  output : W'.output = W.output
  size : W.heap.size ≤ W'.heap.size
  block : ∀ k, k < n → k ≠ g → W'.heap[k]? = W.heap[k]?
theorem Kb.refl (n g : Nat) (W : World) : Kb n g W W := ⟨rfl, rfl, rfl, Nat.le_refl _, fun _ _ _ => rfl⟩
theorem Kb.trans {n g : Nat} {A B C : World} (h : Kb n g A B) (k : Kb n g B C) : Kb n g A C :=
  ⟨k.os.trans h.os, k.tape.trans h.tape, k.output.trans h.output, Nat.le_trans h.size k.size, fun i hi hg => (k.block i hi hg).trans (h.block i hi hg)⟩
theorem Kb.below {n g : Nat} {A B : World} (h : Below n A B) : Kb n g A B := ⟨h.os, h.tape, h.output, h.size, fun k hk _ => h.block k hk⟩
theorem Kb.grown {n g : Nat} {A B : World} (h : A.grownBy B (some g)) (hn : n ≤ A.heap.size) : Kb n g A B := ⟨h.os, h.tape, h.output, h.size, fun k hk hg => h.block k (by omega) (fun e => hg (by cases e; rfl))⟩
theorem Kb.put {n g : Nat} {w : World} (hn : n ≤ w.heap.size) (W : World) (l : Nat) (o o' : Obj) (hl : w.heap.size ≤ l) (h : W.heap[l]? = some o) (h1 : o.isCells = false) (h2 : o.isWalk = false) : Kb n g W (W.putObj l o') :=
  Kb.below (belowK_b hn W l o o' hl h h1 h2)
theorem Kb.mono {n m g : Nat} {A B : World} (h : Kb n g A B) (hm : m ≤ n) : Kb m g A B := ⟨h.os, h.tape, h.output, h.size, fun k hk hg => h.block k (by omega) hg⟩
theorem Kb.toBelow {n g B : Nat} {a A C : World} (h : Kb n g A C) (hb : Below B a A) (hB : B ≤ n) (hg : B ≤ g) : Below B a C :=
  hb.trans ⟨h.os, h.tape, h.output, h.size, fun k hk => h.block k (by omega) (by omega)⟩
/-- The spots of a hash. -/
def xAt (h : List UInt8) (i : Nat) : Nat := (numB h 0 8 + i * numB h 8 8) % 18446744073709551616
theorem xAt_zero (h : List UInt8) : xAt h 0 = numB h 0 8 := by
  have := numB_lt h 0 8
  unfold xAt
  rw [Nat.zero_mul, Nat.add_zero, Nat.mod_eq_of_lt (by simpa using this)]
theorem xAt_succ (h : List UInt8) (i : Nat) : xAt h (i + 1) = (xAt h i + numB h 8 8) % 18446744073709551616 := by
  unfold xAt
  rw [Nat.add_mul, Nat.one_mul]
  omega
def spot (h : List UInt8) (bits i : Nat) : Nat := xAt h i % bits
def spotF (h : List UInt8) (bits : Nat) (hb : 0 < bits) (i : Nat) : Fin bits := ⟨spot h bits i, Nat.mod_lt _ hb⟩
def spotL (h : List UInt8) (bits : Nat) (hb : 0 < bits) (k : Nat) : List (Fin bits) := (List.range k).map (spotF h bits hb)
theorem spotL_succ (h : List UInt8) (bits : Nat) (hb : 0 < bits) (k : Nat) : spotL h bits hb (k + 1) = spotL h bits hb k ++ [spotF h bits hb k] := by simp [spotL, List.range_succ]
theorem spotL_len (h : List UInt8) (bits : Nat) (hb : 0 < bits) (k : Nat) : (spotL h bits hb k).length = k := by simp [spotL]
theorem spotL_pre (h : List UInt8) (bits : Nat) (hb : 0 < bits) (k p : Nat) (hk : k ≤ p) : spotL h bits hb k <+: spotL h bits hb p := by
  obtain ⟨d, rfl⟩ : ∃ d, p = k + d := ⟨p - k, by omega⟩
  induction d with
  | zero => exact List.prefix_refl _
  | succ d ih => exact (ih (by omega)).trans ⟨[spotF h bits hb (k + d)], (spotL_succ h bits hb (k + d)).symm⟩
/-- A hash in a box. -/
def HB (w : World) (b : Nat) (h : List UInt8) : Prop := ∀ k, k < 32 → w.cell? ⟨b, k, none⟩ = some (.int .u8 ((h.getD k 0).toNat : Int))
set_option maxRecDepth 100000 in
set_option maxHeartbeats 4000000 in
theorem spots1_stops (n bits probes q g bh bf n₀ : Nat) (h : List UInt8) (w : World) (hb0 : 0 < bits) (hb1 : bits ≤ 65536) (hp : probes ≤ 16)
    (hH : HB w bh h) (hF : w.cell? ⟨bf, 0, none⟩ = some (.pointer (some ⟨q, 0, none⟩))) (hFC : FC w q g bits probes) (l1 : bh < n₀) (l2 : bf < n₀) (l3 : q < n₀) (n2 : bf ≠ g) (hn : n₀ ≤ w.heap.size) :
    SeqStopsK Fence.wide n Try.prog 98 #[.pointer (some ⟨bh, 0, none⟩), .pointer (some ⟨bf, 0, none⟩)] (fun x : Fin bits => #[.int .i64 (x.val : Int)]) (Kb n₀ g) (fun xs => xs = spotL h bits hb0 probes) (fun pre => pre <+: spotL h bits hb0 probes) probes w := by
  intro l J Jx W hW hJ hJx hY h0
  have HHW : Hid (HB W bh h) := fun k hk => (hW.cell (p := ⟨bh, k, none⟩) (by show bh < _; omega)).trans (hH k hk)
  have HN : Hid (∀ k o c, (o = 0 ∧ c = 32) ∨ (o = 8 ∧ c = 24) → Calls Try.prog 99 #[.slice (some ⟨bh, o, none⟩) 8 c] (W.drewN k) fun e w' => e = .returned (.int .u64 (numB h o 8 : Int)) ∧ w' = W.drewN k) := fun k o c hc =>
    number_any bh o o c h _ (fun i hi => HHW.out (o + i) (by omega))
  refine callsIn_of_wp Try.func98 rfl trivial ?_ rfl
  simp only [Try.ntmps98, List.size_toArray, List.length_cons, List.length_nil, Nat.reduceAdd, Nat.reduceSub, Array.replicate_succ, Array.replicate_zero, List.push_toArray, List.append_toArray, List.nil_append, List.cons_append]
  refine wpIn_wide.2 ?_
  go_upto_region 0 with fail
  go_quiet (first | (go_at_call 99; exact Calls.quiet_of_same (HN.out _ _ _ (by first | exact .inl ⟨rfl, rfl⟩ | exact .inr ⟨rfl, rfl⟩))) | fail)
  rename_i hK
  refine hK _ _ ?_
  have h01 : J [] (W.drewN nq) := hJ [] W (W.drewN nq) none h0 ⟨rfl, rfl, rfl, Nat.le_refl _, fun _ _ _ => rfl⟩ (fun r e => by cases e)
  have hF1 : (W.drewN nq).cell? ⟨bf, 0, none⟩ = some (.pointer (some ⟨q, 0, none⟩)) := (hW.cell (p := ⟨bf, 0, none⟩) (by show bf < _; omega)).trans hF
  have hC1 : FC (W.drewN nq) q g bits probes := hFC.of (hW.block q (by omega))
  clear hK HN HHW h0 hH hF hFC
  generalize W.drewN nq = W1 at *
  have HJ0 := Hid.mk' h01
  have HC1 := Hid.mk' hC1
  have HF1 := Hid.mk' hF1
  have HYY := Hid.mk' hY
  clear h01 hC1 hY
  go_wp2_with (first | (go_at_call 53; refine (probes_any q g bits probes _ HC1.out).mono ?_; rintro e w' ⟨rfl, hw⟩; obtain rfl := hw.symm) | fail)
  refine (wpIn_wide (n := n)).1 ?_
  have hx0 := xAt_zero h
  rw [← hx0]
  clear hx0
  gi_loopw [4, 12] (fun x i wr => ∃ k : Nat, k ≤ probes ∧ i = .int .i64 (k : Int) ∧ x = .int .u64 (xAt h k : Int) ∧ Hid (Kb n₀ g W1 wr) ∧ Hid (J (spotL h bits hb0 k) wr)) (fun _ i _ => probes - (intOf i).toNat)
  case atStart => exact ⟨0, by omega, rfl, rfl, Kb.refl _ _ _, HJ0⟩
  case round =>
    obtain ⟨k, hk, rfl, rfl, HK, HJk⟩ := hrel
    by_cases hkp : k < probes
    · have hkp' : (k : Int) < (probes : Int) := by omega
      have hcf : wr.cell? ⟨bf, 0, none⟩ = some (.pointer (some ⟨q, 0, none⟩)) := (World.cell?_of_block (w := W1) (a := ⟨bf, 0, none⟩) (HK.out.block bf l2 n2)).trans HF1.out
      have hcb : wr.cell? ⟨q, 0, none⟩ = some (.int .i64 (bits : Int)) := (World.cell?_of_block (w := W1) (a := ⟨q, 0, none⟩) (HK.out.block q l3 (fun e => HC1.out.ne e.symm))).trans HC1.out.c0
      obtain ⟨fn, tmps, assign, body, hy, hR⟩ := HYY.out (spotL h bits hb0 k) (spotF h bits hb0 k) wr HJk.out (by rw [spotL_len]; exact hkp)
      have hval : (spotF h bits hb0 k).val = spot h bits k := rfl
      rw [hval] at hy
      have hxl : xAt h k < 18446744073709551616 := Nat.mod_lt _ (by omega)
      have hsp : spot h bits k < bits := Nat.mod_lt _ hb0
      have e1 : (xAt h k : Int) % (bits : Int) = (spot h bits k : Int) := by unfold spot; omega
      have e2 : (xAt h k : Int).tmod (bits : Int) = (spot h bits k : Int) := by rw [Int.tmod_eq_emod_of_nonneg (by omega)]; exact e1
      have hy' := hy
      generalize spot h bits k = sp at *
      have HS := Hid.mk' (xAt_succ h k)
      have hnl := numB_lt h 8 8
      generalize hxx : xAt h k = xk at *
      have HP := Hid.mk' (spotL_pre h bits hb0 (k + 1) probes hkp)
      have HL1 := Hid.mk' (spotL_succ h bits hb0 k)
      have HW1 : Hid (IntKind.u64.wrap ((xk : Int) + (numB h 8 8 : Int)) = (xAt h (k + 1) : Int)) := by
        show _ = _
        rw [HS.out, IntKind.wrap_u64]
        omega
      clear hnl
      generalize numB h 8 8 = Y at *
      gi_wp2
      refine ⟨fun h => by simp [Fence.wide] at h, hR.mono ?_⟩
      rintro e W3 (⟨rfl, hJ3, hk3⟩ | ⟨rfl, hJx3⟩)
      · have HJ3 : Hid (J (spotL h bits hb0 (k + 1)) W3) := by rw [HL1.out]; exact hJ3
        have HK3 := Hid.mk' (HK.out.trans hk3)
        clear hJ3 hk3
        gi_wp2
        exact ⟨⟨k + 1, by omega, by go_num, by rw [HW1.out], HK3, HJ3⟩, by simp [intOf]; omega⟩
      · have HJ3 : Hid (Jx (spotL h bits hb0 (k + 1)) W3) := by rw [HL1.out]; exact hJx3
        clear hJx3
        gi_wp2
        refine bodyPost_ret (results_none rfl _ _ _) rfl ?_
        exact ⟨⟨_, rfl⟩, .inr ⟨_, HP.out, HJ3.out⟩⟩
    · have hkp' : ¬ (k : Int) < (probes : Int) := by omega
      obtain rfl : k = probes := by omega
      gi_wp2
      go_end0
      exact ⟨⟨_, rfl⟩, .inl HJk.out⟩
end Go.Proofs.Ytdajeabhhkgibaa
