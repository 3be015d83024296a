import Derived.Test.YtphpaaajfcbafaaDoorQe
import Derived.Deep.RegionLaw
namespace Go.Proofs.YtphpaaajfcbafaaDoor.K
open Go.RowKit
set_option linter.unusedVariables false
set_option linter.unusedSimpArgs false

/-- append onto an owned row, as one step of a region that draws. -/
theorem step_appV {ops : Array Oper} {o : Oper} {a : Act} {w : World} {K : Act → World → Prop} {Q : Exit → Act → World → Prop} {E : Prop} (hgd : o.guard = none) (s x : Operand) (T e : TypeId) (z : Value) (ht : Tryd.prog.underlying T = some (.slice e)) (hi : (Tryd.prog.info? e).map (fun i => (i.zero, i.size, i.bytes)) = some (some z, 1, 8)) (hz1 : z.cells.size = 1)
    (ho : o.op = .call { callee := .builtin .append, args := #[s, x], argTypes := #[T, T] }) (base : Nat) (v : Value) (L : List Value) (hs : a.eval s = v) (hown : OwnV w base e v L)
    (aa : Option Addr) (m c : Nat) (M : List Value) (hx : a.eval x = .slice aa m c) (hm : M.length = m) (hb : Vals w aa M) (h1 : ∀ u ∈ M, u.oneCell' = true) (hlen : L.length + M.length ≤ 28000000000000) (hbase : base ≤ w.heap.size)
    (h : ∀ v' w', OwnV w' base e v' (L ++ M) → w.grownBy w' v.ownBlock → (v'.ownBlock = v.ownBlock ∨ v'.ownBlock = some w.heap.size) → K (a.put o.dst v') w') : if Region.wanted o (yielded ops a.tmps) = true then Oper.wp Tryd.prog o a w K Q else E := by
  have hw : Region.wanted o (yielded ops a.tmps) = true := by simp [Region.wanted, hgd]
  rw [if_pos hw]
  subst hm
  obtain ⟨v', w', hr, h2, h3, h4⟩ := run_appV T e z ht hi hz1 w base o.type v L aa M c hown hb h1 hlen hbase
  unfold Oper.wp execOp
  simp only [ho, resolve, invoke, builtin, Sem.run_bind, Sem.run_pure, Result.andThen_ok, List.map_toArray, List.map_cons, List.map_nil, hs, hx, hr]
  exact h v' w' h2 h3 h4
/-- All but two blocks is as it was. -/
structure F2 (r p : Nat) (w w' : World) : Prop where
  os : w'.os = w.os
  tape : w'.tape = w.tape
  output : w'.output = w.output
  size : w.heap.size ≤ w'.heap.size
  block : ∀ k, k < w.heap.size → k ≠ r → k ≠ p → w'.heap[k]? = w.heap[k]?
theorem F2.refl (r p : Nat) (w : World) : F2 r p w w := ⟨rfl, rfl, rfl, Nat.le_refl _, fun _ _ _ _ => rfl⟩
/-- How far the numbers are read. -/
structure NI (w wr : World) (r p : Nat) (row : Bool) (cnt : Int) (a : Option Addr) (cap : Nat) (L : List UInt8) (s : St) (j : Nat) (av : Option Addr) (cv : Nat) : Prop where
  rd : RD wr 90 r a cap L (rds L s j).2
  row : wr.heap[p]? = some (.cells #[.bool row, .int .i64 cnt, .slice av j cv] 71 (0, 0))
  own : OwnV wr w.heap.size 35 (.slice av j cv) (uC (rds L s j).1)
  fr : F2 r p w wr
theorem NI.drew {w wr : World} {r p : Nat} {row : Bool} {cnt : Int} {a : Option Addr} {cap : Nat} {L : List UInt8} {s : St} {j : Nat} {av : Option Addr} {cv : Nat} (h : NI w wr r p row cnt a cap L s j av cv) (m : Nat) : NI w (wr.drewN m) r p row cnt a cap L s j av cv :=
  ⟨h.rd.drew m, h.row, h.own.below (below_drewN (Below.refl _ _) m), ⟨h.fr.os, h.fr.tape, h.fr.output, h.fr.size, h.fr.block⟩⟩
theorem RD.keep {w w' : World} {T : TypeId} {r cap : Nat} {a : Option Addr} {L : List UInt8} {s : St} (h : RD w T r a cap L s) (hr : w'.heap[r]? = w.heap[r]?) (ha : ∀ ad, a = some ad → w'.heap[ad.block]? = w.heap[ad.block]?) : RD w' T r a cap L s :=
  ⟨hr.trans h.row, h.room, (by
    rcases h.byt with e | ⟨b, off, e, hc⟩
    · exact .inl e
    · refine .inr ⟨b, off, e, fun j hj => ?_⟩
      have := ha _ e
      rw [← hc j hj]
      unfold World.cell?
      rw [this]), h.plain, h.at_le, h.few⟩
theorem uC_app (a b : List Nat) : uC (a ++ b) = uC a ++ uC b := by simp [uC]
theorem NI.next {w wr : World} {r p : Nat} {row : Bool} {cnt : Int} {a : Option Addr} {cap : Nat} {L : List UInt8} {s : St} {j : Nat} {av : Option Addr} {cv : Nat} (h : NI w wr r p row cnt a cap L s j av cv) (hp : p < w.heap.size) (hr : r < w.heap.size) (hpr : p ≠ r) (ha : ∀ ad, a = some ad → ad.block ≠ p ∧ ad.block < w.heap.size)
    {W1 W2 : World} (hon : On wr W1 90 r a cap L (rU L (rds L s j).2).2) {u : Nat} (hu : u = (rU L (rds L s j).2).1) {v2 : Value} (own2 : OwnV W2 w.heap.size 35 v2 (uC (rds L s j).1 ++ [.int .u64 (u : Int)])) (gr : (W1.alloc (.cells #[.int .u64 (u : Int)] 35)).grownBy W2 (Value.slice av j cv).ownBlock) :
    ∃ av2 cv2, v2 = .slice av2 (j + 1) cv2 ∧ NI w (W2.setCell ⟨p, 2, none⟩ v2) r p row cnt a cap L s (j + 1) av2 cv2 ∧ W2.cell? ⟨p, 2, none⟩ = some (.slice av j cv) ∧ W2.frozen? ⟨p, 2, none⟩ = false := by
  subst hu
  have hz := h.fr.size
  have hz1 := hon.2.size
  have hob : ∀ k, k < w.heap.size → some k ≠ (Value.slice av j cv).ownBlock := fun k hk e => by
    have := (World.ownsRow.lt h.own k e.symm).1
    omega
  have blk : ∀ k, k < w.heap.size → W2.heap[k]? = W1.heap[k]? := fun k hk => by
    rw [gr.block k (by simp; omega) (hob k hk)]
    exact heap_alloc_old W1 _ (by omega)
  have hp2 : W2.heap[p]? = some (.cells #[.bool row, .int .i64 cnt, .slice av j cv] 71 (0, 0)) := by
    rw [blk p hp, hon.2.block p (by omega) hpr]
    exact h.row
  obtain ⟨av2, cv2, rfl, _⟩ := own2.open
  have hlen : (uC (rds L s j).1 ++ [Value.int .u64 ((rU L (rds L s j).2).1 : Int)]).length = j + 1 := by simp [uC_len, rds_len]
  rw [hlen] at own2 ⊢
  refine ⟨av2, cv2, rfl, ⟨?_, ?_, ?_, ?_⟩, (cell_of_row W2 p 2 _ _ _ hp2).trans rfl, frozen_of_row W2 p 2 _ _ hp2⟩
  · refine RD.keep (w := W1) hon.1 ?_ (fun ad e => ?_)
    · rw [Below.heap_setCell _ _ _ _ (by intro e; exact hpr e.symm), blk r hr]
    · rw [Below.heap_setCell _ _ _ _ (by intro e2; exact (ha ad e).1 e2), blk _ (ha ad e).2]
  · rw [heap_setCell_same W2 p 2 _ 71 _ hp2]
    rfl
  · have e : uC (rds L s (j + 1)).1 = uC (rds L s j).1 ++ [.int .u64 ((rU L (rds L s j).2).1 : Int)] := by
      simp only [rds, uC_app]
      rfl
    rw [e]
    refine ⟨own2.1, ?_⟩
    rcases own2.2 with hn | ⟨g, cp, cur, e1, hbg, hg, rest⟩
    · exact .inl hn
    · refine .inr ⟨g, cp, cur, e1, hbg, ?_, rest⟩
      rw [Below.heap_setCell _ _ _ _ (by intro e2; have e3 : g = p := e2; omega)]
      exact hg
  · refine ⟨?_, ?_, ?_, ?_, fun k hk h1 h2 => ?_⟩
    · exact gr.os.trans (hon.2.os.trans h.fr.os)
    · exact gr.tape.trans (hon.2.tape.trans h.fr.tape)
    · exact gr.output.trans (hon.2.output.trans h.fr.output)
    · have := gr.size
      simp [World.setCell] at this ⊢
      omega
    · rw [Below.heap_setCell _ _ _ _ h2, blk k hk, hon.2.block k (by omega) h1, h.fr.block k hk h1 h2]
variable {r p cap : Nat} {row : Bool} {cnt : Int} {a : Option Addr} {L : List UInt8} {s : St}
def NP (w w2 : World) (r p : Nat) (row : Bool) (cnt : Int) (a : Option Addr) (cap : Nat) (L : List UInt8) (s : St) (WN : Int) : Prop := ∃ (j : Nat) (av : Option Addr) (cv : Nat), NI w w2 r p row cnt a cap L s j av cv ∧ (s.bad = 0 → (j : Int) ≤ WN) ∧ ((rds L s j).2.bad = 0 → WN ≤ (j : Int))
theorem ownV_fr {w w' : World} {base : Nat} {e : TypeId} {v : Value} {X : List Value} (h : OwnV w base e v X) {q : Nat} (hf : Fr q w w') (hq : v.ownBlock ≠ some q) : OwnV w' base e v X := by
  refine ⟨h.1, ?_⟩
  rcases h.2 with hn | ⟨g, cap, cur, rfl, hbg, hg, rest⟩
  · exact .inl hn
  · exact .inr ⟨g, cap, cur, rfl, hbg, by rw [hf.block g (Array.getElem?_eq_some_iff.1 hg).1 (by intro e; apply hq; simp [Value.ownBlock, e])]; exact hg, rest⟩
def lenAt (w : World) (p : Nat) : Nat := lenOf ((w.cell? ⟨p, 2, none⟩).getD (.slice none 0 0))
theorem NI.c2 {w wr : World} {j : Nat} {av : Option Addr} {cv : Nat} (h : NI w wr r p row cnt a cap L s j av cv) : wr.cell? ⟨p, 2, none⟩ = some (.slice av j cv) := (cell_of_row wr p 2 _ _ _ h.row).trans rfl
theorem NI.lenAt {w wr : World} {j : Nat} {av : Option Addr} {cv : Nat} (h : NI w wr r p row cnt a cap L s j av cv) : lenAt wr p = j := by
  unfold K.lenAt
  rw [h.c2]
  rfl
set_option maxRecDepth 100000 in
set_option maxHeartbeats 4000000 in
theorem loop_nums (WN : Int) (w : World) (hp : p < w.heap.size) (hr : r < w.heap.size) (hpr : p ≠ r) (ha : ∀ ad, a = some ad → ad.block ≠ p ∧ ad.block < w.heap.size) (h0 : NI w w r p row cnt a cap L s 0 none 0) (hWN : WN = if row then cnt else 1) (hW : s.bad = 0 → 0 ≤ WN ∧ WN ≤ 17592186044416) :
    Calls Tryd.prog 49 #[.pointer (some ⟨p, 0, none⟩), .pointer (some ⟨r, 0, none⟩)] w fun e w' => e = .returned (.tuple #[]) ∧ NP w w' r p row cnt a cap L s WN := by
  have q0 := (cell_of_row w p 0 _ _ _ h0.row).trans (show (#[.bool row, .int .i64 cnt, .slice none 0 0] : Array Value)[0]? = some (.bool row) from rfl)
  have q1 := (cell_of_row w p 1 _ _ _ h0.row).trans (show (#[.bool row, .int .i64 cnt, .slice none 0 0] : Array Value)[1]? = some (.int .i64 cnt) from rfl)
  have H0 := Hid.mk' h0
  have HS : Hid (∀ W j av cv, NI w W r p row cnt a cap L s j av cv → Calls Tryd.prog 33 #[.pointer (some ⟨r, 0, none⟩)] W fun e w' => e = .returned (.bool (decide ((rds L s j).2.bad ≠ 0))) ∧ ∃ m, w' = W.drewN m) := fun W j av cv h => pstop_any W h.rd
  have HU : Hid (∀ W j av cv, NI w W r p row cnt a cap L s j av cv → Calls Tryd.prog 60 #[.pointer (some ⟨r, 0, none⟩), .int .u64 18446744073709551615] W fun e w' => e = .returned (.int .u64 ((rU L (rds L s j).2).1 : Int)) ∧ On W w' 90 r a cap L (rU L (rds L s j).2).2) := fun W j av cv h => uint_any 18446744073709551615 (by decide) W h.rd
  have HNX : Hid (∀ (wr : World) (j : Nat) (av : Option Addr) (cv : Nat), NI w wr r p row cnt a cap L s j av cv → ∀ (W1 W2 : World), On wr W1 90 r a cap L (rU L (rds L s j).2).2 → ∀ (u : Nat), u = (rU L (rds L s j).2).1 → ∀ (v2 : Value), OwnV W2 w.heap.size 35 v2 (uC (rds L s j).1 ++ [.int .u64 (u : Int)]) → (W1.alloc (.cells #[.int .u64 (u : Int)] 35)).grownBy W2 (Value.slice av j cv).ownBlock →
    ∃ av2 cv2, v2 = .slice av2 (j + 1) cv2 ∧ NI w (W2.setCell ⟨p, 2, none⟩ v2) r p row cnt a cap L s (j + 1) av2 cv2 ∧ W2.cell? ⟨p, 2, none⟩ = some (.slice av j cv) ∧ W2.frozen? ⟨p, 2, none⟩ = false) := fun wr j av cv h W1 W2 hon u hu v2 own2 gr => h.next hp hr hpr ha hon hu own2 gr
  have HWN : Hid (s.bad = 0 → 0 ≤ WN ∧ WN ≤ 17592186044416) := hW
  have HPR : Hid (p ≠ r) := hpr
  have HOB : Hid (∀ W j av cv, NI w W r p row cnt a cap L s j av cv → (Value.slice av j cv).ownBlock ≠ some p) := fun W j av cv h e => by have := (World.ownsRow.lt h.own p e).1; omega
  have HNR : Hid (∀ W j av cv, NI w W r p row cnt a cap L s j av cv → (Value.slice av j cv).ownBlock ≠ some r) := fun W j av cv h e => by have := (World.ownsRow.lt h.own r e).1; omega
  have HLB : Hid (∀ j, (rds L s j).2.bad = 0 → s.bad = 0) := fun j hb => by
    by_cases hx : s.bad = 0
    · exact hx
    · have := rds_stay (L := L) (s := s) (j := 0) hx j
      rw [Nat.zero_add] at this
      rw [this] at hb
      exact hb
  clear h0 hW hpr ha hr hp
  cases row
  · obtain rfl : WN = 1 := by rw [hWN]; simp
    clear hWN q1
    go_enter Tryd.func49, Tryd.ntmps49
    go_wp2
    go_loopw [24] (fun _ wr => ∃ (j : Nat) (av : Option Addr) (cv : Nat), Hid (NI w wr r p false cnt a cap L s j av cv) ∧ Hid (s.bad = 0 → (j : Int) ≤ 1)) (fun _ wr => (1 : Int).toNat - lenAt wr p)
    case atStart => exact ⟨0, none, 0, H0, fun hb => by have := HWN.out hb; omega⟩
    case round =>
      obtain ⟨j, av, cv, HN, HJ⟩ := hrel
      clear H0
      have c2 := HN.out.c2
      by_cases hj : (j : Int) < 1
      · by_cases hb : (rds L s j).2.bad = 0
        · have hWb := HWN.out (HLB.out j hb)
          have HST := Hid.mk' (HS.out wr j av cv HN.out)
          rw [show decide ((rds L s j).2.bad ≠ 0) = false by simp [hb]] at HST
          clear hb
          go_wp2_with (first | (go_at_call 33; refine HST.out.mono ?_; rintro e w1 ⟨rfl, m, rfl⟩) | fail)
          have HND : Hid (NI w (wr.drewN (m + 1)) r p false cnt a cap L s j av cv) := HN.out.drew (m + 1)
          clear HST
          have s0 : (wr.drewN (m + 1)).cell? ⟨p, 2, none⟩ = some (.slice av j cv) := HND.out.c2
          have HUU := Hid.mk' (HU.out (wr.drewN (m + 1)) j av cv HND.out)
          have HNN := Hid.mk' (HNX.out (wr.drewN (m + 1)) j av cv HND.out)
          have HOO := Hid.mk' (HOB.out (wr.drewN (m + 1)) j av cv HND.out)
          have HLn : Hid ((rds L s j).1.length = j) := rds_len L s j
          generalize hu : (rU L (rds L s j).2).1 = u at *
          have HUE := Hid.mk' hu
          clear hu
          go_region_law (first
            | (rw [if_pos (by rfl)]
               go_simp
               go_at_call 60
               refine HUU.out.mono ?_
               rintro e W1 ⟨rfl, hon⟩
               have HON := Hid.mk' hon
               have s1 : W1.cell? ⟨p, 2, none⟩ = some (.slice av j cv) := hon.2.cell (p := ⟨p, 2, none⟩) HPR.out s0
               have hz : w.heap.size ≤ W1.heap.size := Nat.le_trans HND.out.fr.size hon.2.size
               have be : Below W1.heap.size W1 (W1.alloc (.cells #[.int .u64 (u : Int)] 35)) := (Below.refl _ _).alloc (Nat.le_refl _) _
               have OW1 : OwnV W1 w.heap.size 35 (.slice av j cv) (uC (rds L s j).1) := ownV_fr HND.out.own hon.2 (HNR.out (wr.drewN (m + 1)) j av cv HND.out)
               have OA : Hid (OwnV (W1.alloc (.cells #[.int .u64 (u : Int)] 35)) w.heap.size 35 (.slice av j cv) (uC (rds L s j).1)) := OW1.below be
               have VA : Hid (Vals (W1.alloc (.cells #[.int .u64 (u : Int)] 35)) (some ⟨W1.heap.size, 0, none⟩) [.int .u64 (u : Int)]) := vals_lit _ _ _
               have ZA : Hid (w.heap.size ≤ (W1.alloc (.cells #[.int .u64 (u : Int)] 35)).heap.size) := Nat.le_trans hz be.size
               have hL : Hid ((uC (rds L s j).1).length + [Value.int .u64 (u : Int)].length ≤ 28000000000000) := (by show _ ≤ _; rw [uC_len, HLn.out]; simp; omega)
               have sA : (W1.alloc (.cells #[.int .u64 (u : Int)] 35)).cell? ⟨p, 2, none⟩ = some (.slice av j cv) := (be.cell (p := ⟨p, 2, none⟩) (block_lt_of_cell s1)).trans s1
               clear hon be OW1 hz)
            | (refine step_appV rfl (.tmp 29) (.tmp 32) 24 35 (.int .u64 0) Tryd.underlying24 info24 rfl rfl w.heap.size (.slice av j cv) (uC (rds L s j).1) (by first | rfl | simp [Act.eval, Act.put]) OA.out (some ⟨W1.heap.size, 0, none⟩) 1 1 [.int .u64 (u : Int)] (by first | rfl | simp [Act.eval, Act.put]) rfl VA.out (by intro u hu; simp at hu; rw [hu]; rfl) hL.out ZA.out ?_
               intro v2 W2 own2 gr2 _
               obtain ⟨av2, cv2, rfl, hn2, s2, f2⟩ := HNN.out _ _ HON.out _ rfl _ own2 gr2
               have HN3 := Hid.mk' hn2
               clear own2 gr2 hn2 OA VA ZA hL)
            | fail)
          all_goals go_wp2
          all_goals exact ⟨⟨j + 1, av2, cv2, HN3, fun _ => by omega⟩, by rw [HN3.out.lenAt, HN.out.lenAt]; omega⟩
        · have HST := Hid.mk' (HS.out wr j av cv HN.out)
          rw [show decide ((rds L s j).2.bad ≠ 0) = true by simp [hb]] at HST
          have HBD := Hid.mk' hb
          clear hb
          go_wp2_with (first | (go_at_call 33; refine HST.out.mono ?_; rintro e w1 ⟨rfl, m, rfl⟩) | fail)
          have HND : Hid (NI w (wr.drewN m) r p false cnt a cap L s j av cv) := HN.out.drew m
          clear HST
          go_end0
          exact ⟨rfl, j, av, cv, HND.out, HJ.out, fun h => absurd h HBD.out⟩
      · have hj' : decide ((j : Int) < 1) = false := by simp; omega
        go_wp2
        go_end0
        exact ⟨rfl, j, av, cv, HN.out, HJ.out, fun _ => by omega⟩
  · obtain rfl : WN = cnt := by rw [hWN]; simp
    clear hWN
    go_enter Tryd.func49, Tryd.ntmps49
    go_wp2
    go_loopw [24] (fun _ wr => ∃ (j : Nat) (av : Option Addr) (cv : Nat), Hid (NI w wr r p true WN a cap L s j av cv) ∧ Hid (s.bad = 0 → (j : Int) ≤ WN)) (fun _ wr => (WN : Int).toNat - lenAt wr p)
    case atStart => exact ⟨0, none, 0, H0, fun hb => by have := HWN.out hb; omega⟩
    case round =>
      obtain ⟨j, av, cv, HN, HJ⟩ := hrel
      clear H0
      have c2 := HN.out.c2
      by_cases hj : (j : Int) < WN
      · by_cases hb : (rds L s j).2.bad = 0
        · have hWb := HWN.out (HLB.out j hb)
          have HST := Hid.mk' (HS.out wr j av cv HN.out)
          rw [show decide ((rds L s j).2.bad ≠ 0) = false by simp [hb]] at HST
          clear hb
          go_wp2_with (first | (go_at_call 33; refine HST.out.mono ?_; rintro e w1 ⟨rfl, m, rfl⟩) | fail)
          have HND : Hid (NI w (wr.drewN (m + 1)) r p true WN a cap L s j av cv) := HN.out.drew (m + 1)
          clear HST
          have s0 : (wr.drewN (m + 1)).cell? ⟨p, 2, none⟩ = some (.slice av j cv) := HND.out.c2
          have HUU := Hid.mk' (HU.out (wr.drewN (m + 1)) j av cv HND.out)
          have HNN := Hid.mk' (HNX.out (wr.drewN (m + 1)) j av cv HND.out)
          have HOO := Hid.mk' (HOB.out (wr.drewN (m + 1)) j av cv HND.out)
          have HLn : Hid ((rds L s j).1.length = j) := rds_len L s j
          generalize hu : (rU L (rds L s j).2).1 = u at *
          have HUE := Hid.mk' hu
          clear hu
          go_region_law (first
            | (rw [if_pos (by rfl)]
               go_simp
               go_at_call 60
               refine HUU.out.mono ?_
               rintro e W1 ⟨rfl, hon⟩
               have HON := Hid.mk' hon
               have s1 : W1.cell? ⟨p, 2, none⟩ = some (.slice av j cv) := hon.2.cell (p := ⟨p, 2, none⟩) HPR.out s0
               have hz : w.heap.size ≤ W1.heap.size := Nat.le_trans HND.out.fr.size hon.2.size
               have be : Below W1.heap.size W1 (W1.alloc (.cells #[.int .u64 (u : Int)] 35)) := (Below.refl _ _).alloc (Nat.le_refl _) _
               have OW1 : OwnV W1 w.heap.size 35 (.slice av j cv) (uC (rds L s j).1) := ownV_fr HND.out.own hon.2 (HNR.out (wr.drewN (m + 1)) j av cv HND.out)
               have OA : Hid (OwnV (W1.alloc (.cells #[.int .u64 (u : Int)] 35)) w.heap.size 35 (.slice av j cv) (uC (rds L s j).1)) := OW1.below be
               have VA : Hid (Vals (W1.alloc (.cells #[.int .u64 (u : Int)] 35)) (some ⟨W1.heap.size, 0, none⟩) [.int .u64 (u : Int)]) := vals_lit _ _ _
               have ZA : Hid (w.heap.size ≤ (W1.alloc (.cells #[.int .u64 (u : Int)] 35)).heap.size) := Nat.le_trans hz be.size
               have hL : Hid ((uC (rds L s j).1).length + [Value.int .u64 (u : Int)].length ≤ 28000000000000) := (by show _ ≤ _; rw [uC_len, HLn.out]; simp; omega)
               have sA : (W1.alloc (.cells #[.int .u64 (u : Int)] 35)).cell? ⟨p, 2, none⟩ = some (.slice av j cv) := (be.cell (p := ⟨p, 2, none⟩) (block_lt_of_cell s1)).trans s1
               clear hon be OW1 hz)
            | (refine step_appV rfl (.tmp 29) (.tmp 32) 24 35 (.int .u64 0) Tryd.underlying24 info24 rfl rfl w.heap.size (.slice av j cv) (uC (rds L s j).1) (by first | rfl | simp [Act.eval, Act.put]) OA.out (some ⟨W1.heap.size, 0, none⟩) 1 1 [.int .u64 (u : Int)] (by first | rfl | simp [Act.eval, Act.put]) rfl VA.out (by intro u hu; simp at hu; rw [hu]; rfl) hL.out ZA.out ?_
               intro v2 W2 own2 gr2 _
               obtain ⟨av2, cv2, rfl, hn2, s2, f2⟩ := HNN.out _ _ HON.out _ rfl _ own2 gr2
               have HN3 := Hid.mk' hn2
               clear own2 gr2 hn2 OA VA ZA hL)
            | fail)
          all_goals go_wp2
          all_goals exact ⟨⟨j + 1, av2, cv2, HN3, fun _ => by omega⟩, by rw [HN3.out.lenAt, HN.out.lenAt]; omega⟩
        · have HST := Hid.mk' (HS.out wr j av cv HN.out)
          rw [show decide ((rds L s j).2.bad ≠ 0) = true by simp [hb]] at HST
          have HBD := Hid.mk' hb
          clear hb
          go_wp2_with (first | (go_at_call 33; refine HST.out.mono ?_; rintro e w1 ⟨rfl, m, rfl⟩) | fail)
          have HND : Hid (NI w (wr.drewN m) r p true WN a cap L s j av cv) := HN.out.drew m
          clear HST
          go_end0
          exact ⟨rfl, j, av, cv, HND.out, HJ.out, fun h => absurd h HBD.out⟩
      · have hj' : decide ((j : Int) < WN) = false := by simp; omega
        go_wp2
        go_end0
        exact ⟨rfl, j, av, cv, HN.out, HJ.out, fun _ => by omega⟩
end Go.Proofs.YtphpaaajfcbafaaDoor.K
