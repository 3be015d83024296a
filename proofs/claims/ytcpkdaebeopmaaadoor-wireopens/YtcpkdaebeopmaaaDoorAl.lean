import Derived.Test.YtcpkdaebeopmaaaDoorAp
import Derived.Test.YtcpkdaebeopmaaaDoorPieces
namespace Go.Proofs.YtcpkdaebeopmaaaDoor
open Go.RowKit
set_option linter.unusedVariables false
set_option linter.unusedSimpArgs false

/-- A Book that keeps two lists of bytes. -/
def Bk (w : World) (q B cB : Nat) (qo : Option Obj) (v0 v1 : Value) : Prop := w.cell? ⟨q, 0, none⟩ = some (.slice (some ⟨B, 0, none⟩) 2 cB) ∧ w.cell? ⟨B, 0, none⟩ = some v0 ∧ w.cell? ⟨B, 1, none⟩ = some v1 ∧ w.heap[q]? = qo
theorem Bk.grown {w w' : World} {q B cB : Nat} {qo : Option Obj} {v0 v1 : Value} {row : Option Nat} (h : Bk w q B cB qo v0 v1) (hg : w.grownBy w' row) (h1 : row ≠ some q) (h2 : row ≠ some B) : Bk w' q B cB qo v0 v1 :=
  ⟨hg.cell h.1 (fun e => h1 e.symm), hg.cell h.2.1 (fun e => h2 e.symm), hg.cell h.2.2.1 (fun e => h2 e.symm), (hg.block q (block_lt_of_cell h.1) (fun e => h1 e.symm)).trans h.2.2.2⟩
theorem Bk.set {w : World} {q B cB g j : Nat} {qo : Option Obj} {v0 v1 u : Value} (h : Bk w q B cB qo v0 v1) (h1 : g ≠ q) (h2 : g ≠ B) : Bk (w.setCell ⟨g, j, none⟩ u) q B cB qo v0 v1 :=
  ⟨by rw [World.cell?_setCell_other _ _ _ _ (fun e => by simp at e <;> omega)]; exact h.1, by rw [World.cell?_setCell_other _ _ _ _ (fun e => by simp at e <;> omega)]; exact h.2.1, by rw [World.cell?_setCell_other _ _ _ _ (fun e => by simp at e <;> omega)]; exact h.2.2.1, by rw [Below.heap_setCell _ _ _ _ (fun e => h1 e.symm)]; exact h.2.2.2⟩
def fill (k : Nat) (x : UInt8) (L : List UInt8) : List UInt8 := List.replicate k x ++ L.drop k
theorem fill_len (k : Nat) (x : UInt8) (L : List UInt8) (h : k ≤ L.length) : (fill k x L).length = L.length := by simp [fill]; omega
theorem fill_zero (x : UInt8) (L : List UInt8) : fill 0 x L = L := by simp [fill]
theorem fill_all (x : UInt8) (L : List UInt8) : fill L.length x L = List.replicate L.length x := by simp [fill]
theorem fill_succ (k : Nat) (x : UInt8) (L : List UInt8) (h : k < L.length) : (fill k x L).set k x = fill (k + 1) x L := by
  unfold fill
  rw [List.set_append_right _ _ (by simp), List.length_replicate, Nat.sub_self, List.drop_eq_getElem_cons h, List.set_cons_zero, List.replicate_succ', List.append_assoc]
  rfl
theorem Bk.below {w w' : World} {q B cB : Nat} {qo : Option Obj} {v0 v1 : Value} (h : Bk w q B cB qo v0 v1) (hb : Below w.heap.size w w') : Bk w' q B cB qo v0 v1 :=
  ⟨(hb.cell (p := ⟨q, 0, none⟩) (block_lt_of_cell h.1)).trans h.1, (hb.cell (p := ⟨B, 0, none⟩) (block_lt_of_cell h.2.1)).trans h.2.1, (hb.cell (p := ⟨B, 1, none⟩) (block_lt_of_cell h.2.2.1)).trans h.2.2.1, (hb.block q (block_lt_of_cell h.1)).trans h.2.2.2⟩
theorem byt_grown {w w' : World} {a : Option Addr} {l : List UInt8} {row : Option Nat} (h : Byt w a l) (gr : w.grownBy w' row) (hne : 0 < l.length → ∀ b off, a = some ⟨b, off, none⟩ → some b ≠ row) : Byt w' a l := by
  rcases h with rfl | ⟨b, off, rfl, hc⟩
  · exact .inl rfl
  · exact .inr ⟨b, off, rfl, fun j hj => gr.cell (hc j hj) (hne (by omega) b off rfl)⟩
theorem info22 : ∃ i, Tryd.prog.info? 22 = some i ∧ i.zero = some (.slice none 0 0) ∧ i.size = 1 ∧ i.bytes = 24 := by
  have h : (Tryd.prog.info? 22).map (fun i => (i.zero, i.size, i.bytes)) = some (some (.slice none 0 0), 1, 24) := by kernel_rfl
  obtain ⟨i, h1, h2, h3, h4⟩ := info_parts h
  exact ⟨i, h1, h2, h3, h4⟩
theorem wpList_appS {ops : Array Oper} {rest : List Oper} {o : Oper} {a : Act} {w : World} {Q : Exit → Act → World → Prop} (hgd : o.guard = none) (s x : Operand)
    (ho : o.op = .call { callee := .builtin .append, args := #[s, x], argTypes := #[30, 30] }) (base : Nat) (v : Value) (n : Nat) (rows : List Value) (hs : a.eval s = v) (hown : w.ownsRow base 22 1 v n rows)
    (ad : Addr) (u : Value) (hx : a.eval x = .slice (some ad) 1 1) (hu : w.cell? ad = some u) (hu1 : u.oneCell' = true) (hn : n ≤ 1000) (hbase : base ≤ w.heap.size)
    (h : ∀ v' w', w'.ownsRow base 22 1 v' (n + 1) (rows ++ [u]) → w.grownBy w' v.ownBlock → (v'.ownBlock = v.ownBlock ∨ v'.ownBlock = some w.heap.size) → wpList Tryd.prog ops Q rest (a.put o.dst v') w') : wpList Tryd.prog ops Q (o :: rest) a w :=
  wpList_plain hgd fun _ hK => by
    obtain ⟨i, hi, hz, hsz, hby⟩ := info22
    obtain ⟨v', w', hr, h2, h3, _, h5⟩ := run_append_own_at (P := Tryd.prog) w base 30 o.type 22 i (.slice none 0 0) 1 24 Tryd.underlying30 hi hz hsz hby rfl (by decide) v n rows hown ad 1 1 [u] rfl (fun j z hz => by
      cases j with
      | zero => simp at hz; subst hz; simpa [Addr.add] using hu
      | succ j => simp at hz) (by simpa using hu1) (by unfold maxLen; omega) (by omega) hbase
    unfold Oper.wp execOp
    simp only [ho, resolve, invoke, builtin, Sem.run_bind, Sem.run_pure, Result.andThen_ok, List.map_toArray, List.map_cons, List.map_nil, hs, hx, hr]
    exact hK _ _ (h v' w' h2 h3 h5)
/-- One append onto a list of the Book: it lies where it lay, or behind all that was; what the list held is there. -/
theorem grow_step {wa w' : World} {base W n cap m : Nat} {a : Option Addr} {x : UInt8} {g g' : Value} (hW : W ≤ wa.heap.size)
    (hB : Byt wa a (List.replicate n x)) (hv : ∀ b off, 0 < n → a = some ⟨b, off, none⟩ → (Value.slice a n cap).ownBlock = some b ∧ off = 0 ∧ b < W)
    (own' : OwnB w' base g' (List.replicate (n + m) x ++ [x])) (gr : wa.grownBy w' g.ownBlock)
    (h4 : g'.ownBlock = g.ownBlock ∨ g'.ownBlock = some wa.heap.size ∧ Below wa.heap.size wa w')
    (hg : g.ownBlock = (Value.slice a n cap).ownBlock ∨ ∃ b, g.ownBlock = some b ∧ W ≤ b) :
    Byt w' a (List.replicate n x) ∧ (g'.ownBlock = (Value.slice a n cap).ownBlock ∨ ∃ b, g'.ownBlock = some b ∧ W ≤ b) := by
  refine ⟨?_, ?_⟩
  · rcases hB with h0 | ⟨b, off, rfl, hc⟩
    · exact .inl h0
    by_cases hn : 0 < n
    · obtain ⟨hvb, rfl, hbW⟩ := hv b off hn rfl
      rcases hg with e | ⟨b2, e, hb2⟩
      · rcases h4 with e4 | ⟨e4, bl⟩
        · have eo : g'.ownBlock = some b := by rw [e4, e, hvb]
          obtain ⟨gb, gc, rfl, _, hcl, _, _⟩ := own'.open1 (by simp)
          simp [Value.ownBlock] at eo
          subst eo
          refine .inr ⟨gb, 0, rfl, fun j hj => ?_⟩
          have hjn : j < n := by simpa using hj
          rw [Nat.zero_add, hcl j (by simp; omega)]
          congr 2
          simp only [at8, List.getD_eq_getElem?_getD]
          rw [List.getElem?_append_left (by simp; omega), List.getElem?_replicate, List.getElem?_replicate, if_pos (by omega), if_pos hjn]
        · exact .inr ⟨b, 0, rfl, fun j hj => (bl.cell (p := ⟨b, 0 + j, none⟩) (block_lt_of_cell (hc j hj))).trans (hc j hj)⟩
      · exact .inr ⟨b, 0, rfl, fun j hj => gr.cell (hc j hj) (fun e3 => by rw [e] at e3; simp at e3; omega)⟩
    · left; simp; omega
  · rcases h4 with e4 | ⟨e4, _⟩
    · rw [e4]; exact hg
    · exact .inr ⟨_, e4, hW⟩
def rp (n : Nat) (x : UInt8) : List UInt8 := List.replicate n x
theorem rp_len (n : Nat) (x : UInt8) : (rp n x).length = n := by simp [rp]
theorem rp_succ (n : Nat) (x : UInt8) : rp n x ++ [x] = rp (n + 1) x := by simp [rp, List.replicate_succ']
def St0 (wr : World) (base : Nat) (v0 v1 : Value) (n0 n1 : Nat) (all : Value) : Prop := all = .slice none 0 0 ∧ OwnB wr base v0 (rp n0 48) ∧ OwnB wr base v1 (rp n1 49)
def St1 (wr : World) (base q B : Nat) (v0 v1 : Value) (a0 : Option Addr) (n0 n1 : Nat) (all : Value) : Prop :=
  ∃ G0, OwnB wr base G0 (rp (n0 + 20) 48) ∧ Byt wr a0 (rp n0 48) ∧ OwnB wr base v1 (rp n1 49) ∧ wr.ownsRow base 22 1 all 1 [G0] ∧
    (∀ b, all.ownBlock = some b → b ≠ q ∧ b ≠ B ∧ v0.ownBlock ≠ some b ∧ v1.ownBlock ≠ some b ∧ G0.ownBlock ≠ some b) ∧ (∀ b, G0.ownBlock = some b → b ≠ q ∧ b ≠ B ∧ v1.ownBlock ≠ some b)
def St2 (wr : World) (base : Nat) (a0 a1 : Option Addr) (n0 n1 : Nat) (all : Value) : Prop :=
  ∃ G0 G1, OwnB wr base G0 (rp (n0 + 20) 48) ∧ OwnB wr base G1 (rp (n1 + 20) 49) ∧ Byt wr a0 (rp n0 48) ∧ Byt wr a1 (rp n1 49) ∧ wr.ownsRow base 22 1 all 2 [G0, G1]
theorem at8_rp (n : Nat) (x : UInt8) (k : Nat) (h : k < n) : at8 (rp n x) k = (x.toNat : Int) := by simp [at8, rp, h]
theorem one_slice (a : Option Addr) (n c : Nat) : (Value.slice a n c).oneCell' = true := rfl
/-- How far the marks are written. -/
def Ph (w : World) (base : Nat) (v0 v1 : Value) (L0 L1 : List UInt8) (i : Nat) : Prop :=
  OwnB w base v0 (if i = 0 then L0 else List.replicate L0.length 48) ∧ OwnB w base v1 (if i ≤ 1 then L1 else List.replicate L1.length 49)

set_option maxRecDepth 100000 in
set_option maxHeartbeats 2000000 in
theorem alone35 (q B cB base : Nat) (qo : Option Obj) (a0 a1 : Option Addr) (n0 k0 n1 k1 : Nat) (L0 L1 : List UInt8) (w : World) (hl0 : L0.length = n0) (hl1 : L1.length = n1) (hn0 : n0 ≤ 33554432) (hn1 : n1 ≤ 33554432)
    (hbk : Bk w q B cB qo (.slice a0 n0 k0) (.slice a1 n1 k1)) (ho0 : OwnB w base (.slice a0 n0 k0) L0) (ho1 : OwnB w base (.slice a1 n1 k1) L1)
    (s0 : ∀ k, (Value.slice a0 n0 k0).ownBlock = some k → k ≠ q ∧ k ≠ B ∧ (Value.slice a1 n1 k1).ownBlock ≠ some k) (s1 : ∀ k, (Value.slice a1 n1 k1).ownBlock = some k → k ≠ q ∧ k ≠ B ∧ (Value.slice a0 n0 k0).ownBlock ≠ some k)
    (hbase : base ≤ w.heap.size) : Calls Tryd.prog 35 #[.pointer (some ⟨q, 0, none⟩)] w fun e w' => e = .returned (.bool true) ∧ Below base w w' ∧ w'.heap[q]? = qo := by
  have V0st : 0 < n0 → ∃ g, a0 = some ⟨g, 0, none⟩ := fun hn => by
    obtain ⟨g, c, ev, _⟩ := ho0.open1 (by omega)
    rw [hl0] at ev
    cases ev
    exact ⟨g, rfl⟩
  go_enter Tryd.func35, Tryd.ntmps35
  go_wp2
  go_loopw [3] (fun i wr => ∃ m : Nat, m ≤ 2 ∧ i = .int .i64 m ∧ Bk wr q B cB qo (.slice a0 n0 k0) (.slice a1 n1 k1) ∧ Ph wr base (.slice a0 n0 k0) (.slice a1 n1 k1) L0 L1 m ∧ Below base w wr) (fun i _ => 2 - (intOf i).toNat)
  case atStart => exact ⟨0, by omega, rfl, hbk, ⟨by simpa using ho0, by simpa using ho1⟩, Below.refl _ _⟩
  case round =>
    obtain ⟨m, hm, rfl, bk, ph, bel⟩ := hrel
    have HB : Hid (Bk wr q B cB qo (.slice a0 n0 k0) (.slice a1 n1 k1)) := bk
    have HP : Hid (Ph wr base (.slice a0 n0 k0) (.slice a1 n1 k1) L0 L1 m) := ph
    have d0 := bk.1
    clear ph
    by_cases hm0 : m = 0
    · subst hm0
      clear bk
      go_wp2
      go_loopw [4] (fun kk wr => ∃ k : Nat, k ≤ n0 ∧ kk = .int .i64 k ∧ Bk wr q B cB qo (.slice a0 n0 k0) (.slice a1 n1 k1) ∧ OwnB wr base (.slice a0 n0 k0) (fill k 48 L0) ∧ OwnB wr base (.slice a1 n1 k1) (L1) ∧ Below base w wr) (fun kk _ => n0 - (intOf kk).toNat)
      case atStart => exact ⟨0, by omega, rfl, HB.out, by rw [fill_zero]; simpa [Ph] using HP.out.1, by simpa [Ph] using HP.out.2, bel⟩
      case round =>
        obtain ⟨k, hk, rfl, bk, o0, o1, bel⟩ := hrel
        obtain ⟨e0, e1, e2, e3⟩ := bk
        have HB2 : Hid (Bk wr q B cB qo (.slice a0 n0 k0) (.slice a1 n1 k1)) := ⟨e0, e1, e2, e3⟩
        have fl : (fill k 48 L0).length = n0 := by rw [fill_len _ _ _ (by omega)]; omega
        by_cases hlt : k < n0
        · have hlt' : (k : Int) < (n0 : Int) := by omega
          obtain ⟨g, cv, ev, hcv, hcl, hg1, hg2⟩ := o0.open1 (by omega)
          rw [fl] at ev hcv
          cases ev
          obtain ⟨sq, sB, sv⟩ := s0 g rfl
          obtain ⟨dc, df⟩ := own_cell o0 (r := k) (by omega)
          have N0 : Hid (OwnB (wr.setCell ⟨g, k, none⟩ (.int .u8 48)) base (.slice (some ⟨g, 0, none⟩) n0 k0) (fill (k + 1) 48 L0)) := (by rw [← fill_succ _ _ _ (by omega)]; exact own_set o0 48 (by omega))
          have N1 : Hid (OwnB (wr.setCell ⟨g, k, none⟩ (.int .u8 48)) base (.slice a1 n1 k1) (L1)) := own_setCell o1 sv
          have N2 : Hid (Bk (wr.setCell ⟨g, k, none⟩ (.int .u8 48)) q B cB qo (.slice (some ⟨g, 0, none⟩) n0 k0) (.slice a1 n1 k1)) := HB2.out.set sq sB
          have N3 : Hid (Below base w (wr.setCell ⟨g, k, none⟩ (.int .u8 48))) := bel.setCell hg1 _
          clear o0 o1 hcl HB2 bel d0
          go_wp2
          exact ⟨⟨k + 1, by omega, by go_num, N2.out, N0.out, N1.out, N3.out⟩, by simp [intOf]; omega⟩
        · have hk2 : k = n0 := by omega
          subst hk2
          have hlt' : ¬ (k : Int) < (k : Int) := by omega
          have NP : Hid (Ph wr base (.slice a0 k k0) (.slice a1 n1 k1) L0 L1 1) := (by
            rw [← hl0, fill_all] at o0
            exact ⟨by simpa [hl0] using o0, by simpa [hl0] using o1⟩)
          clear o0 o1 d0
          go_wp2
          exact ⟨⟨1, by omega, by go_num, HB2.out, NP.out, bel⟩, by simp [intOf]⟩
    by_cases hm1 : m = 1
    · subst hm1
      clear bk
      go_wp2
      go_loopw [4] (fun kk wr => ∃ k : Nat, k ≤ n1 ∧ kk = .int .i64 k ∧ Bk wr q B cB qo (.slice a0 n0 k0) (.slice a1 n1 k1) ∧ OwnB wr base (.slice a0 n0 k0) (List.replicate L0.length 48) ∧ OwnB wr base (.slice a1 n1 k1) (fill k 49 L1) ∧ Below base w wr) (fun kk _ => n1 - (intOf kk).toNat)
      case atStart => exact ⟨0, by omega, rfl, HB.out, by simpa [Ph] using HP.out.1, by rw [fill_zero]; simpa [Ph] using HP.out.2, bel⟩
      case round =>
        obtain ⟨k, hk, rfl, bk, o0, o1, bel⟩ := hrel
        obtain ⟨e0, e1, e2, e3⟩ := bk
        have HB2 : Hid (Bk wr q B cB qo (.slice a0 n0 k0) (.slice a1 n1 k1)) := ⟨e0, e1, e2, e3⟩
        have fl : (fill k 49 L1).length = n1 := by rw [fill_len _ _ _ (by omega)]; omega
        by_cases hlt : k < n1
        · have hlt' : (k : Int) < (n1 : Int) := by omega
          obtain ⟨g, cv, ev, hcv, hcl, hg1, hg2⟩ := o1.open1 (by omega)
          rw [fl] at ev hcv
          cases ev
          obtain ⟨sq, sB, sv⟩ := s1 g rfl
          obtain ⟨dc, df⟩ := own_cell o1 (r := k) (by omega)
          have N1 : Hid (OwnB (wr.setCell ⟨g, k, none⟩ (.int .u8 49)) base (.slice (some ⟨g, 0, none⟩) n1 k1) (fill (k + 1) 49 L1)) := (by rw [← fill_succ _ _ _ (by omega)]; exact own_set o1 49 (by omega))
          have N0 : Hid (OwnB (wr.setCell ⟨g, k, none⟩ (.int .u8 49)) base (.slice a0 n0 k0) (List.replicate L0.length 48)) := own_setCell o0 sv
          have N2 : Hid (Bk (wr.setCell ⟨g, k, none⟩ (.int .u8 49)) q B cB qo (.slice a0 n0 k0) (.slice (some ⟨g, 0, none⟩) n1 k1)) := HB2.out.set sq sB
          have N3 : Hid (Below base w (wr.setCell ⟨g, k, none⟩ (.int .u8 49))) := bel.setCell hg1 _
          clear o0 o1 hcl HB2 bel d0
          go_wp2
          exact ⟨⟨k + 1, by omega, by go_num, N2.out, N0.out, N1.out, N3.out⟩, by simp [intOf]; omega⟩
        · have hk2 : k = n1 := by omega
          subst hk2
          have hlt' : ¬ (k : Int) < (k : Int) := by omega
          have NP : Hid (Ph wr base (.slice a0 n0 k0) (.slice a1 k k1) L0 L1 2) := (by
            rw [← hl1, fill_all] at o1
            exact ⟨by simpa [hl1] using o0, by simpa [hl1] using o1⟩)
          clear o0 o1 d0
          go_wp2
          exact ⟨⟨2, by omega, by go_num, HB2.out, NP.out, bel⟩, by simp [intOf]⟩
    have hm2 : m = 2 := by omega
    subst hm2
    clear bk hm0 hm1
    have P0 : Hid (OwnB wr base (.slice a0 n0 k0) (rp n0 48)) := (by show OwnB _ _ _ _; simpa [Ph, rp, hl0] using HP.out.1)
    have P1 : Hid (OwnB wr base (.slice a1 n1 k1) (rp n1 49)) := (by show OwnB _ _ _ _; simpa [Ph, rp, hl1] using HP.out.2)
    have zb : base ≤ wr.heap.size := Nat.le_trans hbase bel.size
    clear HP hbk ho0 ho1
    go_wp2
    go_loopw [5, 6] (fun all i wr => ∃ m : Nat, m ≤ 2 ∧ i = .int .i64 m ∧ Bk wr q B cB qo (.slice a0 n0 k0) (.slice a1 n1 k1) ∧ Below base w wr ∧ base ≤ wr.heap.size ∧ (m = 0 → St0 wr base (.slice a0 n0 k0) (.slice a1 n1 k1) n0 n1 all) ∧ (m = 1 → St1 wr base q B (.slice a0 n0 k0) (.slice a1 n1 k1) a0 n0 n1 all) ∧ (m = 2 → St2 wr base a0 a1 n0 n1 all)) (fun _ i _ => 2 - (intOf i).toNat)
    case atStart => exact ⟨0, by omega, rfl, HB.out, bel, zb, fun _ => ⟨rfl, P0.out, P1.out⟩, fun h => by omega, fun h => by omega⟩
    case round =>
      clear d0 bel zb HB P0 P1
      obtain ⟨m, hm, rfl, bk, bel, zb, st0, st1, st2⟩ := hrel
      obtain ⟨e0, e1, e2, e3⟩ := bk
      have HB : Hid (Bk wr q B cB qo (.slice a0 n0 k0) (.slice a1 n1 k1)) := ⟨e0, e1, e2, e3⟩
      have lq : q < wr.heap.size := block_lt_of_cell e0
      have lB : B < wr.heap.size := block_lt_of_cell e1
      obtain ⟨W, hW1, hW2⟩ : ∃ W, wr.heap.size ≤ W ∧ W ≤ wr.heap.size := ⟨_, Nat.le_refl _, Nat.le_refl _⟩
      by_cases hm0 : m = 0
      · subst hm0
        obtain ⟨rfl, o0, o1⟩ := st0 rfl
        clear st0 st1 st2
        have y0 : Hid (Byt wr a0 (rp n0 48)) := (by obtain ⟨x1, x2, x3, _, x5, _⟩ := o0.open; rw [rp_len] at x3; cases x3; exact x5)
        have hv : ∀ b off, 0 < n0 → a0 = some ⟨b, off, none⟩ → (Value.slice a0 n0 k0).ownBlock = some b ∧ off = 0 ∧ b < W := fun b off hn e => by
          obtain ⟨g, c, ev, _, _, _, hgl⟩ := o0.open1 (by rw [rp_len]; omega)
          rw [rp_len, e] at ev
          cases ev
          exact ⟨by rw [e]; rfl, rfl, by omega⟩
        have l1 : ∀ b, (Value.slice a1 n1 k1).ownBlock = some b → b < W := fun b hb => by have := (World.ownsRow.lt o1 b hb).2; omega
        have l0 : ∀ b, (Value.slice a0 n0 k0).ownBlock = some b → b < W := fun b hb => by have := (World.ownsRow.lt o0 b hb).2; omega
        have O0 : Hid (OwnB wr base (.slice a0 n0 k0) (rp n0 48)) := o0
        have O1 : Hid (OwnB wr base (.slice a1 n1 k1) (rp n1 49)) := o1
        clear o0 o1
        go_wp2
        go_loopw [7, 8] (fun g kk wx => ∃ k : Nat, k ≤ 20 ∧ kk = .int .i64 k ∧ OwnB wx base g (rp (n0 + k) 48) ∧ Byt wx a0 (rp n0 48) ∧ (g.ownBlock = (Value.slice a0 n0 k0).ownBlock ∨ ∃ b, g.ownBlock = some b ∧ W ≤ b) ∧ OwnB wx base (.slice a1 n1 k1) (rp n1 49) ∧ Bk wx q B cB qo (.slice a0 n0 k0) (.slice a1 n1 k1) ∧ Below base w wx ∧ W ≤ wx.heap.size) (fun _ kk _ => 20 - (intOf kk).toNat)
        case atStart => exact ⟨0, by omega, rfl, O0.out, y0.out, .inl rfl, O1.out, HB.out, bel, hW2⟩
        case round =>
          clear e0 e1 e2 e3 HB bel O0 O1 y0
          obtain ⟨k, hk, rfl, og, y0, hg, o1, bk, bel, hWx⟩ := hrel
          have hgq : u7.ownBlock ≠ some q ∧ u7.ownBlock ≠ some B ∧ ∀ b, (Value.slice a1 n1 k1).ownBlock = some b → u7.ownBlock ≠ some b := by
            rcases hg with e | ⟨b, e, hb⟩
            · rw [e]
              exact ⟨fun h => (s0 q h).1 rfl, fun h => (s0 B h).2.1 rfl, fun b hb h => (s0 b h).2.2 hb⟩
            · rw [e]
              exact ⟨fun h => by simp at h; omega, fun h => by simp at h; omega, fun b2 hb2 h => by have := l1 b2 hb2; simp at h; omega⟩
          by_cases hlt : k < 20
          · have hlt' : (k : Int) < 20 := by omega
            have be : Below wr.heap.size wr (wr.alloc (.cells (bs [48]) 5)) := (Below.refl _ _).alloc (Nat.le_refl _) _
            have OA : Hid (OwnB (wr.alloc (.cells #[.int .u8 48] 5)) base u7 (rp (n0 + k) 48)) := og.below be
            have BA : Hid (Byt (wr.alloc (.cells #[.int .u8 48] 5)) (some ⟨wr.heap.size, 0, none⟩) [48]) := byt_lit wr [48] 5
            have SA : Hid ((rp (n0 + k) 48).length + ([48] : List UInt8).length ≤ 140737488355328) := (by rw [rp_len]; simp; omega : _ ≤ _)
            have ZA : Hid (base ≤ (wr.alloc (.cells #[.int .u8 48] 5)).heap.size) := (by have := bel.size; simp; omega : _ ≤ _)
            have YA : Hid (Byt (wr.alloc (.cells #[.int .u8 48] 5)) a0 (rp n0 48)) := byt_below y0 be
            have OA1 : Hid (OwnB (wr.alloc (.cells #[.int .u8 48] 5)) base (.slice a1 n1 k1) (rp n1 49)) := o1.below be
            have BK : Hid (Bk (wr.alloc (.cells #[.int .u8 48] 5)) q B cB qo (.slice a0 n0 k0) (.slice a1 n1 k1)) := bk.below be
            have BL : Hid (Below base w (wr.alloc (.cells #[.int .u8 48] 5))) := bel.alloc (by have := bel.size; omega) _
            have WA : Hid (W ≤ (wr.alloc (.cells #[.int .u8 48] 5)).heap.size) := (by simp; omega : _ ≤ _)
            clear og y0 o1 bk bel be
            go_wp2_with (first | (at_builtin; refine wpList_app3 rfl (.tmp 67) (.tmp 71) rfl base u7 (rp (n0 + k) 48) rfl OA.out ⟨wr.heap.size, 0, none⟩ 1 1 [48] rfl rfl BA.out SA.out ZA.out (by decide) ?_) | fail)
            intro g' w' own' gr h4
            obtain ⟨yn, gn⟩ := grow_step (cap := k0) WA.out YA.out hv own' gr (by rw [show (wr.alloc (.cells #[.int .u8 48] 5)).heap.size = wr.heap.size + 1 by simp]; exact h4) hg
            have on : Hid (OwnB w' base g' (rp (n0 + (k + 1)) 48)) := (by show OwnB _ _ _ _; rw [← Nat.add_assoc, ← rp_succ]; exact own')
            have o1n : Hid (OwnB w' base (.slice a1 n1 k1) (rp n1 49)) := World.ownsRow.kept OA1.out gr (by
              cases hx : (Value.slice a1 n1 k1).ownBlock with
              | none => exact .inl rfl
              | some b => exact .inr (fun e => hgq.2.2 b hx e.symm))
            have bkn : Hid (Bk w' q B cB qo (.slice a0 n0 k0) (.slice a1 n1 k1)) := BK.out.grown gr hgq.1 hgq.2.1
            have beln : Hid (Below base w w') := BL.out.grown gr ZA.out (fun b hb => (World.ownsRow.lt OA.out b hb).1)
            have wn : Hid (W ≤ w'.heap.size) := Nat.le_trans WA.out gr.size
            have YN : Hid (Byt w' a0 (rp n0 48)) := yn
            have GN : Hid (g'.ownBlock = (Value.slice a0 n0 k0).ownBlock ∨ ∃ b, g'.ownBlock = some b ∧ W ≤ b) := gn
            clear OA BA SA ZA YA OA1 BK BL WA own' gr h4 yn gn hgq hg
            go_wp2
            refine ⟨⟨g', _, _, _, _, _, _, _, _, _, _, _, ⟨k + 1, by omega, ?_, on.out, YN.out, GN.out, o1n.out, bkn.out, beln.out, wn.out⟩, rfl⟩, by simp [intOf]; omega⟩
            go_num
          · have hk2 : k = 20 := by omega
            subst hk2
            clear hlt
            obtain ⟨ga, gc, rfl, _, _, _⟩ := og.open
            rw [rp_len] at og hg hgq ⊢
            have be : Below wr.heap.size wr (wr.alloc (.cells #[.slice ga (n0 + 20) gc] 22)) := (Below.refl _ _).alloc (Nat.le_refl _) _
            have RA : Hid ((wr.alloc (.cells #[.slice ga (n0 + 20) gc] 22)).ownsRow base 22 1 (.slice none 0 0) 0 []) := World.ownsRow_nil _ _ _ _
            have CA : Hid ((wr.alloc (.cells #[.slice ga (n0 + 20) gc] 22)).cell? ⟨wr.heap.size, 0, none⟩ = some (.slice ga (n0 + 20) gc)) := (cell_of_row _ wr.heap.size 0 _ _ _ (heap_alloc_new _ _)).trans rfl
            have ZA : Hid (base ≤ (wr.alloc (.cells #[.slice ga (n0 + 20) gc] 22)).heap.size) := (by have := bel.size; simp; omega : _ ≤ _)
            have OA : Hid (OwnB (wr.alloc (.cells #[.slice ga (n0 + 20) gc] 22)) base (.slice ga (n0 + 20) gc) (rp (n0 + 20) 48)) := og.below be
            have YA : Hid (Byt (wr.alloc (.cells #[.slice ga (n0 + 20) gc] 22)) a0 (rp n0 48)) := byt_below y0 be
            have OA1 : Hid (OwnB (wr.alloc (.cells #[.slice ga (n0 + 20) gc] 22)) base (.slice a1 n1 k1) (rp n1 49)) := o1.below be
            have BK : Hid (Bk (wr.alloc (.cells #[.slice ga (n0 + 20) gc] 22)) q B cB qo (.slice a0 n0 k0) (.slice a1 n1 k1)) := bk.below be
            have BL : Hid (Below base w (wr.alloc (.cells #[.slice ga (n0 + 20) gc] 22))) := bel.alloc (by have := bel.size; omega) _
            have WA : Hid (W < (wr.alloc (.cells #[.slice ga (n0 + 20) gc] 22)).heap.size) := (by simp; omega : _ < _)
            clear og y0 o1 bk bel be
            go_wp2_with (first | (at_builtin; refine wpList_appS rfl (.tmp 73) (.tmp 75) rfl base (.slice none 0 0) 0 [] rfl RA.out ⟨wr.heap.size, 0, none⟩ (.slice ga (n0 + 20) gc) rfl CA.out rfl (by decide) ZA.out ?_) | fail)
            intro all' w' rows' gr hblk
            have nn : (Value.slice none 0 0).ownBlock = none := rfl
            rw [nn] at gr hblk
            have bn : Below (wr.alloc (.cells #[.slice ga (n0 + 20) gc] 22)).heap.size (wr.alloc (.cells #[.slice ga (n0 + 20) gc] 22)) w' := (Below.refl _ _).grown gr (Nat.le_refl _) (fun b hb => by cases hb)
            have ST : Hid (St1 w' base q B (.slice a0 n0 k0) (.slice a1 n1 k1) a0 n0 n1 all') := ⟨_, OA.out.below bn, byt_below YA.out bn, OA1.out.below bn, rows', (fun b hb => by
                rcases hblk with e | e
                · rw [e] at hb; cases hb
                · rw [e] at hb
                  simp only [Option.some.injEq] at hb
                  have wa := WA.out
                  refine ⟨by omega, by omega, fun h => ?_, fun h => ?_, fun h => ?_⟩
                  · have := l0 b h; omega
                  · have := l1 b h; omega
                  · have := (World.ownsRow.lt OA.out b h).2; simp at this; omega), (fun b hb => ⟨fun e => hgq.1 (by rw [hb, e]), fun e => hgq.2.1 (by rw [hb, e]), fun e => hgq.2.2 b e hb⟩)⟩
            have bkn : Hid (Bk w' q B cB qo (.slice a0 n0 k0) (.slice a1 n1 k1)) := BK.out.below bn
            have beln : Hid (Below base w w') := BL.out.trans (bn.mono ZA.out)
            have zn : Hid (base ≤ w'.heap.size) := Nat.le_trans ZA.out bn.size
            clear RA CA ZA OA YA OA1 BK BL WA rows' gr hblk bn hgq hg nn
            go_wp2
            exact ⟨⟨all', _, _, _, _, _, _, _, _, _, _, _, _, _, _, _, _, _, _, _, _, _, _, _, _, _, _, _, _, _, _, _, _, _, ⟨1, by omega, rfl, bkn.out, beln.out, zn.out, fun h => by omega, fun _ => ST.out, fun h => by omega⟩, rfl⟩, by simp [intOf]⟩
      by_cases hm1 : m = 1
      · subst hm1
        obtain ⟨G0, oG, y0, o1, rows, t1, t2⟩ := st1 rfl
        clear st0 st1 st2
        have y1 : Hid (Byt wr a1 (rp n1 49)) := (by obtain ⟨x1, x2, x3, _, x5, _⟩ := o1.open; rw [rp_len] at x3; cases x3; exact x5)
        have hv : ∀ b off, 0 < n1 → a1 = some ⟨b, off, none⟩ → (Value.slice a1 n1 k1).ownBlock = some b ∧ off = 0 ∧ b < W := fun b off hn e => by
          obtain ⟨g, c, ev, _, _, _, hgl⟩ := o1.open1 (by rw [rp_len]; omega)
          rw [rp_len, e] at ev
          cases ev
          exact ⟨by rw [e]; rfl, rfl, by omega⟩
        have l0 : ∀ b off, 0 < (rp n0 48).length → a0 = some ⟨b, off, none⟩ → (Value.slice a0 n0 k0).ownBlock = some b ∧ b < W := fun b off hn e => by
          obtain ⟨g, ev⟩ := V0st (by rw [rp_len] at hn; exact hn)
          rw [e] at ev
          cases ev
          rcases y0 with h | ⟨b2, off2, e2, hc⟩
          · rw [h] at hn; simp at hn
          · rw [e] at e2
            cases e2
            have := block_lt_of_cell (hc 0 hn)
            exact ⟨by rw [e]; rfl, by simp at this; omega⟩
        have l1 : ∀ b, (Value.slice a1 n1 k1).ownBlock = some b → b < W := fun b hb => by have := (World.ownsRow.lt o1 b hb).2; omega
        have lG : ∀ b, G0.ownBlock = some b → b < W := fun b hb => by have := (World.ownsRow.lt oG b hb).2; omega
        have lA : ∀ b, u5.ownBlock = some b → b < W := fun b hb => by have := (World.ownsRow.lt rows b hb).2; omega
        have O1 : Hid (OwnB wr base (.slice a1 n1 k1) (rp n1 49)) := o1
        have OG : Hid (OwnB wr base G0 (rp (n0 + 20) 48)) := oG
        have Y0 : Hid (Byt wr a0 (rp n0 48)) := y0
        have RW : Hid (wr.ownsRow base 22 1 u5 1 [G0]) := rows
        clear o1 oG y0 rows
        go_wp2
        go_loopw [7, 8] (fun g kk wx => ∃ k : Nat, k ≤ 20 ∧ kk = .int .i64 k ∧ OwnB wx base g (rp (n1 + k) 49) ∧ Byt wx a1 (rp n1 49) ∧ (g.ownBlock = (Value.slice a1 n1 k1).ownBlock ∨ ∃ b, g.ownBlock = some b ∧ W ≤ b) ∧ Byt wx a0 (rp n0 48) ∧ OwnB wx base G0 (rp (n0 + 20) 48) ∧ wx.ownsRow base 22 1 u5 1 [G0] ∧ Bk wx q B cB qo (.slice a0 n0 k0) (.slice a1 n1 k1) ∧ Below base w wx ∧ W ≤ wx.heap.size) (fun _ kk _ => 20 - (intOf kk).toNat)
        case atStart => exact ⟨0, by omega, rfl, O1.out, y1.out, .inl rfl, Y0.out, OG.out, RW.out, HB.out, bel, hW2⟩
        case round =>
          clear e0 e1 e2 e3 HB bel O1 OG Y0 RW y1
          obtain ⟨k, hk, rfl, og, y1, hg, y0, oG, rows, bk, bel, hWx⟩ := hrel
          have hgq : u7.ownBlock ≠ some q ∧ u7.ownBlock ≠ some B ∧ (∀ b, G0.ownBlock = some b → u7.ownBlock ≠ some b) ∧ (∀ b, u5.ownBlock = some b → u7.ownBlock ≠ some b) ∧ (0 < (rp n0 48).length → ∀ b off, a0 = some ⟨b, off, none⟩ → u7.ownBlock ≠ some b) := by
            rcases hg with e | ⟨b, e, hb⟩
            · rw [e]
              exact ⟨fun h => (s1 q h).1 rfl, fun h => (s1 B h).2.1 rfl, fun b hb h => (t2 b hb).2.2 h, fun b hb h => (t1 b hb).2.2.2.1 h, fun hn b off ea h => (s1 b h).2.2 (l0 b off hn ea).1⟩
            · rw [e]
              exact ⟨fun h => by simp at h; omega, fun h => by simp at h; omega, fun b2 hb2 h => by have := lG b2 hb2; simp at h; omega, fun b2 hb2 h => by have := lA b2 hb2; simp at h; omega, fun hn b2 off ea h => by have := (l0 b2 off hn ea).2; simp at h; omega⟩
          by_cases hlt : k < 20
          · have hlt' : (k : Int) < 20 := by omega
            have be : Below wr.heap.size wr (wr.alloc (.cells (bs [49]) 5)) := (Below.refl _ _).alloc (Nat.le_refl _) _
            have OA : Hid (OwnB (wr.alloc (.cells #[.int .u8 49] 5)) base u7 (rp (n1 + k) 49)) := og.below be
            have BA : Hid (Byt (wr.alloc (.cells #[.int .u8 49] 5)) (some ⟨wr.heap.size, 0, none⟩) [49]) := byt_lit wr [49] 5
            have SA : Hid ((rp (n1 + k) 49).length + ([49] : List UInt8).length ≤ 140737488355328) := (by rw [rp_len]; simp; omega : _ ≤ _)
            have ZA : Hid (base ≤ (wr.alloc (.cells #[.int .u8 49] 5)).heap.size) := (by have := bel.size; simp; omega : _ ≤ _)
            have YA : Hid (Byt (wr.alloc (.cells #[.int .u8 49] 5)) a1 (rp n1 49)) := byt_below y1 be
            have YB : Hid (Byt (wr.alloc (.cells #[.int .u8 49] 5)) a0 (rp n0 48)) := byt_below y0 be
            have OG : Hid (OwnB (wr.alloc (.cells #[.int .u8 49] 5)) base G0 (rp (n0 + 20) 48)) := oG.below be
            have RW : Hid ((wr.alloc (.cells #[.int .u8 49] 5)).ownsRow base 22 1 u5 1 [G0]) := World.ownsRow.kept rows (World.grownBy_alloc wr _ none) (by cases hx : u5.ownBlock <;> simp)
            have BK : Hid (Bk (wr.alloc (.cells #[.int .u8 49] 5)) q B cB qo (.slice a0 n0 k0) (.slice a1 n1 k1)) := bk.below be
            have BL : Hid (Below base w (wr.alloc (.cells #[.int .u8 49] 5))) := bel.alloc (by have := bel.size; omega) _
            have WA : Hid (W ≤ (wr.alloc (.cells #[.int .u8 49] 5)).heap.size) := (by simp; omega : _ ≤ _)
            clear og y0 y1 oG rows bk bel be
            go_wp2_with (first | (at_builtin; refine wpList_app3 rfl (.tmp 67) (.tmp 71) rfl base u7 (rp (n1 + k) 49) rfl OA.out ⟨wr.heap.size, 0, none⟩ 1 1 [49] rfl rfl BA.out SA.out ZA.out (by decide) ?_) | fail)
            intro g' w' own' gr h4
            obtain ⟨yn, gn⟩ := grow_step (cap := k1) WA.out YA.out hv own' gr (by rw [show (wr.alloc (.cells #[.int .u8 49] 5)).heap.size = wr.heap.size + 1 by simp]; exact h4) hg
            have on : Hid (OwnB w' base g' (rp (n1 + (k + 1)) 49)) := (by show OwnB _ _ _ _; rw [← Nat.add_assoc, ← rp_succ]; exact own')
            have oGn : Hid (OwnB w' base G0 (rp (n0 + 20) 48)) := World.ownsRow.kept OG.out gr (by
              cases hx : G0.ownBlock with
              | none => exact .inl rfl
              | some b => exact .inr (fun e => hgq.2.2.1 b hx e.symm))
            have rwn : Hid (w'.ownsRow base 22 1 u5 1 [G0]) := World.ownsRow.kept RW.out gr (by
              cases hx : u5.ownBlock with
              | none => exact .inl rfl
              | some b => exact .inr (fun e => hgq.2.2.2.1 b hx e.symm))
            have y0n : Hid (Byt w' a0 (rp n0 48)) := byt_grown YB.out gr (fun hn b off ea e => hgq.2.2.2.2 hn b off ea e.symm)
            have bkn : Hid (Bk w' q B cB qo (.slice a0 n0 k0) (.slice a1 n1 k1)) := BK.out.grown gr hgq.1 hgq.2.1
            have beln : Hid (Below base w w') := BL.out.grown gr ZA.out (fun b hb => (World.ownsRow.lt OA.out b hb).1)
            have wn : Hid (W ≤ w'.heap.size) := Nat.le_trans WA.out gr.size
            have YN : Hid (Byt w' a1 (rp n1 49)) := yn
            have GN : Hid (g'.ownBlock = (Value.slice a1 n1 k1).ownBlock ∨ ∃ b, g'.ownBlock = some b ∧ W ≤ b) := gn
            clear OA BA SA ZA YA YB OG RW BK BL WA own' gr h4 yn gn hgq hg
            go_wp2
            refine ⟨⟨g', _, _, _, _, _, _, _, _, _, _, _, ⟨k + 1, by omega, ?_, on.out, YN.out, GN.out, y0n.out, oGn.out, rwn.out, bkn.out, beln.out, wn.out⟩, rfl⟩, by simp [intOf]; omega⟩
            go_num
          · have hk2 : k = 20 := by omega
            subst hk2
            clear hlt
            obtain ⟨ga, gc, rfl, _, _, _⟩ := og.open
            rw [rp_len] at og hg hgq ⊢
            have be : Below wr.heap.size wr (wr.alloc (.cells #[.slice ga (n1 + 20) gc] 22)) := (Below.refl _ _).alloc (Nat.le_refl _) _
            have CA : Hid ((wr.alloc (.cells #[.slice ga (n1 + 20) gc] 22)).cell? ⟨wr.heap.size, 0, none⟩ = some (.slice ga (n1 + 20) gc)) := (cell_of_row _ wr.heap.size 0 _ _ _ (heap_alloc_new _ _)).trans rfl
            have ZA : Hid (base ≤ (wr.alloc (.cells #[.slice ga (n1 + 20) gc] 22)).heap.size) := (by have := bel.size; simp; omega : _ ≤ _)
            have OA : Hid (OwnB (wr.alloc (.cells #[.slice ga (n1 + 20) gc] 22)) base (.slice ga (n1 + 20) gc) (rp (n1 + 20) 49)) := og.below be
            have YA : Hid (Byt (wr.alloc (.cells #[.slice ga (n1 + 20) gc] 22)) a1 (rp n1 49)) := byt_below y1 be
            have YB : Hid (Byt (wr.alloc (.cells #[.slice ga (n1 + 20) gc] 22)) a0 (rp n0 48)) := byt_below y0 be
            have OG : Hid (OwnB (wr.alloc (.cells #[.slice ga (n1 + 20) gc] 22)) base G0 (rp (n0 + 20) 48)) := oG.below be
            have RW : Hid ((wr.alloc (.cells #[.slice ga (n1 + 20) gc] 22)).ownsRow base 22 1 u5 1 [G0]) := World.ownsRow.kept rows (World.grownBy_alloc wr _ none) (by cases hx : u5.ownBlock <;> simp)
            have BK : Hid (Bk (wr.alloc (.cells #[.slice ga (n1 + 20) gc] 22)) q B cB qo (.slice a0 n0 k0) (.slice a1 n1 k1)) := bk.below be
            have BL : Hid (Below base w (wr.alloc (.cells #[.slice ga (n1 + 20) gc] 22))) := bel.alloc (by have := bel.size; omega) _
            clear og y0 y1 oG rows bk bel be
            go_wp2_with (first | (at_builtin; refine wpList_appS rfl (.tmp 73) (.tmp 75) rfl base u5 1 [G0] rfl RW.out ⟨wr.heap.size, 0, none⟩ (.slice ga (n1 + 20) gc) rfl CA.out rfl (by decide) ZA.out ?_) | fail)
            intro all' w' rows' gr hblk
            have ST : Hid (St2 w' base a0 a1 n0 n1 all') := ⟨G0, _, World.ownsRow.kept OG.out gr (by
                cases hx : G0.ownBlock with
                | none => exact .inl rfl
                | some b => exact .inr (fun e => (t1 b e.symm).2.2.2.2 hx)), World.ownsRow.kept OA.out gr (by
                cases hx : (Value.slice ga (n1 + 20) gc).ownBlock with
                | none => exact .inl rfl
                | some b => exact .inr (fun e => hgq.2.2.2.1 b e.symm hx)), byt_grown YB.out gr (fun hn b off ea e => (t1 b e.symm).2.2.1 (l0 b off hn ea).1), byt_grown YA.out gr (fun hn b off ea e => (t1 b e.symm).2.2.2.1 (hv b off (by rw [rp_len] at hn; exact hn) ea).1), rows'⟩
            have bkn : Hid (Bk w' q B cB qo (.slice a0 n0 k0) (.slice a1 n1 k1)) := BK.out.grown gr (fun e => (t1 q e).1 rfl) (fun e => (t1 B e).2.1 rfl)
            have beln : Hid (Below base w w') := BL.out.grown gr ZA.out (fun b hb => (World.ownsRow.lt RW.out b hb).1)
            have zn : Hid (base ≤ w'.heap.size) := Nat.le_trans ZA.out gr.size
            clear CA ZA OA YA YB OG RW BK BL rows' gr hblk hgq hg
            go_wp2
            exact ⟨⟨all', _, _, _, _, _, _, _, _, _, _, _, _, _, _, _, _, _, _, _, _, _, _, _, _, _, _, _, _, _, _, _, _, _, ⟨2, by omega, rfl, bkn.out, beln.out, zn.out, fun h => by omega, fun h => by omega, fun _ => ST.out⟩, rfl⟩, by simp [intOf]⟩
      have hm2 : m = 2 := by omega
      subst hm2
      obtain ⟨G0, G1, oG0, oG1, y0, y1, rows⟩ := st2 rfl
      clear st0 st1 st2 hm0 hm1
      obtain ⟨A, cA, rfl, c0, c1⟩ : ∃ A cA, u5 = .slice (some ⟨A, 0, none⟩) 2 cA ∧ wr.cell? ⟨A, 0, none⟩ = some G0 ∧ wr.cell? ⟨A, 1, none⟩ = some G1 := by
        have hc := fun g hg => World.ownsRow.cells rows (g := g) hg
        rcases rows.2 with ⟨_, hn⟩ | ⟨g, cap, cur, rfl, _⟩
        · omega
        · exact ⟨g, cap, rfl, by simpa [Addr.add] using hc g rfl 0 G0 rfl, by simpa [Addr.add] using hc g rfl 1 G1 rfl⟩
      obtain ⟨b0, bc0, rfl, _, z0, _⟩ := oG0.open
      obtain ⟨b1, bc1, rfl, _, z1, _⟩ := oG1.open
      rw [rp_len] at c0 c1
      have HQ : Hid (wr.heap[q]? = qo) := e3
      clear oG0 oG1 rows HB hW1 hW2 lq lB e3
      go_wp2
      go_loopw [9] (fun i wx => ∃ m : Nat, m ≤ 2 ∧ i = .int .i64 m ∧ wx = wr) (fun i _ => 2 - (intOf i).toNat)
      case atStart => exact ⟨0, by omega, rfl, rfl⟩
      case round =>
        obtain ⟨m, hm, rfl, rfl⟩ := hrel
        by_cases hm0 : m = 0
        · subst hm0
          go_wp2
          go_loopw [10] (fun kk wx => ∃ k : Nat, k ≤ n0 + 20 ∧ kk = .int .i64 k ∧ wx = wr) (fun kk _ => n0 + 20 - (intOf kk).toNat)
          case atStart => exact ⟨0, by omega, rfl, rfl⟩
          case round =>
            obtain ⟨k, hk, rfl, rfl⟩ := hrel
            by_cases hlt : k < n0 + 20
            · have hlt' : (k : Int) < ((n0 + 20 : Nat) : Int) := by omega
              rcases z0 with h0 | ⟨bb, bo, rfl, hc⟩
              · exact absurd (congrArg List.length h0) (by rw [rp_len]; simp)
              have ck := hc k (by rw [rp_len]; omega)
              rw [at8_rp _ _ _ hlt] at ck
              clear hc
              go_wp2
              exact ⟨⟨k + 1, by omega, by go_num, trivial⟩, by simp [intOf]; omega⟩
            · have hk2 : k = n0 + 20 := by omega
              subst hk2
              clear hlt
              go_wp2
              go_loopw [12] (fun kk wx => ∃ k : Nat, k ≤ n0 ∧ kk = .int .i64 k ∧ wx = wr) (fun kk _ => n0 - (intOf kk).toNat)
              case atStart => exact ⟨0, by omega, rfl, rfl⟩
              case round =>
                obtain ⟨k, hk, rfl, rfl⟩ := hrel
                by_cases hlt : k < n0
                · have hlt' : (k : Int) < ((n0 : Nat) : Int) := by omega
                  rcases y0 with h0 | ⟨bb, bo, rfl, hc⟩
                  · exact absurd (congrArg List.length h0) (by rw [rp_len]; simp; omega)
                  have ck := hc k (by rw [rp_len]; omega)
                  rw [at8_rp _ _ _ hlt] at ck
                  clear hc
                  go_wp2
                  exact ⟨⟨k + 1, by omega, by go_num, trivial⟩, by simp [intOf]; omega⟩
                · have hk2 : k = n0 := by omega
                  subst hk2
                  clear hlt
                  go_wp2
                  exact ⟨⟨1, by omega, by go_num, trivial⟩, by simp [intOf]⟩
        by_cases hm1 : m = 1
        · subst hm1
          go_wp2
          go_loopw [10] (fun kk wx => ∃ k : Nat, k ≤ n1 + 20 ∧ kk = .int .i64 k ∧ wx = wr) (fun kk _ => n1 + 20 - (intOf kk).toNat)
          case atStart => exact ⟨0, by omega, rfl, rfl⟩
          case round =>
            obtain ⟨k, hk, rfl, rfl⟩ := hrel
            by_cases hlt : k < n1 + 20
            · have hlt' : (k : Int) < ((n1 + 20 : Nat) : Int) := by omega
              rcases z1 with h0 | ⟨bb, bo, rfl, hc⟩
              · exact absurd (congrArg List.length h0) (by rw [rp_len]; simp)
              have ck := hc k (by rw [rp_len]; omega)
              rw [at8_rp _ _ _ hlt] at ck
              clear hc
              go_wp2
              exact ⟨⟨k + 1, by omega, by go_num, trivial⟩, by simp [intOf]; omega⟩
            · have hk2 : k = n1 + 20 := by omega
              subst hk2
              clear hlt
              go_wp2
              go_loopw [12] (fun kk wx => ∃ k : Nat, k ≤ n1 ∧ kk = .int .i64 k ∧ wx = wr) (fun kk _ => n1 - (intOf kk).toNat)
              case atStart => exact ⟨0, by omega, rfl, rfl⟩
              case round =>
                obtain ⟨k, hk, rfl, rfl⟩ := hrel
                by_cases hlt : k < n1
                · have hlt' : (k : Int) < ((n1 : Nat) : Int) := by omega
                  rcases y1 with h0 | ⟨bb, bo, rfl, hc⟩
                  · exact absurd (congrArg List.length h0) (by rw [rp_len]; simp; omega)
                  have ck := hc k (by rw [rp_len]; omega)
                  rw [at8_rp _ _ _ hlt] at ck
                  clear hc
                  go_wp2
                  exact ⟨⟨k + 1, by omega, by go_num, trivial⟩, by simp [intOf]; omega⟩
                · have hk2 : k = n1 := by omega
                  subst hk2
                  clear hlt
                  go_wp2
                  exact ⟨⟨2, by omega, by go_num, trivial⟩, by simp [intOf]⟩
        have hm2 : m = 2 := by omega
        subst hm2
        go_wp2
        go_ret
        exact ⟨rfl, bel, HQ.out⟩
end Go.Proofs.YtcpkdaebeopmaaaDoor
