import Derived.Test.YtdnocpngdepbgaaGreatDoorBka
namespace Go.Proofs.YtdnocpngdepbgaaGreatDoor.K
open Go.RowKit
set_option linter.unusedVariables false
set_option linter.unusedSimpArgs false

theorem mrk_val (m : Nat) : (48 + (m : Int)) % 256 = ((mrk m).toNat : Int) := by
  unfold mrk
  rw [UInt8.toNat_ofNat']
  omega
def mF (V : Nat → Lst) (L : Nat → List UInt8) (m : Nat) : Nat → List UInt8 := fun i => if i < m then rp (V i).n (mrk i) else L i
theorem mF_start (V : Nat → Lst) (L : Nat → List UInt8) (m : Nat) : upF (mF V L m) m (fill 0 (mrk m) (L m)) = mF V L m := by
  funext i
  unfold upF mF
  by_cases e : i = m
  · subst e; rw [if_pos rfl, fill_zero, if_neg (by omega)]
  · rw [if_neg e]
theorem mF_step (V : Nat → Lst) (L : Nat → List UInt8) (m k : Nat) (h : k < (L m).length) : upF (upF (mF V L m) m (fill k (mrk m) (L m))) m ((upF (mF V L m) m (fill k (mrk m) (L m)) m).set k (mrk m)) = upF (mF V L m) m (fill (k + 1) (mrk m) (L m)) := by
  funext i
  unfold upF
  by_cases e : i = m
  · subst e; rw [if_pos rfl, if_pos rfl, if_pos rfl, fill_succ _ _ _ h]
  · rw [if_neg e, if_neg e, if_neg e]
theorem mF_end (V : Nat → Lst) (L : Nat → List UInt8) (m : Nat) (h : (L m).length = (V m).n) : upF (mF V L m) m (fill (L m).length (mrk m) (L m)) = mF V L (m + 1) := by
  funext i
  unfold upF mF
  by_cases e : i = m
  · subst e; rw [if_pos rfl, fill_all, if_pos (by omega), h]; rfl
  · rw [if_neg e]
    by_cases e2 : i < m
    · rw [if_pos e2, if_pos (by omega)]
    · rw [if_neg e2, if_neg (by omega)]
theorem Ph2.weak {w0 w : World} {base q B cB N : Nat} {qo : Option Obj} {V : Nat → Lst} {tz tg : Nat → Nat} {lo m : Nat} {G : Nat → Value} {all : Value} (h : Ph2 w0 w base q B cB N qo V tz tg lo m G all) (lo' : Nat) (hl : lo ≤ lo') : Ph2 w0 w base q B cB N qo V tz tg lo' m G all :=
  ⟨h.bk, h.tq, h.tB, h.rd, fun i h1 h2 => h.ow i (by omega) h2, h.gs, h.al, h.be, h.zb, h.z0, h.fr⟩
theorem ph2_start {w0 w : World} {base q B cB N : Nat} {qo : Option Obj} {V : Nat → Lst} {tg : Nat → Nat} {L : Nat → List UInt8} (h : Ph1 w0 w base q B cB N qo V tg (mF V L N)) (hb : base ≤ w.heap.size) (hz0 : w0.heap.size ≤ w.heap.size) : Ph2 w0 w base q B cB N qo V tg tg 0 0 (fun _ => .slice none 0 0) (.slice none 0 0) := by
  have key : ∀ i, i < N → OwnB w base (V i).v (rp (V i).n (mrk i)) := fun i hi => by
    have := (h.ow i hi).1
    unfold mF at this
    rwa [if_pos hi] at this
  refine ⟨h.bk, h.tq, h.tB, fun i hi => ⟨?_, (h.ow i hi).2.1, fun b e => (World.ownsRow.lt (key i hi) b e).2⟩, fun i _ hi => key i hi, fun i hi => by omega, ⟨World.ownsRow_nil _ _ _ _, fun b e => by cases e⟩, h.be, hb, hz0, fun k hk ht => ⟨ht, h.fr k hk ht⟩⟩
  obtain ⟨x1, x2, x3, _, x5, _⟩ := (key i hi).open
  simp only [Lst.v, Value.slice.injEq] at x3
  rw [x3.1]
  exact x5
/-- A list while it is grown. -/
def Gr (w : World) (base W : Nat) (tg : Nat → Nat) (m n0 k0 k : Nat) (a0 : Option Addr) (g : Value) : Prop :=
  OwnB w base g (rp (n0 + k) (mrk m)) ∧ Tg tg g (m + 1) ∧ (g.ownBlock = (Value.slice a0 n0 k0).ownBlock ∨ ∃ b, g.ownBlock = some b ∧ W ≤ b) ∧ W ≤ w.heap.size
set_option maxRecDepth 100000 in
set_option maxHeartbeats 4000000 in
theorem aloneBytes_any (q B cB base N : Nat) (qo : Option Obj) (V : Nat → Lst) (L : Nat → List UInt8) (tz : Nat → Nat) (w : World) (hN1 : 1 ≤ N) (hN : N ≤ 4398046510976) (hn : ∀ i, i < N → (V i).n ≤ 140737488351232)
    (h : Ph1 w w base q B cB N qo V tz L) (hbase : base ≤ w.heap.size) :
    Calls Tryz.prog 57 #[.pointer (some ⟨q, 0, none⟩)] w fun e w' => e = .returned (.bool true) ∧ Below base w w' ∧ w'.heap[q]? = qo ∧ ∀ k, k < w.heap.size → tz k = 0 → w'.heap[k]? = w.heap[k]? := by
  have HP0 := Hid.mk' h
  have HL : Hid (∀ i, i < N → (L i).length = (V i).n) := fun i hi => (h.ow i hi).2.2
  clear h
  go_enter Tryz.func57, Tryz.ntmps57
  go_wp2
  go_loopw [3] (fun i wr => ∃ m : Nat, m ≤ N ∧ i = .int .i64 m ∧ Hid (Ph1 w wr base q B cB N qo V tz (mF V L m))) (fun i _ => N - (intOf i).toNat)
  case atStart => exact ⟨0, by omega, rfl, by show Ph1 _ _ _ _ _ _ _ _ _ _ _; have : mF V L 0 = L := by (funext i; unfold mF; rw [if_neg (by omega)])
                                              rw [this]; exact HP0.out⟩
  case round =>
    clear HP0
    obtain ⟨m, hm, rfl, HP⟩ := hrel
    by_cases hlt : m < N
    · have hlt' : (m : Int) < (N : Int) := by omega
      obtain ⟨l, hl⟩ : ∃ l, V m = l := ⟨_, rfl⟩
      obtain ⟨a0, n0, k0⟩ := l
      have hnm : n0 ≤ 140737488351232 := by have := hn m hlt; rw [hl] at this; exact this
      have hLm : (L m).length = n0 := by have := HL.out m hlt; rw [hl] at this; exact this
      have HS : Hid (Ph1 w wr base q B cB N qo V tz (upF (mF V L m) m (fill 0 (mrk m) (L m)))) := by show Ph1 _ _ _ _ _ _ _ _ _ _ _; rw [mF_start]; exact HP.out
      have HM := Hid.mk' (mrk_val m)
      have HV := Hid.mk' hl
      have cq := HP.out.bk.cq
      clear HP hl
      go_wp2
      go_loopw [4] (fun kk wx => ∃ k : Nat, k ≤ n0 ∧ kk = .int .i64 k ∧ Hid (Ph1 w wx base q B cB N qo V tz (upF (mF V L m) m (fill k (mrk m) (L m))))) (fun kk _ => n0 - (intOf kk).toNat)
      case atStart => exact ⟨0, by omega, rfl, HS⟩
      case round =>
        clear HS cq
        obtain ⟨k, hk, rfl, HP⟩ := hrel
        have cq := HP.out.bk.cq
        have cm : wr.cell? ⟨B, m, none⟩ = some (.slice a0 n0 k0) := by have := HP.out.bk.cr m hlt; rw [HV.out] at this; exact this
        by_cases hkn : k < n0
        · have hkn' : (k : Int) < (n0 : Int) := by omega
          have oo := (HP.out.ow m hlt).1
          have fl : (upF (mF V L m) m (fill k (mrk m) (L m)) m).length = n0 := by unfold upF; rw [if_pos rfl, fill_len _ _ _ (by omega)]; omega
          obtain ⟨g, cv, ev, hcv, hcl, hg1, hg2⟩ := oo.open1 (by omega)
          rw [HV.out] at ev oo
          simp only [Lst.v, Value.slice.injEq] at ev
          obtain ⟨rfl, _, rfl⟩ := ev
          obtain ⟨dc, df⟩ := own_cell (r := k) oo (by omega)
          have hx : (mrk m).toNat < 256 := (mrk m).toNat_lt
          have NX : Hid (Ph1 w (wr.setCell ⟨g, k, none⟩ (.int .u8 ((mrk m).toNat : Int))) base q B cB N qo V tz (upF (mF V L m) m (fill (k + 1) (mrk m) (L m)))) := by
            show Ph1 _ _ _ _ _ _ _ _ _ _ _
            rw [← mF_step V L m k (by omega)]
            exact HP.out.set m k g (mrk m) hlt (by omega) (by rw [HV.out]) hg1
          rw [← HM.out] at NX
          clear oo hcl HP fl
          go_wp2
          exact ⟨⟨k + 1, by omega, by go_num, NX⟩, by simp [intOf]; omega⟩
        · obtain rfl : k = n0 := by omega
          have NX : Hid (Ph1 w wr base q B cB N qo V tz (mF V L (m + 1))) := by
            show Ph1 _ _ _ _ _ _ _ _ _ _ _
            rw [← mF_end V L m (by rw [HV.out]; exact hLm), hLm]
            exact HP.out
          clear HP
          go_wp2
          exact ⟨⟨m + 1, by omega, by go_num, NX⟩, by simp [intOf]; omega⟩
    · obtain rfl : m = N := by omega
      have zb : base ≤ wr.heap.size := Nat.le_trans hbase HP.out.be.size
      have hz00 : w.heap.size ≤ wr.heap.size := HP.out.be.size
      have HQ : Hid (∃ tg G, Ph2 w wr base q B cB m qo V tz tg 0 0 G (.slice none 0 0)) := ⟨_, _, ph2_start HP.out zb hz00⟩
      have cq := HP.out.bk.cq
      clear HP HL zb
      go_wp2
      clear cq
      go_loopw [5, 6] (fun all i wr => ∃ j : Nat, j ≤ m ∧ i = .int .i64 j ∧ Hid (∃ tg G, Ph2 w wr base q B cB m qo V tz tg j j G all)) (fun _ i _ => m - (intOf i).toNat)
      case atStart => exact ⟨0, by omega, rfl, HQ⟩
      case round =>
        clear HQ
        obtain ⟨j, hj, rfl, HP⟩ := hrel
        by_cases hjm : j < m
        · have hjm' : (j : Int) < (m : Int) := by omega
          obtain ⟨tg1, G, hP⟩ := HP.out
          obtain ⟨l, hl⟩ : ∃ l, V j = l := ⟨_, rfl⟩
          obtain ⟨a0, n0, k0⟩ := l
          have hnm : n0 ≤ 140737488351232 := by have := hn j hjm; rw [hl] at this; exact this
          have HM := Hid.mk' (mrk_val j)
          have HV := Hid.mk' hl
          have oo : OwnB wr base (.slice a0 n0 k0) (rp n0 (mrk j)) := by have := hP.ow j (Nat.le_refl _) hjm; rw [hl] at this; exact this
          have to : Tg tg1 (.slice a0 n0 k0) (j + 1) := by have := (hP.rd j hjm).2.1; rw [hl] at this; exact this
          obtain ⟨W, hW1, hW2⟩ : ∃ W, wr.heap.size ≤ W ∧ W ≤ wr.heap.size := ⟨_, Nat.le_refl _, Nat.le_refl _⟩
          have hv : Hid (∀ b off, 0 < n0 → a0 = some ⟨b, off, none⟩ → (Value.slice a0 n0 k0).ownBlock = some b ∧ off = 0 ∧ b < W) := fun b off hn e => by
            obtain ⟨g, c, ev, _, _, _, hgl⟩ := oo.open1 (by rw [rp_len]; omega)
            rw [rp_len, e] at ev
            cases ev
            exact ⟨by rw [e]; rfl, rfl, by omega⟩
          have HI : Hid (∃ tg, Ph2 w wr base q B cB m qo V tz tg (j + 1) j G u5 ∧ Gr wr base W tg j n0 k0 0 a0 (.slice a0 n0 k0)) := ⟨tg1, hP.weak _ (by omega), oo, to, .inl rfl, hW2⟩
          have cq := hP.bk.cq
          have cm : wr.cell? ⟨B, j, none⟩ = some (.slice a0 n0 k0) := by have := hP.bk.cr j hjm; rw [hl] at this; exact this
          clear oo to hP HP hl hW1 hW2
          go_wp2
          clear cq cm
          go_loopw [7, 8] (fun g kk wx => ∃ k : Nat, k ≤ 20 ∧ kk = .int .i64 k ∧ Hid (∃ tg, Ph2 w wx base q B cB m qo V tz tg (j + 1) j G u5 ∧ Gr wx base W tg j n0 k0 k a0 g)) (fun _ kk _ => 20 - (intOf kk).toNat)
          case atStart => exact ⟨0, by omega, rfl, HI⟩
          case round =>
            clear HI
            obtain ⟨k, hk, rfl, HI⟩ := hrel
            obtain ⟨tg2, P, og, tgg, hg, hWx⟩ := HI.out
            by_cases hlt : k < 20
            · have hlt' : (k : Int) < 20 := by omega
              obtain ⟨wa, hwa⟩ : ∃ wa, wa = wr.alloc (.cells #[.int .u8 ((mrk j).toNat : Int)] 5) := ⟨_, rfl⟩
              have be : Below wr.heap.size wr wa := by rw [hwa]; exact (Below.refl _ _).alloc (Nat.le_refl _) _
              have OA : Hid (OwnB wa base u7 (rp (n0 + k) (mrk j))) := og.below be
              have BA : Hid (Byt wa (some ⟨wr.heap.size, 0, none⟩) [mrk j]) := by rw [hwa]; exact byt_lit wr [mrk j] 5
              have SA : Hid ((rp (n0 + k) (mrk j)).length + ([mrk j] : List UInt8).length ≤ 140737488355328) := (by rw [rp_len]; simp; omega : _ ≤ _)
              have PA : Hid (Ph2 w wa base q B cB m qo V tz tg2 (j + 1) j G u5) := P.below be
              have ZA : Hid (base ≤ wa.heap.size) := PA.out.zb
              have WA : Hid (W ≤ wa.heap.size) := Nat.le_trans hWx be.size
              have TA := Hid.mk' tgg
              have GA := Hid.mk' hg
              have SZ : Hid (wa.heap.size = wr.heap.size + 1) := by show _ = _; rw [hwa]; simp
              have H1 : Hid (0 < ([mrk j] : List UInt8).length) := by show _ < _; simp
              rw [← HM.out] at hwa
              clear og tgg hg hWx P be HI
              go_wp2_with (first | (at_builtin; refine wpList_app3 rfl (.tmp 67) (.tmp 71) rfl base u7 (rp (n0 + k) (mrk j)) rfl (by rw [← hwa]; exact OA.out) ⟨wr.heap.size, 0, none⟩ 1 1 [mrk j] rfl rfl (by rw [← hwa]; exact BA.out) SA.out (by rw [← hwa]; exact ZA.out) H1.out ?_) | fail)
              intro g' w' own' gr h4
              rw [← hwa] at gr h4
              rw [← SZ.out] at h4
              clear hwa
              have YA : Byt wa a0 (rp n0 (mrk j)) := by have := (PA.out.rd j hjm).1; rw [HV.out] at this; exact this
              obtain ⟨yn, gn⟩ := grow_step (cap := k0) WA.out YA hv.out own' gr h4 GA.out
              have hl2 : ∀ b, u7.ownBlock = some b → base ≤ b ∧ b < wa.heap.size := fun b e => World.ownsRow.lt OA.out b e
              have h5 : g'.ownBlock = u7.ownBlock ∨ g'.ownBlock = some wa.heap.size := by rcases h4 with e | ⟨e, _⟩; exact .inl e; exact .inr e
              have hrd : ∀ i, i + 1 = j + 1 → i < m → Byt w' (V i).a (rp (V i).n (mrk i)) := fun i e hi => by
                obtain rfl : i = j := by omega
                rw [HV.out]
                exact yn
              obtain ⟨P2, T2⟩ := PA.out.grow (j + 1) u7 g' (by omega) gr TA.out hl2 h5 hrd (fun i h1 _ => by omega) (fun i hi => by omega) (by omega)
              have NX : Hid (∃ tg, Ph2 w w' base q B cB m qo V tz tg (j + 1) j G u5 ∧ Gr w' base W tg j n0 k0 (k + 1) a0 g') := ⟨_, P2, by rw [← Nat.add_assoc, ← rp_succ]; exact own', T2, gn, Nat.le_trans WA.out gr.size⟩
              obtain ⟨ga, gc, rfl, _, _, _⟩ := own'.open
              clear OA BA SA PA ZA WA TA GA SZ H1 gr h4 YA yn gn hl2 h5 P2 T2 own' hrd
              go_wp2
              exact ⟨⟨k + 1, by omega, by go_num, NX⟩, by simp [intOf]; omega⟩
            · obtain rfl : k = 20 := by omega
              clear hlt
              obtain ⟨ga, gc, rfl, _, _, _⟩ := og.open
              rw [rp_len] at og tgg ⊢
              obtain ⟨wa, hwa⟩ : ∃ wa, wa = wr.alloc (.cells #[.slice ga (n0 + 20) gc] 25) := ⟨_, rfl⟩
              have be : Below wr.heap.size wr wa := by rw [hwa]; exact (Below.refl _ _).alloc (Nat.le_refl _) _
              have PA : Hid (Ph2 w wa base q B cB m qo V tz tg2 (j + 1) j G u5) := P.below be
              have OA : Hid (OwnB wa base (.slice ga (n0 + 20) gc) (rp (n0 + 20) (mrk j))) := og.below be
              have TA := Hid.mk' tgg
              have SZ : Hid (wa.heap.size = wr.heap.size + 1) := by show _ = _; rw [hwa]; simp
              have CA : Hid (wa.cell? ⟨wr.heap.size, 0, none⟩ = some (.slice ga (n0 + 20) gc)) := by show _ = _; rw [hwa]; exact (cell_of_row _ wr.heap.size 0 _ _ _ (heap_alloc_new _ _)).trans rfl
              clear og tgg hg hWx P be HI
              go_wp2_with (first | (at_builtin; refine wpList_appS rfl (.tmp 73) (.tmp 75) rfl base u5 j ((List.range j).map G) rfl (by rw [← hwa]; exact PA.out.al.1) ⟨wr.heap.size, 0, none⟩ (.slice ga (n0 + 20) gc) rfl (by rw [← hwa]; exact CA.out) rfl (by omega) (by rw [← hwa]; exact PA.out.zb) ?_) | fail)
              intro all' w' rows' gr hblk
              rw [← hwa] at gr
              rw [← SZ.out] at hblk
              clear hwa
              obtain ⟨tg3, P3⟩ := PA.out.done hjm (.slice ga (n0 + 20) gc) all' (by rw [HV.out]; exact OA.out) TA.out gr hblk rows'
              have NX : Hid (∃ tg G, Ph2 w w' base q B cB m qo V tz tg (j + 1) (j + 1) G all') := ⟨_, _, P3⟩
              obtain ⟨la, ln, lc, rfl⟩ : ∃ la ln lc, all' = .slice la ln lc := by
                rcases rows'.2 with ⟨rfl, _⟩ | ⟨g, cap, cur, rfl, _⟩ <;> exact ⟨_, _, _, rfl⟩
              clear PA OA TA CA gr hblk rows' P3
              go_wp2
              exact ⟨⟨j + 1, by omega, by go_num, NX⟩, by simp [intOf]; omega⟩
        · obtain rfl : j = m := by omega
          obtain ⟨tg1, G, hP⟩ := HP.out
          obtain ⟨A, cA, rfl, cG⟩ : ∃ A cA, u5 = .slice (some ⟨A, 0, none⟩) j cA ∧ ∀ i, i < j → wr.cell? ⟨A, i, none⟩ = some (G i) := by
            have hc := fun g hg => World.ownsRow.cells hP.al.1 (g := g) hg
            rcases hP.al.1.2 with ⟨_, hn0⟩ | ⟨g, cap, cur, rfl, _⟩
            · omega
            · refine ⟨g, cap, rfl, fun i hi => ?_⟩
              have := hc g rfl i (G i) (by rw [List.getElem?_map, List.getElem?_range hi]; rfl)
              rw [Addr.add_mid, Nat.zero_add] at this
              exact this
          have HC := Hid.mk' cG
          have HR : Hid (Below base w wr ∧ wr.heap[q]? = qo ∧ ∀ k, k < w.heap.size → tz k = 0 → wr.heap[k]? = w.heap[k]?) := ⟨hP.be, hP.bk.ho, fun k hk ht => (hP.fr k hk ht).2⟩
          have PP := Hid.mk' hP
          have cq := hP.bk.cq
          clear HP hP cG
          go_wp2
          go_loopw [9] (fun i wx => ∃ k : Nat, k ≤ j ∧ i = .int .i64 k ∧ wx = wr) (fun i _ => j - (intOf i).toNat)
          case atStart => exact ⟨0, by omega, rfl, rfl⟩
          case round =>
            obtain ⟨k, hk, rfl, rfl⟩ := hrel
            by_cases hkj : k < j
            · have hkj' : (k : Int) < (j : Int) := by omega
              obtain ⟨l, hl⟩ : ∃ l, V k = l := ⟨_, rfl⟩
              obtain ⟨a0, n0, k0⟩ := l
              have hnm : n0 ≤ 140737488351232 := by have := hn k hkj; rw [hl] at this; exact this
              have HM := Hid.mk' (mrk_val k)
              have cg := HC.out k hkj
              have og := (PP.out.gs k hkj).1
              rw [hl] at og
              obtain ⟨ga, gc, e1, _, z0, _⟩ := og.open
              rw [e1, rp_len] at cg
              have cm : wr.cell? ⟨B, k, none⟩ = some (.slice a0 n0 k0) := by have := PP.out.bk.cr k hkj; rw [hl] at this; exact this
              have y0 : Byt wr a0 (rp n0 (mrk k)) := by have := (PP.out.rd k hkj).1; rw [hl] at this; exact this
              have Z0 := Hid.mk' z0
              have Y0 := Hid.mk' y0
              clear hl og e1 z0 y0
              go_wp2
              go_loopw [10] (fun kk wx => ∃ i : Nat, i ≤ n0 + 20 ∧ kk = .int .i64 i ∧ wx = wr) (fun kk _ => n0 + 20 - (intOf kk).toNat)
              case atStart => exact ⟨0, by omega, rfl, rfl⟩
              case round =>
                obtain ⟨i, hi, rfl, rfl⟩ := hrel
                by_cases hlt : i < n0 + 20
                · have hlt' : (i : Int) < ((n0 + 20 : Nat) : Int) := by omega
                  rcases Z0.out with h0 | ⟨bb, bo, rfl, hc⟩
                  · exact absurd (congrArg List.length h0) (by rw [rp_len]; simp)
                  have ck := hc i (by rw [rp_len]; omega)
                  rw [at8_rp _ _ _ hlt, ← HM.out] at ck
                  clear hc Z0
                  go_wp2
                  exact ⟨⟨i + 1, by omega, by go_num, trivial⟩, by simp [intOf]; omega⟩
                · obtain rfl : i = n0 + 20 := by omega
                  clear hlt
                  go_wp2
                  go_loopw [12] (fun kk wx => ∃ i : Nat, i ≤ n0 ∧ kk = .int .i64 i ∧ wx = wr) (fun kk _ => n0 - (intOf kk).toNat)
                  case atStart => exact ⟨0, by omega, rfl, rfl⟩
                  case round =>
                    obtain ⟨i, hi, rfl, rfl⟩ := hrel
                    by_cases hlt : i < n0
                    · have hlt' : (i : Int) < (n0 : Int) := by omega
                      rcases Y0.out with h0 | ⟨bb, bo, rfl, hc⟩
                      · exact absurd (congrArg List.length h0) (by rw [rp_len]; simp; omega)
                      have ck := hc i (by rw [rp_len]; omega)
                      rw [at8_rp _ _ _ hlt, ← HM.out] at ck
                      clear hc Y0
                      go_wp2
                      exact ⟨⟨i + 1, by omega, by go_num, trivial⟩, by simp [intOf]; omega⟩
                    · obtain rfl : i = n0 := by omega
                      clear hlt
                      go_wp2
                      exact ⟨⟨k + 1, by omega, by go_num, trivial⟩, by simp [intOf]; omega⟩
            · obtain rfl : k = j := by omega
              clear hkj
              go_wp2
              go_ret
              exact ⟨rfl, HR.out.1, HR.out.2.1, HR.out.2.2⟩
end Go.Proofs.YtdnocpngdepbgaaGreatDoor.K
