import Derived.Test.YthffcdahjcpdfaaGreatDoorGQBase
import Derived.Test.YthffcdahjcpdfaaGreatDoorBq0
import Derived.Deep.RegionHeld3
import Derived.Deep.Cut
namespace Go.Proofs.YthffcdahjcpdfaaGreatDoor.B
open Go.RowKit
set_option linter.unusedVariables false
set_option linter.unusedSimpArgs false

/-- The cells of a marked step. -/
def mkS (i : Nat) : List Value := [.int .u8 0, .string (txB i), .int .i64 0]
theorem mkS_len (i : Nat) : (mkS i).length = 3 := rfl
theorem Ph1.below {w0 w w' : World} {base q fi B cB N e sz : Nat} {qo : Option Obj} {V : Nat → Lst} {tg : Nat → Nat} {F : Nat → List Value} (h : Ph1 w0 w base q fi B cB N e sz qo V tg F) (hb : Below w.heap.size w w') (hz : base ≤ w.heap.size) (hz0 : w0.heap.size ≤ w.heap.size) : Ph1 w0 w' base q fi B cB N e sz qo V tg F :=
  ⟨h.bk.keep (hb.block q h.bk.lq) (hb.block B h.bk.lB) hb.size, h.tq, h.tB, fun i hi => ⟨own_below (h.ow i hi).1 hb, (h.ow i hi).2⟩, h.be.trans (hb.mono hz), fun k hk ht => (hb.block k (Nat.lt_of_lt_of_le hk hz0)).trans (h.fr k hk ht)⟩
theorem Ph1.set3 {w0 w : World} {base q fi B cB N e : Nat} {qo : Option Obj} {V : Nat → Lst} {tg : Nat → Nat} {F : Nat → List Value} {m k g : Nat} {x0 x1 x2 : Value} {L : List Value} (h : Ph1 w0 w base q fi B cB N e 3 qo V tg (upF F m (fillC k [x0, x1, x2] L))) (hm : m < N) (hL : (k + 1) * 3 ≤ L.length) (hg : (V m).a = some ⟨g, 0, none⟩) (hbg : base ≤ g) :
    Ph1 w0 (((w.setCell ⟨g, 3 * k, none⟩ x0).setCell ⟨g, 3 * k + 1, none⟩ x1).setCell ⟨g, 3 * k + 2, none⟩ x2) base q fi B cB N e 3 qo V tg (upF F m (fillC (k + 1) [x0, x1, x2] L)) := by
  have hl : (fillC k [x0, x1, x2] L).length = L.length := fillC_len (by simp; omega)
  have h1 := h.set m (3 * k) g x0 hm (by rw [upF_at, hl]; omega) hg hbg
  rw [upF_at, upF_up] at h1
  have h2 := h1.set m (3 * k + 1) g x1 hm (by rw [upF_at, List.length_set, hl]; omega) hg hbg
  rw [upF_at, upF_up] at h2
  have h3 := h2.set m (3 * k + 2) g x2 hm (by rw [upF_at, List.length_set, List.length_set, hl]; omega) hg hbg
  rw [upF_at, upF_up, fillC_three hL] at h3
  exact h3
theorem own_get3 {w : World} {base g n cap k e : Nat} {F : List Value} (h : w.ownsRow base e 3 (.slice (some ⟨g, 0, none⟩) n cap) n F) (hk : k < n) : ∃ a b c, w.cell? ⟨g, 3 * k, none⟩ = some a ∧ w.cell? ⟨g, 3 * k + 1, none⟩ = some b ∧ w.cell? ⟨g, 3 * k + 2, none⟩ = some c ∧ w.frozen? ⟨g, 3 * k, none⟩ = false ∧ w.frozen? ⟨g, 3 * k + 1, none⟩ = false ∧ w.frozen? ⟨g, 3 * k + 2, none⟩ = false := by
  have hl := h.1
  have h0 : F[3 * k]? = some F[3 * k] := List.getElem?_eq_getElem (by omega)
  have h1 : F[3 * k + 1]? = some F[3 * k + 1] := List.getElem?_eq_getElem (by omega)
  have h2 : F[3 * k + 2]? = some F[3 * k + 2] := List.getElem?_eq_getElem (by omega)
  exact ⟨_, _, _, (own_at h h0).1, (own_at h h1).1, (own_at h h2).1, (own_at h h0).2, (own_at h h1).2, (own_at h h2).2⟩
theorem infoSl : ∃ i, Tryz.prog.info? 22 = some i ∧ i.zero = some (.slice none 0 0) ∧ i.size = 1 ∧ i.bytes = 24 :=
  info_parts (by kernel_rfl)
theorem one_cell {w : World} {ad : Addr} {u : Value} (h : w.cell? ad = some u) : ∀ j x, ([u] : List Value)[j]? = some x → w.cell? (ad.add j) = some x := fun j x hx => by
  cases j with
  | zero => simp at hx; subst hx; simpa [Addr.add] using h
  | succ j => simp at hx
theorem mkS_one (i : Nat) : ∀ u ∈ mkS i, u.oneCell' = true := by
  intro u hu
  simp [mkS] at hu
  rcases hu with rfl | rfl | rfl <;> rfl
theorem mkS_news (w : World) (i : Nat) : ∀ j u, (mkS i)[j]? = some u → (w.alloc (.cells #[.int .u8 0, .string (txB i), .int .i64 0] 54)).cell? ((⟨w.heap.size, 0, none⟩ : Addr).add j) = some u := fun j u hj => by
  rw [Addr.add_mid, Nat.zero_add, cell_of_row _ _ j _ _ _ (heap_alloc_new _ _)]
  match j, hj with
  | 0, hj => exact hj
  | 1, hj => exact hj
  | 2, hj => exact hj
theorem rd3 {w : World} {a : Option Addr} {n i j : Nat} (h : RdC w a n (mkS j)) (hi : i < n) : ∃ b off, a = some ⟨b, off, none⟩ ∧ w.cell? ⟨b, off + 3 * i, none⟩ = some (.int .u8 0) ∧ w.cell? ⟨b, off + 3 * i + 1, none⟩ = some (.string (txB j)) ∧ w.cell? ⟨b, off + 3 * i + 2, none⟩ = some (.int .i64 0) := by
  rcases h with h | ⟨b, off, rfl, hc⟩
  · omega
  · have g := fun k (hk : k < 3) => rpC_get (x := mkS j) (j := k) (by rw [mkS_len]; exact hk) hi
    rw [mkS_len] at g
    refine ⟨b, off, rfl, ?_, ?_, ?_⟩
    · have := hc (i * 3 + 0) _ (g 0 (by omega)); rw [show off + 3 * i = off + (i * 3 + 0) by omega]; exact this
    · have := hc (i * 3 + 1) _ (g 1 (by omega)); rw [show off + 3 * i + 1 = off + (i * 3 + 1) by omega]; exact this
    · have := hc (i * 3 + 2) _ (g 2 (by omega)); rw [show off + 3 * i + 2 = off + (i * 3 + 2) by omega]; exact this
set_option maxRecDepth 100000 in
set_option maxHeartbeats 4000000 in
theorem aloneSteps_any (q B cB base N : Nat) (qo : Option Obj) (V : Nat → Lst) (L : Nat → List Value) (tz : Nat → Nat) (w : World) (hN1 : 1 ≤ N) (hN : N ≤ 4398046510976) (hn : ∀ i, i < N → (V i).n ≤ 4398046510976)
    (h : Ph1 w w base q 9 B cB N 54 3 qo V tz L) (hbase : base ≤ w.heap.size) :
    Calls Tryz.prog 27 #[.pointer (some ⟨q, 0, none⟩)] w fun e w' => e = .returned (.bool true) ∧ Below base w w' ∧ w'.heap[q]? = qo ∧ ∀ k, k < w.heap.size → tz k = 0 → w'.heap[k]? = w.heap[k]? := by
  have HP0 := Hid.mk' h
  have HL : Hid (∀ i, i < N → (L i).length = (V i).n * 3) := fun i hi => (h.ow i hi).1.1
  have HTX : Hid (∀ (i : Nat) (wx : World), i ≤ 4398046510976 → Calls Tryz.prog 46 #[.int .i64 (i : Int)] wx fun e w' => e = .returned (.string (txB i)) ∧ Below wx.heap.size wx w') := fun i wx hi => text_any i wx hi
  clear h
  go_enter Tryz.func27, Tryz.ntmps27
  go_wp2
  go_loopw [3] (fun i wr => ∃ m : Nat, m ≤ N ∧ i = .int .i64 m ∧ Hid (Ph1 w wr base q 9 B cB N 54 3 qo V tz (mF V mkS L m))) (fun i _ => N - (intOf i).toNat)
  case atStart => exact ⟨0, by omega, rfl, by show Ph1 _ _ _ _ _ _ _ _ _ _ _ _ _ _; have : mF V mkS L 0 = L := by (funext i; unfold mF; rw [if_neg (by omega)])
                                              rw [this]; exact HP0.out⟩
  case round =>
    clear HP0
    obtain ⟨m, hm, rfl, HP⟩ := hrel
    by_cases hlt : m < N
    · have hlt' : (m : Int) < (N : Int) := by omega
      obtain ⟨l, hl⟩ : ∃ l, V m = l := ⟨_, rfl⟩
      obtain ⟨a0, n0, k0⟩ := l
      have hnm : n0 ≤ 4398046510976 := by have := hn m hlt; rw [hl] at this; exact this
      have hLm : (L m).length = n0 * 3 := by have := HL.out m hlt; rw [hl] at this; exact this
      have HS : Hid (Ph1 w wr base q 9 B cB N 54 3 qo V tz (upF (mF V mkS L m) m (fillC 0 (mkS m) (L m)))) := by show Ph1 _ _ _ _ _ _ _ _ _ _ _ _ _ _; rw [mF_start]; exact HP.out
      have HV := Hid.mk' hl
      have cq := HP.out.bk.cq
      clear HP hl
      go_wp2
      go_loopw [4] (fun kk wx => ∃ k : Nat, k ≤ n0 ∧ kk = .int .i64 k ∧ Hid (Ph1 w wx base q 9 B cB N 54 3 qo V tz (upF (mF V mkS L m) m (fillC k (mkS m) (L m))))) (fun kk _ => n0 - (intOf kk).toNat)
      case atStart => exact ⟨0, by omega, rfl, HS⟩
      case round =>
        clear HS cq
        obtain ⟨k, hk, rfl, HP⟩ := hrel
        have cq := HP.out.bk.cq
        have cm : wr.cell? ⟨B, m, none⟩ = some (.slice a0 n0 k0) := by have := HP.out.bk.cr m hlt; rw [HV.out] at this; exact this
        by_cases hkn : k < n0
        · have hkn' : (k : Int) < (n0 : Int) := by omega
          obtain ⟨oo, _⟩ := HP.out.ow m hlt
          rw [HV.out] at oo
          obtain ⟨g, rfl, hg1⟩ : ∃ g, a0 = some ⟨g, 0, none⟩ ∧ base ≤ g := by
            rcases oo.2 with ⟨e, _⟩ | ⟨g, cap, cur, e, hbg, _⟩
            · simp only [Lst.v, Value.slice.injEq] at e; omega
            · simp only [Lst.v, Value.slice.injEq] at e; exact ⟨g, e.1, hbg⟩
          have hk0 : n0 ≤ k0 := by
            rcases oo.2 with ⟨e, _⟩ | ⟨g, cap, cur, e, _, _, hc, _⟩
            · simp only [Lst.v, Value.slice.injEq] at e; have := e.2.1; omega
            · simp only [Lst.v, Value.slice.injEq] at e; have hc' : n0 ≤ cap := hc; omega
          have hz0 : w.heap.size ≤ wr.heap.size := HP.out.be.size
          have hzb : base ≤ wr.heap.size := Nat.le_trans hbase hz0
          have G3 : Hid (∀ wx, Below wr.heap.size wr wx → ∃ a b c, wx.cell? ⟨g, 3 * k, none⟩ = some a ∧ wx.cell? ⟨g, 3 * k + 1, none⟩ = some b ∧ wx.cell? ⟨g, 3 * k + 2, none⟩ = some c ∧ wx.frozen? ⟨g, 3 * k, none⟩ = false ∧ wx.frozen? ⟨g, 3 * k + 1, none⟩ = false ∧ wx.frozen? ⟨g, 3 * k + 2, none⟩ = false) := fun wx hb => own_get3 (own_below oo hb) hkn
          have NX : Hid (∀ wx, Below wr.heap.size wr wx → Ph1 w (((wx.setCell ⟨g, 3 * k, none⟩ (.int .u8 0)).setCell ⟨g, 3 * k + 1, none⟩ (.string (txB m))).setCell ⟨g, 3 * k + 2, none⟩ (.int .i64 0)) base q 9 B cB N 54 3 qo V tz (upF (mF V mkS L m) m (fillC (k + 1) (mkS m) (L m)))) := fun wx hb =>
            (HP.out.below hb hzb hz0).set3 hlt (by omega) (by rw [HV.out]) hg1
          have HT := Hid.mk' (fun wx => HTX.out m wx (by omega))
          have lq := block_lt_of_cell cq
          have lB := block_lt_of_cell cm
          clear oo HP
          generalize txB m = TX at *
          have ix := fun wx => indexS g 0 n0 k0 k wx hkn
          rw [Nat.zero_add] at ix
          go_wp2
          go_region_held3 (fun w' => w'.cell? ⟨q, 9, none⟩ = some (.slice (some ⟨B, 0, none⟩) N cB) ∧ w'.cell? ⟨B, m, none⟩ = some (.slice (some ⟨g, 0, none⟩) n0 k0)) (first | exact ⟨cq, cm⟩ | exact ⟨s1, s2⟩ | exact ⟨s3, s4⟩ | assumption | (constructor <;> assumption) | go_keep) (first
            | (go_at_call 46; refine (HT.out _).mono ?_; rintro e w3 ⟨rfl, b3⟩; have s1 : w3.cell? ⟨q, 9, none⟩ = some (.slice (some ⟨B, 0, none⟩) N cB) := (b3.cell (p := ⟨q, 9, none⟩) lq).trans cq; have s2 : w3.cell? ⟨B, m, none⟩ = some (.slice (some ⟨g, 0, none⟩) n0 k0) := (b3.cell (p := ⟨B, m, none⟩) lB).trans cm; have b3' : Below wr.heap.size wr w3 := ⟨b3.os, b3.tape, b3.output, b3.size, b3.block⟩; obtain ⟨xa, xb, xc, t0, t1, t2, f0, f1, f2⟩ := G3.out w3 b3'; have n3 := NX.out w3 b3'; have s3 := n3.bk.cq; have s4 : (((w3.setCell ⟨g, 3 * k, none⟩ (.int .u8 0)).setCell ⟨g, 3 * k + 1, none⟩ (.string TX)).setCell ⟨g, 3 * k + 2, none⟩ (.int .i64 0)).cell? ⟨B, m, none⟩ = some (.slice (some ⟨g, 0, none⟩) n0 k0) := (by have := n3.bk.cr m hlt; rw [HV.out] at this; exact this); have N3 := Hid.mk' n3; clear n3)
            | fail)
          all_goals go_wp2
          all_goals exact ⟨⟨k + 1, by omega, by go_num, N3⟩, by simp [intOf]; omega⟩
        · obtain rfl : k = n0 := by omega
          have NX : Hid (Ph1 w wr base q 9 B cB N 54 3 qo V tz (mF V mkS L (m + 1))) := by
            show Ph1 _ _ _ _ _ _ _ _ _ _ _ _ _ _
            rw [← mF_end V mkS L m (by rw [HV.out]; exact hLm), HV.out]
            exact HP.out
          clear HP
          go_wp2
          exact ⟨⟨m + 1, by omega, by go_num, NX⟩, by simp [intOf]; omega⟩
    · obtain rfl : m = N := by omega
      have zb : base ≤ wr.heap.size := Nat.le_trans hbase HP.out.be.size
      have hz00 : w.heap.size ≤ wr.heap.size := HP.out.be.size
      have HQ : Hid (∃ tg G, Ph2 w wr base q 9 B cB m 54 3 22 qo V mkS tz tg 0 0 G (.slice none 0 0)) := ⟨_, _, ph2_start HP.out zb hz00⟩
      have cq := HP.out.bk.cq
      clear HP HL zb
      go_wp2
      clear cq
      go_loopw [5, 6] (fun all i wr => ∃ j : Nat, j ≤ m ∧ i = .int .i64 j ∧ Hid (∃ tg G, Ph2 w wr base q 9 B cB m 54 3 22 qo V mkS tz tg j j G all)) (fun _ i _ => m - (intOf i).toNat)
      case atStart => exact ⟨0, by omega, rfl, HQ⟩
      case round =>
        clear HQ
        obtain ⟨j, hj, rfl, HP⟩ := hrel
        by_cases hjm : j < m
        · have hjm' : (j : Int) < (m : Int) := by omega
          obtain ⟨tg1, G, hP⟩ := HP.out
          obtain ⟨l, hl⟩ : ∃ l, V j = l := ⟨_, rfl⟩
          obtain ⟨a0, n0, k0⟩ := l
          have hnm : n0 ≤ 4398046510976 := by have := hn j hjm; rw [hl] at this; exact this
          have HV := Hid.mk' hl
          have oo : wr.ownsRow base 54 3 (.slice a0 n0 k0) n0 (rpC n0 (mkS j)) := by have := hP.ow j (Nat.le_refl _) hjm; rw [hl] at this; exact this
          have to : Tg tg1 (.slice a0 n0 k0) (j + 1) := by have := (hP.rd j hjm).2.1; rw [hl] at this; exact this
          obtain ⟨W, hW1, hW2⟩ : ∃ W, wr.heap.size ≤ W ∧ W ≤ wr.heap.size := ⟨_, Nat.le_refl _, Nat.le_refl _⟩
          have hv : Hid (∀ b off, 0 < n0 → a0 = some ⟨b, off, none⟩ → (Value.slice a0 n0 k0).ownBlock = some b ∧ off = 0 ∧ b < W) := fun b off hn e => by
            rcases oo.2 with ⟨e1, _⟩ | ⟨g, cap, cur, e1, _, hg, _⟩
            · simp at e1; omega
            · simp only [Value.slice.injEq] at e1
              rw [e] at e1
              obtain ⟨e2, _⟩ := e1
              simp at e2
              have := (Array.getElem?_eq_some_iff.1 hg).1
              exact ⟨by rw [e]; rfl, e2.2, by omega⟩
          have HI : Hid (∃ tg, Ph2 w wr base q 9 B cB m 54 3 22 qo V mkS tz tg (j + 1) j G u5 ∧ Gr wr base 54 3 W tg (mkS j) j n0 k0 0 a0 (.slice a0 n0 k0)) := ⟨tg1, hP.weak _ (by omega), oo, to, .inl rfl, hW2⟩
          have cq := hP.bk.cq
          have cm : wr.cell? ⟨B, j, none⟩ = some (.slice a0 n0 k0) := by have := hP.bk.cr j hjm; rw [hl] at this; exact this
          have HT := Hid.mk' (fun wx => HTX.out j wx (by omega))
          clear oo to hP HP hl hW1 hW2
          go_wp2
          clear cq cm
          go_loopw [7, 8] (fun g kk wx => ∃ k : Nat, k ≤ 20 ∧ kk = .int .i64 k ∧ Hid (∃ tg, Ph2 w wx base q 9 B cB m 54 3 22 qo V mkS tz tg (j + 1) j G u5 ∧ Gr wx base 54 3 W tg (mkS j) j n0 k0 k a0 g)) (fun _ kk _ => 20 - (intOf kk).toNat)
          case atStart => exact ⟨0, by omega, rfl, HI⟩
          case round =>
            clear HI
            obtain ⟨k, hk, rfl, HI⟩ := hrel
            by_cases hlt : k < 20
            · have hlt' : (k : Int) < 20 := by omega
              go_wp2_with fail
              refine (HT.out wr).mono ?_
              rintro e w1 ⟨rfl, b1⟩
              obtain ⟨tg2, P, og, tgg, hg, hWx⟩ := HI.out
              obtain ⟨wa, hwa⟩ : ∃ wa, wa = w1.alloc (.cells #[.int .u8 0, .string (txB j), .int .i64 0] 54) := ⟨_, rfl⟩
              have be : Below w1.heap.size w1 wa := by rw [hwa]; exact (Below.refl _ _).alloc (Nat.le_refl _) _
              have bx : Below wr.heap.size wr wa := b1.trans (be.mono b1.size)
              have OA : Hid (wa.ownsRow base 54 3 u7 (n0 + k) (rpC (n0 + k) (mkS j))) := own_below og bx
              have NA : Hid (∀ jj u, (mkS j)[jj]? = some u → wa.cell? ((⟨w1.heap.size, 0, none⟩ : Addr).add jj) = some u) := by rw [hwa]; exact mkS_news w1 j
              have PA : Hid (Ph2 w wa base q 9 B cB m 54 3 22 qo V mkS tz tg2 (j + 1) j G u5) := P.below bx
              have ZA : Hid (base ≤ wa.heap.size) := PA.out.zb
              have WA : Hid (W ≤ wa.heap.size) := Nat.le_trans hWx bx.size
              have TA := Hid.mk' tgg
              have GA := Hid.mk' hg
              have SZ : Hid (wa.heap.size = w1.heap.size + 1) := by show _ = _; rw [hwa]; simp
              obtain ⟨i0, hi0, hz0, hs0, hby0⟩ := infoS
              clear og tgg hg hWx P be HI b1 bx
              go_wp2_with (first
                | (refine wpList_bs1 rfl (.tmp 70) rfl #[.int .u8 0, .string (txB j), .int .i64 0] rfl rfl ?_; rw [← hwa])
                | (at_builtin; refine wpList_app3 rfl (.tmp 67) (.tmp 71) 22 54 i0 (.agg zSt.c) 3 32 Tryz.underlying22 hi0 hz0 hs0 hby0 rfl (by decide) rfl base u7 (n0 + k) (rpC (n0 + k) (mkS j)) rfl OA.out ⟨w1.heap.size, 0, none⟩ 1 (mkS j) rfl rfl NA.out (mkS_one j) (by unfold maxLen; omega) (by omega) ZA.out ?_)
                | fail)
              intro g' w' own' gr h4
              rw [rpC_succ] at own'
              first | rw [← hwa] at gr h4 | (rw [← hwa] at gr; try rw [← hwa] at h4)
              try rw [← SZ.out] at h4
              clear hwa hi0 hz0 hs0 hby0
              have YA : RdC wa a0 n0 (mkS j) := by have := (PA.out.rd j hjm).1; rw [HV.out] at this; exact this
              obtain ⟨yn, gn⟩ := grow_step (cap := k0) WA.out (by rw [mkS_len]; decide) YA hv.out own' gr h4 GA.out
              have hl2 : ∀ b, u7.ownBlock = some b → base ≤ b ∧ b < wa.heap.size := fun b e => World.ownsRow.lt OA.out b e
              have h5 : g'.ownBlock = u7.ownBlock ∨ g'.ownBlock = some wa.heap.size := by rcases h4 with e | ⟨e, _⟩; exact .inl e; exact .inr e
              have hrd : ∀ i, i + 1 = j + 1 → i < m → RdC w' (V i).a (V i).n (mkS i) := fun i e hi => by
                obtain rfl : i = j := by omega
                rw [HV.out]
                exact yn
              obtain ⟨P2, T2⟩ := PA.out.grow (j + 1) u7 g' (by omega) gr TA.out hl2 h5 hrd (fun i h1 _ => by omega) (fun i hi => by omega) (by omega)
              have NX : Hid (∃ tg, Ph2 w w' base q 9 B cB m 54 3 22 qo V mkS tz tg (j + 1) j G u5 ∧ Gr w' base 54 3 W tg (mkS j) j n0 k0 (k + 1) a0 g') := ⟨_, P2, own', T2, gn, Nat.le_trans WA.out gr.size⟩
              obtain ⟨ga, gc, rfl⟩ := own_slice own'
              clear OA NA PA ZA WA TA GA gr h4 YA yn gn hl2 h5 P2 T2 own' hrd
              go_wp2
              exact ⟨⟨k + 1, by omega, by go_num, NX⟩, by simp [intOf]; omega⟩
            · obtain rfl : k = 20 := by omega
              clear hlt
              obtain ⟨tg2, P, og, tgg, hg, hWx⟩ := HI.out
              obtain ⟨ga, gc, rfl⟩ := own_slice og
              obtain ⟨wa, hwa⟩ : ∃ wa, wa = wr.alloc (.cells #[.slice ga (n0 + 20) gc] 22) := ⟨_, rfl⟩
              have be : Below wr.heap.size wr wa := by rw [hwa]; exact (Below.refl _ _).alloc (Nat.le_refl _) _
              have PA : Hid (Ph2 w wa base q 9 B cB m 54 3 22 qo V mkS tz tg2 (j + 1) j G u5) := P.below be
              have OA : Hid (wa.ownsRow base 54 3 (.slice ga (n0 + 20) gc) (n0 + 20) (rpC (n0 + 20) (mkS j))) := own_below og be
              have TA := Hid.mk' tgg
              have SZ : Hid (wa.heap.size = wr.heap.size + 1) := by show _ = _; rw [hwa]; simp
              have CA : Hid (wa.cell? ⟨wr.heap.size, 0, none⟩ = some (.slice ga (n0 + 20) gc)) := by show _ = _; rw [hwa]; exact (cell_of_row _ wr.heap.size 0 _ _ _ (heap_alloc_new _ _)).trans rfl
              obtain ⟨i0, hi0, hz0, hs0, hby0⟩ := infoSl
              clear og tgg hg hWx P be HI
              go_wp2_with (first | (at_builtin; refine wpList_app3 rfl (.tmp 73) (.tmp 75) 33 22 i0 (.slice none 0 0) 1 24 Tryz.underlying33 hi0 hz0 hs0 hby0 rfl (by decide) rfl base u5 j ((List.range j).map G) rfl (by rw [← hwa]; exact PA.out.al.1) ⟨wr.heap.size, 0, none⟩ 1 [.slice ga (n0 + 20) gc] rfl rfl (one_cell (by rw [← hwa]; exact CA.out)) (by simp; rfl) (by unfold maxLen; omega) (by omega) (by rw [← hwa]; exact PA.out.zb) ?_) | fail)
              intro all' w' rows' gr hblk
              first | rw [← hwa] at gr hblk | (rw [← hwa] at gr; try rw [← hwa] at hblk)
              try rw [← SZ.out] at hblk
              clear hwa hi0 hz0 hs0 hby0
              have hblk2 : all'.ownBlock = u5.ownBlock ∨ all'.ownBlock = some wa.heap.size := by rcases hblk with e | ⟨e, _⟩; exact .inl e; exact .inr e
              obtain ⟨tg3, P3⟩ := PA.out.done hjm (.slice ga (n0 + 20) gc) all' (by rw [HV.out]; exact OA.out) TA.out gr hblk2 rows'
              have NX : Hid (∃ tg G, Ph2 w w' base q 9 B cB m 54 3 22 qo V mkS tz tg (j + 1) (j + 1) G all') := ⟨_, _, P3⟩
              obtain ⟨la, lc, rfl⟩ := own_slice rows'
              clear PA OA TA CA gr hblk hblk2 rows' P3
              go_wp2
              exact ⟨⟨j + 1, by omega, by go_num, NX⟩, by simp [intOf]; omega⟩
        · obtain rfl : j = m := by omega
          obtain ⟨tg1, G, hP⟩ := HP.out
          obtain ⟨A, cA, rfl, cG⟩ : ∃ A cA, u5 = .slice (some ⟨A, 0, none⟩) j cA ∧ ∀ wx, Below wr.heap.size wr wx → ∀ i, i < j → wx.cell? ⟨A, i, none⟩ = some (G i) := by
            have hc := fun g hg wx (hb : Below wr.heap.size wr wx) => World.ownsRow.cells (own_below hP.al.1 hb) (g := g) hg
            rcases hP.al.1.2 with ⟨_, hn0⟩ | ⟨g, cap, cur, rfl, _⟩
            · omega
            · refine ⟨g, cap, rfl, fun wx hb i hi => ?_⟩
              have := hc g rfl wx hb i (G i) (by rw [List.getElem?_map, List.getElem?_range hi]; rfl)
              rw [Addr.add_mid, Nat.zero_add] at this
              exact this
          have HC := Hid.mk' cG
          have PP : Hid (∀ wx, Below wr.heap.size wr wx → Ph2 w wx base q 9 B cB j 54 3 22 qo V mkS tz tg1 j j G (.slice (some ⟨A, 0, none⟩) j cA)) := fun wx hb => hP.below hb
          have cq := hP.bk.cq
          clear HP hP cG
          go_wp2
          clear cq
          go_loopw [9] (fun i wx => ∃ k : Nat, k ≤ j ∧ i = .int .i64 k ∧ Hid (Below wr.heap.size wr wx)) (fun i _ => j - (intOf i).toNat)
          case atStart => exact ⟨0, by omega, rfl, Below.refl _ _⟩
          case round =>
            obtain ⟨k, hk, rfl, HB⟩ := hrel
            by_cases hkj : k < j
            · have hkj' : (k : Int) < (j : Int) := by omega
              obtain ⟨l, hl⟩ : ∃ l, V k = l := ⟨_, rfl⟩
              obtain ⟨a0, n0, k0⟩ := l
              have hnm : n0 ≤ 4398046510976 := by have := hn k hkj; rw [hl] at this; exact this
              have PF := PP.out _ HB.out
              have cg := HC.out _ HB.out k hkj
              obtain ⟨og, _⟩ := PF.gs k hkj
              rw [hl] at og
              obtain ⟨nn, hnn⟩ : ∃ nn, nn = n0 + 20 := ⟨_, rfl⟩
              have hnb : nn ≤ 4398046510996 := by omega
              have og' : wr.ownsRow base 54 3 (G k) nn (rpC nn (mkS k)) := by rw [hnn]; exact og
              clear og hnn
              obtain ⟨ga, gc, e1⟩ := own_slice og'
              rw [e1] at cg og'
              have cm : wr.cell? ⟨B, k, none⟩ = some (.slice a0 n0 k0) := by have := PF.bk.cr k hkj; rw [hl] at this; exact this
              have rdk : RdC wr a0 n0 (mkS k) := by have := (PF.rd k hkj).1; rw [hl] at this; exact this
              have cq := PF.bk.cq
              have ZC : Hid (∀ wx, Below wr.heap.size wr wx → wx.cell? ⟨A, k, none⟩ = some (.slice ga nn gc) ∧ RdC wx ga nn (mkS k)) := fun wx hb => ⟨(hb.cell (p := ⟨A, k, none⟩) (block_lt_of_cell cg)).trans cg, (own_rd og').below hb⟩
              have YC : Hid (∀ wx, Below wr.heap.size wr wx → wx.cell? ⟨q, 9, none⟩ = some (.slice (some ⟨B, 0, none⟩) j cB) ∧ wx.cell? ⟨B, k, none⟩ = some (.slice a0 n0 k0) ∧ RdC wx a0 n0 (mkS k)) := fun wx hb => ⟨(hb.cell (p := ⟨q, 9, none⟩) (block_lt_of_cell cq)).trans cq, (hb.cell (p := ⟨B, k, none⟩) (block_lt_of_cell cm)).trans cm, rdk.below hb⟩
              have TRW : Hid (∀ wx, Below wr.heap.size wr wx → Below _ _ wx) := fun wx hb => HB.out.trans (hb.mono HB.out.size)
              have HT := Hid.mk' (fun wx => HTX.out k wx (by omega))
              clear PF hl og' e1 rdk
              go_wp2
              clear cq cm cg
              go_loopw [10] (fun kk wx => ∃ i : Nat, i ≤ nn ∧ kk = .int .i64 i ∧ Hid (Below wr.heap.size wr wx)) (fun kk _ => nn - (intOf kk).toNat)
              case atStart => exact ⟨0, by omega, rfl, Below.refl _ _⟩
              case round =>
                obtain ⟨i, hi, rfl, HB2⟩ := hrel
                obtain ⟨c1, rz⟩ := ZC.out _ HB2.out
                by_cases hlt : i < nn
                · have hlt' : (i : Int) < (nn : Int) := by omega
                  obtain ⟨bb, bo, rfl, t0, t1, t2⟩ := rd3 rz hlt
                  have ix := fun wx => indexS bb bo nn gc i wx hlt
                  obtain ⟨W3, hW3⟩ : ∃ W, W = wr.alloc (.cells #[.int .u8 0, .string (txB k), .int .i64 0] 54) := ⟨_, rfl⟩
                  have B3 : Hid (Below wr.heap.size wr W3) := by rw [hW3]; exact (Below.refl _ _).alloc (Nat.le_refl _) _
                  have g3 := heap_alloc_new wr (.cells #[.int .u8 0, .string (txB k), .int .i64 0] 54)
                  rw [← hW3] at g3
                  have c3 : W3.cell? ⟨wr.heap.size, 1, none⟩ = some (.string (txB k)) := (cell_of_row _ _ 1 _ _ _ g3).trans rfl
                  have hx1 : ∀ e : ExtT W3, e.wd.cell? ⟨wr.heap.size, 1, none⟩ = some (.string (txB k)) := fun e => (e.ok.cell (p := ⟨wr.heap.size, 1, none⟩) (block_lt_of_cell c3)).trans c3
                  have hne : Nonempty (ExtT W3) := ExtT.some W3
                  have HW3 := Hid.mk' hW3
                  clear rz hW3 g3 c3
                  go_wp2
                  rw [← HW3.out]
                  refine wp_region_ext (by kernel_rfl) (by kernel_rfl) ?_
                  repeat (go_big_quiet_step (first | (go_at_call 46; exact ext_of (HT.out _)) | fail))
                  refine wpQuiet_nil ?_
                  rintro w4 ⟨⟨_, bl4⟩, rfl⟩
                  have NB : Hid (Below _ _ w4) := HB2.out.trans ((B3.out.trans (bl4.mono B3.out.size)).mono HB2.out.size)
                  clear bl4 hne hx1 B3 HW3
                  go_wp2
                  exact ⟨⟨i + 1, by omega, by go_num, NB⟩, by simp [intOf]; omega⟩
                · obtain rfl : i = nn := by omega
                  clear hlt rz
                  go_wp2
                  clear c1
                  go_loopw [12] (fun kk wx => ∃ i : Nat, i ≤ n0 ∧ kk = .int .i64 i ∧ Hid (Below wr.heap.size wr wx)) (fun kk _ => n0 - (intOf kk).toNat)
                  case atStart => exact ⟨0, by omega, rfl, Below.refl _ _⟩
                  case round =>
                    have HB3 := hrel
                    obtain ⟨i, hi, rfl, HB3⟩ := HB3
                    obtain ⟨cq, cm, rz⟩ := YC.out _ (HB2.out.trans (HB3.out.mono HB2.out.size))
                    by_cases hlt : i < n0
                    · have hlt' : (i : Int) < (n0 : Int) := by omega
                      obtain ⟨bb, bo, rfl, t0, t1, t2⟩ := rd3 rz hlt
                      have ix := fun wx => indexS bb bo n0 k0 i wx hlt
                      obtain ⟨W3, hW3⟩ : ∃ W, W = wr.alloc (.cells #[.int .u8 0, .string (txB k), .int .i64 0] 54) := ⟨_, rfl⟩
                      have B3 : Hid (Below wr.heap.size wr W3) := by rw [hW3]; exact (Below.refl _ _).alloc (Nat.le_refl _) _
                      have g3 := heap_alloc_new wr (.cells #[.int .u8 0, .string (txB k), .int .i64 0] 54)
                      rw [← hW3] at g3
                      have c3 : W3.cell? ⟨wr.heap.size, 1, none⟩ = some (.string (txB k)) := (cell_of_row _ _ 1 _ _ _ g3).trans rfl
                      have hx1 : ∀ e : ExtT W3, e.wd.cell? ⟨wr.heap.size, 1, none⟩ = some (.string (txB k)) := fun e => (e.ok.cell (p := ⟨wr.heap.size, 1, none⟩) (block_lt_of_cell c3)).trans c3
                      have hne : Nonempty (ExtT W3) := ExtT.some W3
                      have HW3 := Hid.mk' hW3
                      clear rz hW3 g3 c3
                      go_wp2
                      rw [← HW3.out]
                      refine wp_region_ext (by kernel_rfl) (by kernel_rfl) ?_
                      repeat (go_big_quiet_step (first | (go_at_call 46; exact ext_of (HT.out _)) | fail))
                      refine wpQuiet_nil ?_
                      rintro w4 ⟨⟨_, bl4⟩, rfl⟩
                      have NB : Hid (Below _ _ w4) := HB3.out.trans ((B3.out.trans (bl4.mono B3.out.size)).mono HB3.out.size)
                      clear bl4 hne hx1 B3 HW3
                      go_wp2
                      exact ⟨⟨i + 1, by omega, by go_num, NB⟩, by simp [intOf]; omega⟩
                    · obtain rfl : i = n0 := by omega
                      have NB : Hid (Below _ _ wr) := TRW.out _ (HB2.out.trans (HB3.out.mono HB2.out.size))
                      clear hlt rz
                      go_wp2
                      exact ⟨⟨k + 1, by omega, by go_num, NB⟩, by simp [intOf]; omega⟩
            · obtain rfl : k = j := by omega
              have PF := PP.out _ HB.out
              have HR : Hid (Below base w wr ∧ wr.heap[q]? = qo ∧ ∀ k, k < w.heap.size → tz k = 0 → wr.heap[k]? = w.heap[k]?) := ⟨PF.be, PF.bk.ho, fun k hk ht => (PF.fr k hk ht).2⟩
              clear hkj PF
              go_wp2
              go_ret
              exact ⟨rfl, HR.out.1, HR.out.2.1, HR.out.2.2⟩
end Go.Proofs.YthffcdahjcpdfaaGreatDoor.B
