import Derived.Test.YtoofljkgdjjllaaP3
import Derived.Test.YtoofljkgdjjllaaP4
import Derived.Test.YtoofljkgdjjllaaP0
import Derived.Test.YtoofljkgdjjllaaRows
import Derived.WalkKit
import Derived.WalkSpells
import Derived.WalkLawsBesides
namespace Go.Proofs.Ytoofljkgdjjllaa.B
open Go.RowKit
set_option linter.unusedVariables false
set_option linter.unusedSimpArgs false

def mkI (i : Nat) : IdK := ⟨List.replicate 32 0, -7 - (i : Int)⟩
theorem mkI_ok {i : Nat} (h : i ≤ 7700000000000) : (mkI i).ok := ⟨by simp [mkI], by simp [mkI]; omega, by simp [mkI]; omega⟩
def xC (i : Nat) : List Value := (mkI i).c
theorem xC_len (i : Nat) : (xC i).length = 33 := by simp [xC, mkI, IdK.c, hcs_len]
theorem rpC_flat (n : Nat) (y : IdK) : rpC n y.c = flatI (List.replicate n y) := by
  induction n with
  | zero => rfl
  | succ n ih => rw [rpC_cons, ih, List.replicate_succ]; rfl
theorem flatI_drop : ∀ {L : List IdK}, (∀ x ∈ L, x.ok) → ∀ k, (flatI L).drop (k * 33) = flatI (L.drop k)
  | L, ok, 0 => by simp
  | [], ok, k + 1 => by simp [flatI]
  | x :: L, ok, k + 1 => by
    have l := IdK.len (ok x (by simp))
    have h := flatI_drop (L := L) (fun y hy => ok y (List.mem_cons_of_mem _ hy)) k
    rw [List.drop_succ_cons, ← h, flatI_cons, show (k + 1) * 33 = x.c.length + k * 33 by omega, ← List.drop_drop, List.drop_left]
theorem fill_flat {L : List IdK} (ok : ∀ x ∈ L, x.ok) (k i : Nat) : fillC k (xC i) (flatI L) = flatI (List.replicate k (mkI i) ++ L.drop k) := by
  unfold fillC
  rw [xC_len, flatI_drop ok, flatI_app, xC, rpC_flat]
theorem set_fill {L : List IdK} {k : Nat} (hk : k < L.length) (y : IdK) : (List.replicate k y ++ L.drop k).set k y = List.replicate (k + 1) y ++ L.drop (k + 1) := by
  rw [List.set_append_right _ _ (by simp), List.length_replicate, Nat.sub_self, List.drop_eq_getElem_cons hk, List.set_cons_zero, List.replicate_succ', List.append_assoc]
  rfl
theorem own_sameB {w w' : World} {base e sz n : Nat} {v : Value} {xs : List Value} (h : w.ownsRow base e sz v n xs) (hk : ∀ b, v.ownBlock = some b → w'.heap[b]? = w.heap[b]?) : w'.ownsRow base e sz v n xs := by
  refine ⟨h.1, ?_⟩
  rcases h.2 with hn | ⟨g, cap, cur, rfl, hbg, hg, rest⟩
  · exact .inl hn
  · exact .inr ⟨g, cap, cur, rfl, hbg, by rw [hk g rfl]; exact hg, rest⟩
theorem Ph1.chg {w0 w w' : World} {base q fi B cB N e sz : Nat} {qo : Option Obj} {V : Nat → Lst} {tg : Nat → Nat} {F : Nat → List Value} (h : Ph1 w0 w base q fi B cB N e sz qo V tg F) {m : Nat} (hm : m < N) {F' : List Value} (own' : w'.ownsRow base e sz (V m).v (V m).n F') (t : Tch (fun j => (V m).v.ownBlock = some j) w w') (hz : base ≤ w.heap.size) (hz0 : w0.heap.size ≤ w.heap.size) :
    Ph1 w0 w' base q fi B cB N e sz qo V tg (upF F m F') := by
  have tm := (h.ow m hm).2
  have ge : ∀ j, (V m).v.ownBlock = some j → base ≤ j := fun j hj => (World.ownsRow.lt (h.ow m hm).1 j hj).1
  have ne : ∀ b, b < w.heap.size → tg b ≠ m + 1 → w'.heap[b]? = w.heap[b]? := fun b hb hq => t.block b hb (fun e => hq (tm b e))
  refine ⟨h.bk.keep (ne q h.bk.lq (by rw [h.tq]; omega)) (ne B h.bk.lB (by rw [h.tB]; omega)) t.size, h.tq, h.tB, fun i hi => ?_, h.be.trans (t.below hz ge), fun k hk ht => (ne k (by omega) (by rw [ht]; omega)).trans (h.fr k hk ht)⟩
  obtain ⟨o, to⟩ := h.ow i hi
  unfold upF
  by_cases e : i = m
  · subst e; rw [if_pos rfl]; exact ⟨own', to⟩
  · rw [if_neg e]
    exact ⟨own_sameB o fun b hb => ne b (World.ownsRow.lt o b hb).2 (by rw [to b hb]; omega), to⟩
theorem infoIl : ∃ i, Try.prog.info? 41 = some i ∧ i.zero = some (.slice none 0 0) ∧ i.size = 1 ∧ i.bytes = 24 := info_parts (by kernel_rfl)
theorem load_ids {w : World} {b o : Nat} {v : Value} (h : w.cell? ⟨b, o, none⟩ = some v) : (Instr.loadAt 41 (.pointer (some ⟨b, o, none⟩))).run Try.prog w = .ok v w := by go_simp
theorem load_idss {w : World} {b o : Nat} {v : Value} (h : w.cell? ⟨b, o, none⟩ = some v) : (Instr.loadAt 55 (.pointer (some ⟨b, o, none⟩))).run Try.prog w = .ok v w := by go_simp
theorem ix_ids {b o n c i : Nat} (h : i < n) (hn : n ≤ 9223372036854775807) (w : World) : (Instr.indexAt 55 (.slice (some ⟨b, o, none⟩) n c) (.int .i64 (i : Int))).run Try.prog w = .ok (.pointer (some ⟨b, o + i, none⟩)) w := by go_simp
theorem sub7 {i : Nat} (h : i ≤ 7700000000000) (w : World) : (binOp .sub 3 (.int .i64 (-7)) (.int .i64 (i : Int))).run Try.prog w = .ok (.int .i64 (-7 - (i : Int))) w := by
  have e : IntKind.i64.wrap (-7 - (i : Int)) = -7 - (i : Int) := by rw [IntKind.wrap_i64]; omega
  go_simp
  first | done | exact e | rfl
theorem rdC_load {w : World} {a : Option Addr} {n i j : Nat} (h : RdC w a n (xC j)) (hi : i < n) (hj : j ≤ 7700000000000) : ∃ b off, a = some ⟨b, off, none⟩ ∧ (Instr.loadAt 37 (.pointer (some ⟨b, off + i * 33, none⟩))).run Try.prog w = .ok (mkI j).v w := by
  rcases h with h | ⟨b, off, rfl, hc⟩
  · omega
  · refine ⟨b, off, rfl, load_id_at (mkI_ok hj) fun k v hv => ?_⟩
    have hk : k < (xC j).length := (List.getElem?_eq_some_iff.1 hv).1
    have := hc (i * 33 + k) v (by have := rpC_get (x := xC j) hk hi; rw [xC_len] at this; rw [this]; exact hv)
    rwa [← Nat.add_assoc] at this
theorem run_bsL (v : Value) (hv : v.cells = #[v]) (w : World) : (Instr.buildSlice 55 1 #[(0, v)]).run Try.prog w = .ok (.slice (some ⟨w.heap.size, 0, none⟩) 1 1) (w.alloc (.cells #[v] 41)) := by
  obtain ⟨ie, hi, hz0, hs, hby⟩ := infoIl
  refine run_buildSlice w 55 41 1 _ #[v] ie _ Try.underlying55 hi hz0 (by rw [hs]; decide) (by rw [hs]; decide) ?_
  rw [hs]
  have := Go.Great.fill_whole (s := 1) (by decide) [v] ((Array.range (1 * 1)).map ((Value.slice none 0 0).cells[· % (Value.slice none 0 0).cells.size]!)) (by intro u hu; simp at hu; subst hu; rw [hv]; rfl) (by simp)
  simpa [hv] using this
theorem app_list {w : World} {base : Nat} {all : Value} {rows : List Value} (own : w.ownsRow base 41 1 all rows.length rows) (v : Value) (hv : v.cells = #[v]) (h1 : v.oneCell' = true) (hn : rows.length ≤ 7700000000000) (hb : base ≤ w.heap.size) : ∃ w1 qv w2, (Instr.buildSlice 55 1 #[(0, v)]).run Try.prog w = .ok (.slice (some ⟨w.heap.size, 0, none⟩) 1 1) w1 ∧ (Builtin.append_ #[55, 55] 55 #[all, .slice (some ⟨w.heap.size, 0, none⟩) 1 1]).run Try.prog w1 = .ok qv w2 ∧
    w2.ownsRow base 41 1 qv (rows.length + 1) (rows ++ [v]) ∧ Below w.heap.size w w1 ∧ w1.grownBy w2 all.ownBlock ∧ (qv.ownBlock = all.ownBlock ∨ qv.ownBlock = some w1.heap.size) := by
  obtain ⟨ie, hi, hz0, hs, hby⟩ := infoIl
  have b1 : Below w.heap.size w (w.alloc (.cells #[v] 41)) := (Below.refl _ _).alloc (Nat.le_refl _) _
  have c1 : (w.alloc (.cells #[v] 41)).cell? ⟨w.heap.size, 0, none⟩ = some v := (cell_of_row _ w.heap.size 0 _ _ _ (heap_alloc_new _ _)).trans rfl
  have hr := run_bsL v hv w
  generalize w.alloc (.cells #[v] 41) = w1 at *
  obtain ⟨qv, w2, e2, o2, g2, q2⟩ := app_at (P := Try.prog) w1 base 55 55 41 ie _ 1 24 Try.underlying55 hi hz0 hs hby rfl (by decide) all rows.length rows (own_below own b1) ⟨w.heap.size, 0, none⟩ 1 1 [v] rfl (fun j u hj => by
    cases j with
    | zero => simp at hj; subst hj; simpa [Addr.add] using c1
    | succ j => simp at hj) (by intro u hu; simp at hu; subst hu; exact h1) (by unfold maxLen; omega) (by omega) (Nat.le_trans hb b1.size)
  exact ⟨w1, qv, w2, hr, e2, o2, b1, g2, q2⟩
theorem app_mark {w : World} {base n j : Nat} {g : Value} (own : w.ownsRow base 37 33 g n (rpC n (xC j))) (hj : j ≤ 7700000000000) (hn : n ≤ 3000000000000) (hb : base ≤ w.heap.size) : ∃ w1 g' w2, (Instr.buildSlice 41 1 #[(0, (mkI j).v)]).run Try.prog w = .ok (.slice (some ⟨w.heap.size, 0, none⟩) 1 1) w1 ∧ (Builtin.append_ #[41, 41] 41 #[g, .slice (some ⟨w.heap.size, 0, none⟩) 1 1]).run Try.prog w1 = .ok g' w2 ∧
    w2.ownsRow base 37 33 g' (n + 1) (rpC (n + 1) (xC j)) ∧ Below w.heap.size w w1 ∧ w1.grownBy w2 g.ownBlock ∧ (g'.ownBlock = g.ownBlock ∨ g'.ownBlock = some w1.heap.size ∧ Below w1.heap.size w1 w2) := by
  have ok := mkI_ok hj
  obtain ⟨ie, hi, hz, hs, hby⟩ := info_parts infoI
  have b1 : Below w.heap.size w (w.alloc (.cells (mkI j).c.toArray 37)) := (Below.refl _ _).alloc (Nat.le_refl _) _
  have hr := run_bsI (mkI j) ok w
  have hnew : ∀ k u, (xC j)[k]? = some u → (w.alloc (.cells (mkI j).c.toArray 37)).cell? ((⟨w.heap.size, 0, none⟩ : Addr).add k) = some u := fun k u hk => by
    rw [Addr.add_mid, Nat.zero_add]
    exact cell_new w (mkI j).c 37 k u hk
  generalize w.alloc (.cells (mkI j).c.toArray 37) = w1 at *
  obtain ⟨g', w2, e2, o2, g2, q2⟩ := run_app3 (P := Try.prog) w1 base 41 41 37 ie _ 33 40 Try.underlying41 hi hz hs hby zcellsI (by decide) g n _ (own_below own b1) ⟨w.heap.size, 0, none⟩ 1 (xC j) (by rw [xC_len]) hnew (fun u hu => (mkI j).one u hu) (by unfold maxLen; omega) (by omega) (Nat.le_trans hb b1.size)
  rw [rpC_succ] at o2
  exact ⟨w1, g', w2, hr, e2, o2, b1, g2, q2⟩
set_option maxRecDepth 100000 in
set_option maxHeartbeats 4000000 in
theorem aloneIds_any (q B cB base N : Nat) (qo : Option Obj) (V : Nat → Lst) (L : Nat → List IdK) (tz : Nat → Nat) (w : World) (hN1 : 1 ≤ N) (hN : N ≤ 7600000000000) (hn : ∀ i, i < N → (V i).n ≤ 2600000000000) (hLn : ∀ i, i < N → (L i).length = (V i).n) (okL : ∀ i, i < N → ∀ x ∈ L i, x.ok)
    (h : Ph1 w w base q 2 B cB N 37 33 qo V tz (fun i => flatI (L i))) (hbase : base ≤ w.heap.size) :
    Calls Try.prog 56 #[.pointer (some ⟨q, 0, none⟩)] w fun e w' => e = .returned (.bool true) ∧ Below base w w' ∧ w'.heap[q]? = qo ∧ ∀ k, k < w.heap.size → tz k = 0 → w'.heap[k]? = w.heap[k]? := by
  have HP0 := hidMk h
  have HLN := hidMk hLn
  have HOK := hidMk okL
  clear h hLn okL
  go_enter Try.func56, Try.ntmps56
  go_wp2
  go_loopw [3] (fun v3 wr => ∃ m : Nat, m ≤ N ∧ v3 = .int .i64 (m : Int) ∧ Hid (Ph1 w wr base q 2 B cB N 37 33 qo V tz (mF V xC (fun i => flatI (L i)) m))) (fun v3 _ => N - (intOf v3).toNat)
  case atStart =>
    refine ⟨0, by omega, rfl, ?_⟩
    have e0 : mF V xC (fun i => flatI (L i)) 0 = fun i => flatI (L i) := by funext i; unfold mF; rw [if_neg (by omega)]
    rw [e0]
    exact HP0
  case round =>
    clear HP0
    obtain ⟨m, hm, rfl, HP⟩ := hrel
    by_cases hlt : m < N
    · obtain ⟨l, hl⟩ : ∃ l, V m = l := ⟨_, rfl⟩
      obtain ⟨a0, n0, k0⟩ := l
      have hnm : n0 ≤ 2600000000000 := by have := hn m hlt; rw [hl] at this; exact this
      have HLm := hidMk (show (L m).length = n0 by have := HLN.out m hlt; rw [hl] at this; exact this)
      have HS : Hid (Ph1 w wr base q 2 B cB N 37 33 qo V tz (upF (mF V xC (fun i => flatI (L i)) m) m (fillC 0 (xC m) (flatI (L m))))) := by
        have e0 : upF (mF V xC (fun i => flatI (L i)) m) m (fillC 0 (xC m) (flatI (L m))) = mF V xC (fun i => flatI (L i)) m := mF_start V xC (fun i => flatI (L i)) m
        rw [e0]
        exact HP
      have HV := hidMk hl
      have cq := HP.out.bk.cq
      clear HP hl
      go_wp2
      go_loopw [4] (fun v4 wx => ∃ k : Nat, k ≤ n0 ∧ v4 = .int .i64 (k : Int) ∧ Hid (Ph1 w wx base q 2 B cB N 37 33 qo V tz (upF (mF V xC (fun i => flatI (L i)) m) m (fillC k (xC m) (flatI (L m)))))) (fun v4 _ => n0 - (intOf v4).toNat)
      case atStart => exact ⟨0, by omega, rfl, HS⟩
      case round =>
        clear HS cq
        obtain ⟨k, hk, rfl, HP⟩ := hrel
        have cq := HP.out.bk.cq
        have cm : wr.cell? ⟨B, m, none⟩ = some (.slice a0 n0 k0) := by have := HP.out.bk.cr m hlt; rw [HV.out] at this; exact this
        by_cases hkn : k < n0
        · have oo := (HP.out.ow m hlt).1
          rw [upF_at, fill_flat (HOK.out m hlt)] at oo
          have hlk : k < (L m).length := by rw [HLm.out]; exact hkn
          have hll : (List.replicate k (mkI m) ++ (L m).drop k).length = n0 := by rw [List.length_append, List.length_replicate, List.length_drop, HLm.out]; omega
          have oi : OwnI wr base (.slice a0 n0 k0) (List.replicate k (mkI m) ++ (L m).drop k) := by
            unfold OwnI
            rw [hll]
            rw [HV.out] at oo
            exact oo
          have okm := mkI_ok (i := m) (by omega)
          obtain ⟨g, cap, ev, hgl, w2, es, o2, t2, z2⟩ := own_set oi (fun x hx => by
            rcases List.mem_append.1 hx with hx | hx
            · rw [(List.mem_replicate.1 hx).2]; exact okm
            · exact HOK.out m hlt x (List.mem_of_mem_drop hx)) (i := k) (by rw [hll]; exact hkn) okm
          rw [hll] at ev
          injection ev with ev1 ev2 ev3
          subst ev1
          have hz0 : w.heap.size ≤ wr.heap.size := HP.out.be.size
          have hzb : base ≤ wr.heap.size := Nat.le_trans hbase hz0
          have NX : Hid (Ph1 w w2 base q 2 B cB N 37 33 qo V tz (upF (mF V xC (fun i => flatI (L i)) m) m (fillC (k + 1) (xC m) (flatI (L m))))) := by
            have := HP.out.chg hlt (F' := fillC (k + 1) (xC m) (flatI (L m))) (w' := w2) (by
              rw [fill_flat (HOK.out m hlt), ← set_fill hlk (mkI m), HV.out]
              have o3 := o2
              unfold OwnI at o3
              rw [List.length_set, hll] at o3
              exact o3) (by rw [HV.out]; exact t2) hzb hz0
            rw [upF_up] at this
            exact this
          have ES := hidMk es
          clear oo oi hll hlk es o2 t2 z2 HP ev3
          go_upto_region 7 with fail
          refine al7 q (.int .i64 (m : Int)) (.int .i64 (k : Int)) (.slice (some ⟨B, 0, none⟩) N cB) (.pointer (some ⟨B, 0 + m, none⟩)) (.slice (some ⟨g, 0, none⟩) n0 k0) (.pointer (some ⟨g, 0 + k * 33, none⟩)) (-7 - (m : Int)) w2 _ wr _ rfl rfl rfl rfl (by rw [Nat.zero_add]; exact ES.out) (load_idss (by rw [Nat.zero_add]; exact cq)) (fun W => ix_ids hlt (by omega) W) (load_ids (by rw [Nat.zero_add]; exact cm)) (fun W => by go_simp) (fun W => sub7 (by omega) W) (fun W => ix_id hkn (by omega) W) ?_
          intro a' w' hw' ha
          obtain rfl : w2 = w' := hw'.symm
          subst ha
          simp only [Act.put, List.setIfInBounds_toArray, List.set_cons_zero, List.set_cons_succ]
          clear ES cq cm
          go_wp2
          exact ⟨⟨k + 1, by omega, by go_num, NX⟩, by simp [intOf]; omega⟩
        · obtain rfl : k = n0 := by omega
          have NX : Hid (Ph1 w wr base q 2 B cB N 37 33 qo V tz (mF V xC (fun i => flatI (L i)) (m + 1))) := by
            have he : upF (mF V xC (fun i => flatI (L i)) m) m (fillC (V m).n (xC m) (flatI (L m))) = mF V xC (fun i => flatI (L i)) (m + 1) := mF_end V xC (fun i => flatI (L i)) m (by show (flatI (L m)).length = _; rw [flatI_len (HOK.out m hlt), xC_len, HLm.out, HV.out]; show 33 * k = k * 33; omega)
            rw [HV.out] at he
            rw [← he]
            exact HP
          clear HP
          go_wp2
          exact ⟨⟨m + 1, by omega, by go_num, NX⟩, by simp [intOf]; omega⟩
    · obtain rfl : m = N := by omega
      have zb : base ≤ wr.heap.size := Nat.le_trans hbase HP.out.be.size
      have hz00 : w.heap.size ≤ wr.heap.size := HP.out.be.size
      have HQ : Hid (∃ tg G, Ph2 w wr base q 2 B cB m 37 33 41 qo V xC tz tg 0 0 G (.slice none 0 0)) := ⟨_, _, ph2_start HP.out zb hz00⟩
      have cq := HP.out.bk.cq
      clear HP zb HLN HOK
      go_wp2
      clear cq
      go_loopw [5, 6] (fun v5 v6 wr => ∃ j : Nat, j ≤ m ∧ v6 = .int .i64 (j : Int) ∧ Hid (∃ tg G, Ph2 w wr base q 2 B cB m 37 33 41 qo V xC tz tg j j G v5)) (fun _ v6 _ => m - (intOf v6).toNat)
      case atStart => exact ⟨0, by omega, rfl, HQ⟩
      case round =>
        clear HQ
        obtain ⟨j, hj, rfl, HP⟩ := hrel
        by_cases hjm : j < m
        · obtain ⟨tg1, G, hP⟩ := HP.out
          obtain ⟨l, hl⟩ : ∃ l, V j = l := ⟨_, rfl⟩
          obtain ⟨a0, n0, k0⟩ := l
          have hnm : n0 ≤ 2600000000000 := by have := hn j hjm; rw [hl] at this; exact this
          have HV := hidMk hl
          have oo : wr.ownsRow base 37 33 (.slice a0 n0 k0) n0 (rpC n0 (xC j)) := by have := hP.ow j (Nat.le_refl _) hjm; rw [hl] at this; exact this
          have to : Tg tg1 (.slice a0 n0 k0) (j + 1) := by have := (hP.rd j hjm).2.1; rw [hl] at this; exact this
          obtain ⟨W, hW1, hW2⟩ : ∃ W, wr.heap.size ≤ W ∧ W ≤ wr.heap.size := ⟨_, Nat.le_refl _, Nat.le_refl _⟩
          have hv : Hid (∀ b off, 0 < n0 → a0 = some ⟨b, off, none⟩ → (Value.slice a0 n0 k0).ownBlock = some b ∧ off = 0 ∧ b < W) := fun b off hn e => by
            rcases oo.2 with ⟨e1, _⟩ | ⟨g, cap, cur, e1, _, hg, _⟩
            · simp at e1; omega
            · simp only [Value.slice.injEq] at e1
              rw [e] at e1
              obtain ⟨e2, _⟩ := e1
              simp at e2
              have := (Array.getElem?_eq_some_iff.1 hg).1
              exact ⟨by rw [e]; rfl, e2.2, by omega⟩
          obtain ⟨aA, cA, hA⟩ := own_slice hP.al.1
          subst hA
          have HI : Hid (∃ tg, Ph2 w wr base q 2 B cB m 37 33 41 qo V xC tz tg (j + 1) j G (.slice aA j cA) ∧ Gr wr base 37 33 W tg (xC j) j n0 k0 0 a0 (.slice a0 n0 k0)) := ⟨tg1, hP.weak _ (by omega), oo, to, .inl rfl, hW2⟩
          have cq := hP.bk.cq
          have cm : wr.cell? ⟨B, j, none⟩ = some (.slice a0 n0 k0) := by have := hP.bk.cr j hjm; rw [hl] at this; exact this
          clear oo to hP HP hl hW1 hW2
          go_wp2
          clear cq cm
          go_loopw [7, 8] (fun v7 v8 wx => ∃ k : Nat, k ≤ 20 ∧ v8 = .int .i64 (k : Int) ∧ Hid (∃ tg, Ph2 w wx base q 2 B cB m 37 33 41 qo V xC tz tg (j + 1) j G (.slice aA j cA) ∧ Gr wx base 37 33 W tg (xC j) j n0 k0 k a0 v7)) (fun _ v8 _ => 20 - (intOf v8).toNat)
          case atStart => exact ⟨0, by omega, rfl, HI⟩
          case round =>
            clear HI
            obtain ⟨k, hk, rfl, HI⟩ := hrel
            obtain ⟨tg2, P, og, tgg, hg, hWx⟩ := HI.out
            obtain ⟨ga, gc, rfl⟩ := own_slice og
            obtain ⟨gn, hgn⟩ : ∃ gn, n0 + k = gn := ⟨_, rfl⟩
            have HGN := hidMk hgn
            rw [hgn] at og tgg hg ⊢
            clear HI
            by_cases hlt : k < 20
            · have zb : base ≤ wr.heap.size := P.zb
              obtain ⟨w1, g', w2, e1, e2, own', b1, gr, h4⟩ := app_mark og (show j ≤ 7700000000000 by omega) (by omega) zb
              have E1 := hidMk e1
              have E2 := hidMk e2
              have PA := P.below b1
              have YA : RdC w1 a0 n0 (xC j) := by have := (PA.rd j hjm).1; rw [HV.out] at this; exact this
              have hl2 : ∀ b, (Value.slice ga gn gc).ownBlock = some b → base ≤ b ∧ b < w1.heap.size := fun b e => by have := World.ownsRow.lt og b e; have := b1.size; omega
              have own2 : w2.ownsRow base 37 33 g' (n0 + k + 1) (rpC (n0 + k + 1) (xC j)) := by rw [HGN.out]; exact own'
              obtain ⟨yn, gn2⟩ := grow_step (cap := k0) (Nat.le_trans hWx b1.size) (by rw [xC_len]; decide) YA hv.out own2 gr h4 hg
              have h5 : g'.ownBlock = (Value.slice ga gn gc).ownBlock ∨ g'.ownBlock = some w1.heap.size := by rcases h4 with e | ⟨e, _⟩; exact .inl e; exact .inr e
              have hrd : ∀ i, i + 1 = j + 1 → i < m → RdC w2 (V i).a (V i).n (xC i) := fun i e hi => by
                obtain rfl : i = j := by omega
                rw [HV.out]
                exact yn
              obtain ⟨P2, T2⟩ := PA.grow (j + 1) (.slice ga gn gc) g' (by omega) gr tgg hl2 h5 hrd (fun i h1 _ => by omega) (fun i hi => by omega) (by omega)
              have NX : Hid (∃ tg, Ph2 w w2 base q 2 B cB m 37 33 41 qo V xC tz tg (j + 1) j G (.slice aA j cA) ∧ Gr w2 base 37 33 W tg (xC j) j n0 k0 (k + 1) a0 g') := ⟨_, P2, own2, T2, gn2, Nat.le_trans (Nat.le_trans hWx b1.size) gr.size⟩
              clear e1 e2 PA YA hl2 own2 yn gn2 h5 hrd P2 T2 own' b1 gr h4 P og tgg hg hWx zb
              go_upto_region 16 with fail
              refine al16 (.slice ga gn gc) (.int .i64 (j : Int)) (.slice (some ⟨wr.heap.size, 0, none⟩) 1 1) g' (-7 - (j : Int)) w1 w2 _ wr _ rfl rfl rfl E1.out E2.out (fun W => by go_simp) (fun W => sub7 (by omega) W) ?_
              intro a' w' hw' ha
              obtain rfl : w2 = w' := hw'.symm
              subst ha
              simp only [Act.put, List.setIfInBounds_toArray, List.set_cons_zero, List.set_cons_succ]
              clear E1 E2 HGN
              go_wp2
              exact ⟨⟨k + 1, by omega, by go_num, NX⟩, by simp [intOf]; omega⟩
            · obtain rfl : k = 20 := by omega
              clear hlt
              have zb : base ≤ wr.heap.size := P.zb
              have hlen : ((List.range j).map G).length = j := by simp
              have al0 := P.al.1
              obtain ⟨w1, all', w2, e1, e2, rows', b1, gr, hblk⟩ := app_list (rows := (List.range j).map G) (by rw [hlen]; exact al0) (.slice ga gn gc) rfl rfl (by rw [hlen]; omega) zb
              rw [hlen] at rows'
              have E1 := hidMk e1
              have E2 := hidMk e2
              have og2 : w1.ownsRow base 37 33 (.slice ga gn gc) ((V j).n + 20) (rpC ((V j).n + 20) (xC j)) := by
                have := own_below og b1
                rw [HV.out]
                simp only
                rw [HGN.out]
                exact this
              obtain ⟨tg3, P3⟩ := (P.below b1).done hjm (.slice ga gn gc) all' og2 tgg gr hblk rows'
              have NX : Hid (∃ tg G, Ph2 w w2 base q 2 B cB m 37 33 41 qo V xC tz tg (j + 1) (j + 1) G all') := ⟨_, _, P3⟩
              clear e1 e2 rows' b1 gr hblk og2 P3 P og tgg hg hWx zb al0 hlen HGN
              go_upto_region 17 with fail
              refine al17 (.slice aA j cA) (.slice ga gn gc) (.slice (some ⟨wr.heap.size, 0, none⟩) 1 1) all' w1 w2 _ wr _ rfl rfl rfl E1.out E2.out ?_
              intro a' w' hw' ha
              obtain rfl : w2 = w' := hw'.symm
              subst ha
              simp only [Act.put, List.setIfInBounds_toArray, List.set_cons_zero, List.set_cons_succ]
              clear E1 E2
              go_wp2
              exact ⟨⟨j + 1, by omega, by go_num, NX⟩, by simp [intOf]; omega⟩
        · obtain rfl : j = m := by omega
          obtain ⟨tg1, G, hP⟩ := HP.out
          obtain ⟨A, cA, rfl, cG⟩ : ∃ A cA, u5 = .slice (some ⟨A, 0, none⟩) j cA ∧ ∀ wx, Below wr.heap.size wr wx → ∀ i, i < j → wx.cell? ⟨A, i, none⟩ = some (G i) := by
            have hc := fun g hg wx (hb : Below wr.heap.size wr wx) => World.ownsRow.cells (own_below hP.al.1 hb) (g := g) hg
            rcases hP.al.1.2 with ⟨_, hn0⟩ | ⟨g, cap, cur, rfl, _⟩
            · omega
            · refine ⟨g, cap, rfl, fun wx hb i hi => ?_⟩
              have := hc g rfl wx hb i (G i) (by rw [List.getElem?_map, List.getElem?_range hi]; rfl)
              rw [Addr.add_mid, Nat.zero_add] at this
              exact this
          have HC := hidMk cG
          have PP : Hid (∀ wx, Below wr.heap.size wr wx → Ph2 w wx base q 2 B cB j 37 33 41 qo V xC tz tg1 j j G (.slice (some ⟨A, 0, none⟩) j cA)) := fun wx hb => hP.below hb
          have cq := hP.bk.cq
          clear HP hP cG
          go_wp2
          clear cq
          generalize wr = wB at *
          go_loopw [9] (fun v9 wx => ∃ k : Nat, k ≤ j ∧ v9 = .int .i64 (k : Int) ∧ Hid (Below wB.heap.size wB wx)) (fun v9 _ => j - (intOf v9).toNat)
          case atStart => exact ⟨0, by omega, rfl, Below.refl _ _⟩
          case round =>
            obtain ⟨k, hk, rfl, HB⟩ := hrel
            by_cases hkj : k < j
            · obtain ⟨l, hl⟩ : ∃ l, V k = l := ⟨_, rfl⟩
              obtain ⟨a0, n0, k0⟩ := l
              have hnm : n0 ≤ 2600000000000 := by have := hn k hkj; rw [hl] at this; exact this
              have PF := PP.out _ HB.out
              have cg := HC.out _ HB.out k hkj
              obtain ⟨og, _⟩ := PF.gs k hkj
              rw [hl] at og
              obtain ⟨nn, hnn⟩ : ∃ nn, nn = n0 + 20 := ⟨_, rfl⟩
              have hnb : nn ≤ 2600000000020 := by omega
              have og' : wr.ownsRow base 37 33 (G k) nn (rpC nn (xC k)) := by rw [hnn]; exact og
              clear og hnn
              obtain ⟨ga, gc, e1⟩ := own_slice og'
              rw [e1] at cg og'
              have cm : wr.cell? ⟨B, k, none⟩ = some (.slice a0 n0 k0) := by have := PF.bk.cr k hkj; rw [hl] at this; exact this
              have rdk : RdC wr a0 n0 (xC k) := by have := (PF.rd k hkj).1; rw [hl] at this; exact this
              have cq := PF.bk.cq
              have ZC : Hid (∀ wx, Below wr.heap.size wr wx → wx.cell? ⟨A, k, none⟩ = some (.slice ga nn gc) ∧ RdC wx ga nn (xC k)) := fun wx hb => ⟨(hb.cell (p := ⟨A, k, none⟩) (block_lt_of_cell cg)).trans cg, (own_rd og').below hb⟩
              have YC : Hid (∀ wx, Below wr.heap.size wr wx → wx.cell? ⟨q, 2, none⟩ = some (.slice (some ⟨B, 0, none⟩) j cB) ∧ wx.cell? ⟨B, k, none⟩ = some (.slice a0 n0 k0) ∧ RdC wx a0 n0 (xC k)) := fun wx hb => ⟨(hb.cell (p := ⟨q, 2, none⟩) (block_lt_of_cell cq)).trans cq, (hb.cell (p := ⟨B, k, none⟩) (block_lt_of_cell cm)).trans cm, rdk.below hb⟩
              have TRW : Hid (∀ wx, Below wr.heap.size wr wx → Below wB.heap.size wB wx) := fun wx hb => HB.out.trans (hb.mono HB.out.size)
              have okk := mkI_ok (i := k) (by omega)
              have hkb : k ≤ 7700000000000 := by omega
              clear PF hl og' e1 rdk
              generalize wr = wC at *
              go_wp2
              clear cq cm cg
              go_loopw [10] (fun v10 wx => ∃ i : Nat, i ≤ nn ∧ v10 = .int .i64 (i : Int) ∧ Hid (Below wC.heap.size wC wx)) (fun v10 _ => nn - (intOf v10).toNat)
              case atStart => exact ⟨0, by omega, rfl, Below.refl _ _⟩
              case round =>
                obtain ⟨i, hi, rfl, HB2⟩ := hrel
                obtain ⟨c1, rz⟩ := ZC.out _ HB2.out
                by_cases hlt : i < nn
                · obtain ⟨bb, bo, rfl, hld⟩ := rdC_load rz hlt hkb
                  obtain ⟨w1, ea, es⟩ := id_new wr (mkI k) okk
                  obtain ⟨W3, hW3⟩ : ∃ W, W = wr.alloc (.cells (mkI k).c.toArray 37) := ⟨_, rfl⟩
                  have B3 : Hid (Below wr.heap.size wr W3) := by rw [hW3]; exact (Below.refl _ _).alloc (Nat.le_refl _) _
                  have I3 : Hid (IdAt W3 wr.heap.size (mkI k)) := by rw [hW3]; exact heap_alloc_new _ _
                  rw [← hW3] at es
                  have EA := hidMk ea
                  have ES := hidMk es
                  have LD := hidMk hld
                  have LC := hidMk (load_ids c1)
                  have NB : Hid (Below wC.heap.size wC W3) := HB2.out.trans (B3.out.mono HB2.out.size)
                  clear rz hW3 ea es hld
                  go_upto_region 24 with fail
                  clear c1
                  refine al24 (.slice (some ⟨A, 0, none⟩) j cA) (.int .i64 (k : Int)) (.int .i64 (i : Int)) (.pointer (some ⟨A, 0 + k, none⟩)) (.slice (some ⟨bb, bo, none⟩) nn gc) (.pointer (some ⟨bb, bo + i * 33, none⟩)) (mkI k).v (.pointer (some ⟨wr.heap.size, 0, none⟩)) w1 W3 _ wr _ rfl rfl rfl rfl EA.out ES.out (fun W => ix_ids hkj (by omega) W) (by rw [Nat.zero_add]; exact LC.out) (fun W => ix_id hlt (by omega) W) LD.out ?_
                  intro a' w' hw' ha
                  obtain rfl : W3 = w' := hw'.symm
                  subst ha
                  simp only [Act.put, List.setIfInBounds_toArray, List.set_cons_zero, List.set_cons_succ]
                  clear EA ES LD LC
                  go_upto_region 25 with fail
                  refine al25 (.pointer (some ⟨wr.heap.size, 0, none⟩)) (.int .i64 (k : Int)) (mkI k).v (-7 - (k : Int)) _ W3 _ rfl rfl rfl (load_id okk I3.out) (fun W => by go_simp) (fun W => sub7 hkb W) (fun W => guard_id _ _ (mkI k) (mkI k) _ _) (fun W => by have := eql_id (mkI k) (mkI k) okk okk W; rw [decide_eq_true rfl] at this; exact this) ?_
                  intro a' w' hw' ha
                  obtain rfl : W3 = w' := hw'.symm
                  subst ha
                  simp only [Act.put, List.setIfInBounds_toArray, List.set_cons_zero, List.set_cons_succ]
                  clear B3 I3
                  go_wp2
                  exact ⟨⟨i + 1, by omega, by go_num, NB⟩, by simp [intOf]; omega⟩
                · obtain rfl : i = nn := by omega
                  clear hlt rz
                  obtain ⟨cq, cm, rz⟩ := YC.out _ HB2.out
                  clear rz
                  generalize wr = wD at *
                  go_wp2
                  clear c1 cq cm
                  go_loopw [12] (fun v12 wx => ∃ i : Nat, i ≤ n0 ∧ v12 = .int .i64 (i : Int) ∧ Hid (Below wC.heap.size wC wx)) (fun v12 _ => n0 - (intOf v12).toNat)
                  case atStart => exact ⟨0, by omega, rfl, HB2⟩
                  case round =>
                    obtain ⟨i2, hi2, rfl, HB3⟩ := hrel
                    obtain ⟨cq, cm, rz⟩ := YC.out _ HB3.out
                    by_cases hlt : i2 < n0
                    · obtain ⟨bb, bo, rfl, hld⟩ := rdC_load rz hlt hkb
                      obtain ⟨w1, ea, es⟩ := id_new wr (mkI k) okk
                      obtain ⟨W3, hW3⟩ : ∃ W, W = wr.alloc (.cells (mkI k).c.toArray 37) := ⟨_, rfl⟩
                      have B3 : Hid (Below wr.heap.size wr W3) := by rw [hW3]; exact (Below.refl _ _).alloc (Nat.le_refl _) _
                      have I3 : Hid (IdAt W3 wr.heap.size (mkI k)) := by rw [hW3]; exact heap_alloc_new _ _
                      rw [← hW3] at es
                      have EA := hidMk ea
                      have ES := hidMk es
                      have LD := hidMk hld
                      have LC := hidMk (load_ids cm)
                      have LQ := hidMk (load_idss cq)
                      have NB : Hid (Below wC.heap.size wC W3) := HB3.out.trans (B3.out.mono HB3.out.size)
                      clear rz hW3 ea es hld
                      go_upto_region 30 with fail
                      clear cq cm
                      refine al30 q (.int .i64 (k : Int)) (.int .i64 (i2 : Int)) (.slice (some ⟨B, 0, none⟩) j cB) (.pointer (some ⟨B, 0 + k, none⟩)) (.slice (some ⟨bb, bo, none⟩) n0 k0) (.pointer (some ⟨bb, bo + i2 * 33, none⟩)) (mkI k).v (.pointer (some ⟨wr.heap.size, 0, none⟩)) w1 W3 _ wr _ rfl rfl rfl rfl EA.out ES.out (by rw [Nat.zero_add]; exact LQ.out) (fun W => ix_ids hkj (by omega) W) (by rw [Nat.zero_add]; exact LC.out) (fun W => ix_id hlt (by omega) W) LD.out ?_
                      intro a' w' hw' ha
                      obtain rfl : W3 = w' := hw'.symm
                      subst ha
                      simp only [Act.put, List.setIfInBounds_toArray, List.set_cons_zero, List.set_cons_succ]
                      clear EA ES LD LC LQ
                      go_upto_region 31 with fail
                      refine al31 (.pointer (some ⟨wr.heap.size, 0, none⟩)) (.int .i64 (k : Int)) (mkI k).v (-7 - (k : Int)) _ W3 _ rfl rfl rfl (load_id okk I3.out) (fun W => by go_simp) (fun W => sub7 hkb W) (fun W => guard_id _ _ (mkI k) (mkI k) _ _) (fun W => by have := eql_id (mkI k) (mkI k) okk okk W; rw [decide_eq_true rfl] at this; exact this) ?_
                      intro a' w' hw' ha
                      obtain rfl : W3 = w' := hw'.symm
                      subst ha
                      simp only [Act.put, List.setIfInBounds_toArray, List.set_cons_zero, List.set_cons_succ]
                      clear B3 I3
                      go_wp2
                      exact ⟨⟨i2 + 1, by omega, by go_num, NB⟩, by simp [intOf]; omega⟩
                    · obtain rfl : i2 = n0 := by omega
                      have NB : Hid (Below wB.heap.size wB wr) := TRW.out _ HB3.out
                      clear hlt rz
                      go_wp2
                      exact ⟨⟨k + 1, by omega, by go_num, NB⟩, by simp [intOf]; omega⟩
            · obtain rfl : k = j := by omega
              have PF := PP.out _ HB.out
              have HR : Hid (Below base w wr ∧ wr.heap[q]? = qo ∧ ∀ k, k < w.heap.size → tz k = 0 → wr.heap[k]? = w.heap[k]?) := ⟨PF.be, PF.bk.ho, fun k hk ht => (PF.fr k hk ht).2⟩
              clear hkj PF
              go_wp2
              go_ret
              exact ⟨rfl, HR.out.1, HR.out.2.1, HR.out.2.2⟩
end Go.Proofs.Ytoofljkgdjjllaa.B

namespace Go.Proofs.Ytoofljkgdjjllaa
open Go.RowKit
set_option linter.unusedVariables false
set_option linter.unusedSimpArgs false

set_option maxRecDepth 100000 in
set_option maxHeartbeats 1000000 in
theorem aloneBytes (q : Nat) (w : World) (c : w.cell? ⟨q, 0, none⟩ = some (.slice none 0 0)) :
    Calls Try.prog 54 #[.pointer (some ⟨q, 0, none⟩)] w fun e w' => e = .returned (.bool true) ∧ w' = w := by
  go_enter Try.func54, Try.ntmps54
  go_wp2
  go_loopw [3] (fun i wr => i = .int .i64 0 ∧ wr = w) (fun _ _ => 0)
  case atStart => exact ⟨rfl, rfl⟩
  case round =>
    obtain ⟨rfl, rfl⟩ := hrel
    go_wp2
    go_loopw [5, 6] (fun all i wy => all = .slice none 0 0 ∧ i = .int .i64 0 ∧ wy = wr) (fun _ _ _ => 0)
    case atStart => exact ⟨rfl, rfl, rfl⟩
    case round =>
      obtain ⟨rfl, rfl, rfl⟩ := hrel
      go_wp2
      go_loopw [9] (fun i wz => i = .int .i64 0 ∧ wz = wr) (fun _ _ => 0)
      case atStart => exact ⟨rfl, rfl⟩
      case round =>
        obtain ⟨rfl, rfl⟩ := hrel
        go_wp2
        go_ret
        exact ⟨rfl, rfl⟩
end Go.Proofs.Ytoofljkgdjjllaa

namespace Go.Proofs.Ytoofljkgdjjllaa
open Go.RowKit
set_option linter.unusedVariables false
set_option linter.unusedSimpArgs false

set_option maxRecDepth 100000 in
set_option maxHeartbeats 1000000 in
theorem aloneHashes (q : Nat) (w : World) (c : w.cell? ⟨q, 1, none⟩ = some (.slice none 0 0)) :
    Calls Try.prog 55 #[.pointer (some ⟨q, 0, none⟩)] w fun e w' => e = .returned (.bool true) ∧ w' = w := by
  go_enter Try.func55, Try.ntmps55
  go_wp2
  go_loopw [3] (fun i wr => i = .int .i64 0 ∧ wr = w) (fun _ _ => 0)
  case atStart => exact ⟨rfl, rfl⟩
  case round =>
    obtain ⟨rfl, rfl⟩ := hrel
    go_wp2
    go_loopw [5, 6] (fun all i wy => all = .slice none 0 0 ∧ i = .int .i64 0 ∧ wy = wr) (fun _ _ _ => 0)
    case atStart => exact ⟨rfl, rfl, rfl⟩
    case round =>
      obtain ⟨rfl, rfl, rfl⟩ := hrel
      go_wp2
      go_loopw [9] (fun i wz => i = .int .i64 0 ∧ wz = wr) (fun _ _ => 0)
      case atStart => exact ⟨rfl, rfl⟩
      case round =>
        obtain ⟨rfl, rfl⟩ := hrel
        go_wp2
        go_ret
        exact ⟨rfl, rfl⟩
set_option maxRecDepth 100000 in
set_option maxHeartbeats 1000000 in
theorem aloneIds (q : Nat) (w : World) (c : w.cell? ⟨q, 2, none⟩ = some (.slice none 0 0)) :
    Calls Try.prog 56 #[.pointer (some ⟨q, 0, none⟩)] w fun e w' => e = .returned (.bool true) ∧ w' = w := by
  go_enter Try.func56, Try.ntmps56
  go_wp2
  go_loopw [3] (fun i wr => i = .int .i64 0 ∧ wr = w) (fun _ _ => 0)
  case atStart => exact ⟨rfl, rfl⟩
  case round =>
    obtain ⟨rfl, rfl⟩ := hrel
    go_wp2
    go_loopw [5, 6] (fun all i wy => all = .slice none 0 0 ∧ i = .int .i64 0 ∧ wy = wr) (fun _ _ _ => 0)
    case atStart => exact ⟨rfl, rfl, rfl⟩
    case round =>
      obtain ⟨rfl, rfl, rfl⟩ := hrel
      go_wp2
      go_loopw [9] (fun i wz => i = .int .i64 0 ∧ wz = wr) (fun _ _ => 0)
      case atStart => exact ⟨rfl, rfl⟩
      case round =>
        obtain ⟨rfl, rfl⟩ := hrel
        go_wp2
        go_ret
        exact ⟨rfl, rfl⟩
set_option maxRecDepth 100000 in
set_option maxHeartbeats 1000000 in
theorem aloneTexts (q : Nat) (w : World) (c : w.cell? ⟨q, 3, none⟩ = some (.slice none 0 0)) :
    Calls Try.prog 57 #[.pointer (some ⟨q, 0, none⟩)] w fun e w' => e = .returned (.bool true) ∧ w' = w := by
  go_enter Try.func57, Try.ntmps57
  go_wp2
  go_loopw [3] (fun i wr => i = .int .i64 0 ∧ wr = w) (fun _ _ => 0)
  case atStart => exact ⟨rfl, rfl⟩
  case round =>
    obtain ⟨rfl, rfl⟩ := hrel
    go_wp2
    go_loopw [5, 6] (fun all i wy => all = .slice none 0 0 ∧ i = .int .i64 0 ∧ wy = wr) (fun _ _ _ => 0)
    case atStart => exact ⟨rfl, rfl, rfl⟩
    case round =>
      obtain ⟨rfl, rfl, rfl⟩ := hrel
      go_wp2
      go_loopw [9] (fun i wz => i = .int .i64 0 ∧ wz = wr) (fun _ _ => 0)
      case atStart => exact ⟨rfl, rfl⟩
      case round =>
        obtain ⟨rfl, rfl⟩ := hrel
        go_wp2
        go_ret
        exact ⟨rfl, rfl⟩
set_option maxRecDepth 100000 in
set_option maxHeartbeats 1000000 in
theorem aloneInts (q : Nat) (w : World) (c : w.cell? ⟨q, 4, none⟩ = some (.slice none 0 0)) :
    Calls Try.prog 58 #[.pointer (some ⟨q, 0, none⟩)] w fun e w' => e = .returned (.bool true) ∧ w' = w := by
  go_enter Try.func58, Try.ntmps58
  go_wp2
  go_loopw [3] (fun i wr => i = .int .i64 0 ∧ wr = w) (fun _ _ => 0)
  case atStart => exact ⟨rfl, rfl⟩
  case round =>
    obtain ⟨rfl, rfl⟩ := hrel
    go_wp2
    go_loopw [5, 6] (fun all i wy => all = .slice none 0 0 ∧ i = .int .i64 0 ∧ wy = wr) (fun _ _ _ => 0)
    case atStart => exact ⟨rfl, rfl, rfl⟩
    case round =>
      obtain ⟨rfl, rfl, rfl⟩ := hrel
      go_wp2
      go_loopw [9] (fun i wz => i = .int .i64 0 ∧ wz = wr) (fun _ _ => 0)
      case atStart => exact ⟨rfl, rfl⟩
      case round =>
        obtain ⟨rfl, rfl⟩ := hrel
        go_wp2
        go_ret
        exact ⟨rfl, rfl⟩
set_option maxRecDepth 100000 in
set_option maxHeartbeats 1000000 in
theorem aloneEntries (q : Nat) (w : World) (c : w.cell? ⟨q, 5, none⟩ = some (.slice none 0 0)) :
    Calls Try.prog 59 #[.pointer (some ⟨q, 0, none⟩)] w fun e w' => e = .returned (.bool true) ∧ w' = w := by
  go_enter Try.func59, Try.ntmps59
  go_wp2
  go_loopw [3] (fun i wr => i = .int .i64 0 ∧ wr = w) (fun _ _ => 0)
  case atStart => exact ⟨rfl, rfl⟩
  case round =>
    obtain ⟨rfl, rfl⟩ := hrel
    go_wp2
    go_loopw [5, 6] (fun all i wy => all = .slice none 0 0 ∧ i = .int .i64 0 ∧ wy = wr) (fun _ _ _ => 0)
    case atStart => exact ⟨rfl, rfl, rfl⟩
    case round =>
      obtain ⟨rfl, rfl, rfl⟩ := hrel
      go_wp2
      go_loopw [9] (fun i wz => i = .int .i64 0 ∧ wz = wr) (fun _ _ => 0)
      case atStart => exact ⟨rfl, rfl⟩
      case round =>
        obtain ⟨rfl, rfl⟩ := hrel
        go_wp2
        go_ret
        exact ⟨rfl, rfl⟩
set_option maxRecDepth 100000 in
set_option maxHeartbeats 1000000 in
theorem aloneEdits (q : Nat) (w : World) (c : w.cell? ⟨q, 6, none⟩ = some (.slice none 0 0)) :
    Calls Try.prog 60 #[.pointer (some ⟨q, 0, none⟩)] w fun e w' => e = .returned (.bool true) ∧ w' = w := by
  go_enter Try.func60, Try.ntmps60
  go_wp2
  go_loopw [3] (fun i wr => i = .int .i64 0 ∧ wr = w) (fun _ _ => 0)
  case atStart => exact ⟨rfl, rfl⟩
  case round =>
    obtain ⟨rfl, rfl⟩ := hrel
    go_wp2
    go_loopw [5, 6] (fun all i wy => all = .slice none 0 0 ∧ i = .int .i64 0 ∧ wy = wr) (fun _ _ _ => 0)
    case atStart => exact ⟨rfl, rfl, rfl⟩
    case round =>
      obtain ⟨rfl, rfl, rfl⟩ := hrel
      go_wp2
      go_loopw [9] (fun i wz => i = .int .i64 0 ∧ wz = wr) (fun _ _ => 0)
      case atStart => exact ⟨rfl, rfl⟩
      case round =>
        obtain ⟨rfl, rfl⟩ := hrel
        go_wp2
        go_ret
        exact ⟨rfl, rfl⟩
end Go.Proofs.Ytoofljkgdjjllaa

namespace Go.Proofs.Ytoofljkgdjjllaa
open Go.RowKit
set_option linter.unusedVariables false
set_option linter.unusedSimpArgs false

set_option maxRecDepth 100000 in
set_option maxHeartbeats 1000000 in
theorem aloneOps (q : Nat) (w : World) (c : w.cell? ⟨q, 7, none⟩ = some (.slice none 0 0)) :
    Calls Try.prog 61 #[.pointer (some ⟨q, 0, none⟩)] w fun e w' => e = .returned (.bool true) ∧ w' = w := by
  go_enter Try.func61, Try.ntmps61
  go_wp2
  go_loopw [3] (fun i wr => i = .int .i64 0 ∧ wr = w) (fun _ _ => 0)
  case atStart => exact ⟨rfl, rfl⟩
  case round =>
    obtain ⟨rfl, rfl⟩ := hrel
    go_wp2
    go_loopw [5, 6] (fun all i wy => all = .slice none 0 0 ∧ i = .int .i64 0 ∧ wy = wr) (fun _ _ _ => 0)
    case atStart => exact ⟨rfl, rfl, rfl⟩
    case round =>
      obtain ⟨rfl, rfl, rfl⟩ := hrel
      go_wp2
      go_loopw [9] (fun i wz => i = .int .i64 0 ∧ wz = wr) (fun _ _ => 0)
      case atStart => exact ⟨rfl, rfl⟩
      case round =>
        obtain ⟨rfl, rfl⟩ := hrel
        go_wp2
        go_ret
        exact ⟨rfl, rfl⟩
set_option maxRecDepth 100000 in
set_option maxHeartbeats 1000000 in
theorem aloneSpans (q : Nat) (w : World) (c : w.cell? ⟨q, 8, none⟩ = some (.slice none 0 0)) :
    Calls Try.prog 62 #[.pointer (some ⟨q, 0, none⟩)] w fun e w' => e = .returned (.bool true) ∧ w' = w := by
  go_enter Try.func62, Try.ntmps62
  go_wp2
  go_loopw [3] (fun i wr => i = .int .i64 0 ∧ wr = w) (fun _ _ => 0)
  case atStart => exact ⟨rfl, rfl⟩
  case round =>
    obtain ⟨rfl, rfl⟩ := hrel
    go_wp2
    go_loopw [5, 6] (fun all i wy => all = .slice none 0 0 ∧ i = .int .i64 0 ∧ wy = wr) (fun _ _ _ => 0)
    case atStart => exact ⟨rfl, rfl, rfl⟩
    case round =>
      obtain ⟨rfl, rfl, rfl⟩ := hrel
      go_wp2
      go_loopw [9] (fun i wz => i = .int .i64 0 ∧ wz = wr) (fun _ _ => 0)
      case atStart => exact ⟨rfl, rfl⟩
      case round =>
        obtain ⟨rfl, rfl⟩ := hrel
        go_wp2
        go_ret
        exact ⟨rfl, rfl⟩
set_option maxRecDepth 100000 in
set_option maxHeartbeats 1000000 in
theorem aloneSteps (q : Nat) (w : World) (c : w.cell? ⟨q, 9, none⟩ = some (.slice none 0 0)) :
    Calls Try.prog 63 #[.pointer (some ⟨q, 0, none⟩)] w fun e w' => e = .returned (.bool true) ∧ w' = w := by
  go_enter Try.func63, Try.ntmps63
  go_wp2
  go_loopw [3] (fun i wr => i = .int .i64 0 ∧ wr = w) (fun _ _ => 0)
  case atStart => exact ⟨rfl, rfl⟩
  case round =>
    obtain ⟨rfl, rfl⟩ := hrel
    go_wp2
    go_loopw [5, 6] (fun all i wy => all = .slice none 0 0 ∧ i = .int .i64 0 ∧ wy = wr) (fun _ _ _ => 0)
    case atStart => exact ⟨rfl, rfl, rfl⟩
    case round =>
      obtain ⟨rfl, rfl, rfl⟩ := hrel
      go_wp2
      go_loopw [9] (fun i wz => i = .int .i64 0 ∧ wz = wr) (fun _ _ => 0)
      case atStart => exact ⟨rfl, rfl⟩
      case round =>
        obtain ⟨rfl, rfl⟩ := hrel
        go_wp2
        go_ret
        exact ⟨rfl, rfl⟩
set_option maxRecDepth 100000 in
set_option maxHeartbeats 1000000 in
theorem aloneCredits (q : Nat) (w : World) (c : w.cell? ⟨q, 10, none⟩ = some (.slice none 0 0)) :
    Calls Try.prog 64 #[.pointer (some ⟨q, 0, none⟩)] w fun e w' => e = .returned (.bool true) ∧ w' = w := by
  go_enter Try.func64, Try.ntmps64
  go_wp2
  go_loopw [3] (fun i wr => i = .int .i64 0 ∧ wr = w) (fun _ _ => 0)
  case atStart => exact ⟨rfl, rfl⟩
  case round =>
    obtain ⟨rfl, rfl⟩ := hrel
    go_wp2
    go_loopw [5, 6] (fun all i wy => all = .slice none 0 0 ∧ i = .int .i64 0 ∧ wy = wr) (fun _ _ _ => 0)
    case atStart => exact ⟨rfl, rfl, rfl⟩
    case round =>
      obtain ⟨rfl, rfl, rfl⟩ := hrel
      go_wp2
      go_loopw [9] (fun i wz => i = .int .i64 0 ∧ wz = wr) (fun _ _ => 0)
      case atStart => exact ⟨rfl, rfl⟩
      case round =>
        obtain ⟨rfl, rfl⟩ := hrel
        go_wp2
        go_ret
        exact ⟨rfl, rfl⟩
set_option maxRecDepth 100000 in
set_option maxHeartbeats 1000000 in
theorem aloneRights (q : Nat) (w : World) (c : w.cell? ⟨q, 11, none⟩ = some (.slice none 0 0)) :
    Calls Try.prog 65 #[.pointer (some ⟨q, 0, none⟩)] w fun e w' => e = .returned (.bool true) ∧ w' = w := by
  go_enter Try.func65, Try.ntmps65
  go_wp2
  go_loopw [3] (fun i wr => i = .int .i64 0 ∧ wr = w) (fun _ _ => 0)
  case atStart => exact ⟨rfl, rfl⟩
  case round =>
    obtain ⟨rfl, rfl⟩ := hrel
    go_wp2
    go_loopw [5, 6] (fun all i wy => all = .slice none 0 0 ∧ i = .int .i64 0 ∧ wy = wr) (fun _ _ _ => 0)
    case atStart => exact ⟨rfl, rfl, rfl⟩
    case round =>
      obtain ⟨rfl, rfl, rfl⟩ := hrel
      go_wp2
      go_loopw [9] (fun i wz => i = .int .i64 0 ∧ wz = wr) (fun _ _ => 0)
      case atStart => exact ⟨rfl, rfl⟩
      case round =>
        obtain ⟨rfl, rfl⟩ := hrel
        go_wp2
        go_ret
        exact ⟨rfl, rfl⟩
set_option maxRecDepth 100000 in
set_option maxHeartbeats 1000000 in
theorem aloneUpdates (q : Nat) (w : World) (c : w.cell? ⟨q, 12, none⟩ = some (.slice none 0 0)) :
    Calls Try.prog 66 #[.pointer (some ⟨q, 0, none⟩)] w fun e w' => e = .returned (.bool true) ∧ w' = w := by
  go_enter Try.func66, Try.ntmps66
  go_wp2
  go_loopw [3] (fun i wr => i = .int .i64 0 ∧ wr = w) (fun _ _ => 0)
  case atStart => exact ⟨rfl, rfl⟩
  case round =>
    obtain ⟨rfl, rfl⟩ := hrel
    go_wp2
    go_loopw [5, 6] (fun all i wy => all = .slice none 0 0 ∧ i = .int .i64 0 ∧ wy = wr) (fun _ _ _ => 0)
    case atStart => exact ⟨rfl, rfl, rfl⟩
    case round =>
      obtain ⟨rfl, rfl, rfl⟩ := hrel
      go_wp2
      go_loopw [9] (fun i wz => i = .int .i64 0 ∧ wz = wr) (fun _ _ => 0)
      case atStart => exact ⟨rfl, rfl⟩
      case round =>
        obtain ⟨rfl, rfl⟩ := hrel
        go_wp2
        go_ret
        exact ⟨rfl, rfl⟩
end Go.Proofs.Ytoofljkgdjjllaa

namespace Go.Proofs.Ytoofljkgdjjllaa
open Go.RowKit
set_option linter.unusedVariables false
set_option linter.unusedSimpArgs false

set_option maxRecDepth 100000 in
set_option maxHeartbeats 1000000 in
theorem aloneNodes (q : Nat) (w : World) (c : w.cell? ⟨q, 13, none⟩ = some (.slice none 0 0)) :
    Calls Try.prog 67 #[.pointer (some ⟨q, 0, none⟩)] w fun e w' => e = .returned (.bool true) ∧ w' = w := by
  go_enter Try.func67, Try.ntmps67
  go_wp2
  go_loopw [3] (fun i wr => i = .int .i64 0 ∧ wr = w) (fun _ _ => 0)
  case atStart => exact ⟨rfl, rfl⟩
  case round =>
    obtain ⟨rfl, rfl⟩ := hrel
    go_wp2
    go_loopw [5, 6] (fun all i wy => all = .slice none 0 0 ∧ i = .int .i64 0 ∧ wy = wr) (fun _ _ _ => 0)
    case atStart => exact ⟨rfl, rfl, rfl⟩
    case round =>
      obtain ⟨rfl, rfl, rfl⟩ := hrel
      go_wp2
      go_loopw [9] (fun i wz => i = .int .i64 0 ∧ wz = wr) (fun _ _ => 0)
      case atStart => exact ⟨rfl, rfl⟩
      case round =>
        obtain ⟨rfl, rfl⟩ := hrel
        go_wp2
        go_ret
        exact ⟨rfl, rfl⟩
set_option maxRecDepth 100000 in
set_option maxHeartbeats 1000000 in
theorem alonePatches (q : Nat) (w : World) (c : w.cell? ⟨q, 14, none⟩ = some (.slice none 0 0)) :
    Calls Try.prog 68 #[.pointer (some ⟨q, 0, none⟩)] w fun e w' => e = .returned (.bool true) ∧ w' = w := by
  go_enter Try.func68, Try.ntmps68
  go_wp2
  go_loopw [3] (fun i wr => i = .int .i64 0 ∧ wr = w) (fun _ _ => 0)
  case atStart => exact ⟨rfl, rfl⟩
  case round =>
    obtain ⟨rfl, rfl⟩ := hrel
    go_wp2
    go_loopw [5, 6] (fun all i wy => all = .slice none 0 0 ∧ i = .int .i64 0 ∧ wy = wr) (fun _ _ _ => 0)
    case atStart => exact ⟨rfl, rfl, rfl⟩
    case round =>
      obtain ⟨rfl, rfl, rfl⟩ := hrel
      go_wp2
      go_loopw [9] (fun i wz => i = .int .i64 0 ∧ wz = wr) (fun _ _ => 0)
      case atStart => exact ⟨rfl, rfl⟩
      case round =>
        obtain ⟨rfl, rfl⟩ := hrel
        go_wp2
        go_ret
        exact ⟨rfl, rfl⟩
set_option maxRecDepth 100000 in
set_option maxHeartbeats 1000000 in
theorem aloneImages (q : Nat) (w : World) (c : w.cell? ⟨q, 15, none⟩ = some (.slice none 0 0)) :
    Calls Try.prog 69 #[.pointer (some ⟨q, 0, none⟩)] w fun e w' => e = .returned (.bool true) ∧ w' = w := by
  go_enter Try.func69, Try.ntmps69
  go_wp2
  go_loopw [3] (fun i wr => i = .int .i64 0 ∧ wr = w) (fun _ _ => 0)
  case atStart => exact ⟨rfl, rfl⟩
  case round =>
    obtain ⟨rfl, rfl⟩ := hrel
    go_wp2
    go_loopw [5, 6] (fun all i wy => all = .slice none 0 0 ∧ i = .int .i64 0 ∧ wy = wr) (fun _ _ _ => 0)
    case atStart => exact ⟨rfl, rfl, rfl⟩
    case round =>
      obtain ⟨rfl, rfl, rfl⟩ := hrel
      go_wp2
      go_loopw [9] (fun i wz => i = .int .i64 0 ∧ wz = wr) (fun _ _ => 0)
      case atStart => exact ⟨rfl, rfl⟩
      case round =>
        obtain ⟨rfl, rfl⟩ := hrel
        go_wp2
        go_ret
        exact ⟨rfl, rfl⟩
set_option maxRecDepth 100000 in
set_option maxHeartbeats 1000000 in
theorem aloneForks (q : Nat) (w : World) (c : w.cell? ⟨q, 16, none⟩ = some (.slice none 0 0)) :
    Calls Try.prog 70 #[.pointer (some ⟨q, 0, none⟩)] w fun e w' => e = .returned (.bool true) ∧ w' = w := by
  go_enter Try.func70, Try.ntmps70
  go_wp2
  go_loopw [3] (fun i wr => i = .int .i64 0 ∧ wr = w) (fun _ _ => 0)
  case atStart => exact ⟨rfl, rfl⟩
  case round =>
    obtain ⟨rfl, rfl⟩ := hrel
    go_wp2
    go_loopw [5, 6] (fun all i wy => all = .slice none 0 0 ∧ i = .int .i64 0 ∧ wy = wr) (fun _ _ _ => 0)
    case atStart => exact ⟨rfl, rfl, rfl⟩
    case round =>
      obtain ⟨rfl, rfl, rfl⟩ := hrel
      go_wp2
      go_loopw [9] (fun i wz => i = .int .i64 0 ∧ wz = wr) (fun _ _ => 0)
      case atStart => exact ⟨rfl, rfl⟩
      case round =>
        obtain ⟨rfl, rfl⟩ := hrel
        go_wp2
        go_ret
        exact ⟨rfl, rfl⟩
set_option maxRecDepth 100000 in
set_option maxHeartbeats 1000000 in
theorem aloneRows (q : Nat) (w : World) (c : w.cell? ⟨q, 17, none⟩ = some (.slice none 0 0)) :
    Calls Try.prog 71 #[.pointer (some ⟨q, 0, none⟩)] w fun e w' => e = .returned (.bool true) ∧ w' = w := by
  go_enter Try.func71, Try.ntmps71
  go_wp2
  go_loopw [3] (fun i wr => i = .int .i64 0 ∧ wr = w) (fun _ _ => 0)
  case atStart => exact ⟨rfl, rfl⟩
  case round =>
    obtain ⟨rfl, rfl⟩ := hrel
    go_wp2
    go_loopw [5, 6] (fun all i wy => all = .slice none 0 0 ∧ i = .int .i64 0 ∧ wy = wr) (fun _ _ _ => 0)
    case atStart => exact ⟨rfl, rfl, rfl⟩
    case round =>
      obtain ⟨rfl, rfl, rfl⟩ := hrel
      go_wp2
      go_loopw [9] (fun i wz => i = .int .i64 0 ∧ wz = wr) (fun _ _ => 0)
      case atStart => exact ⟨rfl, rfl⟩
      case round =>
        obtain ⟨rfl, rfl⟩ := hrel
        go_wp2
        go_ret
        exact ⟨rfl, rfl⟩
end Go.Proofs.Ytoofljkgdjjllaa

namespace Go.Proofs.Ytoofljkgdjjllaa.B
open Go.RowKit
set_option linter.unusedVariables false
set_option linter.unusedSimpArgs false

def bkI (all : Value) : Array Value := #[.slice none 0 0, .slice none 0 0, all, .slice none 0 0, .slice none 0 0, .slice none 0 0, .slice none 0 0, .slice none 0 0, .slice none 0 0, .slice none 0 0, .slice none 0 0, .slice none 0 0, .slice none 0 0, .slice none 0 0, .slice none 0 0, .slice none 0 0, .slice none 0 0, .slice none 0 0]
def BkI (w : World) (q base : Nat) (all : Value) (rows : List Value) : Prop := w.heap[q]? = some (.cells (bkI all) 72 (0, 0)) ∧ w.ownsRow base 41 1 all rows.length rows ∧ all.ownBlock ≠ some q
set_option maxRecDepth 100000 in
set_option maxHeartbeats 1000000 in
theorem takeI_any (q base : Nat) (all : Value) (rows : List Value) (a : Option Addr) (n c : Nat) (w : World) (hw : BkI w q base all rows) (hn : rows.length ≤ 7700000000000) (hbq : base ≤ q) :
    Calls Try.prog 22 #[.pointer (some ⟨q, 0, none⟩), .slice a n c] w fun e w' => e = .returned (.tuple #[]) ∧ (∃ all', BkI w' q base all' (rows ++ [.slice a n c]) ∧ (all'.ownBlock = all.ownBlock ∨ ∃ b, all'.ownBlock = some b ∧ w.heap.size ≤ b)) ∧ Below base w w' ∧ ∀ k, k < w.heap.size → k ≠ q → all.ownBlock ≠ some k → w'.heap[k]? = w.heap[k]? := by
  obtain ⟨hq, hr, hne⟩ := hw
  have zq : q < w.heap.size := (Array.getElem?_eq_some_iff.1 hq).1
  obtain ⟨w1, qv, w2, e1, e2, o2, b1, g2, h2⟩ := app_list hr (.slice a n c) rfl rfl hn (by omega)
  have z1 := b1.size
  have z2 := g2.size
  have hq2 : w2.heap[q]? = some (.cells (bkI all) 72 (0, 0)) := (g2.block q (by omega) (fun e => hne e.symm)).trans ((b1.block q zq).trans hq)
  have hne2 : qv.ownBlock ≠ some q := by
    rcases h2 with e | e
    · rw [e]; exact hne
    · rw [e]; intro h; simp at h; omega
  have one : qv.oneCell' = true := by
    rcases o2.2 with ⟨rfl, _⟩ | ⟨g, cap, cur, rfl, _⟩ <;> rfl
  have c0 := (cell_of_row w q 2 _ _ _ hq).trans (show (bkI all)[2]? = some all from rfl)
  have d0 := (cell_of_row w2 q 2 _ _ _ hq2).trans (show (bkI all)[2]? = some all from rfl)
  have f0 := frozen_of_row w2 q 2 _ _ hq2
  obtain ⟨ga, gc, rfl⟩ := own_slice o2
  have ES : (Instr.storeAt 55 (.pointer (some ⟨q, 2, none⟩)) (.slice ga (rows.length + 1) gc)).run Try.prog w2 = .ok () (w2.setCell ⟨q, 2, none⟩ (.slice ga (rows.length + 1) gc)) := by go_simp
  have W1 : Hid (BkI (w2.setCell ⟨q, 2, none⟩ (.slice ga (rows.length + 1) gc)) q base (.slice ga (rows.length + 1) gc) (rows ++ [.slice a n c])) := ⟨by rw [heap_setCell_same w2 q 2 _ 72 _ hq2]; rfl, by
    rw [List.length_append]
    exact own_other o2 hne2, hne2⟩
  have B1 : Hid (Below base w (w2.setCell ⟨q, 2, none⟩ (.slice ga (rows.length + 1) gc))) := (((b1.mono (by omega)).grown g2 (by omega) (fun k hk => (World.ownsRow.lt hr k hk).1))).setCell hbq _
  have FR : Hid (∀ k, k < w.heap.size → k ≠ q → all.ownBlock ≠ some k → (w2.setCell ⟨q, 2, none⟩ (.slice ga (rows.length + 1) gc)).heap[k]? = w.heap[k]?) := fun k hk hkq hko => by
    rw [Below.heap_setCell _ _ _ _ hkq, g2.block k (by omega) (fun e => hko e.symm)]
    exact b1.block k hk
  have H5 : Hid ((Value.slice ga (rows.length + 1) gc).ownBlock = all.ownBlock ∨ ∃ b, (Value.slice ga (rows.length + 1) gc).ownBlock = some b ∧ w.heap.size ≤ b) := by
    rcases h2 with e | e
    · exact Or.inl e
    · exact Or.inr ⟨_, e, z1⟩
  have E1 := hidMk e1
  have E2 := hidMk e2
  have E3 := hidMk ES
  have C0 := hidMk c0
  clear hq hr hne e1 e2 o2 b1 g2 h2 hq2 hne2 one c0 d0 f0 ES z1 z2
  go_enter Try.func22, Try.ntmps22
  refine take0 q (.slice a n c) all (.slice (some ⟨w.heap.size, 0, none⟩) 1 1) (.slice ga (rows.length + 1) gc) w1 w2 (w2.setCell ⟨q, 2, none⟩ (.slice ga (rows.length + 1) gc)) _ w _ rfl rfl rfl E1.out E2.out (by rw [Nat.zero_add]; exact E3.out) (load_idss (by rw [Nat.zero_add]; exact C0.out)) ?_
  intro a' w' hw' ha
  subst hw' ha
  go_end0
  exact ⟨rfl, ⟨_, W1.out, H5.out⟩, B1.out, FR.out⟩
theorem below_setRowY (B : Nat) (w : World) (g : Nat) (cs : Array Value) (h : B ≤ g) : Below B w (w.setRow g cs) :=
  ⟨rfl, rfl, rfl, by simp, fun k hk => setRow_other w g k cs (by omega)⟩
theorem hbBkI : Try.prog.built 72 [] = some (bkI (.slice none 0 0)) := by kernel_rfl
theorem hsBkI : (Try.prog.info? 72).map (·.size) = some 18 := by kernel_rfl
theorem honeI (v : Value) (h : v = .slice none 0 0) : (bkI v).all (·.oneCell') = true := by subst h; kernel_rfl
set_option maxRecDepth 100000 in
set_option maxHeartbeats 2000000 in
theorem bookI_any (q base bb N : Nat) (all : Value) (V : Nat → Lst) (L : Nat → List IdK) (w : World) (hN1 : 1 ≤ N) (hN : N ≤ 7600000000000) (hn : ∀ i, i < N → (V i).n ≤ 2600000000000) (hLn : ∀ i, i < N → (L i).length = (V i).n) (okL : ∀ i, i < N → ∀ x ∈ L i, x.ok)
    (bn : BkI w q bb all ((List.range N).map fun i => (V i).v)) (hbq : base ≤ q) (hbb : base ≤ bb) (ow : ∀ i, i < N → w.ownsRow base 37 33 (V i).v (V i).n (flatI (L i)))
    (sep : ∀ i j, i < N → j < N → ∀ b, (V i).v.ownBlock = some b → (V j).v.ownBlock = some b → i = j) :
    Calls Try.prog 25 #[.pointer (some ⟨q, 0, none⟩)] w fun e w' => e = .returned (.bool true) ∧ Below base w w' ∧ ∀ k, k < w.heap.size → k ≠ q → (∀ i, i < N → (V i).v.ownBlock ≠ some k) → w'.heap[k]? = w.heap[k]? := by
  obtain ⟨hq, rows, hne⟩ := bn
  have zq : q < w.heap.size := (Array.getElem?_eq_some_iff.1 hq).1
  have hlen : ((List.range N).map fun i => (V i).v).length = N := by simp
  rw [hlen] at rows
  have tyq : ∀ i, i < N → (V i).v.ownBlock ≠ some q := fun i hi e => by
    rcases (ow i hi).2 with ⟨e1, _⟩ | ⟨g, cap, cur, e1, _, hg, _⟩
    · rw [e1] at e; cases e
    · rw [e1] at e
      simp [Value.ownBlock] at e
      subst e
      rw [hq] at hg
      injection hg with hg
      injection hg with _ h2 _
      revert h2
      decide
  obtain ⟨B, cB, rfl, hBl, hc, hB⟩ : ∃ B cB, all = .slice (some ⟨B, 0, none⟩) N cB ∧ B < w.heap.size ∧ (∀ i, i < N → w.cell? ⟨B, i, none⟩ = some (V i).v) ∧ ∃ cur, w.heap[B]? = some (.cells cur 41 (0, 0)) := by
    have hc := fun g hg => World.ownsRow.cells rows (g := g) hg
    rcases rows.2 with ⟨_, hn0⟩ | ⟨g, cap, cur, rfl, hbg, hg, _⟩
    · omega
    · refine ⟨g, cap, rfl, (Array.getElem?_eq_some_iff.1 hg).1, fun i hi => ?_, cur, hg⟩
      have := hc g rfl i (V i).v (by rw [List.getElem?_map, List.getElem?_range hi]; rfl)
      rw [Addr.add_mid, Nat.zero_add] at this
      exact this
  have tyB : ∀ i, i < N → (V i).v.ownBlock ≠ some B := fun i hi e => by
    obtain ⟨cur, hB⟩ := hB
    rcases (ow i hi).2 with ⟨e1, _⟩ | ⟨g, cap, cur2, e1, _, hg, _⟩
    · rw [e1] at e; cases e
    · rw [e1] at e
      simp [Value.ownBlock] at e
      subst e
      rw [hB] at hg
      injection hg with hg
      injection hg with _ h2 _
      revert h2
      decide
  have c0 : w.cell? ⟨q, 2, none⟩ = some (.slice (some ⟨B, 0, none⟩) N cB) := (cell_of_row w q 2 _ _ _ hq).trans rfl
  have HST : Hid (Calls Try.prog 56 #[.pointer (some ⟨q, 0, none⟩)] w fun e w' => e = .returned (.bool true) ∧ Below base w w' ∧ w'.heap[q]? = some (.cells (bkI (.slice (some ⟨B, 0, none⟩) N cB)) 72 (0, 0)) ∧ ∀ k, k < w.heap.size → (∀ i, i < N → (V i).v.ownBlock ≠ some k) → w'.heap[k]? = w.heap[k]?) :=
    (aloneIds_any q B cB base N _ V L (tgOf N V) w hN1 hN hn hLn okL ⟨⟨c0, hc, hq, hBl⟩, tgOf_no q tyq, tgOf_no B tyB, fun i hi => ⟨ow i hi, tgOf_own sep i hi⟩, Below.refl _ _, fun _ _ _ => rfl⟩ (by omega)).mono fun e w' h => ⟨h.1, h.2.1, h.2.2.1, fun k hk hi => h.2.2.2 k hk (tgOf_no k hi)⟩
  have CBytes : Hid (Calls Try.prog 54 #[.pointer (some ⟨q, 0, none⟩)] w fun e w' => e = .returned (.bool true) ∧ w' = w) := aloneBytes q w ((cell_of_row w q 0 _ _ _ hq).trans rfl)
  have CHashes : Hid (Calls Try.prog 55 #[.pointer (some ⟨q, 0, none⟩)] w fun e w' => e = .returned (.bool true) ∧ w' = w) := aloneHashes q w ((cell_of_row w q 1 _ _ _ hq).trans rfl)
  clear hq rows hne hc c0 ow sep hlen tyq tyB hB
  go_enter Try.func25, Try.ntmps25
  go_wp2_with fail
  refine (CBytes.out).mono ?_
  rintro e wy ⟨rfl, hwy⟩
  subst hwy
  go_wp2_with fail
  refine (CHashes.out).mono ?_
  rintro e wy ⟨rfl, hwy⟩
  subst hwy
  go_wp2_with fail
  refine HST.out.mono ?_
  rintro e w1 ⟨rfl, b1, hq1, fr1⟩
  have FR := hidMk fr1
  clear fr1
  have CTexts : Hid (Calls Try.prog 57 #[.pointer (some ⟨q, 0, none⟩)] w1 fun e w' => e = .returned (.bool true) ∧ w' = w1) := aloneTexts q w1 ((cell_of_row w1 q 3 _ _ _ hq1).trans rfl)
  have CInts : Hid (Calls Try.prog 58 #[.pointer (some ⟨q, 0, none⟩)] w1 fun e w' => e = .returned (.bool true) ∧ w' = w1) := aloneInts q w1 ((cell_of_row w1 q 4 _ _ _ hq1).trans rfl)
  have CEntries : Hid (Calls Try.prog 59 #[.pointer (some ⟨q, 0, none⟩)] w1 fun e w' => e = .returned (.bool true) ∧ w' = w1) := aloneEntries q w1 ((cell_of_row w1 q 5 _ _ _ hq1).trans rfl)
  have CEdits : Hid (Calls Try.prog 60 #[.pointer (some ⟨q, 0, none⟩)] w1 fun e w' => e = .returned (.bool true) ∧ w' = w1) := aloneEdits q w1 ((cell_of_row w1 q 6 _ _ _ hq1).trans rfl)
  have COps : Hid (Calls Try.prog 61 #[.pointer (some ⟨q, 0, none⟩)] w1 fun e w' => e = .returned (.bool true) ∧ w' = w1) := aloneOps q w1 ((cell_of_row w1 q 7 _ _ _ hq1).trans rfl)
  have CSpans : Hid (Calls Try.prog 62 #[.pointer (some ⟨q, 0, none⟩)] w1 fun e w' => e = .returned (.bool true) ∧ w' = w1) := aloneSpans q w1 ((cell_of_row w1 q 8 _ _ _ hq1).trans rfl)
  have CSteps : Hid (Calls Try.prog 63 #[.pointer (some ⟨q, 0, none⟩)] w1 fun e w' => e = .returned (.bool true) ∧ w' = w1) := aloneSteps q w1 ((cell_of_row w1 q 9 _ _ _ hq1).trans rfl)
  have CCredits : Hid (Calls Try.prog 64 #[.pointer (some ⟨q, 0, none⟩)] w1 fun e w' => e = .returned (.bool true) ∧ w' = w1) := aloneCredits q w1 ((cell_of_row w1 q 10 _ _ _ hq1).trans rfl)
  have CRights : Hid (Calls Try.prog 65 #[.pointer (some ⟨q, 0, none⟩)] w1 fun e w' => e = .returned (.bool true) ∧ w' = w1) := aloneRights q w1 ((cell_of_row w1 q 11 _ _ _ hq1).trans rfl)
  have CUpdates : Hid (Calls Try.prog 66 #[.pointer (some ⟨q, 0, none⟩)] w1 fun e w' => e = .returned (.bool true) ∧ w' = w1) := aloneUpdates q w1 ((cell_of_row w1 q 12 _ _ _ hq1).trans rfl)
  have CNodes : Hid (Calls Try.prog 67 #[.pointer (some ⟨q, 0, none⟩)] w1 fun e w' => e = .returned (.bool true) ∧ w' = w1) := aloneNodes q w1 ((cell_of_row w1 q 13 _ _ _ hq1).trans rfl)
  have CPatches : Hid (Calls Try.prog 68 #[.pointer (some ⟨q, 0, none⟩)] w1 fun e w' => e = .returned (.bool true) ∧ w' = w1) := alonePatches q w1 ((cell_of_row w1 q 14 _ _ _ hq1).trans rfl)
  have CImages : Hid (Calls Try.prog 69 #[.pointer (some ⟨q, 0, none⟩)] w1 fun e w' => e = .returned (.bool true) ∧ w' = w1) := aloneImages q w1 ((cell_of_row w1 q 15 _ _ _ hq1).trans rfl)
  have CForks : Hid (Calls Try.prog 70 #[.pointer (some ⟨q, 0, none⟩)] w1 fun e w' => e = .returned (.bool true) ∧ w' = w1) := aloneForks q w1 ((cell_of_row w1 q 16 _ _ _ hq1).trans rfl)
  have CRows : Hid (Calls Try.prog 71 #[.pointer (some ⟨q, 0, none⟩)] w1 fun e w' => e = .returned (.bool true) ∧ w' = w1) := aloneRows q w1 ((cell_of_row w1 q 17 _ _ _ hq1).trans rfl)
  go_wp2_with fail
  refine (CTexts.out).mono ?_
  rintro e wy ⟨rfl, hwy⟩
  subst hwy
  go_wp2_with fail
  refine (CInts.out).mono ?_
  rintro e wy ⟨rfl, hwy⟩
  subst hwy
  go_wp2_with fail
  refine (CEntries.out).mono ?_
  rintro e wy ⟨rfl, hwy⟩
  subst hwy
  go_wp2_with fail
  refine (CEdits.out).mono ?_
  rintro e wy ⟨rfl, hwy⟩
  subst hwy
  go_wp2_with fail
  refine (COps.out).mono ?_
  rintro e wy ⟨rfl, hwy⟩
  subst hwy
  go_wp2_with fail
  refine (CSpans.out).mono ?_
  rintro e wy ⟨rfl, hwy⟩
  subst hwy
  go_wp2_with fail
  refine (CSteps.out).mono ?_
  rintro e wy ⟨rfl, hwy⟩
  subst hwy
  go_wp2_with fail
  refine (CCredits.out).mono ?_
  rintro e wy ⟨rfl, hwy⟩
  subst hwy
  go_wp2_with fail
  refine (CRights.out).mono ?_
  rintro e wy ⟨rfl, hwy⟩
  subst hwy
  go_wp2_with fail
  refine (CUpdates.out).mono ?_
  rintro e wy ⟨rfl, hwy⟩
  subst hwy
  go_wp2_with fail
  refine (CNodes.out).mono ?_
  rintro e wy ⟨rfl, hwy⟩
  subst hwy
  go_wp2_with fail
  refine (CPatches.out).mono ?_
  rintro e wy ⟨rfl, hwy⟩
  subst hwy
  go_wp2_with fail
  refine (CImages.out).mono ?_
  rintro e wy ⟨rfl, hwy⟩
  subst hwy
  go_wp2_with fail
  refine (CForks.out).mono ?_
  rintro e wy ⟨rfl, hwy⟩
  subst hwy
  go_wp2_with fail
  refine (CRows.out).mono ?_
  rintro e wy ⟨rfl, hwy⟩
  subst hwy
  clear HST CBytes CHashes CTexts CInts CEntries CEdits COps CSpans CSteps CCredits CRights CUpdates CNodes CPatches CImages CForks CRows
  go_wp2_with (first | (refine wpList_build_row rfl 72 rfl (bkI (.slice none 0 0)) hbBkI ?_) | (refine wpList_store_row rfl 72 (.tmp 76) (.tmp 75) rfl q (bkI (.slice none 0 0)) rfl rfl 72 (bkI (.slice (some ⟨B, 0, none⟩) N cB)) hq1 (hsBkI.trans rfl) rfl (honeI _ rfl) ?_) | fail)
  go_ret
  exact ⟨rfl, b1.trans (below_setRowY _ _ _ _ hbq), fun k hk hkq hi => (setRow_other _ _ _ _ hkq).trans (FR.out k hk hi)⟩
set_option maxRecDepth 100000 in
set_option maxHeartbeats 2000000 in
theorem bookI_nil (q base : Nat) (w : World) (hq : w.heap[q]? = some (.cells (bkI (.slice none 0 0)) 72 (0, 0))) (hbq : base ≤ q) :
    Calls Try.prog 25 #[.pointer (some ⟨q, 0, none⟩)] w fun e w' => e = .returned (.bool true) ∧ Below base w w' ∧ ∀ k, k < w.heap.size → k ≠ q → w'.heap[k]? = w.heap[k]? := by
  have CBytes : Hid (Calls Try.prog 54 #[.pointer (some ⟨q, 0, none⟩)] w fun e w' => e = .returned (.bool true) ∧ w' = w) := aloneBytes q w ((cell_of_row w q 0 _ _ _ hq).trans rfl)
  have CHashes : Hid (Calls Try.prog 55 #[.pointer (some ⟨q, 0, none⟩)] w fun e w' => e = .returned (.bool true) ∧ w' = w) := aloneHashes q w ((cell_of_row w q 1 _ _ _ hq).trans rfl)
  have CIds : Hid (Calls Try.prog 56 #[.pointer (some ⟨q, 0, none⟩)] w fun e w' => e = .returned (.bool true) ∧ w' = w) := aloneIds q w ((cell_of_row w q 2 _ _ _ hq).trans rfl)
  have CTexts : Hid (Calls Try.prog 57 #[.pointer (some ⟨q, 0, none⟩)] w fun e w' => e = .returned (.bool true) ∧ w' = w) := aloneTexts q w ((cell_of_row w q 3 _ _ _ hq).trans rfl)
  have CInts : Hid (Calls Try.prog 58 #[.pointer (some ⟨q, 0, none⟩)] w fun e w' => e = .returned (.bool true) ∧ w' = w) := aloneInts q w ((cell_of_row w q 4 _ _ _ hq).trans rfl)
  have CEntries : Hid (Calls Try.prog 59 #[.pointer (some ⟨q, 0, none⟩)] w fun e w' => e = .returned (.bool true) ∧ w' = w) := aloneEntries q w ((cell_of_row w q 5 _ _ _ hq).trans rfl)
  have CEdits : Hid (Calls Try.prog 60 #[.pointer (some ⟨q, 0, none⟩)] w fun e w' => e = .returned (.bool true) ∧ w' = w) := aloneEdits q w ((cell_of_row w q 6 _ _ _ hq).trans rfl)
  have COps : Hid (Calls Try.prog 61 #[.pointer (some ⟨q, 0, none⟩)] w fun e w' => e = .returned (.bool true) ∧ w' = w) := aloneOps q w ((cell_of_row w q 7 _ _ _ hq).trans rfl)
  have CSpans : Hid (Calls Try.prog 62 #[.pointer (some ⟨q, 0, none⟩)] w fun e w' => e = .returned (.bool true) ∧ w' = w) := aloneSpans q w ((cell_of_row w q 8 _ _ _ hq).trans rfl)
  have CSteps : Hid (Calls Try.prog 63 #[.pointer (some ⟨q, 0, none⟩)] w fun e w' => e = .returned (.bool true) ∧ w' = w) := aloneSteps q w ((cell_of_row w q 9 _ _ _ hq).trans rfl)
  have CCredits : Hid (Calls Try.prog 64 #[.pointer (some ⟨q, 0, none⟩)] w fun e w' => e = .returned (.bool true) ∧ w' = w) := aloneCredits q w ((cell_of_row w q 10 _ _ _ hq).trans rfl)
  have CRights : Hid (Calls Try.prog 65 #[.pointer (some ⟨q, 0, none⟩)] w fun e w' => e = .returned (.bool true) ∧ w' = w) := aloneRights q w ((cell_of_row w q 11 _ _ _ hq).trans rfl)
  have CUpdates : Hid (Calls Try.prog 66 #[.pointer (some ⟨q, 0, none⟩)] w fun e w' => e = .returned (.bool true) ∧ w' = w) := aloneUpdates q w ((cell_of_row w q 12 _ _ _ hq).trans rfl)
  have CNodes : Hid (Calls Try.prog 67 #[.pointer (some ⟨q, 0, none⟩)] w fun e w' => e = .returned (.bool true) ∧ w' = w) := aloneNodes q w ((cell_of_row w q 13 _ _ _ hq).trans rfl)
  have CPatches : Hid (Calls Try.prog 68 #[.pointer (some ⟨q, 0, none⟩)] w fun e w' => e = .returned (.bool true) ∧ w' = w) := alonePatches q w ((cell_of_row w q 14 _ _ _ hq).trans rfl)
  have CImages : Hid (Calls Try.prog 69 #[.pointer (some ⟨q, 0, none⟩)] w fun e w' => e = .returned (.bool true) ∧ w' = w) := aloneImages q w ((cell_of_row w q 15 _ _ _ hq).trans rfl)
  have CForks : Hid (Calls Try.prog 70 #[.pointer (some ⟨q, 0, none⟩)] w fun e w' => e = .returned (.bool true) ∧ w' = w) := aloneForks q w ((cell_of_row w q 16 _ _ _ hq).trans rfl)
  have CRows : Hid (Calls Try.prog 71 #[.pointer (some ⟨q, 0, none⟩)] w fun e w' => e = .returned (.bool true) ∧ w' = w) := aloneRows q w ((cell_of_row w q 17 _ _ _ hq).trans rfl)
  go_enter Try.func25, Try.ntmps25
  go_wp2_with fail
  refine (CBytes.out).mono ?_
  rintro e wy ⟨rfl, hwy⟩
  obtain rfl : w = wy := hwy.symm
  go_wp2_with fail
  refine (CHashes.out).mono ?_
  rintro e wy ⟨rfl, hwy⟩
  obtain rfl : w = wy := hwy.symm
  go_wp2_with fail
  refine (CIds.out).mono ?_
  rintro e wy ⟨rfl, hwy⟩
  obtain rfl : w = wy := hwy.symm
  go_wp2_with fail
  refine (CTexts.out).mono ?_
  rintro e wy ⟨rfl, hwy⟩
  obtain rfl : w = wy := hwy.symm
  go_wp2_with fail
  refine (CInts.out).mono ?_
  rintro e wy ⟨rfl, hwy⟩
  obtain rfl : w = wy := hwy.symm
  go_wp2_with fail
  refine (CEntries.out).mono ?_
  rintro e wy ⟨rfl, hwy⟩
  obtain rfl : w = wy := hwy.symm
  go_wp2_with fail
  refine (CEdits.out).mono ?_
  rintro e wy ⟨rfl, hwy⟩
  obtain rfl : w = wy := hwy.symm
  go_wp2_with fail
  refine (COps.out).mono ?_
  rintro e wy ⟨rfl, hwy⟩
  obtain rfl : w = wy := hwy.symm
  go_wp2_with fail
  refine (CSpans.out).mono ?_
  rintro e wy ⟨rfl, hwy⟩
  obtain rfl : w = wy := hwy.symm
  go_wp2_with fail
  refine (CSteps.out).mono ?_
  rintro e wy ⟨rfl, hwy⟩
  obtain rfl : w = wy := hwy.symm
  go_wp2_with fail
  refine (CCredits.out).mono ?_
  rintro e wy ⟨rfl, hwy⟩
  obtain rfl : w = wy := hwy.symm
  go_wp2_with fail
  refine (CRights.out).mono ?_
  rintro e wy ⟨rfl, hwy⟩
  obtain rfl : w = wy := hwy.symm
  go_wp2_with fail
  refine (CUpdates.out).mono ?_
  rintro e wy ⟨rfl, hwy⟩
  obtain rfl : w = wy := hwy.symm
  go_wp2_with fail
  refine (CNodes.out).mono ?_
  rintro e wy ⟨rfl, hwy⟩
  obtain rfl : w = wy := hwy.symm
  go_wp2_with fail
  refine (CPatches.out).mono ?_
  rintro e wy ⟨rfl, hwy⟩
  obtain rfl : w = wy := hwy.symm
  go_wp2_with fail
  refine (CImages.out).mono ?_
  rintro e wy ⟨rfl, hwy⟩
  obtain rfl : w = wy := hwy.symm
  go_wp2_with fail
  refine (CForks.out).mono ?_
  rintro e wy ⟨rfl, hwy⟩
  obtain rfl : w = wy := hwy.symm
  go_wp2_with fail
  refine (CRows.out).mono ?_
  rintro e wy ⟨rfl, hwy⟩
  obtain rfl : w = wy := hwy.symm
  clear CBytes CHashes CIds CTexts CInts CEntries CEdits COps CSpans CSteps CCredits CRights CUpdates CNodes CPatches CImages CForks CRows
  go_wp2_with (first | (refine wpList_build_row rfl 72 rfl (bkI (.slice none 0 0)) hbBkI ?_) | (refine wpList_store_row rfl 72 (.tmp 76) (.tmp 75) rfl q (bkI (.slice none 0 0)) rfl rfl 72 (bkI (.slice none 0 0)) hq (hsBkI.trans rfl) rfl (honeI _ rfl) ?_) | fail)
  go_ret
  exact ⟨rfl, below_setRowY _ _ _ _ hbq, fun k hk hkq => setRow_other _ _ _ _ hkq⟩
end Go.Proofs.Ytoofljkgdjjllaa.B

namespace Go.Proofs.Ytoofljkgdjjllaa
open Go.RowKit
set_option linter.unusedVariables false
set_option linter.unusedSimpArgs false

structure TB (bb q : Nat) (g : Nat → Nat) (w : World) (all : Value) (R : List (B.Lst × List IdK)) : Prop where
  bk : B.BkI w q bb all (R.map fun r => r.1.v)
  bq : bb ≤ q
  own : ∀ r ∈ R, OwnI w bb r.1.v r.2 ∧ r.1.n = r.2.length ∧ r.2.length ≤ 2600000000000 ∧ ∀ x ∈ r.2, x.ok
  sep : ∀ (i j : Nat) (r r' : B.Lst × List IdK) (b : Nat), R[i]? = some r → R[j]? = some r' → r.1.v.ownBlock = some b → r'.1.v.ownBlock = some b → i = j
  gq : g q = 0
  ga : ∀ b, all.ownBlock = some b → g b = 0
  gl : ∀ r ∈ R, ∀ b, r.1.v.ownBlock = some b → g b = 0
  nl : R = [] → all = .slice none 0 0
theorem own_base {w : World} {b b' e sz n : Nat} {v : Value} {xs : List Value} (h : w.ownsRow b e sz v n xs) (hb : b' ≤ b) : w.ownsRow b' e sz v n xs := by
  refine ⟨h.1, ?_⟩
  rcases h.2 with hn | ⟨g, cap, cur, e1, hbg, rest⟩
  · exact .inl hn
  · exact .inr ⟨g, cap, cur, e1, Nat.le_trans hb hbg, rest⟩
theorem OwnI.baseL {w : World} {b b' : Nat} {v : Value} {L : List IdK} (h : OwnI w b v L) (hb : b' ≤ b) : OwnI w b' v L := own_base h hb
theorem OwnI.ltL {W : World} {base : Nat} {v : Value} {L : List IdK} (h : OwnI W base v L) {j : Nat} (hj : v.ownBlock = some j) : j < W.heap.size := by
  obtain ⟨_, c, hc⟩ := h.ge j hj
  exact (Array.getElem?_eq_some_iff.1 hc).1
section
variable {bb q : Nat} {g g' : Nat → Nat} {w w' : World} {all : Value} {R : List (B.Lst × List IdK)}
theorem TB.lq (h : TB bb q g w all R) : q < w.heap.size := (Array.getElem?_eq_some_iff.1 h.bk.1).1
theorem TB.la (h : TB bb q g w all R) {b : Nat} (hb : all.ownBlock = some b) : b < w.heap.size := (World.ownsRow.lt h.bk.2.1 b hb).2
theorem TB.nq (h : TB bb q g w all R) {r : B.Lst × List IdK} (hr : r ∈ R) {b : Nat} (hb : r.1.v.ownBlock = some b) : b ≠ q ∧ all.ownBlock ≠ some b := by
  obtain ⟨_, c, hc⟩ := (h.own r hr).1.ge b hb
  refine ⟨fun e => ?_, fun e => ?_⟩
  · subst e
    have := h.bk.1
    rw [hc] at this
    injection this with this
    injection this with _ h2 _
    revert h2
    decide
  · rcases h.bk.2.1.2 with ⟨e1, _⟩ | ⟨k, cap, cur, e1, _, hg, _⟩
    · rw [e1] at e; cases e
    · rw [e1] at e
      simp [Value.ownBlock] at e
      subst e
      rw [hc] at hg
      injection hg with hg
      injection hg with _ h2 _
      revert h2
      decide
theorem TB.keep (h : TB bb q g w all R) (hk : ∀ j, j < w.heap.size → (j = q ∨ all.ownBlock = some j ∨ ∃ r ∈ R, r.1.v.ownBlock = some j) → w'.heap[j]? = w.heap[j]?) (hg : ∀ j, j < w.heap.size → g' j = g j) : TB bb q g' w' all R := by
  refine ⟨⟨(hk q h.lq (Or.inl rfl)).trans h.bk.1, B.own_sameB h.bk.2.1 fun b hb => hk b (h.la hb) (Or.inr (Or.inl hb)), h.bk.2.2⟩, h.bq, fun r hr => ?_, h.sep, (hg q h.lq).trans h.gq, fun b hb => (hg b (h.la hb)).trans (h.ga b hb), fun r hr b hb => (hg b ((h.own r hr).1.ltL hb)).trans (h.gl r hr b hb), h.nl⟩
  obtain ⟨o, rest⟩ := h.own r hr
  exact ⟨o.keep fun b hb => hk b (o.ltL hb) (Or.inr (Or.inr ⟨r, hr, hb⟩)), rest⟩
theorem TB.below (h : TB bb q g w all R) (b : Below w.heap.size w w') : TB bb q g w' all R := h.keep (fun j hj _ => b.block j hj) (fun _ _ => rfl)
theorem TB.step (h : TB bb q g w all R) (ex : Ext w g g') (t : Tch (Mut g) w w') : TB bb q g' w' all R :=
  h.keep (fun j hj hq => t.block j hj fun hm => by
    have h0 : g j = 0 := by
      rcases hq with rfl | e | ⟨r, hr, e⟩
      · exact h.gq
      · exact h.ga j e
      · exact h.gl r hr j e
    rcases hm with e | e | e <;> rw [h0] at e <;> cases e) ex
end
structure LS (w0 : World) (x t d q m c : Nat) (W : World) : Prop where
  px : ∃ g p all R, PX w0.heap.size x t d m p g W ∧ TB w0.heap.size q g W all R ∧ R.length = c
  bel : Below w0.heap.size w0 W
def XC (x t d : Nat) (W : World) : Prop := W.cell? ⟨x, 0, none⟩ = some (.pointer (some ⟨t, 0, none⟩)) ∧ W.cell? ⟨x, 1, none⟩ = some (.pointer (some ⟨d, 0, none⟩))
theorem PX.xc {B x t d m : Nat} {p : Pl} {g : Nat → Nat} {w : World} (h : PX B x t d m p g w) : XC x t d w := by
  have c := h.ps.cell
  rw [h.x, h.t, h.d] at c
  exact ⟨cell_p0 c, cell_p1 c⟩
section
variable {w0 W : World} {x t d q m c : Nat}
theorem LS.xc (h : LS w0 x t d q m c W) : XC x t d W := by obtain ⟨g, p, all, R, px, _⟩ := h.px; exact px.xc
theorem LS.below (h : LS w0 x t d q m c W) {W' : World} (b : Below W.heap.size W W') : LS w0 x t d q m c W' := by
  obtain ⟨g, p, all, R, px, tb, hc⟩ := h.px
  exact ⟨⟨g, p, all, R, px.below b, tb.below b, hc⟩, h.bel.trans (b.mono h.bel.size)⟩
theorem LS.step (h : LS w0 x t d q m c W) (hm : m + 1 ≤ 1300000000000) (o : OpV) (ok : o.ok) : Calls Try.prog 12 #[.pointer (some ⟨x, 0, none⟩), .agg o.c.toArray] W fun e w' => e = .returned (.bool true) ∧ LS w0 x t d q (m + 1) c w' := by
  obtain ⟨g, p, all, R, px, tb, hc⟩ := h.px
  refine (play_step px h.bel.size hm o ok).mono ?_
  rintro e w' ⟨he, g', p', ex, tc, px'⟩
  exact ⟨he, ⟨g', p', all, R, px', tb.step ex tc, hc⟩, px_below (B := 0) px h.bel tc⟩
theorem LS.take (h : LS w0 x t d q m c W) (hc : c ≤ 7600000000000) {W' : World} {v : Value} {L : List IdK} (b : Below W.heap.size W W') (own : OwnI W' W.heap.size v L) (okL : ∀ y ∈ L, y.ok) (hL : L.length ≤ 2600000000000) : Calls Try.prog 22 #[.pointer (some ⟨q, 0, none⟩), v] W' fun e w' => e = .returned (.tuple #[]) ∧ LS w0 x t d q m (c + 1) w' := by
  obtain ⟨g, p, all, R, px, tb, hcR⟩ := h.px
  obtain ⟨a, k, rfl, _, _⟩ := own.open okL
  have tb' := tb.below b
  have px' := px.below b
  have zb := h.bel.size
  have bel' := h.bel.trans (b.mono zb)
  have hlen : (R.map fun r => r.1.v).length = c := by rw [List.length_map, hcR]
  have own0 : OwnI W' w0.heap.size (.slice a L.length k) L := own.baseL zb
  refine (B.takeI_any q w0.heap.size all _ a L.length k W' tb'.bk (by rw [hlen]; omega) tb'.bq).mono ?_
  rintro e w' ⟨he, ⟨all', bk', hall⟩, bl, fr⟩
  have new : ∀ j, (Value.slice a L.length k).ownBlock = some j → W.heap.size ≤ j ∧ j < W'.heap.size := fun j hj => ⟨(own.ge j hj).1, own.ltL hj⟩
  have gn : ∀ j, W.heap.size ≤ j → g j = 0 := fun j hj => px.ps.gz j hj
  have tch : Tch (fun j => j = q ∨ all.ownBlock = some j) W' w' := ⟨bl.os, bl.tape, bl.output, bl.size, fun j hj hn => fr j hj (fun e => hn (Or.inl e)) (fun e => hn (Or.inr e))⟩
  have nqN : ∀ j, (Value.slice a L.length k).ownBlock = some j → j ≠ q ∧ all.ownBlock ≠ some j := fun j hj => ⟨fun e => by have := tb.lq; have := (new j hj).1; omega, fun e => by have := tb.la e; have := (new j hj).1; omega⟩
  refine ⟨he, ⟨g, p, all', R ++ [(⟨a, L.length, k⟩, L)], px'.keep tch (fun j hj hq => ?_), ⟨by rw [List.map_append]; exact bk', tb'.bq, fun r hr => ?_, fun i j r r' b' h1 h2 h3 h4 => ?_, tb'.gq, fun b' hb => ?_, fun r hr b' hb => ?_, fun e => by simp at e⟩, by rw [List.length_append, hcR]; rfl⟩, bel'.trans bl⟩
  · rcases hq with e | e
    · rw [e] at hj; exact hj tb'.gq
    · exact hj (tb'.ga j e)
  · rcases List.mem_append.1 hr with hr | hr
    · obtain ⟨o, rest⟩ := tb'.own r hr
      exact ⟨o.keep fun b' hb => fr b' (o.ltL hb) (tb'.nq hr hb).1 (tb'.nq hr hb).2, rest⟩
    · simp at hr
      subst hr
      exact ⟨own0.keep fun b' hb => fr b' (new b' hb).2 (nqN b' hb).1 (nqN b' hb).2, rfl, hL, okL⟩
  · have old : ∀ {i : Nat} {r : B.Lst × List IdK}, R[i]? = some r → r.1.v.ownBlock = some b' → b' < W.heap.size := fun h1 h3 => (tb.own _ (List.mem_of_getElem? h1)).1.ltL h3
    rw [List.getElem?_append] at h1 h2
    split at h1 <;> split at h2
    · exact tb.sep i j r r' b' h1 h2 h3 h4
    · next q1 q2 =>
      have e2 : r' = (⟨a, L.length, k⟩, L) := by have := List.mem_of_getElem? h2; simpa using this
      subst e2
      have := old h1 h3
      have := (new b' h4).1
      omega
    · next q1 q2 =>
      have e1 : r = (⟨a, L.length, k⟩, L) := by have := List.mem_of_getElem? h1; simpa using this
      subst e1
      have := old h2 h4
      have := (new b' h3).1
      omega
    · next q1 q2 =>
      have l1 := (List.getElem?_eq_some_iff.1 h1).1
      have l2 := (List.getElem?_eq_some_iff.1 h2).1
      simp at l1 l2
      omega
  · rcases hall with e | ⟨b2, e, h2⟩
    · rw [e] at hb; exact tb'.ga b' hb
    · rw [e] at hb
      injection hb with hb
      subst hb
      exact gn _ (Nat.le_trans b.size h2)
  · rcases List.mem_append.1 hr with hr | hr
    · exact tb'.gl r hr b' hb
    · simp at hr
      subst hr
      exact gn b' (new b' hb).1
theorem LS.len (h : LS w0 x t d q m c W) : ∃ g p, PX w0.heap.size x t d m p g W := by obtain ⟨g, p, all, R, px, _⟩ := h.px; exact ⟨g, p, px⟩
theorem px_dom {B : Nat} {p : Pl} {g : Nat → Nat} (h : PX B x t d m p g W) : ∃ D, Dom p.f D ∧ D.length ≤ m := by
  have hD := ref_dom _ _ _ h.ps.ref.ref
  rw [h.ln.eq] at hD
  exact ⟨_, hD, by rw [List.length_map]; exact h.mn⟩
theorem LS.walk (h : LS w0 x t d q m c W) (hm : m ≤ 1300000000000) (hc : c ≤ 7600000000000) : Calls Try.prog 23 #[.pointer (some ⟨t, 0, none⟩)] W fun e w' => ∃ v, e = .returned v ∧ Calls Try.prog 22 #[.pointer (some ⟨q, 0, none⟩), v] w' fun e2 w2 => e2 = .returned (.tuple #[]) ∧ LS w0 x t d q m (c + 1) w2 := by
  obtain ⟨g, p, px⟩ := h.len
  obtain ⟨D, hD, hl⟩ := px_dom px
  have hw := walk_own px.ps.own hD (by omega)
  rw [px.t] at hw
  refine hw.mono ?_
  rintro e w' ⟨v, L, he, own, hk, b⟩
  exact ⟨v, he, h.take hc b own (walk_ok hD hk) (by have := hk.le px.ps.own.ft hD; omega)⟩
theorem LS.kids (h : LS w0 x t d q m c W) (hm : m ≤ 1300000000000) (hc : c ≤ 7600000000000) (k : IdK) (hk : k.ok) : Calls Try.prog 24 #[.pointer (some ⟨t, 0, none⟩), k.v] W fun e w' => ∃ v, e = .returned v ∧ (XC x t d w' ∧ Below w0.heap.size w0 w') ∧ Calls Try.prog 22 #[.pointer (some ⟨q, 0, none⟩), v] w' fun e2 w2 => e2 = .returned (.tuple #[]) ∧ LS w0 x t d q m (c + 1) w2 := by
  obtain ⟨g, p, px⟩ := h.len
  obtain ⟨D, hD, hl⟩ := px_dom px
  have hw := kids_own px.ps.own hD (by omega) k hk
  rw [px.t] at hw
  refine hw.mono ?_
  rintro e w' ⟨v, L, he, own, hkk, b⟩
  exact ⟨v, he, ⟨(px.below b).xc, h.bel.trans (b.mono h.bel.size)⟩, h.take hc b own hkk.ok (by have := hkk.le hD; omega)⟩
theorem LS.alone (h : LS w0 x t d q m c W) (hc : c ≤ 7600000000000) : Calls Try.prog 25 #[.pointer (some ⟨q, 0, none⟩)] W fun e w' => e = .returned (.bool true) ∧ (∃ g p, PX w0.heap.size x t d m p g w') ∧ Below w0.heap.size w0 w' := by
  obtain ⟨g, p, all, R, px, tb, hcR⟩ := h.px
  by_cases h0 : R = []
  · subst h0
    have hq := tb.bk.1
    rw [tb.nl rfl] at hq
    refine (B.bookI_nil q w0.heap.size W hq tb.bq).mono ?_
    rintro e w' ⟨he, bl, fr⟩
    have tch : Tch (fun j => j = q) W w' := ⟨bl.os, bl.tape, bl.output, bl.size, fun j hj hn => fr j hj hn⟩
    exact ⟨he, ⟨g, p, px.keep tch fun j hj hq => by rw [hq] at hj; exact hj tb.gq⟩, h.bel.trans bl⟩
  · obtain ⟨N, hN⟩ : ∃ N, R.length = N := ⟨_, rfl⟩
    have hN1 : 1 ≤ N := by
      cases R with
      | nil => exact absurd rfl h0
      | cons r R => rw [← hN]; simp
    have get : ∀ i, i < N → ∃ r, R[i]? = some r := fun i hi => ⟨_, List.getElem?_eq_getElem (by omega)⟩
    let V : Nat → B.Lst := fun i => (R[i]?.map (·.1)).getD ⟨none, 0, 0⟩
    let LL : Nat → List IdK := fun i => (R[i]?.map (·.2)).getD []
    have hV : ∀ i r, R[i]? = some r → V i = r.1 := fun i r hr => by show (R[i]?.map (·.1)).getD _ = _; rw [hr]; rfl
    have hLL : ∀ i r, R[i]? = some r → LL i = r.2 := fun i r hr => by show (R[i]?.map (·.2)).getD _ = _; rw [hr]; rfl
    have hrows : (R.map fun r => r.1.v) = (List.range N).map fun i => (V i).v := by
      refine List.ext_getElem? fun i => ?_
      rw [List.getElem?_map, List.getElem?_map]
      by_cases hi : i < N
      · obtain ⟨r, hr⟩ := get i hi
        rw [hr, List.getElem?_range hi, Option.map_some, Option.map_some, hV i r hr]
      · rw [List.getElem?_eq_none (by omega), List.getElem?_eq_none (by simp; omega)]
        rfl
    have bk := tb.bk
    rw [hrows] at bk
    have hbb := h.bel.size
    refine (B.bookI_any q w0.heap.size w0.heap.size N all V LL W hN1 (by omega) (fun i hi => ?_) (fun i hi => ?_) (fun i hi => ?_) bk tb.bq (Nat.le_refl _) (fun i hi => ?_) (fun i j hi hj b h1 h2 => ?_)).mono ?_
    · obtain ⟨r, hr⟩ := get i hi
      rw [hV i r hr, (tb.own r (List.mem_of_getElem? hr)).2.1]
      exact (tb.own r (List.mem_of_getElem? hr)).2.2.1
    · obtain ⟨r, hr⟩ := get i hi
      rw [hV i r hr, hLL i r hr]
      exact (tb.own r (List.mem_of_getElem? hr)).2.1.symm
    · obtain ⟨r, hr⟩ := get i hi
      rw [hLL i r hr]
      exact (tb.own r (List.mem_of_getElem? hr)).2.2.2
    · obtain ⟨r, hr⟩ := get i hi
      have o := (tb.own r (List.mem_of_getElem? hr))
      rw [hV i r hr, hLL i r hr, o.2.1]
      exact o.1
    · obtain ⟨r, hr⟩ := get i hi
      obtain ⟨r', hr'⟩ := get j hj
      rw [hV i r hr] at h1
      rw [hV j r' hr'] at h2
      exact tb.sep i j r r' b hr hr' h1 h2
    · rintro e w' ⟨he, bl, fr⟩
      have tch : Tch (fun j => j = q ∨ ∃ i, i < N ∧ (V i).v.ownBlock = some j) W w' := ⟨bl.os, bl.tape, bl.output, bl.size, fun j hj hn => fr j hj (fun e => hn (Or.inl e)) (fun i hi e => hn (Or.inr ⟨i, hi, e⟩))⟩
      refine ⟨he, ⟨g, p, px.keep tch fun j hj hq => ?_⟩, h.bel.trans bl⟩
      rcases hq with e | ⟨i, hi, e⟩
      · rw [e] at hj; exact hj tb.gq
      · obtain ⟨r, hr⟩ := get i hi
        rw [hV i r hr] at e
        exact hj (tb.gl r (List.mem_of_getElem? hr) j e)
end
end Go.Proofs.Ytoofljkgdjjllaa

namespace Go.Proofs.Ytoofljkgdjjllaa
open Go.RowKit
set_option linter.unusedVariables false
set_option linter.unusedSimpArgs false

def lists8_o0 : Oper := ⟨some 21, .move (.tmp 3), 24, "law.go:222", #[], none⟩
def lists8_o1 : Oper := ⟨some 22, .move (.tmp 0), 23, "law.go:222", #[], none⟩
def lists8_o2 : Oper := ⟨some 23, .move (.tmp 5), 3, "law.go:222", #[], none⟩
def lists8_o3 : Oper := ⟨some 24, .indexAddr 23 (.tmp 22) (.tmp 23), 0, "law.go:222", #[⟨1, .data⟩, ⟨2, .data⟩], none⟩
def lists8_o4 : Oper := ⟨some 25, .load 39 (.tmp 24), 39, "law.go:222", #[⟨3, .data⟩], none⟩
def lists8_o5 : Oper := ⟨some 26, .call { callee := Callee.value (Operand.func 12), args := #[.tmp 21, .tmp 25], argTypes := #[24, 39] }, 4, "law.go:222", #[⟨0, .data⟩, ⟨4, .data⟩], none⟩
def lists8_o6 : Oper := ⟨some 27, .unOp UnOp.not 4 (.tmp 26), 4, "law.go:222", #[⟨5, .data⟩], none⟩
def lists8_ops : Array Oper := #[lists8_o0, lists8_o1, lists8_o2, lists8_o3, lists8_o4, lists8_o5, lists8_o6]
set_option maxRecDepth 100000 in
set_option maxHeartbeats 4000000 in
theorem lists8 (x : Nat) (lv iv pi ov : Value) (Fin : World → Prop) (a : Act) (w : World) (Q : Exit → Act → World → Prop) (hsz : a.tmps.size = 102)
    (t3 : a.tmps.getD 3 undef = .pointer (some ⟨x, 0, none⟩))
    (t0 : a.tmps.getD 0 undef = lv)
    (t5 : a.tmps.getD 5 undef = iv)
    (CS : Calls Try.prog 12 #[.pointer (some ⟨x, 0, none⟩), ov] w fun e w' => e = .returned (.bool true) ∧ Fin w')
    (G1 : ∀ W, (Instr.indexAt 23 (lv) (iv)).run Try.prog W = .ok (pi) W)
    (G2 : (Instr.loadAt 39 (pi)).run Try.prog w = .ok (ov) w)
    (h : ∀ (a' : Act) (w' : World), Fin w' → a' = (((((((a).put (some 21) (.pointer (some ⟨x, 0, none⟩))).put (some 22) (lv)).put (some 23) (iv)).put (some 24) (pi)).put (some 25) (ov)).put (some 26) (.bool true)).put (some 27) (.bool false) → Q .normal a' w') :
    (Code.region 8 lists8_ops false).wp Try.prog Q a w := by
  refine wp_region_list ?_
  change wpList _ _ _ [lists8_o0, lists8_o1, lists8_o2, lists8_o3, lists8_o4, lists8_o5, lists8_o6] _ _
  refine qv (v := .pointer (some ⟨x, 0, none⟩)) (by rfl) (exec_move rfl t3) (fun a0 e0 => ?_)
  rw [← e0] at h
  have z0 := pz e0 hsz
  replace t0 := pk e0 t0
  replace t5 := pk e0 t5
  clear t3
  have t21 := pq e0 hsz
  clear e0 hsz
  refine qv (v := lv) (by rfl) (exec_move rfl t0) (fun a1 e1 => ?_)
  rw [← e1] at h
  have z1 := pz e1 z0
  replace t5 := pk e1 t5
  replace t21 := pk e1 t21
  clear t0
  have t22 := pq e1 z0
  clear e1 z0
  refine qv (v := iv) (by rfl) (exec_move rfl t5) (fun a2 e2 => ?_)
  rw [← e2] at h
  have z2 := pz e2 z1
  replace t21 := pk e2 t21
  replace t22 := pk e2 t22
  clear t5
  have t23 := pq e2 z1
  clear e2 z1
  refine qv (v := pi) (by rfl) (exec_indexAt rfl t22 t23 (G1 _)) (fun a3 e3 => ?_)
  rw [← e3] at h
  have z3 := pz e3 z2
  replace t21 := pk e3 t21
  clear t22 t23
  have t24 := pq e3 z2
  clear e3 z2
  refine qv (v := ov) (by rfl) (exec_load rfl t24 G2) (fun a4 e4 => ?_)
  rw [← e4] at h
  have z4 := pz e4 z3
  replace t21 := pk e4 t21
  clear t24
  have t25 := pq e4 z3
  clear e4 z3
  refine qc (by rfl) (by unfold lists8_o5; go_simp) (CS) (fun e x5 hx => ?_)
  obtain ⟨rfl, HF⟩ := hx
  refine ⟨_, rfl, fun a5 e5 => ?_⟩
  rw [← e5] at h
  have z5 := pz e5 z4
  clear t21 t25
  have t26 := pq e5 z4
  clear e5 z4
  refine qv (v := .bool false) (by rfl) (by unfold lists8_o6; go_simp) (fun a6 e6 => ?_)
  rw [← e6] at h
  have z6 := pz e6 z5
  clear t26
  clear e6 z5
  exact wpList_nil (h _ _ (HF) rfl)
def lists13_o0 : Oper := ⟨some 32, .move (.tmp 4), 52, "law.go:226", #[], none⟩
def lists13_o1 : Oper := ⟨some 33, .move (.tmp 3), 24, "law.go:226", #[], none⟩
def lists13_o2 : Oper := ⟨some 34, .nilCheck (.tmp 33), 0, "law.go:226", #[⟨1, .data⟩], none⟩
def lists13_o3 : Oper := ⟨some 35, .fieldAddr 32 (.tmp 34) 0, 0, "law.go:226", #[⟨2, .data⟩], none⟩
def lists13_o4 : Oper := ⟨some 36, .load 25 (.tmp 35), 25, "law.go:226", #[⟨3, .data⟩], none⟩
def lists13_o5 : Oper := ⟨some 37, .call { callee := Callee.value (Operand.func 23), args := #[.tmp 36], argTypes := #[25] }, 41, "law.go:226", #[⟨4, .data⟩], none⟩
def lists13_o6 : Oper := ⟨some 38, .call { callee := Callee.value (Operand.func 22), args := #[.tmp 32, .tmp 37], argTypes := #[52, 41] }, 0, "law.go:226", #[⟨0, .data⟩, ⟨5, .data⟩, ⟨5, .chain⟩], none⟩
def lists13_ops : Array Oper := #[lists13_o0, lists13_o1, lists13_o2, lists13_o3, lists13_o4, lists13_o5, lists13_o6]
set_option maxRecDepth 100000 in
set_option maxHeartbeats 4000000 in
theorem lists13 (x : Nat) (bv tv : Value) (Fin : World → Prop) (a : Act) (w : World) (Q : Exit → Act → World → Prop) (hsz : a.tmps.size = 102)
    (t4 : a.tmps.getD 4 undef = bv)
    (t3 : a.tmps.getD 3 undef = .pointer (some ⟨x, 0, none⟩))
    (CW : Calls Try.prog 23 #[tv] w fun e w' => ∃ v, e = .returned v ∧ Calls Try.prog 22 #[bv, v] w' fun e2 w2 => e2 = .returned (.tuple #[]) ∧ Fin w2)
    (G1 : (Instr.loadAt 25 (.pointer (some ⟨x, 0 + 0, none⟩))).run Try.prog w = .ok (tv) w)
    (h : ∀ (v : Value) (a' : Act) (w' : World), Fin w' → a' = (((((((a).put (some 32) (bv)).put (some 33) (.pointer (some ⟨x, 0, none⟩))).put (some 34) (.pointer (some ⟨x, 0, none⟩))).put (some 35) (.pointer (some ⟨x, 0 + 0, none⟩))).put (some 36) (tv)).put (some 37) (v)).put (some 38) (.tuple #[]) → Q .normal a' w') :
    (Code.region 13 lists13_ops false).wp Try.prog Q a w := by
  refine wp_region_list ?_
  change wpList _ _ _ [lists13_o0, lists13_o1, lists13_o2, lists13_o3, lists13_o4, lists13_o5, lists13_o6] _ _
  refine qv (v := bv) (by rfl) (exec_move rfl t4) (fun a0 e0 => ?_)
  rw [← e0] at h
  have z0 := pz e0 hsz
  replace t3 := pk e0 t3
  clear t4
  have t32 := pq e0 hsz
  clear e0 hsz
  refine qv (v := .pointer (some ⟨x, 0, none⟩)) (by rfl) (exec_move rfl t3) (fun a1 e1 => ?_)
  rw [← e1] at h
  have z1 := pz e1 z0
  replace t32 := pk e1 t32
  clear t3
  have t33 := pq e1 z0
  clear e1 z0
  refine qv (v := .pointer (some ⟨x, 0, none⟩)) (by rfl) (exec_nilCheck rfl t33) (fun a2 e2 => ?_)
  rw [← e2] at h
  have z2 := pz e2 z1
  replace t32 := pk e2 t32
  clear t33
  have t34 := pq e2 z1
  clear e2 z1
  refine qv (v := .pointer (some ⟨x, 0 + 0, none⟩)) (by rfl) (exec_fieldAt rfl t34 (fg_32_0 _ _ _)) (fun a3 e3 => ?_)
  rw [← e3] at h
  have z3 := pz e3 z2
  replace t32 := pk e3 t32
  clear t34
  have t35 := pq e3 z2
  clear e3 z2
  refine qv (v := tv) (by rfl) (exec_load rfl t35 G1) (fun a4 e4 => ?_)
  rw [← e4] at h
  have z4 := pz e4 z3
  replace t32 := pk e4 t32
  clear t35
  have t36 := pq e4 z3
  clear e4 z3
  refine qc (by rfl) (by unfold lists13_o5; go_simp) (CW) (fun e x5 hx => ?_)
  obtain ⟨v, rfl, CT⟩ := hx
  replace h := h v
  refine ⟨_, rfl, fun a5 e5 => ?_⟩
  rw [← e5] at h
  have z5 := pz e5 z4
  replace t32 := pk e5 t32
  clear t36
  have t37 := pq e5 z4
  clear e5 z4
  refine qc (by rfl) (by unfold lists13_o6; go_simp) (CT) (fun e x6 hx => ?_)
  obtain ⟨rfl, HF⟩ := hx
  refine ⟨_, rfl, fun a6 e6 => ?_⟩
  rw [← e6] at h
  have z6 := pz e6 z5
  clear t32 t37
  clear e6 z5
  exact wpList_nil (h _ _ (HF) rfl)
def lists15_o0 : Oper := ⟨some 51, .move (.tmp 4), 52, "law.go:228", #[], none⟩
def lists15_o1 : Oper := ⟨some 52, .move (.tmp 3), 24, "law.go:228", #[], none⟩
def lists15_o2 : Oper := ⟨some 53, .nilCheck (.tmp 52), 0, "law.go:228", #[⟨1, .data⟩], none⟩
def lists15_o3 : Oper := ⟨some 54, .fieldAddr 32 (.tmp 53) 0, 0, "law.go:228", #[⟨2, .data⟩], none⟩
def lists15_o4 : Oper := ⟨some 55, .load 25 (.tmp 54), 25, "law.go:228", #[⟨3, .data⟩], none⟩
def lists15_o5 : Oper := ⟨some 56, .build 37 #[], 37, "law.go:228", #[], none⟩
def lists15_o6 : Oper := ⟨some 57, .call { callee := Callee.value (Operand.func 24), args := #[.tmp 55, .tmp 56], argTypes := #[25, 37] }, 41, "law.go:228", #[⟨4, .data⟩, ⟨5, .data⟩], none⟩
def lists15_o7 : Oper := ⟨some 58, .call { callee := Callee.value (Operand.func 22), args := #[.tmp 51, .tmp 57], argTypes := #[52, 41] }, 0, "law.go:228", #[⟨0, .data⟩, ⟨6, .data⟩, ⟨6, .chain⟩], none⟩
def lists15_ops : Array Oper := #[lists15_o0, lists15_o1, lists15_o2, lists15_o3, lists15_o4, lists15_o5, lists15_o6, lists15_o7]
set_option maxRecDepth 100000 in
set_option maxHeartbeats 4000000 in
theorem lists15 (x : Nat) (bv tv zv : Value) (Fin : World → Prop) (a : Act) (w : World) (Q : Exit → Act → World → Prop) (hsz : a.tmps.size = 102)
    (t4 : a.tmps.getD 4 undef = bv)
    (t3 : a.tmps.getD 3 undef = .pointer (some ⟨x, 0, none⟩))
    (CW : Calls Try.prog 24 #[tv, zv] w fun e w' => ∃ v, e = .returned v ∧ Calls Try.prog 22 #[bv, v] w' fun e2 w2 => e2 = .returned (.tuple #[]) ∧ Fin w2)
    (G1 : (Instr.loadAt 25 (.pointer (some ⟨x, 0 + 0, none⟩))).run Try.prog w = .ok (tv) w)
    (G2 : ∀ W, (Instr.build 37 #[]).run Try.prog W = .ok (zv) W)
    (h : ∀ (v : Value) (a' : Act) (w' : World), Fin w' → a' = ((((((((a).put (some 51) (bv)).put (some 52) (.pointer (some ⟨x, 0, none⟩))).put (some 53) (.pointer (some ⟨x, 0, none⟩))).put (some 54) (.pointer (some ⟨x, 0 + 0, none⟩))).put (some 55) (tv)).put (some 56) (zv)).put (some 57) (v)).put (some 58) (.tuple #[]) → Q .normal a' w') :
    (Code.region 15 lists15_ops false).wp Try.prog Q a w := by
  refine wp_region_list ?_
  change wpList _ _ _ [lists15_o0, lists15_o1, lists15_o2, lists15_o3, lists15_o4, lists15_o5, lists15_o6, lists15_o7] _ _
  refine qv (v := bv) (by rfl) (exec_move rfl t4) (fun a0 e0 => ?_)
  rw [← e0] at h
  have z0 := pz e0 hsz
  replace t3 := pk e0 t3
  clear t4
  have t51 := pq e0 hsz
  clear e0 hsz
  refine qv (v := .pointer (some ⟨x, 0, none⟩)) (by rfl) (exec_move rfl t3) (fun a1 e1 => ?_)
  rw [← e1] at h
  have z1 := pz e1 z0
  replace t51 := pk e1 t51
  clear t3
  have t52 := pq e1 z0
  clear e1 z0
  refine qv (v := .pointer (some ⟨x, 0, none⟩)) (by rfl) (exec_nilCheck rfl t52) (fun a2 e2 => ?_)
  rw [← e2] at h
  have z2 := pz e2 z1
  replace t51 := pk e2 t51
  clear t52
  have t53 := pq e2 z1
  clear e2 z1
  refine qv (v := .pointer (some ⟨x, 0 + 0, none⟩)) (by rfl) (exec_fieldAt rfl t53 (fg_32_0 _ _ _)) (fun a3 e3 => ?_)
  rw [← e3] at h
  have z3 := pz e3 z2
  replace t51 := pk e3 t51
  clear t53
  have t54 := pq e3 z2
  clear e3 z2
  refine qv (v := tv) (by rfl) (exec_load rfl t54 G1) (fun a4 e4 => ?_)
  rw [← e4] at h
  have z4 := pz e4 z3
  replace t51 := pk e4 t51
  clear t54
  have t55 := pq e4 z3
  clear e4 z3
  refine qv (v := zv) (by rfl) (exec_build0 rfl (G2 _)) (fun a5 e5 => ?_)
  rw [← e5] at h
  have z5 := pz e5 z4
  replace t51 := pk e5 t51
  replace t55 := pk e5 t55
  have t56 := pq e5 z4
  clear e5 z4
  refine qc (by rfl) (by unfold lists15_o6; go_simp) (CW) (fun e x6 hx => ?_)
  obtain ⟨v, rfl, CT⟩ := hx
  replace h := h v
  refine ⟨_, rfl, fun a6 e6 => ?_⟩
  rw [← e6] at h
  have z6 := pz e6 z5
  replace t51 := pk e6 t51
  clear t55 t56
  have t57 := pq e6 z5
  clear e6 z5
  refine qc (by rfl) (by unfold lists15_o7; go_simp) (CT) (fun e x7 hx => ?_)
  obtain ⟨rfl, HF⟩ := hx
  refine ⟨_, rfl, fun a7 e7 => ?_⟩
  rw [← e7] at h
  have z7 := pz e7 z6
  clear t51 t57
  clear e7 z6
  exact wpList_nil (h _ _ (HF) rfl)
def lists14_o0 : Oper := ⟨some 39, .move (.tmp 4), 52, "law.go:227", #[], none⟩
def lists14_o1 : Oper := ⟨some 40, .move (.tmp 3), 24, "law.go:227", #[], none⟩
def lists14_o2 : Oper := ⟨some 41, .nilCheck (.tmp 40), 0, "law.go:227", #[⟨1, .data⟩], none⟩
def lists14_o3 : Oper := ⟨some 42, .fieldAddr 32 (.tmp 41) 0, 0, "law.go:227", #[⟨2, .data⟩], none⟩
def lists14_o4 : Oper := ⟨some 43, .load 25 (.tmp 42), 25, "law.go:227", #[⟨3, .data⟩], none⟩
def lists14_o5 : Oper := ⟨some 44, .move (.tmp 0), 23, "law.go:227", #[], none⟩
def lists14_o6 : Oper := ⟨some 45, .move (.tmp 5), 3, "law.go:227", #[], none⟩
def lists14_o7 : Oper := ⟨some 46, .indexAddr 23 (.tmp 44) (.tmp 45), 0, "law.go:227", #[⟨5, .data⟩, ⟨6, .data⟩], none⟩
def lists14_o8 : Oper := ⟨some 47, .fieldAddr 39 (.tmp 46) 2, 0, "law.go:227", #[⟨7, .data⟩], none⟩
def lists14_o9 : Oper := ⟨some 48, .load 37 (.tmp 47), 37, "law.go:227", #[⟨8, .data⟩], none⟩
def lists14_o10 : Oper := ⟨some 49, .call { callee := Callee.value (Operand.func 24), args := #[.tmp 43, .tmp 48], argTypes := #[25, 37] }, 41, "law.go:227", #[⟨4, .data⟩, ⟨9, .data⟩], none⟩
def lists14_o11 : Oper := ⟨some 50, .call { callee := Callee.value (Operand.func 22), args := #[.tmp 39, .tmp 49], argTypes := #[52, 41] }, 0, "law.go:227", #[⟨0, .data⟩, ⟨10, .data⟩, ⟨10, .chain⟩], none⟩
def lists14_ops : Array Oper := #[lists14_o0, lists14_o1, lists14_o2, lists14_o3, lists14_o4, lists14_o5, lists14_o6, lists14_o7, lists14_o8, lists14_o9, lists14_o10, lists14_o11]
set_option maxRecDepth 100000 in
set_option maxHeartbeats 4000000 in
theorem lists14 (S Fin : World → Prop) (x b o : Nat) (bv tv lv iv uv : Value) (a : Act) (w : World) (Q : Exit → Act → World → Prop) (hsz : a.tmps.size = 102)
    (t4 : a.tmps.getD 4 undef = bv)
    (t3 : a.tmps.getD 3 undef = .pointer (some ⟨x, 0, none⟩))
    (t0 : a.tmps.getD 0 undef = lv)
    (t5 : a.tmps.getD 5 undef = iv)
    (h0 : S w.drew) (CK : Calls Try.prog 24 #[tv, uv] w.drew fun e w' => ∃ v, e = .returned v ∧ S w' ∧ Calls Try.prog 22 #[bv, v] w' fun e2 w2 => e2 = .returned (.tuple #[]) ∧ S w2 ∧ Fin w2)
    (G1 : ∀ W, S W → (Instr.loadAt 25 (.pointer (some ⟨x, 0 + 0, none⟩))).run Try.prog W = .ok (tv) W)
    (G2 : ∀ W, (Instr.indexAt 23 (lv) (iv)).run Try.prog W = .ok (.pointer (some ⟨b, o, none⟩)) W)
    (G3 : ∀ W, S W → (Instr.loadAt 37 (.pointer (some ⟨b, o + 34, none⟩))).run Try.prog W = .ok (uv) W)
    (h : ∀ (v : Value) (a' : Act) (w' : World), Fin w' → a' = ((((((((((((a).put (some 39) (bv)).put (some 40) (.pointer (some ⟨x, 0, none⟩))).put (some 41) (.pointer (some ⟨x, 0, none⟩))).put (some 42) (.pointer (some ⟨x, 0 + 0, none⟩))).put (some 43) (tv)).put (some 44) (lv)).put (some 45) (iv)).put (some 46) (.pointer (some ⟨b, o, none⟩))).put (some 47) (.pointer (some ⟨b, o + 34, none⟩))).put (some 48) (uv)).put (some 49) (v)).put (some 50) (.tuple #[]) → Q .normal a' w') :
    (Code.region 14 lists14_ops true).wp Try.prog Q a w := by
  refine wp_region_noPanic ?_
  refine wp_region_held_drew (S := fun w' => S w') (by kernel_rfl) (h0) (fun hHeld => ?_)
  refine wpAnyH_take (i := 0) (oi := lists14_o0) (v := bv) rfl (by kernel_rfl) (by kernel_rfl) (by kernel_rfl) (fun _ _ _ h => h) (Or.inl ⟨by rfl, fun w1 hw => exec_move rfl t4⟩) hHeld ?_
  change wpAnyH _ _ _ _ _ _ _ (a.put (some 39) (bv)) _
  obtain ⟨a1, e1⟩ : ∃ act, act = a.put (some 39) (bv) := ⟨_, rfl⟩
  rw [← e1] at h ⊢
  have z1 := pz e1 hsz
  replace t3 := pk e1 t3 (by decide)
  replace t0 := pk e1 t0 (by decide)
  replace t5 := pk e1 t5 (by decide)
  clear t4
  have t39 := pq e1 hsz (by decide)
  clear e1 hsz
  refine wpAnyH_take (i := 1) (oi := lists14_o1) (v := .pointer (some ⟨x, 0, none⟩)) rfl (by kernel_rfl) (by kernel_rfl) (by kernel_rfl) (fun _ _ _ h => h) (Or.inl ⟨by rfl, fun w1 hw => exec_move rfl t3⟩) hHeld ?_
  change wpAnyH _ _ _ _ _ _ _ (a1.put (some 40) (.pointer (some ⟨x, 0, none⟩))) _
  obtain ⟨a2, e2⟩ : ∃ act, act = a1.put (some 40) (.pointer (some ⟨x, 0, none⟩)) := ⟨_, rfl⟩
  rw [← e2] at h ⊢
  have z2 := pz e2 z1
  replace t0 := pk e2 t0 (by decide)
  replace t5 := pk e2 t5 (by decide)
  replace t39 := pk e2 t39 (by decide)
  clear t3
  have t40 := pq e2 z1 (by decide)
  clear e2 z1
  refine wpAnyH_take (i := 2) (oi := lists14_o2) (v := .pointer (some ⟨x, 0, none⟩)) rfl (by kernel_rfl) (by kernel_rfl) (by kernel_rfl) (fun _ _ _ h => h) (Or.inl ⟨by rfl, fun w1 hw => exec_nilCheck rfl t40⟩) hHeld ?_
  change wpAnyH _ _ _ _ _ _ _ (a2.put (some 41) (.pointer (some ⟨x, 0, none⟩))) _
  obtain ⟨a3, e3⟩ : ∃ act, act = a2.put (some 41) (.pointer (some ⟨x, 0, none⟩)) := ⟨_, rfl⟩
  rw [← e3] at h ⊢
  have z3 := pz e3 z2
  replace t0 := pk e3 t0 (by decide)
  replace t5 := pk e3 t5 (by decide)
  replace t39 := pk e3 t39 (by decide)
  clear t40
  have t41 := pq e3 z2 (by decide)
  clear e3 z2
  refine wpAnyH_take (i := 3) (oi := lists14_o3) (v := .pointer (some ⟨x, 0 + 0, none⟩)) rfl (by kernel_rfl) (by kernel_rfl) (by kernel_rfl) (fun _ _ _ h => h) (Or.inl ⟨by rfl, fun w1 hw => exec_fieldAt rfl t41 (fg_32_0 _ _ _)⟩) hHeld ?_
  change wpAnyH _ _ _ _ _ _ _ (a3.put (some 42) (.pointer (some ⟨x, 0 + 0, none⟩))) _
  obtain ⟨a4, e4⟩ : ∃ act, act = a3.put (some 42) (.pointer (some ⟨x, 0 + 0, none⟩)) := ⟨_, rfl⟩
  rw [← e4] at h ⊢
  have z4 := pz e4 z3
  replace t0 := pk e4 t0 (by decide)
  replace t5 := pk e4 t5 (by decide)
  replace t39 := pk e4 t39 (by decide)
  clear t41
  have t42 := pq e4 z3 (by decide)
  clear e4 z3
  refine wpAnyH_take (i := 4) (oi := lists14_o4) (v := tv) rfl (by kernel_rfl) (by kernel_rfl) (by kernel_rfl) (fun _ _ _ h => h) (Or.inl ⟨by rfl, fun w1 hw => exec_load rfl t42 (G1 _ hw)⟩) hHeld ?_
  change wpAnyH _ _ _ _ _ _ _ (a4.put (some 43) (tv)) _
  obtain ⟨a5, e5⟩ : ∃ act, act = a4.put (some 43) (tv) := ⟨_, rfl⟩
  rw [← e5] at h ⊢
  have z5 := pz e5 z4
  replace t0 := pk e5 t0 (by decide)
  replace t5 := pk e5 t5 (by decide)
  replace t39 := pk e5 t39 (by decide)
  clear t42
  have t43 := pq e5 z4 (by decide)
  clear e5 z4
  refine wpAnyH_take (i := 5) (oi := lists14_o5) (v := lv) rfl (by kernel_rfl) (by kernel_rfl) (by kernel_rfl) (fun _ _ _ h => h) (Or.inl ⟨by rfl, fun w1 hw => exec_move rfl t0⟩) hHeld ?_
  change wpAnyH _ _ _ _ _ _ _ (a5.put (some 44) (lv)) _
  obtain ⟨a6, e6⟩ : ∃ act, act = a5.put (some 44) (lv) := ⟨_, rfl⟩
  rw [← e6] at h ⊢
  have z6 := pz e6 z5
  replace t5 := pk e6 t5 (by decide)
  replace t39 := pk e6 t39 (by decide)
  replace t43 := pk e6 t43 (by decide)
  clear t0
  have t44 := pq e6 z5 (by decide)
  clear e6 z5
  refine wpAnyH_take (i := 6) (oi := lists14_o6) (v := iv) rfl (by kernel_rfl) (by kernel_rfl) (by kernel_rfl) (fun _ _ _ h => h) (Or.inl ⟨by rfl, fun w1 hw => exec_move rfl t5⟩) hHeld ?_
  change wpAnyH _ _ _ _ _ _ _ (a6.put (some 45) (iv)) _
  obtain ⟨a7, e7⟩ : ∃ act, act = a6.put (some 45) (iv) := ⟨_, rfl⟩
  rw [← e7] at h ⊢
  have z7 := pz e7 z6
  replace t39 := pk e7 t39 (by decide)
  replace t43 := pk e7 t43 (by decide)
  replace t44 := pk e7 t44 (by decide)
  clear t5
  have t45 := pq e7 z6 (by decide)
  clear e7 z6
  refine wpAnyH_take (i := 7) (oi := lists14_o7) (v := .pointer (some ⟨b, o, none⟩)) rfl (by kernel_rfl) (by kernel_rfl) (by kernel_rfl) (fun _ _ _ h => h) (Or.inl ⟨by rfl, fun w1 hw => exec_indexAt rfl t44 t45 (G2 _)⟩) hHeld ?_
  change wpAnyH _ _ _ _ _ _ _ (a7.put (some 46) (.pointer (some ⟨b, o, none⟩))) _
  obtain ⟨a8, e8⟩ : ∃ act, act = a7.put (some 46) (.pointer (some ⟨b, o, none⟩)) := ⟨_, rfl⟩
  rw [← e8] at h ⊢
  have z8 := pz e8 z7
  replace t39 := pk e8 t39 (by decide)
  replace t43 := pk e8 t43 (by decide)
  clear t44 t45
  have t46 := pq e8 z7 (by decide)
  clear e8 z7
  refine wpAnyH_take (i := 8) (oi := lists14_o8) (v := .pointer (some ⟨b, o + 34, none⟩)) rfl (by kernel_rfl) (by kernel_rfl) (by kernel_rfl) (fun _ _ _ h => h) (Or.inl ⟨by rfl, fun w1 hw => exec_fieldAt rfl t46 (fg_39_2 _ _ _)⟩) hHeld ?_
  change wpAnyH _ _ _ _ _ _ _ (a8.put (some 47) (.pointer (some ⟨b, o + 34, none⟩))) _
  obtain ⟨a9, e9⟩ : ∃ act, act = a8.put (some 47) (.pointer (some ⟨b, o + 34, none⟩)) := ⟨_, rfl⟩
  rw [← e9] at h ⊢
  have z9 := pz e9 z8
  replace t39 := pk e9 t39 (by decide)
  replace t43 := pk e9 t43 (by decide)
  clear t46
  have t47 := pq e9 z8 (by decide)
  clear e9 z8
  refine wpAnyH_take (i := 9) (oi := lists14_o9) (v := uv) rfl (by kernel_rfl) (by kernel_rfl) (by kernel_rfl) (fun _ _ _ h => h) (Or.inl ⟨by rfl, fun w1 hw => exec_load rfl t47 (G3 _ hw)⟩) hHeld ?_
  change wpAnyH _ _ _ _ _ _ _ (a9.put (some 48) (uv)) _
  obtain ⟨a10, e10⟩ : ∃ act, act = a9.put (some 48) (uv) := ⟨_, rfl⟩
  rw [← e10] at h ⊢
  have z10 := pz e10 z9
  replace t39 := pk e10 t39 (by decide)
  replace t43 := pk e10 t43 (by decide)
  clear t47
  have t48 := pq e10 z9 (by decide)
  clear e10 z9
  refine wpAnyH_ready (rs := [10]) (by kernel_rfl) (by simp) ?_
  refine AllReadyH.cons (o := lists14_o10) rfl (fun K hK => ?_) AllReadyH.nil
  rw [if_pos (by rfl)]
  unfold lists14_o10 at hK ⊢
  go_simp
  refine (CK).mono ?_
  rintro e x11 ⟨v, rfl, hs, CT⟩
  try go_wp2_with fail
  replace h := h v
  refine hK.out _ _ (hs) (fun hHeld => ?_)
  clear hK K
  change wpAnyH _ _ _ _ _ _ _ (a10.put (some 49) (v)) _
  obtain ⟨a11, e11⟩ : ∃ act, act = a10.put (some 49) (v) := ⟨_, rfl⟩
  rw [← e11] at h ⊢
  have z11 := pz e11 z10
  replace t39 := pk e11 t39 (by decide)
  clear t43 t48
  have t49 := pq e11 z10 (by decide)
  clear e11 z10
  refine wpAnyH_ready (rs := [11]) (by kernel_rfl) (by simp) ?_
  refine AllReadyH.cons (o := lists14_o11) rfl (fun K hK => ?_) AllReadyH.nil
  rw [if_pos (by rfl)]
  unfold lists14_o11 at hK ⊢
  go_simp
  refine (CT).mono ?_
  rintro e x12 ⟨rfl, hs2, HF⟩
  try go_wp2_with fail
  skip
  refine hK.out _ _ (hs2) (fun hHeld => ?_)
  clear hK K
  change wpAnyH _ _ _ _ _ _ _ (a11.put (some 50) (.tuple #[])) _
  obtain ⟨a12, e12⟩ : ∃ act, act = a11.put (some 50) (.tuple #[]) := ⟨_, rfl⟩
  rw [← e12] at h ⊢
  have z12 := pz e12 z11
  clear t39 t49
  clear e12 z11
  exact wpAnyH_done (by kernel_rfl) (NoPanic.normal (h _ _ (HF) rfl)) _
def lists16_o0 : Oper := ⟨some 59, .move (.tmp 4), 52, "law.go:231", #[], none⟩
def lists16_o1 : Oper := ⟨some 60, .call { callee := Callee.value (Operand.func 25), args := #[.tmp 59], argTypes := #[52] }, 4, "law.go:231", #[⟨0, .data⟩], none⟩
def lists16_o2 : Oper := ⟨some 61, .unOp UnOp.not 4 (.tmp 60), 4, "law.go:231", #[⟨1, .data⟩], none⟩
def lists16_o3 : Oper := ⟨some 62, .move (.tmp 61), 4, "law.go:231", #[⟨2, .data⟩, ⟨1, .chain⟩], none⟩
def lists16_o4 : Oper := ⟨some 63, .move (.tmp 3), 24, "law.go:231", #[⟨3, .guard⟩], some (3, false)⟩
def lists16_o5 : Oper := ⟨some 64, .nilCheck (.tmp 63), 0, "law.go:231", #[⟨4, .data⟩, ⟨3, .guard⟩], some (3, false)⟩
def lists16_o6 : Oper := ⟨some 65, .fieldAddr 32 (.tmp 64) 0, 0, "law.go:231", #[⟨5, .data⟩, ⟨3, .guard⟩], some (3, false)⟩
def lists16_o7 : Oper := ⟨some 66, .load 25 (.tmp 65), 25, "law.go:231", #[⟨6, .data⟩, ⟨3, .guard⟩], some (3, false)⟩
def lists16_o8 : Oper := ⟨some 67, .move (.tmp 3), 24, "law.go:231", #[⟨3, .guard⟩], some (3, false)⟩
def lists16_o9 : Oper := ⟨some 68, .nilCheck (.tmp 67), 0, "law.go:231", #[⟨8, .data⟩, ⟨3, .guard⟩], some (3, false)⟩
def lists16_o10 : Oper := ⟨some 69, .fieldAddr 32 (.tmp 68) 1, 0, "law.go:231", #[⟨9, .data⟩, ⟨3, .guard⟩], some (3, false)⟩
def lists16_o11 : Oper := ⟨some 70, .load 27 (.tmp 69), 27, "law.go:231", #[⟨10, .data⟩, ⟨3, .guard⟩], some (3, false)⟩
def lists16_o12 : Oper := ⟨some 71, .move (.tmp 0), 23, "law.go:231", #[⟨3, .guard⟩], some (3, false)⟩
def lists16_o13 : Oper := ⟨some 72, .call { callee := Callee.value (Operand.func 14), args := #[.tmp 71], argTypes := #[23] }, 41, "law.go:231", #[⟨12, .data⟩, ⟨3, .chain⟩, ⟨3, .guard⟩], some (3, false)⟩
def lists16_o14 : Oper := ⟨some 73, .call { callee := Callee.value (Operand.func 13), args := #[.tmp 66, .tmp 70, .tmp 72], argTypes := #[25, 27, 41] }, 4, "law.go:231", #[⟨7, .data⟩, ⟨11, .data⟩, ⟨13, .data⟩, ⟨13, .chain⟩, ⟨3, .guard⟩], some (3, false)⟩
def lists16_o15 : Oper := ⟨some 74, .unOp UnOp.not 4 (.tmp 73), 4, "law.go:231", #[⟨14, .data⟩, ⟨3, .guard⟩], some (3, false)⟩
def lists16_o16 : Oper := ⟨some 75, .pick (.tmp 62) (Operand.const (Value.bool true)) (.tmp 74), 4, "law.go:231", #[⟨3, .data⟩, ⟨15, .data⟩], none⟩
def lists16_ops : Array Oper := #[lists16_o0, lists16_o1, lists16_o2, lists16_o3, lists16_o4, lists16_o5, lists16_o6, lists16_o7, lists16_o8, lists16_o9, lists16_o10, lists16_o11, lists16_o12, lists16_o13, lists16_o14, lists16_o15, lists16_o16]
set_option maxRecDepth 100000 in
set_option maxHeartbeats 4000000 in
theorem lists16 (S Fin : World → Prop) (x : Nat) (bv tv dv lv : Value) (a : Act) (w : World) (Q : Exit → Act → World → Prop) (hsz : a.tmps.size = 102)
    (t3 : a.tmps.getD 3 undef = .pointer (some ⟨x, 0, none⟩))
    (t0 : a.tmps.getD 0 undef = lv)
    (t4 : a.tmps.getD 4 undef = bv)
    (h0 : S w.drew) (CA : Calls Try.prog 25 #[bv] w.drew fun e w' => e = .returned (.bool true) ∧ S w' ∧ Calls Try.prog 14 #[lv] w' fun e2 w2 => ∃ v, e2 = .returned v ∧ S w2 ∧ Calls Try.prog 13 #[tv, dv, v] w2 fun e3 w3 => e3 = .returned (.bool true) ∧ S w3 ∧ Fin w3)
    (G1 : ∀ W, S W → (Instr.loadAt 25 (.pointer (some ⟨x, 0 + 0, none⟩))).run Try.prog W = .ok (tv) W)
    (G2 : ∀ W, S W → (Instr.loadAt 27 (.pointer (some ⟨x, 0 + 1, none⟩))).run Try.prog W = .ok (dv) W)
    (h : ∀ (v : Value) (a' : Act) (w' : World), Fin w' → a' = (((((((((((((((((a).put (some 59) (bv)).put (some 60) (.bool true)).put (some 61) (.bool false)).put (some 62) (.bool false)).put (some 63) (.pointer (some ⟨x, 0, none⟩))).put (some 64) (.pointer (some ⟨x, 0, none⟩))).put (some 65) (.pointer (some ⟨x, 0 + 0, none⟩))).put (some 66) (tv)).put (some 67) (.pointer (some ⟨x, 0, none⟩))).put (some 68) (.pointer (some ⟨x, 0, none⟩))).put (some 69) (.pointer (some ⟨x, 0 + 1, none⟩))).put (some 70) (dv)).put (some 71) (lv)).put (some 72) (v)).put (some 73) (.bool true)).put (some 74) (.bool false)).put (some 75) (.bool false) → Q .normal a' w') :
    (Code.region 16 lists16_ops true).wp Try.prog Q a w := by
  refine wp_region_noPanic ?_
  refine wp_region_held_drew (S := fun w' => S w') (by kernel_rfl) (h0) (fun hHeld => ?_)
  refine wpAnyH_take (i := 0) (oi := lists16_o0) (v := bv) rfl (by kernel_rfl) (by kernel_rfl) (by kernel_rfl) (fun _ _ _ h => h) (Or.inl ⟨by rfl, fun w1 hw => exec_move rfl t4⟩) hHeld ?_
  change wpAnyH _ _ _ _ _ _ _ (a.put (some 59) (bv)) _
  obtain ⟨a1, e1⟩ : ∃ act, act = a.put (some 59) (bv) := ⟨_, rfl⟩
  rw [← e1] at h ⊢
  have z1 := pz e1 hsz
  replace t3 := pk e1 t3 (by decide)
  replace t0 := pk e1 t0 (by decide)
  clear t4
  have t59 := pq e1 hsz (by decide)
  clear e1 hsz
  refine wpAnyH_ready (rs := [1]) (by kernel_rfl) (by simp) ?_
  refine AllReadyH.cons (o := lists16_o1) rfl (fun K hK => ?_) AllReadyH.nil
  rw [if_pos (by rfl)]
  unfold lists16_o1 at hK ⊢
  go_simp
  refine (CA).mono ?_
  rintro e x2 ⟨rfl, hs, CN⟩
  try go_wp2_with fail
  skip
  refine hK.out _ _ (hs) (fun hHeld => ?_)
  clear hK K
  change wpAnyH _ _ _ _ _ _ _ (a1.put (some 60) (.bool true)) _
  obtain ⟨a2, e2⟩ : ∃ act, act = a1.put (some 60) (.bool true) := ⟨_, rfl⟩
  rw [← e2] at h ⊢
  have z2 := pz e2 z1
  replace t3 := pk e2 t3 (by decide)
  replace t0 := pk e2 t0 (by decide)
  clear t59
  have t60 := pq e2 z1 (by decide)
  clear e2 z1
  refine wpAnyH_take (i := 2) (oi := lists16_o2) (v := .bool false) rfl (by kernel_rfl) (by kernel_rfl) (by kernel_rfl) (fun _ _ _ h => h) (Or.inl ⟨by rfl, fun w1 hw => by unfold lists16_o2; go_simp⟩) hHeld ?_
  change wpAnyH _ _ _ _ _ _ _ (a2.put (some 61) (.bool false)) _
  obtain ⟨a3, e3⟩ : ∃ act, act = a2.put (some 61) (.bool false) := ⟨_, rfl⟩
  rw [← e3] at h ⊢
  have z3 := pz e3 z2
  replace t3 := pk e3 t3 (by decide)
  replace t0 := pk e3 t0 (by decide)
  clear t60
  have t61 := pq e3 z2 (by decide)
  clear e3 z2
  refine wpAnyH_take (i := 3) (oi := lists16_o3) (v := .bool false) rfl (by kernel_rfl) (by kernel_rfl) (by kernel_rfl) (fun _ _ _ h => h) (Or.inl ⟨by rfl, fun w1 hw => exec_move rfl t61⟩) hHeld ?_
  change wpAnyH _ _ _ _ _ _ _ (a3.put (some 62) (.bool false)) _
  obtain ⟨a4, e4⟩ : ∃ act, act = a3.put (some 62) (.bool false) := ⟨_, rfl⟩
  rw [← e4] at h ⊢
  have z4 := pz e4 z3
  replace t3 := pk e4 t3 (by decide)
  replace t0 := pk e4 t0 (by decide)
  clear t61
  have t62 := pq e4 z3 (by decide)
  clear e4 z3
  refine wpAnyH_take (i := 4) (oi := lists16_o4) (v := .pointer (some ⟨x, 0, none⟩)) rfl (by kernel_rfl) (by kernel_rfl) (by kernel_rfl) (fun _ _ _ h => h) (Or.inl ⟨by simp [Region.wanted, yielded, lists16_ops, lists16_o4, lists16_o3, tget z4 (by decide) t62], fun w1 hw => exec_move rfl t3⟩) hHeld ?_
  change wpAnyH _ _ _ _ _ _ _ (a4.put (some 63) (.pointer (some ⟨x, 0, none⟩))) _
  obtain ⟨a5, e5⟩ : ∃ act, act = a4.put (some 63) (.pointer (some ⟨x, 0, none⟩)) := ⟨_, rfl⟩
  rw [← e5] at h ⊢
  have z5 := pz e5 z4
  replace t3 := pk e5 t3 (by decide)
  replace t0 := pk e5 t0 (by decide)
  replace t62 := pk e5 t62 (by decide)
  have t63 := pq e5 z4 (by decide)
  clear e5 z4
  refine wpAnyH_take (i := 5) (oi := lists16_o5) (v := .pointer (some ⟨x, 0, none⟩)) rfl (by kernel_rfl) (by kernel_rfl) (by kernel_rfl) (fun _ _ _ h => h) (Or.inl ⟨by simp [Region.wanted, yielded, lists16_ops, lists16_o5, lists16_o3, tget z5 (by decide) t62], fun w1 hw => exec_nilCheck rfl t63⟩) hHeld ?_
  change wpAnyH _ _ _ _ _ _ _ (a5.put (some 64) (.pointer (some ⟨x, 0, none⟩))) _
  obtain ⟨a6, e6⟩ : ∃ act, act = a5.put (some 64) (.pointer (some ⟨x, 0, none⟩)) := ⟨_, rfl⟩
  rw [← e6] at h ⊢
  have z6 := pz e6 z5
  replace t3 := pk e6 t3 (by decide)
  replace t0 := pk e6 t0 (by decide)
  replace t62 := pk e6 t62 (by decide)
  clear t63
  have t64 := pq e6 z5 (by decide)
  clear e6 z5
  refine wpAnyH_take (i := 6) (oi := lists16_o6) (v := .pointer (some ⟨x, 0 + 0, none⟩)) rfl (by kernel_rfl) (by kernel_rfl) (by kernel_rfl) (fun _ _ _ h => h) (Or.inl ⟨by simp [Region.wanted, yielded, lists16_ops, lists16_o6, lists16_o3, tget z6 (by decide) t62], fun w1 hw => exec_fieldAt rfl t64 (fg_32_0 _ _ _)⟩) hHeld ?_
  change wpAnyH _ _ _ _ _ _ _ (a6.put (some 65) (.pointer (some ⟨x, 0 + 0, none⟩))) _
  obtain ⟨a7, e7⟩ : ∃ act, act = a6.put (some 65) (.pointer (some ⟨x, 0 + 0, none⟩)) := ⟨_, rfl⟩
  rw [← e7] at h ⊢
  have z7 := pz e7 z6
  replace t3 := pk e7 t3 (by decide)
  replace t0 := pk e7 t0 (by decide)
  replace t62 := pk e7 t62 (by decide)
  clear t64
  have t65 := pq e7 z6 (by decide)
  clear e7 z6
  refine wpAnyH_take (i := 7) (oi := lists16_o7) (v := tv) rfl (by kernel_rfl) (by kernel_rfl) (by kernel_rfl) (fun _ _ _ h => h) (Or.inl ⟨by simp [Region.wanted, yielded, lists16_ops, lists16_o7, lists16_o3, tget z7 (by decide) t62], fun w1 hw => exec_load rfl t65 (G1 _ hw)⟩) hHeld ?_
  change wpAnyH _ _ _ _ _ _ _ (a7.put (some 66) (tv)) _
  obtain ⟨a8, e8⟩ : ∃ act, act = a7.put (some 66) (tv) := ⟨_, rfl⟩
  rw [← e8] at h ⊢
  have z8 := pz e8 z7
  replace t3 := pk e8 t3 (by decide)
  replace t0 := pk e8 t0 (by decide)
  replace t62 := pk e8 t62 (by decide)
  clear t65
  have t66 := pq e8 z7 (by decide)
  clear e8 z7
  refine wpAnyH_take (i := 8) (oi := lists16_o8) (v := .pointer (some ⟨x, 0, none⟩)) rfl (by kernel_rfl) (by kernel_rfl) (by kernel_rfl) (fun _ _ _ h => h) (Or.inl ⟨by simp [Region.wanted, yielded, lists16_ops, lists16_o8, lists16_o3, tget z8 (by decide) t62], fun w1 hw => exec_move rfl t3⟩) hHeld ?_
  change wpAnyH _ _ _ _ _ _ _ (a8.put (some 67) (.pointer (some ⟨x, 0, none⟩))) _
  obtain ⟨a9, e9⟩ : ∃ act, act = a8.put (some 67) (.pointer (some ⟨x, 0, none⟩)) := ⟨_, rfl⟩
  rw [← e9] at h ⊢
  have z9 := pz e9 z8
  replace t0 := pk e9 t0 (by decide)
  replace t62 := pk e9 t62 (by decide)
  replace t66 := pk e9 t66 (by decide)
  clear t3
  have t67 := pq e9 z8 (by decide)
  clear e9 z8
  refine wpAnyH_take (i := 9) (oi := lists16_o9) (v := .pointer (some ⟨x, 0, none⟩)) rfl (by kernel_rfl) (by kernel_rfl) (by kernel_rfl) (fun _ _ _ h => h) (Or.inl ⟨by simp [Region.wanted, yielded, lists16_ops, lists16_o9, lists16_o3, tget z9 (by decide) t62], fun w1 hw => exec_nilCheck rfl t67⟩) hHeld ?_
  change wpAnyH _ _ _ _ _ _ _ (a9.put (some 68) (.pointer (some ⟨x, 0, none⟩))) _
  obtain ⟨a10, e10⟩ : ∃ act, act = a9.put (some 68) (.pointer (some ⟨x, 0, none⟩)) := ⟨_, rfl⟩
  rw [← e10] at h ⊢
  have z10 := pz e10 z9
  replace t0 := pk e10 t0 (by decide)
  replace t62 := pk e10 t62 (by decide)
  replace t66 := pk e10 t66 (by decide)
  clear t67
  have t68 := pq e10 z9 (by decide)
  clear e10 z9
  refine wpAnyH_take (i := 10) (oi := lists16_o10) (v := .pointer (some ⟨x, 0 + 1, none⟩)) rfl (by kernel_rfl) (by kernel_rfl) (by kernel_rfl) (fun _ _ _ h => h) (Or.inl ⟨by simp [Region.wanted, yielded, lists16_ops, lists16_o10, lists16_o3, tget z10 (by decide) t62], fun w1 hw => exec_fieldAt rfl t68 (fg_32_1 _ _ _)⟩) hHeld ?_
  change wpAnyH _ _ _ _ _ _ _ (a10.put (some 69) (.pointer (some ⟨x, 0 + 1, none⟩))) _
  obtain ⟨a11, e11⟩ : ∃ act, act = a10.put (some 69) (.pointer (some ⟨x, 0 + 1, none⟩)) := ⟨_, rfl⟩
  rw [← e11] at h ⊢
  have z11 := pz e11 z10
  replace t0 := pk e11 t0 (by decide)
  replace t62 := pk e11 t62 (by decide)
  replace t66 := pk e11 t66 (by decide)
  clear t68
  have t69 := pq e11 z10 (by decide)
  clear e11 z10
  refine wpAnyH_take (i := 11) (oi := lists16_o11) (v := dv) rfl (by kernel_rfl) (by kernel_rfl) (by kernel_rfl) (fun _ _ _ h => h) (Or.inl ⟨by simp [Region.wanted, yielded, lists16_ops, lists16_o11, lists16_o3, tget z11 (by decide) t62], fun w1 hw => exec_load rfl t69 (G2 _ hw)⟩) hHeld ?_
  change wpAnyH _ _ _ _ _ _ _ (a11.put (some 70) (dv)) _
  obtain ⟨a12, e12⟩ : ∃ act, act = a11.put (some 70) (dv) := ⟨_, rfl⟩
  rw [← e12] at h ⊢
  have z12 := pz e12 z11
  replace t0 := pk e12 t0 (by decide)
  replace t62 := pk e12 t62 (by decide)
  replace t66 := pk e12 t66 (by decide)
  clear t69
  have t70 := pq e12 z11 (by decide)
  clear e12 z11
  refine wpAnyH_take (i := 12) (oi := lists16_o12) (v := lv) rfl (by kernel_rfl) (by kernel_rfl) (by kernel_rfl) (fun _ _ _ h => h) (Or.inl ⟨by simp [Region.wanted, yielded, lists16_ops, lists16_o12, lists16_o3, tget z12 (by decide) t62], fun w1 hw => exec_move rfl t0⟩) hHeld ?_
  change wpAnyH _ _ _ _ _ _ _ (a12.put (some 71) (lv)) _
  obtain ⟨a13, e13⟩ : ∃ act, act = a12.put (some 71) (lv) := ⟨_, rfl⟩
  rw [← e13] at h ⊢
  have z13 := pz e13 z12
  replace t62 := pk e13 t62 (by decide)
  replace t66 := pk e13 t66 (by decide)
  replace t70 := pk e13 t70 (by decide)
  clear t0
  have t71 := pq e13 z12 (by decide)
  clear e13 z12
  refine wpAnyH_ready (rs := [13]) (by kernel_rfl) (by simp) ?_
  refine AllReadyH.cons (o := lists16_o13) rfl (fun K hK => ?_) AllReadyH.nil
  rw [if_pos (by simp [Region.wanted, yielded, lists16_ops, lists16_o13, lists16_o3, tget z13 (by decide) t62])]
  unfold lists16_o13 at hK ⊢
  go_simp
  refine (CN).mono ?_
  rintro e x14 ⟨v, rfl, hs1, CL⟩
  try go_wp2_with fail
  replace h := h v
  refine hK.out _ _ (hs1) (fun hHeld => ?_)
  clear hK K
  change wpAnyH _ _ _ _ _ _ _ (a13.put (some 72) (v)) _
  obtain ⟨a14, e14⟩ : ∃ act, act = a13.put (some 72) (v) := ⟨_, rfl⟩
  rw [← e14] at h ⊢
  have z14 := pz e14 z13
  replace t62 := pk e14 t62 (by decide)
  replace t66 := pk e14 t66 (by decide)
  replace t70 := pk e14 t70 (by decide)
  clear t71
  have t72 := pq e14 z13 (by decide)
  clear e14 z13
  refine wpAnyH_ready (rs := [14]) (by kernel_rfl) (by simp) ?_
  refine AllReadyH.cons (o := lists16_o14) rfl (fun K hK => ?_) AllReadyH.nil
  rw [if_pos (by simp [Region.wanted, yielded, lists16_ops, lists16_o14, lists16_o3, tget z14 (by decide) t62])]
  unfold lists16_o14 at hK ⊢
  go_simp
  refine (CL).mono ?_
  rintro e x15 ⟨rfl, hs2, HF⟩
  try go_wp2_with fail
  skip
  refine hK.out _ _ (hs2) (fun hHeld => ?_)
  clear hK K
  change wpAnyH _ _ _ _ _ _ _ (a14.put (some 73) (.bool true)) _
  obtain ⟨a15, e15⟩ : ∃ act, act = a14.put (some 73) (.bool true) := ⟨_, rfl⟩
  rw [← e15] at h ⊢
  have z15 := pz e15 z14
  replace t62 := pk e15 t62 (by decide)
  clear t66 t70 t72
  have t73 := pq e15 z14 (by decide)
  clear e15 z14
  refine wpAnyH_take (i := 15) (oi := lists16_o15) (v := .bool false) rfl (by kernel_rfl) (by kernel_rfl) (by kernel_rfl) (fun _ _ _ h => h) (Or.inl ⟨by simp [Region.wanted, yielded, lists16_ops, lists16_o15, lists16_o3, tget z15 (by decide) t62], fun w1 hw => by unfold lists16_o15; go_simp⟩) hHeld ?_
  change wpAnyH _ _ _ _ _ _ _ (a15.put (some 74) (.bool false)) _
  obtain ⟨a16, e16⟩ : ∃ act, act = a15.put (some 74) (.bool false) := ⟨_, rfl⟩
  rw [← e16] at h ⊢
  have z16 := pz e16 z15
  replace t62 := pk e16 t62 (by decide)
  clear t73
  have t74 := pq e16 z15 (by decide)
  clear e16 z15
  refine wpAnyH_take (i := 16) (oi := lists16_o16) (v := .bool false) rfl (by kernel_rfl) (by kernel_rfl) (by kernel_rfl) (fun _ _ _ h => h) (Or.inl ⟨by rfl, fun w1 hw => by unfold lists16_o16; go_simp⟩) hHeld ?_
  change wpAnyH _ _ _ _ _ _ _ (a16.put (some 75) (.bool false)) _
  obtain ⟨a17, e17⟩ : ∃ act, act = a16.put (some 75) (.bool false) := ⟨_, rfl⟩
  rw [← e17] at h ⊢
  have z17 := pz e17 z16
  clear t62 t74
  clear e17 z16
  exact wpAnyH_done (by kernel_rfl) (NoPanic.normal (h _ _ (HF) rfl)) _
def lists19_o0 : Oper := ⟨some 79, .move (.tmp 3), 24, "law.go:235", #[], none⟩
def lists19_o1 : Oper := ⟨some 80, .call { callee := Callee.value (Operand.func 27), args := #[.tmp 79, Operand.const (Value.int IntKind.i64 (-1))], argTypes := #[24, 3] }, 4, "law.go:235", #[⟨0, .data⟩], none⟩
def lists19_o2 : Oper := ⟨some 81, .unOp UnOp.not 4 (.tmp 80), 4, "law.go:235", #[⟨1, .data⟩], none⟩
def lists19_o3 : Oper := ⟨some 82, .move (.tmp 81), 4, "law.go:235", #[⟨2, .data⟩, ⟨1, .chain⟩], none⟩
def lists19_o4 : Oper := ⟨some 83, .move (.tmp 3), 24, "law.go:235", #[⟨3, .guard⟩], some (3, false)⟩
def lists19_o5 : Oper := ⟨some 84, .nilCheck (.tmp 83), 0, "law.go:235", #[⟨4, .data⟩, ⟨3, .guard⟩], some (3, false)⟩
def lists19_o6 : Oper := ⟨some 85, .fieldAddr 32 (.tmp 84) 0, 0, "law.go:235", #[⟨5, .data⟩, ⟨3, .guard⟩], some (3, false)⟩
def lists19_o7 : Oper := ⟨some 86, .load 25 (.tmp 85), 25, "law.go:235", #[⟨6, .data⟩, ⟨3, .guard⟩], some (3, false)⟩
def lists19_o8 : Oper := ⟨some 87, .move (.tmp 3), 24, "law.go:235", #[⟨3, .guard⟩], some (3, false)⟩
def lists19_o9 : Oper := ⟨some 88, .nilCheck (.tmp 87), 0, "law.go:235", #[⟨8, .data⟩, ⟨3, .guard⟩], some (3, false)⟩
def lists19_o10 : Oper := ⟨some 89, .fieldAddr 32 (.tmp 88) 1, 0, "law.go:235", #[⟨9, .data⟩, ⟨3, .guard⟩], some (3, false)⟩
def lists19_o11 : Oper := ⟨some 90, .load 27 (.tmp 89), 27, "law.go:235", #[⟨10, .data⟩, ⟨3, .guard⟩], some (3, false)⟩
def lists19_o12 : Oper := ⟨some 91, .move (.tmp 0), 23, "law.go:235", #[⟨3, .guard⟩], some (3, false)⟩
def lists19_o13 : Oper := ⟨some 92, .call { callee := Callee.value (Operand.func 14), args := #[.tmp 91], argTypes := #[23] }, 41, "law.go:235", #[⟨12, .data⟩, ⟨3, .chain⟩, ⟨3, .guard⟩], some (3, false)⟩
def lists19_o14 : Oper := ⟨some 93, .call { callee := Callee.value (Operand.func 13), args := #[.tmp 86, .tmp 90, .tmp 92], argTypes := #[25, 27, 41] }, 4, "law.go:235", #[⟨7, .data⟩, ⟨11, .data⟩, ⟨13, .data⟩, ⟨13, .chain⟩, ⟨3, .guard⟩], some (3, false)⟩
def lists19_o15 : Oper := ⟨some 94, .unOp UnOp.not 4 (.tmp 93), 4, "law.go:235", #[⟨14, .data⟩, ⟨3, .guard⟩], some (3, false)⟩
def lists19_o16 : Oper := ⟨some 95, .pick (.tmp 82) (Operand.const (Value.bool true)) (.tmp 94), 4, "law.go:235", #[⟨3, .data⟩, ⟨15, .data⟩], none⟩
def lists19_ops : Array Oper := #[lists19_o0, lists19_o1, lists19_o2, lists19_o3, lists19_o4, lists19_o5, lists19_o6, lists19_o7, lists19_o8, lists19_o9, lists19_o10, lists19_o11, lists19_o12, lists19_o13, lists19_o14, lists19_o15, lists19_o16]
set_option maxRecDepth 100000 in
set_option maxHeartbeats 4000000 in
theorem lists19 (S Fin : World → Prop) (x : Nat) (tv dv lv : Value) (a : Act) (w : World) (Q : Exit → Act → World → Prop) (hsz : a.tmps.size = 102)
    (t3 : a.tmps.getD 3 undef = .pointer (some ⟨x, 0, none⟩))
    (t0 : a.tmps.getD 0 undef = lv)
    (h0 : S w.drew) (CA : Calls Try.prog 27 #[.pointer (some ⟨x, 0, none⟩), .int .i64 (-1)] w.drew fun e w' => e = .returned (.bool true) ∧ S w' ∧ Calls Try.prog 14 #[lv] w' fun e2 w2 => ∃ v, e2 = .returned v ∧ S w2 ∧ Calls Try.prog 13 #[tv, dv, v] w2 fun e3 w3 => e3 = .returned (.bool true) ∧ S w3 ∧ Fin w3)
    (G1 : ∀ W, S W → (Instr.loadAt 25 (.pointer (some ⟨x, 0 + 0, none⟩))).run Try.prog W = .ok (tv) W)
    (G2 : ∀ W, S W → (Instr.loadAt 27 (.pointer (some ⟨x, 0 + 1, none⟩))).run Try.prog W = .ok (dv) W)
    (h : ∀ (v : Value) (a' : Act) (w' : World), Fin w' → a' = (((((((((((((((((a).put (some 79) (.pointer (some ⟨x, 0, none⟩))).put (some 80) (.bool true)).put (some 81) (.bool false)).put (some 82) (.bool false)).put (some 83) (.pointer (some ⟨x, 0, none⟩))).put (some 84) (.pointer (some ⟨x, 0, none⟩))).put (some 85) (.pointer (some ⟨x, 0 + 0, none⟩))).put (some 86) (tv)).put (some 87) (.pointer (some ⟨x, 0, none⟩))).put (some 88) (.pointer (some ⟨x, 0, none⟩))).put (some 89) (.pointer (some ⟨x, 0 + 1, none⟩))).put (some 90) (dv)).put (some 91) (lv)).put (some 92) (v)).put (some 93) (.bool true)).put (some 94) (.bool false)).put (some 95) (.bool false) → Q .normal a' w') :
    (Code.region 19 lists19_ops true).wp Try.prog Q a w := by
  refine wp_region_noPanic ?_
  refine wp_region_held_drew (S := fun w' => S w') (by kernel_rfl) (h0) (fun hHeld => ?_)
  refine wpAnyH_take (i := 0) (oi := lists19_o0) (v := .pointer (some ⟨x, 0, none⟩)) rfl (by kernel_rfl) (by kernel_rfl) (by kernel_rfl) (fun _ _ _ h => h) (Or.inl ⟨by rfl, fun w1 hw => exec_move rfl t3⟩) hHeld ?_
  change wpAnyH _ _ _ _ _ _ _ (a.put (some 79) (.pointer (some ⟨x, 0, none⟩))) _
  obtain ⟨a1, e1⟩ : ∃ act, act = a.put (some 79) (.pointer (some ⟨x, 0, none⟩)) := ⟨_, rfl⟩
  rw [← e1] at h ⊢
  have z1 := pz e1 hsz
  replace t3 := pk e1 t3 (by decide)
  replace t0 := pk e1 t0 (by decide)
  have t79 := pq e1 hsz (by decide)
  clear e1 hsz
  refine wpAnyH_ready (rs := [1]) (by kernel_rfl) (by simp) ?_
  refine AllReadyH.cons (o := lists19_o1) rfl (fun K hK => ?_) AllReadyH.nil
  rw [if_pos (by rfl)]
  unfold lists19_o1 at hK ⊢
  go_simp
  refine (CA).mono ?_
  rintro e x2 ⟨rfl, hs, CN⟩
  try go_wp2_with fail
  skip
  refine hK.out _ _ (hs) (fun hHeld => ?_)
  clear hK K
  change wpAnyH _ _ _ _ _ _ _ (a1.put (some 80) (.bool true)) _
  obtain ⟨a2, e2⟩ : ∃ act, act = a1.put (some 80) (.bool true) := ⟨_, rfl⟩
  rw [← e2] at h ⊢
  have z2 := pz e2 z1
  replace t3 := pk e2 t3 (by decide)
  replace t0 := pk e2 t0 (by decide)
  clear t79
  have t80 := pq e2 z1 (by decide)
  clear e2 z1
  refine wpAnyH_take (i := 2) (oi := lists19_o2) (v := .bool false) rfl (by kernel_rfl) (by kernel_rfl) (by kernel_rfl) (fun _ _ _ h => h) (Or.inl ⟨by rfl, fun w1 hw => by unfold lists19_o2; go_simp⟩) hHeld ?_
  change wpAnyH _ _ _ _ _ _ _ (a2.put (some 81) (.bool false)) _
  obtain ⟨a3, e3⟩ : ∃ act, act = a2.put (some 81) (.bool false) := ⟨_, rfl⟩
  rw [← e3] at h ⊢
  have z3 := pz e3 z2
  replace t3 := pk e3 t3 (by decide)
  replace t0 := pk e3 t0 (by decide)
  clear t80
  have t81 := pq e3 z2 (by decide)
  clear e3 z2
  refine wpAnyH_take (i := 3) (oi := lists19_o3) (v := .bool false) rfl (by kernel_rfl) (by kernel_rfl) (by kernel_rfl) (fun _ _ _ h => h) (Or.inl ⟨by rfl, fun w1 hw => exec_move rfl t81⟩) hHeld ?_
  change wpAnyH _ _ _ _ _ _ _ (a3.put (some 82) (.bool false)) _
  obtain ⟨a4, e4⟩ : ∃ act, act = a3.put (some 82) (.bool false) := ⟨_, rfl⟩
  rw [← e4] at h ⊢
  have z4 := pz e4 z3
  replace t3 := pk e4 t3 (by decide)
  replace t0 := pk e4 t0 (by decide)
  clear t81
  have t82 := pq e4 z3 (by decide)
  clear e4 z3
  refine wpAnyH_take (i := 4) (oi := lists19_o4) (v := .pointer (some ⟨x, 0, none⟩)) rfl (by kernel_rfl) (by kernel_rfl) (by kernel_rfl) (fun _ _ _ h => h) (Or.inl ⟨by simp [Region.wanted, yielded, lists19_ops, lists19_o4, lists19_o3, tget z4 (by decide) t82], fun w1 hw => exec_move rfl t3⟩) hHeld ?_
  change wpAnyH _ _ _ _ _ _ _ (a4.put (some 83) (.pointer (some ⟨x, 0, none⟩))) _
  obtain ⟨a5, e5⟩ : ∃ act, act = a4.put (some 83) (.pointer (some ⟨x, 0, none⟩)) := ⟨_, rfl⟩
  rw [← e5] at h ⊢
  have z5 := pz e5 z4
  replace t3 := pk e5 t3 (by decide)
  replace t0 := pk e5 t0 (by decide)
  replace t82 := pk e5 t82 (by decide)
  have t83 := pq e5 z4 (by decide)
  clear e5 z4
  refine wpAnyH_take (i := 5) (oi := lists19_o5) (v := .pointer (some ⟨x, 0, none⟩)) rfl (by kernel_rfl) (by kernel_rfl) (by kernel_rfl) (fun _ _ _ h => h) (Or.inl ⟨by simp [Region.wanted, yielded, lists19_ops, lists19_o5, lists19_o3, tget z5 (by decide) t82], fun w1 hw => exec_nilCheck rfl t83⟩) hHeld ?_
  change wpAnyH _ _ _ _ _ _ _ (a5.put (some 84) (.pointer (some ⟨x, 0, none⟩))) _
  obtain ⟨a6, e6⟩ : ∃ act, act = a5.put (some 84) (.pointer (some ⟨x, 0, none⟩)) := ⟨_, rfl⟩
  rw [← e6] at h ⊢
  have z6 := pz e6 z5
  replace t3 := pk e6 t3 (by decide)
  replace t0 := pk e6 t0 (by decide)
  replace t82 := pk e6 t82 (by decide)
  clear t83
  have t84 := pq e6 z5 (by decide)
  clear e6 z5
  refine wpAnyH_take (i := 6) (oi := lists19_o6) (v := .pointer (some ⟨x, 0 + 0, none⟩)) rfl (by kernel_rfl) (by kernel_rfl) (by kernel_rfl) (fun _ _ _ h => h) (Or.inl ⟨by simp [Region.wanted, yielded, lists19_ops, lists19_o6, lists19_o3, tget z6 (by decide) t82], fun w1 hw => exec_fieldAt rfl t84 (fg_32_0 _ _ _)⟩) hHeld ?_
  change wpAnyH _ _ _ _ _ _ _ (a6.put (some 85) (.pointer (some ⟨x, 0 + 0, none⟩))) _
  obtain ⟨a7, e7⟩ : ∃ act, act = a6.put (some 85) (.pointer (some ⟨x, 0 + 0, none⟩)) := ⟨_, rfl⟩
  rw [← e7] at h ⊢
  have z7 := pz e7 z6
  replace t3 := pk e7 t3 (by decide)
  replace t0 := pk e7 t0 (by decide)
  replace t82 := pk e7 t82 (by decide)
  clear t84
  have t85 := pq e7 z6 (by decide)
  clear e7 z6
  refine wpAnyH_take (i := 7) (oi := lists19_o7) (v := tv) rfl (by kernel_rfl) (by kernel_rfl) (by kernel_rfl) (fun _ _ _ h => h) (Or.inl ⟨by simp [Region.wanted, yielded, lists19_ops, lists19_o7, lists19_o3, tget z7 (by decide) t82], fun w1 hw => exec_load rfl t85 (G1 _ hw)⟩) hHeld ?_
  change wpAnyH _ _ _ _ _ _ _ (a7.put (some 86) (tv)) _
  obtain ⟨a8, e8⟩ : ∃ act, act = a7.put (some 86) (tv) := ⟨_, rfl⟩
  rw [← e8] at h ⊢
  have z8 := pz e8 z7
  replace t3 := pk e8 t3 (by decide)
  replace t0 := pk e8 t0 (by decide)
  replace t82 := pk e8 t82 (by decide)
  clear t85
  have t86 := pq e8 z7 (by decide)
  clear e8 z7
  refine wpAnyH_take (i := 8) (oi := lists19_o8) (v := .pointer (some ⟨x, 0, none⟩)) rfl (by kernel_rfl) (by kernel_rfl) (by kernel_rfl) (fun _ _ _ h => h) (Or.inl ⟨by simp [Region.wanted, yielded, lists19_ops, lists19_o8, lists19_o3, tget z8 (by decide) t82], fun w1 hw => exec_move rfl t3⟩) hHeld ?_
  change wpAnyH _ _ _ _ _ _ _ (a8.put (some 87) (.pointer (some ⟨x, 0, none⟩))) _
  obtain ⟨a9, e9⟩ : ∃ act, act = a8.put (some 87) (.pointer (some ⟨x, 0, none⟩)) := ⟨_, rfl⟩
  rw [← e9] at h ⊢
  have z9 := pz e9 z8
  replace t0 := pk e9 t0 (by decide)
  replace t82 := pk e9 t82 (by decide)
  replace t86 := pk e9 t86 (by decide)
  clear t3
  have t87 := pq e9 z8 (by decide)
  clear e9 z8
  refine wpAnyH_take (i := 9) (oi := lists19_o9) (v := .pointer (some ⟨x, 0, none⟩)) rfl (by kernel_rfl) (by kernel_rfl) (by kernel_rfl) (fun _ _ _ h => h) (Or.inl ⟨by simp [Region.wanted, yielded, lists19_ops, lists19_o9, lists19_o3, tget z9 (by decide) t82], fun w1 hw => exec_nilCheck rfl t87⟩) hHeld ?_
  change wpAnyH _ _ _ _ _ _ _ (a9.put (some 88) (.pointer (some ⟨x, 0, none⟩))) _
  obtain ⟨a10, e10⟩ : ∃ act, act = a9.put (some 88) (.pointer (some ⟨x, 0, none⟩)) := ⟨_, rfl⟩
  rw [← e10] at h ⊢
  have z10 := pz e10 z9
  replace t0 := pk e10 t0 (by decide)
  replace t82 := pk e10 t82 (by decide)
  replace t86 := pk e10 t86 (by decide)
  clear t87
  have t88 := pq e10 z9 (by decide)
  clear e10 z9
  refine wpAnyH_take (i := 10) (oi := lists19_o10) (v := .pointer (some ⟨x, 0 + 1, none⟩)) rfl (by kernel_rfl) (by kernel_rfl) (by kernel_rfl) (fun _ _ _ h => h) (Or.inl ⟨by simp [Region.wanted, yielded, lists19_ops, lists19_o10, lists19_o3, tget z10 (by decide) t82], fun w1 hw => exec_fieldAt rfl t88 (fg_32_1 _ _ _)⟩) hHeld ?_
  change wpAnyH _ _ _ _ _ _ _ (a10.put (some 89) (.pointer (some ⟨x, 0 + 1, none⟩))) _
  obtain ⟨a11, e11⟩ : ∃ act, act = a10.put (some 89) (.pointer (some ⟨x, 0 + 1, none⟩)) := ⟨_, rfl⟩
  rw [← e11] at h ⊢
  have z11 := pz e11 z10
  replace t0 := pk e11 t0 (by decide)
  replace t82 := pk e11 t82 (by decide)
  replace t86 := pk e11 t86 (by decide)
  clear t88
  have t89 := pq e11 z10 (by decide)
  clear e11 z10
  refine wpAnyH_take (i := 11) (oi := lists19_o11) (v := dv) rfl (by kernel_rfl) (by kernel_rfl) (by kernel_rfl) (fun _ _ _ h => h) (Or.inl ⟨by simp [Region.wanted, yielded, lists19_ops, lists19_o11, lists19_o3, tget z11 (by decide) t82], fun w1 hw => exec_load rfl t89 (G2 _ hw)⟩) hHeld ?_
  change wpAnyH _ _ _ _ _ _ _ (a11.put (some 90) (dv)) _
  obtain ⟨a12, e12⟩ : ∃ act, act = a11.put (some 90) (dv) := ⟨_, rfl⟩
  rw [← e12] at h ⊢
  have z12 := pz e12 z11
  replace t0 := pk e12 t0 (by decide)
  replace t82 := pk e12 t82 (by decide)
  replace t86 := pk e12 t86 (by decide)
  clear t89
  have t90 := pq e12 z11 (by decide)
  clear e12 z11
  refine wpAnyH_take (i := 12) (oi := lists19_o12) (v := lv) rfl (by kernel_rfl) (by kernel_rfl) (by kernel_rfl) (fun _ _ _ h => h) (Or.inl ⟨by simp [Region.wanted, yielded, lists19_ops, lists19_o12, lists19_o3, tget z12 (by decide) t82], fun w1 hw => exec_move rfl t0⟩) hHeld ?_
  change wpAnyH _ _ _ _ _ _ _ (a12.put (some 91) (lv)) _
  obtain ⟨a13, e13⟩ : ∃ act, act = a12.put (some 91) (lv) := ⟨_, rfl⟩
  rw [← e13] at h ⊢
  have z13 := pz e13 z12
  replace t82 := pk e13 t82 (by decide)
  replace t86 := pk e13 t86 (by decide)
  replace t90 := pk e13 t90 (by decide)
  clear t0
  have t91 := pq e13 z12 (by decide)
  clear e13 z12
  refine wpAnyH_ready (rs := [13]) (by kernel_rfl) (by simp) ?_
  refine AllReadyH.cons (o := lists19_o13) rfl (fun K hK => ?_) AllReadyH.nil
  rw [if_pos (by simp [Region.wanted, yielded, lists19_ops, lists19_o13, lists19_o3, tget z13 (by decide) t82])]
  unfold lists19_o13 at hK ⊢
  go_simp
  refine (CN).mono ?_
  rintro e x14 ⟨v, rfl, hs1, CL⟩
  try go_wp2_with fail
  replace h := h v
  refine hK.out _ _ (hs1) (fun hHeld => ?_)
  clear hK K
  change wpAnyH _ _ _ _ _ _ _ (a13.put (some 92) (v)) _
  obtain ⟨a14, e14⟩ : ∃ act, act = a13.put (some 92) (v) := ⟨_, rfl⟩
  rw [← e14] at h ⊢
  have z14 := pz e14 z13
  replace t82 := pk e14 t82 (by decide)
  replace t86 := pk e14 t86 (by decide)
  replace t90 := pk e14 t90 (by decide)
  clear t91
  have t92 := pq e14 z13 (by decide)
  clear e14 z13
  refine wpAnyH_ready (rs := [14]) (by kernel_rfl) (by simp) ?_
  refine AllReadyH.cons (o := lists19_o14) rfl (fun K hK => ?_) AllReadyH.nil
  rw [if_pos (by simp [Region.wanted, yielded, lists19_ops, lists19_o14, lists19_o3, tget z14 (by decide) t82])]
  unfold lists19_o14 at hK ⊢
  go_simp
  refine (CL).mono ?_
  rintro e x15 ⟨rfl, hs2, HF⟩
  try go_wp2_with fail
  skip
  refine hK.out _ _ (hs2) (fun hHeld => ?_)
  clear hK K
  change wpAnyH _ _ _ _ _ _ _ (a14.put (some 93) (.bool true)) _
  obtain ⟨a15, e15⟩ : ∃ act, act = a14.put (some 93) (.bool true) := ⟨_, rfl⟩
  rw [← e15] at h ⊢
  have z15 := pz e15 z14
  replace t82 := pk e15 t82 (by decide)
  clear t86 t90 t92
  have t93 := pq e15 z14 (by decide)
  clear e15 z14
  refine wpAnyH_take (i := 15) (oi := lists19_o15) (v := .bool false) rfl (by kernel_rfl) (by kernel_rfl) (by kernel_rfl) (fun _ _ _ h => h) (Or.inl ⟨by simp [Region.wanted, yielded, lists19_ops, lists19_o15, lists19_o3, tget z15 (by decide) t82], fun w1 hw => by unfold lists19_o15; go_simp⟩) hHeld ?_
  change wpAnyH _ _ _ _ _ _ _ (a15.put (some 94) (.bool false)) _
  obtain ⟨a16, e16⟩ : ∃ act, act = a15.put (some 94) (.bool false) := ⟨_, rfl⟩
  rw [← e16] at h ⊢
  have z16 := pz e16 z15
  replace t82 := pk e16 t82 (by decide)
  clear t93
  have t94 := pq e16 z15 (by decide)
  clear e16 z15
  refine wpAnyH_take (i := 16) (oi := lists19_o16) (v := .bool false) rfl (by kernel_rfl) (by kernel_rfl) (by kernel_rfl) (fun _ _ _ h => h) (Or.inl ⟨by rfl, fun w1 hw => by unfold lists19_o16; go_simp⟩) hHeld ?_
  change wpAnyH _ _ _ _ _ _ _ (a16.put (some 95) (.bool false)) _
  obtain ⟨a17, e17⟩ : ∃ act, act = a16.put (some 95) (.bool false) := ⟨_, rfl⟩
  rw [← e17] at h ⊢
  have z17 := pz e17 z16
  clear t82 t94
  clear e17 z16
  exact wpAnyH_done (by kernel_rfl) (NoPanic.normal (h _ _ (HF) rfl)) _
def lists18_o0 : Oper := ⟨some 76, .move (.tmp 3), 24, "law.go:234", #[], none⟩
def lists18_o1 : Oper := ⟨some 77, .call { callee := Callee.value (Operand.func 26), args := #[.tmp 76], argTypes := #[24] }, 3, "law.go:234", #[⟨0, .data⟩], none⟩
def lists18_o2 : Oper := ⟨some 78, .binOp BinOp.geq 3 (.tmp 77) (Operand.const (Value.int IntKind.i64 0)) 3, 4, "law.go:234", #[⟨1, .data⟩], none⟩
def lists18_ops : Array Oper := #[lists18_o0, lists18_o1, lists18_o2]
set_option maxRecDepth 100000 in
set_option maxHeartbeats 4000000 in
theorem lists18 (x : Nat) (Fin : Bool → World → Prop) (a : Act) (w : World) (Q : Exit → Act → World → Prop) (hsz : a.tmps.size = 102)
    (t3 : a.tmps.getD 3 undef = .pointer (some ⟨x, 0, none⟩))
    (CL : Calls Try.prog 26 #[.pointer (some ⟨x, 0, none⟩)] w fun e w' => ∃ zv bq, e = .returned zv ∧ (∀ W, (eqGuard BinOp.geq 3 (Operand.tmp 77) (Operand.const (Value.int IntKind.i64 0)) zv (.int .i64 0)).run Try.prog W = .ok () W) ∧ (∀ W, (binOp BinOp.geq 3 zv (.int .i64 0)).run Try.prog W = .ok (.bool bq) W) ∧ Fin bq w')
    (h : ∀ (zv : Value) (bq : Bool) (a' : Act) (w' : World), Fin bq w' → a' = (((a).put (some 76) (.pointer (some ⟨x, 0, none⟩))).put (some 77) (zv)).put (some 78) (.bool bq) → Q .normal a' w') :
    (Code.region 18 lists18_ops false).wp Try.prog Q a w := by
  refine wp_region_list ?_
  change wpList _ _ _ [lists18_o0, lists18_o1, lists18_o2] _ _
  refine qv (v := .pointer (some ⟨x, 0, none⟩)) (by rfl) (exec_move rfl t3) (fun a0 e0 => ?_)
  rw [← e0] at h
  have z0 := pz e0 hsz
  clear t3
  have t76 := pq e0 hsz
  clear e0 hsz
  refine qc (by rfl) (by unfold lists18_o1; go_simp) (CL) (fun e x1 hx => ?_)
  obtain ⟨zv, bq, rfl, HE, HG, HF⟩ := hx
  replace h := h zv bq
  refine ⟨_, rfl, fun a1 e1 => ?_⟩
  rw [← e1] at h
  have z1 := pz e1 z0
  clear t76
  have t77 := pq e1 z0
  clear e1 z0
  refine qv (v := .bool bq) (by rfl) (exec_binOp rfl t77 rfl (HE _) (HG _)) (fun a2 e2 => ?_)
  rw [← e2] at h
  have z2 := pz e2 z1
  clear t77
  clear e2 z1
  exact wpList_nil (h _ _ (HF) rfl)
end Go.Proofs.Ytoofljkgdjjllaa

namespace Go.Proofs.Ytoofljkgdjjllaa
open Go.RowKit
set_option linter.unusedVariables false
set_option linter.unusedSimpArgs false

def stepsAt (d : Nat) (W : World) : Nat := match W.cell? ⟨d, 1, none⟩ with | some (.slice _ n _) => n | _ => 0
theorem PX.stepsAt {B x t d m : Nat} {p : Pl} {g : Nat → Nat} {w : World} (h : PX B x t d m p g w) : Go.Proofs.Ytoofljkgdjjllaa.stepsAt d w = p.H.length := by
  have c := h.ps.ref.cell
  rw [h.d] at c
  have c1 : w.cell? ⟨d, 1, none⟩ = some p.vp := (cell_of_row w d 1 _ _ _ c).trans rfl
  obtain ⟨a, k, e, _⟩ := h.ps.ref.past.open
  unfold Go.Proofs.Ytoofljkgdjjllaa.stepsAt
  rw [c1, e, h.ps.ref.len, h.ln.len2]
theorem hm_nil {f : Fn} {PL : List (List RN)} (h : HM [] f PL) : f = fun _ => none := by
  cases h with
  | nil => rfl
theorem tb_start {w w4 : World} {x t d : Nat} {p : Pl} {g : Nat → Nat} (px : PX w.heap.size x t d 0 p g w4) (bel : Below w.heap.size w w4) : LS w x t d w4.heap.size 0 0 (w4.alloc (.cells (B.bkI (.slice none 0 0)) 72)) := by
  have b : Below w4.heap.size w4 (w4.alloc (.cells (B.bkI (.slice none 0 0)) 72)) := (Below.refl _ _).alloc (Nat.le_refl _) _
  refine ⟨⟨g, p, .slice none 0 0, [], px.below b, ⟨⟨heap_alloc_new _ _, ⟨rfl, Or.inl ⟨rfl, rfl⟩⟩, by simp [Value.ownBlock]⟩, bel.size, by simp, by simp, px.ps.gz _ (Nat.le_refl _), fun b hb => (by cases hb), by simp, fun _ => rfl⟩, rfl⟩, bel.trans (b.mono bel.size)⟩
set_option maxRecDepth 100000 in
set_option maxHeartbeats 8000000 in
theorem lists_all (a : Option Addr) (c : Nat) (L : List OpV) (w : World) (hL : RowAt 69 OpV.c w a L) (ok : ∀ x ∈ L, x.ok) (hn : L.length ≤ 1256584717422) :
    Calls Try.prog 8 #[.slice a L.length c] w fun e w' => e = .returned (.bool true) ∧ Below w.heap.size w w' := by
  obtain ⟨n, hnn⟩ : ∃ n, L.length = n := ⟨_, rfl⟩
  have HNn := hidMk hnn
  have HLn := hidMk hn
  have HNM := hidMk (fun (W : World) (b : Below w.heap.size w W) => named_any a c L W (hL.below b) ok hn)
  rw [hnn] at HNM
  rw [hnn]
  rw [hnn] at hn
  clear hnn
  have HA := hidMk (alive_any w)
  have HR := hidMk rnew_own
  have HN1 := hidMk new_own
  go_enter Try.func8, Try.ntmps8
  go_upto_region 4 with (first
    | (go_at_call 9; refine HA.out.mono ?_; rintro e w1 ⟨rfl, b1⟩; clear HA)
    | (go_at_call 10; refine (HN1.out _).mono ?_; rintro e w2 ⟨s, rfl, hs, b2⟩; clear HN1)
    | (go_at_call 11; refine (HR.out _).mono ?_; rintro e w3 ⟨d, rfl, hd, b3⟩; clear HR)
    | fail)
  obtain ⟨hpx, hbl⟩ := px_start b1 hs b2 hd b3
  clear hs hd b1 b2 b3
  generalize w3.alloc (.cells #[.pointer (some ⟨s.t, 0, none⟩), .pointer (some ⟨d, 0, none⟩), .slice none 0 0, .slice none 0 0] 32) = w4 at *
  generalize w3.heap.size = x at *
  generalize p0 s d x = pp at *
  generalize g0 s d x = gg at *
  generalize s.t = t at *
  have ls0 := tb_start hpx hbl
  go_upto_region 5 with (first
    | (refine wpList_build_row rfl 72 rfl (B.bkI (.slice none 0 0)) B.hbBkI ?_)
    | fail)
  generalize w4.alloc (.cells (B.bkI (.slice none 0 0)) 72) = w5 at *
  generalize w4.heap.size = q at *
  have LS0 := hidMk ls0
  clear ls0 hpx hbl
  go_wp2
  go_loopw [5] (fun v5 wr => ∃ i : Nat, v5 = .int .i64 (i : Int) ∧ i ≤ n ∧ LS w x t d q i (6 * i) wr) (fun v5 wr => n - (match v5 with | .int _ i => i.toNat | _ => 0))
  case atStart => exact ⟨0, rfl, Nat.zero_le _, LS0.out⟩
  case round =>
    clear LS0
    obtain ⟨i, rfl, hin, ls⟩ := hrel
    have HLS := hidMk ls
    have HNX := hidMk ls.bel
    clear ls
    by_cases hi : i < n
    · obtain ⟨o, hoi⟩ : ∃ o, L[i]? = some o := ⟨_, List.getElem?_eq_getElem (by rw [HNn.out]; exact hi)⟩
      have hoo := ok o (List.mem_of_getElem? hoi)
      obtain ⟨b, off, rfl, lb, hr⟩ : ∃ b o', a = some ⟨b, o', none⟩ ∧ b < w.heap.size ∧ w.rangeAt b (o' + i * 69) o.c := by
        rcases hL with rfl | ⟨b, o', e, h1, h2⟩
        · simp at hoi
        · exact ⟨b, o', e, h1, h2 i o hoi⟩
      have HX := hidMk (fun (W : World) (bb : Below w.heap.size w W) => rangeAt_keep hr (bb.block _ lb))
      clear hoi hr lb
      go_upto_region 8 with fail
      refine lists8 x (.slice (some ⟨b, off, none⟩) n c) (.int .i64 (i : Int)) (.pointer (some ⟨b, off + i * 69, none⟩)) (.agg o.c.toArray) (fun w' => LS w x t d q (i + 1) (6 * i) w') _ wr _ rfl rfl rfl rfl (HLS.out.step (by omega) o hoo) (fun W => ix_op hi (by omega) W) (load_op hoo (HX.out wr HNX.out)) ?_
      intro a' w6 ls6 ha
      subst ha
      simp only [Act.put, List.setIfInBounds_toArray, List.set_cons_zero, List.set_cons_succ]
      have LS6 := hidMk ls6
      clear ls6 HLS HNX
      generalize wr = wo at *
      go_wp2
      go_loopw [6] (fun v6 wr => ∃ k : Nat, v6 = .int .i64 (k : Int) ∧ k ≤ 2 ∧ LS w x t d q (i + 1) (6 * i + 3 * k) wr) (fun v6 wr => 2 - (match v6 with | .int _ i => i.toNat | _ => 0))
      case atStart => exact ⟨0, rfl, by omega, LS6.out⟩
      case round =>
        obtain ⟨k, rfl, hk2, ls⟩ := hrel
        have HLS := hidMk ls
        clear ls
        by_cases hk : k < 2
        · have hk' : (k : Int) < 2 := by omega
          go_upto_region 13 with fail
          refine lists13 x (.pointer (some ⟨q, 0, none⟩)) (.pointer (some ⟨t, 0, none⟩)) (fun w' => LS w x t d q (i + 1) (6 * i + 3 * k + 1) w') _ wr _ rfl rfl rfl (HLS.out.walk (by omega) (by omega)) (load_tp HLS.out.xc.1) ?_
          intro v a' w7 ls7 ha
          subst ha
          simp only [Act.put, List.setIfInBounds_toArray, List.set_cons_zero, List.set_cons_succ]
          have LS7 := hidMk ls7
          clear ls7
          have ls7d := LS7.out.below (Below.refl w7.heap.size w7).drew
          have L7D := hidMk ls7d
          clear ls7d
          go_upto_region 14 with fail
          refine lists14 (fun W => XC x t d W ∧ Below w.heap.size w W) (fun w' => LS w x t d q (i + 1) (6 * i + 3 * k + 1 + 1) w') x b (off + i * 69) (.pointer (some ⟨q, 0, none⟩)) (.pointer (some ⟨t, 0, none⟩)) (.slice (some ⟨b, off, none⟩) n c) (.int .i64 (i : Int)) o.under.v _ w7 _ rfl rfl rfl rfl rfl ⟨L7D.out.xc, L7D.out.bel⟩ ?_ (fun W hW => load_tp hW.1.1) (fun W => ix_op hi (by omega) W) (fun W hW => op_under hoo (HX.out W hW.2)) ?_
          · refine (L7D.out.kids (by omega) (by omega) o.under hoo.under).mono ?_
            rintro e w' ⟨v, he, hxc, hcall⟩
            exact ⟨v, he, hxc, hcall.mono fun e2 w2 ⟨h1, h2⟩ => ⟨h1, ⟨h2.xc, h2.bel⟩, h2⟩⟩
          intro v2 a' w8 ls8 ha
          subst ha
          simp only [Act.put, List.setIfInBounds_toArray, List.set_cons_zero, List.set_cons_succ]
          have LS8 := hidMk ls8
          clear ls8
          go_upto_region 15 with fail
          refine lists15 x (.pointer (some ⟨q, 0, none⟩)) (.pointer (some ⟨t, 0, none⟩)) zId.v (fun w' => LS w x t d q (i + 1) (6 * i + 3 * k + 1 + 1 + 1) w') _ w8 _ rfl rfl rfl ((LS8.out.kids (by omega) (by omega) zId zId_ok).mono fun e w' ⟨v, he, _, hcall⟩ => ⟨v, he, hcall⟩) (load_tp LS8.out.xc.1) (fun W => build_id W) ?_
          intro v3 a' w9 ls9 ha
          subst ha
          simp only [Act.put, List.setIfInBounds_toArray, List.set_cons_zero, List.set_cons_succ]
          have LS9 : Hid (LS w x t d q (i + 1) (6 * i + 3 * (k + 1)) w9) := by
            have e : 6 * i + 3 * k + 1 + 1 + 1 = 6 * i + 3 * (k + 1) := by omega
            rw [e] at ls9
            exact ls9
          clear ls9 hk'
          go_wp2
          rw [show ((k : Int) + 1) = ((k + 1 : Nat) : Int) by omega]
          refine ⟨⟨k + 1, rfl, hk, LS9.out⟩, ?_⟩
          show 2 - ((k + 1 : Nat) : Int).toNat < 2 - (k : Int).toNat
          omega
        · obtain rfl : k = 2 := by omega
          have LS9 : Hid (LS w x t d q (i + 1) (6 * (i + 1)) wr) := by
            have e : 6 * i + 3 * 2 = 6 * (i + 1) := by omega
            rw [e] at HLS
            exact HLS
          clear HLS hk hk2
          go_wp2
          rw [show ((i : Int) + 1) = ((i + 1 : Nat) : Int) by omega]
          refine ⟨⟨i + 1, rfl, hi, LS9.out⟩, ?_⟩
          show n - ((i + 1 : Nat) : Int).toNat < n - (i : Int).toNat
          omega
    · obtain rfl : n = i := by omega
      clear hin hi
      have ALK := hidMk (fun (W : World) (g : Nat → Nat) (p : Pl) (px : PX w.heap.size x t d n p g W) (bl : Below w.heap.size w W) => show Calls Try.prog 14 #[.slice a n c] W fun e2 w2 => ∃ v, e2 = .returned v ∧ XC x t d w2 ∧ Calls Try.prog 13 #[.pointer (some ⟨t, 0, none⟩), .pointer (some ⟨d, 0, none⟩), v] w2 fun e3 w3 => e3 = .returned (.bool true) ∧ XC x t d w3 ∧ (PX w.heap.size x t d n p g w3 ∧ Below w.heap.size w w3) from by
        refine (HNM.out W bl).mono ?_
        rintro e w' ⟨v, he, ov, bn⟩
        obtain ⟨av, cv, rfl, hv⟩ := own_is ov (namedL_ok ok)
        refine ⟨_, he, (px.below bn).xc, (px_alike (px.below bn) (by have := HNn.out; omega) av cv (namedL L) hv (namedL_ok ok) (by have := HLn.out; rw [namedL, List.length_cons, pairs_len]; omega)).mono ?_⟩
        rintro e w2 ⟨he2, b2⟩
        have b12 := bn.trans (b2.mono bn.size)
        exact ⟨he2, (px.below b12).xc, px.below b12, bl.trans (b12.mono bl.size)⟩)
      have lsd := HLS.out.below (Below.refl wr.heap.size wr).drew
      have LSD := hidMk lsd
      clear lsd HLS HNX
      go_upto_region 16 with fail
      refine lists16 (XC x t d) (fun w' => (∃ g p, PX w.heap.size x t d n p g w') ∧ Below w.heap.size w w') x (.pointer (some ⟨q, 0, none⟩)) (.pointer (some ⟨t, 0, none⟩)) (.pointer (some ⟨d, 0, none⟩)) (.slice a n c) _ wr _ rfl rfl rfl rfl LSD.out.xc ?_ (fun W hW => load_tp hW.1) (fun W hW => load_dp hW.2) ?_
      · refine (LSD.out.alone (by omega)).mono ?_
        rintro e w' ⟨he, ⟨g, p, px⟩, bl⟩
        refine ⟨he, px.xc, (ALK.out w' g p px bl).mono ?_⟩
        rintro e2 w2 ⟨v, he2, hx2, hc⟩
        exact ⟨v, he2, hx2, hc.mono fun e3 w3 ⟨h1, h2, h3, h4⟩ => ⟨h1, h2, ⟨g, p, h3⟩, h4⟩⟩
      rintro v a' w6 ⟨hpx6, bel6⟩ ha
      subst ha
      simp only [Act.put, List.setIfInBounds_toArray, List.set_cons_zero, List.set_cons_succ]
      have HP6 := hidMk hpx6
      have HB6 := hidMk bel6
      clear hpx6 bel6 LSD
      generalize wr = wo at *
      go_wp2
      go_loopw [] (fun wr => (∃ g p, PX w.heap.size x t d n p g wr) ∧ Below w.heap.size w wr) (fun wr => stepsAt d wr)
      case atStart => exact ⟨HP6.out, HB6.out⟩
      case round =>
        clear HP6 HB6
        obtain ⟨⟨g, p, px⟩, bel⟩ := hrel
        have HMS := hidMk px.stepsAt
        have CLA : Hid (Calls Try.prog 26 #[.pointer (some ⟨x, 0, none⟩)] wr fun e w' => ∃ zv bq, e = .returned zv ∧ (∀ W, (eqGuard BinOp.geq 3 (Operand.tmp 77) (Operand.const (Value.int IntKind.i64 0)) zv (.int .i64 0)).run Try.prog W = .ok () W) ∧ (∀ W, (binOp BinOp.geq 3 zv (.int .i64 0)).run Try.prog W = .ok (.bool bq) W) ∧ ((bq = true ∧ 0 < p.H.length) ∨ (bq = false ∧ p.H = [])) ∧ Below wr.heap.size wr w') := (last_any px (by omega)).mono fun e w' ⟨z, he, hz, bz⟩ => by
          rcases hz with ⟨rfl, hH⟩ | ⟨i, rfl, _, _, hp⟩
          · exact ⟨_, false, he, fun W => by go_simp, fun W => by go_simp, Or.inr ⟨rfl, hH⟩, bz⟩
          · exact ⟨_, true, he, fun W => by go_simp, fun W => by have : (0 : Int) ≤ (i : Int) := by omega
                                                                 go_simp, Or.inl ⟨rfl, by rw [px.ln.len2]; exact hp⟩, bz⟩
        have HPX := hidMk px
        have HB := hidMk bel
        clear px bel
        go_upto_region 18 with fail
        refine lists18 x (fun bq w' => ((bq = true ∧ 0 < p.H.length) ∨ (bq = false ∧ p.H = [])) ∧ Below wr.heap.size wr w') _ wr _ rfl rfl CLA.out ?_
        rintro zv bq a' w7 ⟨hbq, b7⟩ ha
        subst ha
        simp only [Act.put, List.setIfInBounds_toArray, List.set_cons_zero, List.set_cons_succ]
        have px7 := HPX.out.below b7
        have bel7 := HB.out.trans (b7.mono HB.out.size)
        clear CLA HPX HB b7
        rcases hbq with ⟨rfl, hlen⟩ | ⟨rfl, hH⟩
        · have PX7 := hidMk (px7.below (Below.refl w7.heap.size w7).drew)
          have BL7 := hidMk (bel7.trans ((Below.refl w7.heap.size w7).drew.mono bel7.size))
          have HLEN := hidMk hlen
          clear px7 bel7 hlen
          go_upto_region 19 with fail
          refine lists19 (XC x t d) (fun w' => (∃ g p', PX w.heap.size x t d n p' g w' ∧ p'.H.length < p.H.length) ∧ Below w.heap.size w w') x (.pointer (some ⟨t, 0, none⟩)) (.pointer (some ⟨d, 0, none⟩)) (.slice a n c) _ w7 _ rfl rfl rfl PX7.out.xc ?_ (fun W hW => load_tp hW.1) (fun W hW => load_dp hW.2) ?_
          · refine (undo_any PX7.out BL7.out.size (by omega) (-1)).mono ?_
            rintro e w' ⟨he, g', p', ex, tc, px', hh⟩
            have hl' : p'.H.length < p.H.length := by have := hh rfl; have := HLEN.out; omega
            refine ⟨he, px'.xc, (ALK.out w' g' p' px' (px_below (B := 0) PX7.out BL7.out tc)).mono ?_⟩
            rintro e2 w2 ⟨v, he2, hx2, hc⟩
            exact ⟨v, he2, hx2, hc.mono fun e3 w3 ⟨h1, h2, h3, h4⟩ => ⟨h1, h2, ⟨g', p', h3, hl'⟩, h4⟩⟩
          rintro v a' w8 ⟨⟨g8, p8, px8, hl8⟩, bel8⟩ ha
          subst ha
          simp only [Act.put, List.setIfInBounds_toArray, List.set_cons_zero, List.set_cons_succ]
          have HP8 := hidMk px8
          have HB8 := hidMk bel8
          have HL8 := hidMk hl8
          clear px8 bel8 hl8 PX7 BL7 HLEN
          go_wp2
          refine ⟨⟨⟨_, _, HP8.out⟩, HB8.out⟩, ?_⟩
          show stepsAt d w8 < stepsAt d wr
          rw [HMS.out, HP8.out.stepsAt]
          exact HL8.out
        · have hf : p.f = fun _ => none := by
            have := px7.ln.hm
            rw [hH] at this
            exact hm_nil this
          have hlen := len_own px7.ps.own (D := []) (by rw [hf]; exact dom_none)
          rw [px7.t] at hlen
          have HLN := hidMk hlen
          have cx := px7.xc.1
          have BL7 := hidMk bel7
          clear hf hlen px7 bel7 hH
          go_wp2_with (first
            | (go_at_call 21; refine HLN.out.mono ?_; rintro e w8 ⟨rfl, b8⟩; clear HLN)
            | fail)
          go_ret
          exact ⟨rfl, BL7.out.trans (b8.mono BL7.out.size)⟩
end Go.Proofs.Ytoofljkgdjjllaa
