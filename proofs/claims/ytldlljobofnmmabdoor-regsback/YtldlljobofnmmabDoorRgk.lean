import Derived.Test.YtldlljobofnmmabDoorRgj
namespace Go.Proofs.YtldlljobofnmmabDoor
open Go.RowKit
set_option linter.unusedVariables false
set_option linter.unusedSimpArgs false

theorem len_im0 (ty : TypeId) (w : World) : (Builtin.len_ #[97] ty #[.map none]).run Tryd.prog w = .ok (.int .i64 0) w := Maps.len_nil Tryd.underlying97 ty
set_option maxRecDepth 100000 in
set_option maxHeartbeats 4000000 in
/-- forget drops a key. -/
theorem forget_any {w : World} {base : Nat} {s : Rs} (h : RgM w base s) (hb : base ≤ w.heap.size) (hfull : Full s.K) {p : PlK} (hp : p.ok) :
    Calls Tryd.prog 42 #[.pointer (some ⟨s.r, 0, none⟩), p.v] w fun e w' => e = .returned (.tuple #[]) ∧ KNxt w base s (KLess s.K p) w' := by
  have hk := h.keys
  have b1 : Below w.heap.size w (w.alloc (.cells p.c.toArray 34)) := (Below.refl _ _).alloc (Nat.le_refl _) _
  have bx1 : (w.alloc (.cells p.c.toArray 34)).rangeAt w.heap.size 0 p.c := range_box w p.c _
  have z1 : (w.alloc (.cells p.c.toArray 34)).heap.size = w.heap.size + 1 := by simp
  have h1 := h.below b1
  obtain ⟨w1, hw1⟩ : ∃ w1, w.alloc (.cells p.c.toArray 34) = w1 := ⟨_, rfl⟩
  have EB := hidMk (show (Instr.box 34 p.v).run Tryd.prog w = .ok (.pointer (some ⟨w.heap.size, 0, none⟩)) w1 by rw [run_box, ← hw1]; rfl)
  rw [hw1] at b1 bx1 z1 h1
  clear hw1
  have rs1 : RS s.r s.bp s.bk w.heap.size p w1 := ⟨h1.c0, h1.c1, bx1⟩
  have lbk : s.bk < w.heap.size := h.lt s.bk (by simp [Rs.bl])
  by_cases hz : p.a = zId
  · have hr : decide (p.a ≠ zId) = false := by simp [hz]
    have HR := hidMk hr
    have T1 : Hid (Tch (fun j => j ∈ s.bl) w w1) := tch_of b1 _
    -- behind the first delete: which keys are there, in what memory
    obtain ⟨im, K2, w2, n, ED, h2, t2, lk1, lk2, ln2, kh2, fu2, bl2, emp⟩ : ∃ (im : Option Nat) (K2 : List (IdK × (Nat × List ByteArray))) (w2 : World) (n : Nat), (∀ ty, (Builtin.delete_ #[97, 9] ty #[.map im, .string p.k]).run Tryd.prog w1.drew = .ok (.tuple #[]) w2) ∧ RgM w2 base { s with K := K2 } ∧ Tch (fun j => j ∈ s.bl) w1.drew w2 ∧
        (∀ W, W = w1.drew → (Instr.lookup 67 (.map (some s.bk)) p.o.v false).run Tryd.prog W = .ok (.map im) W) ∧ (∀ W, W = w2.drew → (Instr.lookup 67 (.map (some s.bk)) p.o.v false).run Tryd.prog W = .ok (.map im) W) ∧ (∀ ty W, W = w2.drew → (Builtin.len_ #[97] ty #[.map im]).run Tryd.prog W = .ok (.int .i64 (n : Int)) W) ∧
        (∀ o k, KHas K2 o k ↔ KHas s.K o k ∧ ¬ (o = p.o ∧ k = p.k)) ∧ (∀ q ∈ K2, q.1 ≠ p.o → q.2.2 ≠ []) ∧ (∀ j ∈ K2.map (·.2.1), j ∈ s.bl) ∧ ((n = 0 ∧ ∀ k, ¬ KHas K2 p.o k) ∨ (n ≠ 0 ∧ ∀ q ∈ K2, q.1 = p.o → q.2.2 ≠ [])) := by
      have hd := h1.below (Below.refl w1.heap.size w1).drew
      cases hl : M.look s.K p.o with
      | none =>
        refine ⟨none, s.K, w1.drew, 0, fun ty => drop_im _ _ ty, hd, tch_of (Below.refl _ _) _, fun W e => ?_, fun W e => ?_, fun ty W _ => len_im0 ty W, fun o k => ⟨fun q => ⟨q, fun e => khas_no hk hl k (e.1 ▸ q)⟩, fun q => q.1⟩, fun q hq _ => hfull q hq, fun j hj => List.mem_cons_of_mem _ (List.mem_cons_of_mem _ (List.mem_cons_of_mem _ hj)), .inl ⟨rfl, fun k => khas_no hk hl k⟩⟩
        · rw [e]; have := hd.lookK p.o hp.o; rw [hl] at this; exact this
        · rw [e]; have := (hd.below (Below.refl _ _).drew).lookK p.o hp.o; rw [hl] at this; exact this
      | some q =>
        obtain ⟨ib, l⟩ := q
        have hq := M.look_mem hl
        obtain ⟨ob, ed, hm3⟩ := M.run_del (ty := 0) txKey Tryd.underlying97 (hd.kr _ hq) p.k hp.k
        have edt : ∀ ty, (Builtin.delete_ #[97, 9] ty #[.map (some ib), .string p.k]).run Tryd.prog w1.drew = .ok (.tuple #[]) (M.setM w1.drew ib ob) := fun ty => ed
        obtain ⟨l', el, hl'⟩ := del_S l p.k (hd.nodup hq)
        rw [el] at hm3
        have h2 : RgM (M.setM w1.drew ib ob) base { s with K := M.put s.K p.o (ib, l') } := hd.setRow hq (fun j hj => M.setM_other ob hj) hm3
        have hin : (p.o, (ib, l')) ∈ M.put s.K p.o (ib, l') := put_inG _ _ hk
        refine ⟨some ib, M.put s.K p.o (ib, l'), M.setM w1.drew ib ob, l'.length, edt, h2, (setM_tch _ _ _).mono (fun j _ e => by rw [e]; exact Rs.row_bl hq), fun W e => ?_, fun W e => ?_, fun ty W e => ?_, fun o k => ?_, fun q' hq' hne => ?_, fun j hj => ?_, ?_⟩
        · rw [e]; have := hd.lookK p.o hp.o; rw [hl] at this; exact this
        · rw [e]; have := (h2.below (Below.refl _ _).drew).lookK p.o hp.o; rw [M.look_of_mem (M.put_keys _ _ _ hk) hin] at this; exact this
        · rw [e]
          have hm4 : M.MapAt (M.setM w1.drew ib ob).drew ib tx txOk (entS l') := hm3
          have := M.run_mlen (ty := ty) Tryd.underlying97 hm4
          rw [entS_len] at this
          exact this
        · rw [khas_put hk]
          constructor
          · rintro (⟨rfl, hk'⟩ | ⟨hne, hk'⟩)
            · obtain ⟨q1, q2⟩ := (hl' k).1 hk'
              exact ⟨(khas_of hk hq k).2 q1, fun e => q2 e.2⟩
            · exact ⟨hk', fun e => hne e.1⟩
          · rintro ⟨hk', hn⟩
            by_cases e : o = p.o
            · subst e
              exact .inl ⟨rfl, (hl' k).2 ⟨(khas_of hk hq k).1 hk', fun e2 => hn ⟨rfl, e2⟩⟩⟩
            · exact .inr ⟨e, hk'⟩
        · rcases put_memG hk hq' with rfl | ⟨hq', _⟩
          · exact absurd rfl hne
          · exact hfull q' hq'
        · obtain ⟨q', hq', rfl⟩ := List.mem_map.1 hj
          rcases put_memG hk hq' with rfl | ⟨hq', _⟩
          · exact Rs.row_bl (r := (p.o, (ib, l))) hq
          · exact Rs.row_bl hq'
        · by_cases e0 : l' = []
          · subst e0
            refine .inl ⟨rfl, fun k hk' => ?_⟩
            have := (khas_of (M.put_keys _ _ _ hk) hin k).1 hk'
            cases this
          · refine .inr ⟨fun e => e0 (List.eq_nil_of_length_eq_zero e), fun q' hq' e => ?_⟩
            rcases put_memG hk hq' with rfl | ⟨_, hne⟩
            · exact e0
            · exact absurd e hne
    have rsd : RS s.r s.bp s.bk w.heap.size p w1.drew := rs1.drew
    have lw : w.heap.size < w1.drew.heap.size := by show w.heap.size < w1.heap.size; omega
    have rs2 : RS s.r s.bp s.bk w.heap.size p w2 := ⟨h2.c0, h2.c1, rangeAt_keep rsd.pl (t2.block _ lw (fun hm => by have := h.lt _ hm; omega))⟩
    have rs2d := rs2.drew
    have hk2 : (K2.map (·.1)).Nodup := h2.keys
    have HED := hidMk ED
    have HL1 := hidMk lk1
    have HL2 := hidMk lk2
    have HN2 := hidMk ln2
    have t02 : Tch (fun j => j ∈ s.bl) w w2 := (T1.out.trans' (tch_of (Below.refl w1.heap.size w1).drew (fun _ => False)) (fun j _ q => q.elim)).trans' t2 (fun j _ q => q)
    have lo : ∀ o k, (KHas K2 o k ↔ KLess s.K p o k) := fun o k => by
      rw [kh2]
      unfold KLess
      constructor
      · exact fun q => ⟨q.1, fun e => q.2 e.2⟩
      · exact fun q => ⟨q.1, fun e => q.2 ⟨hz, e⟩⟩
    rcases emp with ⟨hn, hno⟩ | ⟨hn, hne⟩
    · -- none is left: the object goes
      have hdd := h2.below (Below.refl w2.heap.size w2).drew.drew
      obtain ⟨ob, ed, hm4⟩ := M.run_del (ty := 0) idKey Tryd.underlying67 hdd.kl p.o hp.o
      have edt : ∀ ty, (Builtin.delete_ #[67, 32] ty #[.map (some s.bk), p.o.v]).run Tryd.prog w2.drew.drew = .ok (.tuple #[]) (M.setM w2.drew.drew s.bk ob) := fun ty => ed
      have h5 : RgM (M.setM w2.drew.drew s.bk ob) base { s with K := M.del K2 p.o } := hdd.delRow (fun j hj => M.setM_other ob hj) hm4
      have NX : Hid (KNxt w base s (KLess s.K p) (M.setM w2.drew.drew s.bk ob)) := by
        refine ⟨⟨M.del K2 p.o, h5, fun _ q hq => ?_, fun o k => ?_, fun j hj => ?_⟩, ?_⟩
        · obtain ⟨hq, hne⟩ := (del_memG hk2).1 hq
          exact fu2 q hq hne
        · rw [khas_del hk2, ← lo]
          constructor
          · exact fun q => q.2
          · exact fun q => ⟨fun e => hno k (e ▸ q), q⟩
        · obtain ⟨q, hq, rfl⟩ := List.mem_map.1 hj
          exact .inl (bl2 _ (List.mem_map.2 ⟨q, ((del_memG hk2).1 hq).1, rfl⟩))
        · exact (t02.trans' (tch_of (Below.refl w2.heap.size w2).drew.drew (fun _ => False)) (fun j _ q => q.elim)).trans' (setM_tch _ _ _) (fun j _ e => by rw [e]; simp [Rs.bl])
      have E5 := hidMk edt
      have rs2dd := rs2d.drew
      obtain ⟨w5, hw5⟩ : ∃ w5, M.setM w2.drew.drew s.bk ob = w5 := ⟨_, rfl⟩
      rw [hw5] at E5 NX
      subst hn
      clear hw5 h5 hm4 ed edt hdd hno lo kh2 fu2 bl2 h2 t2 lk1 lk2 ln2 ED h h1 hk hr hk2 t02
      go_enter Tryd.func42, Tryd.ntmps42
      go_upto_region 1 with (first
        | (refine wpList_run rfl (exec_boxE (t := 34) (v := p.v) (u := .pointer (some ⟨w.heap.size, 0, none⟩)) (w2 := w1) rfl rfl EB.out) ?_)
        | fail)
      refine forg1 (pb := w.heap.size) (p := p) (r := false) _ w1 _ rfl rfl hp bx1 HR.out ?_
      intro a' w' hw' ha
      subst ha
      obtain rfl : w1 = w' := hw'.symm
      simp only [Act.put, List.setIfInBounds_toArray, List.set_cons_zero, List.set_cons_succ]
      go_upto_region 2 with fail
      refine forg2 (rb := s.r) (mb := s.bp) (kb := s.bk) (pb := w.heap.size) (p := p) (im := im) (w2 := w2) _ w1 _ rfl rfl rfl hp rsd HL1.out (HED.out _) ?_
      intro a' w' hw' ha
      subst ha
      obtain rfl : w2 = w' := hw'.symm
      simp only [Act.put, List.setIfInBounds_toArray, List.set_cons_zero, List.set_cons_succ]
      go_upto_region 3 with fail
      refine forg3 (rb := s.r) (mb := s.bp) (kb := s.bk) (pb := w.heap.size) (p := p) (im := im) (n := 0) (r := true) _ w2 _ rfl rfl rfl hp rs2d HL2.out (HN2.out _) rfl ?_
      intro a' w' hw' ha
      subst ha
      obtain rfl : w2.drew = w' := hw'.symm
      simp only [Act.put, List.setIfInBounds_toArray, List.set_cons_zero, List.set_cons_succ]
      go_upto_region 4 with fail
      refine forg4 (rb := s.r) (mb := s.bp) (kb := s.bk) (pb := w.heap.size) (p := p) (w2 := w5) _ w2.drew _ rfl rfl rfl hp rs2dd (E5.out _) ?_
      intro a' w' hw' ha
      subst ha
      obtain rfl : w5 = w' := hw'.symm
      simp only [Act.put, List.setIfInBounds_toArray, List.set_cons_zero, List.set_cons_succ]
      go_end0
      exact ⟨rfl, NX.out⟩
    · have NX : Hid (KNxt w base s (KLess s.K p) w2.drew) := by
        refine ⟨⟨K2, h2.below (Below.refl w2.heap.size w2).drew, fun _ q hq => ?_, lo, fun j hj => .inl (bl2 j hj)⟩, t02.trans' (tch_of (Below.refl w2.heap.size w2).drew (fun _ => False)) (fun j _ q => q.elim)⟩
        by_cases e : q.1 = p.o
        · exact hne q hq e
        · exact fu2 q hq e
      have hd0 : decide (n = 0) = false := by simp [hn]
      have HD0 := hidMk hd0
      clear lo kh2 fu2 bl2 h2 t2 lk1 lk2 ln2 ED h h1 hk hr hk2 t02 hne hn hd0
      go_enter Tryd.func42, Tryd.ntmps42
      go_upto_region 1 with (first
        | (refine wpList_run rfl (exec_boxE (t := 34) (v := p.v) (u := .pointer (some ⟨w.heap.size, 0, none⟩)) (w2 := w1) rfl rfl EB.out) ?_)
        | fail)
      refine forg1 (pb := w.heap.size) (p := p) (r := false) _ w1 _ rfl rfl hp bx1 HR.out ?_
      intro a' w' hw' ha
      subst ha
      obtain rfl : w1 = w' := hw'.symm
      simp only [Act.put, List.setIfInBounds_toArray, List.set_cons_zero, List.set_cons_succ]
      go_upto_region 2 with fail
      refine forg2 (rb := s.r) (mb := s.bp) (kb := s.bk) (pb := w.heap.size) (p := p) (im := im) (w2 := w2) _ w1 _ rfl rfl rfl hp rsd HL1.out (HED.out _) ?_
      intro a' w' hw' ha
      subst ha
      obtain rfl : w2 = w' := hw'.symm
      simp only [Act.put, List.setIfInBounds_toArray, List.set_cons_zero, List.set_cons_succ]
      go_upto_region 3 with fail
      refine forg3 (rb := s.r) (mb := s.bp) (kb := s.bk) (pb := w.heap.size) (p := p) (im := im) (n := n) (r := false) _ w2 _ rfl rfl rfl hp rs2d HL2.out (HN2.out _) HD0.out ?_
      intro a' w' hw' ha
      subst ha
      obtain rfl : w2.drew = w' := hw'.symm
      simp only [Act.put, List.setIfInBounds_toArray, List.set_cons_zero, List.set_cons_succ]
      go_wp2
      go_end0
      exact ⟨rfl, NX.out⟩
  · have hr : decide (p.a ≠ zId) = true := by simp [hz]
    have HR := hidMk hr
    have NX : Hid (KNxt w base s (KLess s.K p) w1) := ⟨⟨s.K, h1, fun hf => hf, fun o k => ⟨fun q => ⟨q, fun e => hz e.1⟩, fun q => q.1⟩, fun j hj => .inl (List.mem_cons_of_mem _ (List.mem_cons_of_mem _ (List.mem_cons_of_mem _ hj)))⟩, tch_of b1 _⟩
    clear h h1 hk hr hz
    go_enter Tryd.func42, Tryd.ntmps42
    go_upto_region 1 with (first
      | (refine wpList_run rfl (exec_boxE (t := 34) (v := p.v) (u := .pointer (some ⟨w.heap.size, 0, none⟩)) (w2 := w1) rfl rfl EB.out) ?_)
      | fail)
    refine forg1 (pb := w.heap.size) (p := p) (r := true) _ w1 _ rfl rfl hp bx1 HR.out ?_
    intro a' w' hw' ha
    subst ha
    obtain rfl : w1 = w' := hw'.symm
    simp only [Act.put, List.setIfInBounds_toArray, List.set_cons_zero, List.set_cons_succ]
    go_wp2
    try simp only [Exit.inBlock, Exit.then]
    refine bodyPost_ret (results_none rfl _ _ _) rfl ?_
    exact ⟨rfl, NX.out⟩
end Go.Proofs.YtldlljobofnmmabDoor
