import Derived.Test.YtlejbdepoemcjaaXr
namespace Go.Proofs.Ytlejbdepoemcjaa
open Go.RowKit Sq
set_option linter.unusedVariables false
set_option linter.unusedSimpArgs false

theorem zeroSp (w : World) : (zeroValue 113).run Try.prog w = .ok (Sp.v zSp) w := by
  obtain ⟨ii, hi, hz, hsz, hby⟩ := info_parts infoS
  simp [zeroValue, typeInfo, hi, hz, Sp.v]
/-- A spot made and laid down: alloc and store. -/
theorem sp_new (w : World) (s : Sp) (hs : KpV.ok s.kp) : ∃ w1 w2, (Instr.alloc 113 true (.tuple #[])).run Try.prog w = .ok (.pointer (some ⟨w.heap.size, 0, none⟩)) w1 ∧ (Instr.storeAt 113 (.pointer (some ⟨w.heap.size, 0, none⟩)) (Sp.v s)).run Try.prog w1 = .ok () w2 ∧
    Below w.heap.size w w2 ∧ CpAt w2 w.heap.size s := by
  have e1 : (Instr.alloc 113 true (.tuple #[])).run Try.prog w = .ok (.pointer (some ⟨w.heap.size, 0, none⟩)) (w.alloc (.cells (Sp.c zSp).toArray 113)) := by
    simp only [Instr.alloc, newVar, newRow, newObj, Sem.run_bind, zeroSp, Result.andThen_ok, Sp.v, Value.cells]
    rfl
  have e2 := run_storeVar_row (P := Try.prog) (w.alloc (.cells (Sp.c zSp).toArray 113)) w.heap.size 113 113 (Sp.c zSp).toArray (Sp.c s).toArray (heap_alloc_new _ _) (by rw [List.size_toArray, Sp.len hs]; exact szS)
    (by rw [List.size_toArray, List.size_toArray, Sp.len hs, Sp.len zK_ok]) (by rw [List.all_toArray, List.all_eq_true]; exact Sp.one s)
  rw [World.setRow_alloc_new] at e2
  refine ⟨_, w.alloc (.cells (Sp.c s).toArray 113), e1, ?_, (Below.refl _ _).alloc (Nat.le_refl _) _, hs, heap_alloc_new _ _⟩
  simp only [Instr.storeAt, Instr.sureAddr, Sem.run_bind, Sem.run_pure, Result.andThen_ok, Sp.v, e2]
theorem pre_left : ∀ {t : T} {m : Nat} {r' : T} {D : Ctx}, (∀ c0, lft t c0 = (m, false, r') :: (D ++ c0)) → pre D = [] := by
  intro t m r' D h
  have h1 := h []
  have h2 := lft_pre t []
  rw [h1] at h2
  simpa [pre] using h2
theorem fs_first {t : T} {m : Nat} {r' : T} {D : Ctx} (h : ∀ c0, lft t c0 = (m, false, r') :: (D ++ c0)) (hn : t ≠ .nil) : fs t = m := by
  have := fs_up t [] hn
  rw [h []] at this
  exact this.symm
/-- What is left when one is taken out. -/
def Outs (L : List Sp) (t : T) (i n : Nat) (L' : List Sp) (t' : T) : Prop :=
  Good L' t' ∧ L'.length = n ∧ (∃ A B, t.ids = A ++ i :: B ∧ t'.ids = (A ++ B).map (fun j => if j = n then i else j)) ∧ ∀ j, j < n → (gt L' j).kp = (gt L (if j = i then n else j)).kp ∧ (gt L' j).sh = (gt L (if j = i then n else j)).sh
theorem Moved.from_below {w w1 w2 : World} {rb ro g g' cap' : Nat} {L' : List Sp} (b : Below w.heap.size w w1) (hr : rb < w.heap.size) (m : Moved w1 rb ro g g' cap' L' w2) : Moved w rb ro g g' cap' L' w2 :=
  ⟨m.at', (Tch.of_below b (fun j hj q => by omega)).trans m.tch, m.own.elim .inl (fun q => .inr (Nat.le_trans b.size q)), fun q hq => (m.oth q hq).trans (World.cell?_of_block (a := ⟨rb, q, none⟩) (b.block rb hr))⟩
section
variable {w : World} {rb ro g cap i n : Nat} {L : List Sp}
set_option maxRecDepth 100000 in
set_option maxHeartbeats 2000000 in
theorem rtake_any {t : T} (h : SqAt w rb ro g cap L) (hg : Good L t) (hi : i ∈ t.ids) (hn : L.length = n + 1) :
    Calls Try.prog 37 #[.pointer (some ⟨rb, ro, none⟩), .int .i64 (i : Int)] w fun e w' => e = .returned (.tuple #[]) ∧ ∃ L' t', Outs L t i n L' t' ∧ Moved w rb ro g g cap L' w' := by
  obtain ⟨hi0, hil⟩ := hg.lt hi
  obtain ⟨c, l, r, et, z, hcc, hc⟩ := hg.focus hi
  obtain ⟨a1, a2, a3, a4, a5, a6, a7⟩ := z.rep
  have hp := hg.pos
  have ndT := hg.nodup
  rw [et, plug_ids] at ndT
  simp only [T.ids, List.append_assoc, List.cons_append] at ndT
  have hni : i ∉ pre c ++ (l.ids ++ (r.ids ++ post c)) := fun hh => by
    have := (List.perm_middle (l₁ := pre c ++ l.ids) (l₂ := r.ids ++ post c) (a := i)).nodup_iff.1 (by simpa using ndT)
    simp only [List.append_assoc, List.nodup_cons] at this
    exact this.1 hh
  have hids : t.ids = (pre c ++ l.ids) ++ i :: (r.ids ++ post c) := by rw [et, plug_ids]; simp [T.ids]
  -- what follows when something is hung in its stead
  have HM := hidMk (fun (w0 W : World) (h0 : SqAt w0 rb ro g cap L) (M : List Sp) (c2 : Ctx) (o : T) (d : Did w0 rb ro g cap M W) (u : Up M c2 o) (k : Kept L M) (e : (plug c2 o).ids = pre c ++ (l.ids ++ (r.ids ++ post c))) => show Calls Try.prog 78 #[.pointer (some ⟨rb, ro, none⟩), .int .i64 (upOf c2 : Int)] W fun e w' => e = .returned (.tuple #[]) ∧
      Calls Try.prog 81 #[.pointer (some ⟨rb, ro, none⟩), .int .i64 (i : Int)] w' fun e2 w2 => e2 = .returned (.tuple #[]) ∧ ∃ L' t', Outs L t i n L' t' ∧ Moved w0 rb ro g g cap L' w2 from by
    refine (mend_any d.at' (MInv.of_up u)).mono ?_
    rintro e1 w1 ⟨rfl, L3, t3, z3, c3, i3, k3, d3⟩
    rw [e] at i3
    have kk := k.trans k3
    have l3 : L3.length = n + 1 := kk.len.trans hn
    have hft : i ∉ t3.ids := by rw [i3]; exact hni
    have hal : ∀ j, 0 < j → j < L3.length → j ≠ i → j ∈ t3.ids := fun j h0 hj hne => by
      rw [i3]
      have := hg.all j h0 (by rw [← kk.len]; exact hj)
      rw [hids] at this
      simp only [List.mem_append, List.mem_cons] at this ⊢
      rcases this with (q | q) | q | q | q
      · exact .inl q
      · exact .inr (.inl q)
      · exact absurd q hne
      · exact .inr (.inr (.inl q))
      · exact .inr (.inr (.inr q))
    refine ⟨rfl, ?_⟩
    have dd := d.trans d3
    obtain ⟨t', gd, fl, ids', kp⟩ := fill_good z3 c3 l3 hi0 (by omega) hft hal
    refine (fill_any dd.at' z3 c3 l3 hi0 (by omega) hft hal).mono ?_
    rintro e2 w2 ⟨rfl, mv⟩
    refine ⟨rfl, fill L3 i, t', ⟨gd, fl, ⟨pre c ++ l.ids, r.ids ++ post c, hids, ?_⟩, fun j hj => ?_⟩, ⟨mv.at', (dd.tch.mono (fun j _ q => Or.inl q)).trans mv.tch, .inl rfl, fun q hq => (mv.oth q hq).trans (World.cell?_of_block (a := ⟨rb, q, none⟩) (dd.tch.block rb h0.lt.1 h0.ne))⟩⟩
    · rw [ids', i3]; simp
    · obtain ⟨q1, q2⟩ := kp j hj
      exact ⟨by rw [q1, kk.kp], by rw [q2, kk.sh]⟩)
  obtain ⟨s, hs⟩ : ∃ s, gt L i = s := ⟨_, rfl⟩
  have oks : KpV.ok s.kp := by rw [← hs]; exact h.ok.gt hil
  obtain ⟨w1, w2, EA, ES, b2, hC⟩ := sp_new w s oks
  have hsl : s.l = l.ix := by rw [← hs]; exact a4
  have hsr : s.r = r.ix := by rw [← hs]; exact a5
  have hsu : s.up = upOf c := by rw [← hs]; exact a3
  have hx : SqAt w2 rb ro g cap L := h.keep (b2.block _ h.lt.1) (b2.block _ h.lt.2)
  have hul : (gt L i).up < L.length := by rw [a3]; exact z.repc.up_lt
  have si := z.side (show (T.nd i l r).ix ≠ 0 from a1)
  simp only [T.ix] at si
  have hrep : ∀ o : T, repl L i o.ix = hang L (upOf c) (sd c) o.ix := fun o => by unfold repl; rw [a3, si]
  have nd := (List.nodup_append.1 z.nd).1
  simp only [T.ids, List.nodup_append, List.nodup_cons, List.mem_cons] at nd
  rw [← hs] at ES
  have HMV := hidMk (fun (L' : List Sp) (w' : World) (m : Moved w2 rb ro g g cap L' w') => Moved.from_below b2 h.lt.1 m)
  have hir : r.ix ≠ i := fun e => nd.2.1.1 (e ▸ ix_mem (t := r) (by rw [e]; exact a1))
  have hil' : l.ix ≠ i := fun e => nd.2.2 i (e ▸ ix_mem (t := l) (by rw [e]; exact a1)) i (.inl rfl) rfl
  have hrl : r.ix < L.length := ix_lt a7 hp
  have hll : l.ix < L.length := ix_lt a6 hp
  have HS := hidMk hs
  clear hs b2 hids hni ndT
  go_enter Try.func37, Try.ntmps37
  go_upto_region 0 with fail
  refine take0 _ _ _ rfl rfl rfl h hil EA ES ?_
  intro a' w3 hw ha
  subst ha
  obtain rfl : w3 = w2 := hw
  simp only [Act.put, List.setIfInBounds_toArray, List.set_cons_zero, List.set_cons_succ]
  clear EA ES
  go_upto_region 1 with fail
  refine take1 (s := s) _ _ _ rfl rfl hC ?_
  rw [hsu]
  intro a' w4 hw ha
  subst ha
  obtain rfl : w4 = w3 := hw
  simp only [Act.put, List.setIfInBounds_toArray, List.set_cons_zero, List.set_cons_succ]
  by_cases hl0 : l.ix = 0
  · obtain rfl : l = .nil := (rep_ix a6).1 hl0
    have hup := gone_up z hcc hc.2.2 a7 nd.2.1.2 (fun j hj => by simp [T.ids, hj])
    rw [← hrep r] at hup
    have HR := hidMk (replace_any hx hil hul hrl hir)
    have HK := hidMk (show Kept L (repl L i r.ix) from hang_kept _ _ _ _)
    have HI := hidMk (show (plug c r).ids = pre c ++ (T.nil.ids ++ (r.ids ++ post c)) by rw [plug_ids]; simp [T.ids])
    have HU := hidMk hup
    clear hup hrep
    go_upto_region 3 with fail
    refine take3 (s := s) (r := true) _ _ _ rfl rfl hC (by show decide ((0 : Int) = (s.l : Int)) = true; rw [hsl]; rfl) ?_
    intro a' w5 hw ha
    subst ha
    obtain rfl : w5 = w4 := hw
    simp only [Act.put, List.setIfInBounds_toArray, List.set_cons_zero, List.set_cons_succ]
    go_upto_region 4 with fail
    refine take4 (s := s) (fun w' => Did w5 rb ro g cap (repl L i r.ix) w') _ _ _ rfl rfl rfl rfl hC ?_ ?_
    · rw [show dn s true = r.ix from hsr]; exact HR.out
    intro a' w6 d6 ha
    subst ha
    have H1 := hidMk (HM.out _ _ hx _ _ _ d6 HU.out HK.out HI.out)
    simp only [Act.put, List.setIfInBounds_toArray, List.set_cons_zero, List.set_cons_succ]
    clear HR HM HU HK HI
    go_wp2_with (first
      | (go_at_call 78; refine H1.out.mono ?_; rintro e7 w7 ⟨rfl, c7⟩; replace c7 := hidMk c7; clear H1)
      | (go_at_call 81; refine c7.out.mono ?_; rintro e8 w8 ⟨rfl, L8, t8, o8, m8⟩; clear c7)
      | fail)
    go_end0
    exact ⟨rfl, L8, t8, o8, HMV.out _ _ m8⟩
  · have hl0' : ¬ (0 : Int) = (l.ix : Int) := by omega
    go_upto_region 3 with fail
    refine take3 (s := s) (r := false) _ _ _ rfl rfl hC (by show decide ((0 : Int) = (s.l : Int)) = false; rw [hsl]; simpa using hl0') ?_
    intro a' w5 hw ha
    subst ha
    obtain rfl : w5 = w4 := hw
    simp only [Act.put, List.setIfInBounds_toArray, List.set_cons_zero, List.set_cons_succ]
    by_cases hr0 : r.ix = 0
    · obtain rfl : r = .nil := (rep_ix a7).1 hr0
      have hup := gone_up z hcc hc.2.1 a6 nd.1 (fun j hj => by simp [T.ids, hj])
      rw [← hrep l] at hup
      have HR := hidMk (replace_any hx hil hul hll hil')
      have HK := hidMk (show Kept L (repl L i l.ix) from hang_kept _ _ _ _)
      have HI := hidMk (show (plug c l).ids = pre c ++ (l.ids ++ (T.nil.ids ++ post c)) by rw [plug_ids]; simp [T.ids])
      have HU := hidMk hup
      clear hup hrep hl0'
      go_upto_region 5 with fail
      refine take5 (s := s) (r := true) _ _ _ rfl rfl hC (by show decide ((0 : Int) = (s.r : Int)) = true; rw [hsr]; rfl) ?_
      intro a' w6 hw ha
      subst ha
      obtain rfl : w6 = w5 := hw
      simp only [Act.put, List.setIfInBounds_toArray, List.set_cons_zero, List.set_cons_succ]
      go_upto_region 6 with fail
      refine take6 (s := s) (fun w' => Did w6 rb ro g cap (repl L i l.ix) w') _ _ _ rfl rfl rfl rfl hC ?_ ?_
      · rw [show dn s false = l.ix from hsl]; exact HR.out
      intro a' w7 d7 ha
      subst ha
      have H1 := hidMk (HM.out _ _ hx _ _ _ d7 HU.out HK.out HI.out)
      simp only [Act.put, List.setIfInBounds_toArray, List.set_cons_zero, List.set_cons_succ]
      clear HR HM HU HK HI
      go_wp2_with (first
        | (go_at_call 78; refine H1.out.mono ?_; rintro e7 w7 ⟨rfl, c7⟩; replace c7 := hidMk c7; clear H1)
        | (go_at_call 81; refine c7.out.mono ?_; rintro e8 w8 ⟨rfl, L8, t8, o8, m8⟩; clear c7)
        | fail)
      go_end0
      exact ⟨rfl, L8, t8, o8, HMV.out _ _ m8⟩
    · have hr0' : ¬ (0 : Int) = (r.ix : Int) := by omega
      have hrn : r ≠ .nil := fun e => hr0 (by rw [e]; rfl)
      obtain ⟨m, r', D, hlft, hplug⟩ := lft_first r hrn
      have hfs := fs_first hlft hrn
      have hpd := pre_left hlft
      have z' := z
      have cr' := hc.2.2
      rw [← hplug] at z' cr' hfs
      have HR := hidMk (rbn_any hx hg.fit z' hfs)
      obtain ⟨hup, hk⟩ := rbn_up z' hcc hc.2.1 cr'
      have HK := hidMk hk
      have HU := hidMk hup
      have HI := hidMk (show (plug (D ++ (m, true, l) :: c) r').ids = pre c ++ (l.ids ++ (r.ids ++ post c)) by
        rw [plug_app]
        show (plug c (.nd m l (plug D r'))).ids = _
        rw [plug_ids, ← hplug, T.ids, plug_ids, plug_ids, hpd]
        simp [T.ids])
      clear hup hk z' cr' hfs hrep hl0' hplug hlft hpd
      go_upto_region 5 with fail
      refine take5 (s := s) (r := false) _ _ _ rfl rfl hC (by show decide ((0 : Int) = (s.r : Int)) = false; rw [hsr]; simpa using hr0') ?_
      intro a' w6 hw ha
      subst ha
      obtain rfl : w6 = w5 := hw
      simp only [Act.put, List.setIfInBounds_toArray, List.set_cons_zero, List.set_cons_succ]
      clear hr0'
      generalize hcu : upOf (D ++ (m, true, l) :: c) = cu at HR
      have HCU := hidMk hcu
      clear hcu
      have H0 := hidMk (fun (W : World) (d : Did w6 rb ro g cap (rbn L i m) W) => HM.out _ _ hx _ _ _ d HU.out HK.out HI.out)
      rw [HCU.out] at H0
      clear HM HU HK HI
      go_wp2_with (first
        | (go_at_call 80; refine HR.out.mono ?_; rintro e6 w6' ⟨rfl, d6⟩; clear HR)
        | (go_at_call 78; refine (H0.out _ d6).mono ?_; rintro e7 w7 ⟨rfl, c7⟩; replace c7 := hidMk c7; clear H0)
        | (go_at_call 81; refine c7.out.mono ?_; rintro e8 w8 ⟨rfl, L8, t8, o8, m8⟩; clear c7)
        | fail)
      go_end0
      exact ⟨rfl, L8, t8, o8, HMV.out _ _ m8⟩
end
end Go.Proofs.Ytlejbdepoemcjaa
