import Derived.Test.YtlejbdepoemcjaaXl0
namespace Go.Proofs.Ytlejbdepoemcjaa
open Go.RowKit Sq
set_option linter.unusedVariables false
set_option linter.unusedSimpArgs false

/-- A whole row: a tree of all its spots, with right counts. -/
structure Good (L : List Sp) (t : T) : Prop where
  zip : Zip L [] t
  cnt : Cnt L t
  all : ∀ i, 0 < i → i < L.length → i ∈ t.ids
theorem Good.root {L : List Sp} {t : T} (h : Good L t) : (gt L 0).r = t.ix := h.zip.repc.2.1
theorem Good.pos {L : List Sp} {t : T} (h : Good L t) : 0 < L.length := h.zip.repc.pos
theorem Good.lt {L : List Sp} {t : T} (h : Good L t) {i : Nat} (hi : i ∈ t.ids) : i ≠ 0 ∧ i < L.length := h.zip.rep.mem i hi
theorem Good.nodup {L : List Sp} {t : T} (h : Good L t) : t.ids.Nodup := by have := h.zip.nd; simpa [cids] using this
theorem infoS : (Try.prog.info? 113).map (fun i => (i.zero, i.size, i.bytes)) = some (some (.agg (Sp.c zSp).toArray), 73, 136) := by kernel_rfl
theorem zcellsS : (Value.agg (Sp.c zSp).toArray).cells.size = 73 := by
  show (Sp.c zSp).toArray.size = 73
  rw [List.size_toArray, Sp.len zK_ok]
theorem run_bsS (h : Sp) (ok : KpV.ok h.kp) (w : World) : (Instr.buildSlice 85 1 #[(0, Sp.v h)]).run Try.prog w = .ok (.slice (some ⟨w.heap.size, 0, none⟩) 1 1) (w.alloc (.cells (Sp.c h).toArray 113)) := by
  obtain ⟨ie, hi, hz, hs, hby⟩ := info_parts infoS
  refine run_buildSlice w 85 113 1 _ (Sp.c h).toArray ie _ Try.underlying85 hi hz (by rw [hs]; decide) (by rw [hs]; decide) ?_
  rw [hs]
  have := Go.Great.fill_whole (s := 73) (by decide) [.agg (Sp.c h).toArray] ((Array.range (1 * 73)).map ((Value.agg (Sp.c zSp).toArray).cells[· % (Value.agg (Sp.c zSp).toArray).cells.size]!)) (by intro v hv; simp at hv; subst hv; show (Sp.c h).toArray.size = 73; rw [List.size_toArray, Sp.len ok]) (by simp)
  simpa [Value.cells, Sp.v] using this
theorem set_tch (w : World) (d k : Nat) (u : Value) : Tch (fun j => j = d) w (w.setCell ⟨d, k, none⟩ u) := by
  have b := (Below.refl 0 w).setCell (p := ⟨d, k, none⟩) (Nat.zero_le _) u
  exact ⟨b.os, b.tape, b.output, b.size, fun j hj hn => Below.heap_setCell _ _ _ _ hn⟩
/-- Another slice laid into a row's cell. -/
theorem st_hd {w : World} {rb ro : Nat} {u : Value} {a : Option Addr} {n c : Nat} (hc : w.cell? ⟨rb, ro, none⟩ = some u) (hb : ∃ cs t, w.heap[rb]? = some (.cells cs t (0, 0))) : (Instr.storeAt 85 (.pointer (some ⟨rb, ro + 0, none⟩)) (.slice a n c)).run Try.prog w = .ok () (w.setCell ⟨rb, ro, none⟩ (.slice a n c)) ∧ (w.setCell ⟨rb, ro, none⟩ (.slice a n c)).cell? ⟨rb, ro, none⟩ = some (.slice a n c) ∧ (∃ cs t, (w.setCell ⟨rb, ro, none⟩ (.slice a n c)).heap[rb]? = some (.cells cs t (0, 0))) ∧ (∀ k, k ≠ ro → (w.setCell ⟨rb, ro, none⟩ (.slice a n c)).cell? ⟨rb, k, none⟩ = w.cell? ⟨rb, k, none⟩) := by
  obtain ⟨cs, t, h⟩ := hb
  have hf := frozen_of_row w rb ro _ _ h
  refine ⟨by rw [Nat.add_zero]; go_simp, World.cell?_setCell_same w ⟨rb, ro, none⟩ _ hc, ⟨_, t, Go.heap_setCell_same _ _ ro _ _ _ h⟩, fun k hk => World.cell?_setCell_other w ⟨rb, ro, none⟩ ⟨rb, k, none⟩ _ (fun e => hk (by simpa using e.symm))⟩
section
variable {w : World} {rb ro g cap i : Nat} {L : List Sp}
/-- A spot more at the end of a row: what its three operations do. -/
theorem app_spot (h : SqAt w rb ro g cap L) {k : KpV} (hk : KpV.ok k) (hn : L.length + 1 ≤ 1400000000000) : ∃ lv qv w1 w2 w3 g' cap',
    (Instr.buildSlice 85 1 #[(0, Sp.v ⟨k, true, 0, 0, 0, 0, 0⟩)]).run Try.prog w = .ok lv w1 ∧ SqAt w1 rb ro g cap L ∧ Below w.heap.size w w1 ∧
    (Builtin.append_ #[85, 85] 85 #[.slice (some ⟨g, 0, none⟩) L.length cap, lv]).run Try.prog w1 = .ok qv w2 ∧ Tch (fun j => j = g) w w2 ∧
    (Instr.storeAt 85 (.pointer (some ⟨rb, ro + 0, none⟩)) qv).run Try.prog w2 = .ok () w3 ∧ SqAt w3 rb ro g' cap' (L ++ [⟨k, true, 0, 0, 0, 0, 0⟩]) ∧ Tch (fun j => j = g ∨ j = rb) w w3 ∧ (g' = g ∨ w.heap.size ≤ g') ∧ (∀ q, q ≠ ro → w3.cell? ⟨rb, q, none⟩ = w.cell? ⟨rb, q, none⟩) := by
  obtain ⟨s, hs⟩ : ∃ s : Sp, s = ⟨k, true, 0, 0, 0, 0, 0⟩ := ⟨_, rfl⟩
  have hk' : KpV.ok s.kp := by rw [hs]; exact hk
  rw [← hs]
  have e1 := run_bsS s hk' w
  have b1 : Below w.heap.size w (w.alloc (.cells (Sp.c s).toArray 113)) := (Below.refl _ _).alloc (Nat.le_refl _) _
  have hnew : ∀ j u, (Sp.c s)[j]? = some u → (w.alloc (.cells (Sp.c s).toArray 113)).cell? ⟨w.heap.size, j, none⟩ = some u := fun j u hj => cell_new w (Sp.c s) _ j u hj
  generalize w.alloc (.cells (Sp.c s).toArray 113) = w1 at *
  have h1 : SqAt w1 rb ro g cap L := h.keep (b1.block _ h.lt.1) (b1.block _ h.lt.2)
  obtain ⟨ii, hi, hz, hsz, hby⟩ := info_parts infoS
  have okN : OkS (L ++ [s]) := fun x hx => by
    rcases List.mem_append.1 hx with q | q
    · exact h.ok x q
    · simp at q; subst q; exact hk'
  obtain ⟨qv, w2, e2, own2, g2, o2⟩ := app_at (P := Try.prog) w1 0 85 85 113 ii _ 73 136 Try.underlying85 hi hz hsz hby zcellsS (by decide) _ L.length (flatS L) h1.own ⟨w.heap.size, 0, none⟩ 1 1 (Sp.c s) (by rw [Sp.len hk']) (fun j u hj => by rw [Addr.add_mid, Nat.zero_add]; exact hnew j u hj) (Sp.one s) (by unfold maxLen; omega) (by omega) (Nat.zero_le _)
  have t2 : Tch (fun j => j = g) w w2 := Tch.trans ⟨b1.os, b1.tape, b1.output, b1.size, fun j hj _ => b1.block j hj⟩ ⟨g2.os, g2.tape, g2.output, g2.size, fun j hj hO => g2.block j hj (fun q => hO (by simpa [Value.ownBlock] using q))⟩
  have fl : flatS L ++ Sp.c s = flatS (L ++ [s]) := by rw [flatS_app]; simp [flatS]
  rw [fl] at own2
  rcases own2.2 with ⟨e, hz0⟩ | ⟨g', cap', cur, rfl, _, hg', r1, r2, r3, r4⟩
  · omega
  · have hrb : w2.heap[rb]? = w.heap[rb]? := t2.block rb h.lt.1 (fun e => h.ne e)
    have hc2 : w2.cell? ⟨rb, ro, none⟩ = some (.slice (some ⟨g, 0, none⟩) L.length cap) := (World.cell?_of_block (a := ⟨rb, ro, none⟩) hrb).trans h.hd
    obtain ⟨e3, c3, k3, o3⟩ := st_hd (a := some ⟨g', 0, none⟩) (n := L.length + 1) (c := cap') hc2 (by rw [hrb]; exact h.bk)
    have ts := set_tch w2 rb ro (.slice (some ⟨g', 0, none⟩) (L.length + 1) cap')
    have hgg : g' = g ∨ w.heap.size ≤ g' := by
      rcases o2 with q | q
      · simp [Value.ownBlock] at q; exact .inl q
      · simp [Value.ownBlock] at q; exact .inr (by rw [q]; exact b1.size)
    have hne : rb ≠ g' := fun e => by
      rcases hgg with q | q
      · exact h.ne (e.trans q)
      · have := h.lt.1; omega
    have hg3 : (w2.setCell ⟨rb, ro, none⟩ (.slice (some ⟨g', 0, none⟩) (L.length + 1) cap')).heap[g']? = w2.heap[g']? := ts.block g' (Array.getElem?_eq_some_iff.1 hg').1 (fun e => hne e.symm)
    refine ⟨_, _, w1, w2, _, g', cap', e1, h1, b1, e2, t2, e3, ⟨?_, ⟨?_, .inr ⟨g', cap', cur, by simp, Nat.zero_le _, hg3.trans hg', by simpa using r1, r2, r3, by simpa using r4⟩⟩, okN, hne, by simpa using hn, k3⟩, (t2.mono (fun j _ q => Or.inl q)).trans (ts.mono (fun j _ q => Or.inr q)), hgg, fun q hq => (o3 q hq).trans (World.cell?_of_block (a := ⟨rb, q, none⟩) hrb)⟩
    · simpa using c3
    · have := own2.1; simpa using this
set_option maxRecDepth 100000 in
set_option maxHeartbeats 1000000 in
theorem root_any (h : SqAt w rb ro g cap L) {t : T} (hg : Good L t) : Calls Try.prog 94 #[.pointer (some ⟨rb, ro, none⟩)] w fun e w' => e = .returned (.int .i64 (t.ix : Int)) ∧ w' = w := by
  have HR := hidMk hg.root
  have hp := hg.pos
  go_enter Try.func94, Try.ntmps94
  go_upto_region 1 with fail
  refine root1 _ _ _ rfl rfl h hp ?_
  intro a' w1 hw ha
  subst ha
  obtain rfl : w1 = w := hw
  rw [show dn (gt L 0) true = t.ix from HR.out]
  simp only [Act.put, List.setIfInBounds_toArray, List.set_cons_zero, List.set_cons_succ]
  go_wp2
  go_ret
  exact ⟨rfl, rfl⟩
set_option maxRecDepth 100000 in
set_option maxHeartbeats 1000000 in
theorem rmany_any (h : SqAt w rb ro g cap L) {t : T} (hg : Good L t) (c : Bool) : Calls Try.prog 85 #[.pointer (some ⟨rb, ro, none⟩), .int .i64 (nb c : Int)] w fun e w' => e = .returned (.int .i64 (cnt L c t : Int)) ∧ Qt w w' := by
  have HC := hidMk (hg.cnt.at hg.zip.z c)
  have hi : t.ix < L.length := ix_lt hg.zip.rep hg.pos
  go_enter Try.func85, Try.ntmps85
  go_upto_region 1 with fail
  refine many1 (i := t.ix) _ _ _ rfl rfl rfl h hi h.len ?_ ?_
  · refine (root_any h.drew hg).mono ?_
    rintro e w1 ⟨rfl, rfl⟩
    exact ⟨rfl, h.drew, Qt.drew w⟩
  rw [HC.out]
  intro a' w1 hw ha
  subst ha
  simp only [Act.put, List.setIfInBounds_toArray, List.set_cons_zero, List.set_cons_succ]
  go_wp2
  go_ret
  exact ⟨rfl, hw.2⟩
def setSh (L : List Sp) (i : Nat) (b : Bool) : List Sp := md L i (fun s => { s with sh := b })
theorem setSh_gt (L : List Sp) (i : Nat) (b : Bool) (j : Nat) : (gt (setSh L i b) j).kp = (gt L j).kp ∧ Sq.Alike L (setSh L i b) j ∧ (∀ w, ct (gt (setSh L i b) j) w = ct (gt L j) w) ∧ (gt (setSh L i b) j).sh = if i = j ∧ i < L.length then b else (gt L j).sh := by
  unfold setSh
  by_cases e : i = j ∧ i < L.length
  · rw [if_pos e]
    have : gt (md L i (fun s => { s with sh := b })) j = { gt L j with sh := b } := by rw [gt_md, if_pos e]
    rw [this]
    exact ⟨rfl, ⟨by rw [this], by rw [this], by rw [this]⟩, fun w => by cases w <;> rfl, rfl⟩
  · rw [if_neg e]
    have : gt (md L i (fun s => { s with sh := b })) j = gt L j := by rw [gt_md, if_neg e]
    rw [this]
    exact ⟨rfl, ⟨by rw [this], by rw [this], by rw [this]⟩, fun w => rfl, rfl⟩
theorem zip_setSh {L : List Sp} {c : Ctx} {t : T} (z : Zip L c t) (i : Nat) (b : Bool) : Zip (setSh L i b) c t :=
  ⟨z.rep.same (md_len _ _ _) (fun j _ => (setSh_gt L i b j).2.1), z.repc.same (md_len _ _ _) (fun j _ => (setSh_gt L i b j).2.1) ⟨(setSh_gt L i b 0).2.1.l, (setSh_gt L i b 0).2.1.r⟩, z.nd, fun w => by rw [(setSh_gt L i b 0).2.2.1]; exact z.z w⟩
/-- The place of a spot. -/
theorem Good.focus {t : T} (hg : Good L t) (hi : i ∈ t.ids) : ∃ c l r, t = plug c (.nd i l r) ∧ Zip L c (.nd i l r) ∧ CntC L c ∧ Cnt L (.nd i l r) := by
  obtain ⟨c, l, r, e⟩ := Sq.focus [] hi
  have e' : t = plug c (.nd i l r) := e
  have z := hg.zip
  have ct := hg.cnt
  rw [e'] at z ct
  exact ⟨c, l, r, e', z.unplug, (Cnt.unplug ct).1, (Cnt.unplug ct).2⟩
set_option maxRecDepth 100000 in
set_option maxHeartbeats 1000000 in
theorem rshow_any (h : SqAt w rb ro g cap L) {t : T} (hg : Good L t) (hi : i ∈ t.ids) (b : Bool) : Calls Try.prog 39 #[.pointer (some ⟨rb, ro, none⟩), .int .i64 (i : Int), .bool b] w fun e w' => e = .returned (.tuple #[]) ∧ ∃ L' t', Good L' t' ∧ t'.ids = t.ids ∧ Kept (setSh L i b) L' ∧ Did w rb ro g cap L' w' := by
  have hil := (hg.lt hi).2
  obtain ⟨w2, e2, a2, t2, z2⟩ := h.num (k := 0) (t := 4) (v := .bool b) hil (fun s => { s with sh := b }) rfl rfl (by decide) (by kernel_rfl) rfl rfl
  have d2 : Did w rb ro g cap (setSh L i b) w2 := ⟨a2, t2, z2⟩
  clear a2 t2 z2
  obtain ⟨c, l, r, et, z, hcc, hc⟩ := hg.focus hi
  have nd := z.nd
  simp only [T.ids, List.nodup_append, List.nodup_cons, List.mem_append, List.mem_cons] at nd
  have hsame : ∀ j, j ≠ i → (gt (setSh L i b) j).sh = (gt L j).sh ∧ ∀ w, ct (gt (setSh L i b) j) w = ct (gt L j) w := fun j hj => ⟨by rw [(setSh_gt L i b j).2.2.2, if_neg (fun q => hj q.1.symm)], (setSh_gt L i b j).2.2.1⟩
  have m : Mid (setSh L i b) c (.nd i l r) := by
    refine ⟨zip_setSh z i b, hcc.same (fun j hj => hsame j (fun e => nd.2.2 i (.inr (.inl rfl)) j hj e.symm)), i, l, r, rfl, hc.2.1.same (fun j hj => hsame j (nd.1.2.2 j hj i (.inl rfl))), hc.2.2.same (fun j hj => hsame j (fun e => nd.1.2.1.1 (e ▸ hj)))⟩
  have HM := hidMk (mend_any d2.at' (MInv.of_mid m))
  have HI := hidMk (show (plug c (.nd i l r)).ids = t.ids by rw [et])
  clear m hsame nd z hcc hc et
  go_enter Try.func39, Try.ntmps39
  go_upto_region 0 with fail
  refine show0 _ _ _ rfl rfl rfl rfl h hil e2 ?_
  intro a' w1 hw ha
  subst ha
  obtain rfl : w1 = w2 := hw
  simp only [Act.put, List.setIfInBounds_toArray, List.set_cons_zero, List.set_cons_succ]
  go_wp2_with (first
    | (go_at_call 78; refine HM.out.mono ?_; rintro e w3 ⟨rfl, L3, t3, z3, c3, i3, k3, d3⟩; clear HM)
    | fail)
  go_end0
  rw [HI.out] at i3
  exact ⟨rfl, L3, t3, ⟨z3, c3, fun j h0 hj => by rw [i3]; exact hg.all j h0 (by have := k3.len; rw [this] at hj; unfold setSh at hj; rwa [md_len] at hj)⟩, i3, k3, d2.trans d3⟩
end
end Go.Proofs.Ytlejbdepoemcjaa
