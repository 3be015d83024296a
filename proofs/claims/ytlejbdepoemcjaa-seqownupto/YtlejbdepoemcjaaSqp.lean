import Derived.Test.YtlejbdepoemcjaaMb
namespace Go.Proofs.Ytlejbdepoemcjaa.Sq
set_option linter.unusedVariables false
set_option linter.unusedSimpArgs false
set_option linter.unusedSectionVars false
/-- What a spot keeps: an element, that behind which it was put, how many were put behind it. -/
structure KpV where
  id : IdK
  bh : IdK
  fol : Int
/-- A spot of a row: what it keeps, whether it is shown, the spots above it and to its sides, how many are there from it down. -/
structure Sp where
  kp : KpV
  sh : Bool
  up : Nat
  l : Nat
  r : Nat
  ca : Nat
  cl : Nat
section
def zK : KpV := ⟨zId, zId, 0⟩
def zSp : Sp := ⟨zK, false, 0, 0, 0, 0, 0⟩
def gt (L : List Sp) (i : Nat) : Sp := L.getD i zSp
def md (L : List Sp) (i : Nat) (f : Sp → Sp) : List Sp := L.modify i f
@[simp] theorem md_len (L : List Sp) (i : Nat) (f : Sp → Sp) : (md L i f).length = L.length := by simp [md]
theorem gt_md (L : List Sp) (i j : Nat) (f : Sp → Sp) : gt (md L i f) j = if i = j ∧ i < L.length then f (gt L j) else gt L j := by
  unfold gt md
  rw [List.getD_eq_getElem?_getD, List.getD_eq_getElem?_getD, List.getElem?_modify]
  by_cases h : i = j
  · subst h
    by_cases h2 : i < L.length
    · simp [h2]
    · simp [h2]
  · simp [h]
theorem gt_same (L : List Sp) {i : Nat} (f : Sp → Sp) (h : i < L.length) : gt (md L i f) i = f (gt L i) := by rw [gt_md, if_pos ⟨rfl, h⟩]
theorem gt_ne (L : List Sp) {i j : Nat} (f : Sp → Sp) (h : i ≠ j) : gt (md L i f) j = gt L j := by rw [gt_md, if_neg (by simp [h])]
/-- A side: false left, true right. -/
def dn (s : Sp) (b : Bool) : Nat := if b then s.r else s.l
def setDn (s : Sp) (b : Bool) (x : Nat) : Sp := if b then { s with r := x } else { s with l := x }
def ct (s : Sp) (w : Bool) : Nat := if w then s.cl else s.ca
def hangD (L : List Sp) (u : Nat) (b : Bool) (p : Nat) : List Sp := md L u (setDn · b p)
def setUp (L : List Sp) (p u : Nat) : List Sp := md L p (fun s => { s with up := u })
def hang (L : List Sp) (u : Nat) (b : Bool) (p : Nat) : List Sp := if p = 0 then hangD L u b p else setUp (hangD L u b p) p u
def sideOf (L : List Sp) (a : Nat) : Bool := !((gt L (gt L a).up).l == a)
def repl (L : List Sp) (a p : Nat) : List Sp := hang L (gt L a).up (sideOf L a) p
def own (L : List Sp) (a : Nat) (w : Bool) : Nat := if w = false ∨ (gt L a).sh = true then 1 else 0
def under (L : List Sp) (a : Nat) (b w : Bool) : Nat := ct (gt L (dn (gt L a) b)) w
def upTo (L : List Sp) (a : Nat) (w : Bool) : Nat := under L a false w + own L a w
def tallyW (L : List Sp) (a : Nat) (w : Bool) : List Sp := md L a (fun s => if w then { s with cl := upTo L a w + under L a true w } else { s with ca := upTo L a w + under L a true w })
def tally (L : List Sp) (a : Nat) : List Sp := tallyW (tallyW L a false) a true
def wt (L : List Sp) (a : Nat) : Nat := (gt L a).ca + 1
def lift0 (L : List Sp) (a : Nat) : List Sp :=
  let u := (gt L a).up
  let s := sideOf L a
  let L1 := repl L u a
  let L2 := hang L1 u s (dn (gt L1 a) (!s))
  hang L2 a (!s) u
def lift (L : List Sp) (a : Nat) : List Sp := tally (tally (lift0 L a) (gt L a).up) a
def heavyAt (L : List Sp) (a : Nat) (s : Bool) : Bool := decide (3 * wt L (dn (gt L a) (!s)) < wt L (dn (gt L a) s))
def evenAt (L : List Sp) (a : Nat) (s : Bool) : List Sp × Nat :=
  let p := dn (gt L a) s
  let inn := dn (gt L p) (!s)
  let out := dn (gt L p) s
  if 2 * wt L out ≤ wt L inn then (lift (lift L inn) inn, inn) else (lift L p, p)
def even (L : List Sp) (a : Nat) : List Sp × Nat :=
  if heavyAt L a false then evenAt L a false else if heavyAt L a true then evenAt L a true else (L, a)

/-- The tree that spots are. -/
inductive T where
  | nil
  | nd (i : Nat) (l r : T)
def T.ix : T → Nat
  | .nil => 0
  | .nd i _ _ => i
def T.ids : T → List Nat
  | .nil => []
  | .nd i l r => l.ids ++ i :: r.ids
def Rep (L : List Sp) : Nat → T → Prop
  | _, .nil => True
  | p, .nd i l r => i ≠ 0 ∧ i < L.length ∧ (gt L i).up = p ∧ (gt L i).l = l.ix ∧ (gt L i).r = r.ix ∧ Rep L i l ∧ Rep L i r
/-- How many are counted. -/
def cnt (L : List Sp) (w : Bool) (t : T) : Nat := t.ids.countP (fun i => !w || (gt L i).sh)
def Cnt (L : List Sp) : T → Prop
  | .nil => True
  | .nd i l r => (∀ w, ct (gt L i) w = cnt L w (.nd i l r)) ∧ Cnt L l ∧ Cnt L r
/-- A way up: at each step the spot above, on which of its sides one hangs, and what hangs on the other one. -/
abbrev Ctx := List (Nat × Bool × T)
def mk (i : Nat) (s : Bool) (t o : T) : T := if s then .nd i o t else .nd i t o
def plug : Ctx → T → T
  | [], t => t
  | (i, s, o) :: c, t => plug c (mk i s t o)
def upOf : Ctx → Nat
  | [] => 0
  | (i, _, _) :: _ => i
def RepC (L : List Sp) : Ctx → Nat → Prop
  | [], h => 0 < L.length ∧ (gt L 0).r = h ∧ (gt L 0).l = 0
  | (i, s, o) :: c, h => i ≠ 0 ∧ i < L.length ∧ (gt L i).up = upOf c ∧ dn (gt L i) s = h ∧ dn (gt L i) (!s) = o.ix ∧ Rep L i o ∧ RepC L c i
def CntC (L : List Sp) : Ctx → Prop
  | [] => True
  | (_, _, o) :: c => Cnt L o ∧ CntC L c
def cids : Ctx → List Nat
  | [] => []
  | (i, _, o) :: c => i :: (o.ids ++ cids c)
/-- What only looks at how spots hang together, and at what is counted. -/
structure Alike (L L' : List Sp) (i : Nat) : Prop where
  up : (gt L' i).up = (gt L i).up
  l : (gt L' i).l = (gt L i).l
  r : (gt L' i).r = (gt L i).r
theorem Rep.same {L L' : List Sp} (hl : L'.length = L.length) : ∀ {t : T} {p : Nat}, Rep L p t → (∀ i ∈ t.ids, Alike L L' i) → Rep L' p t
  | .nil, _, _, _ => trivial
  | .nd i l r, p, h, hs => by
    obtain ⟨h1, h2, h3, h4, h5, h6, h7⟩ := h
    have e := hs i (by simp [T.ids])
    refine ⟨h1, by rw [hl]; exact h2, by rw [e.up]; exact h3, by rw [e.l]; exact h4, by rw [e.r]; exact h5, ?_, ?_⟩
    · exact Rep.same hl h6 (fun j hj => hs j (by simp [T.ids, hj]))
    · exact Rep.same hl h7 (fun j hj => hs j (by simp [T.ids, hj]))
theorem cnt_same {L L' : List Sp} {w : Bool} {t : T} (hs : ∀ i ∈ t.ids, (gt L' i).sh = (gt L i).sh) : cnt L' w t = cnt L w t := by
  unfold cnt
  refine List.countP_congr fun i hi => ?_
  rw [hs i hi]
theorem Cnt.same {L L' : List Sp} : ∀ {t : T}, Cnt L t → (∀ i ∈ t.ids, (gt L' i).sh = (gt L i).sh ∧ ∀ w, ct (gt L' i) w = ct (gt L i) w) → Cnt L' t
  | .nil, _, _ => trivial
  | .nd i l r, h, hs => by
    obtain ⟨h1, h6, h7⟩ := h
    have e := hs i (by simp [T.ids])
    refine ⟨fun w => ?_, ?_, ?_⟩
    · rw [e.2 w, h1 w, cnt_same (fun j hj => (hs j hj).1)]
    · exact Cnt.same h6 (fun j hj => hs j (by simp [T.ids, hj]))
    · exact Cnt.same h7 (fun j hj => hs j (by simp [T.ids, hj]))
theorem Cnt.at {L : List Sp} {t : T} (h : Cnt L t) (h0 : ∀ w, ct (gt L 0) w = 0) (w : Bool) : ct (gt L t.ix) w = cnt L w t := by
  cases t with
  | nil => rw [T.ix, h0 w]; simp [cnt, T.ids]
  | nd i l r => exact h.1 w
theorem cnt_nd (L : List Sp) (w : Bool) (i : Nat) (l r : T) : cnt L w (.nd i l r) = cnt L w l + (if w = false ∨ (gt L i).sh = true then 1 else 0) + cnt L w r := by
  unfold cnt
  rw [T.ids, List.countP_append, List.countP_cons]
  cases w <;> cases h : (gt L i).sh <;> simp [h] <;> omega
theorem RepC.same {L L' : List Sp} (hl : L'.length = L.length) : ∀ {c : Ctx} {h : Nat}, RepC L c h → (∀ i ∈ cids c, Alike L L' i) → ((gt L' 0).l = (gt L 0).l ∧ (gt L' 0).r = (gt L 0).r) → RepC L' c h
  | [], h, ⟨a, b, d⟩, _, h0 => ⟨by omega, by rw [h0.2]; exact b, by rw [h0.1]; exact d⟩
  | (i, s, o) :: c, h, ⟨h1, h2, h3, h4, h5, h6, h7⟩, hs, h0 => by
    have e := hs i (by simp [cids])
    refine ⟨h1, by omega, by rw [e.up]; exact h3, ?_, ?_, Rep.same hl h6 (fun j hj => hs j (by simp [cids, hj])), RepC.same hl h7 (fun j hj => hs j (by simp [cids, hj])) h0⟩
    · simp only [dn, e.l, e.r] at h4 ⊢; exact h4
    · simp only [dn, e.l, e.r] at h5 ⊢; exact h5
theorem CntC.same {L L' : List Sp} : ∀ {c : Ctx}, CntC L c → (∀ i ∈ cids c, (gt L' i).sh = (gt L i).sh ∧ ∀ w, ct (gt L' i) w = ct (gt L i) w) → CntC L' c
  | [], _, _ => trivial
  | (i, s, o) :: c, ⟨h1, h2⟩, hs => ⟨Cnt.same h1 (fun j hj => hs j (by simp [cids, hj])), CntC.same h2 (fun j hj => hs j (by simp [cids, hj]))⟩
/-- The ways there are in one's list, apart from the order. -/
theorem mk_perm (i : Nat) (s : Bool) (t o : T) : (mk i s t o).ids.Perm (i :: (t.ids ++ o.ids)) := by
  cases s
  · simp only [mk, T.ids, Bool.false_eq_true, if_false]
    exact List.perm_middle
  · simp only [mk, T.ids, if_true]
    refine List.perm_middle.trans (List.Perm.cons _ List.perm_append_comm)
theorem plug_perm : ∀ (c : Ctx) (t : T), (plug c t).ids.Perm (t.ids ++ cids c)
  | [], t => by simp [plug, cids]
  | (i, s, o) :: c, t => by
    rw [plug, cids]
    refine (plug_perm c _).trans ?_
    refine ((mk_perm i s t o).append_right _).trans ?_
    rw [List.cons_append, List.append_assoc]
    exact (List.perm_middle (l₁ := t.ids) (l₂ := o.ids ++ cids c) (a := i)).symm
/-- What stands ahead of a part of the tree, and behind it. -/
def pre : Ctx → List Nat
  | [] => []
  | (i, s, o) :: c => pre c ++ (if s then o.ids ++ [i] else [])
def post : Ctx → List Nat
  | [] => []
  | (i, s, o) :: c => (if s then [] else i :: o.ids) ++ post c
theorem plug_ids : ∀ (c : Ctx) (t : T), (plug c t).ids = pre c ++ t.ids ++ post c
  | [], t => by simp [plug, pre, post]
  | (i, s, o) :: c, t => by
    rw [plug, plug_ids c]
    cases s <;> simp [mk, T.ids, pre, post]
theorem rep_ix {L : List Sp} {p : Nat} {t : T} (h : Rep L p t) : t.ix = 0 ↔ t = .nil := by
  cases t with
  | nil => simp [T.ix]
  | nd i l r => simp [T.ix]; exact h.1
theorem ix_mem {t : T} (h : t.ix ≠ 0) : t.ix ∈ t.ids := by
  cases t with
  | nil => simp [T.ix] at h
  | nd i l r => simp [T.ix, T.ids]
theorem Rep.mem {L : List Sp} : ∀ {t : T} {p : Nat}, Rep L p t → ∀ i ∈ t.ids, i ≠ 0 ∧ i < L.length
  | .nil, _, _, i, hi => by simp [T.ids] at hi
  | .nd j l r, p, h, i, hi => by
    simp only [T.ids, List.mem_append, List.mem_cons] at hi
    rcases hi with hi | rfl | hi
    · exact Rep.mem h.2.2.2.2.2.1 i hi
    · exact ⟨h.1, h.2.1⟩
    · exact Rep.mem h.2.2.2.2.2.2 i hi
theorem RepC.mem {L : List Sp} : ∀ {c : Ctx} {h : Nat}, RepC L c h → ∀ i ∈ cids c, i ≠ 0 ∧ i < L.length
  | [], _, _, i, hi => by simp [cids] at hi
  | (j, s, o) :: c, h, hc, i, hi => by
    obtain ⟨h1, h2, h3, h4, h5, h6, h7⟩ := hc
    simp only [cids, List.mem_append, List.mem_cons] at hi
    rcases hi with rfl | hi | hi
    · exact ⟨h1, h2⟩
    · exact h6.mem i hi
    · exact RepC.mem h7 i hi
theorem RepC.pos {L : List Sp} : ∀ {c : Ctx} {h : Nat}, RepC L c h → 0 < L.length
  | [], _, h => h.1
  | (i, s, o) :: c, h, hc => RepC.pos hc.2.2.2.2.2.2
end
section
theorem dn_setDn (s : Sp) (b b' : Bool) (x : Nat) : dn (setDn s b x) b' = if b' = b then x else dn s b' := by
  cases b <;> cases b' <;> simp [dn, setDn]
theorem setDn_up (s : Sp) (b : Bool) (x : Nat) : (setDn s b x).up = s.up ∧ (setDn s b x).sh = s.sh ∧ (setDn s b x).kp = s.kp ∧ ∀ w, ct (setDn s b x) w = ct s w := by
  cases b <;> simp [setDn, ct]
theorem hang_len (L : List Sp) (u : Nat) (b : Bool) (p : Nat) : (hang L u b p).length = L.length := by
  unfold hang hangD setUp
  split <;> simp
theorem hang_up (L : List Sp) (u : Nat) (b : Bool) (p j : Nat) : (gt (hang L u b p) j).up = if p = j ∧ p ≠ 0 ∧ p < L.length then u else (gt L j).up := by
  unfold hang
  split
  · next h =>
    subst h
    rw [if_neg (by simp)]
    unfold hangD
    rw [gt_md]
    split
    · exact (setDn_up _ _ _).1
    · rfl
  · next h =>
    unfold setUp hangD
    rw [gt_md, md_len]
    by_cases e : p = j ∧ p < L.length
    · rw [if_pos e, if_pos ⟨e.1, h, e.2⟩]
    · rw [if_neg e, if_neg (fun q => e ⟨q.1, q.2.2⟩), gt_md]
      split
      · exact (setDn_up _ _ _).1
      · rfl
theorem hang_dn (L : List Sp) (u : Nat) (b : Bool) (p j : Nat) (b' : Bool) : dn (gt (hang L u b p) j) b' = if u = j ∧ b' = b ∧ u < L.length then p else dn (gt L j) b' := by
  have key : dn (gt (hangD L u b p) j) b' = if u = j ∧ b' = b ∧ u < L.length then p else dn (gt L j) b' := by
    unfold hangD
    rw [gt_md]
    by_cases e : u = j ∧ u < L.length
    · rw [if_pos e, dn_setDn]
      by_cases e2 : b' = b
      · rw [if_pos e2, if_pos ⟨e.1, e2, e.2⟩]
      · rw [if_neg e2, if_neg (fun q => e2 q.2.1)]
    · rw [if_neg e, if_neg (fun q => e ⟨q.1, q.2.2⟩)]
  unfold hang
  split
  · exact key
  · rw [← key]
    unfold setUp
    rw [gt_md]
    split
    · cases b' <;> simp [dn]
    · rfl
theorem hang_rest (L : List Sp) (u : Nat) (b : Bool) (p j : Nat) : (gt (hang L u b p) j).sh = (gt L j).sh ∧ (gt (hang L u b p) j).kp = (gt L j).kp ∧ ∀ w, ct (gt (hang L u b p) j) w = ct (gt L j) w := by
  have key : (gt (hangD L u b p) j).sh = (gt L j).sh ∧ (gt (hangD L u b p) j).kp = (gt L j).kp ∧ ∀ w, ct (gt (hangD L u b p) j) w = ct (gt L j) w := by
    unfold hangD
    rw [gt_md]
    split
    · exact (setDn_up _ _ _).2
    · exact ⟨rfl, rfl, fun _ => rfl⟩
  unfold hang
  split
  · exact key
  · unfold setUp
    rw [gt_md]
    split
    · exact key
    · exact key
/-- How spots hang together stays. -/
structure Hg (L L' : List Sp) (i : Nat) : Prop where
  up : (gt L' i).up = (gt L i).up
  dn : ∀ b, dn (gt L' i) b = dn (gt L i) b
theorem Hg.alike {L L' : List Sp} {i : Nat} (h : Hg L L' i) : Alike L L' i :=
  ⟨h.up, by have := h.dn false; simpa [Sq.dn] using this, by have := h.dn true; simpa [Sq.dn] using this⟩
theorem Hg.of_alike {L L' : List Sp} {i : Nat} (h : Alike L L' i) : Hg L L' i := ⟨h.up, fun b => by simp [Sq.dn, h.l, h.r]⟩
theorem rep_mk {L : List Sp} {p i : Nat} {s : Bool} {t o : T} : Rep L p (mk i s t o) ↔ i ≠ 0 ∧ i < L.length ∧ (gt L i).up = p ∧ dn (gt L i) s = t.ix ∧ dn (gt L i) (!s) = o.ix ∧ Rep L i t ∧ Rep L i o := by
  cases s
  · simp only [mk, Rep, dn, Bool.false_eq_true, if_false, Bool.not_false, if_true]
  · simp only [mk, Rep, dn, Bool.not_true, Bool.false_eq_true, if_false, if_true]
    constructor
    · rintro ⟨a, b, c, d, e, f, g⟩; exact ⟨a, b, c, e, d, g, f⟩
    · rintro ⟨a, b, c, d, e, f, g⟩; exact ⟨a, b, c, e, d, g, f⟩
theorem mk_ix (i : Nat) (s : Bool) (t o : T) : (mk i s t o).ix = i := by cases s <;> simp [mk, T.ix]
theorem mk_mem {i : Nat} {s : Bool} {t o : T} {j : Nat} : j ∈ (mk i s t o).ids ↔ j = i ∨ j ∈ t.ids ∨ j ∈ o.ids := by
  rw [(mk_perm i s t o).mem_iff]; simp
/-- A part whose root hangs elsewhere. -/
theorem Rep.moved {L L' : List Sp} (hl : L'.length = L.length) {t : T} {p p' : Nat} (h : Rep L p t) (hn : t.ids.Nodup) (hs : ∀ i ∈ t.ids, (∀ b, dn (gt L' i) b = dn (gt L i) b) ∧ (i ≠ t.ix → (gt L' i).up = (gt L i).up)) (hp : t.ix ≠ 0 → (gt L' t.ix).up = p') : Rep L' p' t := by
  cases t with
  | nil => trivial
  | nd i l r =>
    obtain ⟨h1, h2, h3, h4, h5, h6, h7⟩ := h
    have e := hs i (by simp [T.ids])
    have e0 := e.1 false
    have e1 := e.1 true
    simp only [dn, Bool.false_eq_true, if_false, if_true] at e0 e1
    simp only [T.ids, List.nodup_append, List.nodup_cons] at hn
    refine ⟨h1, by omega, hp h1, by rw [e0]; exact h4, by rw [e1]; exact h5, h6.same hl (fun j hj => ?_), h7.same hl (fun j hj => ?_)⟩
    · have q := hs j (by simp [T.ids, hj])
      exact Hg.alike ⟨q.2 (fun e => hn.2.2 j hj i (by simp) (by simpa [T.ix] using e)), q.1⟩
    · have q := hs j (by simp [T.ids, hj])
      exact Hg.alike ⟨q.2 (fun e => hn.2.1.1 (by have : j = i := by simpa [T.ix] using e
                                                 rw [← this]; exact hj)), q.1⟩
/-- A place in the tree: a way up, and what hangs there. -/
structure Zip (L : List Sp) (c : Ctx) (t : T) : Prop where
  rep : Rep L (upOf c) t
  repc : RepC L c t.ix
  nd : (t.ids ++ cids c).Nodup
  z : ∀ w, ct (gt L 0) w = 0
def sd : Ctx → Bool
  | [] => true
  | (_, s, _) :: _ => s
theorem upOf_mem (c : Ctx) : upOf c = 0 ∨ upOf c ∈ cids c := by
  cases c with
  | nil => exact .inl rfl
  | cons f c => obtain ⟨i, s, o⟩ := f; exact .inr (by simp [upOf, cids])
theorem RepC.up_lt {L : List Sp} {c : Ctx} {h : Nat} (hc : RepC L c h) : upOf c < L.length := by
  rcases upOf_mem c with e | e
  · rw [e]; exact hc.pos
  · exact (hc.mem _ e).2
theorem RepC.dn {L : List Sp} {c : Ctx} {h : Nat} (hc : RepC L c h) : dn (gt L (upOf c)) (sd c) = h := by
  cases c with
  | nil => exact hc.2.1
  | cons f c => obtain ⟨i, s, o⟩ := f; exact hc.2.2.2.1
theorem Zip.side {L : List Sp} {c : Ctx} {t : T} (z : Zip L c t) (h : t.ix ≠ 0) : sideOf L t.ix = sd c := by
  have hu : (gt L t.ix).up = upOf c := by
    have := z.rep
    cases t with
    | nil => simp [T.ix] at h
    | nd i l r => exact this.2.2.1
  unfold sideOf
  rw [hu]
  cases c with
  | nil =>
    have := z.repc.2.2
    simp only [upOf, sd, this]
    simp; omega
  | cons f c =>
    obtain ⟨i, s, o⟩ := f
    obtain ⟨h1, h2, h3, h4, h5, h6, h7⟩ := z.repc
    cases s
    · simp only [Sq.dn, Bool.false_eq_true, if_false] at h4
      simp [upOf, sd, h4]
    · simp only [Sq.dn, Bool.not_true, Bool.false_eq_true, if_false] at h5
      simp only [upOf, sd, h5]
      have : o.ix ≠ t.ix := by
        intro e
        have a := ix_mem h
        have b := ix_mem (t := o) (by rw [e]; exact h)
        have := z.nd
        rw [List.nodup_append] at this
        exact this.2.2 _ a _ (by simp [cids]; exact .inr (.inl b)) e.symm
      simpa using this
theorem Zip.up {L : List Sp} {c : Ctx} {t : T} (z : Zip L c t) (h : t.ix ≠ 0) : (gt L t.ix).up = upOf c := by
  have := z.rep
  cases t with
  | nil => simp [T.ix] at h
  | nd i l r => exact this.2.2.1
/-- Another part hung at a place. -/
theorem hang_ctx {L : List Sp} {c : Ctx} {h : Nat} (hc : RepC L c h) (hcn : (cids c).Nodup) {t : T} {p : Nat} (ht : Rep L p t) (htn : t.ids.Nodup) (hd : ∀ i ∈ t.ids, i ∉ cids c) :
    Rep (hang L (upOf c) (sd c) t.ix) (upOf c) t ∧ RepC (hang L (upOf c) (sd c) t.ix) c t.ix := by
  have hu := hc.up_lt
  have hix : t.ix ≠ 0 → t.ix ∈ t.ids ∧ t.ix < L.length := fun h => ⟨ix_mem h, (ht.mem _ (ix_mem h)).2⟩
  have hun : ∀ i ∈ t.ids, upOf c ≠ i := fun i hi e => by
    rcases upOf_mem c with e0 | e0
    · exact (ht.mem i hi).1 (by omega)
    · exact hd i hi (e ▸ e0)
  refine ⟨ht.moved (hang_len _ _ _ _) htn (fun i hi => ⟨fun b => ?_, fun hne => ?_⟩) (fun hne => ?_), ?_⟩
  · rw [hang_dn, if_neg (fun q => hun i hi q.1)]
  · rw [hang_up, if_neg (fun q => hne q.1.symm)]
  · rw [hang_up, if_pos ⟨rfl, hne, (hix hne).2⟩]
  · cases c with
    | nil =>
      obtain ⟨a, b, d⟩ := hc
      refine ⟨by rw [hang_len]; exact a, ?_, ?_⟩
      · have := hang_dn L 0 true t.ix 0 true
        rw [if_pos ⟨rfl, rfl, a⟩] at this
        exact this
      · have := hang_dn L 0 true t.ix 0 false
        rw [if_neg (by simp)] at this
        exact this.trans d
    | cons f c =>
      obtain ⟨i, s, o⟩ := f
      obtain ⟨h1, h2, h3, h4, h5, h6, h7⟩ := hc
      have hcn' := hcn
      simp only [cids, List.nodup_cons, List.mem_append, not_or, List.nodup_append] at hcn
      have hni : ∀ j, j ∈ cids ((i, s, o) :: c) → ¬ (t.ix = j ∧ t.ix ≠ 0 ∧ t.ix < L.length) := fun j hj q => hd t.ix (hix q.2.1).1 (q.1 ▸ hj)
      have hg : ∀ j, j ∈ o.ids ∨ j ∈ cids c → Hg L (hang L i s t.ix) j := fun j hj => by
        refine ⟨?_, fun b => ?_⟩
        · rw [hang_up, if_neg (hni j (by simp [cids]; rcases hj with h | h <;> simp [h]))]
        · rw [hang_dn, if_neg (fun (q : i = j ∧ b = s ∧ i < L.length) => hj.elim (fun h => hcn.1.1 (q.1 ▸ h)) (fun h => hcn.1.2 (q.1 ▸ h)))]
      refine ⟨h1, by rw [hang_len]; exact h2, ?_, ?_, ?_, h6.same (hang_len _ _ _ _) (fun j hj => (hg j (.inl hj)).alike), h7.same (hang_len _ _ _ _) (fun j hj => (hg j (.inr hj)).alike) ?_⟩
      · simp only [upOf, sd]
        rw [hang_up, if_neg (hni i (by simp [cids]))]
        exact h3
      · simp only [upOf, sd]
        rw [hang_dn, if_pos ⟨rfl, rfl, h2⟩]
      · simp only [upOf, sd]
        rw [hang_dn, if_neg (fun q => by cases s <;> simp at q)]
        exact h5
      · simp only [upOf, sd]
        have e0 := hang_dn L i s t.ix 0 false
        have e1 := hang_dn L i s t.ix 0 true
        rw [if_neg (fun q => h1 q.1)] at e0 e1
        exact ⟨e0, e1⟩
end
section
theorem Zip.into {L : List Sp} {c : Ctx} {i : Nat} {s : Bool} {t o : T} (z : Zip L c (Sq.mk i s t o)) : Zip L ((i, s, o) :: c) t := by
  obtain ⟨h1, h2, h3, h4, h5, h6, h7⟩ := rep_mk.1 z.rep
  refine ⟨h6, ⟨h1, h2, h3, h4, h5, h7, by have := z.repc; rwa [mk_ix] at this⟩, ?_, z.z⟩
  have p := ((mk_perm i s t o).append_right (cids c)).nodup_iff.1 z.nd
  rw [cids]
  refine (List.Perm.nodup_iff ?_).2 p
  rw [List.cons_append, List.append_assoc]
  exact List.perm_middle
theorem Zip.out {L : List Sp} {c : Ctx} {i : Nat} {s : Bool} {t o : T} (z : Zip L ((i, s, o) :: c) t) : Zip L c (Sq.mk i s t o) := by
  obtain ⟨h1, h2, h3, h4, h5, h6, h7⟩ := z.repc
  refine ⟨rep_mk.2 ⟨h1, h2, h3, h4, h5, z.rep, h6⟩, by rw [mk_ix]; exact h7, ?_, z.z⟩
  have p := z.nd
  rw [cids] at p
  refine (List.Perm.nodup_iff ((mk_perm i s t o).append_right (cids c))).2 ((List.Perm.nodup_iff ?_).1 p)
  rw [List.cons_append, List.append_assoc]
  exact List.perm_middle
theorem Zip.plug {L : List Sp} : ∀ {c : Ctx} {t : T}, Zip L c t → Zip L [] (plug c t)
  | [], t, z => z
  | (i, s, o) :: c, t, z => Zip.plug (c := c) z.out
/-- What a spot keeps, whether it is shown, what was counted: all as it was. -/
structure Kept (L L' : List Sp) : Prop where
  len : L'.length = L.length
  sh : ∀ j, (gt L' j).sh = (gt L j).sh
  kp : ∀ j, (gt L' j).kp = (gt L j).kp
theorem Kept.refl (L : List Sp) : Kept L L := ⟨rfl, fun _ => rfl, fun _ => rfl⟩
theorem Kept.trans {A B C : List Sp} (h : Kept A B) (g : Kept B C) : Kept A C := ⟨g.len.trans h.len, fun j => (g.sh j).trans (h.sh j), fun j => (g.kp j).trans (h.kp j)⟩
theorem hang_kept (L : List Sp) (u : Nat) (b : Bool) (p : Nat) : Kept L (hang L u b p) := ⟨hang_len _ _ _ _, fun j => (hang_rest L u b p j).1, fun j => (hang_rest L u b p j).2.1⟩
theorem lift0_zip {L : List Sp} {c : Ctx} {a b : Nat} {s : Bool} {P Q Z : T} (z : Zip L c (mk a s (mk b s P Q) Z)) :
    Zip (lift0 L b) c (mk b s P (mk a s Q Z)) ∧ Kept L (lift0 L b) ∧ (∀ j w, ct (gt (lift0 L b) j) w = ct (gt L j) w) ∧ (gt L b).up = a := by
  have zi := z.into
  obtain ⟨a1, a2, a3, a4, a5, a6, a7⟩ := rep_mk.1 z.rep
  obtain ⟨b1, b2, b3, b4, b5, b6, b7⟩ := rep_mk.1 a6
  rw [mk_ix] at a4
  have sb : sideOf L b = s := by have := zi.side (by rw [mk_ix]; exact b1); rwa [mk_ix] at this
  have sa : sideOf L a = sd c := by have := z.side (by rw [mk_ix]; exact a1); rwa [mk_ix] at this
  -- who is apart from whom
  have nd := zi.nd
  have nd2 : (b :: (P.ids ++ Q.ids) ++ cids ((a, s, Z) :: c)).Nodup := ((mk_perm b s P Q).append_right _).nodup_iff.1 nd
  simp only [cids, List.cons_append, List.nodup_cons, List.mem_append, List.mem_cons, not_or, List.nodup_append] at nd2
  obtain ⟨⟨⟨nbP, nbQ⟩, nba, nbZ, nbC⟩, ⟨nP, nQ, nPQ⟩, ⟨⟨naZ, naC⟩, nZ, nC, nZC⟩, nX⟩ := nd2
  have nPa : ∀ i ∈ P.ids, i ≠ a := fun i hi => nX i (.inl hi) a (.inl rfl)
  have nQa : ∀ i ∈ Q.ids, i ≠ a := fun i hi => nX i (.inr hi) a (.inl rfl)
  have nPZ : ∀ i ∈ P.ids, i ∉ Z.ids := fun i hi hz => nX i (.inl hi) i (.inr (.inl hz)) rfl
  have nQZ : ∀ i ∈ Q.ids, i ∉ Z.ids := fun i hi hz => nX i (.inr hi) i (.inr (.inl hz)) rfl
  have nPC : ∀ i ∈ P.ids, i ∉ cids c := fun i hi hz => nX i (.inl hi) i (.inr (.inr hz)) rfl
  have nQC : ∀ i ∈ Q.ids, i ∉ cids c := fun i hi hz => nX i (.inr hi) i (.inr (.inr hz)) rfl
  have hc : RepC L c a := by have := z.repc; rwa [mk_ix] at this
  have hu := hc.up_lt
  have uN : ∀ i, i ≠ 0 → i ∉ cids c → upOf c ≠ i := fun i h0 hi e => by
    rcases upOf_mem c with e0 | e0
    · omega
    · exact hi (e ▸ e0)
  have ua := uN a a1 naC
  have ub := uN b b1 nbC
  have nab : a ≠ b := fun e => nba e.symm
  -- the three steps
  obtain ⟨L1, hL1⟩ : ∃ L1, L1 = hang L (upOf c) (sd c) b := ⟨_, rfl⟩
  obtain ⟨L2, hL2⟩ : ∃ L2, L2 = hang L1 a s Q.ix := ⟨_, rfl⟩
  have l1 : L1.length = L.length := by rw [hL1]; exact hang_len _ _ _ _
  have l2 : L2.length = L.length := by rw [hL2, hang_len]; exact l1
  have e1 : dn (gt L1 b) (!s) = Q.ix := by rw [hL1, hang_dn, if_neg (fun q => ub q.1)]; exact b5
  have el : lift0 L b = hang L2 b (!s) a := by
    unfold lift0 repl
    simp only [b3, sb, sa, a3]
    rw [← hL1, e1, ← hL2]
  have up1 : ∀ j, (gt L1 j).up = if b = j then upOf c else (gt L j).up := fun j => by
    rw [hL1, hang_up]
    by_cases e : b = j
    · rw [if_pos ⟨e, b1, b2⟩, if_pos e]
    · rw [if_neg (fun q => e q.1), if_neg e]
  have dn1 : ∀ j d, dn (gt L1 j) d = if upOf c = j ∧ d = sd c then b else dn (gt L j) d := fun j d => by
    rw [hL1, hang_dn]
    by_cases e : upOf c = j ∧ d = sd c
    · rw [if_pos ⟨e.1, e.2, hu⟩, if_pos e]
    · rw [if_neg (fun q => e ⟨q.1, q.2.1⟩), if_neg e]
  have qlt : Q.ix ≠ 0 → Q.ix < L.length := fun h => (b7.mem _ (ix_mem h)).2
  have up2 : ∀ j, (gt L2 j).up = if Q.ix = j ∧ Q.ix ≠ 0 then a else (gt L1 j).up := fun j => by
    rw [hL2, hang_up]
    by_cases e : Q.ix = j ∧ Q.ix ≠ 0
    · rw [if_pos ⟨e.1, e.2, by rw [l1]; exact qlt e.2⟩, if_pos e]
    · rw [if_neg (fun q => e ⟨q.1, q.2.1⟩), if_neg e]
  have dn2 : ∀ j d, dn (gt L2 j) d = if a = j ∧ d = s then Q.ix else dn (gt L1 j) d := fun j d => by
    rw [hL2, hang_dn]
    by_cases e : a = j ∧ d = s
    · rw [if_pos ⟨e.1, e.2, by rw [l1]; exact a2⟩, if_pos e]
    · rw [if_neg (fun q => e ⟨q.1, q.2.1⟩), if_neg e]
  have up3 : ∀ j, (gt (lift0 L b) j).up = if a = j then b else (gt L2 j).up := fun j => by
    rw [el, hang_up]
    by_cases e : a = j
    · rw [if_pos ⟨e, a1, by rw [l2]; exact a2⟩, if_pos e]
    · rw [if_neg (fun q => e q.1), if_neg e]
  have dn3 : ∀ j d, dn (gt (lift0 L b) j) d = if b = j ∧ d = (!s) then a else dn (gt L2 j) d := fun j d => by
    rw [el, hang_dn]
    by_cases e : b = j ∧ d = (!s)
    · rw [if_pos ⟨e.1, e.2, by rw [l2]; exact b2⟩, if_pos e]
    · rw [if_neg (fun q => e ⟨q.1, q.2.1⟩), if_neg e]
  have l3 : (lift0 L b).length = L.length := by rw [el, hang_len]; exact l2
  have kept : Kept L (lift0 L b) := by
    rw [el]
    refine Kept.trans (B := L1) (by rw [hL1]; exact hang_kept _ _ _ _) (Kept.trans (B := L2) (by rw [hL2]; exact hang_kept _ _ _ _) (hang_kept _ _ _ _))
  have cts : ∀ j w, ct (gt (lift0 L b) j) w = ct (gt L j) w := fun j w => by
    rw [el, (hang_rest _ _ _ _ _).2.2 w, hL2, (hang_rest _ _ _ _ _).2.2 w, hL1, (hang_rest _ _ _ _ _).2.2 w]
  have qb : Q.ix ≠ 0 → Q.ix ≠ b := fun h e => nbQ (e ▸ ix_mem h)
  have qa : Q.ix ≠ 0 → Q.ix ≠ a := fun h e => nQa _ (ix_mem h) e
  -- a spot that is none of those
  have stay : ∀ j, j ≠ a → j ≠ b → (Q.ix ≠ 0 → Q.ix ≠ j) → (upOf c ≠ j) → Hg L (lift0 L b) j := fun j ja jb jq ju => by
    refine ⟨?_, fun d => ?_⟩
    · rw [up3, if_neg (Ne.symm ja), up2, if_neg (fun q => jq q.2 q.1), up1, if_neg (Ne.symm jb)]
    · rw [dn3, if_neg (fun q => jb q.1.symm), dn2, if_neg (fun q => ja q.1.symm), dn1, if_neg (fun q => ju q.1)]
  have rP : Rep (lift0 L b) b P := b6.same l3 (fun i hi => (stay i (nPa i hi) (fun e => nbP (e ▸ hi)) (fun h e => nPQ i hi _ (ix_mem h) e.symm) (uN i (b6.mem i hi).1 (nPC i hi))).alike)
  have rZ : Rep (lift0 L b) a Z := a7.same l3 (fun i hi => (stay i (fun e => naZ (e ▸ hi)) (fun e => nbZ (e ▸ hi)) (fun h e => nQZ _ (ix_mem h) (e ▸ hi)) (uN i (a7.mem i hi).1 (fun hh => nZC i hi i hh rfl))).alike)
  have rQ : Rep (lift0 L b) a Q := b7.moved l3 nQ (fun i hi => ⟨fun d => ?_, fun hne => ?_⟩) (fun hne => ?_)
  · refine ⟨⟨rep_mk.2 ⟨b1, by omega, ?_, ?_, ?_, rP, rep_mk.2 ⟨a1, by omega, ?_, ?_, ?_, rQ, rZ⟩⟩, ?_, ?_, fun w => by rw [cts]; exact z.z w⟩, kept, cts, b3⟩
    · rw [up3, if_neg nab, up2, if_neg (fun q => qb q.2 q.1), up1, if_pos rfl]
    · rw [dn3, if_neg (fun q => by cases s <;> simp at q), dn2, if_neg (fun q => nab q.1), dn1, if_neg (fun q => ub q.1), b4]
    · rw [dn3, if_pos ⟨rfl, rfl⟩, mk_ix]
    · rw [up3, if_pos rfl]
    · rw [dn3, if_neg (fun q => nba q.1), dn2, if_pos ⟨rfl, rfl⟩]
    · rw [dn3, if_neg (fun q => nba q.1), dn2, if_neg (fun q => by cases s <;> simp at q), dn1, if_neg (fun q => ua q.1), a5]
    · rw [mk_ix]
      have h1 : RepC L1 c b := by
        have := (hang_ctx hc nC a6 (by have := (mk_perm b s P Q).nodup_iff.2 (List.nodup_cons.2 ⟨by simp [nbP, nbQ], List.nodup_append.2 ⟨nP, nQ, nPQ⟩⟩); exact this) (fun i hi => by
          rcases mk_mem.1 hi with e | h | h
          · rw [e]; exact nbC
          · exact nPC i h
          · exact nQC i h)).2
        rw [mk_ix, ← hL1] at this
        exact this
      refine h1.same (by omega) (fun j hj => Hg.alike ⟨?_, fun d => ?_⟩) ⟨?_, ?_⟩
      · rw [up3, if_neg (fun (e : a = j) => naC (e ▸ hj)), up2, if_neg (fun (q : Q.ix = j ∧ Q.ix ≠ 0) => nQC _ (ix_mem q.2) (q.1 ▸ hj))]
      · rw [dn3, if_neg (fun (q : b = j ∧ d = (!s)) => nbC (q.1 ▸ hj)), dn2, if_neg (fun (q : a = j ∧ d = s) => naC (q.1 ▸ hj))]
      · have := dn3 0 false
        rw [if_neg (fun q => b1 q.1), dn2, if_neg (fun q => a1 q.1)] at this
        simpa [dn] using this
      · have := dn3 0 true
        rw [if_neg (fun q => b1 q.1), dn2, if_neg (fun q => a1 q.1)] at this
        simpa [dn] using this
    · refine (List.Perm.nodup_iff (List.Perm.append_right (cids c) ?_)).1 z.nd
      refine (mk_perm a s _ Z).trans (List.Perm.trans ?_ (mk_perm b s P _).symm)
      refine (List.Perm.cons _ ((mk_perm b s P Q).append_right _)).trans ?_
      refine List.Perm.trans ?_ (List.Perm.cons _ ((mk_perm a s Q Z).symm.append_left _))
      rw [List.cons_append]
      refine (List.Perm.swap _ _ _).trans (List.Perm.cons _ ?_)
      rw [List.append_assoc]
      exact List.perm_middle.symm
  · rw [dn3, if_neg (fun (q : b = i ∧ d = (!s)) => nbQ (q.1 ▸ hi)), dn2, if_neg (fun q => nQa i hi q.1.symm), dn1, if_neg (fun q => uN i (b7.mem i hi).1 (nQC i hi) q.1)]
  · rw [up3, if_neg (fun e => nQa i hi e.symm), up2, if_neg (fun q => hne q.1.symm), up1, if_neg (fun (e : b = i) => nbQ (e ▸ hi))]
  · rw [up3, if_neg (fun e => qa hne e.symm), up2, if_pos ⟨rfl, hne⟩]
theorem mk_turn (a b : Nat) (s : Bool) (P Q Z : T) : (mk b s P (mk a s Q Z)).ids = (mk a s (mk b s P Q) Z).ids := by
  cases s <;> simp [mk, T.ids]
end
section
theorem tallyW_len (L : List Sp) (a : Nat) (w : Bool) : (tallyW L a w).length = L.length := by simp [tallyW]
theorem tallyW_rest (L : List Sp) (a : Nat) (w : Bool) (j : Nat) : (gt (tallyW L a w) j).up = (gt L j).up ∧ (gt (tallyW L a w) j).l = (gt L j).l ∧ (gt (tallyW L a w) j).r = (gt L j).r ∧ (gt (tallyW L a w) j).sh = (gt L j).sh ∧ (gt (tallyW L a w) j).kp = (gt L j).kp := by
  unfold tallyW
  rw [gt_md]
  split
  · cases w <;> simp
  · simp
theorem tallyW_ct (L : List Sp) (a : Nat) (w : Bool) (j : Nat) (w' : Bool) : ct (gt (tallyW L a w) j) w' = if a = j ∧ w' = w ∧ a < L.length then upTo L a w + under L a true w else ct (gt L j) w' := by
  unfold tallyW
  rw [gt_md]
  by_cases e : a = j ∧ a < L.length
  · obtain ⟨rfl, e2⟩ := e
    cases w <;> cases w' <;> simp [ct, e2]
  · rw [if_neg e, if_neg (fun q => e ⟨q.1, q.2.2⟩)]
theorem tally_len (L : List Sp) (a : Nat) : (tally L a).length = L.length := by unfold tally; rw [tallyW_len, tallyW_len]
theorem tally_kept (L : List Sp) (a : Nat) : Kept L (tally L a) := by
  refine ⟨tally_len _ _, fun j => ?_, fun j => ?_⟩
  · unfold tally; rw [(tallyW_rest _ _ _ _).2.2.2.1, (tallyW_rest _ _ _ _).2.2.2.1]
  · unfold tally; rw [(tallyW_rest _ _ _ _).2.2.2.2, (tallyW_rest _ _ _ _).2.2.2.2]
theorem tally_alike (L : List Sp) (a j : Nat) : Alike L (tally L a) j := by
  unfold tally
  exact ⟨by rw [(tallyW_rest _ _ _ _).1, (tallyW_rest _ _ _ _).1], by rw [(tallyW_rest _ _ _ _).2.1, (tallyW_rest _ _ _ _).2.1], by rw [(tallyW_rest _ _ _ _).2.2.1, (tallyW_rest _ _ _ _).2.2.1]⟩
theorem tally_ct (L : List Sp) (a j : Nat) (w : Bool) : ct (gt (tally L a) j) w = if a = j ∧ a < L.length then upTo L a w + under L a true w else ct (gt L j) w := by
  unfold tally
  rw [tallyW_ct, tallyW_len]
  cases w with
  | true =>
    by_cases e : a = j ∧ a < L.length
    · rw [if_pos ⟨e.1, rfl, e.2⟩, if_pos e]
      unfold upTo under own
      simp only [dn]
      rw [(tallyW_rest _ _ _ _).2.1, (tallyW_rest _ _ _ _).2.2.1, (tallyW_rest _ _ _ _).2.2.2.1]
      simp [tallyW_ct]
    · rw [if_neg (fun q => e ⟨q.1, q.2.2⟩), if_neg e, tallyW_ct, if_neg (fun q => by simp at q)]
  | false =>
    rw [if_neg (fun q => by simp at q), tallyW_ct]
    by_cases e : a = j ∧ a < L.length
    · rw [if_pos ⟨e.1, rfl, e.2⟩, if_pos e]
    · rw [if_neg (fun q => e ⟨q.1, q.2.2⟩), if_neg e]
theorem Zip.tally {L : List Sp} {c : Ctx} {t : T} (z : Zip L c t) {a : Nat} (h : a ≠ 0) : Zip (tally L a) c t := by
  refine ⟨z.rep.same (tally_len _ _) (fun i _ => tally_alike L a i), z.repc.same (tally_len _ _) (fun i _ => tally_alike L a i) ⟨(tally_alike L a 0).l, (tally_alike L a 0).r⟩, z.nd, fun w => ?_⟩
  rw [tally_ct, if_neg (fun q => h q.1)]
  exact z.z w
theorem Cnt.tally {L : List Sp} {t : T} (h : Cnt L t) {a : Nat} (ha : a ∉ t.ids) : Cnt (tally L a) t :=
  h.same (fun i hi => ⟨(tally_kept L a).sh i, fun w => by rw [tally_ct, if_neg (fun (q : a = i ∧ _) => ha (q.1 ▸ hi))]⟩)
theorem CntC.tally {L : List Sp} {c : Ctx} (h : CntC L c) {a : Nat} (ha : a ∉ cids c) : CntC (tally L a) c :=
  h.same (fun i hi => ⟨(tally_kept L a).sh i, fun w => by rw [tally_ct, if_neg (fun (q : a = i ∧ _) => ha (q.1 ▸ hi))]⟩)
theorem mk_flip (i : Nat) (s : Bool) (t o : T) : mk i s t o = mk i (!s) o t := by cases s <;> simp [mk]
theorem cnt_mk {L : List Sp} {i : Nat} {s : Bool} {t o : T} : Cnt L (mk i s t o) ↔ (∀ w, ct (gt L i) w = cnt L w t + (if w = false ∨ (gt L i).sh = true then 1 else 0) + cnt L w o) ∧ Cnt L t ∧ Cnt L o := by
  cases s
  · simp only [mk, Bool.false_eq_true, if_false, Cnt]
    constructor
    · rintro ⟨a, b⟩; exact ⟨fun w => by rw [a w, cnt_nd], b⟩
    · rintro ⟨a, b⟩; exact ⟨fun w => by rw [a w, cnt_nd], b⟩
  · simp only [mk, if_true, Cnt]
    constructor
    · rintro ⟨a, b, d⟩; exact ⟨fun w => by rw [a w, cnt_nd]; omega, d, b⟩
    · rintro ⟨a, b, d⟩; exact ⟨fun w => by rw [a w, cnt_nd]; omega, d, b⟩
/-- Counted anew, all is right from a spot down. -/
theorem tally_cnt {L : List Sp} {c : Ctx} {i : Nat} {s : Bool} {t o : T} (z : Zip L c (mk i s t o)) (ht : Cnt L t) (ho : Cnt L o) : Cnt (tally L i) (mk i s t o) := by
  obtain ⟨h1, h2, h3, h4, h5, h6, h7⟩ := rep_mk.1 z.rep
  have nd := (((mk_perm i s t o).append_right _).nodup_iff.1 z.nd)
  simp only [List.cons_append, List.nodup_cons, List.mem_append, not_or, List.nodup_append] at nd
  have a1 := ht.tally nd.1.1.1
  have a2 := ho.tally nd.1.1.2
  refine cnt_mk.2 ⟨fun w => ?_, a1, a2⟩
  rw [tally_ct, if_pos ⟨rfl, h2⟩, cnt_same (t := t) (fun j _ => (tally_kept L i).sh j), cnt_same (t := o) (fun j _ => (tally_kept L i).sh j), (tally_kept L i).sh]
  have e1 := ht.at z.z w
  have e2 := ho.at z.z w
  rw [← h4] at e1
  rw [← h5] at e2
  unfold upTo under own
  cases s
  · simp only [Bool.not_false] at e2
    rw [e1, e2]
  · simp only [Bool.not_true] at e2
    rw [e1, e2]; omega
/-- A spot lifted. -/
theorem lift_zip {L : List Sp} {c : Ctx} {a b : Nat} {s : Bool} {P Q Z : T} (z : Zip L c (mk a s (mk b s P Q) Z)) (hP : Cnt L P) (hQ : Cnt L Q) (hZ : Cnt L Z) :
    Zip (lift L b) c (mk b s P (mk a s Q Z)) ∧ Cnt (lift L b) (mk b s P (mk a s Q Z)) ∧ Kept L (lift L b) ∧ (∀ j, j ≠ a → j ≠ b → ∀ w, ct (gt (lift L b) j) w = ct (gt L j) w) := by
  obtain ⟨z1, k1, c1, e1⟩ := lift0_zip z
  have nd := (((mk_perm b s P _).append_right _).nodup_iff.1 z1.nd)
  simp only [List.cons_append, List.nodup_cons, List.mem_append, not_or, List.nodup_append, mk_mem] at nd
  have hb : b ≠ 0 := (rep_mk.1 z1.rep).1
  have ha : a ≠ 0 := (rep_mk.1 (rep_mk.1 z1.rep).2.2.2.2.2.2).1
  have sm : ∀ {t : T}, Cnt L t → Cnt (lift0 L b) t := fun h => h.same (fun i _ => ⟨k1.sh i, fun w => c1 i w⟩)
  have zin : Zip (lift0 L b) ((b, !s, P) :: c) (mk a s Q Z) := by
    rw [mk_flip b] at z1; exact z1.into
  have c2 := tally_cnt zin (sm hQ) (sm hZ)
  have z2 := z1.tally ha
  have naP : a ∉ P.ids := fun h => nd.2.1.2.2 a h a (.inl rfl) rfl
  have cP2 := (sm hP).tally naP
  have c3 := tally_cnt z2 cP2 c2
  unfold lift
  rw [e1]
  refine ⟨z2.tally hb, c3, k1.trans ((tally_kept _ _).trans (tally_kept _ _)), fun j ja jb w => ?_⟩
  rw [tally_ct, if_neg (fun q => jb q.1.symm), tally_ct, if_neg (fun q => ja q.1.symm), c1]
theorem wt_pos (L : List Sp) (a : Nat) : 1 ≤ wt L a := by unfold wt; omega
theorem wt_nil {L : List Sp} (h : ∀ w, ct (gt L 0) w = 0) : wt L 0 = 1 := by
  have := h false
  simp [ct] at this
  simp [wt, this]
/-- A tree as one seen from a side. -/
theorem as_mk (s : Bool) {t : T} (h : t.ix ≠ 0) : ∃ P Q, t = mk t.ix s P Q := by
  cases t with
  | nil => simp [T.ix] at h
  | nd i l r =>
    cases s
    · exact ⟨l, r, rfl⟩
    · exact ⟨r, l, rfl⟩
theorem evenAt_zip {L : List Sp} {c : Ctx} {i : Nat} {s : Bool} {B Z : T} (z : Zip L c (mk i s B Z)) (hc : Cnt L (mk i s B Z)) (hcc : CntC L c) (hh : heavyAt L i s = true) :
    ∃ t', (evenAt L i s).2 = t'.ix ∧ t'.ix ≠ 0 ∧ Zip (evenAt L i s).1 c t' ∧ Cnt (evenAt L i s).1 t' ∧ CntC (evenAt L i s).1 c ∧ Kept L (evenAt L i s).1 ∧ t'.ids = (mk i s B Z).ids := by
  obtain ⟨h1, h2, h3, h4, h5, h6, h7⟩ := rep_mk.1 z.rep
  obtain ⟨_, cB, cZ⟩ := cnt_mk.1 hc
  have hB : B.ix ≠ 0 := fun e => by
    unfold heavyAt at hh
    rw [h4, h5, e, wt_nil z.z] at hh
    have := wt_pos L Z.ix
    simp at hh
    omega
  obtain ⟨P, Q, eB⟩ := as_mk s hB
  have hp : ∃ p, B.ix = p := ⟨_, rfl⟩
  obtain ⟨p, hp⟩ := hp
  rw [hp] at eB hB h4
  subst eB
  rw [mk_ix] at hp
  obtain ⟨b1, b2, b3, b4, b5, b6, b7⟩ := rep_mk.1 h6
  obtain ⟨_, cP, cQ⟩ := cnt_mk.1 cB
  have nd := ((mk_perm i s _ Z).append_right (cids c)).nodup_iff.1 z.nd
  simp only [List.cons_append, List.nodup_cons, List.mem_append, not_or, List.nodup_append, mk_mem] at nd
  obtain ⟨⟨⟨⟨nip, niP, niQ⟩, niZ⟩, niC⟩, ⟨⟨nB, nZ, nBZ⟩, nC, nBC⟩⟩ := nd
  have ccs : ∀ (L' : List Sp), (∀ j, (gt L' j).sh = (gt L j).sh) → (∀ j ∈ cids c, ∀ w, ct (gt L' j) w = ct (gt L j) w) → CntC L' c := fun L' a b => hcc.same (fun j hj => ⟨a j, b j hj⟩)
  unfold evenAt
  simp only [h4, b4, b5]
  by_cases hin : 2 * wt L P.ix ≤ wt L Q.ix
  · rw [if_pos hin]
    have hQ : Q.ix ≠ 0 := fun e => by
      rw [e, wt_nil z.z] at hin
      have := wt_pos L P.ix
      omega
    obtain ⟨P', Q', eQ⟩ := as_mk (!s) hQ
    have hq : ∃ q, Q.ix = q := ⟨_, rfl⟩
    obtain ⟨q, hq⟩ := hq
    rw [hq] at eQ hQ b5
    subst eQ
    simp only [mk_ix]
    obtain ⟨_, cP', cQ'⟩ := cnt_mk.1 cQ
    have zin : Zip L ((i, s, Z) :: c) (mk p (!s) (mk q (!s) P' Q') P) := by
      have := z.into
      rwa [mk_flip p] at this
    obtain ⟨z1, c1, k1, e1⟩ := lift_zip zin cP' cQ' cP
    have z1o := z1.out
    rw [mk_flip q (!s), Bool.not_not] at z1o c1
    obtain ⟨_, cX, cP1⟩ := cnt_mk.1 c1
    have nqZ : ∀ j ∈ Z.ids, j ≠ p ∧ j ≠ q := fun j hj => ⟨fun e => nBZ p (.inl rfl) j hj e.symm, fun e => nBZ q (.inr (.inr (mk_mem.2 (.inl rfl)))) j hj e.symm⟩
    have cZ1 : Cnt (lift L q) Z := cZ.same (fun j hj => ⟨k1.sh j, fun w => e1 j (nqZ j hj).1 (nqZ j hj).2 w⟩)
    obtain ⟨z2, c2, k2, e2⟩ := lift_zip z1o cX cP1 cZ1
    refine ⟨_, (mk_ix _ _ _ _).symm, by rw [mk_ix]; exact hQ, z2, c2, ccs _ (fun j => (k1.trans k2).sh j) (fun j hj w => ?_), k1.trans k2, ?_⟩
    · have x1 : j ≠ i := fun e => niC (e ▸ hj)
      have x2 : j ≠ p := fun e => nBC p (.inl (.inl rfl)) j hj e.symm
      have x3 : j ≠ q := fun e => nBC q (.inl (.inr (.inr (mk_mem.2 (.inl rfl))))) j hj e.symm
      rw [e2 j x1 x3, e1 j x2 x3]
    · rw [mk_turn]
      cases s <;> simp [mk, T.ids]
  · rw [if_neg hin]
    obtain ⟨z1, c1, k1, e1⟩ := lift_zip z cP cQ cZ
    refine ⟨_, (mk_ix _ _ _ _).symm, by rw [mk_ix]; exact b1, z1, c1, ccs _ k1.sh (fun j hj w => ?_), k1, mk_turn _ _ _ _ _ _⟩
    exact e1 j (fun e => niC (e ▸ hj)) (fun e => nBC p (.inl (.inl rfl)) j hj e.symm) w
theorem even_zip {L : List Sp} {c : Ctx} {i : Nat} {l r : T} (z : Zip L c (.nd i l r)) (hc : Cnt L (.nd i l r)) (hcc : CntC L c) :
    ∃ t', (even L i).2 = t'.ix ∧ t'.ix ≠ 0 ∧ Zip (even L i).1 c t' ∧ Cnt (even L i).1 t' ∧ CntC (even L i).1 c ∧ Kept L (even L i).1 ∧ t'.ids = (T.nd i l r).ids := by
  unfold even
  split
  · next h => exact evenAt_zip (s := false) (B := l) (Z := r) z hc hcc h
  · split
    · next h => exact evenAt_zip (s := true) (B := r) (Z := l) z hc hcc h
    · exact ⟨.nd i l r, rfl, z.rep.1, z, hc, hcc, Kept.refl _, rfl⟩
/-- One step of the way up: what 'mend' finds at a spot, and what it leaves. -/
def Mid (L : List Sp) (c : Ctx) (t : T) : Prop := Zip L c t ∧ CntC L c ∧ ∃ i l r, t = .nd i l r ∧ Cnt L l ∧ Cnt L r
def Up (L : List Sp) (c : Ctx) (t : T) : Prop := Zip L c t ∧ CntC L c ∧ Cnt L t
theorem Mid.step {L : List Sp} {c : Ctx} {t : T} (m : Mid L c t) : ∃ t', (even (tally L t.ix) t.ix).2 = t'.ix ∧ (gt (even (tally L t.ix) t.ix).1 t'.ix).up = upOf c ∧ t'.ix ≠ 0 ∧ Up (even (tally L t.ix) t.ix).1 c t' ∧ Kept L (even (tally L t.ix) t.ix).1 ∧ t'.ids = t.ids := by
  obtain ⟨z, hcc, i, l, r, rfl, hl, hr⟩ := m
  have hi : i ≠ 0 := z.rep.1
  have nd : i ∉ cids c := fun h => by
    have := z.nd
    rw [List.nodup_append] at this
    exact this.2.2 i (by simp [T.ids]) i h rfl
  obtain ⟨t', e, h0, z', c', cc', k', ids⟩ := even_zip (z.tally hi) (tally_cnt (s := false) z hl hr) (hcc.tally nd)
  exact ⟨t', e, z'.up h0, h0, ⟨z', cc', c'⟩, (tally_kept _ _).trans k', ids⟩
theorem Up.next {L : List Sp} {c : Ctx} {t : T} (u : Up L c t) : (c = [] ∧ upOf c = 0) ∨ ∃ i s o c', c = (i, s, o) :: c' ∧ upOf c = i ∧ i ≠ 0 ∧ Mid L c' (mk i s t o) := by
  cases c with
  | nil => exact .inl ⟨rfl, rfl⟩
  | cons f c =>
    obtain ⟨i, s, o⟩ := f
    obtain ⟨z, ⟨co, cc⟩, ct⟩ := u
    refine .inr ⟨i, s, o, c, rfl, rfl, z.repc.1, z.out, cc, ?_⟩
    cases s
    · exact ⟨i, t, o, rfl, ct, co⟩
    · exact ⟨i, o, t, rfl, co, ct⟩
/-- How far it is up to the front. -/
def dep (f : Nat → Nat) : Nat → Nat → Nat
  | 0, _ => 0
  | n + 1, a => if a = 0 then 0 else dep f n (f a) + 1
theorem dep_ctx {L : List Sp} (f : Nat → Nat) (hf : ∀ a, a < L.length → f a = (gt L a).up) : ∀ (c : Ctx) (h n : Nat), RepC L c h → c.length ≤ n → dep f n (upOf c) = c.length
  | [], h, n, _, _ => by cases n <;> simp [dep, upOf]
  | (i, s, o) :: c, h, 0, hc, hn => by simp at hn
  | (i, s, o) :: c, h, n + 1, hc, hn => by
    obtain ⟨h1, h2, h3, h4, h5, h6, h7⟩ := hc
    simp only [dep, upOf, if_neg h1, List.length_cons]
    rw [hf i h2, h3, dep_ctx f hf c i n h7 (by simpa using hn)]
    simp [h1]
theorem ctx_len {L : List Sp} {c : Ctx} {h : Nat} (hc : RepC L c h) (hn : (cids c).Nodup) : c.length < L.length := by
  have h1 : c.length ≤ (cids c).length := by
    clear hc hn
    induction c with
    | nil => simp [cids]
    | cons f c ih => obtain ⟨i, s, o⟩ := f; simp [cids]; omega
  have h2 : (cids c).length < L.length := by
    have : (0 :: cids c).Nodup := List.nodup_cons.2 ⟨fun h => (hc.mem 0 h).1 rfl, hn⟩
    have := this.length_le_of_subset (l₂ := List.range L.length) (fun i hi => by
      rcases List.mem_cons.1 hi with rfl | hi
      · exact List.mem_range.2 hc.pos
      · exact List.mem_range.2 (hc.mem i hi).2)
    simp at this
    omega
  omega
end
section
theorem gt_app (L : List Sp) (x : Sp) {i : Nat} (h : i < L.length) : gt (L ++ [x]) i = gt L i := by
  unfold gt
  rw [List.getD_eq_getElem?_getD, List.getD_eq_getElem?_getD, List.getElem?_append_left h]
theorem gt_new (L : List Sp) (x : Sp) : gt (L ++ [x]) L.length = x := by
  unfold gt
  simp
/-- Spots that have other lengths: what hangs together does so as long as it is there. -/
theorem Rep.same' {L L' : List Sp} : ∀ {t : T} {p : Nat}, Rep L p t → (∀ i ∈ t.ids, i < L'.length ∧ Alike L L' i) → Rep L' p t
  | .nil, _, _, _ => trivial
  | .nd i l r, p, h, hs => by
    obtain ⟨h1, h2, h3, h4, h5, h6, h7⟩ := h
    obtain ⟨hl, e⟩ := hs i (by simp [T.ids])
    refine ⟨h1, hl, by rw [e.up]; exact h3, by rw [e.l]; exact h4, by rw [e.r]; exact h5, ?_, ?_⟩
    · exact Rep.same' h6 (fun j hj => hs j (by simp [T.ids, hj]))
    · exact Rep.same' h7 (fun j hj => hs j (by simp [T.ids, hj]))
theorem RepC.same' {L L' : List Sp} : ∀ {c : Ctx} {h : Nat}, RepC L c h → (∀ i ∈ cids c, i < L'.length ∧ Alike L L' i) → (0 < L'.length ∧ (gt L' 0).l = (gt L 0).l ∧ (gt L' 0).r = (gt L 0).r) → RepC L' c h
  | [], h, ⟨a, b, d⟩, _, h0 => ⟨h0.1, by rw [h0.2.2]; exact b, by rw [h0.2.1]; exact d⟩
  | (i, s, o) :: c, h, ⟨h1, h2, h3, h4, h5, h6, h7⟩, hs, h0 => by
    obtain ⟨hl, e⟩ := hs i (by simp [cids])
    refine ⟨h1, hl, by rw [e.up]; exact h3, ?_, ?_, Rep.same' h6 (fun j hj => hs j (by simp [cids, hj])), RepC.same' h7 (fun j hj => hs j (by simp [cids, hj])) h0⟩
    · simp only [Sq.dn, e.l, e.r] at h4 ⊢; exact h4
    · simp only [Sq.dn, e.l, e.r] at h5 ⊢; exact h5
theorem Zip.app {L : List Sp} {c : Ctx} {t : T} (z : Zip L c t) (x : Sp) : Zip (L ++ [x]) c t := by
  have al : ∀ i, i < L.length → i < (L ++ [x]).length ∧ Alike L (L ++ [x]) i := fun i hi => ⟨by simp; omega, by rw [gt_app L x hi] <;> exact hi, by rw [gt_app L x hi] <;> exact hi, by rw [gt_app L x hi] <;> exact hi⟩
  refine ⟨z.rep.same' (fun i hi => al i (z.rep.mem i hi).2), z.repc.same' (fun i hi => al i (z.repc.mem i hi).2) ⟨by simp, ?_, ?_⟩, z.nd, fun w => ?_⟩
  · rw [gt_app L x z.repc.pos]
  · rw [gt_app L x z.repc.pos]
  · rw [gt_app L x z.repc.pos]; exact z.z w
theorem Cnt.app {L : List Sp} {t : T} {p : Nat} (h : Cnt L t) (r : Rep L p t) (x : Sp) : Cnt (L ++ [x]) t :=
  h.same (fun i hi => by rw [gt_app L x (r.mem i hi).2]; exact ⟨rfl, fun _ => rfl⟩)
theorem CntC.app {L : List Sp} {c : Ctx} {k : Nat} (h : CntC L c) (r : RepC L c k) (x : Sp) : CntC (L ++ [x]) c :=
  h.same (fun i hi => by rw [gt_app L x (r.mem i hi).2]; exact ⟨rfl, fun _ => rfl⟩)
theorem Zip.unplug {L : List Sp} : ∀ {c : Ctx} {t : T}, Zip L [] (Sq.plug c t) → Zip L c t
  | [], t, z => z
  | (i, s, o) :: c, t, z => (Zip.unplug (c := c) z).into
theorem Cnt.unplug {L : List Sp} : ∀ {c : Ctx} {t : T}, Cnt L (plug c t) → CntC L c ∧ Cnt L t
  | [], t, h => ⟨trivial, h⟩
  | (i, s, o) :: c, t, h => by
    obtain ⟨a, b⟩ := Cnt.unplug (c := c) (t := mk i s t o) h
    obtain ⟨_, b1, b2⟩ := cnt_mk.1 b
    exact ⟨⟨b2, a⟩, b1⟩
/-- The place of a spot. -/
theorem focus : ∀ {t : T} {i : Nat} (c0 : Ctx), i ∈ t.ids → ∃ c l r, plug c0 t = plug c (.nd i l r)
  | .nil, i, c0, h => by simp [T.ids] at h
  | .nd j l r, i, c0, h => by
    simp only [T.ids, List.mem_append, List.mem_cons] at h
    rcases h with h | rfl | h
    · obtain ⟨c, a, b, e⟩ := focus ((j, false, r) :: c0) h
      exact ⟨c, a, b, by rw [← e]; rfl⟩
    · exact ⟨c0, l, r, rfl⟩
    · obtain ⟨c, a, b, e⟩ := focus ((j, true, l) :: c0) h
      exact ⟨c, a, b, by rw [← e]; rfl⟩
/-- The way to what stands first from a place down. -/
def lft : T → Ctx → Ctx
  | .nil, c => c
  | .nd i l r, c => lft l ((i, false, r) :: c)
theorem lft_plug : ∀ (t : T) (c : Ctx), plug (lft t c) .nil = plug c t
  | .nil, c => rfl
  | .nd i l r, c => by rw [lft, lft_plug l]; rfl
theorem lft_pre : ∀ (t : T) (c : Ctx), pre (lft t c) = pre c
  | .nil, c => rfl
  | .nd i l r, c => by rw [lft, lft_pre l]; simp [pre]
theorem lft_post : ∀ (t : T) (c : Ctx), post (lft t c) = t.ids ++ post c
  | .nil, c => by simp [lft, T.ids]
  | .nd i l r, c => by rw [lft, lft_post l]; simp [post, T.ids]
theorem lft_zip {L : List Sp} : ∀ {t : T} {c : Ctx}, Zip L c t → Zip L (lft t c) .nil
  | .nil, c, z => z
  | .nd i l r, c, z => lft_zip (t := l) (Zip.into (s := false) z)
theorem lft_cnt {L : List Sp} : ∀ {t : T} {c : Ctx}, CntC L c → Cnt L t → CntC L (lft t c)
  | .nil, c, a, _ => a
  | .nd i l r, c, a, b => lft_cnt (t := l) (c := (i, false, r) :: c) ⟨b.2.2, a⟩ b.2.1
theorem lft_sd : ∀ (t : T) (c : Ctx), t ≠ .nil → sd (lft t c) = false
  | .nil, c, h => absurd rfl h
  | .nd i .nil r, c, _ => rfl
  | .nd i (.nd j a b) r, c, _ => lft_sd (.nd j a b) _ (by simp)
/-- How far it is down to the left. -/
def lsp : T → Nat
  | .nil => 0
  | .nd _ l _ => lsp l + 1
theorem dep_lsp {L : List Sp} : ∀ (t : T) (p n : Nat), Rep L p t → lsp t ≤ n → dep (fun a => (gt L a).l) n t.ix = lsp t
  | .nil, p, n, _, _ => by cases n <;> simp [dep, T.ix, lsp]
  | .nd i l r, p, 0, _, hn => by simp [lsp] at hn
  | .nd i l r, p, n + 1, h, hn => by
    obtain ⟨h1, h2, h3, h4, h5, h6, h7⟩ := h
    show (if i = 0 then 0 else dep (fun a => (gt L a).l) n (gt L i).l + 1) = lsp l + 1
    rw [if_neg h1, h4, dep_lsp l i n h6 (by simpa [lsp] using hn)]
theorem lsp_le : ∀ (t : T), lsp t ≤ t.ids.length
  | .nil => by simp [lsp]
  | .nd i l r => by simp [lsp, T.ids]; have := lsp_le l; omega
/-- A new spot hung at the place right behind another one. -/
def put0 (L : List Sp) (u : Nat) (b : Bool) (k : KpV) : List Sp := hang (L ++ [⟨k, true, 0, 0, 0, 0, 0⟩]) u b L.length
theorem put0_mid {L : List Sp} {c : Ctx} (z : Zip L c .nil) (hc : CntC L c) (k : KpV) : Mid (put0 L (upOf c) (sd c) k) c (.nd L.length .nil .nil) := by
  obtain ⟨x, hx⟩ : ∃ x : Sp, x = ⟨k, true, 0, 0, 0, 0, 0⟩ := ⟨_, rfl⟩
  have hp := z.repc.pos
  have z1 := z.app x
  have nC : (cids c).Nodup := by have := z.nd; simpa [T.ids] using this
  have g := gt_new L x
  have rt : Rep (L ++ [x]) 0 (.nd L.length .nil .nil) := ⟨by omega, by simp, by rw [g, hx], by rw [g, hx]; rfl, by rw [g, hx]; rfl, trivial, trivial⟩
  have nl : L.length ∉ cids c := fun h => by have := (z.repc.mem _ h).2; omega
  obtain ⟨a, b⟩ := hang_ctx z1.repc nC rt (by simp [T.ids]) (fun i hi => by
    have : i = L.length := by simpa [T.ids] using hi
    rw [this]; exact nl)
  unfold put0
  rw [← hx]
  refine ⟨⟨a, b, by simp [T.ids]; exact ⟨nl, nC⟩, fun w => ?_⟩, ?_, _, _, _, rfl, trivial, trivial⟩
  · have := (hang_rest (L ++ [x]) (upOf c) (sd c) L.length 0).2.2 w
    exact this.trans (z1.z w)
  · exact (hc.app z.repc x).same (fun i _ => ⟨(hang_rest _ _ _ _ i).1, (hang_rest _ _ _ _ i).2.2⟩)
theorem put0_kept (L : List Sp) (u : Nat) (b : Bool) (k : KpV) : Kept (L ++ [⟨k, true, 0, 0, 0, 0, 0⟩]) (put0 L u b k) := hang_kept _ _ _ _
/-- What hangs in one's place when one is taken out. -/
theorem gone_up {L : List Sp} {c : Ctx} {i : Nat} {l r o : T} (z : Zip L c (.nd i l r)) (hcc : CntC L c) (ho : Cnt L o) {p : Nat} (hr : Rep L p o) (hn : o.ids.Nodup) (hsub : ∀ j ∈ o.ids, j ∈ (T.nd i l r).ids) : Up (hang L (upOf c) (sd c) o.ix) c o := by
  have nd := List.nodup_append.1 z.nd
  obtain ⟨a, b⟩ := hang_ctx z.repc nd.2.1 hr hn (fun j hj h => nd.2.2 j (hsub j hj) j h rfl)
  refine ⟨⟨a, b, List.nodup_append.2 ⟨hn, nd.2.1, fun x hx y hy => nd.2.2 x (hsub x hx) y hy⟩, fun w => ?_⟩, ?_, ?_⟩
  · rw [(hang_rest _ _ _ _ _).2.2]; exact z.z w
  · exact hcc.same (fun j _ => ⟨(hang_rest _ _ _ _ j).1, (hang_rest _ _ _ _ j).2.2⟩)
  · exact ho.same (fun j _ => ⟨(hang_rest _ _ _ _ j).1, (hang_rest _ _ _ _ j).2.2⟩)
end
section
/-- Another one in the place that a way up leads from. -/
theorem RepC.hole {L L' : List Sp} {c : Ctx} {h h' : Nat} (hc : RepC L c h) (hn : (cids c).Nodup) (hl : ∀ i, i = 0 ∨ i ∈ cids c → i < L'.length) (hu : ∀ i ∈ cids c, (gt L' i).up = (gt L i).up)
    (hd : ∀ i, i = 0 ∨ i ∈ cids c → ∀ b, ¬ (upOf c = i ∧ b = sd c) → Sq.dn (gt L' i) b = Sq.dn (gt L i) b) (hh : Sq.dn (gt L' (upOf c)) (sd c) = h') : RepC L' c h' := by
  cases c with
  | nil =>
    refine ⟨hl 0 (.inl rfl), hh, ?_⟩
    have := hd 0 (.inl rfl) false (by simp [sd])
    simp only [Sq.dn, Bool.false_eq_true, if_false] at this
    rw [this]; exact hc.2.2
  | cons f c =>
    obtain ⟨i, s, o⟩ := f
    obtain ⟨h1, h2, h3, h4, h5, h6, h7⟩ := hc
    simp only [cids, List.nodup_cons, List.mem_append, not_or, List.nodup_append] at hn
    have al : ∀ j, j ∈ o.ids ∨ j ∈ cids c → j < L'.length ∧ Alike L L' j := fun j hj => by
      have hm : j ∈ cids ((i, s, o) :: c) := by simp only [cids, List.mem_cons, List.mem_append]; exact .inr hj
      have hne : i ≠ j := fun e => hj.elim (fun h => hn.1.1 (e ▸ h)) (fun h => hn.1.2 (e ▸ h))
      exact ⟨hl j (.inr hm), Hg.alike ⟨hu j hm, fun b => hd j (.inr hm) b (fun q => hne q.1)⟩⟩
    have mi : i ∈ cids ((i, s, o) :: c) := by simp [cids]
    refine ⟨h1, hl i (.inr mi), by rw [hu i mi]; exact h3, hh, ?_, h6.same' (fun j hj => al j (.inl hj)), h7.same' (fun j hj => al j (.inr hj)) ⟨hl 0 (.inl rfl), ?_, ?_⟩⟩
    · rw [hd i (.inr mi) (!s) (by simp [sd])]; exact h5
    · have := hd 0 (.inl rfl) false (fun q => h1 q.1)
      simpa [Sq.dn] using this
    · have := hd 0 (.inl rfl) true (fun q => h1 q.1)
      simpa [Sq.dn] using this
/-- A part whose root hangs elsewhere, in spots of another length. -/
theorem Rep.moved' {L L' : List Sp} {t : T} {p p' : Nat} (h : Rep L p t) (hn : t.ids.Nodup) (hs : ∀ i ∈ t.ids, i < L'.length ∧ (∀ b, dn (gt L' i) b = dn (gt L i) b) ∧ (i ≠ t.ix → (gt L' i).up = (gt L i).up)) (hp : t.ix ≠ 0 → (gt L' t.ix).up = p') : Rep L' p' t := by
  cases t with
  | nil => trivial
  | nd i l r =>
    obtain ⟨h1, h2, h3, h4, h5, h6, h7⟩ := h
    have e := hs i (by simp [T.ids])
    have e0 := e.2.1 false
    have e1 := e.2.1 true
    simp only [dn, Bool.false_eq_true, if_false, if_true] at e0 e1
    simp only [T.ids, List.nodup_append, List.nodup_cons] at hn
    refine ⟨h1, e.1, hp h1, by rw [e0]; exact h4, by rw [e1]; exact h5, h6.same' (fun j hj => ?_), h7.same' (fun j hj => ?_)⟩
    · have q := hs j (by simp [T.ids, hj])
      exact ⟨q.1, Hg.alike ⟨q.2.2 (fun e => hn.2.2 j hj i (by simp) (by simpa [T.ix] using e)), q.2.1⟩⟩
    · have q := hs j (by simp [T.ids, hj])
      have hji : j ≠ i := fun e => hn.2.1.1 (e ▸ hj)
      exact ⟨q.1, Hg.alike ⟨q.2.2 (by simpa [T.ix] using hji), q.2.1⟩⟩
/-- The first one from a place down, and the way to it. -/
theorem lft_first : ∀ (t : T), t ≠ .nil → ∃ m r' D, (∀ c0, lft t c0 = (m, false, r') :: (D ++ c0)) ∧ plug D (.nd m .nil r') = t
  | .nil, h => absurd rfl h
  | .nd i .nil r, _ => ⟨i, r, [], fun c0 => rfl, rfl⟩
  | .nd i (.nd j a b) r, _ => by
    obtain ⟨m, r', D, h1, h2⟩ := lft_first (.nd j a b) (by simp)
    refine ⟨m, r', D ++ [(i, false, r)], fun c0 => ?_, ?_⟩
    · rw [lft, h1]; simp
    · have pa : ∀ (D E : Ctx) (t : T), plug (D ++ E) t = plug E (plug D t) := by
        intro D
        induction D with
        | nil => intro E t; rfl
        | cons f D ih => obtain ⟨i, s, o⟩ := f; intro E t; exact ih E _
      rw [pa, h2]; rfl
theorem plug_app : ∀ (D E : Ctx) (t : T), plug (D ++ E) t = plug E (plug D t) := by
  intro D
  induction D with
  | nil => intro E t; rfl
  | cons f D ih => obtain ⟨i, s, o⟩ := f; intro E t; exact ih E _
theorem Zip.outs {L : List Sp} : ∀ {D c : Ctx} {t : T}, Zip L (D ++ c) t → Zip L c (Sq.plug D t)
  | [], c, t, z => z
  | (i, s, o) :: D, c, t, z => Zip.outs (D := D) (c := c) z.out
theorem Zip.ins {L : List Sp} : ∀ {D c : Ctx} {t : T}, Zip L c (Sq.plug D t) → Zip L (D ++ c) t
  | [], c, t, z => z
  | (i, s, o) :: D, c, t, z => (Zip.ins (D := D) (c := c) z).into
theorem Cnt.ins {L : List Sp} : ∀ {D c : Ctx} {t : T}, CntC L c → Cnt L (plug D t) → CntC L (D ++ c) ∧ Cnt L t
  | [], c, t, a, h => ⟨a, h⟩
  | (i, s, o) :: D, c, t, a, h => by
    obtain ⟨x, y⟩ := Cnt.ins (D := D) (c := c) (t := mk i s t o) a h
    obtain ⟨_, b1, b2⟩ := cnt_mk.1 y
    exact ⟨⟨b2, x⟩, b1⟩
/-- The one right behind stands in one's stead. -/
def rbn (L : List Sp) (a m : Nat) : List Sp :=
  let L1 := repl L m (gt L m).r
  let L2 := repl L1 a m
  hang (hang L2 m false (gt L2 a).l) m true (gt L2 a).r
theorem rbn_up {L : List Sp} {c : Ctx} {a m : Nat} {l r' : T} {D : Ctx} (z : Zip L c (.nd a l (plug D (.nd m .nil r')))) (hcc : CntC L c) (hcl : Cnt L l) (hcr : Cnt L (plug D (.nd m .nil r'))) :
    Up (rbn L a m) (D ++ (m, true, l) :: c) r' ∧ Kept L (rbn L a m) := by
  -- the first is taken from its place
  have z0 : Zip L (D ++ (a, true, l) :: c) (.nd m .nil r') := (Zip.into (s := true) z).ins
  obtain ⟨cc0, _, _, cr'⟩ := Cnt.ins (c := (a, true, l) :: c) ⟨hcl, hcc⟩ hcr
  obtain ⟨m1, m2, m3, m4, m5, _, m7⟩ := z0.rep
  have nd0 := List.nodup_append.1 z0.nd
  simp only [T.ids, List.nil_append, List.nodup_cons] at nd0
  have u1 := gone_up z0 cc0 cr' m7 nd0.1.2 (fun j hj => by simp [T.ids, hj])
  have e1 : repl L m (gt L m).r = hang L (upOf (D ++ (a, true, l) :: c)) (sd (D ++ (a, true, l) :: c)) r'.ix := by
    unfold repl
    have := z0.side (show (T.nd m .nil r').ix ≠ 0 from m1)
    simp only [T.ix] at this
    rw [this, m3, m5]
  obtain ⟨L1, hL1⟩ : ∃ L1, L1 = repl L m (gt L m).r := ⟨_, rfl⟩
  have k1 : Kept L L1 := by rw [hL1, e1]; exact hang_kept _ _ _ _
  rw [← e1, ← hL1] at u1
  obtain ⟨z1, cc1, c1⟩ := u1
  have z2 : Zip L1 c (.nd a l (plug D r')) := (Zip.out (s := true) (Zip.outs z1))
  obtain ⟨a1, a2, a3, a4, a5, a6, a7⟩ := z2.rep
  obtain ⟨R, hR⟩ : ∃ R, R = plug D r' := ⟨_, rfl⟩
  have sa := z2.side (show (T.nd a l (plug D r')).ix ≠ 0 from a1)
  simp only [T.ix] at sa
  -- who is apart
  have ndm : m ∉ cids (D ++ (a, true, l) :: c) := fun h => nd0.2.2 m (by simp) m h rfl
  have mem1 : ∀ j, j ∈ (T.nd a l (plug D r')).ids ++ cids c → j ≠ m := fun j hj e => by
    have p1 : ((T.nd a l (plug D r')).ids ++ cids c).Perm (r'.ids ++ cids (D ++ (a, true, l) :: c)) := by
      have p := plug_perm c (.nd a l (plug D r'))
      have q := plug_perm (D ++ (a, true, l) :: c) r'
      have e : plug (D ++ (a, true, l) :: c) r' = plug c (.nd a l (plug D r')) := by rw [plug_app]; rfl
      rw [e] at q
      exact p.symm.trans q
    rw [e] at hj
    rcases List.mem_append.1 (p1.mem_iff.1 hj) with h | h
    · exact nd0.1.1 h
    · exact ndm h
  have nd := z2.nd
  have ndl := List.nodup_append.1 nd
  rw [← hR] at a5 a7 mem1 nd ndl z2
  simp only [T.ids, List.nodup_append, List.nodup_cons, List.mem_append, List.mem_cons] at ndl
  obtain ⟨⟨nl, ⟨nal, nR⟩, nlR⟩, nC, nX⟩ := ndl
  have hc1 : RepC L1 c a := z2.repc
  have hu := hc1.up_lt
  have um : upOf c ≠ m := fun e => by
    rcases upOf_mem c with h | h
    · exact m1 (by omega)
    · exact mem1 _ (by simp [h]) e
  have uN : ∀ i, i ≠ 0 → i ∉ cids c → upOf c ≠ i := fun i h0 hi e => by
    rcases upOf_mem c with e0 | e0
    · omega
    · exact hi (e ▸ e0)
  have m2' : m < L1.length := by rw [k1.len]; exact m2
  obtain ⟨L2, hL2⟩ : ∃ L2, L2 = hang L1 (upOf c) (sd c) m := ⟨_, rfl⟩
  have e2 : repl L1 a m = L2 := by unfold repl; rw [a3, sa, hL2]
  have am : a ≠ m := mem1 a (by simp [T.ids])
  have ua : upOf c ≠ a := uN a a1 (fun h => nX a (.inr (.inl rfl)) a h rfl)
  have da : ∀ b, dn (gt L2 a) b = dn (gt L1 a) b := fun b => by rw [hL2, hang_dn, if_neg (fun q => ua q.1)]
  have dl : (gt L2 a).l = l.ix := by have := da false; simp only [dn, Bool.false_eq_true, if_false] at this; rw [this]; exact a4
  have dr : (gt L2 a).r = R.ix := by have := da true; simp only [dn, if_true] at this; rw [this]; exact a5
  have el : rbn L a m = hang (hang L2 m false l.ix) m true R.ix := by
    unfold rbn
    simp only []
    rw [← hL1, e2, dl, dr]
  have l2 : L2.length = L1.length := by rw [hL2, hang_len]
  have l3 : (hang L2 m false l.ix).length = L1.length := by rw [hang_len]; exact l2
  have l4 : (rbn L a m).length = L1.length := by rw [el, hang_len]; exact l3
  have lix : l.ix ≠ 0 → l.ix ∈ l.ids ∧ l.ix < L1.length := fun h => ⟨ix_mem h, (a6.mem _ (ix_mem h)).2⟩
  have rix : R.ix ≠ 0 → R.ix ∈ R.ids ∧ R.ix < L1.length := fun h => ⟨ix_mem h, (a7.mem _ (ix_mem h)).2⟩
  have up4 : ∀ j, (gt (rbn L a m) j).up = if R.ix = j ∧ R.ix ≠ 0 then m else if l.ix = j ∧ l.ix ≠ 0 then m else if m = j then upOf c else (gt L1 j).up := fun j => by
    rw [el, hang_up, l3]
    by_cases x : R.ix = j ∧ R.ix ≠ 0
    · rw [if_pos ⟨x.1, x.2, (rix x.2).2⟩, if_pos x]
    · rw [if_neg (fun q => x ⟨q.1, q.2.1⟩), if_neg x, hang_up, l2]
      by_cases y : l.ix = j ∧ l.ix ≠ 0
      · rw [if_pos ⟨y.1, y.2, (lix y.2).2⟩, if_pos y]
      · rw [if_neg (fun q => y ⟨q.1, q.2.1⟩), if_neg y, hL2, hang_up]
        by_cases w : m = j
        · rw [if_pos ⟨w, m1, m2'⟩, if_pos w]
        · rw [if_neg (fun q => w q.1), if_neg w]
  have dn4 : ∀ j b, dn (gt (rbn L a m) j) b = if m = j then (if b then R.ix else l.ix) else if upOf c = j ∧ b = sd c then m else dn (gt L1 j) b := fun j b => by
    rw [el, hang_dn, l3, hang_dn, l2]
    by_cases x : m = j
    · rw [if_pos x]
      cases b
      · rw [if_neg (by simp), if_pos ⟨x, rfl, m2'⟩]; rfl
      · rw [if_pos ⟨x, rfl, m2'⟩]; rfl
    · rw [if_neg (fun q => x q.1), if_neg (fun q => x q.1), if_neg x, hL2, hang_dn]
      by_cases y : upOf c = j ∧ b = sd c
      · rw [if_pos ⟨y.1, y.2, hu⟩, if_pos y]
      · rw [if_neg (fun q => y ⟨q.1, q.2.1⟩), if_neg y]
  have kept : Kept L (rbn L a m) := by
    rw [el]
    refine k1.trans (Kept.trans (B := L2) (by rw [hL2]; exact hang_kept _ _ _ _) ((hang_kept _ _ _ _).trans (hang_kept _ _ _ _)))
  have cts : ∀ j w, ct (gt (rbn L a m) j) w = ct (gt L1 j) w := fun j w => by
    rw [el, (hang_rest _ _ _ _ _).2.2 w, (hang_rest _ _ _ _ _).2.2 w, hL2, (hang_rest _ _ _ _ _).2.2 w]
  have ml : ∀ j ∈ l.ids, j ≠ m := fun j hj => mem1 j (by simp [T.ids, hj])
  have mR : ∀ j ∈ R.ids, j ≠ m := fun j hj => mem1 j (by simp [T.ids, hj])
  have mC : ∀ j ∈ cids c, j ≠ m := fun j hj => mem1 j (by simp [hj])
  have rl : Rep (rbn L a m) m l := a6.moved' nl (fun i hi => ⟨by rw [l4]; exact (a6.mem i hi).2, fun b => ?_, fun hne => ?_⟩) (fun hne => ?_)
  · have rR : Rep (rbn L a m) m R := a7.moved' nR (fun i hi => ⟨by rw [l4]; exact (a7.mem i hi).2, fun b => ?_, fun hne => ?_⟩) (fun hne => ?_)
    · have rC : RepC (rbn L a m) c m := by
        refine hc1.hole nC (fun i hi => ?_) (fun i hi => ?_) (fun i hi b hb => ?_) ?_
        · rw [l4]; rcases hi with rfl | hi
          · exact hc1.pos
          · exact (hc1.mem i hi).2
        · rw [up4, if_neg (fun q => nX R.ix (.inr (.inr (rix q.2).1)) i hi q.1), if_neg (fun q => nX l.ix (.inl (lix q.2).1) i hi q.1), if_neg (fun e => mC i hi e.symm)]
        · rw [dn4, if_neg (fun e => by
            rcases hi with rfl | hi
            · exact m1 e
            · exact mC i hi e.symm), if_neg hb]
        · rw [dn4, if_neg (Ne.symm um), if_pos ⟨rfl, rfl⟩]
      have zz : Zip (rbn L a m) c (.nd m l R) := by
        refine ⟨⟨m1, by rw [l4]; exact m2', ?_, ?_, ?_, rl, rR⟩, rC, ?_, fun w => by rw [cts]; exact z2.z w⟩
        · rw [up4, if_neg (fun q => mR _ (rix q.2).1 q.1), if_neg (fun q => ml _ (lix q.2).1 q.1), if_pos rfl]
        · have := dn4 m false; rw [if_pos rfl] at this; simpa [dn] using this
        · have := dn4 m true; rw [if_pos rfl] at this; simpa [dn] using this
        · refine List.nodup_append.2 ⟨?_, nC, fun x hx y hy => ?_⟩
          · simp only [T.ids]
            refine List.nodup_append.2 ⟨nl, List.nodup_cons.2 ⟨fun h => mR m h rfl, nR⟩, fun x hx y hy => ?_⟩
            rcases List.mem_cons.1 hy with rfl | hy
            · exact ml x hx
            · exact nlR x hx y (.inr hy)
          · simp only [T.ids, List.mem_append, List.mem_cons] at hx
            rcases hx with h | rfl | h
            · exact nX x (.inl h) y hy
            · exact fun e => mC y hy e.symm
            · exact nX x (.inr (.inr h)) y hy
      rw [hR] at zz
      refine ⟨⟨(Zip.into (s := true) zz).ins, ?_, ?_⟩, kept⟩
      · refine CntC.same (L := L1) ?_ (fun j _ => ⟨(kept.sh j).trans (k1.sh j).symm, fun w => cts j w⟩)
        have : ∀ (D : Ctx), CntC L1 (D ++ (a, true, l) :: c) → CntC L1 (D ++ (m, true, l) :: c) := by
          intro D
          induction D with
          | nil => exact fun h => h
          | cons f D ih => obtain ⟨i, s, o⟩ := f; exact fun h => ⟨h.1, ih h.2⟩
        exact this D cc1
      · exact c1.same (fun j _ => ⟨(kept.sh j).trans (k1.sh j).symm, fun w => cts j w⟩)
    · rw [dn4, if_neg (fun e => mR i hi e.symm), if_neg (fun q => uN i (a7.mem i hi).1 (fun h => nX i (.inr (.inr hi)) i h rfl) q.1)]
    · rw [up4, if_neg (fun q => hne q.1.symm), if_neg (fun q => nlR _ (lix q.2).1 i (.inr hi) q.1), if_neg (fun e => mR i hi e.symm)]
    · rw [up4, if_pos ⟨rfl, hne⟩]
  · rw [dn4, if_neg (fun e => ml i hi e.symm), if_neg (fun q => uN i (a6.mem i hi).1 (fun h => nX i (.inl hi) i h rfl) q.1)]
  · rw [up4, if_neg (fun q => nlR i hi _ (.inr (rix q.2).1) q.1.symm), if_neg (fun q => hne q.1.symm), if_neg (fun e => ml i hi e.symm)]
  · rw [up4, if_neg (fun q => nlR _ (lix hne).1 _ (.inr (rix q.2).1) q.1.symm), if_pos ⟨rfl, hne⟩]
end
section
theorem gt_take (L : List Sp) {n i : Nat} (h : i < n) : gt (L.take n) i = gt L i := by
  unfold gt
  rw [List.getD_eq_getElem?_getD, List.getD_eq_getElem?_getD, List.getElem?_take, if_pos h]
/-- The last spot moved to a number that has become free. -/
def move (L : List Sp) (f e : Nat) : List Sp :=
  let L1 := repl L e f
  let L2 := md L1 f (fun _ => gt L1 e)
  hang (hang L2 f false (gt L2 f).l) f true (gt L2 f).r
def fill (L : List Sp) (f : Nat) : List Sp := (if f = L.length - 1 then L else move L f (L.length - 1)).take (L.length - 1)
theorem move_zip {L : List Sp} {c : Ctx} {f e : Nat} {l r : T} (z : Zip L c (.nd e l r)) (hcc : CntC L c) (hc : Cnt L (.nd e l r)) (hlen : L.length = e + 1) (hf : f ≠ 0) (hfe : f < e) (hfi : f ∉ (T.nd e l r).ids) (hfc : f ∉ cids c) :
    Zip ((move L f e).take e) c (.nd f l r) ∧ CntC ((move L f e).take e) c ∧ Cnt ((move L f e).take e) (.nd f l r) ∧ (move L f e).length = e + 1 ∧
      (∀ j, j < e → (gt ((move L f e).take e) j).kp = (gt L (if j = f then e else j)).kp ∧ (gt ((move L f e).take e) j).sh = (gt L (if j = f then e else j)).sh) ∧ (∀ j, j < e → ∀ w, ct (gt ((move L f e).take e) j) w = ct (gt L (if j = f then e else j)) w) := by
  obtain ⟨a1, a2, a3, a4, a5, a6, a7⟩ := z.rep
  have sa := z.side (show (T.nd e l r).ix ≠ 0 from a1)
  simp only [T.ix] at sa
  have ndl := List.nodup_append.1 z.nd
  simp only [T.ids, List.nodup_append, List.nodup_cons, List.mem_append, List.mem_cons] at ndl
  obtain ⟨⟨nl, ⟨nel, nr⟩, nlr⟩, nC, nX⟩ := ndl
  simp only [T.ids, List.mem_append, List.mem_cons, not_or] at hfi
  obtain ⟨fl, fe, fr⟩ := hfi
  have hcx : RepC L c e := z.repc
  have hu := hcx.up_lt
  have uf : upOf c ≠ f := fun x => by
    rcases upOf_mem c with h | h
    · omega
    · exact hfc (x ▸ h)
  have uN : ∀ i, i ≠ 0 → i ∉ cids c → upOf c ≠ i := fun i h0 hi x => by
    rcases upOf_mem c with e0 | e0
    · omega
    · exact hi (x ▸ e0)
  have ue : upOf c ≠ e := uN e a1 (fun h => nX e (.inr (.inl rfl)) e h rfl)
  have lix : l.ix ≠ 0 → l.ix ∈ l.ids ∧ l.ix < L.length := fun h => ⟨ix_mem h, (a6.mem _ (ix_mem h)).2⟩
  have rix : r.ix ≠ 0 → r.ix ∈ r.ids ∧ r.ix < L.length := fun h => ⟨ix_mem h, (a7.mem _ (ix_mem h)).2⟩
  obtain ⟨L1, hL1⟩ : ∃ L1, L1 = hang L (upOf c) (sd c) f := ⟨_, rfl⟩
  have l1 : L1.length = L.length := by rw [hL1, hang_len]
  have g1 : gt L1 e = gt L e := by
    have hh : ∀ x y : Sp, x.up = y.up → dn x false = dn y false → dn x true = dn y true → x.sh = y.sh → x.kp = y.kp → (∀ w, ct x w = ct y w) → x = y := by
      intro x y h1 h2 h3 h4 h5 h6
      have h7 := h6 false
      have h8 := h6 true
      cases x; cases y
      simp_all [dn, ct]
    refine hh _ _ ?_ ?_ ?_ ?_ ?_ ?_
    · rw [hL1, hang_up, if_neg (fun q => fe q.1)]
    · rw [hL1, hang_dn, if_neg (fun q => ue q.1)]
    · rw [hL1, hang_dn, if_neg (fun q => ue q.1)]
    · rw [hL1]; exact (hang_rest _ _ _ _ _).1
    · rw [hL1]; exact (hang_rest _ _ _ _ _).2.1
    · rw [hL1]; exact (hang_rest _ _ _ _ _).2.2
  obtain ⟨L2, hL2⟩ : ∃ L2, L2 = md L1 f (fun _ => gt L e) := ⟨_, rfl⟩
  have l2 : L2.length = L.length := by rw [hL2, md_len, l1]
  have g2f : gt L2 f = gt L e := by rw [hL2, gt_same L1 _ (by omega)]
  have g2 : ∀ j, f ≠ j → gt L2 j = gt L1 j := fun j hj => by rw [hL2, gt_ne L1 _ hj]
  have el : move L f e = hang (hang L2 f false l.ix) f true r.ix := by
    unfold move repl
    simp only [a3, sa]
    rw [← hL1, g1, ← hL2, g2f, a4, a5]
  have l3 : (hang L2 f false l.ix).length = L.length := by rw [hang_len]; exact l2
  have l4 : (move L f e).length = L.length := by rw [el, hang_len]; exact l3
  have up4 : ∀ j, (gt (move L f e) j).up = if r.ix = j ∧ r.ix ≠ 0 then f else if l.ix = j ∧ l.ix ≠ 0 then f else if f = j then upOf c else (gt L j).up := fun j => by
    rw [el, hang_up, l3]
    by_cases x : r.ix = j ∧ r.ix ≠ 0
    · rw [if_pos ⟨x.1, x.2, (rix x.2).2⟩, if_pos x]
    · rw [if_neg (fun q => x ⟨q.1, q.2.1⟩), if_neg x, hang_up, l2]
      by_cases y : l.ix = j ∧ l.ix ≠ 0
      · rw [if_pos ⟨y.1, y.2, (lix y.2).2⟩, if_pos y]
      · rw [if_neg (fun q => y ⟨q.1, q.2.1⟩), if_neg y]
        by_cases w : f = j
        · rw [if_pos w, ← w, g2f, a3]
        · rw [if_neg w, g2 j w, hL1, hang_up, if_neg (fun q => w q.1)]
  have dn4 : ∀ j b, dn (gt (move L f e) j) b = if f = j then (if b then r.ix else l.ix) else if upOf c = j ∧ b = sd c then f else dn (gt L j) b := fun j b => by
    rw [el, hang_dn, l3, hang_dn, l2]
    by_cases x : f = j
    · rw [if_pos x]
      cases b
      · rw [if_neg (by simp), if_pos ⟨x, rfl, by omega⟩]; rfl
      · rw [if_pos ⟨x, rfl, by omega⟩]; rfl
    · rw [if_neg (fun q => x q.1), if_neg (fun q => x q.1), if_neg x, g2 j x, hL1, hang_dn]
      by_cases y : upOf c = j ∧ b = sd c
      · rw [if_pos ⟨y.1, y.2, hu⟩, if_pos y]
      · rw [if_neg (fun q => y ⟨q.1, q.2.1⟩), if_neg y]
  have rs4 : ∀ j, (gt (move L f e) j).sh = (gt L (if j = f then e else j)).sh ∧ (gt (move L f e) j).kp = (gt L (if j = f then e else j)).kp ∧ ∀ w, ct (gt (move L f e) j) w = ct (gt L (if j = f then e else j)) w := fun j => by
    have q1 : (gt (move L f e) j).sh = (gt L2 j).sh := by rw [el, (hang_rest _ _ _ _ _).1, (hang_rest _ _ _ _ _).1]
    have q2 : (gt (move L f e) j).kp = (gt L2 j).kp := by rw [el, (hang_rest _ _ _ _ _).2.1, (hang_rest _ _ _ _ _).2.1]
    have q3 : ∀ w, ct (gt (move L f e) j) w = ct (gt L2 j) w := fun w => by rw [el, (hang_rest _ _ _ _ _).2.2 w, (hang_rest _ _ _ _ _).2.2 w]
    rw [q1, q2]
    by_cases x : j = f
    · subst x
      rw [if_pos rfl, g2f]
      exact ⟨rfl, rfl, fun w => by rw [q3, g2f]⟩
    · rw [if_neg x, g2 j (Ne.symm x)]
      refine ⟨by rw [hL1]; exact (hang_rest _ _ _ _ _).1, by rw [hL1]; exact (hang_rest _ _ _ _ _).2.1, fun w => ?_⟩
      rw [q3, g2 j (Ne.symm x), hL1]
      exact (hang_rest _ _ _ _ _).2.2 w
  obtain ⟨M, hM⟩ : ∃ M, M = (move L f e).take e := ⟨_, rfl⟩
  have lM : M.length = e := by rw [hM, List.length_take, l4]; omega
  have gM : ∀ j, j < e → gt M j = gt (move L f e) j := fun j hj => by rw [hM, gt_take _ hj]
  rw [← hM]
  have lt_l : ∀ j ∈ l.ids, j < e := fun j hj => by have := (a6.mem j hj).2; have : j ≠ e := nlr j hj e (.inl rfl); omega
  have lt_r : ∀ j ∈ r.ids, j < e := fun j hj => by have := (a7.mem j hj).2; have : j ≠ e := fun x => nel (x ▸ hj); omega
  have lt_c : ∀ j ∈ cids c, j < e := fun j hj => by have := (hcx.mem j hj).2; have : j ≠ e := fun x => nX e (.inr (.inl rfl)) j hj x.symm; omega
  have rl : Rep M f l := a6.moved' nl (fun i hi => ⟨by rw [lM]; exact lt_l i hi, fun b => ?_, fun hne => ?_⟩) (fun hne => ?_)
  · have rr : Rep M f r := a7.moved' nr (fun i hi => ⟨by rw [lM]; exact lt_r i hi, fun b => ?_, fun hne => ?_⟩) (fun hne => ?_)
    · have rC : RepC M c f := by
        refine hcx.hole nC (fun i hi => ?_) (fun i hi => ?_) (fun i hi b hb => ?_) ?_
        · rw [lM]; rcases hi with rfl | hi
          · omega
          · exact lt_c i hi
        · rw [gM i (lt_c i hi), up4, if_neg (fun q => nX r.ix (.inr (.inr (rix q.2).1)) i hi q.1), if_neg (fun q => nX l.ix (.inl (lix q.2).1) i hi q.1), if_neg (fun (x : f = i) => hfc (x ▸ hi))]
        · have hlt : i < e := by
            rcases hi with rfl | hi
            · omega
            · exact lt_c i hi
          rw [gM i hlt, dn4, if_neg (fun (x : f = i) => by
            rcases hi with rfl | hi
            · exact hf x
            · exact hfc (x ▸ hi)), if_neg hb]
        · rw [gM _ ((upOf_mem c).elim (fun h => by omega) (fun h => lt_c _ h)), dn4, if_neg (Ne.symm uf), if_pos ⟨rfl, rfl⟩]
      have kps : ∀ j, j < e → (gt M j).kp = (gt L (if j = f then e else j)).kp ∧ (gt M j).sh = (gt L (if j = f then e else j)).sh := fun j hj => by
        rw [gM j hj]; exact ⟨(rs4 j).2.1, (rs4 j).1⟩
      have cl : ∀ {t : T}, (∀ j ∈ t.ids, j < e ∧ j ≠ f) → Cnt L t → Cnt M t := fun ht h => h.same (fun j hj => by
        rw [gM j (ht j hj).1, (rs4 j).1, if_neg (ht j hj).2]
        exact ⟨rfl, fun w => by rw [(rs4 j).2.2 w, if_neg (ht j hj).2]⟩)
      have okl : ∀ j ∈ l.ids, j < e ∧ j ≠ f := fun j hj => ⟨lt_l j hj, fun x => fl (x ▸ hj)⟩
      have okr : ∀ j ∈ r.ids, j < e ∧ j ≠ f := fun j hj => ⟨lt_r j hj, fun x => fr (x ▸ hj)⟩
      refine ⟨⟨⟨hf, by omega, ?_, ?_, ?_, rl, rr⟩, rC, ?_, fun w => ?_⟩, ?_, ⟨fun w => ?_, cl okl hc.2.1, cl okr hc.2.2⟩, by rw [l4, hlen], kps, fun j hj w => by rw [gM j hj]; exact (rs4 j).2.2 w⟩
      · rw [gM f hfe, up4, if_neg (fun (q : r.ix = f ∧ _) => fr (q.1 ▸ (rix q.2).1)), if_neg (fun (q : l.ix = f ∧ _) => fl (q.1 ▸ (lix q.2).1)), if_pos rfl]
      · have := dn4 f false; rw [if_pos rfl, ← gM f hfe] at this; simpa [dn] using this
      · have := dn4 f true; rw [if_pos rfl, ← gM f hfe] at this; simpa [dn] using this
      · refine List.nodup_append.2 ⟨?_, nC, fun x hx y hy => ?_⟩
        · simp only [T.ids]
          refine List.nodup_append.2 ⟨nl, List.nodup_cons.2 ⟨fr, nr⟩, fun x hx y hy => ?_⟩
          rcases List.mem_cons.1 hy with rfl | hy
          · exact fun q => fl (q ▸ hx)
          · exact nlr x hx y (.inr hy)
        · simp only [T.ids, List.mem_append, List.mem_cons] at hx
          rcases hx with h | rfl | h
          · exact nX x (.inl h) y hy
          · exact fun q => hfc (q ▸ hy)
          · exact nX x (.inr (.inr h)) y hy
      · rw [gM 0 (by omega), (rs4 0).2.2 w, if_neg (Ne.symm hf)]; exact z.z w
      · refine hcc.same (fun j hj => ?_)
        have hjf : j ≠ f := fun x => hfc (x ▸ hj)
        rw [gM j (lt_c j hj), (rs4 j).1, if_neg hjf]
        exact ⟨rfl, fun w => by rw [(rs4 j).2.2 w, if_neg hjf]⟩
      · rw [gM f hfe, (rs4 f).2.2 w, if_pos rfl, hc.1 w, cnt_nd, cnt_nd]
        have e1 : cnt M w l = cnt L w l := cnt_same (fun j hj => by rw [gM j (okl j hj).1, (rs4 j).1, if_neg (okl j hj).2])
        have e2 : cnt M w r = cnt L w r := cnt_same (fun j hj => by rw [gM j (okr j hj).1, (rs4 j).1, if_neg (okr j hj).2])
        rw [e1, e2, gM f hfe, (rs4 f).1, if_pos rfl]
    · rw [gM i (lt_r i hi), dn4, if_neg (fun (x : f = i) => fr (x ▸ hi)), if_neg (fun q => uN i (a7.mem i hi).1 (fun h => nX i (.inr (.inr hi)) i h rfl) q.1)]
    · rw [gM i (lt_r i hi), up4, if_neg (fun q => hne q.1.symm), if_neg (fun q => nlr _ (lix q.2).1 i (.inr hi) q.1), if_neg (fun (x : f = i) => fr (x ▸ hi))]
    · rw [gM _ (lt_r _ (rix hne).1), up4, if_pos ⟨rfl, hne⟩]
  · rw [gM i (lt_l i hi), dn4, if_neg (fun (x : f = i) => fl (x ▸ hi)), if_neg (fun q => uN i (a6.mem i hi).1 (fun h => nX i (.inl hi) i h rfl) q.1)]
  · rw [gM i (lt_l i hi), up4, if_neg (fun q => nlr i hi _ (.inr (rix q.2).1) q.1.symm), if_neg (fun q => hne q.1.symm), if_neg (fun (x : f = i) => fl (x ▸ hi))]
  · rw [gM _ (lt_l _ (lix hne).1), up4, if_neg (fun q => nlr _ (lix hne).1 _ (.inr (rix q.2).1) q.1.symm), if_pos ⟨rfl, hne⟩]
end
end Go.Proofs.Ytlejbdepoemcjaa.Sq
