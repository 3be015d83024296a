import Derived.Test.YtoofljkgdjjllaaTyl0
import Derived.Test.YtoofljkgdjjllaaTzi
namespace Go.Proofs.Ytoofljkgdjjllaa
open Go.RowKit
set_option linter.unusedVariables false
set_option linter.unusedSimpArgs false

/-- A node with its position. -/
def kidF (f : Fn) (x : IdK) : KidV := ⟨x, (nd f x).key⟩
/-- It is under another one. -/
def Und (f : Fn) (k x : IdK) : Prop := ∃ n, f x = some n ∧ n.pr = false ∧ n.u = k
/-- The row of those under one. -/
structure IsKids (f : Fn) (k : IdK) (L : List IdK) : Prop where
  mem : ∀ x, x ∈ L ↔ Und f k x
  srt : L.Pairwise fun x y => cKid (kidF f x) (kidF f y) < 0
  ok : ∀ x ∈ L, x.ok
theorem Und.nd {f : Fn} {k x : IdK} (h : Und f k x) : (Go.Proofs.Ytoofljkgdjjllaa.nd f x).pr = false ∧ (Go.Proofs.Ytoofljkgdjjllaa.nd f x).u = k ∧ (f x).isSome = true := by
  obtain ⟨n, h1, h2, h3⟩ := h
  unfold Go.Proofs.Ytoofljkgdjjllaa.nd
  rw [h1]
  exact ⟨h2, h3, rfl⟩
theorem IsKids.nodup {f : Fn} {k : IdK} {L : List IdK} (h : IsKids f k L) : L.Nodup := by
  refine h.srt.imp_of_mem (fun {a b} ha hb hlt e => ?_)
  subst e
  have := cKid_anti (x := kidF f a) (y := kidF f a) (h.ok a ha) (h.ok a ha)
  omega
/-- Two rows that are sorted, of the same ones. -/
theorem sorted_unique {α : Type} {r : α → α → Prop} (ir : ∀ a, ¬ r a a) (asy : ∀ a b, r a b → ¬ r b a) : ∀ {L M : List α}, L.Pairwise r → M.Pairwise r → (∀ x, x ∈ L ↔ x ∈ M) → L = M
  | [], [], _, _, _ => rfl
  | [], b :: M, _, _, h => by have := (h b).2 (by simp); simp at this
  | a :: L, [], _, _, h => by have := (h a).1 (by simp); simp at this
  | a :: L, b :: M, h1, h2, h => by
    have q1 := List.pairwise_cons.1 h1
    have q2 := List.pairwise_cons.1 h2
    have e : a = b := by
      rcases List.mem_cons.1 ((h a).1 (by simp)) with e | m
      · exact e
      · rcases List.mem_cons.1 ((h b).2 (by simp)) with e | m2
        · exact e.symm
        · exact absurd (q2.1 a m) (asy _ _ (q1.1 b m2))
    subst e
    rw [sorted_unique ir asy q1.2 q2.2 (fun x => ?_)]
    constructor
    · intro hx
      rcases List.mem_cons.1 ((h x).1 (List.mem_cons_of_mem _ hx)) with e | m
      · subst e; exact absurd (q1.1 x hx) (ir x)
      · exact m
    · intro hx
      rcases List.mem_cons.1 ((h x).2 (List.mem_cons_of_mem _ hx)) with e | m
      · subst e; exact absurd (q2.1 x hx) (ir x)
      · exact m
theorem IsKids.unique {f : Fn} {k : IdK} {L M : List IdK} (h : IsKids f k L) (h' : IsKids f k M) : L = M := by
  have hp : ∀ {A : List IdK}, IsKids f k A → A.Pairwise (fun x y => x.ok ∧ y.ok ∧ cKid (kidF f x) (kidF f y) < 0) := fun ha => ha.srt.imp_of_mem fun {a b} ma mb hlt => ⟨ha.ok a ma, ha.ok b mb, hlt⟩
  refine sorted_unique ?_ ?_ (hp h) (hp h') (fun x => (h.mem x).trans (h'.mem x).symm)
  · rintro a ⟨o, _, hlt⟩
    have := cKid_anti (x := kidF f a) (y := kidF f a) o o
    omega
  · rintro a b ⟨o1, o2, h1⟩ ⟨_, _, h2⟩
    have := cKid_anti (x := kidF f a) (y := kidF f b) o1 o2
    omega
/-- All under some, each ahead of those under it. -/
inductive Flat (f : Fn) : List IdK → List IdK → Prop
  | nil : Flat f [] []
  | cons {x : IdK} {K rest out : List IdK} : IsKids f x K → Flat f (K ++ rest) out → Flat f (x :: rest) (x :: out)
theorem Flat.unique {f : Fn} {a o o' : List IdK} (h : Flat f a o) (h' : Flat f a o') : o = o' := by
  induction h generalizing o' with
  | nil => cases h'; rfl
  | cons hk _ ih =>
    cases h' with
    | cons hk' h2 =>
      rw [hk'.unique hk] at h2
      rw [ih h2]
theorem Flat.app {f : Fn} {a b oa ob : List IdK} (h : Flat f a oa) (h' : Flat f b ob) : Flat f (a ++ b) (oa ++ ob) := by
  induction h with
  | nil => exact h'
  | cons hk _ ih =>
    rw [List.append_assoc] at ih
    exact .cons hk ih
theorem Flat.split {f : Fn} {c o : List IdK} (h : Flat f c o) : ∀ a b, c = a ++ b → ∃ oa ob, Flat f a oa ∧ Flat f b ob ∧ o = oa ++ ob := by
  induction h with
  | nil =>
    intro a b e
    obtain ⟨rfl, rfl⟩ := List.append_eq_nil_iff.1 e.symm
    exact ⟨[], [], .nil, .nil, rfl⟩
  | @cons x K rest out hk h ih =>
    intro a b e
    cases a with
    | nil =>
      simp at e
      subst e
      exact ⟨[], _, .nil, .cons hk h, rfl⟩
    | cons y a =>
      simp at e
      obtain ⟨rfl, rfl⟩ := e
      obtain ⟨oa, ob, h1, h2, rfl⟩ := ih (K ++ a) b (by simp)
      exact ⟨x :: oa, ob, .cons hk h1, h2, rfl⟩
/-- y is x, or lies under it. -/
def Above (f : Fn) (y x : IdK) : Prop := y = x ∨ ∃ l p, Climb f y l p ∧ x ∈ l
theorem Und.climb {f : Fn} {x y : IdK} (h : Und f x y) (hx : x ≠ zId) {l : List IdK} {p : Bool} (hc : Climb f x l p) : Climb f y (x :: l) p := by
  obtain ⟨h1, h2, _⟩ := h.nd
  have := Climb.up (f := f) (k := y) (l := l) (p := p) h1 (by rw [h2]; exact hx) (by rw [h2]; exact hc)
  rwa [h2] at this
theorem Climb.suffix {f : Fn} {y : IdK} {l : List IdK} {p : Bool} (h : Climb f y l p) : ∀ x ∈ l, ∃ a b, l = a ++ x :: b ∧ Climb f x b p := by
  induction h with
  | top _ => intro x hx; cases hx
  | @up k l p h1 h2 h3 ih =>
    intro x hx
    rcases List.mem_cons.1 hx with rfl | hx
    · exact ⟨[], l, rfl, h3⟩
    · obtain ⟨a, b, rfl, hb⟩ := ih x hx
      exact ⟨_ :: a, b, rfl, hb⟩
theorem Climb.self {f : Fn} {y : IdK} {l : List IdK} {p : Bool} (h : Climb f y l p) : y ∉ l := by
  intro hm
  obtain ⟨l2, h2, h3⟩ := h.tail y hm
  obtain ⟨rfl, _⟩ := h.same h2
  omega
theorem Und.ne {f : Fn} (hf : Forest f) {k x : IdK} (h : Und f k x) : x ≠ zId := by
  rintro rfl
  obtain ⟨n, h1, _⟩ := h
  rw [hf.zero] at h1
  cases h1
theorem Above.kid {f : Fn} (hf : Forest f) {x k y : IdK} (hk : Und f x k) (hx : x ≠ zId) (h : Above f y k) : Above f y x := by
  obtain ⟨lx, px, hcx⟩ := hf.ends x
  have hck := hk.climb hx hcx
  rcases h with rfl | ⟨l, p, hc, hm⟩
  · exact Or.inr ⟨_, _, hck, by simp⟩
  · obtain ⟨a, b, rfl, hb⟩ := hc.suffix k hm
    obtain ⟨rfl, _⟩ := hb.same hck
    exact Or.inr ⟨_, _, hc, by simp⟩
theorem Flat.from {f : Fn} (hf : Forest f) {a out : List IdK} (h : Flat f a out) (ha : ∀ x ∈ a, x ≠ zId) : ∀ y ∈ out, ∃ x ∈ a, Above f y x := by
  induction h with
  | nil => intro y hy; cases hy
  | @cons x K rest out hk h ih =>
    intro y hy
    rcases List.mem_cons.1 hy with rfl | hy
    · exact ⟨y, by simp, Or.inl rfl⟩
    · obtain ⟨z, hz, hab⟩ := ih (fun q hq => by
        rcases List.mem_append.1 hq with hq | hq
        · exact ((hk.mem q).1 hq).ne hf
        · exact ha q (List.mem_cons_of_mem _ hq)) y hy
      rcases List.mem_append.1 hz with hz | hz
      · exact ⟨x, by simp, hab.kid hf ((hk.mem z).1 hz) (ha x (by simp))⟩
      · exact ⟨z, List.mem_cons_of_mem _ hz, hab⟩
def Apart (f : Fn) (a : List IdK) : Prop := a.Pairwise fun x y => ∀ z, Above f z x → ¬ Above f z y
theorem sib_apart {f : Fn} (hf : Forest f) {x k1 k2 : IdK} (h1 : Und f x k1) (h2 : Und f x k2) (hne : k1 ≠ k2) : ∀ z, Above f z k1 → ¬ Above f z k2 := by
  obtain ⟨l1, p1, c1⟩ := hf.ends k1
  obtain ⟨l2, p2, c2⟩ := hf.ends k2
  have len : l1.length = l2.length ∧ ∀ y ∈ l1, y ∈ l2 := by
    by_cases hx : x = zId
    · obtain ⟨q1, q2, _⟩ := h1.nd
      obtain ⟨r1, r2, _⟩ := h2.nd
      obtain ⟨rfl, _⟩ := c1.same (Climb.top (Or.inr (q2.trans hx)))
      obtain ⟨rfl, _⟩ := c2.same (Climb.top (Or.inr (r2.trans hx)))
      exact ⟨rfl, fun _ h => h⟩
    · obtain ⟨lx, px, hcx⟩ := hf.ends x
      obtain ⟨rfl, _⟩ := c1.same (h1.climb hx hcx)
      obtain ⟨rfl, _⟩ := c2.same (h2.climb hx hcx)
      exact ⟨rfl, fun _ h => h⟩
  have no12 : k1 ∉ l2 := fun hm => by
    obtain ⟨l3, h3, h4⟩ := c2.tail k1 hm
    obtain ⟨rfl, _⟩ := c1.same h3
    omega
  have no21 : k2 ∉ l1 := fun hm => by
    obtain ⟨l3, h3, h4⟩ := c1.tail k2 hm
    obtain ⟨rfl, _⟩ := c2.same h3
    omega
  intro z z1 z2
  rcases z1 with rfl | ⟨l, p, hc, hm⟩
  · rcases z2 with e | ⟨l', p', hc', hm'⟩
    · exact hne e
    · obtain ⟨rfl, _⟩ := hc'.same c1
      exact no21 hm'
  · rcases z2 with rfl | ⟨l', p', hc', hm'⟩
    · obtain ⟨rfl, _⟩ := hc.same c2
      exact no12 hm
    · obtain ⟨rfl, rfl⟩ := hc.same hc'
      obtain ⟨a, b, e1, hb⟩ := hc.suffix k1 hm
      obtain ⟨a', b', e2, hb'⟩ := hc.suffix k2 hm'
      obtain ⟨rfl, _⟩ := hb.same c1
      obtain ⟨rfl, _⟩ := hb'.same c2
      rw [e1] at e2
      have hl := congrArg List.length e2
      simp only [List.length_append, List.length_cons] at hl
      have e3 := (List.append_inj e2 (by omega)).2
      exact hne (List.cons.inj e3).1
theorem kids_apart {f : Fn} (hf : Forest f) {x : IdK} {K : List IdK} (h : IsKids f x K) : Apart f K :=
  (List.Pairwise.and h.nodup h.srt).imp_of_mem fun {a b} ha hb hq => sib_apart hf ((h.mem a).1 ha) ((h.mem b).1 hb) hq.1
theorem Flat.nodup {f : Fn} (hf : Forest f) {a out : List IdK} (h : Flat f a out) (ha : ∀ x ∈ a, x ≠ zId) (hp : Apart f a) : out.Nodup := by
  induction h with
  | nil => exact List.nodup_nil
  | @cons x K rest out hk h ih =>
    have hx := ha x (by simp)
    have q := List.pairwise_cons.1 hp
    have ha' : ∀ q ∈ K ++ rest, q ≠ zId := fun q hq => by
      rcases List.mem_append.1 hq with hq | hq
      · exact ((hk.mem q).1 hq).ne hf
      · exact ha q (List.mem_cons_of_mem _ hq)
    refine List.nodup_cons.2 ⟨fun hm => ?_, ih ha' (List.pairwise_append.2 ⟨kids_apart hf hk, q.2, fun k hk' r hr z hz => q.1 r hr z (hz.kid hf ((hk.mem k).1 hk') hx)⟩)⟩
    obtain ⟨z, hz, hab⟩ := h.from hf ha' x hm
    rcases List.mem_append.1 hz with hz | hz
    · obtain ⟨lx, px, hcx⟩ := hf.ends x
      have hck := ((hk.mem z).1 hz).climb hx hcx
      rcases hab with rfl | ⟨l, p, hc, hm⟩
      · exact hck.self (by simp)
      · obtain ⟨rfl, _⟩ := hc.same hcx
        exact hck.self (List.mem_cons_of_mem _ hm)
    · exact q.1 z hz x (Or.inl rfl) hab
theorem Flat.sub {f : Fn} {a out : List IdK} (h : Flat f a out) : a.Sublist out := by
  induction h with
  | nil => exact List.Sublist.slnil
  | @cons x K rest out hk h ih => exact List.Sublist.cons_cons _ ((List.sublist_append_right K rest).trans ih)
theorem Flat.closed {f : Fn} {a out : List IdK} (h : Flat f a out) : ∀ x ∈ out, ∀ y, Und f x y → y ∈ out := by
  induction h with
  | nil => intro x hx; cases hx
  | @cons x K rest out hk h ih =>
    intro z hz y hy
    rcases List.mem_cons.1 hz with rfl | hz
    · exact List.mem_cons_of_mem _ (h.sub.subset (List.mem_append_left _ ((hk.mem y).2 hy)))
    · exact List.mem_cons_of_mem _ (ih z hz y hy)
theorem Climb.und {f : Fn} {y : IdK} {x : IdK} {l : List IdK} {p : Bool} (h : Climb f y (x :: l) p) : Und f x y := by
  cases h with
  | up h1 h2 h3 =>
    unfold nd at *
    cases e : f y with
    | none => rw [e] at h2; exact absurd rfl h2
    | some n => rw [e] at h1; exact ⟨n, e, h1, rfl⟩
theorem Flat.all {f : Fn} {a out : List IdK} (h : Flat f a out) {x : IdK} (hx : x ∈ out) : ∀ {y : IdK} {l : List IdK} {p : Bool}, Climb f y l p → x ∈ l → y ∈ out := by
  intro y l p hc hm
  induction hc with
  | top _ => cases hm
  | @up k l p h1 h2 h3 ih =>
    have hu := (Climb.up h1 h2 h3).und
    rcases List.mem_cons.1 hm with e | hm
    · exact h.closed _ (by rw [← e]; exact hx) _ hu
    · exact h.closed _ (ih hm) _ hu
/-- Who is there: just those of a list. -/
structure Dom (f : Fn) (D : List IdK) : Prop where
  mem : ∀ x, x ∈ D ↔ (f x).isSome = true
  nd : D.Nodup
  ok : ∀ x ∈ D, x.ok
theorem nodup_le {α : Type} [DecidableEq α] : ∀ {a b : List α}, a.Nodup → (∀ x ∈ a, x ∈ b) → a.length ≤ b.length
  | [], b, _, _ => Nat.zero_le _
  | x :: a, b, h, hs => by
    have q := List.nodup_cons.1 h
    have hx := hs x (by simp)
    have := nodup_le (a := a) (b := b.erase x) q.2 (fun y hy => (List.mem_erase_of_ne (fun e : y = x => q.1 (e ▸ hy))).2 (hs y (List.mem_cons_of_mem _ hy)))
    rw [List.length_erase_of_mem hx] at this
    have hp := List.length_pos_of_mem hx
    rw [List.length_cons]
    omega
theorem kids_exist {f : Fn} {D : List IdK} (hD : Dom f D) (k : IdK) : ∃ K, IsKids f k K := by
  classical
  obtain ⟨M, hM⟩ : ∃ M, M = D.filter (fun x => decide (Und f k x)) := ⟨_, rfl⟩
  have hmem : ∀ x, x ∈ M ↔ Und f k x := fun x => by
    rw [hM, List.mem_filter, hD.mem]
    constructor
    · intro h; simpa using h.2
    · intro h; exact ⟨h.nd.2.2, by simpa using h⟩
  have hokM : ∀ x ∈ M, x.ok := fun x hx => hD.ok x (by rw [hM] at hx; exact (List.mem_filter.1 hx).1)
  have hndM : M.Nodup := by rw [hM]; exact hD.nd.filter _
  let le : IdK → IdK → Bool := fun x y => decide (cfK (kidF f x) (kidF f y) ≤ 0)
  have hp := List.mergeSort_perm M le
  have hs : (M.mergeSort le).Pairwise (fun a b => le a b = true) := List.pairwise_mergeSort (le := le) (fun a b c h1 h2 => by
    simp only [le, decide_eq_true_eq] at *
    exact to_cfK.le _ _ _ h1 h2) (fun a b => by
    have := to_cfK.anti (kidF f a) (kidF f b)
    simp only [le, Bool.or_eq_true, decide_eq_true_eq]
    omega) M
  refine ⟨M.mergeSort le, fun x => (hp.mem_iff).trans (hmem x), ?_, fun x hx => hokM x (hp.mem_iff.1 hx)⟩
  have hnd : (M.mergeSort le).Nodup := hp.nodup_iff.2 hndM
  refine (List.Pairwise.and hnd hs).imp_of_mem fun {a b} ha hb hq => ?_
  have o1 := hokM a (hp.mem_iff.1 ha)
  have o2 := hokM b (hp.mem_iff.1 hb)
  have h1 : cfK (kidF f a) (kidF f b) ≤ 0 := by simpa [le] using hq.2
  unfold cfK at h1
  rw [nrmK_id (x := kidF f a) o1, nrmK_id (x := kidF f b) o2] at h1
  have h0 : cKid (kidF f a) (kidF f b) ≠ 0 := fun e => hq.1 (cKid_zero (x := kidF f a) (y := kidF f b) o1 o2 e)
  omega
theorem flat_exist {f : Fn} (hf : Forest f) {D : List IdK} (hD : Dom f D) : ∀ (m : Nat) (x : IdK), (f x).isSome = true → ∀ l p, Climb f x l p → D.length ≤ l.length + m → ∃ out, Flat f [x] out
  | 0, x, hx, l, p, hc, hm => by
    have := nodup_le (a := x :: l) (b := D) (List.nodup_cons.2 ⟨hc.self, hc.nodup⟩) (fun y hy => by
      rw [hD.mem]
      rcases List.mem_cons.1 hy with rfl | hy
      · exact hx
      · exact hc.there hf y hy)
    simp at this
    omega
  | m + 1, x, hx, l, p, hc, hm => by
    obtain ⟨K, hK⟩ := kids_exist hD x
    have hx0 : x ≠ zId := by rintro rfl; rw [hf.zero] at hx; cases hx
    have : ∀ A : List IdK, (∀ y ∈ A, y ∈ K) → ∃ out, Flat f A out := by
      intro A
      induction A with
      | nil => exact fun _ => ⟨[], .nil⟩
      | cons y A ih =>
        intro hA
        have hu := (hK.mem y).1 (hA y (by simp))
        obtain ⟨o1, h1⟩ := flat_exist hf hD m y hu.nd.2.2 (x :: l) p (hu.climb hx0 hc) (by simp; omega)
        obtain ⟨o2, h2⟩ := ih (fun z hz => hA z (List.mem_cons_of_mem _ hz))
        exact ⟨_, h1.app h2⟩
    obtain ⟨o, ho⟩ := this K (fun _ h => h)
    exact ⟨x :: o, .cons hK (by rw [List.append_nil]; exact ho)⟩
/-- What Walk tells. -/
def IsWalk (f : Fn) (W : List IdK) : Prop := ∃ K, IsKids f zId K ∧ Flat f K W
theorem IsWalk.unique {f : Fn} {W W' : List IdK} (h : IsWalk f W) (h' : IsWalk f W') : W = W' := by
  obtain ⟨K, hK, hF⟩ := h
  obtain ⟨K', hK', hF'⟩ := h'
  rw [hK'.unique hK] at hF'
  exact hF.unique hF'
theorem walk_exist {f : Fn} (hf : Forest f) {D : List IdK} (hD : Dom f D) : ∃ W, IsWalk f W := by
  obtain ⟨K, hK⟩ := kids_exist hD zId
  have : ∀ A : List IdK, (∀ y ∈ A, y ∈ K) → ∃ out, Flat f A out := by
    intro A
    induction A with
    | nil => exact fun _ => ⟨[], .nil⟩
    | cons y A ih =>
      intro hA
      have hu := (hK.mem y).1 (hA y (by simp))
      obtain ⟨l, p, hc⟩ := hf.ends y
      obtain ⟨o1, h1⟩ := flat_exist hf hD D.length y hu.nd.2.2 l p hc (by omega)
      obtain ⟨o2, h2⟩ := ih (fun z hz => hA z (List.mem_cons_of_mem _ hz))
      exact ⟨_, h1.app h2⟩
  obtain ⟨o, ho⟩ := this K (fun _ h => h)
  exact ⟨o, K, hK, ho⟩
theorem IsWalk.nodup {f : Fn} (hf : Forest f) {W : List IdK} (h : IsWalk f W) : W.Nodup := by
  obtain ⟨K, hK, hF⟩ := h
  exact hF.nodup hf (fun x hx => ((hK.mem x).1 hx).ne hf) (kids_apart hf hK)
theorem Flat.there {f : Fn} {a out : List IdK} (h : Flat f a out) (ha : ∀ x ∈ a, (f x).isSome = true) : ∀ x ∈ out, (f x).isSome = true := by
  induction h with
  | nil => intro x hx; cases hx
  | @cons x K rest out hk h ih =>
    intro y hy
    rcases List.mem_cons.1 hy with rfl | hy
    · exact ha y (by simp)
    · exact ih (fun z hz => by
        rcases List.mem_append.1 hz with hz | hz
        · exact ((hk.mem z).1 hz).nd.2.2
        · exact ha z (List.mem_cons_of_mem _ hz)) y hy
theorem IsWalk.there {f : Fn} {W : List IdK} (h : IsWalk f W) : ∀ x ∈ W, (f x).isSome = true := by
  obtain ⟨K, hK, hF⟩ := h
  exact hF.there (fun x hx => ((hK.mem x).1 hx).nd.2.2)
theorem IsWalk.le {f : Fn} (hf : Forest f) {D : List IdK} (hD : Dom f D) {W : List IdK} (h : IsWalk f W) : W.length ≤ D.length :=
  nodup_le (h.nodup hf) (fun x hx => (hD.mem x).2 (h.there x hx))
theorem IsKids.le {f : Fn} {D : List IdK} (hD : Dom f D) {k : IdK} {K : List IdK} (h : IsKids f k K) : K.length ≤ D.length :=
  nodup_le h.nodup (fun x hx => (hD.mem x).2 ((h.mem x).1 hx).nd.2.2)
end Go.Proofs.Ytoofljkgdjjllaa
