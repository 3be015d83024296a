import Derived.Test.YtoofljkgdjjllaaTyi
import Derived.Great.BuildSlice
import Derived.Deep.DeepAppendWide
import Derived.Maps.AppendAt
import Derived.OwnWalk
import Derived.Deep.RegionLaw
import Derived.Test.YtoofljkgdjjllaaTyl0
import Derived.Test.YtoofljkgdjjllaaTyl
import Derived.Shelf.SlicesQ.Reverse
import Derived.Laws.CopyRow
import Derived.Test.YtoofljkgdjjllaaRg
import Derived.Test.YtoofljkgdjjllaaVt
set_option maxRecDepth 100000
set_option maxHeartbeats 4000000
namespace Go.Proofs.Ytoofljkgdjjllaa
open Go.RowKit
set_option linter.unusedVariables false
set_option linter.unusedSimpArgs false
def IdsAt (w : World) (a : Option Addr) (L : List IdK) : Prop := L = [] ∨ ∃ b off, a = some ⟨b, off, none⟩ ∧ b < w.heap.size ∧ ∀ i h, L[i]? = some h → w.rangeAt b (off + 33 * i) (IdK.c h)
theorem IdsAt.below {w w' : World} {a : Option Addr} {L : List IdK} (h : IdsAt w a L) (hb : Below w.heap.size w w') : IdsAt w' a L := by
  rcases h with h | ⟨b, off, e, hl, hr⟩
  · exact .inl h
  · exact .inr ⟨b, off, e, Nat.lt_of_lt_of_le hl hb.size, fun i x hx => rangeAt_keep (hr i x hx) (hb.block b hl)⟩
def flatI (L : List IdK) : List Value := L.flatMap IdK.c
theorem flatI_len : ∀ {L : List IdK}, (∀ h ∈ L, h.ok) → (flatI L).length = 33 * L.length
  | [], _ => rfl
  | x :: L, ok => by
    have := flatI_len (L := L) (fun h hh => ok h (by simp [hh]))
    simp only [flatI, List.flatMap_cons, List.length_append, IdK.len (ok x (by simp)), List.length_cons] at this ⊢
    omega
theorem flatI_get : ∀ {L : List IdK}, (∀ h ∈ L, h.ok) → ∀ {i : Nat} {h : IdK}, L[i]? = some h → ∀ {j : Nat} {v : Value}, (IdK.c h)[j]? = some v → (flatI L)[33 * i + j]? = some v
  | x :: L, ok, 0, h, hi, j, v, hj => by
    simp only [List.getElem?_cons_zero, Option.some.injEq] at hi
    subst hi
    have hl := (List.getElem?_eq_some_iff.1 hj).1
    rw [Nat.mul_zero, Nat.zero_add, flatI, List.flatMap_cons, List.getElem?_append_left hl]
    exact hj
  | x :: L, ok, i + 1, h, hi, j, v, hj => by
    simp only [List.getElem?_cons_succ] at hi
    have := flatI_get (L := L) (fun h hh => ok h (by simp [hh])) hi hj
    have l := IdK.len (ok x (by simp))
    rw [flatI, List.flatMap_cons, List.getElem?_append_right (by omega), l, show 33 * (i + 1) + j - 33 = 33 * i + j by omega]
    exact this
  | [], _, i, h, hi, _, _, _ => by simp at hi
theorem flatI_inv : ∀ {L : List IdK}, (∀ h ∈ L, h.ok) → ∀ {p : Nat} {u : Value}, (flatI L)[p]? = some u → ∃ i h j, p = 33 * i + j ∧ L[i]? = some h ∧ (IdK.c h)[j]? = some u
  | [], _, p, u, hp => by simp [flatI] at hp
  | x :: L, ok, p, u, hp => by
    have l := IdK.len (ok x (by simp))
    rw [flatI, List.flatMap_cons, List.getElem?_append] at hp
    by_cases h : p < (IdK.c x).length
    · rw [if_pos h] at hp
      exact ⟨0, x, p, by omega, rfl, hp⟩
    · rw [if_neg h] at hp
      obtain ⟨i, y, j, e, hi, hj⟩ := flatI_inv (L := L) (fun h hh => ok h (by simp [hh])) hp
      exact ⟨i + 1, y, j, by omega, hi, hj⟩
theorem flatI_one (L : List IdK) : ∀ u ∈ flatI L, u.oneCell' = true := by
  intro u hu
  simp only [flatI, List.mem_flatMap] at hu
  obtain ⟨h, _, hv⟩ := hu
  exact IdK.one h u hv
theorem flatI_app (L M : List IdK) : flatI (L ++ M) = flatI L ++ flatI M := by simp [flatI]
def OwnI (w : World) (base : Nat) (v : Value) (L : List IdK) : Prop := w.ownsRow base 37 33 v L.length (flatI L)
theorem OwnI.below {w w' : World} {base : Nat} {v : Value} {L : List IdK} (h : OwnI w base v L) (hb : Below w.heap.size w w') : OwnI w' base v L := by
  refine ⟨h.1, ?_⟩
  rcases h.2 with hn | ⟨g, cap, cur, rfl, hbg, hg, rest⟩
  · exact .inl hn
  · exact .inr ⟨g, cap, cur, rfl, hbg, by rw [hb.block g (Array.getElem?_eq_some_iff.1 hg).1]; exact hg, rest⟩
theorem OwnI.keep {w w' : World} {base : Nat} {v : Value} {L : List IdK} (h : OwnI w base v L) (hk : ∀ k, v.ownBlock = some k → w'.heap[k]? = w.heap[k]?) : OwnI w' base v L := by
  refine ⟨h.1, ?_⟩
  rcases h.2 with hn | ⟨g, cap, cur, rfl, hbg, hg, rest⟩
  · exact .inl hn
  · exact .inr ⟨g, cap, cur, rfl, hbg, by rw [hk g rfl]; exact hg, rest⟩
theorem OwnI.open {w : World} {base : Nat} {v : Value} {L : List IdK} (h : OwnI w base v L) (ok : ∀ h ∈ L, h.ok) : ∃ a c, v = .slice a L.length c ∧ IdsAt w a L ∧ L.length ≤ c := by
  rcases h.2 with ⟨rfl, hn⟩ | ⟨g, cap, cur, rfl, hbg, hg, hnc, hcm, hcs, htake⟩
  · obtain rfl : L = [] := List.eq_nil_of_length_eq_zero hn
    exact ⟨none, 0, rfl, .inl rfl, Nat.le_refl _⟩
  · refine ⟨some ⟨g, 0, none⟩, cap, rfl, .inr ⟨g, 0, rfl, (Array.getElem?_eq_some_iff.1 hg).1, fun i x hx j u hj => ?_⟩, hnc⟩
    have e := flatI_get ok hx hj
    rw [Nat.zero_add, cell_of_row w g _ cur 37 (0, 0) hg]
    rw [← htake, List.getElem?_take] at e
    split at e
    · simpa using e
    · cases e
theorem infoI : (Try.prog.info? 37).map (fun i => (i.zero, i.size, i.bytes)) = some (some (.agg (IdK.c zId).toArray), 33, 40) := by kernel_rfl
theorem zcellsI : (Value.agg (IdK.c zId).toArray).cells.size = 33 := by
  show (IdK.c zId).toArray.size = 33
  rw [List.size_toArray, IdK.len zId_ok]
theorem run_appI (w : World) (base : Nat) (v : Value) (L : List IdK) (a : Option Addr) (M : List IdK) (c : Nat) (hown : OwnI w base v L) (hb : IdsAt w a M) (ok : ∀ h ∈ M, h.ok) (h : L.length + M.length ≤ 5600000000000) (hbase : base ≤ w.heap.size) :
    ∃ v' w', (Builtin.append_ #[41, 41] 41 #[v, .slice a M.length c]).run Try.prog w = .ok v' w' ∧ OwnI w' base v' (L ++ M) ∧ w.grownBy w' v.ownBlock ∧ (v'.ownBlock = v.ownBlock ∨ v'.ownBlock = some w.heap.size) := by
  obtain ⟨i, hi, hz, hs, hby⟩ := info_parts infoI
  cases a with
  | some ad =>
    have hnews : ∀ j u, (flatI M)[j]? = some u → w.cell? (ad.add j) = some u := fun j u hj => by
      rcases hb with rfl | ⟨b, off, e, _, hc⟩
      · simp [flatI] at hj
      · cases e
        obtain ⟨k, x, r, rfl, hx, hr⟩ := flatI_inv ok hj
        rw [Addr.add_mid, ← Nat.add_assoc]
        exact hc k x hx r u hr
    obtain ⟨v', w', hr, h2, h3, h5⟩ := app_at (P := Try.prog) w base 41 41 37 i _ 33 40 Try.underlying41 hi hz hs hby zcellsI (by decide) v L.length (flatI L) hown ad M.length c (flatI M) (by rw [flatI_len ok, Nat.mul_comm]) hnews (flatI_one M) (by unfold maxLen; omega) (by omega) hbase
    refine ⟨v', w', hr, ?_, h3, h5⟩
    unfold OwnI
    rw [List.length_append, flatI_app]
    exact h2
  | none =>
    obtain rfl : M = [] := by
      rcases hb with rfl | ⟨b, off, e, _⟩
      · rfl
      · cases e
    rcases hown.2 with ⟨rfl, hn⟩ | ⟨g, cap, cur, rfl, hbg, hg, hnc, rest⟩
    · refine ⟨.slice none 0 0, w, ?_, by rw [List.append_nil]; exact hown, ⟨rfl, rfl, rfl, Nat.le_refl _, fun _ _ _ => rfl⟩, .inl rfl⟩
      simp [Builtin.append_, run_underlying Try.underlying41, sizeOf, typeInfo, hi, Builtin.lenOf, Builtin.firstCells, loadCells, loadCellsFrom]
    · refine ⟨.slice (some ⟨g, 0, none⟩) L.length cap, w, ?_, by rw [List.append_nil]; exact hown, ⟨rfl, rfl, rfl, Nat.le_refl _, fun _ _ _ => rfl⟩, .inl rfl⟩
      simp [Builtin.append_, run_underlying Try.underlying41, sizeOf, typeInfo, hi, Builtin.lenOf, Builtin.firstCells, hnc, storeCells]
theorem ids_lit (w : World) (h : IdK) (t : TypeId) : IdsAt (w.alloc (.cells (IdK.c h).toArray t)) (some ⟨w.heap.size, 0, none⟩) [h] :=
  .inr ⟨w.heap.size, 0, rfl, by simp, fun i x hx j v hj => by
    have hl := (List.getElem?_eq_some_iff.1 hx).1
    obtain rfl : i = 0 := by simp at hl; omega
    simp at hx
    subst hx
    rw [Nat.mul_zero, Nat.add_zero, Nat.zero_add]
    exact cell_new w (IdK.c h) t j v hj⟩
theorem run_bsI (h : IdK) (ok : h.ok) (w : World) : (Instr.buildSlice 41 1 #[(0, .agg (IdK.c h).toArray)]).run Try.prog w = .ok (.slice (some ⟨w.heap.size, 0, none⟩) 1 1) (w.alloc (.cells (IdK.c h).toArray 37)) := by
  obtain ⟨ie, hi, hz, hs, hby⟩ := info_parts infoI
  refine run_buildSlice w 41 37 1 _ (IdK.c h).toArray ie _ Try.underlying41 hi hz (by rw [hs]; decide) (by rw [hs]; decide) ?_
  rw [hs]
  have := Go.Great.fill_whole (s := 33) (by decide) [.agg (IdK.c h).toArray] ((Array.range (1 * 33)).map ((Value.agg (IdK.c zId).toArray).cells[· % (Value.agg (IdK.c zId).toArray).cells.size]!)) (by intro v hv; simp at hv; subst hv; show (IdK.c h).toArray.size = 33; rw [List.size_toArray, IdK.len ok]) (by simp)
  simpa [Value.cells] using this
section
variable {ops : Array Oper} {rest : List Oper} {o : Oper} {a : Act} {w : World} {Q : Exit → Act → World → Prop} {K : Act → World → Prop} {E : Prop}
end
def kidF (f : Fn) (x : IdK) : KidV := ⟨x, (nd f x).key⟩
def Und (f : Fn) (k x : IdK) : Prop := ∃ n, f x = some n ∧ n.pr = false ∧ n.u = k
structure IsKids (f : Fn) (k : IdK) (L : List IdK) : Prop where
  mem : ∀ x, x ∈ L ↔ Und f k x
  srt : L.Pairwise fun x y => cKid (kidF f x) (kidF f y) < 0
  ok : ∀ x ∈ L, x.ok
theorem Und.nd {f : Fn} {k x : IdK} (h : Und f k x) : (Go.Proofs.Ytoofljkgdjjllaa.nd f x).pr = false ∧ (Go.Proofs.Ytoofljkgdjjllaa.nd f x).u = k ∧ (f x).isSome = true := by
  obtain ⟨n, h1, h2, h3⟩ := h
  unfold Go.Proofs.Ytoofljkgdjjllaa.nd
  rw [h1]
  exact ⟨h2, h3, rfl⟩
theorem IsKids.nodup {f : Fn} {k : IdK} {L : List IdK} (h : IsKids f k L) : L.Nodup := by
  refine h.srt.imp_of_mem (fun {a b} ha hb hlt e => ?_)
  subst e
  have := cKid_anti (x := kidF f a) (y := kidF f a) (h.ok a ha) (h.ok a ha)
  omega
theorem sorted_unique {α : Type} {r : α → α → Prop} (ir : ∀ a, ¬ r a a) (asy : ∀ a b, r a b → ¬ r b a) : ∀ {L M : List α}, L.Pairwise r → M.Pairwise r → (∀ x, x ∈ L ↔ x ∈ M) → L = M
  | [], [], _, _, _ => rfl
  | [], b :: M, _, _, h => by have := (h b).2 (by simp); simp at this
  | a :: L, [], _, _, h => by have := (h a).1 (by simp); simp at this
  | a :: L, b :: M, h1, h2, h => by
    have q1 := List.pairwise_cons.1 h1
    have q2 := List.pairwise_cons.1 h2
    have e : a = b := by
      rcases List.mem_cons.1 ((h a).1 (by simp)) with e | m
      · exact e
      · rcases List.mem_cons.1 ((h b).2 (by simp)) with e | m2
        · exact e.symm
        · exact absurd (q2.1 a m) (asy _ _ (q1.1 b m2))
    subst e
    rw [sorted_unique ir asy q1.2 q2.2 (fun x => ?_)]
    constructor
    · intro hx
      rcases List.mem_cons.1 ((h x).1 (List.mem_cons_of_mem _ hx)) with e | m
      · subst e; exact absurd (q1.1 x hx) (ir x)
      · exact m
    · intro hx
      rcases List.mem_cons.1 ((h x).2 (List.mem_cons_of_mem _ hx)) with e | m
      · subst e; exact absurd (q2.1 x hx) (ir x)
      · exact m
theorem IsKids.unique {f : Fn} {k : IdK} {L M : List IdK} (h : IsKids f k L) (h' : IsKids f k M) : L = M := by
  have hp : ∀ {A : List IdK}, IsKids f k A → A.Pairwise (fun x y => x.ok ∧ y.ok ∧ cKid (kidF f x) (kidF f y) < 0) := fun ha => ha.srt.imp_of_mem fun {a b} ma mb hlt => ⟨ha.ok a ma, ha.ok b mb, hlt⟩
  refine sorted_unique ?_ ?_ (hp h) (hp h') (fun x => (h.mem x).trans (h'.mem x).symm)
  · rintro a ⟨o, _, hlt⟩
    have := cKid_anti (x := kidF f a) (y := kidF f a) o o
    omega
  · rintro a b ⟨o1, o2, h1⟩ ⟨_, _, h2⟩
    have := cKid_anti (x := kidF f a) (y := kidF f b) o1 o2
    omega
inductive Flat (f : Fn) : List IdK → List IdK → Prop
  | nil : Flat f [] []
  | cons {x : IdK} {K rest out : List IdK} : IsKids f x K → Flat f (K ++ rest) out → Flat f (x :: rest) (x :: out)
theorem Flat.unique {f : Fn} {a o o' : List IdK} (h : Flat f a o) (h' : Flat f a o') : o = o' := by
  induction h generalizing o' with
  | nil => cases h'; rfl
  | cons hk _ ih =>
    cases h' with
    | cons hk' h2 =>
      rw [hk'.unique hk] at h2
      rw [ih h2]
theorem Flat.app {f : Fn} {a b oa ob : List IdK} (h : Flat f a oa) (h' : Flat f b ob) : Flat f (a ++ b) (oa ++ ob) := by
  induction h with
  | nil => exact h'
  | cons hk _ ih =>
    rw [List.append_assoc] at ih
    exact .cons hk ih
theorem Flat.split {f : Fn} {c o : List IdK} (h : Flat f c o) : ∀ a b, c = a ++ b → ∃ oa ob, Flat f a oa ∧ Flat f b ob ∧ o = oa ++ ob := by
  induction h with
  | nil =>
    intro a b e
    obtain ⟨rfl, rfl⟩ := List.append_eq_nil_iff.1 e.symm
    exact ⟨[], [], .nil, .nil, rfl⟩
  | @cons x K rest out hk h ih =>
    intro a b e
    cases a with
    | nil =>
      simp at e
      subst e
      exact ⟨[], _, .nil, .cons hk h, rfl⟩
    | cons y a =>
      simp at e
      obtain ⟨rfl, rfl⟩ := e
      obtain ⟨oa, ob, h1, h2, rfl⟩ := ih (K ++ a) b (by simp)
      exact ⟨x :: oa, ob, .cons hk h1, h2, rfl⟩
def Above (f : Fn) (y x : IdK) : Prop := y = x ∨ ∃ l p, Climb f y l p ∧ x ∈ l
theorem Und.climb {f : Fn} {x y : IdK} (h : Und f x y) (hx : x ≠ zId) {l : List IdK} {p : Bool} (hc : Climb f x l p) : Climb f y (x :: l) p := by
  obtain ⟨h1, h2, _⟩ := h.nd
  have := Climb.up (f := f) (k := y) (l := l) (p := p) h1 (by rw [h2]; exact hx) (by rw [h2]; exact hc)
  rwa [h2] at this
theorem Climb.suffix {f : Fn} {y : IdK} {l : List IdK} {p : Bool} (h : Climb f y l p) : ∀ x ∈ l, ∃ a b, l = a ++ x :: b ∧ Climb f x b p := by
  induction h with
  | top _ => intro x hx; cases hx
  | @up k l p h1 h2 h3 ih =>
    intro x hx
    rcases List.mem_cons.1 hx with rfl | hx
    · exact ⟨[], l, rfl, h3⟩
    · obtain ⟨a, b, rfl, hb⟩ := ih x hx
      exact ⟨_ :: a, b, rfl, hb⟩
theorem Climb.self {f : Fn} {y : IdK} {l : List IdK} {p : Bool} (h : Climb f y l p) : y ∉ l := by
  intro hm
  obtain ⟨l2, h2, h3⟩ := h.tail y hm
  obtain ⟨rfl, _⟩ := h.same h2
  omega
theorem Und.ne {f : Fn} (hf : Forest f) {k x : IdK} (h : Und f k x) : x ≠ zId := by
  rintro rfl
  obtain ⟨n, h1, _⟩ := h
  rw [hf.zero] at h1
  cases h1
theorem Above.kid {f : Fn} (hf : Forest f) {x k y : IdK} (hk : Und f x k) (hx : x ≠ zId) (h : Above f y k) : Above f y x := by
  obtain ⟨lx, px, hcx⟩ := hf.ends x
  have hck := hk.climb hx hcx
  rcases h with rfl | ⟨l, p, hc, hm⟩
  · exact Or.inr ⟨_, _, hck, by simp⟩
  · obtain ⟨a, b, rfl, hb⟩ := hc.suffix k hm
    obtain ⟨rfl, _⟩ := hb.same hck
    exact Or.inr ⟨_, _, hc, by simp⟩
theorem Flat.from {f : Fn} (hf : Forest f) {a out : List IdK} (h : Flat f a out) (ha : ∀ x ∈ a, x ≠ zId) : ∀ y ∈ out, ∃ x ∈ a, Above f y x := by
  induction h with
  | nil => intro y hy; cases hy
  | @cons x K rest out hk h ih =>
    intro y hy
    rcases List.mem_cons.1 hy with rfl | hy
    · exact ⟨y, by simp, Or.inl rfl⟩
    · obtain ⟨z, hz, hab⟩ := ih (fun q hq => by
        rcases List.mem_append.1 hq with hq | hq
        · exact ((hk.mem q).1 hq).ne hf
        · exact ha q (List.mem_cons_of_mem _ hq)) y hy
      rcases List.mem_append.1 hz with hz | hz
      · exact ⟨x, by simp, hab.kid hf ((hk.mem z).1 hz) (ha x (by simp))⟩
      · exact ⟨z, List.mem_cons_of_mem _ hz, hab⟩
def Apart (f : Fn) (a : List IdK) : Prop := a.Pairwise fun x y => ∀ z, Above f z x → ¬ Above f z y
theorem sib_apart {f : Fn} (hf : Forest f) {x k1 k2 : IdK} (h1 : Und f x k1) (h2 : Und f x k2) (hne : k1 ≠ k2) : ∀ z, Above f z k1 → ¬ Above f z k2 := by
  obtain ⟨l1, p1, c1⟩ := hf.ends k1
  obtain ⟨l2, p2, c2⟩ := hf.ends k2
  have len : l1.length = l2.length ∧ ∀ y ∈ l1, y ∈ l2 := by
    by_cases hx : x = zId
    · obtain ⟨q1, q2, _⟩ := h1.nd
      obtain ⟨r1, r2, _⟩ := h2.nd
      obtain ⟨rfl, _⟩ := c1.same (Climb.top (Or.inr (q2.trans hx)))
      obtain ⟨rfl, _⟩ := c2.same (Climb.top (Or.inr (r2.trans hx)))
      exact ⟨rfl, fun _ h => h⟩
    · obtain ⟨lx, px, hcx⟩ := hf.ends x
      obtain ⟨rfl, _⟩ := c1.same (h1.climb hx hcx)
      obtain ⟨rfl, _⟩ := c2.same (h2.climb hx hcx)
      exact ⟨rfl, fun _ h => h⟩
  have no12 : k1 ∉ l2 := fun hm => by
    obtain ⟨l3, h3, h4⟩ := c2.tail k1 hm
    obtain ⟨rfl, _⟩ := c1.same h3
    omega
  have no21 : k2 ∉ l1 := fun hm => by
    obtain ⟨l3, h3, h4⟩ := c1.tail k2 hm
    obtain ⟨rfl, _⟩ := c2.same h3
    omega
  intro z z1 z2
  rcases z1 with rfl | ⟨l, p, hc, hm⟩
  · rcases z2 with e | ⟨l', p', hc', hm'⟩
    · exact hne e
    · obtain ⟨rfl, _⟩ := hc'.same c1
      exact no21 hm'
  · rcases z2 with rfl | ⟨l', p', hc', hm'⟩
    · obtain ⟨rfl, _⟩ := hc.same c2
      exact no12 hm
    · obtain ⟨rfl, rfl⟩ := hc.same hc'
      obtain ⟨a, b, e1, hb⟩ := hc.suffix k1 hm
      obtain ⟨a', b', e2, hb'⟩ := hc.suffix k2 hm'
      obtain ⟨rfl, _⟩ := hb.same c1
      obtain ⟨rfl, _⟩ := hb'.same c2
      rw [e1] at e2
      have hl := congrArg List.length e2
      simp only [List.length_append, List.length_cons] at hl
      have e3 := (List.append_inj e2 (by omega)).2
      exact hne (List.cons.inj e3).1
theorem kids_apart {f : Fn} (hf : Forest f) {x : IdK} {K : List IdK} (h : IsKids f x K) : Apart f K :=
  (List.Pairwise.and h.nodup h.srt).imp_of_mem fun {a b} ha hb hq => sib_apart hf ((h.mem a).1 ha) ((h.mem b).1 hb) hq.1
theorem Flat.nodup {f : Fn} (hf : Forest f) {a out : List IdK} (h : Flat f a out) (ha : ∀ x ∈ a, x ≠ zId) (hp : Apart f a) : out.Nodup := by
  induction h with
  | nil => exact List.nodup_nil
  | @cons x K rest out hk h ih =>
    have hx := ha x (by simp)
    have q := List.pairwise_cons.1 hp
    have ha' : ∀ q ∈ K ++ rest, q ≠ zId := fun q hq => by
      rcases List.mem_append.1 hq with hq | hq
      · exact ((hk.mem q).1 hq).ne hf
      · exact ha q (List.mem_cons_of_mem _ hq)
    refine List.nodup_cons.2 ⟨fun hm => ?_, ih ha' (List.pairwise_append.2 ⟨kids_apart hf hk, q.2, fun k hk' r hr z hz => q.1 r hr z (hz.kid hf ((hk.mem k).1 hk') hx)⟩)⟩
    obtain ⟨z, hz, hab⟩ := h.from hf ha' x hm
    rcases List.mem_append.1 hz with hz | hz
    · obtain ⟨lx, px, hcx⟩ := hf.ends x
      have hck := ((hk.mem z).1 hz).climb hx hcx
      rcases hab with rfl | ⟨l, p, hc, hm⟩
      · exact hck.self (by simp)
      · obtain ⟨rfl, _⟩ := hc.same hcx
        exact hck.self (List.mem_cons_of_mem _ hm)
    · exact q.1 z hz x (Or.inl rfl) hab
theorem Flat.sub {f : Fn} {a out : List IdK} (h : Flat f a out) : a.Sublist out := by
  induction h with
  | nil => exact List.Sublist.slnil
  | @cons x K rest out hk h ih => exact List.Sublist.cons_cons _ ((List.sublist_append_right K rest).trans ih)
theorem Flat.closed {f : Fn} {a out : List IdK} (h : Flat f a out) : ∀ x ∈ out, ∀ y, Und f x y → y ∈ out := by
  induction h with
  | nil => intro x hx; cases hx
  | @cons x K rest out hk h ih =>
    intro z hz y hy
    rcases List.mem_cons.1 hz with rfl | hz
    · exact List.mem_cons_of_mem _ (h.sub.subset (List.mem_append_left _ ((hk.mem y).2 hy)))
    · exact List.mem_cons_of_mem _ (ih z hz y hy)
theorem Climb.und {f : Fn} {y : IdK} {x : IdK} {l : List IdK} {p : Bool} (h : Climb f y (x :: l) p) : Und f x y := by
  cases h with
  | up h1 h2 h3 =>
    unfold nd at *
    cases e : f y with
    | none => rw [e] at h2; exact absurd rfl h2
    | some n => rw [e] at h1; exact ⟨n, e, h1, rfl⟩
theorem Flat.all {f : Fn} {a out : List IdK} (h : Flat f a out) {x : IdK} (hx : x ∈ out) : ∀ {y : IdK} {l : List IdK} {p : Bool}, Climb f y l p → x ∈ l → y ∈ out := by
  intro y l p hc hm
  induction hc with
  | top _ => cases hm
  | @up k l p h1 h2 h3 ih =>
    have hu := (Climb.up h1 h2 h3).und
    rcases List.mem_cons.1 hm with e | hm
    · exact h.closed _ (by rw [← e]; exact hx) _ hu
    · exact h.closed _ (ih hm) _ hu
structure Dom (f : Fn) (D : List IdK) : Prop where
  mem : ∀ x, x ∈ D ↔ (f x).isSome = true
  nd : D.Nodup
  ok : ∀ x ∈ D, x.ok
theorem nodup_le {α : Type} [DecidableEq α] : ∀ {a b : List α}, a.Nodup → (∀ x ∈ a, x ∈ b) → a.length ≤ b.length
  | [], b, _, _ => Nat.zero_le _
  | x :: a, b, h, hs => by
    have q := List.nodup_cons.1 h
    have hx := hs x (by simp)
    have := nodup_le (a := a) (b := b.erase x) q.2 (fun y hy => (List.mem_erase_of_ne (fun e : y = x => q.1 (e ▸ hy))).2 (hs y (List.mem_cons_of_mem _ hy)))
    rw [List.length_erase_of_mem hx] at this
    have hp := List.length_pos_of_mem hx
    rw [List.length_cons]
    omega
theorem kids_exist {f : Fn} {D : List IdK} (hD : Dom f D) (k : IdK) : ∃ K, IsKids f k K := by
  classical
  obtain ⟨M, hM⟩ : ∃ M, M = D.filter (fun x => decide (Und f k x)) := ⟨_, rfl⟩
  have hmem : ∀ x, x ∈ M ↔ Und f k x := fun x => by
    rw [hM, List.mem_filter, hD.mem]
    constructor
    · intro h; simpa using h.2
    · intro h; exact ⟨h.nd.2.2, by simpa using h⟩
  have hokM : ∀ x ∈ M, x.ok := fun x hx => hD.ok x (by rw [hM] at hx; exact (List.mem_filter.1 hx).1)
  have hndM : M.Nodup := by rw [hM]; exact hD.nd.filter _
  let le : IdK → IdK → Bool := fun x y => decide (cfK (kidF f x) (kidF f y) ≤ 0)
  have hp := List.mergeSort_perm M le
  have hs : (M.mergeSort le).Pairwise (fun a b => le a b = true) := List.pairwise_mergeSort (le := le) (fun a b c h1 h2 => by
    simp only [le, decide_eq_true_eq] at *
    exact to_cfK.le _ _ _ h1 h2) (fun a b => by
    have := to_cfK.anti (kidF f a) (kidF f b)
    simp only [le, Bool.or_eq_true, decide_eq_true_eq]
    omega) M
  refine ⟨M.mergeSort le, fun x => (hp.mem_iff).trans (hmem x), ?_, fun x hx => hokM x (hp.mem_iff.1 hx)⟩
  have hnd : (M.mergeSort le).Nodup := hp.nodup_iff.2 hndM
  refine (List.Pairwise.and hnd hs).imp_of_mem fun {a b} ha hb hq => ?_
  have o1 := hokM a (hp.mem_iff.1 ha)
  have o2 := hokM b (hp.mem_iff.1 hb)
  have h1 : cfK (kidF f a) (kidF f b) ≤ 0 := by simpa [le] using hq.2
  unfold cfK at h1
  rw [nrmK_id (x := kidF f a) o1, nrmK_id (x := kidF f b) o2] at h1
  have h0 : cKid (kidF f a) (kidF f b) ≠ 0 := fun e => hq.1 (cKid_zero (x := kidF f a) (y := kidF f b) o1 o2 e)
  omega
theorem flat_exist {f : Fn} (hf : Forest f) {D : List IdK} (hD : Dom f D) : ∀ (m : Nat) (x : IdK), (f x).isSome = true → ∀ l p, Climb f x l p → D.length ≤ l.length + m → ∃ out, Flat f [x] out
  | 0, x, hx, l, p, hc, hm => by
    have := nodup_le (a := x :: l) (b := D) (List.nodup_cons.2 ⟨hc.self, hc.nodup⟩) (fun y hy => by
      rw [hD.mem]
      rcases List.mem_cons.1 hy with rfl | hy
      · exact hx
      · exact hc.there hf y hy)
    simp at this
    omega
  | m + 1, x, hx, l, p, hc, hm => by
    obtain ⟨K, hK⟩ := kids_exist hD x
    have hx0 : x ≠ zId := by rintro rfl; rw [hf.zero] at hx; cases hx
    have : ∀ A : List IdK, (∀ y ∈ A, y ∈ K) → ∃ out, Flat f A out := by
      intro A
      induction A with
      | nil => exact fun _ => ⟨[], .nil⟩
      | cons y A ih =>
        intro hA
        have hu := (hK.mem y).1 (hA y (by simp))
        obtain ⟨o1, h1⟩ := flat_exist hf hD m y hu.nd.2.2 (x :: l) p (hu.climb hx0 hc) (by simp; omega)
        obtain ⟨o2, h2⟩ := ih (fun z hz => hA z (List.mem_cons_of_mem _ hz))
        exact ⟨_, h1.app h2⟩
    obtain ⟨o, ho⟩ := this K (fun _ h => h)
    exact ⟨x :: o, .cons hK (by rw [List.append_nil]; exact ho)⟩
def IsWalk (f : Fn) (W : List IdK) : Prop := ∃ K, IsKids f zId K ∧ Flat f K W
theorem IsWalk.unique {f : Fn} {W W' : List IdK} (h : IsWalk f W) (h' : IsWalk f W') : W = W' := by
  obtain ⟨K, hK, hF⟩ := h
  obtain ⟨K', hK', hF'⟩ := h'
  rw [hK'.unique hK] at hF'
  exact hF.unique hF'
theorem walk_exist {f : Fn} (hf : Forest f) {D : List IdK} (hD : Dom f D) : ∃ W, IsWalk f W := by
  obtain ⟨K, hK⟩ := kids_exist hD zId
  have : ∀ A : List IdK, (∀ y ∈ A, y ∈ K) → ∃ out, Flat f A out := by
    intro A
    induction A with
    | nil => exact fun _ => ⟨[], .nil⟩
    | cons y A ih =>
      intro hA
      have hu := (hK.mem y).1 (hA y (by simp))
      obtain ⟨l, p, hc⟩ := hf.ends y
      obtain ⟨o1, h1⟩ := flat_exist hf hD D.length y hu.nd.2.2 l p hc (by omega)
      obtain ⟨o2, h2⟩ := ih (fun z hz => hA z (List.mem_cons_of_mem _ hz))
      exact ⟨_, h1.app h2⟩
  obtain ⟨o, ho⟩ := this K (fun _ h => h)
  exact ⟨o, K, hK, ho⟩
theorem IsWalk.nodup {f : Fn} (hf : Forest f) {W : List IdK} (h : IsWalk f W) : W.Nodup := by
  obtain ⟨K, hK, hF⟩ := h
  exact hF.nodup hf (fun x hx => ((hK.mem x).1 hx).ne hf) (kids_apart hf hK)
theorem Flat.there {f : Fn} {a out : List IdK} (h : Flat f a out) (ha : ∀ x ∈ a, (f x).isSome = true) : ∀ x ∈ out, (f x).isSome = true := by
  induction h with
  | nil => intro x hx; cases hx
  | @cons x K rest out hk h ih =>
    intro y hy
    rcases List.mem_cons.1 hy with rfl | hy
    · exact ha y (by simp)
    · exact ih (fun z hz => by
        rcases List.mem_append.1 hz with hz | hz
        · exact ((hk.mem z).1 hz).nd.2.2
        · exact ha z (List.mem_cons_of_mem _ hz)) y hy
theorem IsWalk.there {f : Fn} {W : List IdK} (h : IsWalk f W) : ∀ x ∈ W, (f x).isSome = true := by
  obtain ⟨K, hK, hF⟩ := h
  exact hF.there (fun x hx => ((hK.mem x).1 hx).nd.2.2)
theorem IsWalk.le {f : Fn} (hf : Forest f) {D : List IdK} (hD : Dom f D) {W : List IdK} (h : IsWalk f W) : W.length ≤ D.length :=
  nodup_le (h.nodup hf) (fun x hx => (hD.mem x).2 (h.there x hx))
theorem IsKids.le {f : Fn} {D : List IdK} (hD : Dom f D) {k : IdK} {K : List IdK} (h : IsKids f k K) : K.length ≤ D.length :=
  nodup_le h.nodup (fun x hx => (hD.mem x).2 ((h.mem x).1 hx).nd.2.2)
end Go.Proofs.Ytoofljkgdjjllaa
namespace Go.Proofs.Ytoofljkgdjjllaa
open Go.RowKit Go.Shelf
set_option linter.unusedVariables false
set_option linter.unusedSimpArgs false
noncomputable def nrmI (x : IdK) : IdK := by
  classical
  exact if x.ok then x else zId
theorem nrmI_ok (x : IdK) : (nrmI x).ok := by
  unfold nrmI
  split
  · assumption
  · exact zId_ok
theorem nrmI_id {x : IdK} (h : x.ok) : nrmI x = x := by
  unfold nrmI
  rw [if_pos h]
theorem encI_len (x : IdK) : (nrmI x).c.length = 33 := IdK.len (nrmI_ok x)
section
variable [Inhabited IdK]
theorem holdsI_own {w : World} {g : Nat} {cur : Array Value} {L : List IdK} (ok : ∀ x ∈ L, x.ok) (hg : w.heap[g]? = some (.cells cur 37 (0, 0))) (ht : cur.toList.take (L.length * 33) = flatI L) : Go.Sort.HoldsK (fun x => (nrmI x).c) 33 w g 0 L.toArray := fun j hj => by
  rw [Go.Sort.size_flatK] at hj
  simp only [List.size_toArray] at hj
  have hi : j / 33 < L.length := by omega
  have hx : L[j / 33]? = some L[j / 33] := List.getElem?_eq_getElem hi
  have hok := ok _ (List.mem_of_getElem? hx)
  have hlen := IdK.len hok
  have hc : (IdK.c L[j / 33])[j % 33]? = some ((IdK.c L[j / 33])[j % 33]'(by omega)) := List.getElem?_eq_getElem _
  have hf := flatI_get ok hx hc
  rw [show 33 * (j / 33) + j % 33 = j by omega, ← ht, List.getElem?_take, if_pos (by omega)] at hf
  rw [Go.Sort.get_flatK _ _ _ _ (by simpa using hj)]
  have e : L.toArray[j / 33]! = L[j / 33] := by simp [hi]
  rw [Nat.zero_add]
  refine ⟨?_, ?_⟩
  · rw [cell_of_row w g j cur 37 (0, 0) hg, e, nrmI_id hok]
    rw [getElem!_pos (IdK.c L[j / 33]) (j % 33) (by omega)]
    simpa using hf
  · simp [World.frozen?, hg]
theorem own_holdsI {w : World} {g : Nat} {cur : Array Value} {L : List IdK} (ok : ∀ x ∈ L, x.ok) (hg : w.heap[g]? = some (.cells cur 37 (0, 0))) (hn : L.length * 33 ≤ cur.size) (h : Go.Sort.HoldsK (fun x => (nrmI x).c) 33 w g 0 L.toArray) : cur.toList.take (L.length * 33) = flatI L := by
  have hfl := flatI_len ok
  apply List.ext_getElem?
  intro p
  rw [List.getElem?_take]
  split
  · next hp =>
    have hi : p / 33 < L.length := by omega
    have hx : L[p / 33]? = some L[p / 33] := List.getElem?_eq_getElem hi
    have hok := ok _ (List.mem_of_getElem? hx)
    have hlen := IdK.len hok
    have hc : (IdK.c L[p / 33])[p % 33]? = some ((IdK.c L[p / 33])[p % 33]'(by omega)) := List.getElem?_eq_getElem _
    have hf := flatI_get ok hx hc
    rw [show 33 * (p / 33) + p % 33 = p by omega] at hf
    rw [hf]
    have h1 := (h p (by rw [Go.Sort.size_flatK]; simpa using hp)).1
    rw [Go.Sort.get_flatK _ _ _ _ (by simpa using hp), Nat.zero_add, cell_of_row w g p cur 37 (0, 0) hg] at h1
    have e : L.toArray[p / 33]! = L[p / 33] := by simp [hi]
    rw [e, nrmI_id hok, getElem!_pos (IdK.c L[p / 33]) (p % 33) (by omega)] at h1
    simpa using h1
  · next hp => rw [List.getElem?_eq_none (by omega)]
theorem putI_block {w : World} {g n : Nat} (d : Array IdK) {cur : Array Value} (hg : w.heap[g]? = some (.cells cur 37 (0, 0))) : ∃ cur', (Go.Sort.putRowK (fun x => (nrmI x).c) 33 (Go.Sort.ahead w n) g 0 d).heap[g]? = some (.cells cur' 37 (0, 0)) ∧ cur'.size = cur.size := by
  refine ⟨Go.Sort.putCells id 0 (Go.Sort.flatK (fun x => (nrmI x).c) 33 d) cur, ?_, ?_⟩
  · simp only [Go.Sort.putRowK, Go.Sort.putRow, Go.Sort.mapBlock, Go.Sort.ahead]
    rw [Array.getElem?_modify, if_pos rfl, hg]
    rfl
  · simp [Go.Sort.putCells]
theorem putI_tch {w : World} {g n : Nat} (d : Array IdK) : Tch (fun j => some g = some j) w (Go.Sort.putRowK (fun x => (nrmI x).c) 33 (Go.Sort.ahead w n) g 0 d) := by
  refine ⟨rfl, rfl, rfl, by simp [Go.Sort.putRowK, Go.Sort.putRow, Go.Sort.mapBlock, Go.Sort.ahead], fun k hk hn => ?_⟩
  have hne : g ≠ k := fun e => hn (by rw [e])
  simp [Go.Sort.putRowK, Go.Sort.putRow, Go.Sort.mapBlock, Go.Sort.ahead, Array.getElem?_modify, hne]
set_option maxHeartbeats 1000000 in
theorem rev_inh (W : World) (base : Nat) (v : Value) (L : List IdK) (own : OwnI W base v L) (ok : ∀ x ∈ L, x.ok) (hL : L.length ≤ 5600000000000) :
    Calls Try.prog 52 #[v] W fun e w' => e = .returned (.tuple #[]) ∧ OwnI w' base v L.reverse ∧ Tch (fun j => v.ownBlock = some j) W w' := by
  rcases own.2 with ⟨rfl, hn⟩ | ⟨g, cap, cur, rfl, hbg, hg, hnc, hcm, hcs, htake⟩
  · obtain rfl : L = [] := List.eq_nil_of_length_eq_zero hn
    have h := AnyQ.slices_Reverse_empty revLays none 0 W
    refine Calls.mono h ?_
    rintro e w' ⟨he, rfl⟩
    exact ⟨he, own, Tch.refl _ _⟩
  · have hlt := (Array.getElem?_eq_some_iff.1 hg).1
    have hH := holdsI_own ok hg htake
    have h := AnyQ.slices_Reverse revLays 33 Try.isAgg37 Try.sizeOf37 (fun x => (nrmI x).c) encI_len (fun x v hv => IdK.one (nrmI x) v hv) g 0 cap L.toArray W hH (by simp; omega)
    change Calls Try.prog 52 _ _ _ at h
    simp only [List.size_toArray] at h
    refine h.mono ?_
    rintro e w' ⟨he, n, rfl⟩
    have ok' : ∀ x ∈ L.reverse, x.ok := fun x hx => ok x (List.mem_reverse.1 hx)
    have hh := Go.Sort.holdsK_putRowK (fun x => (nrmI x).c) 33 (Go.Sort.ahead W n) g 0 L.toArray L.toArray.reverse (Go.Sort.holdsK_ahead _ _ _ _ _ _ _ hH) (by simp)
    obtain ⟨cur', hg', hs'⟩ := putI_block (n := n) L.toArray.reverse hg
    have hlen : L.reverse.length = L.length := by simp
    refine ⟨he, ⟨?_, Or.inr ⟨g, cap, cur', by rw [hlen], hbg, hg', by rw [hlen]; exact hnc, hcm, hs'.trans hcs, ?_⟩⟩, putI_tch _⟩
    · rw [flatI_len ok', Nat.mul_comm]
    · refine own_holdsI ok' hg' (by rw [hlen, hs', hcs]; exact Nat.mul_le_mul_right _ hnc) (by simpa using hh)
end
theorem rev_any (W : World) (base : Nat) (v : Value) (L : List IdK) (own : OwnI W base v L) (ok : ∀ x ∈ L, x.ok) (hL : L.length ≤ 5600000000000) :
    Calls Try.prog 52 #[v] W fun e w' => e = .returned (.tuple #[]) ∧ OwnI w' base v L.reverse ∧ Tch (fun j => v.ownBlock = some j) W w' := @rev_inh ⟨zId⟩ W base v L own ok hL
end Go.Proofs.Ytoofljkgdjjllaa
namespace Go.Proofs.Ytoofljkgdjjllaa
open Go.RowKit
set_option linter.unusedVariables false
set_option linter.unusedSimpArgs false
theorem take_seg {α : Type} {cur FA y FB x : List α} {N o : Nat} (h : cur.take N = FA ++ y ++ FB) (hN : N = FA.length + y.length + FB.length) (ho : FA.length = o) (hx : x.length = y.length) : (cur.take o ++ x ++ cur.drop (o + x.length)).take N = FA ++ x ++ FB := by
  obtain ⟨R, hR⟩ : ∃ R, cur = FA ++ y ++ FB ++ R := ⟨cur.drop N, by rw [← h, List.take_append_drop]⟩
  subst hR
  have e1 : (FA ++ y ++ FB ++ R).take o = FA := by rw [← ho]; simp [List.append_assoc]
  have e2 : (FA ++ y ++ FB ++ R).drop (o + x.length) = FB ++ R := by
    rw [← ho, hx, ← List.length_append, List.append_assoc (FA ++ y), List.drop_left]
  rw [e1, e2, hN]
  rw [show FA ++ x ++ (FB ++ R) = (FA ++ x ++ FB) ++ R by simp]
  rw [show FA.length + y.length + FB.length = (FA ++ x ++ FB).length by simp [hx]; omega]
  exact List.take_left
theorem setRow_tch (w : World) (g : Nat) (cs : Array Value) : Tch (fun j => some g = some j) w (w.setRow g cs) :=
  ⟨rfl, rfl, rfl, by simp [World.setRow], fun k hk hn => by
    have hne : g ≠ k := fun e => hn (by rw [e])
    simp [World.setRow, Array.getElem?_modify, hne]⟩
theorem OwnI.ge {w : World} {base : Nat} {v : Value} {L : List IdK} (h : OwnI w base v L) : ∀ j, v.ownBlock = some j → base ≤ j ∧ ∃ c, w.heap[j]? = some (.cells c 37 (0, 0)) := by
  intro j hj
  rcases h.2 with ⟨rfl, hn⟩ | ⟨g, cap, cur, rfl, hbg, hg, rest⟩
  · cases hj
  · obtain rfl : g = j := by simpa [Value.ownBlock] using hj
    exact ⟨hbg, _, hg⟩
theorem flatI_cons (x : IdK) (L : List IdK) : flatI (x :: L) = x.c ++ flatI L := rfl
theorem own_set {w : World} {base : Nat} {v : Value} {L : List IdK} (own : OwnI w base v L) (ok : ∀ x ∈ L, x.ok) {i : Nat} (hi : i < L.length) {x : IdK} (hx : x.ok) :
    ∃ g cap, v = .slice (some ⟨g, 0, none⟩) L.length cap ∧ g < w.heap.size ∧ ∃ w', (Instr.storeAt 37 (.pointer (some ⟨g, i * 33, none⟩)) x.v).run Try.prog w = .ok () w' ∧ OwnI w' base v (L.set i x) ∧ Tch (fun j => v.ownBlock = some j) w w' ∧ w'.heap.size = w.heap.size := by
  rcases own.2 with ⟨rfl, hn⟩ | ⟨g, cap, cur, rfl, hbg, hg, hnc, hcm, hcs, htake⟩
  · omega
  · rw [Nat.mul_comm i 33]
    refine ⟨g, cap, rfl, (Array.getElem?_eq_some_iff.1 hg).1, w.setRow g (cur.toList.take (33 * i) ++ x.c ++ cur.toList.drop (33 * i + x.c.length)).toArray, ?_, ?_, setRow_tch w g _, by simp [World.setRow]⟩
    · have hlen := IdK.len hx
      have hb : 33 * i + 33 ≤ cur.size := by rw [hcs]; omega
      have h := run_storeCells_at Try.prog g (33 * i) 37 x.c 0 cur w hg (by rw [hlen]; omega) (fun v hv => x.one v hv)
      rw [Nat.add_zero] at h
      have hs := szId
      cases hq : Try.prog.info? 37 with
      | none => rw [hq] at hs; simp at hs
      | some ii =>
        rw [hq] at hs
        simp at hs
        have hcz : x.c.toArray.size = ii.size := by simp [hlen, hs]
        simp only [Instr.storeAt, Instr.sureAddr, Sem.run_bind, Sem.run_pure, Result.andThen_ok, IdK.v, storeVar, sizeOf, typeInfo, hq, Value.cells]
        simp [typeInfo, hq, hlen, hs, h]
    · have hA : ∃ A y B, L = A ++ y :: B ∧ A.length = i := ⟨L.take i, L[i], L.drop (i + 1), by rw [← List.drop_eq_getElem_cons hi, List.take_append_drop], by simp; omega⟩
      obtain ⟨A, y, B, rfl, hA⟩ := hA
      have okA : ∀ x ∈ A, x.ok := fun x hx => ok x (by simp [hx])
      have okB : ∀ x ∈ B, x.ok := fun x hx => ok x (by simp [hx])
      have oky : y.ok := ok y (by simp)
      have hset : (A ++ y :: B).set i x = A ++ x :: B := by rw [← hA, List.set_append_right _ _ (Nat.le_refl _)]; simp
      rw [hset]
      have hfl : flatI (A ++ x :: B) = flatI A ++ x.c ++ flatI B := by rw [flatI_app, flatI_cons]; simp
      have hfl' : flatI (A ++ y :: B) = flatI A ++ y.c ++ flatI B := by rw [flatI_app, flatI_cons]; simp
      rw [hfl'] at htake
      have hlA := flatI_len okA
      have hlB := flatI_len okB
      have l1 := IdK.len oky
      have l2 := IdK.len hx
      have hlenx : (A ++ x :: B).length = (A ++ y :: B).length := by simp
      refine ⟨?_, Or.inr ⟨g, cap, _, by rw [hlenx], hbg, setRow_heap w g cur _ 37 (0, 0) hg, by rw [hlenx]; exact hnc, hcm, ?_, ?_⟩⟩
      · rw [hfl]; simp only [List.length_append, List.length_cons]; omega
      · rw [← hcs]
        simp only [List.length_append, List.length_cons] at hnc
        have : cur.toList.length = cur.size := by simp
        simp only [List.size_toArray, List.length_append, List.length_take, List.length_drop]
        omega
      · rw [List.toList_toArray, hfl, hlenx]
        refine take_seg htake ?_ (by omega) (by omega)
        simp only [List.length_append, List.length_cons]
        omega
theorem made_get (l : List Value) (k : Nat) (hl : l.length = k) (hk : 0 < k) (N p : Nat) (hp : p < N) : (madeCells l.toArray N).toList[p]? = l[p % k]? := by
  have hm : p % k < l.length := by rw [hl]; exact Nat.mod_lt _ hk
  simp only [madeCells, Array.toList_map, List.getElem?_map, Array.toList_range, List.getElem?_range hp, Option.map_some, List.size_toArray, hl]
  rw [getElem!_pos _ _ (by simpa using hm), List.getElem?_eq_getElem hm]
  simp
theorem make_ids (w : World) (base n : Nat) (hn : n ≤ 7000000000000) (hb : base ≤ w.heap.size) :
    ∃ w', (Instr.makeSlice 41 (.int .i64 (n : Int)) (.int .i64 (n : Int))).run Try.prog w = .ok (.slice (some ⟨w.heap.size, 0, none⟩) n n) w' ∧ OwnI w' base (.slice (some ⟨w.heap.size, 0, none⟩) n n) (List.replicate n zId) ∧ Below w.heap.size w w' ∧ w'.heap.size = w.heap.size + 1 := by
  obtain ⟨i, hi, hz, hs, hby⟩ := info_parts infoI
  have hr := run_make (P := Try.prog) w 41 37 i _ Try.underlying41 hi hz .i64 .i64 (n : Int) (n : Int) (by omega) (by omega) (by rw [hby]; omega) (by omega)
  simp only [Int.toNat_natCast] at hr
  refine ⟨_, hr, ?_, (Below.refl _ _).alloc (Nat.le_refl _) _, by simp⟩
  have okz : ∀ x ∈ List.replicate n zId, x.ok := fun x hx => by rw [List.eq_of_mem_replicate hx]; exact zId_ok
  have hlz := IdK.len zId_ok
  refine ⟨by rw [flatI_len okz, List.length_replicate, Nat.mul_comm], Or.inr ⟨w.heap.size, n, _, by rw [List.length_replicate], hb, heap_alloc_new _ _, by simp, by unfold maxLen; omega, by rw [size_madeCells, hs], ?_⟩⟩
  rw [hs, List.length_replicate]
  apply List.ext_getElem?
  intro p
  rw [List.getElem?_take]
  split
  · next hp =>
    have hx : (List.replicate n zId)[p / 33]? = some zId := by rw [List.getElem?_replicate, if_pos (by omega)]
    have hc : zId.c[p % 33]? = some (zId.c[p % 33]'(by omega)) := List.getElem?_eq_getElem _
    have hf := flatI_get okz hx hc
    rw [show 33 * (p / 33) + p % 33 = p by omega] at hf
    rw [hf]
    rw [← hc]
    exact made_get zId.c 33 hlz (by omega) (n * 33) p hp
  · next hp => rw [List.getElem?_eq_none (by rw [flatI_len okz, List.length_replicate]; omega)]
theorem zeroKid (w : World) : (zeroValue 109).run Try.prog w = .ok zKid.v w := by kernel_rfl
theorem kid_new (w : World) (x : KidV) (hx : x.id.ok) : ∃ w1, (Instr.alloc 109 true (.tuple #[])).run Try.prog w = .ok (.pointer (some ⟨w.heap.size, 0, none⟩)) w1 ∧ (Instr.storeAt 109 (.pointer (some ⟨w.heap.size, 0, none⟩)) x.v).run Try.prog w1 = .ok () (w.alloc (.cells x.c.toArray 109)) := by
  have e1 : (Instr.alloc 109 true (.tuple #[])).run Try.prog w = .ok (.pointer (some ⟨w.heap.size, 0, none⟩)) (w.alloc (.cells zKid.c.toArray 109)) := by
    simp only [Instr.alloc, newVar, newRow, newObj, Sem.run_bind, zeroKid, Result.andThen_ok, KidV.v, Value.cells]
    rfl
  have e2 := run_storeVar_row (P := Try.prog) (w.alloc (.cells zKid.c.toArray 109)) w.heap.size 109 109 zKid.c.toArray x.c.toArray (heap_alloc_new _ _) (by rw [List.size_toArray, KidV.len hx]; exact szKid)
    (by rw [List.size_toArray, List.size_toArray, KidV.len hx, KidV.len (k := zKid) zId_ok]) (by rw [List.all_toArray, List.all_eq_true]; exact x.one)
  rw [World.setRow_alloc_new] at e2
  refine ⟨_, e1, ?_⟩
  simp only [Instr.storeAt, Instr.sureAddr, Sem.run_bind, Sem.run_pure, Result.andThen_ok, KidV.v, e2]
theorem load_kid_at {w : World} {b o : Nat} {x : KidV} (hx : x.id.ok) (h : w.rangeAt b o x.c) : (Instr.loadAt 109 (.pointer (some ⟨b, o, none⟩))).run Try.prog w = .ok x.v w :=
  run_loadAt_mid (P := Try.prog) w b o 109 x.c _ h Try.underlying109 rfl (by rw [KidV.len hx]; exact szKid)
theorem load_id_at {w : World} {b o : Nat} {x : IdK} (hx : x.ok) (h : w.rangeAt b o x.c) : (Instr.loadAt 37 (.pointer (some ⟨b, o, none⟩))).run Try.prog w = .ok x.v w :=
  run_loadAt_mid (P := Try.prog) w b o 37 x.c _ h Try.underlying37 rfl (by rw [IdK.len hx]; exact szId)
theorem rows_le {w : World} {s : Tr} (h : TrAt w s) (hr : RowsOk s.R (shN s.N)) {k : IdK} {b : Nat} {l : List IdK} (hq : M.look s.R k = some (b, l)) : l.length ≤ s.N.length ∧ l.Nodup ∧ (∀ x ∈ l, x.ok) ∧ ∀ x, x ∈ l ↔ Und (lookN s.N) k x := by
  have hmem := M.look_mem hq
  have hm := h.row _ hmem
  have hnd : l.Nodup := by have := hm.2.1; rwa [entU_keys] at this
  have hu : ∀ x, x ∈ l ↔ Und (lookN s.N) k x := fun x => hr.mem _ hmem x
  refine ⟨?_, hnd, fun x hx => ?_, hu⟩
  · have := nodup_le (b := s.N.map (·.1)) hnd (fun x hx => by
      obtain ⟨n, hn, _⟩ := (hu x).1 hx
      exact List.mem_map.2 ⟨_, M.look_mem hn, rfl⟩)
    simpa using this
  · have : x ∈ (entU l).map (·.1) := by rw [entU_keys]; exact hx
    obtain ⟨p, hp, rfl⟩ := List.mem_map.1 this
    exact hm.2.2 p hp
theorem kids_of {f : Fn} {k : IdK} {L : List KidV} {l : List IdK} (hp : L.Perm (l.map fun x => kidF f x)) (hs : SdK L) (hn : l.Nodup) (ok : ∀ x ∈ l, x.ok) (hu : ∀ x, x ∈ l ↔ Und f k x) : IsKids f k (L.map (·.id)) ∧ ∀ x ∈ L, x.id.ok := by
  have hpi : (L.map (·.id)).Perm l := by
    have := hp.map (·.id)
    rw [List.map_map] at this
    have e : ((fun x : KidV => x.id) ∘ fun x => kidF f x) = id := rfl
    rwa [e, List.map_id] at this
  have hk : ∀ x ∈ L, x = kidF f x.id := fun x hx => by
    obtain ⟨y, _, rfl⟩ := List.mem_map.1 (hp.mem_iff.1 hx)
    rfl
  have hok : ∀ x ∈ L, x.id.ok := fun x hx => ok _ (hpi.mem_iff.1 (List.mem_map.2 ⟨x, hx, rfl⟩))
  refine ⟨⟨fun x => (hpi.mem_iff).trans (hu x), ?_, fun x hx => ok x (hpi.mem_iff.1 hx)⟩, hok⟩
  rw [List.pairwise_map]
  have hnd : L.Pairwise (fun a b => a.id ≠ b.id) := by
    have := hpi.nodup_iff.2 hn
    exact List.pairwise_map.1 this
  refine (List.Pairwise.and hnd hs).imp_of_mem fun {a b} ha hb hq => ?_
  rw [← hk a ha, ← hk b hb]
  have h1 := cKid_anti (hok a ha) (hok b hb)
  have h2 : cKid a b ≠ 0 := fun e => hq.1 (cKid_zero (hok a ha) (hok b hb) e)
  have h3 := hq.2
  omega
theorem row_any (s : Tr) (k : IdK) (w : World) (h : TrAt w s) (hr : RowsOk s.R (shN s.N)) (hN : s.N.length ≤ 1300000000000) (hk : k.ok) :
    Calls Try.prog 53 #[.pointer (some ⟨s.t, 0, none⟩), k.v] w fun e w' => ∃ v L, e = .returned v ∧ OwnK w' w.heap.size v L ∧ IsKids (lookN s.N) k (L.map (·.id)) ∧ (∀ x ∈ L, x.id.ok) ∧ L.length ≤ s.N.length ∧ Below w.heap.size w w' := by
  cases hq : M.look s.R k with
  | none =>
    refine (row_none SdK sortK_any s k w h hk hq).mono ?_
    rintro e w' ⟨v, L, rfl, own, rfl, sd, b⟩
    refine ⟨v, [], rfl, own, ⟨fun x => ⟨fun hx => (by cases hx), fun hx => ?_⟩, List.Pairwise.nil, fun x hx => (by cases hx)⟩, fun x hx => (by cases hx), Nat.zero_le _, b⟩
    obtain ⟨q, hm⟩ := hr.all k x hx
    have := M.look_of_mem h.keys hm
    rw [hq] at this
    cases this
  | some q =>
    obtain ⟨b, l⟩ := q
    obtain ⟨h1, h2, h3, h4⟩ := rows_le h hr hq
    refine (row_some SdK sortK_any s k b l w h hk hq (by omega)).mono ?_
    rintro e w' ⟨v, L, rfl, own, hp, sd, b⟩
    obtain ⟨h5, h6⟩ := kids_of (f := lookN s.N) (k := k) hp sd h2 h3 h4
    have hl : L.length ≤ s.N.length := by have := hp.length_eq; rw [List.length_map] at this; omega
    exact ⟨v, L, rfl, own, h5, h6, hl, b⟩
theorem kids_any (s : Tr) (k : IdK) (w : World) (h : TrAt w s) (hr : RowsOk s.R (shN s.N)) (hN : s.N.length ≤ 1300000000000) (hk : k.ok) :
    Calls Try.prog 24 #[.pointer (some ⟨s.t, 0, none⟩), k.v] w fun e w' => ∃ v L, e = .returned v ∧ OwnI w' w.heap.size v L ∧ IsKids (lookN s.N) k L ∧ Below w.heap.size w w' := by
  have lt : s.t < w.heap.size := h.lt _ (by simp [Tr.bl])
  have HT := hidMk (fun (W : World) (bb : Below w.heap.size w W) => h.below bb)
  unfold IdK.v
  go_enter Try.func24, Try.ntmps24
  go_upto_region 1 with fail
  obtain ⟨hx, bx, zx⟩ := box_id w k
  have ZX := hidMk zx
  clear zx
  generalize w.alloc (.cells k.c.toArray 37) = W at *
  have hrow := hidMk (row_any s k W (HT.out _ bx) hr hN hk)
  have HL := hidMk (load_id hk hx)
  clear hx
  go_upto_region 4 with (first
    | (refine wpList_val rfl (exec_load (t := 37) (u := .pointer (some ⟨w.heap.size, 0, none⟩)) rfl rfl HL.out) ?_)
    | (go_at_call 53; refine hrow.out.mono ?_; rintro e w1 ⟨v, L, rfl, own, hik, hok, hle, b1⟩)
    | fail)
  have hzw := ZX.out
  obtain ⟨w2, hmk, own2, b2, z2⟩ := make_ids w1 w.heap.size L.length (by omega) (by have := b1.size; have := bx.size; omega)
  have HMK := hidMk hmk
  have hvb : ∀ j, v.ownBlock = some j → j < w1.heap.size ∧ W.heap.size ≤ j := fun j hj => by
    obtain ⟨h1, c, hc⟩ := own.ge j hj
    exact ⟨(Array.getElem?_eq_some_iff.1 hc).1, h1⟩
  have ownk2 := own.keep (w' := w2) (fun j hj => b2.block j (hvb j hj).1)
  have bel2 : Below w.heap.size w w2 := (bx.trans (b1.mono (by omega))).trans (b2.mono (by have := b1.size; omega))
  have HVB := hidMk hvb
  have HLE := hidMk hle
  have HZ2 := hidMk z2
  have hin : ∃ a c, v = .slice a L.length c := by obtain ⟨a, c, e, _⟩ := own.open hok; exact ⟨a, c, e⟩
  obtain ⟨a, c, rfl⟩ := hin
  clear hmk hvb hle hzw z2 hrow HL own
  obtain ⟨g, hg⟩ : ∃ g, w1.heap.size = g := ⟨_, rfl⟩
  rw [hg] at own2 HMK b2 HVB HZ2
  obtain ⟨n, hn⟩ : ∃ n, L.length = n := ⟨_, rfl⟩
  have HNn := hidMk hn
  have own2' : OwnI w2 w.heap.size (.slice (some ⟨g, 0, none⟩) n n) (List.replicate n zId) := by rw [← hn]; exact own2
  have HMK' : Hid ((Instr.makeSlice 41 (.int .i64 (n : Int)) (.int .i64 (n : Int))).run Try.prog w1 = .ok (.slice (some ⟨g, 0, none⟩) n n) w2) := by rw [← hn]; exact HMK
  rw [hn] at HVB ownk2 ⊢
  clear own2 HMK hn
  have HG := hidMk hg
  clear hg
  go_upto_region 5 with (first
    | (refine wpList_run rfl (exec_makeSlice rfl rfl rfl HMK'.out) ?_)
    | fail)
  go_wp2
  go_loopw [19] (fun v19 wr => ∃ i : Nat, v19 = .int .i64 (i : Int) ∧ i ≤ n ∧ OwnI wr w.heap.size (.slice (some ⟨g, 0, none⟩) n n) ((L.map (·.id)).take i ++ List.replicate (n - i) zId) ∧ OwnK wr W.heap.size (.slice a n c) L ∧ Below w.heap.size w wr) (fun v19 wr => (n : Int).toNat - (match v19 with | .int _ i => i.toNat | _ => 0))
  case atStart =>
    exact ⟨0, rfl, Nat.zero_le _, own2', ownk2, bel2⟩
  case round =>
    clear own2' ownk2 bel2
    obtain ⟨i, rfl, hin, own, ownk, bel⟩ := hrel
    have hLn := HNn.out
    by_cases hi : i < n
    · have hxi : L[i]? = some L[i] := List.getElem?_eq_getElem (by omega)
      generalize L[i] = x at hxi
      have hxo : x.id.ok := hok x (List.mem_of_getElem? hxi)
      obtain ⟨a2, c2, e2, hka, _⟩ := ownk.open hok
      obtain ⟨b, off, rfl, lb, hrng⟩ : ∃ b off, a = some ⟨b, off, none⟩ ∧ b < wr.heap.size ∧ ∀ i h, L[i]? = some h → wr.rangeAt b (off + 34 * i) (KidV.c h) := by
        simp only [Value.slice.injEq] at e2
        rcases hka with rfl | ⟨b, off, e, h1, h2⟩
        · simp at hxi
        · exact ⟨b, off, e2.1.trans e, h1, h2⟩
      clear e2 hka
      have hr := hrng i x hxi
      rw [Nat.mul_comm] at hr
      have HL := hidMk (load_kid_at hxo hr)
      obtain ⟨wa, ea, es⟩ := kid_new wr x hxo
      obtain ⟨wk, hwk⟩ : ∃ wk, wr.alloc (.cells x.c.toArray 109) = wk := ⟨_, rfl⟩
      have bk : Below wr.heap.size wr wk := by rw [← hwk]; exact (Below.refl _ _).alloc (Nat.le_refl _) _
      have hxk : KidAt wk wr.heap.size x := by rw [← hwk]; exact heap_alloc_new _ _
      rw [hwk] at es
      have hlm : i < ((L.map (·.id)).take i ++ List.replicate (n - i) zId).length := by simp; omega
      have hmk : ∀ y ∈ (L.map (·.id)).take i ++ List.replicate (n - i) zId, y.ok := fun y hy => by
        rcases List.mem_append.1 hy with hy | hy
        · exact hik.ok y (List.mem_of_mem_take hy)
        · rw [List.eq_of_mem_replicate hy]; exact zId_ok
      obtain ⟨g2, cap2, e2, lg, ws, est, owns, ts, zs⟩ := own_set (own.below bk) hmk hlm hxo
      simp only [Value.slice.injEq, Option.some.injEq, Addr.mk.injEq] at e2
      obtain ⟨⟨rfl, q1⟩, q2⟩ := e2
      clear q1 q2
      have hset : ((L.map (·.id)).take i ++ List.replicate (n - i) zId).set i x.id = (L.map (·.id)).take (i + 1) ++ List.replicate (n - (i + 1)) zId := by
        have hl : ((L.map (·.id)).take i).length = i := by simp; omega
        rw [List.set_append_right _ _ (by omega), hl, Nat.sub_self, show n - i = (n - (i + 1)) + 1 by omega, List.replicate_succ, List.set_cons_zero, List.take_add_one, List.getElem?_map, hxi]
        simp
      rw [hset] at owns
      have ownks := (ownk.below bk).keep (w' := ws) (fun j hj => ts.block j (Nat.lt_of_lt_of_le (by obtain ⟨_, c, hc⟩ := ownk.ge j hj; exact (Array.getElem?_eq_some_iff.1 hc).1) bk.size) (fun e => by
        have h1 := (HVB.out j hj).1
        have h2 : g = j := by simpa [Value.ownBlock] using e
        omega))
      have bels : Below w.heap.size w ws := (bel.trans (bk.mono bel.size)).trans (ts.below (by have := bel.size; have := bk.size; omega) (fun j hj => (owns.ge j hj).1))
      have HOW := hidMk owns
      have HOK := hidMk ownks
      have HES := hidMk es
      have HEA := hidMk ea
      have HST := hidMk est
      have HLK := hidMk (load_kid hxo hxk)
      clear owns ownks hset hmk hlm hxk bk hwk ea es est lg zs ts hr hrng lb hLn own ownk bel hxi
      go_wp2_with (first
        | (refine wpList_val rfl (exec_load (t := 109) (u := .pointer (some ⟨b, off + i * 34, none⟩)) rfl rfl HL.out) ?_)
        | (refine wpList_run rfl (exec_alloc (t := 109) rfl HEA.out) ?_)
        | (refine wpList_skip rfl rfl (exec_store (t := 109) rfl rfl rfl HES.out) ?_)
        | (refine wpList_val rfl (exec_load (t := 37) (u := .pointer (some ⟨wr.heap.size, 0, none⟩)) rfl rfl HLK.out) ?_)
        | (refine wpList_skip rfl rfl (exec_store (t := 37) rfl rfl rfl HST.out) ?_)
        | fail)
      have hwr : wrap64 ((i : Int) + 1) = ((i + 1 : Nat) : Int) := by
        have := HLE.out
        have := HNn.out
        unfold wrap64
        omega
      rw [hwr]
      refine ⟨⟨i + 1, rfl, hi, HOW.out, HOK.out, bels⟩, ?_⟩
      show (n : Int).toNat - ((i + 1 : Nat) : Int).toNat < (n : Int).toNat - (i : Int).toNat
      omega
    · obtain rfl : i = n := by omega
      have hfin : (L.map (·.id)).take i ++ List.replicate (i - i) zId = L.map (·.id) := by
        rw [Nat.sub_self, List.replicate_zero, List.append_nil]
        exact List.take_of_length_le (by simp; omega)
      rw [hfin] at own
      have HOW := hidMk own
      clear hfin own ownk hLn hin hi
      go_wp2
      go_ret
      exact ⟨_, _, rfl, HOW.out, hik, bel⟩
theorem tr_dom {w : World} {s : Tr} (h : TrAt w s) : Dom (lookN s.N) (s.N.map (·.1)) := by
  have hn : (s.N.map (·.1)).Nodup := by have := h.nodes.2.1; rwa [entN, M.onV_keys] at this
  refine ⟨fun x => ⟨fun hx => ?_, fun hx => ?_⟩, hn, fun x hx => ?_⟩
  · obtain ⟨p, hp, rfl⟩ := List.mem_map.1 hx
    unfold lookN
    rw [M.look_of_mem hn hp]; rfl
  · obtain ⟨v, hv⟩ := Option.isSome_iff_exists.1 hx
    exact List.mem_map.2 ⟨_, M.look_mem hv, rfl⟩
  · have h1 : x ∈ (entN s.N).map (·.1) := by rw [entN, M.onV_keys]; exact hx
    obtain ⟨p, hp, rfl⟩ := List.mem_map.1 h1
    exact h.nodes.2.2 p hp
theorem own_init {w : World} {base g n cap : Nat} {L : List IdK} {x : IdK} (own : OwnI w base (.slice (some ⟨g, 0, none⟩) (n + 1) cap) (L ++ [x])) (ok : ∀ y ∈ L ++ [x], y.ok) : OwnI w base (.slice (some ⟨g, 0, none⟩) n cap) L ∧ w.rangeAt g (n * 33) x.c ∧ L.length = n ∧ n + 1 ≤ cap := by
  have okL : ∀ y ∈ L, y.ok := fun y hy => ok y (by simp [hy])
  have hx : x.ok := ok x (by simp)
  have lx := IdK.len hx
  have hlL := flatI_len okL
  rcases own.2 with ⟨e, _⟩ | ⟨g', cap', cur, e, hbg, hg, hnc, hcm, hcs, htake⟩
  · cases e
  · simp only [Value.slice.injEq, Option.some.injEq, Addr.mk.injEq, List.length_append, List.length_cons, List.length_nil] at e
    obtain ⟨⟨rfl, _⟩, hn, rfl⟩ := e
    have hn' : L.length = n := by omega
    simp only [List.length_append, List.length_cons, List.length_nil] at hnc htake
    rw [flatI_app, show flatI [x] = x.c by simp [flatI]] at htake
    refine ⟨⟨by rw [hlL, Nat.mul_comm], Or.inr ⟨g, cap, cur, by rw [hn'], hbg, hg, by omega, hcm, hcs, ?_⟩⟩, fun j v hv => ?_, hn', by omega⟩
    · have := congrArg (List.take (L.length * 33)) htake
      rw [List.take_take, Nat.min_eq_left (by omega), ← Nat.mul_comm 33, ← hlL, List.take_left] at this
      rw [← Nat.mul_comm 33, ← hlL]
      exact this
    · have hj : j < 33 := by have := (List.getElem?_eq_some_iff.1 hv).1; omega
      rw [cell_of_row w g _ cur 37 (0, 0) hg]
      have h1 : (flatI L ++ x.c)[n * 33 + j]? = some v := by
        rw [List.getElem?_append_right (by omega), show n * 33 + j - (flatI L).length = j by omega]
        exact hv
      rw [← htake, List.getElem?_take, if_pos (by omega)] at h1
      simpa using h1
theorem walk_any (s : Tr) (w : World) (h : TrAt w s) (hr : RowsOk s.R (shN s.N)) (hf : Forest (lookN s.N)) (hN : s.N.length ≤ 1300000000000) :
    Calls Try.prog 23 #[.pointer (some ⟨s.t, 0, none⟩)] w fun e w' => ∃ v L, e = .returned v ∧ OwnI w' w.heap.size v L ∧ IsWalk (lookN s.N) L ∧ Below w.heap.size w w' := by
  have lt : s.t < w.heap.size := h.lt _ (by simp [Tr.bl])
  have hD := tr_dom h
  obtain ⟨Wk, hWk⟩ := walk_exist hf hD
  have hWl := hWk.le hf hD
  rw [List.length_map] at hWl
  have HT := hidMk (fun (W : World) (bb : Below w.heap.size w W) => h.below bb)
  have HK := hidMk (fun (k : IdK) (hk : k.ok) (W : World) (bb : Below w.heap.size w W) => kids_any s k W (HT.out W bb) hr hN hk)
  have HKo := hidMk (fun (W : World) (base : Nat) (v : Value) (L : List IdK) (own : OwnI W base v L) (ok : ∀ x ∈ L, x.ok) (hL : L.length ≤ 5600000000000) => rev_any W base v L own ok hL)
  have hWk' := hWk
  obtain ⟨K0, hK0, hF0⟩ := hWk
  have hle0 : K0.length ≤ s.N.length := by have := hF0.sub.length_le; omega
  have HD := hidMk hD
  go_enter Try.func23, Try.ntmps23
  go_upto_region 5 with (first
    | (refine wpList_val rfl (exec_build0 rfl (build_id _)) ?_)
    | (go_at_call 24; refine (HK.out zId zId_ok _ (Below.refl _ _)).mono ?_; rintro e w1 ⟨v, L, rfl, own, hik, b1⟩; obtain rfl := hik.unique hK0; have HO := hidMk own; clear own)
    | fail)
  go_wp2_with (first
    | (go_at_call 52; refine (HKo.out _ _ _ _ HO.out hK0.ok (by omega)).mono ?_; rintro e w2 ⟨rfl, own2, t2⟩)
    | fail)
  have bel2 : Below w.heap.size w w2 := b1.trans (t2.below b1.size (fun j hj => (HO.out.ge j hj).1))
  go_loopw [3, 4] (fun v3 v4 wr => ∃ Lo A out, OwnI wr w.heap.size v3 Lo ∧ OwnI wr w.heap.size v4 A.reverse ∧ Flat (lookN s.N) A out ∧ Lo ++ out = Wk ∧ (∀ j, v3.ownBlock = some j → v4.ownBlock ≠ some j) ∧ (∀ x ∈ A, x.ok) ∧ (∀ x ∈ Lo, x.ok) ∧ Below w.heap.size w wr) (fun v3 v4 wr => Wk.length - (match v3 with | .slice _ n _ => n | _ => 0))
  case atStart =>
    exact ⟨[], L, Wk, ⟨rfl, Or.inl ⟨rfl, rfl⟩⟩, own2, hF0, rfl, fun j hj => (by cases hj), hK0.ok, fun x hx => (by cases hx), bel2⟩
  case round =>
    clear own2 bel2 t2 HO b1 hF0 hle0 hK0
    obtain ⟨Lo, A, out, own3, own4, hF, hW, hap, hokA, hokL, bel⟩ := hrel
    have HOL := hidMk hokL
    have HU3 : Hid (∃ a c, u3 = .slice a Lo.length c) := by obtain ⟨a, c, e, _⟩ := own3.open hokL; exact ⟨a, c, e⟩
    clear hokL
    cases hF with
    | nil =>
      obtain ⟨a4, c4, rfl, _⟩ := own4.open (by simp)
      have HO3 := hidMk own3
      have HWk := hidMk hWk'
      rw [List.append_nil] at hW
      subst hW
      clear own3 own4 hap hokA hWk'
      simp only [List.reverse_nil, List.length_nil]
      go_wp2
      go_ret
      exact ⟨_, _, rfl, HO3.out, HWk.out, bel⟩
    | @cons x K rest out1 hK hF1 =>
      have hxo : x.ok := hokA x (by simp)
      have hokR : ∀ y ∈ rest, y.ok := fun y hy => hokA y (List.mem_cons_of_mem _ hy)
      have hWl2 := congrArg List.length hW
      rw [List.length_append, List.length_cons] at hWl2
      have hsub1 := hF1.sub.length_le
      rw [List.length_append] at hsub1
      obtain ⟨m, hm⟩ : ∃ m, rest.length = m := ⟨_, rfl⟩
      obtain ⟨n4, hn4⟩ : ∃ n4, m + 1 = n4 := ⟨_, rfl⟩
      rw [List.reverse_cons] at own4
      obtain ⟨g4, cap4, rfl⟩ : ∃ g4 cap4, u4 = .slice (some ⟨g4, 0, none⟩) n4 cap4 := by
        rcases own4.2 with ⟨_, e⟩ | ⟨g', cap', cur, e, _⟩
        · simp at e
        · exact ⟨g', cap', by rw [e]; simp; omega⟩
      rw [← hn4] at own4
      obtain ⟨own4', hrng, hlr, hcap⟩ := own_init own4 (fun y hy => by
        rcases List.mem_append.1 hy with hy | hy
        · exact hokR y (List.mem_reverse.1 hy)
        · simp at hy; subst hy; exact hxo)
      have lg4 : g4 < wr.heap.size := by obtain ⟨_, c, hc⟩ := own4'.ge g4 rfl; exact (Array.getElem?_eq_some_iff.1 hc).1
      have hl3 : ∀ j, u3.ownBlock = some j → j < wr.heap.size := fun j hj => by obtain ⟨_, c, hc⟩ := own3.ge j hj; exact (Array.getElem?_eq_some_iff.1 hc).1
      have hsub : wrap64 ((n4 : Int) - 1) = (m : Int) := by unfold wrap64; omega
      have hmn : m < n4 := by omega
      have hmc : m ≤ cap4 := by omega
      have hn0 : 0 < n4 := by omega
      have HL1 := hidMk (load_id_at hxo hrng)
      obtain ⟨wz, ea, es⟩ := id_new wr x hxo
      obtain ⟨wa, hwa⟩ : ∃ wa, wr.alloc (.cells x.c.toArray 37) = wa := ⟨_, rfl⟩
      have ba : Below wr.heap.size wr wa := by rw [← hwa]; exact (Below.refl _ _).alloc (Nat.le_refl _) _
      have za : wa.heap.size = wr.heap.size + 1 := by rw [← hwa]; simp
      have hxa : IdAt wa wr.heap.size x := by rw [← hwa]; exact heap_alloc_new _ _
      rw [hwa] at es
      have HL2 := hidMk (load_id hxo hxa)
      have ebs := run_bsI x hxo wa
      obtain ⟨wb, hwb⟩ : ∃ wb, wa.alloc (.cells x.c.toArray 37) = wb := ⟨_, rfl⟩
      have bb : Below wa.heap.size wa wb := by rw [← hwb]; exact (Below.refl _ _).alloc (Nat.le_refl _) _
      have zb : wb.heap.size = wa.heap.size + 1 := by rw [← hwb]; simp
      have hlit := ids_lit wa x 37
      rw [hwb] at ebs hlit
      have own3b := (own3.below ba).below bb
      have own4b := (own4'.below ba).below bb
      have belb : Below w.heap.size w wb := (bel.trans (ba.mono bel.size)).trans (bb.mono (by have := bel.size; omega))
      have hlo : Lo.length + 1 ≤ 5600000000000 := by omega
      obtain ⟨v3', wc, eap, own3c, gc, ob3⟩ := run_appI wb w.heap.size u3 Lo (some ⟨wa.heap.size, 0, none⟩) [x] 1 own3b hlit (by simpa using hxo) hlo belb.size
      have belc : Below w.heap.size w wc := belb.trans ⟨gc.os, gc.tape, gc.output, gc.size, fun j hj => gc.block j (Nat.lt_of_lt_of_le hj belb.size) (fun e => by have := (own3b.ge j e.symm).1; omega)⟩
      have own4c := own4b.keep (w' := wc) (fun j hj => gc.block j (by obtain ⟨_, c, hc⟩ := own4b.ge j hj; exact (Array.getElem?_eq_some_iff.1 hc).1) (fun e => hap j e.symm hj))
      have hxc : IdAt wc wr.heap.size x := (gc.block _ (by omega) (fun e => by have := hl3 _ e.symm; omega)).trans ((bb.block _ (by omega)).trans hxa)
      have HL3 := hidMk (load_id hxo hxc)
      have hsc := gc.size
      have HK2 := hidMk (HK.out x hxo wc belc)
      have HBS : Hid ((Instr.buildSlice 41 1 #[(0, x.v)]).run Try.prog wa = .ok (.slice (some ⟨wa.heap.size, 0, none⟩) 1 1) wb) := ebs
      have HAP : Hid ((Builtin.append_ #[41, 41] 41 #[u3, .slice (some ⟨wa.heap.size, 0, none⟩) 1 1]).run Try.prog wb = .ok v3' wc) := eap
      have HEA := hidMk ea
      have HES := hidMk es
      have HW := hidMk hW
      have HLR := hidMk (And.intro hlr hm)
      have hK0 := hK
      have HWL2 := hidMk hWl2
      have HZ := hidMk (And.intro za zb)
      have HN4 := hidMk hn4
      have hkle : K.length ≤ 5600000000000 := by omega
      have hkle2 : rest.length + K.length ≤ 5600000000000 := by omega
      clear hW hlr hm hWl2 za zb hn4 ebs eap ea es hwa hwb hlit own3b own4b own3 own4 own4' hrng hxa hxc hsub1 hWk' hWl hN
      go_upto_region 7 with fail
      go_upto_region 8 with (first
        | (refine wpList_val rfl (exec_load (t := 37) (u := .pointer (some ⟨g4, m * 33, none⟩)) rfl rfl HL1.out) ?_)
        | (refine wpList_run rfl (exec_alloc (t := 37) rfl HEA.out) ?_)
        | (refine wpList_skip rfl rfl (exec_store (t := 37) rfl rfl rfl HES.out) ?_)
        | fail)
      simp only [Act.put, List.setIfInBounds_toArray, List.set_cons_zero, List.set_cons_succ]
      clear HL1 HEA HES
      go_upto_region 9 with fail
      go_upto_region 10 with (first
        | (refine wpList_val rfl (exec_load (t := 37) (u := .pointer (some ⟨wr.heap.size, 0, none⟩)) rfl rfl HL2.out) ?_)
        | (refine wpList_run rfl (exec_buildSlice (t := 41) (n := 1) (xv := x.v) (v := .slice (some ⟨wa.heap.size, 0, none⟩) 1 1) rfl rfl HBS.out) ?_)
        | (refine wpList_run rfl (exec_append (xv := u3) (yv := .slice (some ⟨wa.heap.size, 0, none⟩) 1 1) (v := v3') rfl rfl rfl HAP.out) ?_)
        | fail)
      clear HL2 HBS HAP
      go_upto_region 12 with (first
        | (refine wpList_val rfl (exec_load (t := 37) (u := .pointer (some ⟨wr.heap.size, 0, none⟩)) rfl rfl HL3.out) ?_)
        | (go_at_call 24; refine HK2.out.mono ?_; rintro e wd ⟨v6, K', rfl, own6, hik, bd⟩; obtain rfl := hik.unique hK0; have HO6 := hidMk own6; clear own6)
        | (go_at_call 52; refine (HKo.out _ _ _ _ HO6.out hK0.ok hkle).mono ?_; rintro e we ⟨rfl, own6, te⟩)
        | fail)
      clear HL3 HK2
      have hokR' : ∀ y ∈ K'.reverse, y.ok := fun y hy => hK0.ok y (List.mem_reverse.1 hy)
      obtain ⟨a6, c6, rfl, hia6, hc6⟩ := own6.open hokR'
      have dte : ∀ j, j < wc.heap.size → we.heap[j]? = wc.heap[j]? := fun j hj => (te.block j (Nat.lt_of_lt_of_le hj bd.size) (fun e => by have := (HO6.out.ge j e).1; omega)).trans (bd.block j hj)
      have bele : Below w.heap.size w we := (belc.trans (bd.mono belc.size)).trans (te.below (Nat.le_trans belc.size bd.size) (fun j hj => by have := (HO6.out.ge j hj).1; have := belc.size; omega))
      have own4e := own4c.keep (w' := we) (fun j hj => dte j (by obtain ⟨_, c, hc⟩ := own4c.ge j hj; exact (Array.getElem?_eq_some_iff.1 hc).1))
      have own3e := own3c.keep (w' := we) (fun j hj => dte j (by obtain ⟨_, c, hc⟩ := own3c.ge j hj; exact (Array.getElem?_eq_some_iff.1 hc).1))
      obtain ⟨v4', wf, eap2, own4f, gf, ob4⟩ := run_appI we w.heap.size (.slice (some ⟨g4, 0, none⟩) m cap4) rest.reverse a6 K'.reverse c6 own4e hia6 hokR' (by simpa using hkle2) bele.size
      have hl3' : ∀ j, v3'.ownBlock = some j → j < wc.heap.size ∧ j ≠ g4 := fun j hj => by
        refine ⟨by obtain ⟨_, c, hc⟩ := own3c.ge j hj; exact (Array.getElem?_eq_some_iff.1 hc).1, ?_⟩
        rcases ob3 with e | e
        · rw [e] at hj
          intro e2
          exact hap j hj (by rw [e2]; rfl)
        · rw [e] at hj
          have h1 : wb.heap.size = j := by simpa using hj
          have := HZ.out.1
          have := HZ.out.2
          omega
      have own3f := own3e.keep (w' := wf) (fun j hj => gf.block j (by obtain ⟨_, c, hc⟩ := own3e.ge j hj; exact (Array.getElem?_eq_some_iff.1 hc).1) (fun e => (hl3' j hj).2 (by simpa [Value.ownBlock] using e)))
      have belf : Below w.heap.size w wf := bele.trans ⟨gf.os, gf.tape, gf.output, gf.size, fun j hj => gf.block j (Nat.lt_of_lt_of_le hj bele.size) (fun e => by have := (own4e.ge j e.symm).1; omega)⟩
      have hap' : ∀ j, v3'.ownBlock = some j → v4'.ownBlock ≠ some j := fun j hj e2 => by
        rcases ob4 with e | e
        · rw [e] at e2
          exact (hl3' j hj).2 (by simpa [Value.ownBlock] using e2.symm)
        · rw [e] at e2
          have h1 : we.heap.size = j := by simpa using e2
          have := (hl3' j hj).1
          have := bd.size
          have := te.size
          omega
      have hrev : rest.reverse ++ K'.reverse = (K' ++ rest).reverse := by simp
      rw [hrev] at own4f
      have hok' : ∀ y ∈ K' ++ rest, y.ok := fun y hy => by
        rcases List.mem_append.1 hy with hy | hy
        · exact hK0.ok y hy
        · exact hokR y hy
      have hlen6 : K'.reverse.length = K'.length := by simp
      obtain ⟨n6, hn6⟩ : ∃ n6, K'.reverse.length = n6 := ⟨_, rfl⟩
      rw [hn6] at eap2 ⊢
      have HAP2 := hidMk eap2
      have HF := hidMk own3f
      have HG := hidMk own4f
      clear own3f own4f own3e own4e own4c own3c eap2 hrev hlen6 hn6 hia6 own6 HO6 gf ob4 ob3 dte te bd gc
      go_wp2_with (first
        | (refine wpList_run rfl (exec_append (xv := .slice (some ⟨g4, 0, none⟩) m cap4) (yv := .slice a6 n6 c6) (v := v4') rfl rfl rfl HAP2.out) ?_)
        | fail)
      refine ⟨⟨Lo ++ [x], K' ++ rest, out1, HF.out, HG.out, hF1, by rw [List.append_assoc]; exact HW.out, hap', hok', fun y hy => (by
        rcases List.mem_append.1 hy with hy | hy
        · exact HOL.out y hy
        · simp at hy; subst hy; exact hxo), belf⟩, ?_⟩
      obtain ⟨a3, c3, e3, _⟩ := HF.out.open (fun y hy => by
        rcases List.mem_append.1 hy with hy | hy
        · exact HOL.out y hy
        · simp at hy; subst hy; exact hxo)
      obtain ⟨a9, c9, e9⟩ := HU3.out
      rw [e3, e9]
      have := HWL2.out
      simp only [List.length_append, List.length_cons, List.length_nil]
      omega
theorem same_ids (a b : Option Addr) (ca cb : Nat) (A B : List IdK) (w : World) (hA : IdsAt w a A) (hB : IdsAt w b B) (oA : ∀ x ∈ A, x.ok) (oB : ∀ x ∈ B, x.ok) (lA : A.length ≤ 7000000000000) :
    Calls Try.prog 28 #[.slice a A.length ca, .slice b B.length cb] w fun e w' => e = .returned (.bool (decide (A = B))) ∧ Below w.heap.size w w' := by
  obtain ⟨n, hn⟩ : ∃ n, A.length = n := ⟨_, rfl⟩
  obtain ⟨m, hm⟩ : ∃ m, B.length = m := ⟨_, rfl⟩
  have HN := hidMk hn
  have HM := hidMk hm
  have HLA := hidMk lA
  rw [hn, hm]
  by_cases hnm : n = m
  · subst hnm
    clear hn hm lA
    go_enter Try.func28, Try.ntmps28
    go_wp2
    go_loopw [5] (fun v5 wr => ∃ i : Nat, v5 = .int .i64 (i : Int) ∧ i ≤ n ∧ A.take i = B.take i ∧ Below w.heap.size w wr) (fun v5 wr => n - (match v5 with | .int _ i => i.toNat | _ => 0))
    case atStart => exact ⟨0, rfl, Nat.zero_le _, rfl, Below.refl _ _⟩
    case round =>
      obtain ⟨i, rfl, hin, htk, bel⟩ := hrel
      have hLn := HN.out
      have hLm := HM.out
      by_cases hi : i < n
      · have hxi : A[i]? = some A[i] := List.getElem?_eq_getElem (by omega)
        have hyi : B[i]? = some B[i] := List.getElem?_eq_getElem (by omega)
        generalize A[i] = x at hxi
        generalize B[i] = y at hyi
        have hxo : x.ok := oA x (List.mem_of_getElem? hxi)
        have hyo : y.ok := oB y (List.mem_of_getElem? hyi)
        obtain ⟨b1, o1, rfl, lb1, r1⟩ : ∃ b1 o1, a = some ⟨b1, o1, none⟩ ∧ b1 < w.heap.size ∧ w.rangeAt b1 (o1 + i * 33) x.c := by
          rcases hA with rfl | ⟨b1, o1, e, h1, h2⟩
          · simp at hxi
          · exact ⟨b1, o1, e, h1, by rw [Nat.mul_comm]; exact h2 i x hxi⟩
        obtain ⟨b2, o2, rfl, lb2, r2⟩ : ∃ b1 o1, b = some ⟨b1, o1, none⟩ ∧ b1 < w.heap.size ∧ w.rangeAt b1 (o1 + i * 33) y.c := by
          rcases hB with rfl | ⟨b1, o1, e, h1, h2⟩
          · simp at hyi
          · exact ⟨b1, o1, e, h1, by rw [Nat.mul_comm]; exact h2 i y hyi⟩
        have bel' : Below w.heap.size w wr.drew := bel.drew
        have L1 := hidMk (load_id_at hxo (rangeAt_keep r1 (bel'.block _ lb1)))
        have L2 := hidMk (load_id_at hyo (rangeAt_keep r2 (bel'.block _ lb2)))
        have HT := hidMk htk
        have HX := hidMk (And.intro hxi hyi)
        clear htk hxi hyi r1 r2 hLn hLm
        go_upto_region 6 with fail
        refine wp_region_still_tail 8 (by kernel_rfl) (by kernel_rfl) ?_
        simp only [List.take_succ_cons, List.take_zero, List.drop_succ_cons, List.drop_zero]
        change wpStill _ _ wr.drew (fun a' => wpList _ _ _ _ a' wr.drew) _ _
        generalize wr.drew = wd at *
        iterate 3 still_step
        refine still_val rfl (exec_load (t := 37) (u := .pointer (some ⟨b1, o1 + i * 33, none⟩)) rfl rfl L1.out) ?_
        simp only [Act.put, List.setIfInBounds_toArray, List.set_cons_zero, List.set_cons_succ]
        iterate 3 still_step
        refine still_val rfl (exec_load (t := 37) (u := .pointer (some ⟨b2, o2 + i * 33, none⟩)) rfl rfl L2.out) ?_
        simp only [Act.put, List.setIfInBounds_toArray, List.set_cons_zero, List.set_cons_succ]
        refine wpStill_nil ?_
        refine wpList_val rfl (exec_binOp (xv := x.v) (yv := y.v) rfl rfl rfl (guard_id _ _ x y _ _) (neq_id x y hxo hyo _)) ?_
        simp only [Act.put, List.setIfInBounds_toArray, List.set_cons_zero, List.set_cons_succ]
        by_cases hxy : x = y
        · subst hxy
          simp only [decide_true, Bool.not_true]
          go_wp2
          have hwr : wrap64 ((i : Int) + 1) = ((i + 1 : Nat) : Int) := by
            have := HLA.out
            have := HN.out
            unfold wrap64
            omega
          rw [hwr]
          refine ⟨⟨i + 1, rfl, hi, ?_, bel'⟩, ?_⟩
          · rw [List.take_add_one, List.take_add_one, HX.out.1, HX.out.2, HT.out]
          · show n - ((i + 1 : Nat) : Int).toNat < n - (i : Int).toNat
            omega
        · have hd : decide (x = y) = false := by simpa using hxy
          rw [hd]
          simp only [Bool.not_false]
          go_wp2
          go_ret
          refine ⟨?_, bel'⟩
          have : A ≠ B := fun e => by
            rw [e] at HX
            exact hxy (Option.some.inj (HX.out.1.symm.trans HX.out.2))
          simp [this]
      · obtain rfl : i = n := by omega
        have hAB : A = B := by rw [List.take_of_length_le (by omega), List.take_of_length_le (by omega)] at htk; exact htk
        have HAB := hidMk hAB
        clear hAB htk hLn hLm hin
        go_wp2
        go_ret
        exact ⟨by simp [HAB.out], bel⟩
  · have hne : A ≠ B := fun e => hnm (by rw [← hn, ← hm, e])
    have hnm2 : ((n : Int) == (m : Int)) = false := by simp; omega
    have hnm3 : ((n : Int) != (m : Int)) = true := by simp; omega
    have HNE := hidMk hne
    clear hn hm hne hnm
    go_enter Try.func28, Try.ntmps28
    go_wp2
    go_ret
    exact ⟨by simp [HNE.out], Below.refl _ _⟩
structure Own (B : Nat) (w : World) (s : Tr) (H : List Rec) (f : Fn) : Prop where
  tree : TreeAt w s H
  eq : lookN s.N = f
  ft : Forest f
  ge : ∀ j ∈ s.bl, B ≤ j
  hge : ∀ r ∈ H, ∀ b ∈ r.bl, B ≤ b
theorem Own.dom {B : Nat} {w : World} {s : Tr} {H : List Rec} {f : Fn} (h : Own B w s H f) : Dom f (s.N.map (·.1)) := by have := tr_dom h.tree.tr; rwa [h.eq] at this
theorem dom_len {f : Fn} {D D' : List IdK} (h : Dom f D) (h' : Dom f D') : D.length = D'.length :=
  Nat.le_antisymm (nodup_le h.nd (fun x hx => (h'.mem x).2 ((h.mem x).1 hx))) (nodup_le h'.nd (fun x hx => (h.mem x).2 ((h'.mem x).1 hx)))
theorem Own.len {B : Nat} {w : World} {s : Tr} {H : List Rec} {f : Fn} (h : Own B w s H f) {D : List IdK} (hD : Dom f D) : s.N.length = D.length := by
  have := dom_len h.dom hD
  rwa [List.length_map] at this
theorem Own.below {B : Nat} {w w' : World} {s : Tr} {H : List Rec} {f : Fn} (h : Own B w s H f) (b : Below w.heap.size w w') : Own B w' s H f := ⟨h.tree.below b, h.eq, h.ft, h.ge, h.hge⟩
theorem Own.keep {B : Nat} {w w' : World} {s : Tr} {H : List Rec} {f : Fn} {O : Nat → Prop} (h : Own B w s H f) (t : Tch O w w') (h1 : ∀ j ∈ s.bl, ¬ O j) (h2 : ∀ r ∈ H, ∀ b ∈ r.bl, ¬ O b) : Own B w' s H f := ⟨h.tree.keep t h1 h2, h.eq, h.ft, h.ge, h.hge⟩
theorem look_put {N : List (IdK × NodeV)} (hn : (N.map (·.1)).Nodup) (k : IdK) (n : NodeV) : lookN (M.put N k n) = upd (lookN N) k (some n) := by
  funext x
  rw [lookN, M.put_look _ _ _ hn]
  rfl
theorem Dom.put {f : Fn} {D : List IdK} (h : Dom f D) {k : IdK} (hk : k.ok) (n : NodeV) : ∃ D', Dom (upd f k (some n)) D' ∧ D'.length ≤ D.length + 1 := by
  by_cases e : k ∈ D
  · refine ⟨D, ⟨fun x => ?_, h.nd, h.ok⟩, by omega⟩
    by_cases e2 : x = k
    · subst e2; rw [upd_same]; simp [e]
    · rw [upd_ne e2]; exact h.mem x
  · refine ⟨k :: D, ⟨fun x => ?_, List.nodup_cons.2 ⟨e, h.nd⟩, fun x hx => ?_⟩, by simp⟩
    · by_cases e2 : x = k
      · subst e2; rw [upd_same]; simp
      · rw [upd_ne e2, List.mem_cons, ← h.mem x]; simp [e2]
    · rcases List.mem_cons.1 hx with rfl | hx
      · exact hk
      · exact h.ok x hx
structure Done (B : Nat) (w : World) (s : Tr) (H : List Rec) (f : Fn) (k : IdK) (n : NodeV) (e : Ending) (w' : World) (s' : Tr) (r : Rec) : Prop where
  ret : e = .returned (.tuple #[.pointer (some ⟨r.bk, 0, none⟩), .int .i64 0])
  own : Own B w' s' (r :: H) (upd f k (some n))
  t : s'.t = s.t
  rk : r.k = k
  ro : r.o = f k
  tch : Tch (fun j => j ∈ s.bl) w w'
  bl : ∀ j ∈ s'.bl, j ∈ s.bl ∨ w.heap.size ≤ j
  rb : ∀ b ∈ r.bl, w.heap.size ≤ b
def StepP (B : Nat) (w : World) (s : Tr) (H : List Rec) (f : Fn) (k : IdK) (n : NodeV) (c : Int) (e : Ending) (w' : World) : Prop :=
  (c ≠ 0 ∧ e = .returned (.tuple #[.pointer none, .int .i64 c]) ∧ Below w.heap.size w w') ∨ (c = 0 ∧ ∃ s' r, Done B w s H f k n e w' s' r)
theorem did_done {B : Nat} {w : World} {s : Tr} {H : List Rec} {f : Fn} (h : Own B w s H f) (hB : B ≤ w.heap.size) {k : IdK} {n : NodeV} (hF : Forest (upd f k (some n))) {e : Ending} {w' : World} (hd : Did s H k n w e w') : StepP B w s H f k n 0 e w' := by
  obtain ⟨s', r, h1, h2, h3, h4, h5, h6, h7, h8, h9⟩ := hd
  refine Or.inr ⟨rfl, s', r, h1, ⟨h2, ?_, hF, fun j hj => ?_, fun q hq b hb => ?_⟩, h4, h5, by rw [h6, h.eq], h7, h8, h9⟩
  · rw [h3, look_put h.tree.nodes, h.eq]
  · rcases h8 j hj with q | q
    · exact h.ge j q
    · omega
  · rcases List.mem_cons.1 hq with rfl | hq
    · have := h9 b hb; omega
    · exact h.hge q hq b hb
def Bears (f : Fn) (u : IdK) : Bool := decide (u = zId) || (f u).isSome
theorem bears_iff {f : Fn} {u : IdK} : Bears f u = true ↔ u = zId ∨ (f u).isSome = true := by simp [Bears]
def gC (f : Fn) (k u : IdK) : Int := if k = zId then 2 else if (f k).isSome = true then 5 else if Bears f u = true then 0 else 4
noncomputable def mC (f : Fn) (k u : IdK) : Int := by
  classical
  exact if (f k).isSome = false then 4 else if Bears f u = false then 4 else if Above f u k then 100 else 0
def pC (f : Fn) (k : IdK) : Int := if (f k).isSome = false then 4 else if (nd f k).pr = true then 4 else 0
theorem grow_all {B : Nat} {w : World} {s : Tr} {H : List Rec} {f : Fn} (h : Own B w s H f) (hB : B ≤ w.heap.size) (k u : IdK) (key : ByteArray) (hk : k.ok) (hu : u.ok) :
    Calls Try.prog 17 #[.pointer (some ⟨s.t, 0, none⟩), k.v, u.v, .string key] w (StepP B w s H f k ⟨u, key, false⟩ (gC f k u)) := by
  have hE := h.eq
  unfold gC
  by_cases hz : k = zId
  · rw [if_pos hz]
    exact (grow_zero s H k u key w h.tree hk hu hz).mono fun e w' hn => Or.inl ⟨by decide, hn.1, hn.2⟩
  · rw [if_neg hz]
    by_cases hh : (f k).isSome = true
    · rw [if_pos hh]
      exact (grow_known s H k u key w h.tree hk hu hz (by rw [hE]; exact hh)).mono fun e w' hn => Or.inl ⟨by decide, hn.1, hn.2⟩
    · rw [if_neg hh]
      have hn : f k = none := by cases q : f k with
        | none => rfl
        | some n => rw [q] at hh; exact absurd rfl hh
      by_cases hb : Bears f u = true
      · rw [if_pos hb]
        exact (grow_ok s H k u key w h.tree hk hu hz (by rw [hE]; exact hn) (by rw [hE]; exact hb)).mono fun e w' hd => did_done h hB (h.ft.grow hz hn (bears_iff.1 hb)) hd
      · rw [if_neg hb]
        exact (grow_none s H k u key w h.tree hk hu hz (by rw [hE, hn]; rfl) (by rw [hE]; exact (by simpa using hb : Bears f u = false))).mono fun e w' hn => Or.inl ⟨by decide, hn.1, hn.2⟩
theorem move_all {B : Nat} {w : World} {s : Tr} {H : List Rec} {f : Fn} (h : Own B w s H f) (hB : B ≤ w.heap.size) (k u : IdK) (key : ByteArray) (hk : k.ok) (hu : u.ok) :
    Calls Try.prog 19 #[.pointer (some ⟨s.t, 0, none⟩), k.v, u.v, .string key] w (StepP B w s H f k ⟨u, key, false⟩ (mC f k u)) := by
  have hE := h.eq
  unfold mC
  by_cases hh : (f k).isSome = false
  · rw [if_pos hh]
    exact (move_out s H k u key w h.tree hk hu (by rw [hE]; exact hh)).mono fun e w' hn => Or.inl ⟨by decide, hn.1, hn.2⟩
  · rw [if_neg hh]
    have hs : (f k).isSome = true := by cases q : (f k).isSome with
      | true => rfl
      | false => exact absurd q hh
    have hz : k ≠ zId := by rintro rfl; rw [h.ft.zero] at hs; cases hs
    by_cases hb : Bears f u = false
    · rw [if_pos hb]
      exact (move_none s H k u key w h.tree hk hu (by rw [hE]; exact hs) (by rw [hE]; exact hb)).mono fun e w' hn => Or.inl ⟨by decide, hn.1, hn.2⟩
    · rw [if_neg hb]
      have hb' : Bears f u = true := by simpa using hb
      obtain ⟨l, p, hc⟩ := h.ft.ends u
      by_cases ha : Above f u k
      · rw [if_pos ha]
        refine (move_ring s H k u key w h.tree hk hu (by rw [hE]; exact h.ft) hz (by rw [hE]; exact hs) (by rw [hE]; exact hb') l p (by rw [hE]; exact hc) ?_).mono fun e w' hn => Or.inl ⟨by decide, hn.1, hn.2⟩
        rw [decide_eq_true_eq]
        rcases ha with e | ⟨l', p', hc', hm⟩
        · exact Or.inl e
        · obtain ⟨rfl, _⟩ := hc.same hc'; exact Or.inr hm
      · rw [if_neg ha]
        have hn1 : u ≠ k := fun e => ha (Or.inl e)
        have hn2 : k ∉ l := fun hm => ha (Or.inr ⟨l, p, hc, hm⟩)
        refine (move_ok s H k u key w h.tree hk hu (by rw [hE]; exact h.ft) hz (by rw [hE]; exact hs) (by rw [hE]; exact hb') l p (by rw [hE]; exact hc) ?_).mono fun e w' hd => did_done h hB (h.ft.put hz (bears_iff.1 hb') (Or.inr ⟨l, p, hc, hn1, hn2⟩)) hd
        rw [decide_eq_false_iff_not]
        rintro (e | e)
        · exact hn1 e
        · exact hn2 e
theorem prune_all {B : Nat} {w : World} {s : Tr} {H : List Rec} {f : Fn} (h : Own B w s H f) (hB : B ≤ w.heap.size) (k : IdK) (hk : k.ok) :
    Calls Try.prog 20 #[.pointer (some ⟨s.t, 0, none⟩), k.v] w (StepP B w s H f k ⟨zId, ⟨#[]⟩, true⟩ (pC f k)) := by
  have hE := h.eq
  unfold pC
  by_cases hh : (f k).isSome = false
  · rw [if_pos hh]
    exact (prune_out s H k w h.tree hk (by rw [hE]; exact hh)).mono fun e w' hn => Or.inl ⟨by decide, hn.1, hn.2⟩
  · rw [if_neg hh]
    have hs : (f k).isSome = true := by cases q : (f k).isSome with
      | true => rfl
      | false => exact absurd q hh
    have hz : k ≠ zId := by rintro rfl; rw [h.ft.zero] at hs; cases hs
    by_cases hp : (nd f k).pr = true
    · rw [if_pos hp]
      exact (prune_done s H k w h.tree hk (by rw [hE]; exact hs) (by rw [hE]; exact hp)).mono fun e w' hn => Or.inl ⟨by decide, hn.1, hn.2⟩
    · rw [if_neg hp]
      exact (prune_ok s H k w h.tree hk (by rw [hE]; exact hs) (by rw [hE]; simpa using hp)).mono fun e w' hd => did_done h hB (h.ft.prune hz) hd
def UndoneP (B : Nat) (w : World) (s : Tr) (H : List Rec) (f : Fn) (e : Ending) (w' : World) : Prop :=
  e = .returned (.int .i64 0) ∧ ∃ s', Own B w' s' H f ∧ s'.t = s.t ∧ Tch (fun j => j ∈ s.bl) w w' ∧ ∀ j ∈ s'.bl, j ∈ s.bl ∨ w.heap.size ≤ j
theorem undo_all {B : Nat} {w : World} {s : Tr} {r : Rec} {H : List Rec} {f : Fn} (h : Own B w s (r :: H) f) (hB : B ≤ w.heap.size) (hF : Forest (upd f r.k r.o)) :
    Calls Try.prog 18 #[.pointer (some ⟨s.t, 0, none⟩), .pointer (some ⟨r.bk, 0, none⟩)] w (UndoneP B w s H (upd f r.k r.o)) := by
  have hE := h.eq
  have fin : ∀ e w', UndoP s H (upd f r.k r.o) w e w' → UndoneP B w s H (upd f r.k r.o) e w' := fun e w' ⟨h1, s', h2, h3, h4, h5, h6⟩ =>
    ⟨h1, s', ⟨h2, funext h4, hF, fun j hj => by rcases h6 j hj with q | q; · exact h.ge j q
                                                · omega, fun q hq b hb => h.hge q (List.mem_cons_of_mem _ hq) b hb⟩, h3, h5, h6⟩
  cases ho : r.o with
  | none =>
    have := undo_grow s r H w h.tree ho
    rw [hE] at this
    rw [ho] at fin
    exact this.mono fun e w' hu => fin e w' hu
  | some n =>
    have := undo_put s r H w h.tree n ho
    rw [hE] at this
    rw [ho] at fin
    exact this.mono fun e w' hu => fin e w' hu
theorem new_own (w : World) : Calls Try.prog 10 #[] w fun e w' => ∃ s : Tr, e = .returned (.pointer (some ⟨s.t, 0, none⟩)) ∧ Own w.heap.size w' s [] (fun _ => none) ∧ Below w.heap.size w w' := by
  refine (new_any w).mono ?_
  rintro e w' ⟨s, rfl, h1, h2, h3, h4, h5, h6⟩
  refine ⟨s, rfl, ⟨⟨h1, ?_, h4, trivial, by simp, by simp⟩, by funext x; rw [h2]; rfl, forest_none, h6, by simp⟩, h5⟩
  rw [h2, h3]
  refine ⟨by simp, by simp, ?_⟩
  rintro u k ⟨n, hn, _⟩
  cases hn
theorem walk_own {B : Nat} {w : World} {s : Tr} {H : List Rec} {f : Fn} (h : Own B w s H f) {D : List IdK} (hD : Dom f D) (hl : D.length ≤ 1300000000000) :
    Calls Try.prog 23 #[.pointer (some ⟨s.t, 0, none⟩)] w fun e w' => ∃ v L, e = .returned v ∧ OwnI w' w.heap.size v L ∧ IsWalk f L ∧ Below w.heap.size w w' := by
  have := walk_any s w h.tree.tr h.tree.rows (by rw [h.eq]; exact h.ft) (by rw [h.len hD]; exact hl)
  rwa [h.eq] at this
theorem kids_own {B : Nat} {w : World} {s : Tr} {H : List Rec} {f : Fn} (h : Own B w s H f) {D : List IdK} (hD : Dom f D) (hl : D.length ≤ 1300000000000) (k : IdK) (hk : k.ok) :
    Calls Try.prog 24 #[.pointer (some ⟨s.t, 0, none⟩), k.v] w fun e w' => ∃ v L, e = .returned v ∧ OwnI w' w.heap.size v L ∧ IsKids f k L ∧ Below w.heap.size w w' := by
  have := kids_any s k w h.tree.tr h.tree.rows (by rw [h.len hD]; exact hl) hk
  rwa [h.eq] at this
def DeepIs (f : Fn) (k : IdK) (d : Int) : Prop := ((f k).isSome = false ∧ d = -1) ∨ ((f k).isSome = true ∧ ∃ l p, Climb f k l p ∧ d = (l.length : Int))
def LiveIs (f : Fn) (k : IdK) (b : Bool) : Prop := ((f k).isSome = false ∧ b = false) ∨ ((f k).isSome = true ∧ ∃ l p, Climb f k l p ∧ b = !p)
theorem DeepIs.unique {f : Fn} {k : IdK} {d d' : Int} (h : DeepIs f k d) (h' : DeepIs f k d') : d = d' := by
  rcases h with ⟨a, rfl⟩ | ⟨a, l, p, hc, rfl⟩ <;> rcases h' with ⟨a', rfl⟩ | ⟨a', l', p', hc', rfl⟩
  · rfl
  · rw [a] at a'; cases a'
  · rw [a] at a'; cases a'
  · obtain ⟨rfl, _⟩ := hc.same hc'; rfl
theorem LiveIs.unique {f : Fn} {k : IdK} {d d' : Bool} (h : LiveIs f k d) (h' : LiveIs f k d') : d = d' := by
  rcases h with ⟨a, rfl⟩ | ⟨a, l, p, hc, rfl⟩ <;> rcases h' with ⟨a', rfl⟩ | ⟨a', l', p', hc', rfl⟩
  · rfl
  · rw [a] at a'; cases a'
  · rw [a] at a'; cases a'
  · obtain ⟨_, rfl⟩ := hc.same hc'; rfl
theorem climb_le {f : Fn} (hf : Forest f) {D : List IdK} (hD : Dom f D) {k : IdK} {l : List IdK} {p : Bool} (hc : Climb f k l p) : l.length ≤ D.length := nodup_le hc.nodup (fun x hx => (hD.mem x).2 (hc.there hf x hx))
theorem deep_own {B : Nat} {w : World} {s : Tr} {H : List Rec} {f : Fn} (h : Own B w s H f) {D : List IdK} (hD : Dom f D) (hl : D.length ≤ 1300000000000) (k : IdK) (hk : k.ok) :
    Calls Try.prog 29 #[.pointer (some ⟨s.t, 0, none⟩), k.v] w fun e w' => ∃ d, e = .returned (.int .i64 d) ∧ DeepIs f k d ∧ Below w.heap.size w w' := by
  have hE := h.eq
  cases hh : (f k).isSome with
  | false => exact (deep_out s k w h.tree.tr hk (by rw [hE]; exact hh)).mono fun e w' ⟨h1, h2⟩ => ⟨_, h1, Or.inl ⟨hh, rfl⟩, h2⟩
  | true =>
    obtain ⟨l, p, hc⟩ := h.ft.ends k
    have := climb_le h.ft hD hc
    exact (deep_any s k l p w h.tree.tr hk (by rw [hE]; exact hh) (by omega) (by rw [hE]; exact hc)).mono fun e w' ⟨h1, h2⟩ => ⟨_, h1, Or.inr ⟨hh, l, p, hc, rfl⟩, h2⟩
theorem live_own {B : Nat} {w : World} {s : Tr} {H : List Rec} {f : Fn} (h : Own B w s H f) {D : List IdK} (hD : Dom f D) (hl : D.length ≤ 1300000000000) (k : IdK) (hk : k.ok) :
    Calls Try.prog 39 #[.pointer (some ⟨s.t, 0, none⟩), k.v] w fun e w' => ∃ b, e = .returned (.bool b) ∧ LiveIs f k b ∧ Below w.heap.size w w' := by
  have hE := h.eq
  cases hh : (f k).isSome with
  | false => exact (live_out s k w h.tree.tr hk (by rw [hE]; exact hh)).mono fun e w' ⟨h1, h2⟩ => ⟨_, h1, Or.inl ⟨hh, rfl⟩, h2⟩
  | true =>
    obtain ⟨l, p, hc⟩ := h.ft.ends k
    have := climb_le h.ft hD hc
    exact (live_any s k l p w h.tree.tr hk (by rw [hE]; exact hh) (by omega) (by rw [hE]; exact hc)).mono fun e w' ⟨h1, h2⟩ => ⟨_, h1, Or.inr ⟨hh, l, p, hc, rfl⟩, h2⟩
theorem len_own {B : Nat} {w : World} {s : Tr} {H : List Rec} {f : Fn} (h : Own B w s H f) {D : List IdK} (hD : Dom f D) :
    Calls Try.prog 21 #[.pointer (some ⟨s.t, 0, none⟩)] w fun e w' => e = .returned (.int .i64 (D.length : Int)) ∧ Below w.heap.size w w' := by
  have := len_any s w h.tree.tr
  rwa [h.len hD] at this
theorem exec_buildSlice2 {P : Program} {w w2 : World} {a : Act} {o : Oper} {t n : Nat} {x y : Operand} {xv yv v : Value} (ho : o.op = .buildSlice t n #[(0, x), (1, y)]) (hx : a.eval x = xv) (hy : a.eval y = yv) (hl : (Instr.buildSlice t n #[(0, xv), (1, yv)]).run P w = .ok v w2) : (execOp a.eval o).run P w = .ok (.value v) w2 := by
  unfold execOp; simp only [ho, List.map_toArray, List.map_cons, List.map_nil, hx, hy, Sem.run_bind, hl, Result.andThen_ok, Sem.run_pure]
def live6_o0 : Oper := ⟨some 26, .move (.tmp 4), 45, "law.go:27", #[], none⟩
def live6_o1 : Oper := ⟨some 27, .binOp BinOp.eql 45 (.tmp 26) (Operand.const (Value.pointer none)) 45, 4, "law.go:27", #[⟨0, .data⟩], none⟩
def live6_o2 : Oper := ⟨some 28, .move (.tmp 27), 4, "law.go:27", #[⟨1, .data⟩], none⟩
def live6_o3 : Oper := ⟨some 29, .move (.tmp 5), 46, "law.go:27", #[⟨2, .guard⟩], some (2, false)⟩
def live6_o4 : Oper := ⟨some 30, .binOp BinOp.neq 46 (.tmp 29) (Operand.const (Value.int IntKind.i64 0)) 46, 4, "law.go:27", #[⟨3, .data⟩, ⟨2, .guard⟩], some (2, false)⟩
def live6_o5 : Oper := ⟨some 31, .pick (.tmp 28) (Operand.const (Value.bool true)) (.tmp 30), 4, "law.go:27", #[⟨2, .data⟩, ⟨4, .data⟩], none⟩
def live6_o6 : Oper := ⟨some 32, .move (.tmp 31), 4, "law.go:27", #[⟨5, .data⟩, ⟨2, .chain⟩], none⟩
def live6_o7 : Oper := ⟨some 33, .move (.tmp 7), 46, "law.go:27", #[⟨6, .guard⟩], some (6, false)⟩
def live6_o8 : Oper := ⟨some 34, .binOp BinOp.neq 46 (.tmp 33) (Operand.const (Value.int IntKind.i64 0)) 46, 4, "law.go:27", #[⟨7, .data⟩, ⟨6, .guard⟩], some (6, false)⟩
def live6_o9 : Oper := ⟨some 35, .pick (.tmp 32) (Operand.const (Value.bool true)) (.tmp 34), 4, "law.go:27", #[⟨6, .data⟩, ⟨8, .data⟩], none⟩
def live6_o10 : Oper := ⟨some 36, .move (.tmp 35), 4, "law.go:27", #[⟨9, .data⟩, ⟨6, .chain⟩], none⟩
def live6_o11 : Oper := ⟨some 37, .move (.tmp 1), 25, "law.go:27", #[⟨10, .guard⟩], some (10, false)⟩
def live6_o12 : Oper := ⟨some 38, .call { callee := Callee.value (Operand.func 23), args := #[.tmp 37], argTypes := #[25] }, 41, "law.go:27", #[⟨11, .data⟩, ⟨10, .chain⟩, ⟨10, .guard⟩], some (10, false)⟩
def live6_o13 : Oper := ⟨some 39, .load 37 (.tmp 2), 37, "law.go:27", #[⟨10, .guard⟩], some (10, false)⟩
def live6_o14 : Oper := ⟨some 40, .load 37 (.tmp 3), 37, "law.go:27", #[⟨10, .guard⟩], some (10, false)⟩
def live6_o15 : Oper := ⟨some 41, .buildSlice 41 2 #[(0, .tmp 39), (1, .tmp 40)], 41, "law.go:27", #[⟨13, .data⟩, ⟨14, .data⟩, ⟨10, .guard⟩], some (10, false)⟩
def live6_o16 : Oper := ⟨some 42, .call { callee := Callee.value (Operand.func 28), args := #[.tmp 38, .tmp 41], argTypes := #[41, 41] }, 4, "law.go:27", #[⟨12, .data⟩, ⟨15, .data⟩, ⟨12, .chain⟩, ⟨10, .guard⟩], some (10, false)⟩
def live6_o17 : Oper := ⟨some 43, .unOp UnOp.not 4 (.tmp 42), 4, "law.go:27", #[⟨16, .data⟩, ⟨10, .guard⟩], some (10, false)⟩
def live6_o18 : Oper := ⟨some 44, .pick (.tmp 36) (Operand.const (Value.bool true)) (.tmp 43), 4, "law.go:27", #[⟨10, .data⟩, ⟨17, .data⟩], none⟩
def live6_o19 : Oper := ⟨some 45, .move (.tmp 44), 4, "law.go:27", #[⟨18, .data⟩, ⟨16, .chain⟩], none⟩
def live6_o20 : Oper := ⟨some 46, .move (.tmp 1), 25, "law.go:27", #[⟨19, .guard⟩], some (19, false)⟩
def live6_o21 : Oper := ⟨some 47, .load 37 (.tmp 3), 37, "law.go:27", #[⟨19, .guard⟩], some (19, false)⟩
def live6_o22 : Oper := ⟨some 48, .call { callee := Callee.value (Operand.func 29), args := #[.tmp 46, .tmp 47], argTypes := #[25, 37] }, 3, "law.go:27", #[⟨20, .data⟩, ⟨21, .data⟩, ⟨19, .chain⟩, ⟨19, .guard⟩], some (19, false)⟩
def live6_o23 : Oper := ⟨some 49, .binOp BinOp.neq 3 (.tmp 48) (Operand.const (Value.int IntKind.i64 1)) 3, 4, "law.go:27", #[⟨22, .data⟩, ⟨19, .guard⟩], some (19, false)⟩
def live6_o24 : Oper := ⟨some 50, .pick (.tmp 45) (Operand.const (Value.bool true)) (.tmp 49), 4, "law.go:27", #[⟨19, .data⟩, ⟨23, .data⟩], none⟩
def live6_ops : Array Oper := #[live6_o0, live6_o1, live6_o2, live6_o3, live6_o4, live6_o5, live6_o6, live6_o7, live6_o8, live6_o9, live6_o10, live6_o11, live6_o12, live6_o13, live6_o14, live6_o15, live6_o16, live6_o17, live6_o18, live6_o19, live6_o20, live6_o21, live6_o22, live6_o23, live6_o24]
theorem live6 (N : Nat) (w0 : World) (t ba bb : Nat) (xp : Addr) (av bv : Value) (IW IB : World → Value → Prop) (a : Act) (w : World) (Q : Exit → Act → World → Prop) (hsz : a.tmps.size = 94)
    (t1 : a.tmps.getD 1 undef = .pointer (some ⟨t, 0, none⟩))
    (t2 : a.tmps.getD 2 undef = .pointer (some ⟨ba, 0, none⟩))
    (t3 : a.tmps.getD 3 undef = .pointer (some ⟨bb, 0, none⟩))
    (t4 : a.tmps.getD 4 undef = .pointer (some xp))
    (t5 : a.tmps.getD 5 undef = .int .i64 0)
    (t7 : a.tmps.getD 7 undef = .int .i64 0)
    (h0 : Below N w0 w.drew)
    (hN : ∀ W, Below N w0 W → N ≤ W.heap.size)
    (GP : ∀ W, (eqGuard .eql 45 (.tmp 26) (.const (.pointer none)) (.pointer (some xp)) (.pointer none)).run Try.prog W = .ok () W)
    (EP : ∀ W, (binOp .eql 45 (.pointer (some xp)) (.pointer none)).run Try.prog W = .ok (.bool false) W)
    (HA : ∀ W, Below N w0 W → (Instr.loadAt 37 (.pointer (some ⟨ba, 0, none⟩))).run Try.prog W = .ok av W)
    (HB : ∀ W, Below N w0 W → (Instr.loadAt 37 (.pointer (some ⟨bb, 0, none⟩))).run Try.prog W = .ok bv W)
    (KW : ∀ W W' v, IW W v → Below W.heap.size W W' → IW W' v)
    (KB : ∀ W W' v, IB W v → Below W.heap.size W W' → IB W' v)
    (CW : ∀ W, Below N w0 W → Calls Try.prog 23 #[.pointer (some ⟨t, 0, none⟩)] W fun e w' => ∃ v, e = .returned v ∧ IW w' v ∧ Below W.heap.size W w')
    (CB : ∀ W, Below N w0 W → ∃ u wu, (Instr.buildSlice 41 2 #[(0, av), (1, bv)]).run Try.prog W = .ok u wu ∧ IB wu u ∧ Below W.heap.size W wu)
    (CS : ∀ W v u, Below N w0 W → IW W v → IB W u → Calls Try.prog 28 #[v, u] W fun e w' => e = .returned (.bool true) ∧ Below W.heap.size W w')
    (CD : ∀ W, Below N w0 W → Calls Try.prog 29 #[.pointer (some ⟨t, 0, none⟩), bv] W fun e w' => e = .returned (.int .i64 1) ∧ Below W.heap.size W w')
    (hA : ∀ (v u : Value) (a' : Act) (w' : World), Below N w0 w' → a' = (((((((((((((((((((((((((a).put (some 26) (.pointer (some xp))).put (some 27) (.bool false)).put (some 28) (.bool false)).put (some 29) (.int .i64 0)).put (some 30) (.bool false)).put (some 31) (.bool false)).put (some 32) (.bool false)).put (some 33) (.int .i64 0)).put (some 34) (.bool false)).put (some 35) (.bool false)).put (some 36) (.bool false)).put (some 37) (.pointer (some ⟨t, 0, none⟩))).put (some 39) (av)).put (some 40) (bv)).put (some 38) (v)).put (some 41) (u)).put (some 42) (.bool true)).put (some 43) (.bool false)).put (some 44) (.bool false)).put (some 45) (.bool false)).put (some 46) (.pointer (some ⟨t, 0, none⟩))).put (some 47) (bv)).put (some 48) (.int .i64 1)).put (some 49) (.bool false)).put (some 50) (.bool false) → Q .normal a' w')
    (hB : ∀ (u v : Value) (a' : Act) (w' : World), Below N w0 w' → a' = (((((((((((((((((((((((((a).put (some 26) (.pointer (some xp))).put (some 27) (.bool false)).put (some 28) (.bool false)).put (some 29) (.int .i64 0)).put (some 30) (.bool false)).put (some 31) (.bool false)).put (some 32) (.bool false)).put (some 33) (.int .i64 0)).put (some 34) (.bool false)).put (some 35) (.bool false)).put (some 36) (.bool false)).put (some 37) (.pointer (some ⟨t, 0, none⟩))).put (some 39) (av)).put (some 40) (bv)).put (some 41) (u)).put (some 38) (v)).put (some 42) (.bool true)).put (some 43) (.bool false)).put (some 44) (.bool false)).put (some 45) (.bool false)).put (some 46) (.pointer (some ⟨t, 0, none⟩))).put (some 47) (bv)).put (some 48) (.int .i64 1)).put (some 49) (.bool false)).put (some 50) (.bool false) → Q .normal a' w') :
    (Code.region 6 live6_ops true).wp Try.prog Q a w := by
  refine wp_region_noPanic ?_
  refine wp_region_held_drew (S := fun w' => Below N w0 w') (by kernel_rfl) (h0) (fun hHeld => ?_)
  refine tk 0 live6_o0 (.pointer (some xp)) (by rfl) (fun w1 hw => by unfold live6_o0; go_simp) hHeld (fun a1 e1 => ?_)
  rw [← e1] at hA hB
  have z1 := pz e1 hsz
  replace t1 := pk e1 t1
  replace t2 := pk e1 t2
  replace t3 := pk e1 t3
  clear t4
  replace t5 := pk e1 t5
  replace t7 := pk e1 t7
  have t26 := pq e1 hsz
  clear e1 hsz
  refine tk 1 live6_o1 (.bool false) (by rfl) (fun w1 hw => exec_binOp rfl t26 rfl (GP _) (EP _)) hHeld (fun a2 e2 => ?_)
  rw [← e2] at hA hB
  have z2 := pz e2 z1
  replace t1 := pk e2 t1
  replace t2 := pk e2 t2
  replace t3 := pk e2 t3
  replace t5 := pk e2 t5
  replace t7 := pk e2 t7
  clear t26
  have t27 := pq e2 z1
  clear e2 z1
  refine tk 2 live6_o2 (.bool false) (by rfl) (fun w1 hw => by unfold live6_o2; go_simp) hHeld (fun a3 e3 => ?_)
  rw [← e3] at hA hB
  have z3 := pz e3 z2
  replace t1 := pk e3 t1
  replace t2 := pk e3 t2
  replace t3 := pk e3 t3
  replace t5 := pk e3 t5
  replace t7 := pk e3 t7
  clear t27
  have t28 := pq e3 z2
  clear e3 z2
  refine tk 3 live6_o3 (.int .i64 0) (by simp [Region.wanted, yielded, live6_o3, live6_o2, live6_ops, tget z3 (by decide) t28]) (fun w1 hw => by unfold live6_o3; go_simp) hHeld (fun a4 e4 => ?_)
  rw [← e4] at hA hB
  have z4 := pz e4 z3
  replace t1 := pk e4 t1
  replace t2 := pk e4 t2
  replace t3 := pk e4 t3
  clear t5
  replace t7 := pk e4 t7
  replace t28 := pk e4 t28
  have t29 := pq e4 z3
  clear e4 z3
  refine tk 4 live6_o4 (.bool false) (by simp [Region.wanted, yielded, live6_o4, live6_o2, live6_ops, tget z4 (by decide) t28]) (fun w1 hw => by unfold live6_o4; go_simp) hHeld (fun a5 e5 => ?_)
  rw [← e5] at hA hB
  have z5 := pz e5 z4
  replace t1 := pk e5 t1
  replace t2 := pk e5 t2
  replace t3 := pk e5 t3
  replace t7 := pk e5 t7
  replace t28 := pk e5 t28
  clear t29
  have t30 := pq e5 z4
  clear e5 z4
  refine tk 5 live6_o5 (.bool false) (by rfl) (fun w1 hw => by unfold live6_o5; go_simp) hHeld (fun a6 e6 => ?_)
  rw [← e6] at hA hB
  have z6 := pz e6 z5
  replace t1 := pk e6 t1
  replace t2 := pk e6 t2
  replace t3 := pk e6 t3
  replace t7 := pk e6 t7
  clear t28
  clear t30
  have t31 := pq e6 z5
  clear e6 z5
  refine tk 6 live6_o6 (.bool false) (by rfl) (fun w1 hw => by unfold live6_o6; go_simp) hHeld (fun a7 e7 => ?_)
  rw [← e7] at hA hB
  have z7 := pz e7 z6
  replace t1 := pk e7 t1
  replace t2 := pk e7 t2
  replace t3 := pk e7 t3
  replace t7 := pk e7 t7
  clear t31
  have t32 := pq e7 z6
  clear e7 z6
  refine tk 7 live6_o7 (.int .i64 0) (by simp [Region.wanted, yielded, live6_o7, live6_o6, live6_ops, tget z7 (by decide) t32]) (fun w1 hw => by unfold live6_o7; go_simp) hHeld (fun a8 e8 => ?_)
  rw [← e8] at hA hB
  have z8 := pz e8 z7
  replace t1 := pk e8 t1
  replace t2 := pk e8 t2
  replace t3 := pk e8 t3
  clear t7
  replace t32 := pk e8 t32
  have t33 := pq e8 z7
  clear e8 z7
  refine tk 8 live6_o8 (.bool false) (by simp [Region.wanted, yielded, live6_o8, live6_o6, live6_ops, tget z8 (by decide) t32]) (fun w1 hw => by unfold live6_o8; go_simp) hHeld (fun a9 e9 => ?_)
  rw [← e9] at hA hB
  have z9 := pz e9 z8
  replace t1 := pk e9 t1
  replace t2 := pk e9 t2
  replace t3 := pk e9 t3
  replace t32 := pk e9 t32
  clear t33
  have t34 := pq e9 z8
  clear e9 z8
  refine tk 9 live6_o9 (.bool false) (by rfl) (fun w1 hw => by unfold live6_o9; go_simp) hHeld (fun a10 e10 => ?_)
  rw [← e10] at hA hB
  have z10 := pz e10 z9
  replace t1 := pk e10 t1
  replace t2 := pk e10 t2
  replace t3 := pk e10 t3
  clear t32
  clear t34
  have t35 := pq e10 z9
  clear e10 z9
  refine tk 10 live6_o10 (.bool false) (by rfl) (fun w1 hw => by unfold live6_o10; go_simp) hHeld (fun a11 e11 => ?_)
  rw [← e11] at hA hB
  have z11 := pz e11 z10
  replace t1 := pk e11 t1
  replace t2 := pk e11 t2
  replace t3 := pk e11 t3
  clear t35
  have t36 := pq e11 z10
  clear e11 z10
  refine tk 11 live6_o11 (.pointer (some ⟨t, 0, none⟩)) (by simp [Region.wanted, yielded, live6_o11, live6_o10, live6_ops, tget z11 (by decide) t36]) (fun w1 hw => by unfold live6_o11; go_simp) hHeld (fun a12 e12 => ?_)
  rw [← e12] at hA hB
  have z12 := pz e12 z11
  replace t1 := pk e12 t1
  replace t2 := pk e12 t2
  replace t3 := pk e12 t3
  replace t36 := pk e12 t36
  have t37 := pq e12 z11
  clear e12 z11
  refine tk 13 live6_o13 (av) (by simp [Region.wanted, yielded, live6_o13, live6_o10, live6_ops, tget z12 (by decide) t36]) (fun w1 hw => exec_load rfl t2 (HA _ hw)) hHeld (fun a13 e13 => ?_)
  rw [← e13] at hA hB
  have z13 := pz e13 z12
  replace t1 := pk e13 t1
  clear t2
  replace t3 := pk e13 t3
  replace t36 := pk e13 t36
  replace t37 := pk e13 t37
  have t39 := pq e13 z12
  clear e13 z12
  refine tk 14 live6_o14 (bv) (by simp [Region.wanted, yielded, live6_o14, live6_o10, live6_ops, tget z13 (by decide) t36]) (fun w1 hw => exec_load rfl t3 (HB _ hw)) hHeld (fun a14 e14 => ?_)
  rw [← e14] at hA hB
  have z14 := pz e14 z13
  replace t1 := pk e14 t1
  replace t3 := pk e14 t3
  replace t36 := pk e14 t36
  replace t37 := pk e14 t37
  replace t39 := pk e14 t39
  have t40 := pq e14 z13
  clear e14 z13
  refine wpAnyH_ready (rs := [12, 15]) (by kernel_rfl) (by simp) ?_
  refine AllReadyH.cons (o := live6_o12) rfl (fun K hK => ?_) (AllReadyH.cons (o := live6_o15) rfl (fun K hK => ?_) (AllReadyH.nil))
  · have h := hA
    clear hA hB
    rw [if_pos (by simp [Region.wanted, yielded, live6_o12, live6_o10, live6_ops, tget z14 (by decide) t36])]
    unfold live6_o12 at hK ⊢
    go_simp
    refine (CW _ hHeld).mono ?_
    rintro e x15 ⟨v, rfl, iv, l1⟩
    try go_wp2_with fail
    replace h := h v
    refine hK.out _ _ (hHeld.trans (l1.mono (hN _ hHeld))) (fun hHeld => ?_)
    clear hK K
    change wpAnyH _ _ _ _ _ _ _ (a14.put (some 38) (v)) _
    obtain ⟨a15, e15⟩ : ∃ act, act = a14.put (some 38) (v) := ⟨_, rfl⟩
    rw [← e15] at h ⊢
    have z15 := pz e15 z14
    replace t1 := pk e15 t1
    replace t3 := pk e15 t3
    replace t36 := pk e15 t36
    clear t37
    replace t39 := pk e15 t39
    replace t40 := pk e15 t40
    have t38 := pq e15 z14
    clear e15 z14
    refine wpAnyH_ready (rs := [15]) (by kernel_rfl) (by simp) ?_
    refine AllReadyH.cons (o := live6_o15) rfl (fun K hK => ?_) AllReadyH.nil
    obtain ⟨u, wu, eu, iu, lu⟩ := CB _ hHeld; replace h := h u; replace iv := KW _ _ _ iv lu
    have X := exec_buildSlice2 (P := Try.prog) (a := a15) (o := live6_o15) rfl t39 t40 eu
    rw [if_pos (by simp [Region.wanted, yielded, live6_o15, live6_o10, live6_ops, tget z15 (by decide) t36]), Oper.wp, X]
    show K _ _
    clear X
    refine hK.out _ _ (hHeld.trans (lu.mono (hN _ hHeld))) (fun hHeld => ?_)
    clear hK K
    change wpAnyH _ _ _ _ _ _ _ (a15.put (some 41) (u)) _
    obtain ⟨a16, e16⟩ : ∃ act, act = a15.put (some 41) (u) := ⟨_, rfl⟩
    rw [← e16] at h ⊢
    have z16 := pz e16 z15
    replace t1 := pk e16 t1
    replace t3 := pk e16 t3
    replace t36 := pk e16 t36
    clear t39
    clear t40
    replace t38 := pk e16 t38
    have t41 := pq e16 z15
    clear e16 z15
    refine wpAnyH_ready (rs := [16]) (by kernel_rfl) (by simp) ?_
    refine AllReadyH.cons (o := live6_o16) rfl (fun K hK => ?_) AllReadyH.nil
    rw [if_pos (by simp [Region.wanted, yielded, live6_o16, live6_o10, live6_ops, tget z16 (by decide) t36])]
    unfold live6_o16 at hK ⊢
    go_simp
    refine (CS _ _ _ hHeld iv iu).mono ?_
    rintro e x17 ⟨rfl, l3⟩
    try go_wp2_with fail
    skip
    refine hK.out _ _ (hHeld.trans (l3.mono (hN _ hHeld))) (fun hHeld => ?_)
    clear hK K
    change wpAnyH _ _ _ _ _ _ _ (a16.put (some 42) (.bool true)) _
    obtain ⟨a17, e17⟩ : ∃ act, act = a16.put (some 42) (.bool true) := ⟨_, rfl⟩
    rw [← e17] at h ⊢
    have z17 := pz e17 z16
    replace t1 := pk e17 t1
    replace t3 := pk e17 t3
    replace t36 := pk e17 t36
    clear t38
    clear t41
    have t42 := pq e17 z16
    clear e17 z16
    refine tk 17 live6_o17 (.bool false) (by simp [Region.wanted, yielded, live6_o17, live6_o10, live6_ops, tget z17 (by decide) t36]) (fun w1 hw => by unfold live6_o17; go_simp) hHeld (fun a18 e18 => ?_)
    rw [← e18] at h
    have z18 := pz e18 z17
    replace t1 := pk e18 t1
    replace t3 := pk e18 t3
    replace t36 := pk e18 t36
    clear t42
    have t43 := pq e18 z17
    clear e18 z17
    refine tk 18 live6_o18 (.bool false) (by rfl) (fun w1 hw => by unfold live6_o18; go_simp) hHeld (fun a19 e19 => ?_)
    rw [← e19] at h
    have z19 := pz e19 z18
    replace t1 := pk e19 t1
    replace t3 := pk e19 t3
    clear t36
    clear t43
    have t44 := pq e19 z18
    clear e19 z18
    refine tk 19 live6_o19 (.bool false) (by rfl) (fun w1 hw => by unfold live6_o19; go_simp) hHeld (fun a20 e20 => ?_)
    rw [← e20] at h
    have z20 := pz e20 z19
    replace t1 := pk e20 t1
    replace t3 := pk e20 t3
    clear t44
    have t45 := pq e20 z19
    clear e20 z19
    refine tk 20 live6_o20 (.pointer (some ⟨t, 0, none⟩)) (by simp [Region.wanted, yielded, live6_o20, live6_o19, live6_ops, tget z20 (by decide) t45]) (fun w1 hw => by unfold live6_o20; go_simp) hHeld (fun a21 e21 => ?_)
    rw [← e21] at h
    have z21 := pz e21 z20
    clear t1
    replace t3 := pk e21 t3
    replace t45 := pk e21 t45
    have t46 := pq e21 z20
    clear e21 z20
    refine tk 21 live6_o21 (bv) (by simp [Region.wanted, yielded, live6_o21, live6_o19, live6_ops, tget z21 (by decide) t45]) (fun w1 hw => exec_load rfl t3 (HB _ hw)) hHeld (fun a22 e22 => ?_)
    rw [← e22] at h
    have z22 := pz e22 z21
    clear t3
    replace t45 := pk e22 t45
    replace t46 := pk e22 t46
    have t47 := pq e22 z21
    clear e22 z21
    refine wpAnyH_ready (rs := [22]) (by kernel_rfl) (by simp) ?_
    refine AllReadyH.cons (o := live6_o22) rfl (fun K hK => ?_) AllReadyH.nil
    rw [if_pos (by simp [Region.wanted, yielded, live6_o22, live6_o19, live6_ops, tget z22 (by decide) t45])]
    unfold live6_o22 at hK ⊢
    go_simp
    refine (CD _ hHeld).mono ?_
    rintro e x23 ⟨rfl, l4⟩
    try go_wp2_with fail
    skip
    refine hK.out _ _ (hHeld.trans (l4.mono (hN _ hHeld))) (fun hHeld => ?_)
    clear hK K
    change wpAnyH _ _ _ _ _ _ _ (a22.put (some 48) (.int .i64 1)) _
    obtain ⟨a23, e23⟩ : ∃ act, act = a22.put (some 48) (.int .i64 1) := ⟨_, rfl⟩
    rw [← e23] at h ⊢
    have z23 := pz e23 z22
    replace t45 := pk e23 t45
    clear t46
    clear t47
    have t48 := pq e23 z22
    clear e23 z22
    refine tk 23 live6_o23 (.bool false) (by simp [Region.wanted, yielded, live6_o23, live6_o19, live6_ops, tget z23 (by decide) t45]) (fun w1 hw => by unfold live6_o23; go_simp) hHeld (fun a24 e24 => ?_)
    rw [← e24] at h
    have z24 := pz e24 z23
    replace t45 := pk e24 t45
    clear t48
    have t49 := pq e24 z23
    clear e24 z23
    refine tk 24 live6_o24 (.bool false) (by rfl) (fun w1 hw => by unfold live6_o24; go_simp) hHeld (fun a25 e25 => ?_)
    rw [← e25] at h
    have z25 := pz e25 z24
    clear t45
    clear t49
    clear e25 z24
    exact wpAnyH_done (by kernel_rfl) (NoPanic.normal (h _ _ hHeld rfl)) _
  · have h := hB
    clear hA hB
    obtain ⟨u, wu, eu, iu, lu⟩ := CB _ hHeld; replace h := h u
    have X := exec_buildSlice2 (P := Try.prog) (a := a14) (o := live6_o15) rfl t39 t40 eu
    rw [if_pos (by simp [Region.wanted, yielded, live6_o15, live6_o10, live6_ops, tget z14 (by decide) t36]), Oper.wp, X]
    show K _ _
    clear X
    refine hK.out _ _ (hHeld.trans (lu.mono (hN _ hHeld))) (fun hHeld => ?_)
    clear hK K
    change wpAnyH _ _ _ _ _ _ _ (a14.put (some 41) (u)) _
    obtain ⟨a26, e26⟩ : ∃ act, act = a14.put (some 41) (u) := ⟨_, rfl⟩
    rw [← e26] at h ⊢
    have z26 := pz e26 z14
    replace t1 := pk e26 t1
    replace t3 := pk e26 t3
    replace t36 := pk e26 t36
    replace t37 := pk e26 t37
    clear t39
    clear t40
    have t41 := pq e26 z14
    clear e26 z14
    refine wpAnyH_ready (rs := [12]) (by kernel_rfl) (by simp) ?_
    refine AllReadyH.cons (o := live6_o12) rfl (fun K hK => ?_) AllReadyH.nil
    rw [if_pos (by simp [Region.wanted, yielded, live6_o12, live6_o10, live6_ops, tget z26 (by decide) t36])]
    unfold live6_o12 at hK ⊢
    go_simp
    refine (CW _ hHeld).mono ?_
    rintro e x27 ⟨v, rfl, iv, l1⟩
    try go_wp2_with fail
    replace h := h v; replace iu := KB _ _ _ iu l1
    refine hK.out _ _ (hHeld.trans (l1.mono (hN _ hHeld))) (fun hHeld => ?_)
    clear hK K
    change wpAnyH _ _ _ _ _ _ _ (a26.put (some 38) (v)) _
    obtain ⟨a27, e27⟩ : ∃ act, act = a26.put (some 38) (v) := ⟨_, rfl⟩
    rw [← e27] at h ⊢
    have z27 := pz e27 z26
    replace t1 := pk e27 t1
    replace t3 := pk e27 t3
    replace t36 := pk e27 t36
    clear t37
    replace t41 := pk e27 t41
    have t38 := pq e27 z26
    clear e27 z26
    refine wpAnyH_ready (rs := [16]) (by kernel_rfl) (by simp) ?_
    refine AllReadyH.cons (o := live6_o16) rfl (fun K hK => ?_) AllReadyH.nil
    rw [if_pos (by simp [Region.wanted, yielded, live6_o16, live6_o10, live6_ops, tget z27 (by decide) t36])]
    unfold live6_o16 at hK ⊢
    go_simp
    refine (CS _ _ _ hHeld iv iu).mono ?_
    rintro e x28 ⟨rfl, l3⟩
    try go_wp2_with fail
    skip
    refine hK.out _ _ (hHeld.trans (l3.mono (hN _ hHeld))) (fun hHeld => ?_)
    clear hK K
    change wpAnyH _ _ _ _ _ _ _ (a27.put (some 42) (.bool true)) _
    obtain ⟨a28, e28⟩ : ∃ act, act = a27.put (some 42) (.bool true) := ⟨_, rfl⟩
    rw [← e28] at h ⊢
    have z28 := pz e28 z27
    replace t1 := pk e28 t1
    replace t3 := pk e28 t3
    replace t36 := pk e28 t36
    clear t41
    clear t38
    have t42 := pq e28 z27
    clear e28 z27
    refine tk 17 live6_o17 (.bool false) (by simp [Region.wanted, yielded, live6_o17, live6_o10, live6_ops, tget z28 (by decide) t36]) (fun w1 hw => by unfold live6_o17; go_simp) hHeld (fun a29 e29 => ?_)
    rw [← e29] at h
    have z29 := pz e29 z28
    replace t1 := pk e29 t1
    replace t3 := pk e29 t3
    replace t36 := pk e29 t36
    clear t42
    have t43 := pq e29 z28
    clear e29 z28
    refine tk 18 live6_o18 (.bool false) (by rfl) (fun w1 hw => by unfold live6_o18; go_simp) hHeld (fun a30 e30 => ?_)
    rw [← e30] at h
    have z30 := pz e30 z29
    replace t1 := pk e30 t1
    replace t3 := pk e30 t3
    clear t36
    clear t43
    have t44 := pq e30 z29
    clear e30 z29
    refine tk 19 live6_o19 (.bool false) (by rfl) (fun w1 hw => by unfold live6_o19; go_simp) hHeld (fun a31 e31 => ?_)
    rw [← e31] at h
    have z31 := pz e31 z30
    replace t1 := pk e31 t1
    replace t3 := pk e31 t3
    clear t44
    have t45 := pq e31 z30
    clear e31 z30
    refine tk 20 live6_o20 (.pointer (some ⟨t, 0, none⟩)) (by simp [Region.wanted, yielded, live6_o20, live6_o19, live6_ops, tget z31 (by decide) t45]) (fun w1 hw => by unfold live6_o20; go_simp) hHeld (fun a32 e32 => ?_)
    rw [← e32] at h
    have z32 := pz e32 z31
    clear t1
    replace t3 := pk e32 t3
    replace t45 := pk e32 t45
    have t46 := pq e32 z31
    clear e32 z31
    refine tk 21 live6_o21 (bv) (by simp [Region.wanted, yielded, live6_o21, live6_o19, live6_ops, tget z32 (by decide) t45]) (fun w1 hw => exec_load rfl t3 (HB _ hw)) hHeld (fun a33 e33 => ?_)
    rw [← e33] at h
    have z33 := pz e33 z32
    clear t3
    replace t45 := pk e33 t45
    replace t46 := pk e33 t46
    have t47 := pq e33 z32
    clear e33 z32
    refine wpAnyH_ready (rs := [22]) (by kernel_rfl) (by simp) ?_
    refine AllReadyH.cons (o := live6_o22) rfl (fun K hK => ?_) AllReadyH.nil
    rw [if_pos (by simp [Region.wanted, yielded, live6_o22, live6_o19, live6_ops, tget z33 (by decide) t45])]
    unfold live6_o22 at hK ⊢
    go_simp
    refine (CD _ hHeld).mono ?_
    rintro e x34 ⟨rfl, l4⟩
    try go_wp2_with fail
    skip
    refine hK.out _ _ (hHeld.trans (l4.mono (hN _ hHeld))) (fun hHeld => ?_)
    clear hK K
    change wpAnyH _ _ _ _ _ _ _ (a33.put (some 48) (.int .i64 1)) _
    obtain ⟨a34, e34⟩ : ∃ act, act = a33.put (some 48) (.int .i64 1) := ⟨_, rfl⟩
    rw [← e34] at h ⊢
    have z34 := pz e34 z33
    replace t45 := pk e34 t45
    clear t46
    clear t47
    have t48 := pq e34 z33
    clear e34 z33
    refine tk 23 live6_o23 (.bool false) (by simp [Region.wanted, yielded, live6_o23, live6_o19, live6_ops, tget z34 (by decide) t45]) (fun w1 hw => by unfold live6_o23; go_simp) hHeld (fun a35 e35 => ?_)
    rw [← e35] at h
    have z35 := pz e35 z34
    replace t45 := pk e35 t45
    clear t48
    have t49 := pq e35 z34
    clear e35 z34
    refine tk 24 live6_o24 (.bool false) (by rfl) (fun w1 hw => by unfold live6_o24; go_simp) hHeld (fun a36 e36 => ?_)
    rw [← e36] at h
    have z36 := pz e36 z35
    clear t45
    clear t49
    clear e36 z35
    exact wpAnyH_done (by kernel_rfl) (NoPanic.normal (h _ _ hHeld rfl)) _
def ida : IdK := ⟨List.replicate 32 0, 1⟩
def idb : IdK := ⟨List.replicate 32 0, 2⟩
theorem ida_ok : ida.ok := ⟨by simp [ida], by simp [ida], by simp [ida]⟩
theorem idb_ok : idb.ok := ⟨by simp [idb], by simp [idb], by simp [idb]⟩
theorem ida_z : ida ≠ zId := by simp [ida, zId]
theorem idb_z : idb ≠ zId := by simp [idb, zId]
theorem ida_b : ida ≠ idb := by simp [ida, idb]
def nA : NodeV := ⟨zId, ⟨#[107]⟩, false⟩
def nB : NodeV := ⟨ida, ⟨#[106]⟩, false⟩
def nP : NodeV := ⟨zId, ⟨#[]⟩, true⟩
def F1 : Fn := upd (fun _ => none) ida (some nA)
def F2 : Fn := upd F1 idb (some nB)
def F3 : Fn := upd F2 ida (some nP)
theorem F2_a : F2 ida = some nA := by unfold F2 F1; rw [upd_ne ida_b, upd_same]
theorem F2_b : F2 idb = some nB := by unfold F2; rw [upd_same]
theorem F2_o {x : IdK} (h1 : x ≠ ida) (h2 : x ≠ idb) : F2 x = none := by unfold F2 F1; rw [upd_ne h2, upd_ne h1]
theorem F3_a : F3 ida = some nP := by unfold F3; rw [upd_same]
theorem F3_b : F3 idb = some nB := by unfold F3; rw [upd_ne (Ne.symm ida_b)]; exact F2_b
theorem F3_o {x : IdK} (h1 : x ≠ ida) (h2 : x ≠ idb) : F3 x = none := by unfold F3; rw [upd_ne h1]; exact F2_o h1 h2
theorem und_F2 {k x : IdK} : Und F2 k x ↔ (x = ida ∧ k = zId) ∨ (x = idb ∧ k = ida) := by
  constructor
  · rintro ⟨n, h1, h2, h3⟩
    by_cases ea : x = ida
    · subst ea; rw [F2_a] at h1; cases h1; exact Or.inl ⟨rfl, h3.symm⟩
    · by_cases eb : x = idb
      · subst eb; rw [F2_b] at h1; cases h1; exact Or.inr ⟨rfl, h3.symm⟩
      · rw [F2_o ea eb] at h1; cases h1
  · rintro (⟨rfl, rfl⟩ | ⟨rfl, rfl⟩)
    · exact ⟨_, F2_a, rfl, rfl⟩
    · exact ⟨_, F2_b, rfl, rfl⟩
theorem und_F3 {k x : IdK} : Und F3 k x ↔ x = idb ∧ k = ida := by
  constructor
  · rintro ⟨n, h1, h2, h3⟩
    by_cases ea : x = ida
    · subst ea; rw [F3_a] at h1; cases h1; cases h2
    · by_cases eb : x = idb
      · subst eb; rw [F3_b] at h1; cases h1; exact ⟨rfl, h3.symm⟩
      · rw [F3_o ea eb] at h1; cases h1
  · rintro ⟨rfl, rfl⟩
    exact ⟨_, F3_b, rfl, rfl⟩
theorem kids_one {f : Fn} {k x : IdK} (hx : x.ok) (h : ∀ y, Und f k y ↔ y = x) : IsKids f k [x] := ⟨fun y => by rw [h]; simp, by simp, by simpa using hx⟩
theorem kids_no {f : Fn} {k : IdK} (h : ∀ y, ¬ Und f k y) : IsKids f k [] := ⟨fun y => by simp [h], by simp, by simp⟩
theorem walk_F2 : IsWalk F2 [ida, idb] := by
  refine ⟨[ida], kids_one ida_ok (fun y => by rw [und_F2]; simp [Ne.symm ida_z]), .cons (K := [idb]) (kids_one idb_ok (fun y => by rw [und_F2]; simp [ida_z])) (.cons (K := []) (kids_no (fun y => by rw [und_F2]; simp [idb_z, Ne.symm ida_b])) .nil)⟩
theorem walk_F3 : IsWalk F3 [] := ⟨[], kids_no (fun y => by rw [und_F3]; simp [Ne.symm ida_z]), .nil⟩
theorem climb_F2 : Climb F2 idb [ida] false := by
  have e1 : nd F2 idb = nB := by unfold nd; rw [F2_b]; rfl
  have e2 : nd F2 ida = nA := by unfold nd; rw [F2_a]; rfl
  have h1 : Climb F2 ida [] (nd F2 ida).pr := Climb.top (Or.inr (by rw [e2]; rfl))
  rw [e2] at h1
  have h2 := Climb.up (f := F2) (k := idb) (l := []) (p := false) (by rw [e1]; rfl) (by rw [e1]; exact ida_z) (by rw [e1]; exact h1)
  rwa [e1] at h2
theorem F2_back : upd F3 ida (some nA) = F2 := by
  funext x
  by_cases e : x = ida
  · subst e; rw [upd_same, F2_a]
  · rw [upd_ne e]; unfold F3; rw [upd_ne e]
theorem dom_F2 : Dom F2 [ida, idb] := by
  refine ⟨fun x => ?_, by simp [ida_b], fun x hx => ?_⟩
  · by_cases ea : x = ida
    · subst ea; rw [F2_a]; simp
    · by_cases eb : x = idb
      · subst eb; rw [F2_b]; simp
      · rw [F2_o ea eb]; simp [ea, eb]
  · simp at hx
    rcases hx with rfl | rfl
    · exact ida_ok
    · exact idb_ok
theorem dom_F3 : Dom F3 [ida, idb] := by
  refine ⟨fun x => ?_, by simp [ida_b], dom_F2.ok⟩
  rw [dom_F2.mem]
  by_cases ea : x = ida
  · subst ea; rw [F3_a, F2_a]; simp
  · unfold F3; rw [upd_ne ea]
theorem gC_1 : gC (fun _ => none) ida zId = 0 := by unfold gC; rw [if_neg ida_z]; simp [Bears]
theorem gC_2 : gC F1 idb ida = 0 := by
  unfold gC F1
  rw [if_neg idb_z, upd_ne (Ne.symm ida_b)]
  simp [Bears, upd_same]
theorem mC_r : mC F2 ida idb = 100 := by
  unfold mC
  rw [if_neg (by rw [F2_a]; simp), if_neg (by unfold Bears; rw [F2_b]; simp), if_pos (show Above F2 idb ida from Or.inr ⟨_, _, climb_F2, by simp⟩)]
theorem pC_a : pC F2 ida = 0 := by
  unfold pC
  rw [if_neg (by rw [F2_a]; simp), if_neg (by unfold nd; rw [F2_a]; simp [nA])]
theorem build_idn (w : World) (n : Int) : (Instr.build 37 #[(1, .int .i64 n)]).run Try.prog w = .ok (IdK.v ⟨List.replicate 32 0, n⟩) w := by kernel_rfl
theorem exec_bid {w : World} {a : Act} {o : Oper} {x : Operand} (n : Int) (ho : o.op = .build 37 #[(1, x)]) (hx : a.eval x = .int .i64 n) : (execOp a.eval o).run Try.prog w = .ok (.value (IdK.v ⟨List.replicate 32 0, n⟩)) w :=
  exec_build ho (by simp [hx]) (build_idn w n)
def IdsIs (L : List IdK) (w : World) (v : Value) : Prop := ∃ a c, v = .slice a L.length c ∧ IdsAt w a L
theorem IdsIs.keep {L : List IdK} (W W' : World) (v : Value) (h : IdsIs L W v) (b : Below W.heap.size W W') : IdsIs L W' v := by
  obtain ⟨a, c, e, h⟩ := h
  exact ⟨a, c, e, h.below b⟩
theorem bs2_id (x y : IdK) (hx : x.ok) (hy : y.ok) (w : World) : ∃ u wu, (Instr.buildSlice 41 2 #[(0, x.v), (1, y.v)]).run Try.prog w = .ok u wu ∧ IdsIs [x, y] wu u ∧ Below w.heap.size w wu := by
  obtain ⟨ie, hi, hz, hs, hby⟩ := info_parts infoI
  refine ⟨.slice (some ⟨w.heap.size, 0, none⟩) 2 2, w.alloc (.cells (x.c ++ y.c).toArray 37), ?_, ⟨some ⟨w.heap.size, 0, none⟩, 2, rfl, Or.inr ⟨w.heap.size, 0, rfl, by simp, fun i h hi j v hj => ?_⟩⟩, (Below.refl _ _).alloc (Nat.le_refl _) _⟩
  · refine run_buildSlice w 41 37 2 _ (x.c ++ y.c).toArray ie _ Try.underlying41 hi hz (by rw [hs]; decide) (by rw [hs]; decide) ?_
    rw [hs]
    have := Go.Great.fill_whole (s := 33) (by decide) [.agg x.c.toArray, .agg y.c.toArray] ((Array.range (2 * 33)).map ((Value.agg (IdK.c zId).toArray).cells[· % (Value.agg (IdK.c zId).toArray).cells.size]!)) (by
      intro v hv
      simp at hv
      rcases hv with rfl | rfl
      · show x.c.toArray.size = 33; rw [List.size_toArray, IdK.len hx]
      · show y.c.toArray.size = 33; rw [List.size_toArray, IdK.len hy]) (by simp)
    simpa [Value.cells, IdK.v] using this
  · have hl := (List.getElem?_eq_some_iff.1 hj).1
    have lx := IdK.len hx
    refine cell_new w (x.c ++ y.c) 37 _ v ?_
    match i, hi with
    | 0, hi =>
      simp at hi; subst hi
      rw [Nat.mul_zero, Nat.add_zero, Nat.zero_add, List.getElem?_append_left hl]
      exact hj
    | 1, hi =>
      simp at hi; subst hi
      rw [List.getElem?_append_right (by omega), lx, show 0 + 33 * 1 + j - 33 = j by omega]
      exact hj
theorem eql_back_nil (w : World) (a : Addr) : (binOp .eql 45 (.pointer (some a)) (.pointer none)).run Try.prog w = .ok (.bool false) w := by go_simp
theorem StepP.ok {B : Nat} {w : World} {s : Tr} {H : List Rec} {f : Fn} {k : IdK} {n : NodeV} {c : Int} (hc : c = 0) {e : Ending} {w' : World} (h : StepP B w s H f k n c e w') : ∃ s' r, Done B w s H f k n e w' s' r := by
  rcases h with ⟨h, _⟩ | ⟨_, h⟩
  · exact absurd hc h
  · exact h
theorem StepP.no {B : Nat} {w : World} {s : Tr} {H : List Rec} {f : Fn} {k : IdK} {n : NodeV} {c : Int} (hc : c ≠ 0) {e : Ending} {w' : World} (h : StepP B w s H f k n c e w') : e = .returned (.tuple #[.pointer none, .int .i64 c]) ∧ Below w.heap.size w w' := by
  rcases h with ⟨_, h⟩ | ⟨h, _⟩
  · exact h
  · exact absurd h hc
theorem alive_any (w : World) : Calls Try.prog 9 #[] w fun e w' => e = .returned (.bool true) ∧ Below w.heap.size w w' := by
  go_enter Try.func9, Try.ntmps9
  go_upto_region 2 with (first
    | (go_at_call 10; refine (new_own w).mono ?_; rintro e w1 ⟨s0, rfl, own0, b1⟩)
    | fail)
  obtain ⟨x1, ea1, es1⟩ := id_new w1 ida ida_ok
  obtain ⟨hA2, b2, z2⟩ := box_id w1 ida
  have Z2 := hidMk z2
  clear z2
  generalize w1.alloc (.cells ida.c.toArray 37) = w2 at *
  obtain ⟨x2, ea2, es2⟩ := id_new w2 idb idb_ok
  obtain ⟨hB3, b3, z3⟩ := box_id w2 idb
  have Z3 := hidMk z3
  clear z3
  generalize w2.alloc (.cells idb.c.toArray 37) = w3 at *
  have EA1 := hidMk ea1
  have ES1 := hidMk es1
  have EA2 := hidMk ea2
  have ES2 := hidMk es2
  clear ea1 es1 ea2 es2
  obtain ⟨A, hAe⟩ : ∃ A, w1.heap.size = A := ⟨_, rfl⟩
  obtain ⟨Bb, hBe⟩ : ∃ Bb, w2.heap.size = Bb := ⟨_, rfl⟩
  rw [hAe] at hA2 EA1 ES1 b2
  rw [hBe] at hB3 EA2 ES2 b3
  have HAe := hidMk hAe
  have HBe := hidMk hBe
  have hA3 : IdAt w3 A ida := (b3.block _ (by have := Z2.out; omega)).trans hA2
  have own3 : Own w.heap.size w3 s0 [] (fun _ => none) := (own0.below (by rw [hAe]; exact b2)).below (by rw [hBe]; exact b3)
  have bel3 : Below w.heap.size w w3 := (b1.trans (b2.mono (by have := b1.size; omega))).trans (b3.mono (by have := b1.size; have := b2.size; omega))
  have hbl0 : ∀ j ∈ s0.bl, j < A := fun j hj => by rw [← hAe]; exact own0.tree.tr.lt j hj
  have hAB : A < Bb ∧ Bb < w3.heap.size := by have := Z2.out; have := Z3.out; omega
  clear hA2 own0 b1 b2 b3 hAe hBe
  go_upto_region 4 with (first
    | (refine wpList_val rfl (exec_bid 1 rfl rfl) ?_)
    | (refine wpList_val rfl (exec_bid 2 rfl rfl) ?_)
    | (refine wpList_run rfl (exec_alloc (t := 37) rfl EA1.out) ?_)
    | (refine wpList_skip rfl rfl (exec_store (t := 37) (xv := .pointer (some ⟨A, 0, none⟩)) (yv := ida.v) rfl rfl rfl ES1.out) ?_)
    | (refine wpList_run rfl (exec_alloc (t := 37) rfl EA2.out) ?_)
    | (refine wpList_skip rfl rfl (exec_store (t := 37) (xv := .pointer (some ⟨Bb, 0, none⟩)) (yv := idb.v) rfl rfl rfl ES2.out) ?_)
    | fail)
  simp only [Act.put, List.setIfInBounds_toArray, List.set_cons_zero, List.set_cons_succ]
  clear EA1 ES1 EA2 ES2
  have g1 := grow_all own3 (by have := bel3.size; omega) ida zId ⟨#[107]⟩ ida_ok zId_ok
  obtain ⟨τ, hτ⟩ : ∃ τ, s0.t = τ := ⟨_, rfl⟩
  rw [hτ] at g1 ⊢
  have G1 := hidMk g1
  have Hτ := hidMk hτ
  have LA3 := hidMk (load_id ida_ok hA3)
  clear g1 hτ
  go_upto_region 5 with (first
    | (refine wpList_val rfl (exec_load (t := 37) (u := .pointer (some ⟨A, 0, none⟩)) rfl rfl LA3.out) ?_)
    | (refine wpList_val rfl (exec_build0 rfl (build_id _)) ?_)
    | (go_at_call 17; refine G1.out.mono ?_; intro e w4 q1; obtain ⟨s1, r1, d1⟩ := q1.ok gC_1; obtain ⟨rfl, own4, st1, rk1, ro1, t1, bl1, rb1⟩ := d1; clear q1)
    | fail)
  have nbl0 : ∀ j ∈ s0.bl, j ≠ A ∧ j ≠ Bb := fun j hj => by have := hbl0 j hj; omega
  have own4' : Own w.heap.size w4 s1 [r1] F1 := own4
  have s3 : w3.heap.size ≤ w4.heap.size := t1.size
  have hA4 : IdAt w4 A ida := (t1.block A (by omega) (fun q => (nbl0 A q).1 rfl)).trans hA3
  have hB4 : IdAt w4 Bb idb := (t1.block Bb (by omega) (fun q => (nbl0 Bb q).2 rfl)).trans hB3
  have nbl1 : ∀ j ∈ s1.bl, j ≠ A ∧ j ≠ Bb := fun j hj => by
    rcases bl1 j hj with q | q
    · exact nbl0 j q
    · omega
  have bel4 : Below w.heap.size w w4 := bel3.trans (t1.below bel3.size (fun j hj => own3.ge j hj))
  have hτ1 : s1.t = τ := st1.trans Hτ.out
  have hr1 : r1.bk < w4.heap.size := by have := own4'.tree.hist.lt r1 (by simp) r1.bk (by simp [Rec.bl]); exact this
  have g2 := grow_all own4' (by have := bel4.size; omega) idb ida ⟨#[106]⟩ idb_ok ida_ok
  rw [hτ1] at g2
  have G2 := hidMk g2
  have LA4 := hidMk (load_id ida_ok hA4)
  have LB4 := hidMk (load_id idb_ok hB4)
  have HAB := hidMk hAB
  have HTT := hidMk hτ1
  clear g2 G1 LA3 hA3 hB3 hbl0 t1 bl1 own3 own4 bel3 hAB rk1 ro1 rb1 st1 hτ1 nbl0 s3
  go_upto_region 6 with (first
    | (refine wpList_val rfl (exec_load (t := 37) (u := .pointer (some ⟨A, 0, none⟩)) rfl rfl LA4.out) ?_)
    | (refine wpList_val rfl (exec_load (t := 37) (u := .pointer (some ⟨Bb, 0, none⟩)) rfl rfl LB4.out) ?_)
    | (go_at_call 17; refine G2.out.mono ?_; intro e w5 q1; obtain ⟨s2, r2, d1⟩ := q1.ok gC_2; obtain ⟨rfl, own5, st2, rk2, ro2, t2, bl2, rb2⟩ := d1; clear q1)
    | fail)
  have hAB := HAB.out
  have s4 : w4.heap.size ≤ w5.heap.size := t2.size
  have own5' : Own w.heap.size w5 s2 [r2, r1] F2 := own5
  have hA5 : IdAt w5 A ida := (t2.block A (by have := (Array.getElem?_eq_some_iff.1 hA4).1; omega) (fun q => (nbl1 A q).1 rfl)).trans hA4
  have hB5 : IdAt w5 Bb idb := (t2.block Bb (by have := (Array.getElem?_eq_some_iff.1 hB4).1; omega) (fun q => (nbl1 Bb q).2 rfl)).trans hB4
  have nbl2 : ∀ j ∈ s2.bl, j ≠ A ∧ j ≠ Bb := fun j hj => by
    rcases bl2 j hj with q | q
    · exact nbl1 j q
    · have h1 := (Array.getElem?_eq_some_iff.1 hA4).1
      have h2 := (Array.getElem?_eq_some_iff.1 hB4).1
      omega
  have bel5 : Below w.heap.size w w5 := bel4.trans (t2.below bel4.size (fun j hj => own4'.ge j hj))
  have hτ2 : s2.t = τ := st2.trans HTT.out
  have lA5 := (Array.getElem?_eq_some_iff.1 hA5).1
  have lB5 := (Array.getElem?_eq_some_iff.1 hB5).1
  have hr1' : r1.bk < w5.heap.size := by omega
  clear G2 LA4 LB4 hA4 hB4 nbl1 bel4 t2 bl2 own4' own5 hr1 HAB s4
  have OW := hidMk (fun (W : World) (b : Below w5.heap.size w5 W) => own5'.below b)
  refine live6 w5.heap.size w5 τ A Bb ⟨r1.bk, 0, none⟩ ida.v idb.v (IdsIs [ida, idb]) (IdsIs [ida, idb]) _ w5 _ rfl rfl rfl rfl rfl rfl rfl ?_ ?_ ?_ ?_ ?_ ?_ ?_ ?_ ?_ ?_ ?_ ?_ ?_ ?_
  · exact (Below.refl _ _).drew
  · exact fun W b => b.size
  · exact fun W => guard_back _ _ _ _ _ _
  · exact fun W => eql_back_nil W _
  · exact fun W b => load_id ida_ok ((b.block _ lA5).trans hA5)
  · exact fun W b => load_id idb_ok ((b.block _ lB5).trans hB5)
  · exact IdsIs.keep
  · exact IdsIs.keep
  · intro W b
    have := walk_own (OW.out W b) dom_F2 (by simp)
    rw [hτ2] at this
    refine this.mono ?_
    rintro e w' ⟨v, L, rfl, own, hw, bw⟩
    obtain rfl := hw.unique walk_F2
    obtain ⟨a, c, e2, h2, _⟩ := own.open dom_F2.ok
    exact ⟨v, rfl, ⟨a, c, e2, h2⟩, bw⟩
  · exact fun W b => bs2_id ida idb ida_ok idb_ok W
  · rintro W v u b ⟨a1, c1, rfl, h1⟩ ⟨a2, c2, rfl, h2⟩
    refine (same_ids a1 a2 c1 c2 [ida, idb] [ida, idb] W h1 h2 dom_F2.ok dom_F2.ok (by simp)).mono ?_
    rintro e w' ⟨rfl, bw⟩
    exact ⟨by simp, bw⟩
  · intro W b
    have := deep_own (OW.out W b) dom_F2 (by simp) idb idb_ok
    rw [hτ2] at this
    refine this.mono ?_
    rintro e w' ⟨d, rfl, hd, bw⟩
    obtain rfl := hd.unique (Or.inr ⟨by rw [F2_b]; rfl, _, _, climb_F2, rfl⟩)
    exact ⟨rfl, bw⟩
  all_goals
    intro v1 u1 a' w6 b6 ha
    subst ha
    simp only [Act.put, List.setIfInBounds_toArray, List.set_cons_zero, List.set_cons_succ]
    have own6 := OW.out w6 b6
    have bel6 : Below w.heap.size w w6 := bel5.trans (b6.mono bel5.size)
    have LA6 := hidMk (fun (W : World) (b : Below w6.heap.size w6 W) => load_id ida_ok ((b.block _ (Nat.lt_of_lt_of_le lA5 b6.size)).trans ((b6.block _ lA5).trans hA5)))
    have LB6 := hidMk (fun (W : World) (b : Below w6.heap.size w6 W) => load_id idb_ok ((b.block _ (Nat.lt_of_lt_of_le lB5 b6.size)).trans ((b6.block _ lB5).trans hB5)))
    have M6 := move_all own6 bel6.size ida idb ⟨#[107]⟩ ida_ok idb_ok
    rw [hτ2] at M6
    have HM6 := hidMk M6
    have HT2 := hidMk hτ2
    have HR1 := hidMk hr1'
    clear M6 hτ2 hr1'
    go_upto_region 9 with (first
      | (refine wpList_val rfl (exec_load (t := 37) (u := .pointer (some ⟨A, 0, none⟩)) rfl rfl (LA6.out _ (Below.refl _ _))) ?_)
      | (refine wpList_val rfl (exec_load (t := 37) (u := .pointer (some ⟨Bb, 0, none⟩)) rfl rfl (LB6.out _ (Below.refl _ _))) ?_)
      | (go_at_call 19; refine HM6.out.mono ?_; intro e w7 q1; obtain ⟨rfl, b7⟩ := q1.no (by rw [mC_r]; decide); clear q1; rw [mC_r])
      | fail)
    have own7 := own6.below b7
    have bel7 : Below w.heap.size w w7 := bel6.trans (b7.mono bel6.size)
    have P7 := prune_all own7 bel7.size ida ida_ok
    rw [HT2.out] at P7
    have HP7 := hidMk P7
    clear P7 HM6 LB6
    go_upto_region 10 with (first
      | (refine wpList_val rfl (exec_load (t := 37) (u := .pointer (some ⟨A, 0, none⟩)) rfl rfl (LA6.out _ b7)) ?_)
      | (go_at_call 20; refine HP7.out.mono ?_; intro e w8 q1; obtain ⟨s4, r4, d4⟩ := q1.ok pC_a; obtain ⟨rfl, own8, st4, rk4, ro4, t4, bl4, rb4⟩ := d4; clear q1)
      | fail)
    have own8' : Own w.heap.size w8 s4 (r4 :: [r2, r1]) F3 := own8
    have bel8 : Below w.heap.size w w8 := bel7.trans (t4.below bel7.size (fun j hj => own7.ge j hj))
    have hτ4 : s4.t = τ := st4.trans HT2.out
    have hr1 := HR1.out
    have h41 : r4.bk ≠ r1.bk := by
      have h1 := rb4 r4.bk (by simp [Rec.bl])
      have h2 := b6.size
      have h3 := b7.size
      omega
    obtain ⟨c1, hc1⟩ := Hist.back own8'.tree.hist.2.2.1
    have U8 := undo_no s4 (r4 :: [r2, r1]) r1.bk c1 w8 own8'.tree hc1 (by simp [ptr, Ne.symm h41])
    rw [hτ4] at U8
    have HU8 := hidMk U8
    have OW8 := hidMk (fun (W : World) (b : Below w8.heap.size w8 W) => own8'.below b)
    have hro : r4.o = some nA := ro4.trans F2_a
    have hback : upd F3 r4.k r4.o = F2 := by rw [rk4, hro]; exact F2_back
    have HB8 := hidMk hback
    have HT4 := hidMk hτ4
    have hF2 := own7.ft
    clear U8 hτ4 own8 hc1 hr1 h41 ro4 rk4 hro hback HP7 LA6 own6 own7 t4 bl4 rb4
    go_wp2_with (first
      | (go_at_call_of 18 (Value.pointer (some ⟨r1.bk, 0, none⟩)); refine HU8.out.mono ?_; rintro e w9 ⟨rfl, b9⟩; clear HU8; have HW := hidMk (by have q := walk_own (OW8.out w9 b9) dom_F3 (by simp); rw [HT4.out] at q; exact q))
      | (go_at_call 23; refine HW.out.mono ?_; rintro e w10 ⟨v10, L10, rfl, own10, hw10, b10⟩; clear HW; obtain rfl := hw10.unique walk_F3; obtain ⟨a10, c10, rfl, _⟩ := own10.open (by simp); have b10' : Below w8.heap.size w8 w10 := b9.trans (b10.mono b9.size); have HU := hidMk (by have q := undo_all (OW8.out w10 b10') (Nat.le_trans bel8.size b10'.size) (by rw [HB8.out]; exact hF2); rw [HT4.out] at q; exact q); clear own10 hw10; simp only [List.length_nil])
      | (go_at_call_of 18 (Value.pointer (some ⟨r4.bk, 0, none⟩)); refine HU.out.mono ?_; intro e w11 q; obtain ⟨rfl, s5, own11, st5, t11, bl11⟩ := q; rw [HB8.out] at own11; have bel11 : Below w.heap.size w w11 := (bel8.trans (b10'.mono bel8.size)).trans (t11.below (Nat.le_trans bel8.size b10'.size) (fun j hj => own8'.ge j hj)); have HW2 := hidMk (by have q := walk_own own11 dom_F2 (by simp); rw [st5, HT4.out] at q; exact q); clear HU own11 t11 bl11 st5)
      | (go_at_call 23; refine HW2.out.mono ?_; rintro e w12 ⟨v12, L12, rfl, own12, hw12, b12⟩; clear HW2; obtain rfl := hw12.unique walk_F2; obtain ⟨a12, c12, rfl, _⟩ := own12.open dom_F2.ok; clear own12 hw12; simp only [List.length_cons, List.length_nil])
      | fail)
    go_ret
    exact ⟨rfl, bel11.trans (b12.mono bel11.size)⟩
def under3_o0 : Oper := ⟨some 17, .move (.tmp 0), 25, "tell.go:53", #[], none⟩
def under3_o1 : Oper := ⟨some 18, .nilCheck (.tmp 17), 0, "tell.go:53", #[⟨0, .data⟩], none⟩
def under3_o2 : Oper := ⟨some 19, .fieldAddr 82 (.tmp 18) 0, 0, "tell.go:53", #[⟨1, .data⟩], none⟩
def under3_o3 : Oper := ⟨some 20, .load 79 (.tmp 19), 79, "tell.go:53", #[⟨2, .data⟩], none⟩
def under3_o4 : Oper := ⟨some 21, .load 37 (.tmp 3), 37, "tell.go:53", #[], none⟩
def under3_o5 : Oper := ⟨some 22, .lookup 79 (.tmp 20) (.tmp 21) false, 94, "tell.go:53", #[⟨3, .data⟩, ⟨4, .data⟩], none⟩
def under3_o6 : Oper := ⟨some 7, .alloc 94, 0, "tell.go:53", #[], none⟩
def under3_o7 : Oper := ⟨none, .store 94 (.tmp 7) (.tmp 22), 0, "tell.go:53", #[⟨6, .data⟩, ⟨5, .data⟩, ⟨0, .phase⟩, ⟨1, .phase⟩, ⟨2, .phase⟩, ⟨3, .phase⟩, ⟨4, .phase⟩, ⟨5, .phase⟩, ⟨6, .phase⟩], none⟩
def under3_ops : Array Oper := #[under3_o0, under3_o1, under3_o2, under3_o3, under3_o4, under3_o5, under3_o6, under3_o7]
theorem under3 (t bi nb : Nat) (mv kv nv : Value) (w1 w2 : World) (S : World → Prop) (a : Act) (w : World) (Q : Exit → Act → World → Prop) (hsz : a.tmps.size = 30)
    (h0 : a.tmps.getD 0 undef = .pointer (some ⟨t, 0, none⟩))
    (h3 : a.tmps.getD 3 undef = .pointer (some ⟨bi, 0, none⟩))
    (hS0 : S w.drew)
    (H3 : ∀ wx, S wx → (Instr.loadAt 79 (.pointer (some ⟨t, 0, none⟩))).run Try.prog wx = .ok (mv) wx)
    (H4 : ∀ wx, S wx → (Instr.loadAt 37 (.pointer (some ⟨bi, 0, none⟩))).run Try.prog wx = .ok (kv) wx)
    (H5 : ∀ wx, S wx → (Instr.lookup 79 (mv) (kv) false).run Try.prog wx = .ok (nv) wx)
    (H6 : (Instr.alloc 94 true (.tuple #[])).run Try.prog (w.drew) = .ok (.pointer (some ⟨nb, 0, none⟩)) w1) (S1 : S w1)
    (H7 : (Instr.storeAt 94 (.pointer (some ⟨nb, 0, none⟩)) (nv)).run Try.prog (w1) = .ok () w2) (S2 : S w2)
    (h : ∀ (a' : Act), a' = (((((((a).put (some 17) (.pointer (some ⟨t, 0, none⟩))).put (some 18) (.pointer (some ⟨t, 0, none⟩))).put (some 19) (.pointer (some ⟨t, 0, none⟩))).put (some 20) (mv)).put (some 21) (kv)).put (some 22) (nv)).put (some 7) (.pointer (some ⟨nb, 0, none⟩)) → Q .normal a' w2) :
    (Code.region 3 under3_ops true).wp Try.prog Q a w := by
  refine wp_region_noPanic ?_
  refine wp_region_held_drew (S := S) (by kernel_rfl) hS0 (fun hHeld => ?_)
  refine tk 0 under3_o0 (.pointer (some ⟨t, 0, none⟩)) (by rfl) (fun w1 hw => exec_move rfl (h0)) hHeld (fun a1 e1 => ?_)
  rw [← e1] at h
  have z1 := pz e1 hsz
  clear h0
  replace h3 := pk e1 h3
  have h17 := pq e1 hsz
  clear e1 hsz
  refine tk 1 under3_o1 (.pointer (some ⟨t, 0, none⟩)) (by rfl) (fun w1 hw => exec_nilCheck rfl (h17)) hHeld (fun a2 e2 => ?_)
  rw [← e2] at h
  have z2 := pz e2 z1
  replace h3 := pk e2 h3
  clear h17
  have h18 := pq e2 z1
  clear e2 z1
  refine tk 2 under3_o2 (.pointer (some ⟨t, 0, none⟩)) (by rfl) (fun w1 hw => exec_fieldAt rfl (h18) (fa_82_0 _ _)) hHeld (fun a3 e3 => ?_)
  rw [← e3] at h
  have z3 := pz e3 z2
  replace h3 := pk e3 h3
  clear h18
  have h19 := pq e3 z2
  clear e3 z2
  refine tk 3 under3_o3 (mv) (by rfl) (fun w1 hw => exec_load rfl (h19) (H3 _ hw)) hHeld (fun a4 e4 => ?_)
  rw [← e4] at h
  have z4 := pz e4 z3
  replace h3 := pk e4 h3
  clear h19
  have h20 := pq e4 z3
  clear e4 z3
  refine tk 4 under3_o4 (kv) (by rfl) (fun w1 hw => exec_load rfl (h3) (H4 _ hw)) hHeld (fun a5 e5 => ?_)
  rw [← e5] at h
  have z5 := pz e5 z4
  clear h3
  replace h20 := pk e5 h20
  have h21 := pq e5 z4
  clear e5 z4
  refine tk 5 under3_o5 (nv) (by rfl) (fun w1 hw => exec_lookup rfl (h20) (h21) (H5 _ hw)) hHeld (fun a6 e6 => ?_)
  rw [← e6] at h
  have z6 := pz e6 z5
  clear h20
  clear h21
  have h22 := pq e6 z5
  clear e6 z5
  refine wpAnyH_ready (rs := [6]) (by kernel_rfl) (by simp) ?_
  refine AllReadyH.cons (o := under3_o6) rfl (fun K hK => ?_) AllReadyH.nil
  have X := exec_alloc (P := Try.prog) (a := a6) (o := under3_o6) rfl H6
  rw [if_pos (show Region.wanted under3_o6 (yielded under3_ops (a6).tmps) = true from rfl), Oper.wp, X]
  show K _ _
  clear X
  refine hK.out _ _ S1 (fun hHeld => ?_)
  clear hK K
  change wpAnyH _ _ _ _ _ _ _ (a6.put (some 7) (.pointer (some ⟨nb, 0, none⟩))) _
  obtain ⟨a7, e7⟩ : ∃ act, act = a6.put (some 7) (.pointer (some ⟨nb, 0, none⟩)) := ⟨_, rfl⟩
  rw [← e7] at h ⊢
  have z7 := pz e7 z6
  replace h22 := pk e7 h22
  have h7 := pq e7 z6
  clear e7 z6
  refine wpAnyH_ready (rs := [7]) (by kernel_rfl) (by simp) ?_
  refine AllReadyH.cons (o := under3_o7) rfl (fun K hK => ?_) AllReadyH.nil
  have X := exec_store (P := Try.prog) (a := a7) (o := under3_o7) rfl (h7) (h22) H7
  rw [if_pos (show Region.wanted under3_o7 (yielded under3_ops (a7).tmps) = true from rfl), Oper.wp, X]
  show K a7 w2
  clear X
  refine hK.out _ _ S2 (fun hHeld => ?_)
  clear hK K
  clear h22
  clear h7
  exact wpAnyH_done (by kernel_rfl) (NoPanic.normal (h _ rfl)) _
def under4_o0 : Oper := ⟨some 23, .fieldAddr 94 (.tmp 7) 0, 0, "tell.go:54", #[], none⟩
def under4_o1 : Oper := ⟨some 24, .load 37 (.tmp 23), 37, "tell.go:54", #[⟨0, .data⟩], none⟩
def under4_o2 : Oper := ⟨some 25, .fieldAddr 94 (.tmp 7) 1, 0, "tell.go:54", #[{ on := 7, ground := Ground.gcOnly Departure.lateStores }], none⟩
def under4_o3 : Oper := ⟨some 26, .load 9 (.tmp 25), 9, "tell.go:54", #[⟨2, .data⟩, { on := 7, ground := Ground.gcOnly Departure.lateStores }], none⟩
def under4_o4 : Oper := ⟨some 27, .fieldAddr 94 (.tmp 7) 2, 0, "tell.go:54", #[{ on := 8, ground := Ground.gcOnly Departure.lateStores }], none⟩
def under4_o5 : Oper := ⟨some 28, .load 4 (.tmp 27), 4, "tell.go:54", #[⟨4, .data⟩, { on := 8, ground := Ground.gcOnly Departure.lateStores }], none⟩
def under4_o6 : Oper := ⟨some 29, .unOp UnOp.not 4 (.tmp 28), 4, "tell.go:54", #[⟨5, .data⟩, { on := 8, ground := Ground.gcOnly Departure.lateStores }], none⟩
def under4_o7 : Oper := ⟨none, .store 37 (.tmp 4) (.tmp 24), 0, "tell.go:54", #[⟨1, .data⟩, ⟨0, .phase⟩, ⟨1, .phase⟩, { on := 2, ground := Ground.textOnly Departure.lateStores }, { on := 3, ground := Ground.textOnly Departure.lateStores }, { on := 4, ground := Ground.textOnly Departure.lateStores }, { on := 5, ground := Ground.textOnly Departure.lateStores }, { on := 6, ground := Ground.textOnly Departure.lateStores }], none⟩
def under4_o8 : Oper := ⟨some 5, .assign (.tmp 26), 9, "tell.go:54", #[⟨3, .data⟩, ⟨7, .chain⟩, ⟨0, .phase⟩, ⟨1, .phase⟩, ⟨2, .phase⟩, ⟨3, .phase⟩, { on := 4, ground := Ground.textOnly Departure.lateStores }, { on := 5, ground := Ground.textOnly Departure.lateStores }, { on := 6, ground := Ground.textOnly Departure.lateStores }, ⟨7, .phase⟩], none⟩
def under4_o9 : Oper := ⟨some 6, .assign (.tmp 29), 4, "tell.go:54", #[⟨6, .data⟩, ⟨8, .chain⟩, ⟨0, .phase⟩, ⟨1, .phase⟩, ⟨2, .phase⟩, ⟨3, .phase⟩, ⟨4, .phase⟩, ⟨5, .phase⟩, ⟨6, .phase⟩, ⟨7, .phase⟩, ⟨8, .phase⟩], none⟩
def under4_ops : Array Oper := #[under4_o0, under4_o1, under4_o2, under4_o3, under4_o4, under4_o5, under4_o6, under4_o7, under4_o8, under4_o9]
theorem under4 (nb rb : Nat) (uv : Value) (ks : ByteArray) (pb : Bool) (w2 : World) (S : World → Prop) (a : Act) (w : World) (Q : Exit → Act → World → Prop) (hsz : a.tmps.size = 30)
    (t4 : a.tmps.getD 4 undef = .pointer (some ⟨rb, 0, none⟩))
    (t7 : a.tmps.getD 7 undef = .pointer (some ⟨nb, 0, none⟩))
    (h0 : S w.drew) (S2 : S w2)
    (HU : ∀ W, S W → (Instr.loadAt 37 (.pointer (some ⟨nb, 0, none⟩))).run Try.prog W = .ok uv W)
    (HK : ∀ W, S W → (Instr.loadAt 9 (.pointer (some ⟨nb, 33, none⟩))).run Try.prog W = .ok (.string ks) W)
    (HP : ∀ W, S W → (Instr.loadAt 4 (.pointer (some ⟨nb, 34, none⟩))).run Try.prog W = .ok (.bool pb) W)
    (HST : (Instr.storeAt 37 (.pointer (some ⟨rb, 0, none⟩)) uv).run Try.prog w.drew = .ok () w2)
    (h : ∀ (a' : Act), a' = (((((((((a).put (some 23) (.pointer (some ⟨nb, 0, none⟩))).put (some 24) (uv)).put (some 25) (.pointer (some ⟨nb, 33, none⟩))).put (some 26) (.string ks)).put (some 27) (.pointer (some ⟨nb, 34, none⟩))).put (some 28) (.bool pb)).put (some 29) (.bool (!pb))).put (some 5) (.string ks)).put (some 6) (.bool (!pb)) → Q .normal a' w2) :
    (Code.region 4 under4_ops true).wp Try.prog Q a w := by
  refine wp_region_noPanic ?_
  refine wp_region_held_drew (S := fun w' => S w') (by kernel_rfl) (h0) (fun hHeld => ?_)
  change wpAnyH _ _ _ _ _ _ _ a _
  refine tk 0 under4_o0 (.pointer (some ⟨nb, 0, none⟩)) (by rfl) (fun w1 hw => exec_fieldAt rfl t7 (fa_94_0 _ _)) hHeld (fun a1 e1 => ?_)
  rw [← e1] at h
  have z1 := pz e1 hsz
  replace t4 := pk e1 t4
  replace t7 := pk e1 t7
  have t23 := pq e1 hsz
  clear e1 hsz
  refine tk 1 under4_o1 (uv) (by rfl) (fun w1 hw => exec_load rfl t23 (HU _ hw)) hHeld (fun a2 e2 => ?_)
  rw [← e2] at h
  have z2 := pz e2 z1
  replace t4 := pk e2 t4
  replace t7 := pk e2 t7
  clear t23
  have t24 := pq e2 z1
  clear e2 z1
  refine tk 2 under4_o2 (.pointer (some ⟨nb, 33, none⟩)) (by rfl) (fun w1 hw => exec_fieldAt rfl t7 (fa_94_1 _ _)) hHeld (fun a3 e3 => ?_)
  rw [← e3] at h
  have z3 := pz e3 z2
  replace t4 := pk e3 t4
  replace t7 := pk e3 t7
  replace t24 := pk e3 t24
  have t25 := pq e3 z2
  clear e3 z2
  refine tk 3 under4_o3 (.string ks) (by rfl) (fun w1 hw => exec_load rfl t25 (HK _ hw)) hHeld (fun a4 e4 => ?_)
  rw [← e4] at h
  have z4 := pz e4 z3
  replace t4 := pk e4 t4
  replace t7 := pk e4 t7
  replace t24 := pk e4 t24
  clear t25
  have t26 := pq e4 z3
  clear e4 z3
  refine tk 4 under4_o4 (.pointer (some ⟨nb, 34, none⟩)) (by rfl) (fun w1 hw => exec_fieldAt rfl t7 (fa_94_2 _ _)) hHeld (fun a5 e5 => ?_)
  rw [← e5] at h
  have z5 := pz e5 z4
  replace t4 := pk e5 t4
  clear t7
  replace t24 := pk e5 t24
  replace t26 := pk e5 t26
  have t27 := pq e5 z4
  clear e5 z4
  refine tk 5 under4_o5 (.bool pb) (by rfl) (fun w1 hw => exec_load rfl t27 (HP _ hw)) hHeld (fun a6 e6 => ?_)
  rw [← e6] at h
  have z6 := pz e6 z5
  replace t4 := pk e6 t4
  replace t24 := pk e6 t24
  replace t26 := pk e6 t26
  clear t27
  have t28 := pq e6 z5
  clear e6 z5
  refine tk 6 under4_o6 (.bool (!pb)) (by rfl) (fun w1 hw => by unfold under4_o6; go_simp) hHeld (fun a7 e7 => ?_)
  rw [← e7] at h
  have z7 := pz e7 z6
  replace t4 := pk e7 t4
  replace t24 := pk e7 t24
  replace t26 := pk e7 t26
  clear t28
  have t29 := pq e7 z6
  clear e7 z6
  refine wpAnyH_ready (rs := [7]) (by kernel_rfl) (by simp) ?_
  refine AllReadyH.cons (o := under4_o7) rfl (fun K hK => ?_) AllReadyH.nil
  skip
  have X := exec_store (P := Try.prog) (a := a7) (o := under4_o7) rfl t4 t24 HST
  rw [if_pos (by rfl), Oper.wp, X]
  show K _ _
  clear X
  refine hK.out _ _ (S2) (fun hHeld => ?_)
  clear hK K
  change wpAnyH _ _ _ _ _ _ _ a7 _
  refine tk 8 under4_o8 (.string ks) (by rfl) (fun w1 hw => by unfold under4_o8; go_simp) hHeld (fun a9 e9 => ?_)
  rw [← e9] at h
  have z9 := pz e9 z7
  clear t4
  clear t24
  clear t26
  replace t29 := pk e9 t29
  clear e9 z7
  refine tk 9 under4_o9 (.bool (!pb)) (by rfl) (fun w1 hw => by unfold under4_o9; go_simp) hHeld (fun a10 e10 => ?_)
  rw [← e10] at h
  have z10 := pz e10 z9
  clear t29
  clear e10 z9
  exact wpAnyH_done (by kernel_rfl) (NoPanic.normal (h _ rfl)) _
theorem results_c3 {P : Program} {fn : Func} {a b c : Nat} {t : TypeId} (h : fn.results = #[.cell a t, .tmp b, .tmp c]) {tmps : Array Value} {w : World} {p : Addr} {v : Value} (ha : tmps.getD a undef = .pointer (some p)) (hl : (loadVar t p).run P w = .ok v w) :
    (results fn tmps).run P w = .ok (.tuple #[v, tmps.getD b undef, tmps.getD c undef]) w := by
  rw [Array.getD_eq_getD_getElem?] at ha
  simp [results, h, asAddr, ha, hl, Array.mapM_eq_mapM_toList, Result.andThen]
theorem loadVar_id {w : World} {b : Nat} {k : IdK} (hk : k.ok) (h : IdAt w b k) : (loadVar 37 ⟨b, 0, none⟩).run Try.prog w = .ok k.v w :=
  run_loadVar_mid (P := Try.prog) w b 0 37 k.c _ (cells_range h) Try.underlying37 rfl (by rw [IdK.len hk]; exact szId)
theorem id_zero (w : World) : (Instr.alloc 37 true (.tuple #[])).run Try.prog w = .ok (.pointer (some ⟨w.heap.size, 0, none⟩)) (w.alloc (.cells zId.c.toArray 37)) := by
  simp only [Instr.alloc, newVar, newRow, newObj, Sem.run_bind, zeroId, Result.andThen_ok, IdK.v, Value.cells]
  rfl
theorem load_key {w : World} {b : Nat} {n : NodeV} (hn : n.u.ok) (h : NodeAt w b n) : (Instr.loadAt 9 (.pointer (some ⟨b, 33, none⟩))).run Try.prog w = .ok (.string n.key) w := by
  have hc : w.cell? ⟨b, 33, none⟩ = some (.string n.key) := by
    rw [cell_of_row _ _ 33 _ _ _ h]
    have := IdK.len hn
    simp [NodeV.c, List.getElem?_append, this]
  go_simp
theorem under_out (s : Tr) (k : IdK) (w : World) (h : TrAt w s) (hk : k.ok) (hh : (lookN s.N k).isSome = false) :
    Calls Try.prog 37 #[.pointer (some ⟨s.t, 0, none⟩), k.v] w fun e w' => e = .returned (.tuple #[zId.v, .string ⟨#[]⟩, .bool false]) ∧ Below w.heap.size w w' := by
  have lt : s.t < w.heap.size := h.lt _ (by simp [Tr.bl])
  have H1 : Hid (∀ W, Below w.heap.size w W → Calls Try.prog 44 #[.pointer (some ⟨s.t, 0, none⟩), k.v] W fun e w' => e = .returned (.bool false) ∧ Below W.heap.size W w') := fun W b => by
    have := has_any s.t s.bn k s.N W hk (h.below b).c0 (h.below b).nodes h.uok
    rwa [hh] at this
  clear hh
  unfold IdK.v
  go_enter Try.func37, Try.ntmps37
  obtain ⟨hx, hr, bx, zx⟩ := two_boxes w k zId
  have ZX := hidMk zx
  clear zx
  go_upto_region 1 with (first
    | (refine wpList_run rfl (exec_alloc (t := 37) rfl (id_zero _)) ?_)
    | fail)
  generalize (w.alloc (.cells k.c.toArray 37)).alloc (.cells zId.c.toArray 37) = W at *
  have HLD := hidMk (load_id hk hx)
  have st := store_id zId_ok zId_ok hr
  go_wp2_with (first
    | (refine wpList_val rfl (exec_load (t := 37) (u := .pointer (some ⟨w.heap.size, 0, none⟩)) rfl rfl HLD.out) ?_)
    | (go_at_call 44; refine (H1.out _ bx).mono ?_; rintro e w1 ⟨rfl, b1⟩; have hr1 : IdAt w1 (w.heap.size + 1) zId := (b1.block _ (by have := ZX.out; omega)).trans hr; have st1 := hidMk (store_id zId_ok zId_ok hr1); clear st)
    | (refine wpList_val rfl (exec_build0 rfl (build_id _)) ?_)
    | (refine wpList_skip rfl rfl (exec_store (t := 37) (xv := .pointer (some ⟨w.heap.size + 1, 0, none⟩)) (yv := zId.v) rfl rfl rfl st1.out) ?_)
    | fail)
  have hr2 := hr1.set zId
  refine bodyPost_ret (results_c3 rfl rfl (loadVar_id zId_ok hr2)) rfl ?_
  exact ⟨rfl, (bx.trans (b1.mono (by have := ZX.out; omega))).trans ((setRow_tch w1 (w.heap.size + 1) zId.c.toArray).below (by have := ZX.out; have := b1.size; omega) (fun j e => by simp at e; omega))⟩
theorem under_in (s : Tr) (k : IdK) (n : NodeV) (w : World) (h : TrAt w s) (hk : k.ok) (hh : lookN s.N k = some n) :
    Calls Try.prog 37 #[.pointer (some ⟨s.t, 0, none⟩), k.v] w fun e w' => e = .returned (.tuple #[n.u.v, .string n.key, .bool (!n.pr)]) ∧ Below w.heap.size w w' := by
  have lt : s.t < w.heap.size := h.lt _ (by simp [Tr.bl])
  have hno : n.u.ok := h.uok _ (M.look_mem hh)
  have HT := hidMk (fun (W : World) (bb : Below w.heap.size w W) => h.below bb)
  have H1 : Hid (∀ W, Below w.heap.size w W → Calls Try.prog 44 #[.pointer (some ⟨s.t, 0, none⟩), k.v] W fun e w' => e = .returned (.bool true) ∧ Below W.heap.size W w') := fun W b => by
    have := has_any s.t s.bn k s.N W hk (h.below b).c0 (h.below b).nodes h.uok
    rwa [hh] at this
  have HH := hidMk hh
  clear hh
  unfold IdK.v
  go_enter Try.func37, Try.ntmps37
  obtain ⟨hx, hr, bx, zx⟩ := two_boxes w k zId
  have ZX := hidMk zx
  clear zx
  go_upto_region 1 with (first
    | (refine wpList_run rfl (exec_alloc (t := 37) rfl (id_zero _)) ?_)
    | fail)
  generalize (w.alloc (.cells k.c.toArray 37)).alloc (.cells zId.c.toArray 37) = W at *
  have HLD := hidMk (load_id hk hx)
  go_upto_region 3 with (first
    | (refine wpList_val rfl (exec_load (t := 37) (u := .pointer (some ⟨w.heap.size, 0, none⟩)) rfl rfl HLD.out) ?_)
    | (go_at_call 44; refine (H1.out _ bx).mono ?_; rintro e w1 ⟨rfl, b1⟩)
    | fail)
  have hz := ZX.out
  have hx1 : IdAt w1 w.heap.size k := (b1.block _ (by omega)).trans hx
  have hr1 : IdAt w1 (w.heap.size + 1) zId := (b1.block _ (by omega)).trans hr
  have bel1 : Below w.heap.size w w1 := bx.trans (b1.mono (by omega))
  have hT1 := HT.out _ bel1
  have z1 : w.heap.size + 2 ≤ w1.heap.size := by have := b1.size; omega
  clear hx hr HLD b1 bx hz ZX
  obtain ⟨y1, y2, e1, e2, c1, c2, hn2, z2⟩ := node_new w1.drew n hno
  have bel1d : Below w.heap.size w w1.drew := bel1.drew
  refine under3 s.t w.heap.size w1.heap.size (.map (some s.bn)) k.v n.v y1 y2 (fun wx => Below w1.heap.size w1 wx) _ w1 _ rfl rfl rfl ?_ ?_ ?_ ?_ e1 ?_ e2 ?_ ?_
  · exact (Below.refl _ _).drew
  · exact fun wx hw => load_nodes ((hw.cell (by show s.t < _; omega)).trans hT1.c0)
  · exact fun wx hw => load_id hk ((hw.block _ (by omega)).trans hx1)
  · intro wx hw
    have h1 := look_node1 s.bn s.N wx k hk (hT1.nodes.below (hw.block _ hT1.nodes.lt))
    unfold nd at h1
    rw [HH.out] at h1
    exact h1
  · exact (Below.refl _ _).drew.trans c1
  · exact (Below.refl _ _).drew.trans c2
  intro a' ha
  subst ha
  simp only [Act.put, List.setIfInBounds_toArray, List.set_cons_zero, List.set_cons_succ]
  have c2' : Below w1.heap.size w1 y2 := (Below.refl _ _).drew.trans c2
  have bel2 : Below w.heap.size w y2 := bel1.trans (c2'.mono (by omega))
  have hr2 : IdAt y2 (w.heap.size + 1) zId := (c2'.block _ (by omega)).trans hr1
  have hn2' : NodeAt y2 w1.heap.size n := hn2
  go_upto_region 4 with fail
  have hr3 : IdAt y2.drew (w.heap.size + 1) zId := hr2
  have hn3 : NodeAt y2.drew w1.heap.size n := hn2'
  refine under4 w1.heap.size (w.heap.size + 1) n.u.v n.key n.pr (y2.drew.setRow (w.heap.size + 1) n.u.c.toArray) (fun wx => NodeAt wx w1.heap.size n) _ y2 _ rfl rfl rfl hn3 ?_ ?_ ?_ ?_ (store_id zId_ok hno hr3) ?_
  · exact ((setRow_tch y2.drew (w.heap.size + 1) n.u.c.toArray).block _ (Array.getElem?_eq_some_iff.1 hn3).1 (fun e => by simp at e; omega)).trans hn3
  · exact fun W hw => load_under hno hw
  · exact fun W hw => load_key hno hw
  · exact fun W hw => load_pr hno hw
  intro a' ha
  subst ha
  simp only [Act.put, List.setIfInBounds_toArray, List.set_cons_zero, List.set_cons_succ]
  have hr4 := hr3.set n.u
  have bel3 : Below w.heap.size w (y2.drew.setRow (w.heap.size + 1) n.u.c.toArray) := bel2.drew.trans ((setRow_tch y2.drew (w.heap.size + 1) n.u.c.toArray).below bel2.size (fun j e => by simp at e; omega))
  generalize y2.drew.setRow (w.heap.size + 1) n.u.c.toArray = y3 at *
  go_wp2
  refine bodyPost_ret (results_c3 rfl rfl (loadVar_id hno hr4)) rfl ?_
  exact ⟨rfl, bel3⟩
theorem under_own {B : Nat} {w : World} {s : Tr} {H : List Rec} {f : Fn} (h : Own B w s H f) (k : IdK) (hk : k.ok) :
    Calls Try.prog 37 #[.pointer (some ⟨s.t, 0, none⟩), k.v] w fun e w' => e = .returned (.tuple #[(nd f k).u.v, .string (nd f k).key, .bool ((f k).isSome && !(nd f k).pr)]) ∧ Below w.heap.size w w' := by
  have hE := h.eq
  unfold nd
  cases hh : f k with
  | none => exact under_out s k w h.tree.tr hk (by rw [hE, hh]; rfl)
  | some n =>
    have := under_in s k n w h.tree.tr hk (by rw [hE]; exact hh)
    simpa using this
end Go.Proofs.Ytoofljkgdjjllaa
namespace Go.Proofs.Ytoofljkgdjjllaa
open Go.ChangeShapes Go.WideShapes Go.ChangeAt Go.RowKit
set_option linter.unusedVariables false
set_option linter.unusedSimpArgs false
def RowAt {κ : Type} (k : Nat) (encd : κ → List Value) (w : World) (a : Option Addr) (L : List κ) : Prop := L = [] ∨ ∃ b off, a = some ⟨b, off, none⟩ ∧ b < w.heap.size ∧ ∀ i x, L[i]? = some x → w.rangeAt b (off + i * k) (encd x)
theorem RowAt.below {κ : Type} {k : Nat} {encd : κ → List Value} {w w' : World} {a : Option Addr} {L : List κ} (h : RowAt k encd w a L) (hb : Below w.heap.size w w') : RowAt k encd w' a L := by
  rcases h with h | ⟨b, off, e, hl, hr⟩
  · exact .inl h
  · exact .inr ⟨b, off, e, Nat.lt_of_lt_of_le hl hb.size, fun i x hx => rangeAt_keep (hr i x hx) (hb.block b hl)⟩
theorem RowAt.keep {κ : Type} {k : Nat} {encd : κ → List Value} {w w' : World} {a : Option Addr} {L : List κ} {N : Nat} (h : RowAt k encd w a L) (hN : N = w.heap.size) (hb : Below N w w') : RowAt k encd w' a L := by
  subst hN
  exact h.below hb
section
variable {H : Type} {enc : TypeId × Value → H} {W : World}
theorem view_rows {κ : Type} {T e k : Nat} {encd : κ → List Value} {ok : κ → Prop} (hT : Try.prog.underlying T = some (.slice e)) (hce : Try.prog.cellsOf e = k) (hk : 0 < k) (hlen : ∀ x, ok x → (encd x).length = k)
    (hcells : ∀ (fuel : Nat) (cs : List Value) (y : DataW H × List MemPlace), DataW.trod enc Try.prog W 0 (fun _ => true) true fuel e cs = some y → ∃ x, ok x ∧ cs = encd x)
    {a : Option Addr} {len cap : Nat} {d : DataW H} {p : List MemPlace} (h : DataW.Trod enc Try.prog W 0 (fun _ => true) true T (.slice a len cap) d p) :
    ∃ L : List κ, L.length = len ∧ (∀ x ∈ L, ok x) ∧ RowAt k encd W a L ∧ (d = .nil ∧ len = 0 ∨ ∃ el sp, d = .slice el sp ∧ el.length = len) := by
  obtain ⟨fuel, hf⟩ := h
  rcases DataW.trod_slice hT hf with ⟨hcs', hx⟩ | ⟨ad, l, c, elems, rest, n, _, hcs', hx, _, hl, hm, hel, hcell, _, _⟩
  · simp [Value.cells] at hcs'
    obtain ⟨rfl, rfl, rfl⟩ := hcs'
    simp only [Prod.mk.injEq] at hx
    exact ⟨[], rfl, fun v hv => (by cases hv), .inl rfl, .inl ⟨hx.1, rfl⟩⟩
  · simp [Value.cells] at hcs'
    obtain ⟨rfl, rfl, rfl⟩ := hcs'
    simp only [Prod.mk.injEq] at hx
    obtain ⟨b, off, spot⟩ := ad
    have raw : ∀ i, i < len → ∃ v : κ, ok v ∧ ∀ j u, (encd v)[j]? = some u → W.cell? (((⟨b, off, spot⟩ : Addr).add (i * k)).add j) = some u := fun i hi => by
      have hi2 := hcell i hi
      rw [List.getElem?_eq_getElem (by omega), hce, Option.bind_eq_some_iff] at hi2
      obtain ⟨cs, hc1, hc2⟩ := hi2
      obtain ⟨v, hv, rfl⟩ := hcells _ _ _ hc2
      obtain ⟨_, _, hc3⟩ := World.cells?_some hc1
      refine ⟨v, hv, fun j u hu => ?_⟩
      have hj := (List.getElem?_eq_some_iff.1 hu).1
      rw [hlen v hv] at hj
      rw [hc3 j hj]
      exact hu
    have hspot : 0 < len → spot = none ∧ b < W.heap.size := fun h0 => by
      obtain ⟨v, hv, hc⟩ := raw 0 h0
      have q := hc 0 _ (List.getElem?_eq_getElem (by rw [hlen v hv]; omega))
      have q1 := World.cell?_spot q
      have q2 : spot = none := by simpa [Addr.add] using q1
      subst q2
      refine ⟨rfl, ?_⟩
      rw [Addr.add_mid, Addr.add_mid] at q
      exact block_lt_of_cell q
    by_cases h0 : 0 < len
    · obtain ⟨hs, hb⟩ := hspot h0
      subst hs
      obtain ⟨v0, _⟩ := raw 0 h0
      let F : Nat → κ := fun i => if h : i < len then Classical.choose (raw i h) else v0
      have hF : ∀ i (h : i < len), F i = Classical.choose (raw i h) := fun i h => dif_pos h
      refine ⟨(List.range len).map F, by simp, fun v hv => ?_, ?_, .inr ⟨_, _, hx.1, by simp [hel]⟩⟩
      · rw [List.mem_map] at hv
        obtain ⟨i, hi, rfl⟩ := hv
        rw [List.mem_range] at hi
        rw [hF i hi]
        exact (Classical.choose_spec (raw i hi)).1
      · refine .inr ⟨b, off, rfl, hb, fun i v hv => ?_⟩
        have hi : i < len := by
          have := (List.getElem?_eq_some_iff.1 hv).1
          simpa using this
        rw [List.getElem?_map, List.getElem?_range hi] at hv
        simp only [Option.map_some, Option.some.injEq] at hv
        subst hv
        rw [hF i hi]
        intro j u hu
        have := (Classical.choose_spec (raw i hi)).2 j u hu
        rwa [Addr.add_mid, Addr.add_mid] at this
    · obtain rfl : len = 0 := by omega
      exact ⟨[], rfl, fun v hv => (by cases hv), .inl rfl, .inr ⟨_, _, hx.1, by simp [hel]⟩⟩
theorem i64_wf {z : Int} (h : (Lit.int .i64 z).wf = true) : -9223372036854775808 ≤ z ∧ z ≤ 9223372036854775807 := by
  simp [Lit.wf, IntKind.min, IntKind.max, IntKind.signed, IntKind.bits] at h
  omega
theorem u8_wf {z : Int} (h : (Lit.int .u8 z).wf = true) : 0 ≤ z ∧ z ≤ 255 := by
  simp [Lit.wf, IntKind.min, IntKind.max, IntKind.signed, IntKind.bits] at h
  omega
def intV : Value → Int
  | .int _ z => z
  | _ => 0
theorem cells_int : Try.prog.cellsOf 3 = 1 := by kernel_rfl
theorem cells_str : Try.prog.cellsOf 9 = 1 := by kernel_rfl
theorem cells_hash : Try.prog.cellsOf 35 = 32 := by kernel_rfl
theorem cells_id : Try.prog.cellsOf 37 = 33 := by kernel_rfl
theorem hash_cells {fuel : Nat} {cs : List Value} {y : DataW H × List MemPlace} (h : DataW.trod enc Try.prog W 0 (fun _ => true) true fuel 35 cs = some y) : ∃ l : List UInt8, l.length = 32 ∧ cs = hcs l := by
  obtain ⟨xs, m, _, _, hlen, hxs, hall⟩ := DataW.trod_array Try.underlying35 h
  rw [cells_hash] at hlen
  have hce : Try.prog.cellsOf 5 = 1 := by kernel_rfl
  have key : ∀ i (hi : i < cs.length), ∃ z : Int, cs[i] = .int .u8 z ∧ 0 ≤ z ∧ z ≤ 255 := by
    intro i hi
    have h1 := hall i (by omega)
    rw [hce, Nat.mul_one, List.getElem?_eq_getElem (by omega)] at h1
    obtain ⟨z, e0, _, w0⟩ := DataW.trod_int Try.underlying5 h1
    have hb := u8_wf w0
    refine ⟨z, ?_, hb.1, hb.2⟩
    rw [List.drop_eq_getElem_cons hi, List.take_succ_cons, List.take_zero] at e0
    exact (List.cons.inj e0).1
  refine ⟨cs.map (fun v => UInt8.ofNat (intV v).toNat), by simpa using hlen, ?_⟩
  apply List.ext_getElem
  · simp [hcs, bs]
  · intro i h1 h2
    obtain ⟨z, hz, z0, z1⟩ := key i h1
    simp only [hcs, bs, List.map_map, List.getElem_map, Function.comp_apply]
    rw [hz]
    simp only [intV, Value.int.injEq, true_and]
    rw [UInt8.toNat_ofNat']
    omega
theorem list_split {α : Type} {l : List α} {n m : Nat} (h : l.length = n + m) : ∃ a b, l = a ++ b ∧ a.length = n ∧ b.length = m := ⟨l.take n, l.drop n, (List.take_append_drop n l).symm, by simp; omega, by simp; omega⟩
theorem id_cells {fuel : Nat} {cs : List Value} {y : DataW H × List MemPlace} (h : DataW.trod enc Try.prog W 0 (fun _ => true) true fuel 37 cs = some y) : ∃ x : IdK, x.ok ∧ cs = x.c := by
  obtain ⟨y0, y1, n, _, hcl, h0, h1⟩ := trod_struct2 Try.underlying37 h
  rw [cells_id] at hcl
  obtain ⟨A, B, rfl, hA, hB⟩ := list_split (n := 32) (m := 1) hcl
  simp only [cells_hash, cells_int, List.drop_zero] at h0 h1
  rw [← hA, List.take_left] at h0
  rw [← hA, List.drop_left, List.take_of_length_le (by omega)] at h1
  obtain ⟨k, hk, rfl⟩ := hash_cells h0
  obtain ⟨z, e0, _, w0⟩ := DataW.trod_int Try.underlying3 h1
  subst e0
  have b := i64_wf w0
  exact ⟨⟨k, z⟩, ⟨hk, b.1, b.2⟩, rfl⟩
end
structure OpV where
  kind : Int
  id : IdK
  under : IdK
  key : ByteArray
  back : Int
def OpV.c (o : OpV) : List Value := (.int .i64 o.kind) :: (o.id.c ++ (o.under.c ++ [.string o.key, .int .i64 o.back]))
structure OpV.ok (o : OpV) : Prop where
  id : o.id.ok
  under : o.under.ok
  klo : -9223372036854775808 ≤ o.kind
  khi : o.kind ≤ 9223372036854775807
  lo : -9223372036854775808 ≤ o.back
  hi : o.back ≤ 9223372036854775807
theorem OpV.len {o : OpV} (h : o.ok) : o.c.length = 69 := by
  have h1 := IdK.len h.id
  have h2 := IdK.len h.under
  simp [OpV.c, h1, h2]
theorem cells_op : Try.prog.cellsOf 39 = 69 := by kernel_rfl
theorem op_cells {H : Type} {enc : TypeId × Value → H} {W : World} (fuel : Nat) (cs : List Value) (y : DataW H × List MemPlace) (h : DataW.trod enc Try.prog W 0 (fun _ => true) true fuel 39 cs = some y) : ∃ x : OpV, x.ok ∧ cs = x.c := by
  obtain ⟨xs, n, _, hx, hcl, hlen, hfs⟩ := DataW.trod_struct Try.underlying39 h
  rw [cells_op] at hcl
  have hlen : xs.length = 5 := hlen
  obtain ⟨A, R, rfl, hA, hR⟩ := list_split (n := 1) (m := 68) hcl
  obtain ⟨B, R, rfl, hB, hR⟩ := list_split (n := 33) (m := 35) hR
  obtain ⟨C, R, rfl, hC, hR⟩ := list_split (n := 33) (m := 2) hR
  obtain ⟨D, E, rfl, hD, hE⟩ := list_split (n := 1) (m := 1) hR
  match xs, hlen with
  | [y0, y1, y2, y3, y4], _ =>
    have t0 : DataW.trod enc Try.prog W 0 (fun _ => true) true n 3 (((A ++ (B ++ (C ++ (D ++ E)))).drop 0).take (Try.prog.cellsOf 3)) = some y0 := hfs 0 _ rfl
    have t1 : DataW.trod enc Try.prog W 0 (fun _ => true) true n 37 (((A ++ (B ++ (C ++ (D ++ E)))).drop 1).take (Try.prog.cellsOf 37)) = some y1 := hfs 1 _ rfl
    have t2 : DataW.trod enc Try.prog W 0 (fun _ => true) true n 37 (((A ++ (B ++ (C ++ (D ++ E)))).drop 34).take (Try.prog.cellsOf 37)) = some y2 := hfs 2 _ rfl
    have t3 : DataW.trod enc Try.prog W 0 (fun _ => true) true n 9 (((A ++ (B ++ (C ++ (D ++ E)))).drop 67).take (Try.prog.cellsOf 9)) = some y3 := hfs 3 _ rfl
    have t4 : DataW.trod enc Try.prog W 0 (fun _ => true) true n 3 (((A ++ (B ++ (C ++ (D ++ E)))).drop 68).take (Try.prog.cellsOf 3)) = some y4 := hfs 4 _ rfl
    rw [cells_int, List.drop_zero] at t0
    rw [cells_id] at t1 t2
    rw [cells_str] at t3
    rw [cells_int] at t4
    have e0 : (A ++ (B ++ (C ++ (D ++ E)))).take 1 = A := by rw [← hA, List.take_left]
    have e1 : ((A ++ (B ++ (C ++ (D ++ E)))).drop 1).take 33 = B := by rw [← hA, List.drop_left, ← hB, List.take_left]
    have e2 : ((A ++ (B ++ (C ++ (D ++ E)))).drop 34).take 33 = C := by
      rw [show 34 = A.length + B.length by omega, ← List.drop_drop, List.drop_left, List.drop_left, ← hC, List.take_left]
    have e3 : ((A ++ (B ++ (C ++ (D ++ E)))).drop 67).take 1 = D := by
      rw [show 67 = A.length + B.length + C.length by omega, ← List.drop_drop, ← List.drop_drop, List.drop_left, List.drop_left, List.drop_left, ← hD, List.take_left]
    have e4 : ((A ++ (B ++ (C ++ (D ++ E)))).drop 68).take 1 = E := by
      rw [show 68 = A.length + B.length + C.length + D.length by omega, ← List.drop_drop, ← List.drop_drop, ← List.drop_drop, List.drop_left, List.drop_left, List.drop_left, List.drop_left, List.take_of_length_le (by omega)]
    rw [e0] at t0
    rw [e1] at t1
    rw [e2] at t2
    rw [e3] at t3
    rw [e4] at t4
    obtain ⟨z0, q0, _, w0⟩ := DataW.trod_int Try.underlying3 t0
    obtain ⟨x1, o1, q1⟩ := id_cells t1
    obtain ⟨x2, o2, q2⟩ := id_cells t2
    obtain ⟨s3, q3, _⟩ := DataW.trod_string Try.underlying9 t3
    obtain ⟨z4, q4, _, w4⟩ := DataW.trod_int Try.underlying3 t4
    subst q0 q1 q2 q3 q4
    have b0 := i64_wf w0
    have b4 := i64_wf w4
    exact ⟨⟨z0, x1, x2, s3, z4⟩, ⟨o1, o2, b0.1, b0.2, b4.1, b4.2⟩, rfl⟩
theorem view_ops {H : Type} {enc : TypeId × Value → H} {W : World} {a : Option Addr} {len cap : Nat} {d : DataW H} {p : List MemPlace} (h : DataW.Trod enc Try.prog W 0 (fun _ => true) true 23 (.slice a len cap) d p) :
    ∃ L : List OpV, L.length = len ∧ (∀ x ∈ L, x.ok) ∧ RowAt 69 OpV.c W a L ∧ (d = .nil ∧ len = 0 ∨ ∃ el sp, d = .slice el sp ∧ el.length = len) :=
  view_rows Try.underlying23 cells_op (by omega) (fun x hx => OpV.len hx) op_cells h
end Go.Proofs.Ytoofljkgdjjllaa
namespace Go.Proofs.Ytoofljkgdjjllaa
open Go.RowKit
set_option linter.unusedVariables false
section
variable {P : Program} {ops : Array Oper} {rest : List Oper} {o : Oper} {a : Act} {w w2 : World} {Q : Exit → Act → World → Prop}
theorem qk {v : Value} {d : Nat} (hw : Region.wanted o (yielded ops a.tmps) = true) (hr : (execOp a.eval o).run P w = .ok (.value v) w2) (h : ∀ a', a' = a.put (some d) v → wpList P ops Q rest a' w2) (hd : o.dst = some d := by rfl) : wpList P ops Q (o :: rest) a w :=
  wpList_step fun K hK => by
    rw [if_pos hw]
    unfold Oper.wp
    rw [hr]
    exact hK _ _ (by rw [hd]; exact h _ rfl)
theorem qs (hw : Region.wanted o (yielded ops a.tmps) = true) (hr : (execOp a.eval o).run P w = .ok .skip w2) (h : wpList P ops Q rest a w2) (hd : o.dst = none := by rfl) : wpList P ops Q (o :: rest) a w :=
  wpList_step fun K hK => by
    rw [if_pos hw]
    unfold Oper.wp
    rw [hr]
    exact hK _ _ (by rw [hd]; exact h)
end
end Go.Proofs.Ytoofljkgdjjllaa
namespace Go.Proofs.Ytoofljkgdjjllaa
open Go.RowKit
set_option linter.unusedVariables false
set_option linter.unusedSimpArgs false
section
variable {P : Program} {w : World} {a : Act} {o : Oper}
theorem exec_indexAt {t : TypeId} {x y : Operand} {xv yv v : Value} (ho : o.op = .indexAddr t x y) (hx : a.eval x = xv) (hy : a.eval y = yv) (hl : (Instr.indexAt t xv yv).run P w = .ok v w) : (execOp a.eval o).run P w = .ok (.value v) w := by
  unfold execOp; simp only [ho, hx, hy, Sem.run_bind, hl, Result.andThen_ok, Sem.run_pure]
end
theorem ix_op {b o n c i : Nat} (h : i < n) (hn : n ≤ 9223372036854775807) (w : World) : (Instr.indexAt 23 (.slice (some ⟨b, o, none⟩) n c) (.int .i64 (i : Int))).run Try.prog w = .ok (.pointer (some ⟨b, o + i * 69, none⟩)) w := by go_simp
theorem ix_id {b o n c i : Nat} (h : i < n) (hn : n ≤ 9223372036854775807) (w : World) : (Instr.indexAt 41 (.slice (some ⟨b, o, none⟩) n c) (.int .i64 (i : Int))).run Try.prog w = .ok (.pointer (some ⟨b, o + i * 33, none⟩)) w := by go_simp
theorem fg_39_1 (b o : Nat) (w : World) : (Instr.fieldAt 39 (.pointer (some ⟨b, o, none⟩)) 1).run Try.prog w = .ok (.pointer (some ⟨b, o + 1, none⟩)) w := by go_simp
theorem fg_39_2 (b o : Nat) (w : World) : (Instr.fieldAt 39 (.pointer (some ⟨b, o, none⟩)) 2).run Try.prog w = .ok (.pointer (some ⟨b, o + 34, none⟩)) w := by go_simp
theorem fg_39_3 (b o : Nat) (w : World) : (Instr.fieldAt 39 (.pointer (some ⟨b, o, none⟩)) 3).run Try.prog w = .ok (.pointer (some ⟨b, o + 67, none⟩)) w := by go_simp
section
variable {w : World} {b o : Nat} {x : OpV}
theorem op_id (hx : x.ok) (h : w.rangeAt b o x.c) : (Instr.loadAt 37 (.pointer (some ⟨b, o + 1, none⟩))).run Try.prog w = .ok x.id.v w := by
  refine load_id_at hx.id (fun j v hv => ?_)
  have hl := (List.getElem?_eq_some_iff.1 hv).1
  have := h (1 + j) v (by rw [OpV.c, Nat.add_comm, List.getElem?_cons_succ, List.getElem?_append_left hl]; exact hv)
  rwa [← Nat.add_assoc] at this
theorem op_under (hx : x.ok) (h : w.rangeAt b o x.c) : (Instr.loadAt 37 (.pointer (some ⟨b, o + 34, none⟩))).run Try.prog w = .ok x.under.v w := by
  refine load_id_at hx.under (fun j v hv => ?_)
  have hl := (List.getElem?_eq_some_iff.1 hv).1
  have l1 := IdK.len hx.id
  have := h (34 + j) v (by
    rw [OpV.c, show 34 + j = (33 + j) + 1 by omega, List.getElem?_cons_succ, List.getElem?_append_right (by omega), l1, show 33 + j - 33 = j by omega, List.getElem?_append_left hl]
    exact hv)
  rwa [← Nat.add_assoc] at this
theorem op_key (hx : x.ok) (h : w.rangeAt b o x.c) : (Instr.loadAt 9 (.pointer (some ⟨b, o + 67, none⟩))).run Try.prog w = .ok (.string x.key) w := by
  have l1 := IdK.len hx.id
  have l2 := IdK.len hx.under
  have hc : w.cell? ⟨b, o + 67, none⟩ = some (.string x.key) := h 67 _ (by
    rw [OpV.c, List.getElem?_cons_succ, List.getElem?_append_right (by omega), l1, List.getElem?_append_right (by omega), l2]
    rfl)
  go_simp
theorem op_back (hx : x.ok) (h : w.rangeAt b o x.c) : (Instr.loadAt 3 (.pointer (some ⟨b, o + 68, none⟩))).run Try.prog w = .ok (.int .i64 x.back) w := by
  have l1 := IdK.len hx.id
  have l2 := IdK.len hx.under
  have hc : w.cell? ⟨b, o + 68, none⟩ = some (.int .i64 x.back) := h 68 _ (by
    rw [OpV.c, List.getElem?_cons_succ, List.getElem?_append_right (by omega), l1, List.getElem?_append_right (by omega), l2]
    rfl)
  go_simp
end
end Go.Proofs.Ytoofljkgdjjllaa
namespace Go.Proofs.Ytoofljkgdjjllaa
open Go.RowKit
set_option linter.unusedVariables false
section
variable {P : Program} {ops : Array Oper} {rest : List Oper} {o : Oper} {a : Act} {w w2 : World} {Q : Exit → Act → World → Prop}
theorem qv {v : Value} {d : Nat} (hw : Region.wanted o (yielded ops a.tmps) = true) (hr : (execOp a.eval o).run P w = .ok (.value v) w) (h : ∀ a', a' = a.put (some d) v → wpList P ops Q rest a' w) (hd : o.dst = some d := by rfl) : wpList P ops Q (o :: rest) a w := qk hw hr h hd
theorem qn {d : Nat} (hw : Region.wanted o (yielded ops a.tmps) = false) (h : ∀ a', a' = a.put (some d) undef → wpList P ops Q rest a' w) (hd : o.dst = some d := by rfl) : wpList P ops Q (o :: rest) a w :=
  wpList_step fun K hK => by
    rw [if_neg (by rw [hw]; decide), hd]
    exact hK _ _ (h _ rfl)
theorem qc {F : Nat} {vs : Array Value} {R : Ending → World → Prop} {d : Nat} (hw : Region.wanted o (yielded ops a.tmps) = true) (hr : (execOp a.eval o).run P w = .ok (.enter F vs) w) (hC : Calls P F vs w R) (h : ∀ e w', R e w' → ∃ v, e = .returned v ∧ ∀ a', a' = a.put (some d) v → wpList P ops Q rest a' w') (hd : o.dst = some d := by rfl) : wpList P ops Q (o :: rest) a w :=
  wpList_step fun K hK => by
    rw [if_pos hw]
    unfold Oper.wp
    rw [hr, Oper.upon_enter]
    refine hC.mono ?_
    intro e w' hp
    obtain ⟨v, rfl, hh⟩ := h e w' hp
    exact hK _ _ (by rw [hd]; exact hh _ rfl)
end
end Go.Proofs.Ytoofljkgdjjllaa
