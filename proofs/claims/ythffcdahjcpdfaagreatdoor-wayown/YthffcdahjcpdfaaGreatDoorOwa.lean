import Derived.Test.YthffcdahjcpdfaaGreatDoorGBc
import Derived.Test.YthffcdahjcpdfaaGreatDoorGYf
namespace Go.Proofs.YthffcdahjcpdfaaGreatDoor
open Go.RowKit
set_option linter.unusedVariables false
set_option linter.unusedSimpArgs false

/-- A Book and lists of steps of the call's own, each in a block of its own. -/
structure KS (w2 w : World) (q : Nat) (all : Value) (rows : List Value) (vs : List (Value × List St)) : Prop where
  be : Below w2.heap.size w2 w
  hq : w2.heap.size ≤ q
  bk : B.BkN w q w2.heap.size all rows
  ow : ∀ p ∈ vs, OwnS w w2.heap.size p.1 p.2 ∧ p.2.length ≤ 4398046510976
  sep : vs.Pairwise (fun a b => ∀ x, a.1.ownBlock = some x → b.1.ownBlock ≠ some x)
theorem bkn_below {w w' : World} {q base : Nat} {all : Value} {rows : List Value} (h : B.BkN w q base all rows) (hb : Below w.heap.size w w') : B.BkN w' q base all rows :=
  ⟨(hb.block q (Array.getElem?_eq_some_iff.1 h.1).1).trans h.1, B.own_below h.2.1 hb, h.2.2⟩
theorem own_mono {w : World} {base base' e sz n : Nat} {v : Value} {xs : List Value} (h : w.ownsRow base e sz v n xs) (hb : base' ≤ base) : w.ownsRow base' e sz v n xs := by
  refine ⟨h.1, ?_⟩
  rcases h.2 with hn | ⟨g, cap, cur, rfl, hbg, rest⟩
  · exact .inl hn
  · exact .inr ⟨g, cap, cur, rfl, Nat.le_trans hb hbg, rest⟩
section
variable {w2 w w' : World} {q : Nat} {all : Value} {rows : List Value} {vs : List (Value × List St)}
theorem KS.below (h : KS w2 w q all rows vs) (hb : Below w.heap.size w w') : KS w2 w' q all rows vs :=
  ⟨h.be.trans (hb.mono h.be.size), h.hq, bkn_below h.bk hb, fun p hp => ⟨(h.ow p hp).1.below hb, (h.ow p hp).2⟩, h.sep⟩
/-- A call makes one more list. -/
theorem KS.more (h : KS w2 w q all rows vs) {v : Value} {L : List St} (own : OwnS w' w.heap.size v L) (hL : L.length ≤ 4398046510976) (hb : Below w.heap.size w w') : KS w2 w' q all rows (vs ++ [(v, L)]) := by
  have hz := h.be.size
  refine ⟨h.be.trans (hb.mono h.be.size), h.hq, bkn_below h.bk hb, fun p hp => ?_, ?_⟩
  · rcases List.mem_append.1 hp with hp | hp
    · exact ⟨(h.ow p hp).1.below hb, (h.ow p hp).2⟩
    · rw [List.mem_singleton.1 hp]
      exact ⟨own_mono own hz, hL⟩
  · rw [List.pairwise_append]
    refine ⟨h.sep, List.pairwise_singleton _ _, fun a ha b hb2 x e1 e2 => ?_⟩
    rw [List.mem_singleton.1 hb2] at e2
    have l1 := (World.ownsRow.lt (h.ow a ha).1 x e1).2
    have l2 := (World.ownsRow.lt own x e2).1
    omega
theorem own_ty {base : Nat} {v : Value} {L : List St} (h : OwnS w base v L) {b : Nat} {cur : Array Value} {t : TypeId} (hb : w.heap[b]? = some (.cells cur t (0, 0))) (ht : t ≠ 54) : v.ownBlock ≠ some b := fun e => by
  rcases h.2 with ⟨e1, _⟩ | ⟨g, cap, cur2, e1, _, hg, _⟩
  · rw [e1] at e; cases e
  · rw [e1] at e
    simp [Value.ownBlock] at e
    subst e
    rw [hb] at hg
    injection hg with hg
    injection hg with _ h2 _
    exact ht h2
/-- The Book takes a list. -/
theorem KS.take (h : KS w2 w q all rows vs) (a : Option Addr) (n c : Nat) (hr : rows.length ≤ 100) :
    Calls Tryz.prog 7 #[.pointer (some ⟨q, 0, none⟩), .slice a n c] w fun e w' => e = .returned (.tuple #[]) ∧ ∃ all', KS w2 w' q all' (rows ++ [.slice a n c]) vs :=
  (B.take_any q w2.heap.size all rows a n c w h.bk (by omega) h.hq).mono fun e w' ⟨k1, ⟨all', k2⟩, k3, k4⟩ => ⟨k1, all', h.be.trans k3, h.hq, k2, fun p hp => ⟨by
    obtain ⟨o, _⟩ := h.ow p hp
    have n1 : p.1.ownBlock ≠ some q := own_ty o h.bk.1 (by decide)
    have n2 : ∀ b, p.1.ownBlock = some b → all.ownBlock ≠ some b := fun b e1 e2 => by
      rcases h.bk.2.1.2 with ⟨e3, _⟩ | ⟨g, cap, cur, e3, _, hg, _⟩
      · rw [e3] at e2; cases e2
      · rw [e3] at e2
        simp [Value.ownBlock] at e2
        subst e2
        exact own_ty o hg (by decide) e1
    refine ⟨o.1, ?_⟩
    rcases o.2 with hn | ⟨g, cap, cur, e3, hbg, hg, rest⟩
    · exact .inl hn
    · have eb : p.1.ownBlock = some g := by rw [e3]; rfl
      refine .inr ⟨g, cap, cur, e3, hbg, ?_, rest⟩
      rw [k4 g (Array.getElem?_eq_some_iff.1 hg).1 (fun e => n1 (by rw [eb, e])) (n2 g eb)]
      exact hg, (h.ow p hp).2⟩, h.sep⟩
def lstOf : Value → B.Lst
  | .slice a n c => ⟨a, n, c⟩
  | _ => ⟨none, 0, 0⟩
theorem lstOf_own {base : Nat} {v : Value} {L : List St} (h : OwnS w base v L) : (lstOf v).v = v ∧ (lstOf v).n = L.length := by
  obtain ⟨a, c, rfl, _, _⟩ := h.slice
  exact ⟨rfl, rfl⟩
/-- No list shows in another. -/
theorem KS.alone (h : KS w2 w q all rows vs) (hr : rows = vs.map (·.1)) (h1 : 1 ≤ vs.length) (h2 : vs.length ≤ 100) :
    Calls Tryz.prog 10 #[.pointer (some ⟨q, 0, none⟩)] w fun e w' => e = .returned (.bool true) ∧ Below w2.heap.size w2 w' := by
  have key : ∀ i (hi : i < vs.length), OwnS w w2.heap.size (vs[i]).1 (vs[i]).2 ∧ (vs[i]).2.length ≤ 4398046510976 := fun i hi => h.ow _ (List.getElem_mem hi)
  let V : Nat → B.Lst := fun i => lstOf ((vs.map (·.1)).getD i (.slice none 0 0))
  let L : Nat → List Value := fun i => flatS ((vs.map (·.2)).getD i [])
  have hV : ∀ i (hi : i < vs.length), (V i).v = (vs[i]).1 ∧ (V i).n = (vs[i]).2.length := fun i hi => by
    have e : (vs.map (·.1)).getD i (.slice none 0 0) = (vs[i]).1 := by simp [List.getD_eq_getElem?_getD, hi]
    show (lstOf _).v = _ ∧ (lstOf _).n = _
    rw [e]
    exact lstOf_own (key i hi).1
  have hL : ∀ i (hi : i < vs.length), L i = flatS (vs[i]).2 := fun i hi => by
    show flatS _ = _
    congr 1
    simp [List.getD_eq_getElem?_getD, hi]
  have hrow : rows = (List.range vs.length).map fun i => (V i).v := by
    rw [hr]
    apply List.ext_getElem
    · simp
    · intro i hi1 hi2
      simp only [List.length_map] at hi1
      simp only [List.getElem_map, List.getElem_range]
      exact (hV i hi1).1.symm
  have bk := h.bk
  rw [hrow] at bk
  have hpw := List.pairwise_iff_getElem.1 h.sep
  refine (B.bookS_any q w2.heap.size w2.heap.size vs.length all V L w h1 (by omega) (fun i hi => by rw [(hV i hi).2]; exact (key i hi).2) bk h.hq (Nat.le_refl _) (fun i hi => ?_) (fun i j hi hj b e1 e2 => ?_)).mono fun e w' ⟨k1, k2, _⟩ => ⟨k1, h.be.trans k2⟩
  · rw [(hV i hi).1, (hV i hi).2, hL i hi]
    exact (key i hi).1
  · rw [(hV i hi).1] at e1
    rw [(hV j hj).1] at e2
    rcases Nat.lt_trichotomy i j with hlt | heq | hgt
    · exact absurd e2 (hpw i j hi hj hlt b e1)
    · exact heq
    · exact absurd e1 (hpw j i hj hi hgt b e2)
end
end Go.Proofs.YthffcdahjcpdfaaGreatDoor
