import Derived.Below
import Derived.Deep.MidRow
import Derived.BigQuiet
import Derived.WalkKit
namespace Go.Proofs.YthffcdahjcpdfaaGreatDoor
open Go.RowKit
set_option linter.unusedVariables false

/-- A world in which all that was there in 'w' is as it was. -/
structure ExtT (w : World) where
  wd : World
  ok : Below w.heap.size w wd

theorem ExtT.some (w : World) : Nonempty (ExtT w) := ⟨⟨w, Below.refl _ _⟩⟩
section
variable {P : Program}
/-- A region that draws, whose operations and callees turn nothing that was there: one walk. -/
theorem wp_region_ext {id : Nat} {Q : Exit → Act → World → Prop} {a : Act} {w : World} {l : List Oper} (hm : P.follows .mixedOrders = true) (hB : Region.lexB .any l.toArray = true)
    (h : wpQuiet P l.toArray (fun w' => ∃ e : ExtT w, w' = e.wd) (fun a' => ∀ w', (∃ e : ExtT w, w' = e.wd) → Q .normal a' w') l a) : (Code.region id l.toArray true).wp P Q a w :=
  wp_region_quiet (C := fun w' => ∃ e : ExtT w, w' = e.wd) hm hB ⟨⟨{ w with drawn := w.drawn + 1 }, (Below.refl _ _).drew⟩, rfl⟩ (by simpa using h)

theorem ext_of {f : FuncId} {args : Array Value} {w : World} {e : ExtT w} {v : Value}
    (h : Calls P f args e.wd fun x w' => x = .returned v ∧ Below e.wd.heap.size e.wd w') : Calls P f args e.wd fun x w'' => x = .returned v ∧ ∃ e2 : ExtT w, w'' = e2.wd :=
  h.mono fun _ w'' ⟨he, hb⟩ => ⟨he, ⟨w'', e.ok.trans (hb.mono e.ok.size)⟩, rfl⟩
theorem ext_of_drew {f : FuncId} {args : Array Value} {w : World} {e : ExtT w} {v : Value}
    (h : Calls P f args e.wd fun x w' => x = .returned v ∧ ∃ m, w' = e.wd.drewN m) : Calls P f args e.wd fun x w'' => x = .returned v ∧ ∃ e2 : ExtT w, w'' = e2.wd :=
  h.mono fun _ w'' ⟨he, m, hm⟩ => ⟨he, ⟨w'', by rw [hm]; exact ⟨e.ok.os, e.ok.tape, e.ok.output, e.ok.size, e.ok.block⟩⟩, rfl⟩
theorem ext_of_same {f : FuncId} {args : Array Value} {w : World} {e : ExtT w} {v : Value}
    (h : Calls P f args e.wd fun x w' => x = .returned v ∧ w' = e.wd) : Calls P f args e.wd fun x w'' => x = .returned v ∧ ∃ e2 : ExtT w, w'' = e2.wd :=
  h.mono fun _ w'' ⟨he, hm⟩ => ⟨he, e, hm⟩
theorem ExtT.range {w : World} (e : ExtT w) {b o : Nat} {cs : List Value} (h : w.rangeAt b o cs) (h0 : 0 < cs.length) : e.wd.rangeAt b o cs := fun j v hv => by
  rw [e.ok.cell (p := ⟨b, o + j, none⟩) (World.block_lt_of_cell? w ⟨b, o + 0, none⟩ (h 0 _ (List.getElem?_eq_getElem h0)))]
  exact h j v hv
end
end Go.Proofs.YthffcdahjcpdfaaGreatDoor
