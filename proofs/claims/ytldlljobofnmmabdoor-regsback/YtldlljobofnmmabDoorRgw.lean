import Derived.Test.YtldlljobofnmmabDoorRgt
import Derived.Laws.ResultCell
namespace Go.Proofs.YtldlljobofnmmabDoor
open Go.RowKit
set_option linter.unusedVariables false
set_option linter.unusedSimpArgs false

theorem results_c2 {P : Program} {fn : Func} {a b : Nat} {t : TypeId} (h : fn.results = #[.cell a t, .tmp b]) {tmps : Array Value} {w : World} {p : Addr} {v : Value} (ha : tmps.getD a undef = .pointer (some p)) (hl : (loadVar t p).run P w = .ok v w) :
    (results fn tmps).run P w = .ok (.tuple #[v, tmps.getD b undef]) w := by
  rw [Array.getD_eq_getD_getElem?] at ha
  simp [results, h, asAddr, ha, hl, Array.mapM_eq_mapM_toList, Result.andThen]
theorem szEn : (Tryd.prog.info? 65).map (·.size) = some 37 := by kernel_rfl
theorem loadVar_en {w : World} {b : Nat} {x : EnV} (hx : x.ok) (h : RN.Bx w b x) : (loadVar 65 ⟨b, 0, none⟩).run Tryd.prog w = .ok x.a w :=
  run_loadVar_mid (P := Tryd.prog) w b 0 65 x.c _ h.rng Tryd.underlying65 rfl (by rw [EnV.len hx]; exact szEn)
/-- A new box of an entry, written. -/
theorem en_box (w : World) : ∃ w2, (Instr.alloc 65 true (.tuple #[])).run Tryd.prog w = .ok (.pointer (some ⟨w.heap.size, 0, none⟩)) w2 ∧ RN.Bx w2 w.heap.size zEn ∧ Below w.heap.size w w2 := ⟨_, RowT.bx_zero RN_is w, heap_alloc_new _ _, (Below.refl _ _).alloc (Nat.le_refl _) _⟩
theorem en_put {w : World} {b : Nat} {x u : EnV} (hx : x.ok) (hu : u.ok) (h : RN.Bx w b x) : ∃ w', (Instr.storeAt 65 (.pointer (some ⟨b, 0, none⟩)) u.a).run Tryd.prog w = .ok () w' ∧ RN.Bx w' b u ∧ Tch (fun j => j = b) w w' := by
  have t := setRow_tch w b u.c.toArray
  refine ⟨_, RowT.bx_store RN_is hx hu h, setRow_heap w b _ _ _ _ h, t.mono (fun j _ e => ?_)⟩
  simp at e
  exact e.symm
end Go.Proofs.YtldlljobofnmmabDoor
