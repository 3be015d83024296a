import Derived.Test.YtoofljkgdjjllaaTp
namespace Go.Proofs.Ytoofljkgdjjllaa
open Go.RowKit
set_option linter.unusedVariables false
set_option linter.unusedSimpArgs false

theorem look_node1 (bn : Nat) (N : List (IdK × NodeV)) (w : World) (k : IdK) (hk : k.ok) (h : M.MapAt w bn IdK.v IdK.ok (entN N)) :
    (Instr.lookup 79 (.map (some bn)) k.v false).run Try.prog w = .ok (((lookN N k).getD zNode).v) w := by
  rw [M.run_look idKey Try.underlying79 h k hk (zeroNode w) false, look_entN]
  cases lookN N k <;> rfl
theorem sh_del (N : List (IdK × NodeV)) (k : IdK) (hn : (N.map (·.1)).Nodup) (u x : IdK) : shN (M.del N k) u x ↔ shN N u x ∧ x ≠ k := by
  unfold shN lookN
  rw [M.del_look _ _ hn]
  by_cases e : x = k
  · simp [e]
  · simp [e]
/-- What a closure of a Back does. -/
def Undid (s : Tr) (f : Fn) (w w' : World) : Prop := ∃ N' R', TrAt w' { s with N := N', R := R' } ∧ RowsOk R' (shN N') ∧ (∀ x, lookN N' x = f x) ∧ Tch (fun j => j ∈ s.bl) w w' ∧ RowsFrom R' s.R w.heap.size
set_option maxRecDepth 100000 in
set_option maxHeartbeats 2000000 in
theorem putb_any (s : Tr) (k : IdK) (n : NodeV) (ib nb : Nat) (w : World) (hk : k.ok) (hn : n.u.ok) (h : TrAt w s) (hr : RowsOk s.R (shN s.N)) (hi : IdAt w ib k) (hb : NodeAt w nb n) :
    Calls Try.prog 81 #[.pointer (some ⟨s.t, 0, none⟩), .pointer (some ⟨ib, 0, none⟩), .pointer (some ⟨nb, 0, none⟩)] w fun e w' => e = .returned (.tuple #[]) ∧ Undid s (upd (lookN s.N) k (some n)) w w' := by
  have hnk : (s.N.map (·.1)).Nodup := by have := h.nodes.2.1; rwa [entN, M.onV_keys] at this
  have HL := hidMk (lay_any s k n w hk hn h hr)
  go_enter Try.func81, Try.ntmps81
  go_wp2_with (first
    | (refine wpList_val rfl (exec_load (t := 37) (u := .pointer (some ⟨ib, 0, none⟩)) rfl rfl (load_id hk hi)) ?_)
    | (refine wpList_val rfl (exec_load (t := 94) (u := .pointer (some ⟨nb, 0, none⟩)) rfl rfl (load_node hn hb)) ?_)
    | (go_at_call 46; refine HL.out.mono ?_; rintro e w3 ⟨rfl, R', h3, r3, t3, f3⟩)
    | fail)
  refine bodyPost_end (results_none rfl _ _ _) rfl ?_
  refine ⟨rfl, _, R', h3, r3, fun x => ?_, t3, f3⟩
  unfold lookN upd
  rw [M.put_look _ _ _ hnk]
end Go.Proofs.Ytoofljkgdjjllaa
