import Derived.Test.YtpdepbakopdgpaaSqj
import Derived.RangeFuncFrom
import Derived.Shelf.Abstract
import Derived.Laws.MakeOwn
namespace Go.Proofs.Ytpdepbakopdgpaa
open Go.RowKit Go.Shelf Sq
set_option linter.unusedVariables false
set_option linter.unusedSimpArgs false

/-- Some blocks stay. -/
def Kl (l : List Nat) (W W' : World) : Prop := ∀ j ∈ l, W'.heap[j]? = W.heap[j]?
theorem Kl.trans {l : List Nat} {A B C : World} (h : Kl l A B) (k : Kl l B C) : Kl l A C := fun j hj => (k j hj).trans (h j hj)
theorem Kl.put {l : List Nat} {w : World} (hl : ∀ j ∈ l, j < w.heap.size) (W : World) (b : Nat) (o o' : Obj) (hb : w.heap.size ≤ b) (h : W.heap[b]? = some o) (h1 : o.isCells = false) (h2 : o.isWalk = false) : Kl l W (W.putObj b o') := fun j hj => by
  have := hl j hj
  exact World.putObj_heap_other (by omega)
theorem ws_of {w : World} {b1 b2 rb ro : Nat} {c : Bool} (h1 : w.cell? ⟨b1, 0, none⟩ = some (.pointer (some ⟨rb, ro, none⟩))) (h2 : w.cell? ⟨b2, 0, none⟩ = some (.int .i64 (nb c : Int))) : WS b1 b2 rb ro c w := by
  unfold WS
  constructor <;> go_simp
set_option maxRecDepth 100000 in
set_option maxHeartbeats 4000000 in
theorem walk1_stops (n rb ro g cap b1 b2 : Nat) (L : List Sp) (t : T) (c : Bool) (w : World) (hR : SqAt w rb ro g cap L) (hg : Good L t) (h1 : w.cell? ⟨b1, 0, none⟩ = some (.pointer (some ⟨rb, ro, none⟩))) (h2 : w.cell? ⟨b2, 0, none⟩ = some (.int .i64 (nb c : Int))) :
    SeqStopsK Fence.wide n Try.prog 77 #[.pointer (some ⟨b1, 0, none⟩), .pointer (some ⟨b2, 0, none⟩)] (fun x : OkK => #[KpV.v x.1]) (Kl [rb, g]) (fun xs => xs = visK hR.ok c t) (fun _ => True) (vis L c t).length w := by
  intro l J Jx W hW hJ hJx hY h0
  have l1 := block_lt_of_cell h1
  have l2 := block_lt_of_cell h2
  have R0 : SqAt W rb ro g cap L := hR.keep (hW.block _ hR.lt.1) (hW.block _ hR.lt.2)
  have w1 : WS b1 b2 rb ro c W.drew := ws_of ((hW.cell (p := ⟨b1, 0, none⟩) l1).trans h1) ((hW.cell (p := ⟨b2, 0, none⟩) l2).trans h2)
  have hJq : ∀ pre W W', J pre W → Qt W W' → J pre W' := fun pre W W' hj q => hJ pre W W' none hj ⟨q.os, q.tape, q.output, by rw [q.heap]; exact Nat.le_refl _, fun k _ _ => by rw [q.heap]⟩ (fun r e => by cases e)
  have HP := hidMk (pass_any (n := n) (N := (vis L c t).length) (l := l) (c := c) hR.ok J Jx hg.zip.z hg.pos hJq (fun pre x W1 hj hs hl => by
    obtain ⟨fn, tmps, assign, body, hy, hr⟩ := hY pre x W1 hj hl
    refine ⟨fn, tmps, assign, body, hy, hr.mono ?_⟩
    rintro e W' (⟨rfl, a1, a2⟩ | ⟨rfl, a1⟩)
    · exact ⟨true, rfl, .inl ⟨rfl, a1, hs.keep (a2 rb (by simp)) (a2 g (by simp))⟩⟩
    · exact ⟨false, rfl, .inr ⟨rfl, _, a1⟩⟩) t 0 [] W.drew hg.zip.rep hg.cnt R0.drew (hJq _ _ _ h0 (Qt.drew W)) (by simp))
  have HR := hidMk (root_any R0.drew hg)
  refine callsIn_of_wp Try.func77 rfl trivial ?_ rfl
  simp only [Try.ntmps77, List.size_toArray, List.length_cons, List.length_nil, Nat.reduceAdd, Nat.reduceSub, Array.replicate_succ, Array.replicate_zero, List.push_toArray, List.append_toArray, List.nil_append, List.cons_append]
  refine wpIn_wide.2 ?_
  go_upto_region 0 with fail
  refine walk0 (i := t.ix) (c := c) (l := l) (fun b w' => PassP J Jx rb ro g cap L ([] ++ visK hR.ok c t) b w') _ _ _ rfl rfl rfl rfl w1 (HR.out.mono ?_) ?_
  · rintro e w' ⟨rfl, rfl⟩
    exact ⟨rfl, w1, HP.out⟩
  intro b a' W' hP ha
  subst ha
  have HP2 := hidMk hP
  clear hP HP HR
  simp only [Act.put, List.setIfInBounds_toArray, List.set_cons_zero, List.set_cons_succ]
  go_end0
  refine ⟨⟨_, rfl⟩, ?_⟩
  rcases HP2.out with ⟨_, a, _⟩ | ⟨_, p, a⟩
  · exact .inl ⟨_, rfl, a⟩
  · exact .inr ⟨p, trivial, a⟩
end Go.Proofs.Ytpdepbakopdgpaa
