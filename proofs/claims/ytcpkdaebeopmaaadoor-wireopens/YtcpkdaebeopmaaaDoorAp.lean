import Derived.Test.YtcpkdaebeopmaaaDoorSeal
namespace Go.Proofs.YtcpkdaebeopmaaaDoor
open Go.RowKit
set_option linter.unusedVariables false
set_option linter.unusedSimpArgs false

/-- append onto an owned row: it lies where it lay, or it is new and all that was is as it was. -/
theorem run_app3 (w : World) (base : Nat) (ty : TypeId) (v : Value) (L : List UInt8) (ad : Addr) (M : List UInt8) (c : Nat) (hown : OwnB w base v L) (hb : Byt w (some ad) M)
    (h : L.length + M.length ≤ 140737488355328) (hbase : base ≤ w.heap.size) (hM : 0 < M.length) :
    ∃ v' w', (Builtin.append_ #[22, 22] ty #[v, .slice (some ad) M.length c]).run Tryd.prog w = .ok v' w' ∧ OwnB w' base v' (L ++ M) ∧ w.grownBy w' v.ownBlock ∧
      (v'.ownBlock = v.ownBlock ∨ v'.ownBlock = some w.heap.size ∧ Below w.heap.size w w') := by
  obtain ⟨v', w', hr, own, gr, hblk⟩ := run_app2 w base ty v L (some ad) M c hown hb h hbase
  refine ⟨v', w', hr, own, gr, ?_⟩
  rcases hblk with e | e
  · exact .inl e
  · refine .inr ⟨e, ?_⟩
    cases hv : v.ownBlock with
    | none => exact (Below.refl _ _).grown gr (Nat.le_refl _) (fun k hk => by rw [hv] at hk; cases hk)
    | some g =>
      obtain ⟨i, hi, hz, hs, hby⟩ := info5'
      have hnews : ∀ j u, (byC M)[j]? = some u → w.cell? (ad.add j) = some u := fun j u hj => by
        obtain ⟨h1, rfl⟩ := byC_get _ j u hj
        rcases hb with rfl | ⟨b, off, e2, hc⟩
        · simp at h1
        · cases e2
          rw [Addr.add_mid]
          exact hc j h1
      rcases hown.2 with ⟨rfl, hn⟩ | ⟨g', cap, cur, rfl, hbg, hg, hnc, hcm, hcs, htake⟩
      · simp [Value.ownBlock] at hv
      · have hg' : g' < w.heap.size := (Array.getElem?_eq_some_iff.1 hg).1
        by_cases hroom : L.length + M.length ≤ cap
        · have hr2 := run_append_room (P := Tryd.prog) w 22 ty 5 i Tryd.underlying22 hi g' L.length cap cur hg ad M.length c (byC M) (by rw [byC_len, hs]; omega) hnews (byC_one _) hroom (by rw [byC_len, hs, hcs]; omega)
          rw [hr] at hr2
          injection hr2 with e1 e2
          rw [e1] at e
          simp [Value.ownBlock] at e
          omega
        · have hr2 := run_append_grow (P := Tryd.prog) w 22 ty 5 i (.int .u8 0) Tryd.underlying22 hi hz ⟨g', 0, none⟩ L.length cap (byC L) (by rw [byC_len, hs]; omega) (hown.cells (g := g') rfl) ad M.length c (byC M) (by rw [byC_len, hs]; omega) hnews (by omega) (by omega) (growslice_fits (by omega) (by rw [hby]; omega))
          rw [hr] at hr2
          injection hr2 with e1 e2
          rw [e2]
          exact (below_drewN (Below.refl _ _) 1).alloc (Nat.le_refl _) _
theorem wpList_app3 {ops : Array Oper} {rest : List Oper} {o : Oper} {a : Act} {w : World} {Q : Exit → Act → World → Prop} (hgd : o.guard = none) (s x : Operand)
    (ho : o.op = .call { callee := .builtin .append, args := #[s, x], argTypes := #[22, 22] }) (base : Nat) (v : Value) (L : List UInt8) (hs : a.eval s = v) (hown : OwnB w base v L)
    (ad : Addr) (m c : Nat) (M : List UInt8) (hx : a.eval x = .slice (some ad) m c) (hm : M.length = m) (hb : Byt w (some ad) M) (hlen : L.length + M.length ≤ 140737488355328) (hbase : base ≤ w.heap.size) (hM : 0 < M.length)
    (h : ∀ v' w', OwnB w' base v' (L ++ M) → w.grownBy w' v.ownBlock → (v'.ownBlock = v.ownBlock ∨ v'.ownBlock = some w.heap.size ∧ Below w.heap.size w w') → wpList Tryd.prog ops Q rest (a.put o.dst v') w') : wpList Tryd.prog ops Q (o :: rest) a w :=
  wpList_plain hgd fun _ hK => by
    subst hm
    obtain ⟨v', w', hr, h2, h3, h4⟩ := run_app3 w base o.type v L ad M c hown hb hlen hbase hM
    unfold Oper.wp execOp
    simp only [ho, resolve, invoke, builtin, Sem.run_bind, Sem.run_pure, Result.andThen_ok, List.map_toArray, List.map_cons, List.map_nil, hs, hx, hr]
    exact hK _ _ (h v' w' h2 h3 h4)
end Go.Proofs.YtcpkdaebeopmaaaDoor
