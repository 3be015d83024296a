import Derived.Test.YtlejbdepoemcjaaSqa
namespace Go.Proofs.Ytlejbdepoemcjaa
open Go.RowKit Sq
set_option linter.unusedVariables false
set_option linter.unusedSimpArgs false

/-- A sequence in memory: its own block, its map's, its spots'. -/
structure Sx where
  sb : Nat
  mb : Nat
  g : Nat
  cap : Nat
  L : List Sp
  t : T
  N : List (IdK × Nat)
def Sx.bl (s : Sx) : List Nat := [s.sb, s.mb, s.g]
def entM (N : List (IdK × Nat)) : List (IdK × Value) := M.onV (fun n : Nat => Value.int .i64 (n : Int)) N
/-- What its map, its spots and its elements have to do with one another. -/
structure Lk (s : Sx) (E : List Elt) : Prop where
  good : Good s.L s.t
  e : E = elts s.L s.t
  ok : SeqOk E
  map : ∀ k n, M.look s.N k = some n ↔ (n ∈ s.t.ids ∧ (gt s.L n).kp.id = k)
  zid : (gt s.L 0).kp.id = zId
  fol : ∀ n, n = 0 ∨ n ∈ s.t.ids → (gt s.L n).kp.fol = (folE E (gt s.L n).kp.id : Int)
structure SeqAt (w : World) (s : Sx) (E : List Elt) : Prop where
  c0 : w.cell? ⟨s.sb, 0, none⟩ = some (.map (some s.mb))
  row : SqAt w s.sb 1 s.g s.cap s.L
  map : M.MapAt w s.mb IdK.v IdK.ok (entM s.N)
  nm : s.sb ≠ s.mb ∧ s.g ≠ s.mb
  lk : Lk s E
theorem SeqAt.lt {w : World} {s : Sx} {E : List Elt} (h : SeqAt w s E) : ∀ j ∈ s.bl, j < w.heap.size := by
  intro j hj
  simp only [Sx.bl, List.mem_cons, List.not_mem_nil, or_false] at hj
  rcases hj with rfl | rfl | rfl
  · exact h.row.lt.1
  · exact h.map.lt
  · exact h.row.lt.2
theorem SeqAt.keep {w w' : World} {s : Sx} {E : List Elt} (h : SeqAt w s E) (hk : ∀ j ∈ s.bl, w'.heap[j]? = w.heap[j]?) : SeqAt w' s E :=
  ⟨(World.cell?_of_block (a := ⟨s.sb, 0, none⟩) (hk s.sb (by simp [Sx.bl]))).trans h.c0, h.row.keep (hk s.sb (by simp [Sx.bl])) (hk s.g (by simp [Sx.bl])), h.map.below (hk s.mb (by simp [Sx.bl])), h.nm, h.lk⟩
theorem SeqAt.below {w w' : World} {s : Sx} {E : List Elt} (h : SeqAt w s E) (b : Below w.heap.size w w') : SeqAt w' s E := h.keep (fun j hj => b.block j (h.lt j hj))
theorem SeqAt.drew {w : World} {s : Sx} {E : List Elt} (h : SeqAt w s E) : SeqAt w.drew s E := h.keep (fun _ _ => rfl)
theorem SeqAt.qt {w w' : World} {s : Sx} {E : List Elt} (h : SeqAt w s E) (q : Qt w w') : SeqAt w' s E := h.keep (fun j _ => by rw [q.heap])
theorem look_entM (N : List (IdK × Nat)) (k : IdK) : M.look (entM N) k = (M.look N k).map (fun n : Nat => Value.int .i64 (n : Int)) := M.look_on _ _ _
theorem Lk.has {s : Sx} {E : List Elt} (h : Lk s E) (k : IdK) : hasE E k = (M.look s.N k).isSome := by
  rw [Bool.eq_iff_iff, hasE_iff]
  constructor
  · rintro ⟨e, he, q⟩
    rw [h.e, elts] at he
    obtain ⟨n, hn, rfl⟩ := List.mem_map.1 he
    rw [(h.map k n).2 ⟨hn, q⟩]
    rfl
  · intro q
    obtain ⟨n, hn⟩ := Option.isSome_iff_exists.1 q
    obtain ⟨h1, h2⟩ := (h.map k n).1 hn
    exact ⟨eltAt s.L n, by rw [h.e, elts]; exact List.mem_map.2 ⟨n, h1, rfl⟩, h2⟩
/-- The spot of an Id: none for what is not there, and for the zero Id. -/
def spotOf (s : Sx) (k : IdK) : Nat := (M.look s.N k).getD 0
theorem Lk.spot {s : Sx} {E : List Elt} (h : Lk s E) {k : IdK} (hk : hasE E k = true) : spotOf s k ∈ s.t.ids ∧ (gt s.L (spotOf s k)).kp.id = k := by
  rw [h.has] at hk
  obtain ⟨n, hn⟩ := Option.isSome_iff_exists.1 hk
  unfold spotOf
  rw [hn]
  exact (h.map k n).1 hn
theorem Lk.spot0 {s : Sx} {E : List Elt} (h : Lk s E) {k : IdK} (hk : hasE E k = false) : spotOf s k = 0 := by
  rw [h.has] at hk
  unfold spotOf
  cases q : M.look s.N k with
  | none => rfl
  | some n => rw [q] at hk; cases hk
theorem Lk.zero {s : Sx} {E : List Elt} (h : Lk s E) : hasE E zId = false := by
  cases q : hasE E zId with
  | false => rfl
  | true =>
    obtain ⟨e, he, q⟩ := hasE_iff.1 q
    have := (h.ok.ok e he).2.2
    rw [q] at this
    simp [zId] at this
theorem Lk.spot_has {s : Sx} {E : List Elt} (h : Lk s E) (k : IdK) : (decide ((spotOf s k : Int) ≠ 0)) = hasE E k := by
  cases q : hasE E k with
  | false => rw [h.spot0 q]; rfl
  | true =>
    have := (h.good.lt (h.spot q).1).1
    simp; omega
/-- What is found in the map. -/
theorem look_spot {w : World} {s : Sx} {E : List Elt} (h : SeqAt w s E) (k : IdK) (hk : k.ok) : (Instr.lookup 84 (.map (some s.mb)) k.v false).run Try.prog w = .ok (.int .i64 (spotOf s k : Int)) w := by
  have hz : (zeroValue 3).run Try.prog w = .ok (.int .i64 0) w := by kernel_rfl
  rw [M.run_look idKey Try.underlying84 h.map k hk hz false, look_entM, if_neg (by decide)]
  unfold spotOf
  cases M.look s.N k <;> rfl
end Go.Proofs.Ytlejbdepoemcjaa
