import Derived.Test.YtlejbdepoemcjaaSqd0
namespace Go.Proofs.Ytlejbdepoemcjaa
open Go.RowKit Sq
set_option linter.unusedVariables false
set_option linter.unusedSimpArgs false

theorem Good.len {L : List Sp} {t : T} (h : Good L t) : L.length = t.ids.length + 1 := by
  have p : t.ids.Perm (List.range' 1 (L.length - 1)) := by
    rw [List.perm_ext_iff_of_nodup h.nodup (List.nodup_range' ..)]
    intro j
    rw [List.mem_range'_1]
    have := h.pos
    exact ⟨fun q => by have := h.lt q; omega, fun q => h.all j (by omega) (by omega)⟩
  have := p.length_eq
  have := h.pos
  simp at *
  omega
theorem Lk.len {s : Sx} {E : List Elt} (h : Lk s E) : s.L.length = E.length + 1 := by rw [h.good.len, h.e]; simp [elts]
theorem Lk.inj {s : Sx} {E : List Elt} (h : Lk s E) {i j : Nat} (hi : i ∈ s.t.ids) (hj : j ∈ s.t.ids) (e : (gt s.L i).kp.id = (gt s.L j).kp.id) : i = j := by
  have h1 := (h.map _ i).2 ⟨hi, rfl⟩
  have h2 := (h.map _ j).2 ⟨hj, rfl⟩
  rw [e, h2] at h1
  simpa using h1.symm
theorem Lk.nz {s : Sx} {E : List Elt} (h : Lk s E) {i : Nat} (hi : i ∈ s.t.ids) : (gt s.L i).kp.id ≠ zId := fun q => by
  have := h.has zId
  rw [h.zero, (h.map zId i).2 ⟨hi, q⟩] at this
  cases this
theorem Lk.inj0 {s : Sx} {E : List Elt} (h : Lk s E) {i j : Nat} (hi : i = 0 ∨ i ∈ s.t.ids) (hj : j = 0 ∨ j ∈ s.t.ids) (e : (gt s.L i).kp.id = (gt s.L j).kp.id) : i = j := by
  rcases hi with rfl | hi <;> rcases hj with rfl | hj
  · rfl
  · rw [h.zid] at e; exact absurd e.symm (h.nz hj)
  · rw [h.zid] at e; exact absurd e (h.nz hi)
  · exact h.inj hi hj e
theorem Lk.spotIs {s : Sx} {E : List Elt} (h : Lk s E) {k : IdK} (hk : k = zId ∨ hasE E k = true) : (spotOf s k = 0 ∨ spotOf s k ∈ s.t.ids) ∧ (gt s.L (spotOf s k)).kp.id = k := by
  rcases hk with rfl | hk
  · have := h.spot0 h.zero
    rw [this]
    exact ⟨.inl rfl, h.zid⟩
  · exact ⟨.inr (h.spot hk).1, (h.spot hk).2⟩
theorem Lk.memE {s : Sx} {E : List Elt} (h : Lk s E) {i : Nat} (hi : i ∈ s.t.ids) : hasE E (gt s.L i).kp.id = true := hasE_iff.2 ⟨eltAt s.L i, by rw [h.e, elts]; exact List.mem_map.2 ⟨i, hi, rfl⟩, rfl⟩
theorem folE_zero {E : List Elt} (h : SeqOk E) {k : IdK} (hk : hasE E k = false) (hz : k ≠ zId) : folE E k = 0 := by
  unfold folE
  rw [List.countP_eq_zero]
  intro e he q
  simp only [decide_eq_true_eq] at q
  rcases h.bh e he with q2 | q2
  · exact hz (q.symm.trans q2)
  · rw [q, hk] at q2; cases q2
theorem folE_le (E : List Elt) (k : IdK) : folE E k ≤ E.length := List.countP_le_length
theorem gtA {L K : List Sp} {j : Nat} (h : j < L.length) : gt (L ++ K) j = gt L j := by
  unfold gt
  rw [List.getD_eq_getElem?_getD, List.getD_eq_getElem?_getD, List.getElem?_append_left h]
theorem gtB {L : List Sp} {x : Sp} {n : Nat} (h : L.length = n) : gt (L ++ [x]) n = x := by
  unfold gt
  rw [List.getD_eq_getElem?_getD, List.getElem?_append_right (by omega), h]
  simp
/-- Put: what comes of it. -/
theorem Lk.put {s : Sx} {E : List Elt} (h : Lk s E) (hN : (s.N.map (·.1)).Nodup) {k b : IdK} (hk : k.ok ∧ 1 ≤ k.n) (hb : b.ok) (hn : hasE E k = false) (hbh : b = zId ∨ hasE E b = true) {g' cap' : Nat} {L' : List Sp} {t' : T} (hg : Good L' t') (hi : InsB s.t.ids t'.ids (spotOf s b) s.L.length)
    (hK : Kept (setFol s.L (spotOf s b) ((gt s.L (spotOf s b)).kp.fol + 1) ++ [⟨⟨k, b, 0⟩, true, 0, 0, 0, 0, 0⟩]) L') : Lk { s with g := g', cap := cap', L := L', t := t', N := M.put s.N k s.L.length } (putE E b ⟨k, b, true⟩) := by
  obtain ⟨hs1, hs2⟩ := h.spotIs hbh
  obtain ⟨p, hp⟩ : ∃ p, spotOf s b = p := ⟨_, rfl⟩
  rw [hp] at hs1 hs2 hi hK
  obtain ⟨n, hnn⟩ : ∃ n, s.L.length = n := ⟨_, rfl⟩
  rw [hnn] at hi ⊢
  have hpn : p < n := by
    rcases hs1 with rfl | q
    · rw [← hnn]; exact h.good.pos
    · rw [← hnn]; exact (h.good.lt q).2
  have hl0 : (setFol s.L p ((gt s.L p).kp.fol + 1)).length = n := by rw [setFol_len, hnn]
  have old : ∀ j, j < n → (gt L' j).kp.id = (gt s.L j).kp.id ∧ eltAt L' j = eltAt s.L j ∧ (gt L' j).kp.fol = if p = j then (gt s.L j).kp.fol + 1 else (gt s.L j).kp.fol := fun j hj => by
    have e : gt (setFol s.L p ((gt s.L p).kp.fol + 1) ++ [⟨⟨k, b, 0⟩, true, 0, 0, 0, 0, 0⟩]) j = gt (setFol s.L p ((gt s.L p).kp.fol + 1)) j := gtA (by omega)
    have k1 := hK.kp j
    have k2 := hK.sh j
    rw [e] at k1 k2
    obtain ⟨f1, f2, _, _, f5, f6⟩ := setFol_gt s.L p ((gt s.L p).kp.fol + 1) j
    refine ⟨by rw [k1, f1], by unfold eltAt; rw [k1, k2, f1, f2, f5], ?_⟩
    rw [k1, f6]
    by_cases q : p = j
    · subst q; rw [if_pos ⟨rfl, by omega⟩, if_pos rfl]
    · rw [if_neg (fun q2 => q q2.1), if_neg q]
  have new : (gt L' n).kp = ⟨k, b, 0⟩ ∧ (gt L' n).sh = true := by
    have e : gt (setFol s.L p ((gt s.L p).kp.fol + 1) ++ [⟨⟨k, b, 0⟩, true, 0, 0, 0, 0, 0⟩]) n = ⟨⟨k, b, 0⟩, true, 0, 0, 0, 0, 0⟩ := gtB hl0
    have k1 := hK.kp n
    have k2 := hK.sh n
    rw [e] at k1 k2
    exact ⟨k1, k2⟩
  obtain ⟨A, B, e1, e2, e3⟩ := hi
  have mem : ∀ j, j ∈ t'.ids ↔ (j = n ∨ j ∈ s.t.ids) := fun j => by
    rw [e1, e2]
    simp only [List.mem_append, List.mem_cons]
    constructor
    · rintro (q | q | q)
      · exact .inr (.inl q)
      · exact .inl q
      · exact .inr (.inr q)
    · rintro (q | q | q)
      · exact .inr (.inl q)
      · exact .inl q
      · exact .inr (.inr q)
  have lt : ∀ j ∈ s.t.ids, j < n := fun j hj => by rw [← hnn]; exact (h.good.lt hj).2
  have hkz : k ≠ zId := fun q => by have := hk.2; rw [q] at this; simp [zId] at this
  have hnm : ∀ j, j = 0 ∨ j ∈ s.t.ids → (gt s.L j).kp.id ≠ k := fun j hj q => by
    rcases hj with rfl | hj
    · rw [h.zid] at q; exact hkz q.symm
    · have := h.memE hj
      rw [q, hn] at this; cases this
  have hE : putE E b ⟨k, b, true⟩ = elts L' t' := by
    have eA : A.map (eltAt L') = A.map (eltAt s.L) := List.map_congr_left fun j hj => (old j (lt j (by rw [e1]; simp [hj]))).2.1
    have eB : B.map (eltAt L') = B.map (eltAt s.L) := List.map_congr_left fun j hj => (old j (lt j (by rw [e1]; simp [hj]))).2.1
    have en : eltAt L' n = ⟨k, b, true⟩ := by unfold eltAt; rw [new.1, new.2]
    unfold elts
    rw [e2, List.map_append, List.map_cons, eA, eB, en]
    have eE : E = A.map (eltAt s.L) ++ B.map (eltAt s.L) := by rw [h.e, elts, e1, List.map_append]
    rcases e3 with ⟨rfl, rfl⟩ | ⟨A', rfl⟩
    · have : b = zId := by rw [← hs2]; exact h.zid
      unfold putE
      rw [if_pos this, eE]
      rfl
    · have hpi : p ∈ s.t.ids := by rw [e1]; simp
      have hbz : b ≠ zId := by rw [← hs2]; exact h.nz hpi
      unfold putE
      rw [if_neg hbz, eE]
      simp only [List.map_append, List.map_cons, List.map_nil, List.append_assoc, List.cons_append, List.nil_append]
      have : (eltAt s.L p).id = b := hs2
      rw [← this]
      refine insE_mid fun y hy q => ?_
      obtain ⟨j, hj, rfl⟩ := List.mem_map.1 hy
      have hji : j ∈ s.t.ids := by rw [e1]; simp [hj]
      have := h.inj hji hpi q
      subst this
      have nd := h.good.nodup
      rw [e1, List.append_assoc, List.nodup_append] at nd
      exact nd.2.2 j hj j (by simp) rfl
  refine ⟨hg, hE, h.ok.put (x := ⟨k, b, true⟩) ⟨hk.1, hb, hk.2⟩ hn hbh, fun k' m => ?_, ?_, fun m hm => ?_⟩
  · show M.look (M.put s.N k n) k' = some m ↔ m ∈ t'.ids ∧ (gt L' m).kp.id = k'
    rw [M.put_look _ _ _ hN, mem]
    by_cases q : k' = k
    · subst q
      rw [if_pos rfl]
      constructor
      · intro q2
        simp only [Option.some.injEq] at q2
        subst q2
        exact ⟨.inl rfl, by rw [new.1]⟩
      · rintro ⟨rfl | q1, q2⟩
        · rfl
        · rw [(old m (lt m q1)).1] at q2
          exact absurd q2 (hnm m (.inr q1))
    · rw [if_neg q, h.map k' m]
      constructor
      · rintro ⟨q1, q2⟩
        exact ⟨.inr q1, by rw [(old m (lt m q1)).1]; exact q2⟩
      · rintro ⟨rfl | q1, q2⟩
        · rw [new.1] at q2; exact absurd q2.symm q
        · exact ⟨q1, by rw [(old m (lt m q1)).1] at q2; exact q2⟩
  · show (gt L' 0).kp.id = zId
    rw [(old 0 (by omega)).1]; exact h.zid
  · show (gt L' m).kp.fol = (folE (putE E b ⟨k, b, true⟩) (gt L' m).kp.id : Int)
    have hf : ∀ i, folE (putE E b ⟨k, b, true⟩) i = (if b = i then 1 else 0) + folE E i := fun i => by
      rw [folE_perm (putE_perm E b _) i]
      unfold folE
      rw [List.countP_cons, Nat.add_comm]
      congr 1
      simp
    rw [hf]
    have hm' : m = n ∨ m = 0 ∨ m ∈ s.t.ids := by
      rcases hm with q | q
      · exact .inr (.inl q)
      · rcases (mem m).1 q with q | q
        · exact .inl q
        · exact .inr (.inr q)
    rcases hm' with rfl | q
    · rw [new.1]
      show (0 : Int) = _
      have : b ≠ k := fun q => hnm p hs1 (by rw [hs2, q])
      rw [if_neg this, folE_zero h.ok hn hkz]
      rfl
    · have hmn : m < n := by
        rcases q with rfl | q
        · omega
        · exact lt m q
      rw [(old m hmn).2.2, (old m hmn).1, h.fol m q]
      by_cases e : p = m
      · subst e
        rw [if_pos rfl, if_pos hs2.symm]
        omega
      · rw [if_neg e, if_neg (fun q2 => e (h.inj0 hs1 q (by rw [hs2, q2])))]
        omega
/-- Show: what comes of it. -/
theorem Lk.show {s : Sx} {E : List Elt} (h : Lk s E) {k : IdK} (hk : hasE E k = true) {b : Bool} {L' : List Sp} {t' : T} (hg : Good L' t') (hi : t'.ids = s.t.ids) (hK : Kept (setSh s.L (spotOf s k) b) L') : Lk { s with L := L', t := t' } (showE E k b) := by
  obtain ⟨hs1, hs2⟩ := h.spot hk
  obtain ⟨p, hp⟩ : ∃ p, spotOf s k = p := ⟨_, rfl⟩
  rw [hp] at hs1 hs2 hK
  have hpl := (h.good.lt hs1).2
  have kp : ∀ j, (gt L' j).kp = (gt s.L j).kp := fun j => by rw [hK.kp j, (setSh_gt s.L p b j).1]
  have hE : showE E k b = elts L' t' := by
    unfold elts showE
    rw [hi, h.e, elts, List.map_map]
    refine List.map_congr_left fun j hj => ?_
    have e1 : eltAt L' j = { eltAt s.L j with sh := (gt L' j).sh } := by unfold eltAt; rw [kp]
    rw [e1, hK.sh j, (setSh_gt s.L p b j).2.2.2]
    simp only [Function.comp]
    by_cases q : p = j
    · subst q
      rw [if_pos (show (eltAt s.L p).id = k from hs2), if_pos ⟨rfl, hpl⟩]
    · rw [if_neg (show ¬ (eltAt s.L j).id = k from fun q2 => q (h.inj hs1 hj (hs2.trans q2.symm))), if_neg (fun q2 => q q2.1)]
      rfl
  refine ⟨hg, hE, h.ok.show k b, fun k' m => ?_, ?_, fun m hm => ?_⟩
  · show M.look s.N k' = some m ↔ m ∈ t'.ids ∧ (gt L' m).kp.id = k'
    rw [hi, kp]; exact h.map k' m
  · show (gt L' 0).kp.id = zId
    rw [kp]; exact h.zid
  · show (gt L' m).kp.fol = (folE (showE E k b) (gt L' m).kp.id : Int)
    rw [kp, folE_show]
    exact h.fol m (by rw [← hi]; exact hm)
end Go.Proofs.Ytlejbdepoemcjaa
