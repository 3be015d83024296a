import Derived.Test.YtlejbdepoemcjaaXn
namespace Go.Proofs.Ytlejbdepoemcjaa
open Go.RowKit Sq
set_option linter.unusedVariables false
set_option linter.unusedSimpArgs false

theorem map_ren {n f : Nat} {l : List Nat} (h : n ∉ l) : l.map (fun j => if j = n then f else j) = l := by
  induction l with
  | nil => rfl
  | cons a l ih =>
    simp only [List.mem_cons, not_or] at h
    rw [List.map_cons, ih h.2, if_neg (fun e => h.1 e.symm)]
theorem cnt_mk' {M : List Sp} {w : Bool} {i : Nat} {s : Bool} {t o : T} : Sq.cnt M w (mk i s t o) = Sq.cnt M w t + (if w = false ∨ (gt M i).sh = true then 1 else 0) + Sq.cnt M w o := by
  cases s
  · exact cnt_nd M w i t o
  · rw [show mk i true t o = .nd i o t from rfl, cnt_nd]; omega
/-- Another part with as many in it. -/
theorem replug {L M : List Sp} : ∀ {c : Ctx} {t t' : T}, Cnt L (plug c t) → Cnt M t' → (∀ w, Sq.cnt M w t' = Sq.cnt L w t) → (∀ j ∈ cids c, (gt M j).sh = (gt L j).sh ∧ ∀ w, ct (gt M j) w = ct (gt L j) w) → Cnt M (plug c t')
  | [], t, t', _, h, _, _ => h
  | (i, s, o) :: c, t, t', hL, hM, hc, hs => by
    obtain ⟨_, h1⟩ := Cnt.unplug (c := c) (t := mk i s t o) hL
    obtain ⟨h2, h3, h4⟩ := cnt_mk.1 h1
    have si := hs i (by simp [cids])
    have so : ∀ j ∈ o.ids, (gt M j).sh = (gt L j).sh ∧ ∀ w, ct (gt M j) w = ct (gt L j) w := fun j hj => hs j (by simp [cids, hj])
    have co : ∀ w, Sq.cnt M w o = Sq.cnt L w o := fun w => cnt_same (fun j hj => (so j hj).1)
    refine replug (c := c) (t := mk i s t o) (t' := mk i s t' o) hL (cnt_mk.2 ⟨fun w => ?_, hM, h4.same so⟩) (fun w => ?_) (fun j hj => hs j (by simp [cids, hj]))
    · rw [si.2 w, h2 w, hc w, co w, si.1]
    · rw [cnt_mk', cnt_mk', hc w, co w, si.1]
theorem fill_good {L : List Sp} {t : T} {f n : Nat} (zt : Zip L [] t) (ct : Cnt L t) (hn : L.length = n + 1) (hf : f ≠ 0) (hfl : f < n + 1) (hft : f ∉ t.ids) (hall : ∀ j, 0 < j → j < L.length → j ≠ f → j ∈ t.ids) :
    ∃ t', Good (fill L f) t' ∧ (fill L f).length = n ∧ t'.ids = t.ids.map (fun j => if j = n then f else j) ∧ ∀ j, j < n → (gt (fill L f) j).kp = (gt L (if j = f then n else j)).kp ∧ (gt (fill L f) j).sh = (gt L (if j = f then n else j)).sh := by
  by_cases e : f = n
  · have ef : fill L f = L.take n := by unfold fill; rw [hn, show n + 1 - 1 = n by omega, if_pos e]
    rw [ef]
    subst e
    have lt : ∀ i ∈ t.ids, i < f := fun i hi => by have := (zt.rep.mem i hi).2; have : i ≠ f := fun q => hft (q ▸ hi); omega
    have gl : ∀ j, j < f → gt (L.take f) j = gt L j := fun j hj => gt_take L hj
    have ll : (L.take f).length = f := by rw [List.length_take]; omega
    refine ⟨t, ⟨⟨zt.rep.same' (fun i hi => ⟨by rw [ll]; exact lt i hi, by rw [gl i (lt i hi)] <;> exact lt i hi, by rw [gl i (lt i hi)] <;> exact lt i hi, by rw [gl i (lt i hi)] <;> exact lt i hi⟩), ⟨by omega, ?_, ?_⟩, zt.nd, fun w => ?_⟩, ct.same (fun i hi => ?_), fun i h0 hi => ?_⟩, ll, (map_ren hft).symm, fun j hj => ?_⟩
    · rw [gl 0 (by omega)]; exact zt.repc.2.1
    · rw [gl 0 (by omega)]; exact zt.repc.2.2
    · rw [gl 0 (by omega)]; exact zt.z w
    · rw [gl i (lt i hi)]; exact ⟨rfl, fun _ => rfl⟩
    · rw [ll] at hi
      exact hall i h0 (by omega) (by omega)
    · rw [gl j hj, if_neg (by omega)]; exact ⟨rfl, rfl⟩
  · have ef : fill L f = (Sq.move L f n).take n := by unfold fill; rw [hn, show n + 1 - 1 = n by omega, if_neg e]
    rw [ef]
    have hnt : n ∈ t.ids := hall n (by omega) (by omega) (fun q => e q.symm)
    obtain ⟨c, l, r, et⟩ := Sq.focus [] hnt
    replace et : t = plug c (.nd n l r) := et
    have z := zt
    have c0 := ct
    rw [et] at z c0
    have z1 := z.unplug
    obtain ⟨cc, c1⟩ := Cnt.unplug c0
    have hfi : f ∉ (T.nd n l r).ids ++ cids c := fun h => hft (by rw [et]; exact (plug_perm c _).mem_iff.2 h)
    simp only [List.mem_append, not_or] at hfi
    obtain ⟨m1, m2, m3, m4, m5⟩ := move_zip z1 cc c1 hn hf (by omega) hfi.1 hfi.2
    have ml : ((Sq.move L f n).take n).length = n := by rw [List.length_take, m4]; omega
    have ids' : (plug c (.nd f l r)).ids = t.ids.map (fun j => if j = n then f else j) := by
      have nd := zt.nd
      simp only [cids, List.append_nil] at nd
      rw [et, plug_ids] at nd
      rw [et, plug_ids, plug_ids]
      simp only [T.ids, List.append_assoc, List.nodup_append, List.nodup_cons, List.mem_append, List.cons_append, List.mem_cons] at nd
      have n1 : n ∉ pre c := fun h => nd.2.2 n h n (.inr (.inl rfl)) rfl
      have n2 : n ∉ l.ids := fun h => nd.2.1.2.2 n h n (.inl rfl) rfl
      have n3 : n ∉ r.ids ++ post c := fun h => nd.2.1.2.1.1 (by simpa using h)
      simp only [T.ids, List.append_assoc, List.cons_append, List.map_append, List.map_cons, if_true]
      rw [map_ren n1, map_ren n2, ← List.map_append, map_ren n3]
    have gz : Zip ((Sq.move L f n).take n) [] (plug c (.nd f l r)) := m1.plug
    have cntP : Cnt ((Sq.move L f n).take n) (plug c (.nd f l r)) := by
      have lt_c : ∀ j ∈ cids c, j < n ∧ j ≠ f := fun j hj => by
        have h1 := (z1.repc.mem j hj).2
        have h2 : j ≠ n := fun q => by
          have nd := (List.nodup_append.1 z1.nd).2.2
          exact nd n (by simp [T.ids]) j hj q.symm
        exact ⟨by omega, fun q => hfi.2 (q ▸ hj)⟩
      have lt_i : ∀ j, j ∈ l.ids ∨ j ∈ r.ids → j < n ∧ j ≠ f := fun j hj => by
        have hm : j ∈ (T.nd n l r).ids := by simp only [T.ids, List.mem_append, List.mem_cons]; rcases hj with q | q <;> simp [q]
        have h1 := (z1.rep.mem j hm).2
        have nd := (List.nodup_append.1 z1.nd).1
        simp only [T.ids, List.nodup_append, List.nodup_cons, List.mem_cons] at nd
        have h2 : j ≠ n := by
          rcases hj with q | q
          · exact nd.2.2 j q n (.inl rfl)
          · exact fun x => nd.2.1.1 (x ▸ q)
        exact ⟨by omega, fun q => hfi.1 (q ▸ hm)⟩
      refine replug c0 m3 (fun w => ?_) (fun j hj => ?_)
      · rw [cnt_nd, cnt_nd, (m5.1 f (by omega)).2, if_pos rfl]
        have e1 : Sq.cnt ((Sq.move L f n).take n) w l = Sq.cnt L w l := cnt_same (fun j hj => by rw [(m5.1 j (lt_i j (.inl hj)).1).2, if_neg (lt_i j (.inl hj)).2])
        have e2 : Sq.cnt ((Sq.move L f n).take n) w r = Sq.cnt L w r := cnt_same (fun j hj => by rw [(m5.1 j (lt_i j (.inr hj)).1).2, if_neg (lt_i j (.inr hj)).2])
        rw [e1, e2]
      · obtain ⟨q1, q2⟩ := lt_c j hj
        refine ⟨by rw [(m5.1 j q1).2, if_neg q2], fun w => by rw [m5.2 j q1 w, if_neg q2]⟩
    refine ⟨plug c (.nd f l r), ⟨gz, cntP, fun i h0 hi => ?_⟩, ml, ids', m5.1⟩
    rw [ml] at hi
    rw [ids']
    by_cases q : i = f
    · exact List.mem_map.2 ⟨n, hnt, by rw [if_pos rfl, q]⟩
    · exact List.mem_map.2 ⟨i, hall i h0 (by omega) q, by rw [if_neg (by omega)]⟩
end Go.Proofs.Ytlejbdepoemcjaa
