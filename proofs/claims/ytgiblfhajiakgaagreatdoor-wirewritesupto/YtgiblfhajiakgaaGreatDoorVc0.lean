import Derived.Test.YtgiblfhajiakgaaGreatDoorP2
import Derived.Test.YtgiblfhajiakgaaGreatDoorWw
import Derived.Test.YtgiblfhajiakgaaGreatDoorRows
namespace Go.Proofs.YtgiblfhajiakgaaGreatDoor
open Go.RowKit
set_option linter.unusedVariables false
set_option linter.unusedSimpArgs false

theorem bulk_one {H : Type} (d : DataW H) : 1 ≤ Rows.uptoBulk d := by
  cases d with
  | lit l => cases l <;> simp [Rows.uptoBulk]
  | _ => simp [Rows.uptoBulk]
theorem bulk_len {H : Type} (l : List (DataW H)) : l.length ≤ Rows.uptoBulkAll l := by
  induction l with
  | nil => simp [Rows.uptoBulkAll]
  | cons x r ih => have := bulk_one x; simp only [Rows.uptoBulkAll, List.length_cons]; omega
theorem bulk_at {H : Type} : ∀ {l : List (DataW H)} {i : Nat} {d : DataW H}, l[i]? = some d → Rows.uptoBulk d ≤ Rows.uptoBulkAll l
  | x :: r, 0, d, h => by
    simp only [List.getElem?_cons_zero, Option.some.injEq] at h
    subst h
    simp only [Rows.uptoBulkAll]
    omega
  | x :: r, i + 1, d, h => by
    simp only [List.getElem?_cons_succ] at h
    have := bulk_at h
    simp only [Rows.uptoBulkAll]
    omega
  | [], i, d, h => by simp at h
set_option maxHeartbeats 1000000 in
/-- The cells of an Op that came in. -/
theorem op_cells2 {H : Type} {enc : TypeId × Value → H} {W : World} {fuel : Nat} {cs : List Value} {y : DataW H × List MemPlace} (h : DataW.trod enc Tryz.prog W 0 (fun _ => true) true fuel 39 cs = some y)
    (hb : Rows.uptoBulk y.1 ≤ 1048576) : ∃ (k : Int) (o : OpV), cs = (o.c k).toList ∧ ∃ R L, OpW W o R L := by
  obtain ⟨xs, n, _, hx, hcl, hlen, hfs⟩ := DataW.trod_struct Tryz.underlying39 h
  rw [cellsOp] at hcl
  have hlen : xs.length = 11 := hlen
  obtain ⟨y0, y1, y2, y3, y4, y5, y6, y7, y8, y9, y10, rfl⟩ := list11 hlen
  obtain ⟨c0, c1, c2, c3, c4, c5, c6, c7, t, rfl, ht⟩ := list8 (m := 34) (by omega)
  obtain ⟨c8, c9, hc89⟩ : ∃ c8 c9, t.drop 32 = [c8, c9] := list2 (by simp; omega)
  have tt : t = t.take 32 ++ [c8, c9] := by rw [← hc89, List.take_append_drop]
  have k1 : ∀ T, T ∈ opTypes → T ≠ 36 → Tryz.prog.cellsOf T = 1 := by
    intro T hT hne
    simp only [opTypes, List.mem_cons, List.not_mem_nil, or_false] at hT
    rcases hT with e | e | e | e | e | e | e | e | e | e | e <;> subst e <;> first | exact absurd rfl hne | kernel_rfl
  have t0 : DataW.trod enc Tryz.prog W 0 (fun _ => true) true n 3 [c0] = some y0 := by simpa [k1 3 (by decide) (by decide)] using hfs 0 _ rfl
  have t1 : DataW.trod enc Tryz.prog W 0 (fun _ => true) true n 5 [c1] = some y1 := by simpa [k1 5 (by decide) (by decide)] using hfs 1 _ rfl
  have t2 : DataW.trod enc Tryz.prog W 0 (fun _ => true) true n 4 [c2] = some y2 := by simpa [k1 4 (by decide) (by decide)] using hfs 2 _ rfl
  have t3 : DataW.trod enc Tryz.prog W 0 (fun _ => true) true n 33 [c3] = some y3 := by simpa [k1 33 (by decide) (by decide)] using hfs 3 _ rfl
  have t4 : DataW.trod enc Tryz.prog W 0 (fun _ => true) true n 2 [c4] = some y4 := by simpa [k1 2 (by decide) (by decide)] using hfs 4 _ rfl
  have t5 : DataW.trod enc Tryz.prog W 0 (fun _ => true) true n 34 [c5] = some y5 := by simpa [k1 34 (by decide) (by decide)] using hfs 5 _ rfl
  have t6 : DataW.trod enc Tryz.prog W 0 (fun _ => true) true n 9 [c6] = some y6 := by simpa [k1 9 (by decide) (by decide)] using hfs 6 _ rfl
  have t7 : DataW.trod enc Tryz.prog W 0 (fun _ => true) true n 25 [c7] = some y7 := by simpa [k1 25 (by decide) (by decide)] using hfs 7 _ rfl
  have t8 : DataW.trod enc Tryz.prog W 0 (fun _ => true) true n 36 (t.take 32) = some y8 := by
    have := hfs 8 _ rfl
    simpa [cellsH] using this
  have t9 : DataW.trod enc Tryz.prog W 0 (fun _ => true) true n 37 [c8] = some y9 := by
    have := hfs 9 _ rfl
    simpa [k1 37 (by decide) (by decide), hc89] using this
  have t10 : DataW.trod enc Tryz.prog W 0 (fun _ => true) true n 26 [c9] = some y10 := by
    have := hfs 10 _ rfl
    have e33 : (t.drop 33).take 1 = [c9] := by rw [show 33 = 32 + 1 from rfl, ← List.drop_drop, hc89]; rfl
    simpa [k1 26 (by decide) (by decide), e33] using this
  obtain ⟨z0, e0, _, w0⟩ := DataW.trod_int Tryz.underlying3 t0
  obtain ⟨z1, e1, _, w1⟩ := DataW.trod_int Tryz.underlying5 t1
  obtain ⟨z2, e2, _⟩ := DataW.trod_bool Tryz.underlying4 t2
  obtain ⟨z3, e3, _, w3⟩ := DataW.trod_int Tryz.underlying33 t3
  obtain ⟨z4, e4, _, w4⟩ := DataW.trod_int Tryz.underlying2 t4
  obtain ⟨z5, e5, w5⟩ := trod_float Tryz.underlying34 t5
  obtain ⟨z6, e6, x6, w6⟩ := DataW.trod_string Tryz.underlying9 t6
  obtain ⟨ra, rn, rc, e7, tr7⟩ := trod_sl Tryz.underlying25 t7
  obtain ⟨hh, hh32, e8⟩ := hash_cells t8
  obtain ⟨la, ln, lc, e9, tr9⟩ := trod_sl Tryz.underlying37 t9
  obtain ⟨z10, e10, _, w10⟩ := DataW.trod_int Tryz.underlying26 t10
  simp at e0 e1 e2 e3 e4 e5 e6 e10
  subst e0 e1 e2 e3 e4 e5 e6 e7 e9 e10
  rw [e8] at tt
  obtain ⟨R, hR, _, hRb, hRd⟩ := view_bytes tr7
  obtain ⟨L, hL, hL32, hLl, _, hLd⟩ := view_hashes tr9
  have b3 := u64_wf w3
  have b4 := i64_wf w4
  have b1 := bounds_u8 w1
  have b5 : z5 < 18446744073709551616 := by simpa [Lit.wf, FloatKind.format, Ieee.Format.width, Ieee.double] using w5
  rw [hx] at hb
  simp only [List.map_cons, List.map_nil, Rows.uptoBulk, Rows.uptoBulkAll] at hb
  have r6 : z6.size ≤ 1048576 := by
    have : Rows.uptoBulk y6.1 = z6.data.toList.length + 1 := by rw [x6]; simp [Rows.uptoBulk]
    have e : z6.data.toList.length = z6.size := by simp
    omega
  have r7 : rn ≤ 1048576 := by
    rcases hRd with ⟨_, h0⟩ | ⟨el, sp, hd, hel⟩
    · omega
    · have h1 := bulk_len el
      have : Rows.uptoBulk y7.1 = Rows.uptoBulkAll el + Rows.uptoBulkAll sp + 1 := by rw [hd]; simp [Rows.uptoBulk]
      omega
  have r9 : ln ≤ 1048576 := by
    rcases hLd with ⟨_, h0⟩ | ⟨el, sp, hd, hel⟩
    · omega
    · have h1 := bulk_len el
      have : Rows.uptoBulk y9.1 = Rows.uptoBulkAll el + Rows.uptoBulkAll sp + 1 := by rw [hd]; simp [Rows.uptoBulk]
      omega
  refine ⟨z0, ⟨z1, z2, z3.toNat, z4, z5, z6, ra, rn, rc, hh, la, ln, lc, z10⟩, ?_, R, L, hh32, by show z3.toNat < _; omega, b4.1, b4.2, b5, b1.1, b1.2, r6, hR, r7, hRb, hL32, hL, r9, hLl⟩
  rw [tt]
  show _ = oL _ _ _ _ _ _ _ _ _ _ _
  simp only [oL]
  rw [show ((z3.toNat : Nat) : Int) = z3 by omega]
/-- What a slice of Ops that came in gives a walk. -/
theorem view_ops2 {H : Type} {enc : TypeId × Value → H} {W : World} {a : Option Addr} {len cap : Nat} {d : DataW H} {p : List MemPlace}
    (h : DataW.Trod enc Tryz.prog W 0 (fun _ => true) true 22 (.slice a len cap) d p) (hb : Rows.uptoBulk d ≤ 1048576) :
    ∃ l : List (Int × OpV), l.length = len ∧ len ≤ 1048576 ∧ Opw W a l := by
  obtain ⟨fuel, hf⟩ := h
  rcases DataW.trod_slice Tryz.underlying22 hf with ⟨hcs', hx⟩ | ⟨ad, l, c, elems, rest, n, _, hcs', hx, _, hl, hm, hel, hcell, _, _⟩
  · simp [Value.cells] at hcs'
    obtain ⟨rfl, rfl, rfl⟩ := hcs'
    simp only [Prod.mk.injEq] at hx
    exact ⟨[], rfl, by omega, .inl rfl⟩
  · simp [Value.cells] at hcs'
    obtain ⟨rfl, rfl, rfl⟩ := hcs'
    simp only [Prod.mk.injEq] at hx
    obtain ⟨b, off, spot⟩ := ad
    rw [hx.1] at hb
    simp only [Rows.uptoBulk] at hb
    have hwd : Rows.uptoBulkAll (elems.map (·.1)) ≤ 1048576 := by omega
    have hbd : len ≤ 1048576 := by
      have := bulk_len (elems.map (·.1))
      rw [List.length_map] at this
      omega
    have raw : ∀ i, i < len → ∃ x : Int × OpV, (∃ R L, OpW W x.2 R L) ∧ ∀ j u, (x.2.c x.1).toList[j]? = some u → W.cell? (((⟨b, off, spot⟩ : Addr).add (i * 42)).add j) = some u := fun i hi => by
      have hi2 := hcell i hi
      have hlt : i < elems.length := by omega
      rw [List.getElem?_eq_getElem hlt, cellsOp, Option.bind_eq_some_iff] at hi2
      obtain ⟨cs, hc1, hc2⟩ := hi2
      obtain ⟨k, o, rfl, R, L, ok⟩ := op_cells2 hc2 (Nat.le_trans (bulk_at (l := elems.map (·.1)) (i := i) (d := elems[i].1) (by simp [hlt])) hwd)
      obtain ⟨_, _, hc3⟩ := World.cells?_some hc1
      refine ⟨(k, o), ⟨R, L, ok⟩, fun j u hu => ?_⟩
      have hj := (List.getElem?_eq_some_iff.1 hu).1
      have hj : j < 42 := by rw [oc_len o k ok.hh] at hj; exact hj
      rw [hc3 j hj]
      exact hu
    have hspot : 0 < len → spot = none := fun h0 => by
      obtain ⟨x, ⟨R, L, ok⟩, hc⟩ := raw 0 h0
      have q := hc 0 _ (List.getElem?_eq_getElem (by rw [oc_len x.2 x.1 ok.hh]; omega))
      have := World.cell?_spot q
      simpa [Addr.add] using this
    let F : Nat → Int × OpV := fun i => if h : i < len then Classical.choose (raw i h) else (0, ⟨0, false, 0, 0, 0, ⟨#[]⟩, none, 0, 0, [], none, 0, 0, 0⟩)
    have hF : ∀ i (h : i < len), F i = Classical.choose (raw i h) := fun i h => dif_pos h
    refine ⟨(List.range len).map F, by simp, hbd, ?_⟩
    by_cases h0 : 0 < len
    · have hs := hspot h0
      subst hs
      refine .inr ⟨b, off, rfl, fun i k o hv => ?_⟩
      have hi : i < len := by
        have := (List.getElem?_eq_some_iff.1 hv).1
        simpa using this
      rw [List.getElem?_map, List.getElem?_range hi] at hv
      simp only [Option.map_some, Option.some.injEq] at hv
      rw [hF i hi] at hv
      have sp := Classical.choose_spec (raw i hi)
      rw [hv] at sp
      refine ⟨fun j u hu => ?_, sp.1⟩
      have := sp.2 j u hu
      rw [Addr.add_mid, Addr.add_mid] at this
      rwa [show off + 42 * i + j = off + i * 42 + j by omega]
    · obtain rfl : len = 0 := by omega
      exact .inl rfl
end Go.Proofs.YtgiblfhajiakgaaGreatDoor
