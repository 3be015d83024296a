import Derived.Test.YthfbolmfkilkjaaVi
import Derived.Test.YthfbolmfkilkjaaGn
namespace Go.Proofs.Ythfbolmfkilkjaa
open Go.ChangeShapes Go.WideShapes Go.ChangeAt Go.RowKit
set_option linter.unusedVariables false
set_option linter.unusedSimpArgs false

/-- What is met in reading is no greater than a process's memory. -/
def Sm {H : Type} (t : TypeId) (d : DataW H) : Prop := ∀ n ∈ d.weights Try.prog t, n ≤ reachBytes
theorem wAll {H : Type} {P : Program} {e : TypeId} : ∀ {l : List (DataW H)} {i : Nat} {d : DataW H}, l[i]? = some d → ∀ n ∈ d.weights P e, n ∈ DataW.weightsAll P e l
  | x :: r, 0, d, h, n, hn => by
    simp only [List.getElem?_cons_zero, Option.some.injEq] at h
    subst h
    simp only [DataW.weightsAll, List.mem_append]
    exact .inl hn
  | x :: r, i + 1, d, h, n, hn => by
    simp only [List.getElem?_cons_succ] at h
    simp only [DataW.weightsAll, List.mem_append]
    exact .inr (wAll h n hn)
  | [], i, d, h, n, hn => by simp at h
theorem by39 : Try.prog.bytesOf 39 = 232 := by kernel_rfl
theorem trod_float {H : Type} {enc : TypeId × Value → H} {P : Program} {w : World} {base : Nat} {spare : Nat → Bool} {held : Bool} {fuel : Nat} {t : TypeId} {cs : List Value} {x : DataW H × List MemPlace} {k : FloatKind} (ht : P.underlying t = some (.float k)) (h : DataW.trod enc P w base spare held fuel t cs = some x) :
    ∃ b, cs = [.float k b] ∧ (Lit.float k b).wf = true := by
  cases fuel with
  | zero => simp [DataW.trod] at h
  | succ n =>
    unfold DataW.trod at h
    rw [ht] at h
    split at h <;> simp_all
theorem trod_sl {H : Type} {enc : TypeId × Value → H} {W : World} {fuel : Nat} {t e : TypeId} {c : Value} {x : DataW H × List MemPlace} (ht : Try.prog.underlying t = some (.slice e)) (h : DataW.trod enc Try.prog W 0 (fun _ => true) true fuel t [c] = some x) :
    ∃ a n cap, c = .slice a n cap ∧ DataW.Trod enc Try.prog W 0 (fun _ => true) true t (.slice a n cap) x.1 x.2 := by
  rcases DataW.trod_slice ht h with ⟨hcs, hx⟩ | ⟨ad, l, c', elems, rest, n, _, hcs, _⟩
  · simp at hcs
    subst hcs
    exact ⟨_, _, _, rfl, fuel, h⟩
  · simp at hcs
    subst hcs
    exact ⟨_, _, _, rfl, fuel, h⟩
theorem co5 : Try.prog.cellsOf 5 = 1 := by kernel_rfl
theorem co2 : Try.prog.cellsOf 2 = 1 := by kernel_rfl
theorem co3 : Try.prog.cellsOf 3 = 1 := by kernel_rfl
theorem co9 : Try.prog.cellsOf 9 = 1 := by kernel_rfl
theorem co22 : Try.prog.cellsOf 22 = 1 := by kernel_rfl
theorem co23 : Try.prog.cellsOf 23 = 1 := by kernel_rfl
theorem co30 : Try.prog.cellsOf 30 = 1 := by kernel_rfl
theorem co31 : Try.prog.cellsOf 31 = 1 := by kernel_rfl
theorem co34 : Try.prog.cellsOf 34 = 1 := by kernel_rfl
theorem co35 : Try.prog.cellsOf 35 = 1 := by kernel_rfl
theorem co29 : Try.prog.cellsOf 29 = 32 := by kernel_rfl
theorem co33 : Try.prog.cellsOf 33 = 34 := by kernel_rfl
theorem co37 : Try.prog.cellsOf 37 = 4 := by kernel_rfl
theorem co39 : Try.prog.cellsOf 39 = 111 := by kernel_rfl
theorem li3 {α : Type} {l : List α} (h : l.length = 3) : ∃ c0 c1 c2, l = [c0, c1, c2] := by
  match l, h with
  | [c0, c1, c2], _ => exact ⟨c0, c1, c2, rfl⟩
theorem li4 {α : Type} {l : List α} (h : l.length = 4) : ∃ c0 c1 c2 c3, l = [c0, c1, c2, c3] := by
  match l, h with
  | [c0, c1, c2, c3], _ => exact ⟨c0, c1, c2, c3, rfl⟩
theorem li6 {α : Type} {l : List α} (h : l.length = 6) : ∃ c0 c1 c2 c3 c4 c5, l = [c0, c1, c2, c3, c4, c5] := by
  match l, h with
  | [c0, c1, c2, c3, c4, c5], _ => exact ⟨c0, c1, c2, c3, c4, c5, rfl⟩
theorem li9 {α : Type} {l : List α} (h : l.length = 9) : ∃ c0 c1 c2 c3 c4 c5 c6 c7 c8, l = [c0, c1, c2, c3, c4, c5, c6, c7, c8] := by
  match l, h with
  | [c0, c1, c2, c3, c4, c5, c6, c7, c8], _ => exact ⟨c0, c1, c2, c3, c4, c5, c6, c7, c8, rfl⟩
theorem cutAt (l : List Value) (i n : Nat) : l.drop i = (l.drop i).take n ++ l.drop (i + n) := by
  rw [← List.drop_drop, List.take_append_drop]
theorem str_of (s : ByteArray) : str s.data.toList = s := by
  obtain ⟨a⟩ := s
  simp [str]
theorem ref_cells {H : Type} {enc : TypeId × Value → H} {W : World} {fuel : Nat} {cs : List Value} {y : DataW H × List MemPlace} (h : DataW.trod enc Try.prog W 0 (fun _ => true) true fuel 33 cs = some y) : ∃ k hh n, hh.length = 32 ∧ cs = refL k hh n := by
  obtain ⟨xs, n, _, hx, hcl, hlen, hfs⟩ := DataW.trod_struct Try.underlying33 h
  rw [co33] at hcl
  have hlen : xs.length = 3 := hlen
  obtain ⟨y0, y1, y2, rfl⟩ := li3 hlen
  have t0 : DataW.trod enc Try.prog W 0 (fun _ => true) true n 31 (cs.take 1) = some y0 := by simpa [co31] using hfs 0 _ rfl
  have t1 : DataW.trod enc Try.prog W 0 (fun _ => true) true n 29 ((cs.drop 1).take 32) = some y1 := by simpa [co29] using hfs 1 _ rfl
  have t2 : DataW.trod enc Try.prog W 0 (fun _ => true) true n 3 ((cs.drop 33).take 1) = some y2 := by simpa [co3] using hfs 2 _ rfl
  obtain ⟨z0, e0, _, _⟩ := DataW.trod_int Try.underlying31 t0
  obtain ⟨hh, h32, e1⟩ := hash_cells t1
  obtain ⟨z2, e2, _, _⟩ := DataW.trod_int Try.underlying3 t2
  refine ⟨z0, hh, z2, h32, ?_⟩
  have c0 := cutAt cs 0 1
  have c1 := cutAt cs 1 32
  have c2 := cutAt cs 33 1
  rw [List.drop_zero] at c0
  rw [List.drop_eq_nil_of_le (by omega : cs.length ≤ 33 + 1), List.append_nil] at c2
  rw [c0, e0, Nat.zero_add, c1, e1, c2, e2]
  rfl
theorem ed_cells {H : Type} {enc : TypeId × Value → H} {W : World} {fuel : Nat} {cs : List Value} {y : DataW H × List MemPlace} (h : DataW.trod enc Try.prog W 0 (fun _ => true) true fuel 39 cs = some y) : ∃ x : EdV, x.ok ∧ cs = x.l ∧ (Sm 39 y.1 → x.key.length ≤ 140737488355328) := by
  obtain ⟨xs, n, _, hx, hcl, hlen, hfs⟩ := DataW.trod_struct Try.underlying39 h
  rw [co39] at hcl
  have hlen : xs.length = 9 := hlen
  obtain ⟨y0, y1, y2, y3, y4, y5, y6, y7, y8, rfl⟩ := li9 hlen
  have t0 : DataW.trod enc Try.prog W 0 (fun _ => true) true n 30 (cs.take 1) = some y0 := by simpa [co30] using hfs 0 _ rfl
  have t1 : DataW.trod enc Try.prog W 0 (fun _ => true) true n 33 ((cs.drop 1).take 34) = some y1 := by simpa [co33] using hfs 1 _ rfl
  have t2 : DataW.trod enc Try.prog W 0 (fun _ => true) true n 33 ((cs.drop 35).take 34) = some y2 := by simpa [co33] using hfs 2 _ rfl
  have t3 : DataW.trod enc Try.prog W 0 (fun _ => true) true n 33 ((cs.drop 69).take 34) = some y3 := by simpa [co33] using hfs 3 _ rfl
  have t4 : DataW.trod enc Try.prog W 0 (fun _ => true) true n 9 ((cs.drop 103).take 1) = some y4 := by simpa [co9] using hfs 4 _ rfl
  have t5 : DataW.trod enc Try.prog W 0 (fun _ => true) true n 3 ((cs.drop 104).take 1) = some y5 := by simpa [co3] using hfs 5 _ rfl
  have t6 : DataW.trod enc Try.prog W 0 (fun _ => true) true n 37 ((cs.drop 105).take 4) = some y6 := by simpa [co37] using hfs 6 _ rfl
  have t7 : DataW.trod enc Try.prog W 0 (fun _ => true) true n 2 ((cs.drop 109).take 1) = some y7 := by simpa [co2] using hfs 7 _ rfl
  have t8 : DataW.trod enc Try.prog W 0 (fun _ => true) true n 3 ((cs.drop 110).take 1) = some y8 := by simpa [co3] using hfs 8 _ rfl
  obtain ⟨z0, e0, _, _⟩ := DataW.trod_int Try.underlying30 t0
  obtain ⟨k1, h1, n1, l1, e1⟩ := ref_cells t1
  obtain ⟨k2, h2, n2, l2, e2⟩ := ref_cells t2
  obtain ⟨k3, h3, n3, l3, e3⟩ := ref_cells t3
  obtain ⟨s4, e4, x4, _⟩ := DataW.trod_string Try.underlying9 t4
  obtain ⟨z5, e5, _, _⟩ := DataW.trod_int Try.underlying3 t5
  obtain ⟨z7, e7, _, _⟩ := DataW.trod_int Try.underlying2 t7
  obtain ⟨z8, e8, _, _⟩ := DataW.trod_int Try.underlying3 t8
  obtain ⟨vs, m, _, _, hvl, hvn, hvf⟩ := DataW.trod_struct Try.underlying37 t6
  have hvn : vs.length = 4 := hvn
  obtain ⟨u0, u1, u2, u3, rfl⟩ := li4 hvn
  rw [co37] at hvl
  obtain ⟨c0, c1, c2, c3, e6⟩ := li4 hvl
  rw [e6] at hvf
  have r0 : DataW.trod enc Try.prog W 0 (fun _ => true) true m 34 [c0] = some u0 := by simpa [co34] using hvf 0 _ rfl
  have r1 : DataW.trod enc Try.prog W 0 (fun _ => true) true m 2 [c1] = some u1 := by simpa [co2] using hvf 1 _ rfl
  have r2 : DataW.trod enc Try.prog W 0 (fun _ => true) true m 35 [c2] = some u2 := by simpa [co35] using hvf 2 _ rfl
  have r3 : DataW.trod enc Try.prog W 0 (fun _ => true) true m 9 [c3] = some u3 := by simpa [co9] using hvf 3 _ rfl
  obtain ⟨a0, q0, _, _⟩ := DataW.trod_int Try.underlying34 r0
  obtain ⟨a1, q1, _, _⟩ := DataW.trod_int Try.underlying2 r1
  obtain ⟨a2, q2, _⟩ := trod_float Try.underlying35 r2
  obtain ⟨a3, q3, _, _⟩ := DataW.trod_string Try.underlying9 r3
  simp at q0 q1 q2 q3
  subst q0 q1 q2 q3
  refine ⟨⟨z0, k1, h1, n1, k2, h2, n2, k3, h3, n3, s4.data.toList, z5, a0, a1, a2, a3.data.toList, z7, z8⟩, ⟨l1, l2, l3⟩, ?_, ?_⟩
  · have d0 := cutAt cs 0 1
    have d1 := cutAt cs 1 34
    have d2 := cutAt cs 35 34
    have d3 := cutAt cs 69 34
    have d4 := cutAt cs 103 1
    have d5 := cutAt cs 104 1
    have d6 := cutAt cs 105 4
    have d7 := cutAt cs 109 1
    have d8 := cutAt cs 110 1
    rw [List.drop_zero] at d0
    rw [List.drop_eq_nil_of_le (by omega : cs.length ≤ 110 + 1), List.append_nil] at d8
    rw [d0, e0, Nat.zero_add, d1, e1, d2, e2, d3, e3, d4, e4, d5, e5, d6, e6, d7, e7, d8, e8]
    simp only [EdV.l, EdV.v, str_of]
    rfl
  · intro hb
    rw [hx] at hb
    have h4 : y4.1 = .lit (.string s4.data.toList) := by rw [x4]
    have := hb s4.data.toList.length (by
      simp only [DataW.weights, Try.underlying39]
      exact DataW.weights_mem_each (j := 4) (t := 9) rfl rfl _ (by show _ ∈ DataW.weights Try.prog 9 y4.1; rw [h4]; simp [DataW.weights]))
    simp only [reachBytes] at this
    show s4.data.toList.length ≤ _
    omega
/-- What a slice of edits that came in gives a walk. -/
theorem view_edits {H : Type} {enc : TypeId × Value → H} {W : World} {a : Option Addr} {len cap : Nat} {d : DataW H} {p : List MemPlace}
    (h : DataW.Trod enc Try.prog W 0 (fun _ => true) true 23 (.slice a len cap) d p) (hb : Sm 23 d) :
    ∃ E : List EdV, E.length = len ∧ len ≤ 606627104962 ∧ AllE E ∧ El W a E ∧ ∀ x ∈ E, x.key.length ≤ 140737488355328 := by
  obtain ⟨fuel, hf⟩ := h
  rcases DataW.trod_slice Try.underlying23 hf with ⟨hcs', hx⟩ | ⟨ad, l, c, elems, rest, n, _, hcs', hx, _, hl, hm, hel, hcell, _, _⟩
  · simp [Value.cells] at hcs'
    obtain ⟨rfl, rfl, rfl⟩ := hcs'
    exact ⟨[], rfl, by omega, fun x h => (by cases h), .inl rfl, fun x h => by cases h⟩
  · simp [Value.cells] at hcs'
    obtain ⟨rfl, rfl, rfl⟩ := hcs'
    simp only [Prod.mk.injEq] at hx
    obtain ⟨b, off, spot⟩ := ad
    rw [hx.1] at hb
    have hbd : len ≤ 606627104962 := by
      have := hb _ (by simp only [DataW.weights, Try.underlying23]; exact List.mem_cons_self)
      rw [by39, List.length_map] at this
      simp only [reachBytes] at this
      omega
    have raw : ∀ i, i < len → ∃ x : EdV, (x.ok ∧ x.key.length ≤ 140737488355328) ∧ ∀ j u, x.l[j]? = some u → W.cell? (((⟨b, off, spot⟩ : Addr).add (i * 111)).add j) = some u := fun i hi => by
      have hi2 := hcell i hi
      have hlt : i < elems.length := by omega
      rw [List.getElem?_eq_getElem hlt, co39, Option.bind_eq_some_iff] at hi2
      obtain ⟨cs, hc1, hc2⟩ := hi2
      obtain ⟨x, ok, rfl, hk⟩ := ed_cells hc2
      obtain ⟨_, _, hc3⟩ := World.cells?_some hc1
      refine ⟨x, ⟨ok, hk fun n hn => hb n (by
        simp only [DataW.weights, Try.underlying23]
        exact List.mem_cons_of_mem _ (List.mem_append_left _ (wAll (i := i) (d := elems[i].1) (by simp [hlt]) n hn)))⟩, fun j u hu => ?_⟩
      have hj := (List.getElem?_eq_some_iff.1 hu).1
      have hj : j < 111 := by rw [EdV.len ok] at hj; exact hj
      rw [hc3 j hj]
      exact hu
    have hspot : 0 < len → spot = none := fun h0 => by
      obtain ⟨x, ⟨ok, _⟩, hc⟩ := raw 0 h0
      have q := hc 0 _ (List.getElem?_eq_getElem (by rw [EdV.len ok]; omega))
      have := World.cell?_spot q
      simpa [Addr.add] using this
    let F : Nat → EdV := fun i => if h : i < len then Classical.choose (raw i h) else ez
    have hF : ∀ i (h : i < len), (((F i).ok ∧ (F i).key.length ≤ 140737488355328) ∧ ∀ j u, (F i).l[j]? = some u → W.cell? (((⟨b, off, spot⟩ : Addr).add (i * 111)).add j) = some u) := fun i h => by
      have e : F i = Classical.choose (raw i h) := dif_pos h
      rw [e]
      exact Classical.choose_spec (raw i h)
    clear_value F
    have mem : ∀ x ∈ (List.range len).map F, ∃ i, i < len ∧ x = F i := fun x hx => by
      simp only [List.mem_map, List.mem_range] at hx
      obtain ⟨i, hi, rfl⟩ := hx
      exact ⟨i, hi, rfl⟩
    refine ⟨(List.range len).map F, by simp, hbd, fun x hx => ?_, ?_, fun x hx => ?_⟩
    · obtain ⟨i, hi, rfl⟩ := mem x hx
      exact (hF i hi).1.1
    · by_cases h0 : 0 < len
      · have hs := hspot h0
        subst hs
        refine .inr ⟨b, off, rfl, fun i x hx => ?_⟩
        have hi : i < len := by
          have := (List.getElem?_eq_some_iff.1 hx).1
          simpa using this
        rw [List.getElem?_map, List.getElem?_range hi] at hx
        simp only [Option.map_some, Option.some.injEq] at hx
        subst hx
        intro j u hu
        have := (hF i hi).2 j u hu
        rw [Addr.add_mid, Addr.add_mid] at this
        rwa [show off + 111 * i + j = off + i * 111 + j by omega]
      · obtain rfl : len = 0 := by omega
        exact .inl rfl
    · obtain ⟨i, hi, rfl⟩ := mem x hx
      exact (hF i hi).1.2
theorem up_open {H : Type} {enc : TypeId × Value → H} {W : World} {base : Nat} {v : Value} {d : DataW H} {p : List MemPlace} (hv : Value.okWide Try.prog W .any base 25 v) (h : DataW.Trod enc Try.prog W 0 (fun _ => true) true 25 v d p) (hb : Sm 25 d) :
    ∃ u : UpV, v = .agg u.c ∧ u.ok W ∧ ∀ x ∈ u.E, x.key.length ≤ 140737488355328 := by
  obtain ⟨cs, rfl, hsz⟩ := okWide_struct Try.underlying25 hv
  have hsz6 : cs.toList.length = 6 := by rw [Array.length_toList]; exact hsz.trans (by kernel_rfl)
  obtain ⟨c0, c1, c2, c3, c4, c5, hc⟩ := li6 hsz6
  obtain rfl : cs = #[c0, c1, c2, c3, c4, c5] := by rw [← Array.toArray_toList (xs := cs), hc]
  clear hc hsz6 hsz
  obtain ⟨fuel, hf⟩ := h
  obtain ⟨xs, n, _, hx, _, hlen, hfs⟩ := DataW.trod_struct Try.underlying25 hf
  have hlen : xs.length = 6 := hlen
  obtain ⟨y0, y1, y2, y3, y4, y5, rfl⟩ := li6 hlen
  have t0 : DataW.trod enc Try.prog W 0 (fun _ => true) true n 22 [c0] = some y0 := by simpa [Value.cells, co22] using hfs 0 _ rfl
  have t1 : DataW.trod enc Try.prog W 0 (fun _ => true) true n 3 [c1] = some y1 := by simpa [Value.cells, co3] using hfs 1 _ rfl
  have t2 : DataW.trod enc Try.prog W 0 (fun _ => true) true n 3 [c2] = some y2 := by simpa [Value.cells, co3] using hfs 2 _ rfl
  have t3 : DataW.trod enc Try.prog W 0 (fun _ => true) true n 2 [c3] = some y3 := by simpa [Value.cells, co2] using hfs 3 _ rfl
  have t4 : DataW.trod enc Try.prog W 0 (fun _ => true) true n 9 [c4] = some y4 := by simpa [Value.cells, co9] using hfs 4 _ rfl
  have t5 : DataW.trod enc Try.prog W 0 (fun _ => true) true n 23 [c5] = some y5 := by simpa [Value.cells, co23] using hfs 5 _ rfl
  have hx1 : d = .agg [y0.1, y1.1, y2.1, y3.1, y4.1, y5.1] := by
    have := congrArg Prod.fst hx
    simpa using this
  rw [hx1] at hb
  have hb0 : Sm 22 y0.1 := fun n hn => hb n (by
    simp only [DataW.weights, Try.underlying25]
    exact DataW.weights_mem_each (j := 0) (t := 22) rfl rfl _ hn)
  have hb5 : Sm 23 y5.1 := fun n hn => hb n (by
    simp only [DataW.weights, Try.underlying25]
    exact DataW.weights_mem_each (j := 5) (t := 23) rfl rfl _ hn)
  obtain ⟨pa, pn, pc, rfl, tr0⟩ := trod_sl Try.underlying22 t0
  obtain ⟨z1, e1, _, _⟩ := DataW.trod_int Try.underlying3 t1
  obtain ⟨z2, e2, _, _⟩ := DataW.trod_int Try.underlying3 t2
  obtain ⟨z3, e3, _, _⟩ := DataW.trod_int Try.underlying2 t3
  obtain ⟨s4, e4, _, _⟩ := DataW.trod_string Try.underlying9 t4
  obtain ⟨ea, en, ec, rfl, tr5⟩ := trod_sl Try.underlying23 t5
  simp at e1 e2 e3 e4
  subst e1 e2 e3 e4
  obtain ⟨P, hP, hP32, hPl, _, hPd⟩ := view_hashes tr0
  obtain ⟨E, hE, hEn, hEo, hEl, hEk⟩ := view_edits tr5 hb5
  have pn' : pn ≤ 4398046511104 := by
    rcases hPd with ⟨_, h0⟩ | ⟨el, sp, hd, hel⟩
    · omega
    · rw [hd] at hb0
      have := hb0 _ (by simp only [DataW.weights, Try.underlying22]; exact List.mem_cons_self)
      rw [bytesH] at this
      simp only [reachBytes] at this
      omega
  subst hP hE
  exact ⟨⟨pa, pc, P, z1, z2, z3, s4, ea, ec, E⟩, rfl, ⟨hP32, pn', hPl, hEo, hEn, hEl⟩, hEk⟩
end Go.Proofs.Ythfbolmfkilkjaa
