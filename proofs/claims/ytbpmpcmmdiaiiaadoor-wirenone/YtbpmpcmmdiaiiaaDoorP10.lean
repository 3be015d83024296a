import Derived.Test.YtbpmpcmmdiaiiaaDoorP9
import Derived.Test.YtbpmpcmmdiaiiaaDoorP0
namespace Go.Proofs.YtbpmpcmmdiaiiaaDoor
open Go.RowKit
set_option linter.unusedVariables false
set_option linter.unusedSimpArgs false

/-- Ops that lie in memory. -/
def Opl (W : World) (a : Option Addr) (l : List (Int × OpV)) : Prop := l = [] ∨ ∃ b off, a = some ⟨b, off, none⟩ ∧ ∀ (i : Nat) (k : Int) (o : OpV), l[i]? = some (k, o) → W.rangeAt b (off + 42 * i) (o.c k).toList ∧ OpOk W o
theorem Opl.at {W : World} {a : Option Addr} {l : List (Int × OpV)} (h : Opl W a l) {i : Nat} (hi : i < l.length) : ∃ b off k o, a = some ⟨b, off, none⟩ ∧ l[i]? = some (k, o) ∧ W.rangeAt b (off + 42 * i) (o.c k).toList ∧ OpOk W o ∧ b < W.heap.size := by
  rcases h with rfl | ⟨b, off, rfl, h⟩
  · simp at hi
  · obtain ⟨⟨k, o⟩, e⟩ : ∃ x, l[i]? = some x := ⟨_, List.getElem?_eq_getElem hi⟩
    obtain ⟨h1, h2⟩ := h i k o e
    refine ⟨b, off, k, o, rfl, e, h1, h2, rangeAt_lt h1 ?_⟩
    show 0 < (oL _ _ _ _ _ _ _ _ _ _ _).length
    rw [oL_len h2.hh]
    omega
/-- Reads that lie in memory. -/
def Rdl (W : World) (a : Option Addr) (l : List (Int × Int × Int × Int)) : Prop := l = [] ∨ ∃ b off, a = some ⟨b, off, none⟩ ∧ ∀ (i : Nat) (k u m e : Int), l[i]? = some (k, u, m, e) → W.rangeAt b (off + 4 * i) [.int .i64 k, .int .u64 u, .int .i64 m, .int .i64 e]
theorem Rdl.at {W : World} {a : Option Addr} {l : List (Int × Int × Int × Int)} (h : Rdl W a l) {i : Nat} (hi : i < l.length) : ∃ b off k u m e, a = some ⟨b, off, none⟩ ∧ l[i]? = some (k, u, m, e) ∧ W.rangeAt b (off + 4 * i) [.int .i64 k, .int .u64 u, .int .i64 m, .int .i64 e] ∧ b < W.heap.size := by
  rcases h with rfl | ⟨b, off, rfl, h⟩
  · simp at hi
  · obtain ⟨⟨k, u, m, e⟩, he⟩ : ∃ x, l[i]? = some x := ⟨_, List.getElem?_eq_getElem hi⟩
    have h1 := h i k u m e he
    exact ⟨b, off, k, u, m, e, rfl, he, h1, rangeAt_lt h1 (by simp)⟩
theorem sizeOp : (Tryd.prog.info? 35).map (·.size) = some 42 := by kernel_rfl
theorem sizeRead : (Tryd.prog.info? 45).map (·.size) = some 4 := by kernel_rfl
theorem info_some {t : TypeId} {n : Nat} (h : (Tryd.prog.info? t).map (·.size) = some n) : ∃ i, Tryd.prog.info? t = some i ∧ i.size = n := by
  cases hq : Tryd.prog.info? t with
  | none => rw [hq] at h; simp at h
  | some i => rw [hq] at h; simp at h; exact ⟨i, rfl, h⟩
theorem indexOp (b off n cap k : Nat) (w : World) (hk : k < n) :
    (Instr.indexAt 22 (.slice (some ⟨b, off, none⟩) n cap) (.int .i64 (k : Int))).run Tryd.prog w = .ok (.pointer (some ⟨b, off + 42 * k, none⟩)) w := by
  obtain ⟨i, hi, hs⟩ := info_some sizeOp
  have hu := Tryd.underlying22
  have he : Tryd.prog.elem 22 = 35 := by kernel_rfl
  rw [run_indexAt_slice (P := Tryd.prog) _ _ _ _ _ _ _ (by rw [he]; exact hu)]
  simp [hk, he, hi, hs, Go.sizeOf, typeInfo, Addr.add_mid]
theorem indexRead (b off n cap k : Nat) (w : World) (hk : k < n) :
    (Instr.indexAt 23 (.slice (some ⟨b, off, none⟩) n cap) (.int .i64 (k : Int))).run Tryd.prog w = .ok (.pointer (some ⟨b, off + 4 * k, none⟩)) w := by
  obtain ⟨i, hi, hs⟩ := info_some sizeRead
  have hu := Tryd.underlying23
  have he : Tryd.prog.elem 23 = 45 := by kernel_rfl
  rw [run_indexAt_slice (P := Tryd.prog) _ _ _ _ _ _ _ (by rw [he]; exact hu)]
  simp [hk, he, hi, hs, Go.sizeOf, typeInfo, Addr.add_mid]
theorem oc_len (o : OpV) (k : Int) (hh : o.h.length = 32) : (o.c k).toList.length = 42 := by
  show (oL _ _ _ _ _ _ _ _ _ _ _).length = 42
  exact oL_len hh
theorem hbG : Tryd.prog.built 42 [] = some gz := by kernel_rfl

set_option maxRecDepth 100000 in
set_option maxHeartbeats 2000000 in
theorem none_all (a1 a2 : Option Addr) (l : List (Int × OpV)) (rs : List (Int × Int × Int × Int)) (n m c1 c2 : Nat) (w : World) (hn : l.length = n) (hm : rs.length = m) (hl : Opl w a1 l) (hr : Rdl w a2 rs) (hnb : n < 9223372036854775807) (hmb : m < 9223372036854775807) (hT : K.Tabs w) :
    Calls Tryd.prog 3 #[.slice a1 n c1, .slice a2 m c2] w fun e w' => e = .returned (.bool true) ∧ Below w.heap.size w w' := by
  have HL := K.Hid.mk' (K.live_any w hT)
  have HT := K.Hid.mk' hT
  have HN := K.Hid.mk' hn
  have HM := K.Hid.mk' hm
  have HO := K.Hid.mk' hl
  have HR := K.Hid.mk' hr
  clear hT hn hm hl hr
  go_enter Tryd.func3, Tryd.ntmps3
  go_wp2_with fail
  refine HL.out.mono ?_
  rintro e w1 ⟨rfl, b1⟩
  have B1 := K.Hid.mk' b1
  clear b1 HL
  go_wp2
  go_loopw [6] (fun i wr => ∃ k : Nat, k ≤ n ∧ i = .int .i64 k ∧ Hid (Below w.heap.size w wr)) (fun i _ => n - (intOf i).toNat)
  case atStart => exact ⟨0, Nat.zero_le _, rfl, B1⟩
  case round =>
    obtain ⟨k, hk, rfl, HB⟩ := hrel
    by_cases hkn : k < n
    · obtain ⟨b, off, kd, o, rfl, _, hra, ok, hbl⟩ := HO.out.at (i := k) (by rw [HN.out]; exact hkn)
      have RA : Hid (wr.rangeAt b (off + 42 * k) (o.c kd).toList) := rangeAt_below hra HB.out hbl
      have OL : Hid ((o.c kd).toList.length = 42) := oc_len o kd ok.hh
      have OE : Hid ((o.c kd).toList.toArray = o.c kd) := by show _ = _; simp
      have WN := K.Hid.mk' (wnil kd o w wr ok HB.out HT.out)
      have ix := fun wx => indexOp b off n c1 k wx hkn
      clear hra ok hbl
      generalize o.c kd = C at *
      go_wp2_with (first
        | (refine wpList_load_mid rfl 35 _ rfl b (off + 42 * k) rfl C.toList _ RA.out Tryd.underlying35 rfl (by rw [OL.out]; exact sizeOp) ?_; rw [OE.out])
        | fail)
      refine WN.out.mono ?_
      rintro e w2 ⟨rfl, b2⟩
      have B2 : Hid (Below w.heap.size w w2) := HB.out.trans (b2.mono HB.out.size)
      clear b2 WN ix RA
      go_wp2_with fail
      refine (K.nlen _).mono ?_
      rintro e w3 ⟨rfl, hw3⟩
      subst hw3
      go_wp2
      go_roundw
      case rel => exact ⟨k + 1, by omega, by go_num, B2⟩
      case measure => simp [intOf]; omega
    · go_wp2_with fail
      refine (K.ndone _).mono ?_
      rintro e w4 ⟨rfl, hw4⟩
      subst hw4
      go_wp2
      go_loopw [10] (fun i wq => ∃ j : Nat, j ≤ m ∧ i = .int .i64 j ∧ Hid (Below w.heap.size w wq)) (fun i _ => m - (intOf i).toNat)
      case atStart => exact ⟨0, Nat.zero_le _, rfl, HB⟩
      case round =>
        obtain ⟨j, hj, rfl, HQ⟩ := hrel
        by_cases hjm : j < m
        · obtain ⟨b, off, kd, ou, om, oe, rfl, _, hra, hbl⟩ := HR.out.at (i := j) (by rw [HM.out]; exact hjm)
          have RA : Hid (wr.rangeAt b (off + 4 * j) [.int .i64 kd, .int .u64 ou, .int .i64 om, .int .i64 oe]) := rangeAt_below hra HQ.out hbl
          have RN := K.Hid.mk' (rnil kd ou om oe wr)
          have ix := fun wx => indexRead b off m c2 j wx hjm
          have hbg := hbG
          have SG := K.Hid.mk' samegz
          clear hra hbl
          generalize gz = C at *
          go_wp2_with (first
            | (refine wpList_load_mid rfl 45 _ rfl b (off + 4 * j) rfl [.int .i64 kd, .int .u64 ou, .int .i64 om, .int .i64 oe] _ RA.out Tryd.underlying45 rfl sizeRead ?_)
            | fail)
          refine RN.out.mono ?_
          rintro e w5 ⟨rfl, b5⟩
          have B5 : Hid (Below w.heap.size w w5) := HQ.out.trans (b5.mono HQ.out.size)
          clear b5 RN ix RA
          go_wp2_with (first
            | (refine wpList_build_row rfl 42 rfl C hbg ?_)
            | fail)
          refine (SG.out _).mono ?_
          rintro e w6 ⟨rfl, b6⟩
          have B6 : Hid (Below w.heap.size w w6) := B5.out.trans (b6.mono B5.out.size)
          clear b6 SG hbg
          go_wp2
          go_roundw
          case rel => exact ⟨j + 1, by omega, by go_num, B6⟩
          case measure => simp [intOf]; omega
        · go_wp2_with fail
          refine (nrfault _).mono ?_
          rintro e w5 ⟨rfl, hw5⟩
          subst hw5
          go_wp2_with fail
          refine (nrdone _).mono ?_
          rintro e w6 ⟨rfl, m6, hm6⟩
          have B6 : Hid (Below w.heap.size w w6) := by rw [hm6]; exact below_drewN' HQ.out _
          clear hm6
          go_wp2_with fail
          refine (nrat _).mono ?_
          rintro e w7 ⟨rfl, hw7⟩
          subst hw7
          go_wp2_with fail
          refine (nrleft _).mono ?_
          rintro e w8 ⟨rfl, hw8⟩
          subst hw8
          go_wp2
          go_ret
          exact ⟨rfl, B6.out⟩
end Go.Proofs.YtbpmpcmmdiaiiaaDoor

namespace Go.Proofs.YtbpmpcmmdiaiiaaDoor
open Go.ChangeShapes Go.WideShapes Go.ChangeAt Go.RowKit
set_option linter.unusedVariables false
set_option linter.unusedSimpArgs false

theorem bytes5 : Tryd.prog.bytesOf 5 = 1 := by kernel_rfl
/-- What a slice of bytes that came in gives a walk. -/
theorem view_bytes {H : Type} {enc : TypeId × Value → H} {W : World} {a : Option Addr} {len cap : Nat} {d : DataW H} {p : List MemPlace}
    (h : DataW.Trod enc Tryd.prog W 0 (fun _ => true) true 29 (.slice a len cap) d p) :
    ∃ L : List UInt8, L.length = len ∧ len ≤ cap ∧ K.Byt W a L ∧ (d = .nil ∧ len = 0 ∨ ∃ el sp, d = .slice el sp ∧ el.length = len) := by
  obtain ⟨fuel, hf⟩ := h
  rcases open_ints Tryd.underlying29 Tryd.underlying5 (by kernel_rfl) hf with ⟨hcs, hx⟩ | ⟨x, l, c, zs, hcs, _, hl, hm, hz, hx, hcell, hwz⟩
  · simp [Value.cells] at hcs
    obtain ⟨rfl, rfl, rfl⟩ := hcs
    simp only [Prod.mk.injEq] at hx
    exact ⟨[], rfl, Nat.le_refl _, .inl rfl, .inl ⟨hx.1, rfl⟩⟩
  · simp [Value.cells] at hcs
    obtain ⟨rfl, rfl, rfl⟩ := hcs
    have hz' : zs.length = cap := by simpa using hz
    simp only [Prod.mk.injEq] at hx
    have hlen0 : ((zs.take len).map (fun z => UInt8.ofNat z.toNat)).length = len := by simp; omega
    refine ⟨(zs.take len).map (fun z => UInt8.ofNat z.toNat), hlen0, hl, ?_, .inr ⟨_, _, hx.1, by simp [lits]; omega⟩⟩
    by_cases h0 : 0 < len
    · obtain ⟨b, off, spot⟩ := x
      have hc := hcell 0 (by omega)
      have hspot : spot = none := by simpa [Addr.add] using World.cell?_spot hc
      subst hspot
      refine .inr ⟨b, off, rfl, fun j hj => ?_⟩
      rw [hlen0] at hj
      have h1 := hcell j (by omega)
      have e : (⟨b, off, none⟩ : Addr).add j = ⟨b, off + j, none⟩ := by unfold Addr.add; split <;> simp_all
      rw [e] at h1
      rw [h1]
      have hb := bounds_u8 (hwz (zs.getD j 0) (by rw [List.getD_eq_getElem?_getD, List.getElem?_eq_getElem (by omega)]; exact List.getElem_mem _))
      have hlen : j < zs.length := by omega
      simp only [K.at8, List.getD_eq_getElem?_getD, List.getElem?_map, List.getElem?_take, if_pos hj, List.getElem?_eq_getElem hlen, Option.map_some, Option.getD_some] at hb ⊢
      rw [UInt8.toNat_ofNat']
      simp only [Option.some.injEq, Value.int.injEq, true_and]
      omega
    · exact .inl (List.eq_nil_of_length_eq_zero (by omega))
theorem trod_float {H : Type} {enc : TypeId × Value → H} {P : Program} {w : World} {base : Nat} {spare : Nat → Bool} {held : Bool} {fuel : Nat} {t : TypeId} {cs : List Value} {x : DataW H × List MemPlace} {k : FloatKind} (ht : P.underlying t = some (.float k)) (h : DataW.trod enc P w base spare held fuel t cs = some x) :
    ∃ b, cs = [.float k b] ∧ (Lit.float k b).wf = true := by
  cases fuel with
  | zero => simp [DataW.trod] at h
  | succ n =>
    unfold DataW.trod at h
    rw [ht] at h
    split at h <;> simp_all
/-- The cell of a slice that came in. -/
theorem trod_sl {H : Type} {enc : TypeId × Value → H} {W : World} {fuel : Nat} {t e : TypeId} {c : Value} {x : DataW H × List MemPlace} (ht : Tryd.prog.underlying t = some (.slice e)) (h : DataW.trod enc Tryd.prog W 0 (fun _ => true) true fuel t [c] = some x) :
    ∃ a n cap, c = .slice a n cap ∧ DataW.Trod enc Tryd.prog W 0 (fun _ => true) true t (.slice a n cap) x.1 x.2 := by
  rcases DataW.trod_slice ht h with ⟨hcs, hx⟩ | ⟨ad, l, c', elems, rest, n, _, hcs, _⟩
  · simp at hcs
    subst hcs
    exact ⟨_, _, _, rfl, fuel, h⟩
  · simp at hcs
    subst hcs
    exact ⟨_, _, _, rfl, fuel, h⟩
theorem w_all {H : Type} {P : Program} {e : TypeId} : ∀ {l : List (DataW H)} {i : Nat} {d : DataW H}, l[i]? = some d → ∀ n ∈ d.weights P e, n ∈ DataW.weightsAll P e l
  | x :: r, 0, d, h, n, hn => by
    simp only [List.getElem?_cons_zero, Option.some.injEq] at h
    subst h
    simp only [DataW.weightsAll, List.mem_append]
    exact .inl hn
  | x :: r, i + 1, d, h, n, hn => by
    simp only [List.getElem?_cons_succ] at h
    simp only [DataW.weightsAll, List.mem_append]
    exact .inr (w_all h n hn)
  | [], i, d, h, n, hn => by simp at h
theorem cellsOp : Tryd.prog.cellsOf 35 = 42 := by kernel_rfl
theorem cellsRead : Tryd.prog.cellsOf 45 = 4 := by kernel_rfl
theorem list11 {α : Type} {l : List α} (h : l.length = 11) : ∃ c0 c1 c2 c3 c4 c5 c6 c7 c8 c9 c10, l = [c0, c1, c2, c3, c4, c5, c6, c7, c8, c9, c10] := by
  match l, h with
  | [c0, c1, c2, c3, c4, c5, c6, c7, c8, c9, c10], _ => exact ⟨c0, c1, c2, c3, c4, c5, c6, c7, c8, c9, c10, rfl⟩
theorem list8 {α : Type} {l : List α} {m : Nat} (h : l.length = m + 8) : ∃ c0 c1 c2 c3 c4 c5 c6 c7 t, l = c0 :: c1 :: c2 :: c3 :: c4 :: c5 :: c6 :: c7 :: t ∧ t.length = m := by
  match l, h with
  | c0 :: c1 :: c2 :: c3 :: c4 :: c5 :: c6 :: c7 :: t, h => exact ⟨c0, c1, c2, c3, c4, c5, c6, c7, t, rfl, by simpa using h⟩
theorem list2 {α : Type} {l : List α} (h : l.length = 2) : ∃ c0 c1, l = [c0, c1] := by
  match l, h with
  | [c0, c1], _ => exact ⟨c0, c1, rfl⟩
theorem list4 {α : Type} {l : List α} (h : l.length = 4) : ∃ c0 c1 c2 c3, l = [c0, c1, c2, c3] := by
  match l, h with
  | [c0, c1, c2, c3], _ => exact ⟨c0, c1, c2, c3, rfl⟩
def opTypes : List TypeId := [3, 5, 4, 27, 2, 28, 9, 29, 31, 32, 33]
theorem i64_wf {z : Int} (h : (Lit.int .i64 z).wf = true) : -9223372036854775808 ≤ z ∧ z < 9223372036854775808 := by
  simp [Lit.wf, IntKind.min, IntKind.max, IntKind.signed, IntKind.bits] at h
  omega
theorem u64_wf {z : Int} (h : (Lit.int .u64 z).wf = true) : 0 ≤ z ∧ z < 18446744073709551616 := by
  simp [Lit.wf, IntKind.min, IntKind.max, IntKind.signed, IntKind.bits] at h
  omega
/-- The weights of a struct's fields are its own. -/
theorem w_op {H : Type} {parts : List (DataW H)} {j : Nat} {t : TypeId} {d : DataW H} (ht : opTypes[j]? = some t) (hd : parts[j]? = some d) : ∀ n ∈ d.weights Tryd.prog t, n ∈ (DataW.agg parts).weights Tryd.prog 35 := fun n hn => by
  have e : (DataW.agg parts).weights Tryd.prog 35 = DataW.weightsEach Tryd.prog opTypes parts := by
    rw [DataW.weights, Tryd.underlying35]
    rfl
  rw [e]
  exact DataW.weights_mem_each ht hd n hn
set_option maxHeartbeats 1000000 in
/-- The cells of an Op that came in. -/
theorem op_cells {H : Type} {enc : TypeId × Value → H} {W : World} {fuel : Nat} {cs : List Value} {y : DataW H × List MemPlace} (h : DataW.trod enc Tryd.prog W 0 (fun _ => true) true fuel 35 cs = some y)
    (hw : ∀ n ∈ y.1.weights Tryd.prog 35, n ≤ reachBytes) : ∃ (k : Int) (o : OpV), cs = (o.c k).toList ∧ OpOk W o := by
  obtain ⟨xs, n, _, hx, hcl, hlen, hfs⟩ := DataW.trod_struct Tryd.underlying35 h
  rw [cellsOp] at hcl
  have hlen : xs.length = 11 := hlen
  obtain ⟨y0, y1, y2, y3, y4, y5, y6, y7, y8, y9, y10, rfl⟩ := list11 hlen
  obtain ⟨c0, c1, c2, c3, c4, c5, c6, c7, t, rfl, ht⟩ := list8 (m := 34) (by omega)
  obtain ⟨c8, c9, hc89⟩ : ∃ c8 c9, t.drop 32 = [c8, c9] := list2 (by simp; omega)
  have tt : t = t.take 32 ++ [c8, c9] := by rw [← hc89, List.take_append_drop]
  have k1 : ∀ T, T ∈ opTypes → T ≠ 31 → Tryd.prog.cellsOf T = 1 := by
    intro T hT hne
    simp only [opTypes, List.mem_cons, List.not_mem_nil, or_false] at hT
    rcases hT with e | e | e | e | e | e | e | e | e | e | e <;> subst e <;> first | exact absurd rfl hne | kernel_rfl
  have t0 : DataW.trod enc Tryd.prog W 0 (fun _ => true) true n 3 [c0] = some y0 := by simpa [k1 3 (by decide) (by decide)] using hfs 0 _ rfl
  have t1 : DataW.trod enc Tryd.prog W 0 (fun _ => true) true n 5 [c1] = some y1 := by simpa [k1 5 (by decide) (by decide)] using hfs 1 _ rfl
  have t2 : DataW.trod enc Tryd.prog W 0 (fun _ => true) true n 4 [c2] = some y2 := by simpa [k1 4 (by decide) (by decide)] using hfs 2 _ rfl
  have t3 : DataW.trod enc Tryd.prog W 0 (fun _ => true) true n 27 [c3] = some y3 := by simpa [k1 27 (by decide) (by decide)] using hfs 3 _ rfl
  have t4 : DataW.trod enc Tryd.prog W 0 (fun _ => true) true n 2 [c4] = some y4 := by simpa [k1 2 (by decide) (by decide)] using hfs 4 _ rfl
  have t5 : DataW.trod enc Tryd.prog W 0 (fun _ => true) true n 28 [c5] = some y5 := by simpa [k1 28 (by decide) (by decide)] using hfs 5 _ rfl
  have t6 : DataW.trod enc Tryd.prog W 0 (fun _ => true) true n 9 [c6] = some y6 := by simpa [k1 9 (by decide) (by decide)] using hfs 6 _ rfl
  have t7 : DataW.trod enc Tryd.prog W 0 (fun _ => true) true n 29 [c7] = some y7 := by simpa [k1 29 (by decide) (by decide)] using hfs 7 _ rfl
  have t8 : DataW.trod enc Tryd.prog W 0 (fun _ => true) true n 31 (t.take 32) = some y8 := by
    have := hfs 8 _ rfl
    simpa [cellsH] using this
  have t9 : DataW.trod enc Tryd.prog W 0 (fun _ => true) true n 32 [c8] = some y9 := by
    have := hfs 9 _ rfl
    simpa [k1 32 (by decide) (by decide), hc89] using this
  have t10 : DataW.trod enc Tryd.prog W 0 (fun _ => true) true n 33 [c9] = some y10 := by
    have := hfs 10 _ rfl
    have e33 : (t.drop 33).take 1 = [c9] := by rw [show 33 = 32 + 1 from rfl, ← List.drop_drop, hc89]; rfl
    simpa [k1 33 (by decide) (by decide), e33] using this
  obtain ⟨z0, e0, _, w0⟩ := DataW.trod_int Tryd.underlying3 t0
  obtain ⟨z1, e1, _, w1⟩ := DataW.trod_int Tryd.underlying5 t1
  obtain ⟨z2, e2, _⟩ := DataW.trod_bool Tryd.underlying4 t2
  obtain ⟨z3, e3, _, w3⟩ := DataW.trod_int Tryd.underlying27 t3
  obtain ⟨z4, e4, _, w4⟩ := DataW.trod_int Tryd.underlying2 t4
  obtain ⟨z5, e5, w5⟩ := trod_float Tryd.underlying28 t5
  obtain ⟨z6, e6, x6, w6⟩ := DataW.trod_string Tryd.underlying9 t6
  obtain ⟨ra, rn, rc, e7, tr7⟩ := trod_sl Tryd.underlying29 t7
  obtain ⟨hh, hh32, e8⟩ := hash_cells t8
  obtain ⟨la, ln, lc, e9, tr9⟩ := trod_sl Tryd.underlying32 t9
  obtain ⟨z10, e10, _, w10⟩ := DataW.trod_int Tryd.underlying33 t10
  simp at e0 e1 e2 e3 e4 e5 e6 e10
  subst e0 e1 e2 e3 e4 e5 e6 e7 e9 e10
  rw [e8] at tt
  obtain ⟨R, hR, _, hRb, hRd⟩ := view_bytes tr7
  obtain ⟨L, hL, hL32, hLl, _, hLd⟩ := view_hashes tr9
  have b3 := u64_wf w3
  have b4 := i64_wf w4
  have b1 := bounds_u8 w1
  have b5 : z5 < 18446744073709551616 := by simpa [Lit.wf, FloatKind.format, Ieee.Format.width, Ieee.double] using w5
  rw [hx] at hw
  have r6 : z6.size ≤ reachBytes := by
    have := hw z6.data.toList.length (w_op (j := 6) (t := 9) (d := y6.1) rfl rfl _ (by rw [x6]; simp [DataW.weights]))
    simpa using this
  have r7 : rn ≤ reachBytes := by
    rcases hRd with ⟨_, h0⟩ | ⟨el, sp, hd, hel⟩
    · omega
    · have := hw ((el.length + sp.length) * Tryd.prog.bytesOf 5) (w_op (j := 7) (t := 29) (d := y7.1) rfl rfl _ (by rw [hd]; simp [DataW.weights, Tryd.underlying29]))
      rw [bytes5] at this
      omega
  have r9 : ln * 32 ≤ reachBytes := by
    rcases hLd with ⟨_, h0⟩ | ⟨el, sp, hd, hel⟩
    · omega
    · have := hw ((el.length + sp.length) * Tryd.prog.bytesOf 31) (w_op (j := 9) (t := 32) (d := y9.1) rfl rfl _ (by rw [hd]; simp [DataW.weights, Tryd.underlying32]))
      rw [bytesH] at this
      omega
  simp only [reachBytes] at r6 r7 r9
  refine ⟨z0, ⟨z1, z2, z3.toNat, z4, z5, z6, ra, rn, rc, hh, la, ln, lc, z10⟩, ?_, hh32, by show z3.toNat < _; omega, b4.1, b4.2, b5, b1.1, b1.2, r6, ⟨R, hR, r7, hRb⟩, ⟨L, hL32, hL, by show ln ≤ _; omega, hLl⟩⟩
  rw [tt]
  show _ = oL _ _ _ _ _ _ _ _ _ _ _
  simp only [oL]
  rw [show ((z3.toNat : Nat) : Int) = z3 by omega]
/-- What a slice of Ops that came in gives a walk. -/
theorem view_ops {H : Type} {enc : TypeId × Value → H} {W : World} {a : Option Addr} {len cap : Nat} {d : DataW H} {p : List MemPlace}
    (h : DataW.Trod enc Tryd.prog W 0 (fun _ => true) true 22 (.slice a len cap) d p) (hw : ∀ n ∈ d.weights Tryd.prog 22, n ≤ reachBytes) :
    ∃ l : List (Int × OpV), l.length = len ∧ len ≤ 140737488351232 ∧ Opl W a l ∧ (d = .nil ∧ len = 0 ∨ ∃ el sp, d = .slice el sp ∧ el.length = len) := by
  obtain ⟨fuel, hf⟩ := h
  rcases DataW.trod_slice Tryd.underlying22 hf with ⟨hcs', hx⟩ | ⟨ad, l, c, elems, rest, n, _, hcs', hx, _, hl, hm, hel, hcell, _, _⟩
  · simp [Value.cells] at hcs'
    obtain ⟨rfl, rfl, rfl⟩ := hcs'
    simp only [Prod.mk.injEq] at hx
    exact ⟨[], rfl, by omega, .inl rfl, .inl ⟨hx.1, rfl⟩⟩
  · simp [Value.cells] at hcs'
    obtain ⟨rfl, rfl, rfl⟩ := hcs'
    simp only [Prod.mk.injEq] at hx
    obtain ⟨b, off, spot⟩ := ad
    have hwd : ∀ n ∈ DataW.weightsAll Tryd.prog 35 (elems.map (·.1)), n ≤ reachBytes := fun n hn => hw n (by
      rw [hx.1]
      simp only [DataW.weights, Tryd.underlying22, List.mem_cons, List.mem_append]
      exact .inr (.inl hn))
    have hbd : len ≤ 140737488351232 := by
      have := hw ((elems.map (·.1)).length * Tryd.prog.bytesOf 35 + (rest.map (·.1)).length * Tryd.prog.bytesOf 35) (by
        rw [hx.1]
        simp only [DataW.weights, Tryd.underlying22, List.mem_cons, List.mem_append, Nat.add_mul]
        exact .inl trivial)
      have hb : Tryd.prog.bytesOf 35 = 144 := by kernel_rfl
      rw [hb] at this
      simp only [reachBytes, List.length_map] at this
      omega
    have raw : ∀ i, i < len → ∃ x : Int × OpV, OpOk W x.2 ∧ ∀ j u, (x.2.c x.1).toList[j]? = some u → W.cell? (((⟨b, off, spot⟩ : Addr).add (i * 42)).add j) = some u := fun i hi => by
      have hi2 := hcell i hi
      have hlt : i < elems.length := by omega
      rw [List.getElem?_eq_getElem hlt, cellsOp, Option.bind_eq_some_iff] at hi2
      obtain ⟨cs, hc1, hc2⟩ := hi2
      obtain ⟨k, o, rfl, ok⟩ := op_cells hc2 (fun n hn => hwd n (w_all (i := i) (d := elems[i].1) (by simp [hlt]) n hn))
      obtain ⟨_, _, hc3⟩ := World.cells?_some hc1
      refine ⟨(k, o), ok, fun j u hu => ?_⟩
      have hj := (List.getElem?_eq_some_iff.1 hu).1
      have hj : j < 42 := by rw [oc_len o k ok.hh] at hj; exact hj
      rw [hc3 j hj]
      exact hu
    have hspot : 0 < len → spot = none := fun h0 => by
      obtain ⟨x, ok, hc⟩ := raw 0 h0
      have q := hc 0 _ (List.getElem?_eq_getElem (by rw [oc_len x.2 x.1 ok.hh]; omega))
      have := World.cell?_spot q
      simpa [Addr.add] using this
    let F : Nat → Int × OpV := fun i => if h : i < len then Classical.choose (raw i h) else (0, ⟨0, false, 0, 0, 0, ⟨#[]⟩, none, 0, 0, [], none, 0, 0, 0⟩)
    have hF : ∀ i (h : i < len), F i = Classical.choose (raw i h) := fun i h => dif_pos h
    refine ⟨(List.range len).map F, by simp, hbd, ?_, .inr ⟨_, _, hx.1, by simp [hel]⟩⟩
    by_cases h0 : 0 < len
    · have hs := hspot h0
      subst hs
      refine .inr ⟨b, off, rfl, fun i k o hv => ?_⟩
      have hi : i < len := by
        have := (List.getElem?_eq_some_iff.1 hv).1
        simpa using this
      rw [List.getElem?_map, List.getElem?_range hi] at hv
      simp only [Option.map_some, Option.some.injEq] at hv
      rw [hF i hi] at hv
      have sp := Classical.choose_spec (raw i hi)
      rw [hv] at sp
      refine ⟨fun j u hu => ?_, sp.1⟩
      have := sp.2 j u hu
      rw [Addr.add_mid, Addr.add_mid] at this
      rwa [show off + 42 * i + j = off + i * 42 + j by omega]
    · obtain rfl : len = 0 := by omega
      exact .inl rfl
/-- What a slice of Reads that came in gives a walk. -/
theorem view_reads {H : Type} {enc : TypeId × Value → H} {W : World} {a : Option Addr} {len cap : Nat} {d : DataW H} {p : List MemPlace}
    (h : DataW.Trod enc Tryd.prog W 0 (fun _ => true) true 23 (.slice a len cap) d p) (hw : ∀ n ∈ d.weights Tryd.prog 23, n ≤ reachBytes) :
    ∃ l : List (Int × Int × Int × Int), l.length = len ∧ len ≤ 140737488351232 ∧ Rdl W a l ∧ (∀ k u m e, (k, u, m, e) ∈ l → 0 ≤ u ∧ u < 18446744073709551616 ∧ -9223372036854775808 ≤ m ∧ m < 9223372036854775808) ∧ (d = .nil ∧ len = 0 ∨ ∃ el sp, d = .slice el sp ∧ el.length = len) := by
  obtain ⟨fuel, hf⟩ := h
  rcases DataW.trod_slice Tryd.underlying23 hf with ⟨hcs', hx⟩ | ⟨ad, l, c, elems, rest, n, _, hcs', hx, _, hl, hm, hel, hcell, _, _⟩
  · simp [Value.cells] at hcs'
    obtain ⟨rfl, rfl, rfl⟩ := hcs'
    simp only [Prod.mk.injEq] at hx
    exact ⟨[], rfl, by omega, .inl rfl, fun _ _ _ _ h => (by cases h), .inl ⟨hx.1, rfl⟩⟩
  · simp [Value.cells] at hcs'
    obtain ⟨rfl, rfl, rfl⟩ := hcs'
    simp only [Prod.mk.injEq] at hx
    obtain ⟨b, off, spot⟩ := ad
    have hbd : len ≤ 140737488351232 := by
      have := hw ((elems.map (·.1)).length * Tryd.prog.bytesOf 45 + (rest.map (·.1)).length * Tryd.prog.bytesOf 45) (by
        rw [hx.1]
        simp only [DataW.weights, Tryd.underlying23, List.mem_cons, List.mem_append, Nat.add_mul]
        exact .inl trivial)
      have hb : Tryd.prog.bytesOf 45 = 32 := by kernel_rfl
      rw [hb] at this
      simp only [reachBytes, List.length_map] at this
      omega
    have raw : ∀ i, i < len → ∃ x : Int × Int × Int × Int, (0 ≤ x.2.1 ∧ x.2.1 < 18446744073709551616 ∧ -9223372036854775808 ≤ x.2.2.1 ∧ x.2.2.1 < 9223372036854775808) ∧ ∀ j u, ([.int .i64 x.1, .int .u64 x.2.1, .int .i64 x.2.2.1, .int .i64 x.2.2.2] : List Value)[j]? = some u → W.cell? (((⟨b, off, spot⟩ : Addr).add (i * 4)).add j) = some u := fun i hi => by
      have hi2 := hcell i hi
      have hlt : i < elems.length := by omega
      rw [List.getElem?_eq_getElem hlt, cellsRead, Option.bind_eq_some_iff] at hi2
      obtain ⟨cs, hc1, hc2⟩ := hi2
      obtain ⟨xs, n', _, _, hcl, hlen, hfs⟩ := DataW.trod_struct Tryd.underlying45 hc2
      rw [cellsRead] at hcl
      have hlen : xs.length = 4 := hlen
      obtain ⟨c0, c1, c2, c3, rfl⟩ := list4 hcl
      obtain ⟨y0, y1, y2, y3, rfl⟩ := list4 hlen
      have q0 : Tryd.prog.cellsOf 3 = 1 := by kernel_rfl
      have q1 : Tryd.prog.cellsOf 27 = 1 := by kernel_rfl
      have q3 : Tryd.prog.cellsOf 33 = 1 := by kernel_rfl
      have t0 : DataW.trod enc Tryd.prog W 0 (fun _ => true) true n' 3 [c0] = some y0 := by simpa [q0] using hfs 0 _ rfl
      have t1 : DataW.trod enc Tryd.prog W 0 (fun _ => true) true n' 27 [c1] = some y1 := by simpa [q1] using hfs 1 _ rfl
      have t2 : DataW.trod enc Tryd.prog W 0 (fun _ => true) true n' 3 [c2] = some y2 := by simpa [q0] using hfs 2 _ rfl
      have t3 : DataW.trod enc Tryd.prog W 0 (fun _ => true) true n' 33 [c3] = some y3 := by simpa [q3] using hfs 3 _ rfl
      obtain ⟨z0, e0, _, _⟩ := DataW.trod_int Tryd.underlying3 t0
      obtain ⟨z1, e1, _, w1⟩ := DataW.trod_int Tryd.underlying27 t1
      obtain ⟨z2, e2, _, w2⟩ := DataW.trod_int Tryd.underlying3 t2
      obtain ⟨z3, e3, _, _⟩ := DataW.trod_int Tryd.underlying33 t3
      simp at e0 e1 e2 e3
      subst e0 e1 e2 e3
      have b1 := u64_wf w1
      have b2 := i64_wf w2
      obtain ⟨_, _, hc3⟩ := World.cells?_some hc1
      refine ⟨(z0, z1, z2, z3), ⟨b1.1, b1.2, b2.1, b2.2⟩, fun j u hu => ?_⟩
      have hj := (List.getElem?_eq_some_iff.1 hu).1
      have hj : j < 4 := by simpa using hj
      rw [hc3 j hj]
      exact hu
    have hspot : 0 < len → spot = none := fun h0 => by
      obtain ⟨x, _, hc⟩ := raw 0 h0
      have q := hc 0 _ rfl
      have := World.cell?_spot q
      simpa [Addr.add] using this
    let F : Nat → Int × Int × Int × Int := fun i => if h : i < len then Classical.choose (raw i h) else (0, 0, 0, 0)
    have hF : ∀ i (h : i < len), F i = Classical.choose (raw i h) := fun i h => dif_pos h
    refine ⟨(List.range len).map F, by simp, hbd, ?_, fun k u m e hv => ?_, .inr ⟨_, _, hx.1, by simp [hel]⟩⟩
    · by_cases h0 : 0 < len
      · have hs := hspot h0
        subst hs
        refine .inr ⟨b, off, rfl, fun i k u m e hv => ?_⟩
        have hi : i < len := by
          have := (List.getElem?_eq_some_iff.1 hv).1
          simpa using this
        rw [List.getElem?_map, List.getElem?_range hi] at hv
        simp only [Option.map_some, Option.some.injEq] at hv
        rw [hF i hi] at hv
        have sp := (Classical.choose_spec (raw i hi)).2
        rw [hv] at sp
        intro j v hu
        have := sp j v hu
        rw [Addr.add_mid, Addr.add_mid] at this
        rwa [show off + 4 * i + j = off + i * 4 + j by omega]
      · obtain rfl : len = 0 := by omega
        exact .inl rfl
    · rw [List.mem_map] at hv
      obtain ⟨i, hi, hv⟩ := hv
      rw [List.mem_range] at hi
      rw [hF i hi] at hv
      have sp := (Classical.choose_spec (raw i hi)).1
      rw [hv] at sp
      exact sp
end Go.Proofs.YtbpmpcmmdiaiiaaDoor

