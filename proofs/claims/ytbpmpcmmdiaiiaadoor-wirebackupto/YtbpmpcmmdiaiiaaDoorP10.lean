import Derived.Test.YtbpmpcmmdiaiiaaDoorP9
import Derived.Test.YtbpmpcmmdiaiiaaDoorP0
import Derived.Laws.CopyOwn
namespace Go.Proofs.YtbpmpcmmdiaiiaaDoor
open Go.RowKit
set_option linter.unusedVariables false
set_option linter.unusedSimpArgs false

/-- Ops that lie in memory. -/
def Opl (W : World) (a : Option Addr) (l : List (Int × OpV)) : Prop := l = [] ∨ ∃ b off, a = some ⟨b, off, none⟩ ∧ ∀ (i : Nat) (k : Int) (o : OpV), l[i]? = some (k, o) → W.rangeAt b (off + 42 * i) (o.c k).toList ∧ OpOk W o
theorem Opl.at {W : World} {a : Option Addr} {l : List (Int × OpV)} (h : Opl W a l) {i : Nat} (hi : i < l.length) : ∃ b off k o, a = some ⟨b, off, none⟩ ∧ l[i]? = some (k, o) ∧ W.rangeAt b (off + 42 * i) (o.c k).toList ∧ OpOk W o ∧ b < W.heap.size := by
  rcases h with rfl | ⟨b, off, rfl, h⟩
  · simp at hi
  · obtain ⟨⟨k, o⟩, e⟩ : ∃ x, l[i]? = some x := ⟨_, List.getElem?_eq_getElem hi⟩
    obtain ⟨h1, h2⟩ := h i k o e
    refine ⟨b, off, k, o, rfl, e, h1, h2, rangeAt_lt h1 ?_⟩
    show 0 < (oL _ _ _ _ _ _ _ _ _ _ _).length
    rw [oL_len h2.hh]
    omega
/-- Reads that lie in memory. -/
def Rdl (W : World) (a : Option Addr) (l : List (Int × Int × Int × Int)) : Prop := l = [] ∨ ∃ b off, a = some ⟨b, off, none⟩ ∧ ∀ (i : Nat) (k u m e : Int), l[i]? = some (k, u, m, e) → W.rangeAt b (off + 4 * i) [.int .i64 k, .int .u64 u, .int .i64 m, .int .i64 e]
theorem Rdl.at {W : World} {a : Option Addr} {l : List (Int × Int × Int × Int)} (h : Rdl W a l) {i : Nat} (hi : i < l.length) : ∃ b off k u m e, a = some ⟨b, off, none⟩ ∧ l[i]? = some (k, u, m, e) ∧ W.rangeAt b (off + 4 * i) [.int .i64 k, .int .u64 u, .int .i64 m, .int .i64 e] ∧ b < W.heap.size := by
  rcases h with rfl | ⟨b, off, rfl, h⟩
  · simp at hi
  · obtain ⟨⟨k, u, m, e⟩, he⟩ : ∃ x, l[i]? = some x := ⟨_, List.getElem?_eq_getElem hi⟩
    have h1 := h i k u m e he
    exact ⟨b, off, k, u, m, e, rfl, he, h1, rangeAt_lt h1 (by simp)⟩
theorem sizeOp : (Tryd.prog.info? 35).map (·.size) = some 42 := by kernel_rfl
theorem sizeRead : (Tryd.prog.info? 45).map (·.size) = some 4 := by kernel_rfl
theorem info_some {t : TypeId} {n : Nat} (h : (Tryd.prog.info? t).map (·.size) = some n) : ∃ i, Tryd.prog.info? t = some i ∧ i.size = n := by
  cases hq : Tryd.prog.info? t with
  | none => rw [hq] at h; simp at h
  | some i => rw [hq] at h; simp at h; exact ⟨i, rfl, h⟩
theorem indexOp (b off n cap k : Nat) (w : World) (hk : k < n) :
    (Instr.indexAt 22 (.slice (some ⟨b, off, none⟩) n cap) (.int .i64 (k : Int))).run Tryd.prog w = .ok (.pointer (some ⟨b, off + 42 * k, none⟩)) w := by
  obtain ⟨i, hi, hs⟩ := info_some sizeOp
  have hu := Tryd.underlying22
  have he : Tryd.prog.elem 22 = 35 := by kernel_rfl
  rw [run_indexAt_slice (P := Tryd.prog) _ _ _ _ _ _ _ (by rw [he]; exact hu)]
  simp [hk, he, hi, hs, Go.sizeOf, typeInfo, Addr.add_mid]
theorem indexRead (b off n cap k : Nat) (w : World) (hk : k < n) :
    (Instr.indexAt 23 (.slice (some ⟨b, off, none⟩) n cap) (.int .i64 (k : Int))).run Tryd.prog w = .ok (.pointer (some ⟨b, off + 4 * k, none⟩)) w := by
  obtain ⟨i, hi, hs⟩ := info_some sizeRead
  have hu := Tryd.underlying23
  have he : Tryd.prog.elem 23 = 45 := by kernel_rfl
  rw [run_indexAt_slice (P := Tryd.prog) _ _ _ _ _ _ _ (by rw [he]; exact hu)]
  simp [hk, he, hi, hs, Go.sizeOf, typeInfo, Addr.add_mid]
theorem oc_len (o : OpV) (k : Int) (hh : o.h.length = 32) : (o.c k).toList.length = 42 := by
  show (oL _ _ _ _ _ _ _ _ _ _ _).length = 42
  exact oL_len hh
theorem hbG : Tryd.prog.built 42 [] = some gz := by kernel_rfl

set_option maxRecDepth 100000 in
set_option maxHeartbeats 2000000 in
theorem none_all (a1 a2 : Option Addr) (l : List (Int × OpV)) (rs : List (Int × Int × Int × Int)) (n m c1 c2 : Nat) (w : World) (hn : l.length = n) (hm : rs.length = m) (hl : Opl w a1 l) (hr : Rdl w a2 rs) (hnb : n < 9223372036854775807) (hmb : m < 9223372036854775807) (hT : K.Tabs w) :
    Calls Tryd.prog 3 #[.slice a1 n c1, .slice a2 m c2] w fun e w' => e = .returned (.bool true) ∧ Below w.heap.size w w' := by
  have HL := K.Hid.mk' (K.live_any w hT)
  have HT := K.Hid.mk' hT
  have HN := K.Hid.mk' hn
  have HM := K.Hid.mk' hm
  have HO := K.Hid.mk' hl
  have HR := K.Hid.mk' hr
  clear hT hn hm hl hr
  go_enter Tryd.func3, Tryd.ntmps3
  go_wp2_with fail
  refine HL.out.mono ?_
  rintro e w1 ⟨rfl, b1⟩
  have B1 := K.Hid.mk' b1
  clear b1 HL
  go_wp2
  go_loopw [6] (fun i wr => ∃ k : Nat, k ≤ n ∧ i = .int .i64 k ∧ Hid (Below w.heap.size w wr)) (fun i _ => n - (intOf i).toNat)
  case atStart => exact ⟨0, Nat.zero_le _, rfl, B1⟩
  case round =>
    obtain ⟨k, hk, rfl, HB⟩ := hrel
    by_cases hkn : k < n
    · obtain ⟨b, off, kd, o, rfl, _, hra, ok, hbl⟩ := HO.out.at (i := k) (by rw [HN.out]; exact hkn)
      have RA : Hid (wr.rangeAt b (off + 42 * k) (o.c kd).toList) := rangeAt_below hra HB.out hbl
      have OL : Hid ((o.c kd).toList.length = 42) := oc_len o kd ok.hh
      have OE : Hid ((o.c kd).toList.toArray = o.c kd) := by show _ = _; simp
      have WN := K.Hid.mk' (wnil kd o w wr ok HB.out HT.out)
      have ix := fun wx => indexOp b off n c1 k wx hkn
      clear hra ok hbl
      generalize o.c kd = C at *
      go_wp2_with (first
        | (refine wpList_load_mid rfl 35 _ rfl b (off + 42 * k) rfl C.toList _ RA.out Tryd.underlying35 rfl (by rw [OL.out]; exact sizeOp) ?_; rw [OE.out])
        | fail)
      refine WN.out.mono ?_
      rintro e w2 ⟨rfl, b2⟩
      have B2 : Hid (Below w.heap.size w w2) := HB.out.trans (b2.mono HB.out.size)
      clear b2 WN ix RA
      go_wp2_with fail
      refine (K.nlen _).mono ?_
      rintro e w3 ⟨rfl, hw3⟩
      subst hw3
      go_wp2
      go_roundw
      case rel => exact ⟨k + 1, by omega, by go_num, B2⟩
      case measure => simp [intOf]; omega
    · go_wp2_with fail
      refine (K.ndone _).mono ?_
      rintro e w4 ⟨rfl, hw4⟩
      subst hw4
      go_wp2
      go_loopw [10] (fun i wq => ∃ j : Nat, j ≤ m ∧ i = .int .i64 j ∧ Hid (Below w.heap.size w wq)) (fun i _ => m - (intOf i).toNat)
      case atStart => exact ⟨0, Nat.zero_le _, rfl, HB⟩
      case round =>
        obtain ⟨j, hj, rfl, HQ⟩ := hrel
        by_cases hjm : j < m
        · obtain ⟨b, off, kd, ou, om, oe, rfl, _, hra, hbl⟩ := HR.out.at (i := j) (by rw [HM.out]; exact hjm)
          have RA : Hid (wr.rangeAt b (off + 4 * j) [.int .i64 kd, .int .u64 ou, .int .i64 om, .int .i64 oe]) := rangeAt_below hra HQ.out hbl
          have RN := K.Hid.mk' (rnil kd ou om oe wr)
          have ix := fun wx => indexRead b off m c2 j wx hjm
          have hbg := hbG
          have SG := K.Hid.mk' samegz
          clear hra hbl
          generalize gz = C at *
          go_wp2_with (first
            | (refine wpList_load_mid rfl 45 _ rfl b (off + 4 * j) rfl [.int .i64 kd, .int .u64 ou, .int .i64 om, .int .i64 oe] _ RA.out Tryd.underlying45 rfl sizeRead ?_)
            | fail)
          refine RN.out.mono ?_
          rintro e w5 ⟨rfl, b5⟩
          have B5 : Hid (Below w.heap.size w w5) := HQ.out.trans (b5.mono HQ.out.size)
          clear b5 RN ix RA
          go_wp2_with (first
            | (refine wpList_build_row rfl 42 rfl C hbg ?_)
            | fail)
          refine (SG.out _).mono ?_
          rintro e w6 ⟨rfl, b6⟩
          have B6 : Hid (Below w.heap.size w w6) := B5.out.trans (b6.mono B5.out.size)
          clear b6 SG hbg
          go_wp2
          go_roundw
          case rel => exact ⟨j + 1, by omega, by go_num, B6⟩
          case measure => simp [intOf]; omega
        · go_wp2_with fail
          refine (nrfault _).mono ?_
          rintro e w5 ⟨rfl, hw5⟩
          subst hw5
          go_wp2_with fail
          refine (nrdone _).mono ?_
          rintro e w6 ⟨rfl, m6, hm6⟩
          have B6 : Hid (Below w.heap.size w w6) := by rw [hm6]; exact below_drewN' HQ.out _
          clear hm6
          go_wp2_with fail
          refine (nrat _).mono ?_
          rintro e w7 ⟨rfl, hw7⟩
          subst hw7
          go_wp2_with fail
          refine (nrleft _).mono ?_
          rintro e w8 ⟨rfl, hw8⟩
          subst hw8
          go_wp2
          go_ret
          exact ⟨rfl, B6.out⟩
end Go.Proofs.YtbpmpcmmdiaiiaaDoor

namespace Go.Proofs.YtbpmpcmmdiaiiaaDoor
open Go.ChangeShapes Go.WideShapes Go.ChangeAt Go.RowKit
set_option linter.unusedVariables false
set_option linter.unusedSimpArgs false

theorem bytes5 : Tryd.prog.bytesOf 5 = 1 := by kernel_rfl
/-- What a slice of bytes that came in gives a walk. -/
theorem view_bytes {H : Type} {enc : TypeId × Value → H} {W : World} {a : Option Addr} {len cap : Nat} {d : DataW H} {p : List MemPlace}
    (h : DataW.Trod enc Tryd.prog W 0 (fun _ => true) true 29 (.slice a len cap) d p) :
    ∃ L : List UInt8, L.length = len ∧ len ≤ cap ∧ K.Byt W a L ∧ (d = .nil ∧ len = 0 ∨ ∃ el sp, d = .slice el sp ∧ el.length = len) := by
  obtain ⟨fuel, hf⟩ := h
  rcases open_ints Tryd.underlying29 Tryd.underlying5 (by kernel_rfl) hf with ⟨hcs, hx⟩ | ⟨x, l, c, zs, hcs, _, hl, hm, hz, hx, hcell, hwz⟩
  · simp [Value.cells] at hcs
    obtain ⟨rfl, rfl, rfl⟩ := hcs
    simp only [Prod.mk.injEq] at hx
    exact ⟨[], rfl, Nat.le_refl _, .inl rfl, .inl ⟨hx.1, rfl⟩⟩
  · simp [Value.cells] at hcs
    obtain ⟨rfl, rfl, rfl⟩ := hcs
    have hz' : zs.length = cap := by simpa using hz
    simp only [Prod.mk.injEq] at hx
    have hlen0 : ((zs.take len).map (fun z => UInt8.ofNat z.toNat)).length = len := by simp; omega
    refine ⟨(zs.take len).map (fun z => UInt8.ofNat z.toNat), hlen0, hl, ?_, .inr ⟨_, _, hx.1, by simp [lits]; omega⟩⟩
    by_cases h0 : 0 < len
    · obtain ⟨b, off, spot⟩ := x
      have hc := hcell 0 (by omega)
      have hspot : spot = none := by simpa [Addr.add] using World.cell?_spot hc
      subst hspot
      refine .inr ⟨b, off, rfl, fun j hj => ?_⟩
      rw [hlen0] at hj
      have h1 := hcell j (by omega)
      have e : (⟨b, off, none⟩ : Addr).add j = ⟨b, off + j, none⟩ := by unfold Addr.add; split <;> simp_all
      rw [e] at h1
      rw [h1]
      have hb := bounds_u8 (hwz (zs.getD j 0) (by rw [List.getD_eq_getElem?_getD, List.getElem?_eq_getElem (by omega)]; exact List.getElem_mem _))
      have hlen : j < zs.length := by omega
      simp only [K.at8, List.getD_eq_getElem?_getD, List.getElem?_map, List.getElem?_take, if_pos hj, List.getElem?_eq_getElem hlen, Option.map_some, Option.getD_some] at hb ⊢
      rw [UInt8.toNat_ofNat']
      simp only [Option.some.injEq, Value.int.injEq, true_and]
      omega
    · exact .inl (List.eq_nil_of_length_eq_zero (by omega))
theorem trod_float {H : Type} {enc : TypeId × Value → H} {P : Program} {w : World} {base : Nat} {spare : Nat → Bool} {held : Bool} {fuel : Nat} {t : TypeId} {cs : List Value} {x : DataW H × List MemPlace} {k : FloatKind} (ht : P.underlying t = some (.float k)) (h : DataW.trod enc P w base spare held fuel t cs = some x) :
    ∃ b, cs = [.float k b] ∧ (Lit.float k b).wf = true := by
  cases fuel with
  | zero => simp [DataW.trod] at h
  | succ n =>
    unfold DataW.trod at h
    rw [ht] at h
    split at h <;> simp_all
/-- The cell of a slice that came in. -/
theorem trod_sl {H : Type} {enc : TypeId × Value → H} {W : World} {fuel : Nat} {t e : TypeId} {c : Value} {x : DataW H × List MemPlace} (ht : Tryd.prog.underlying t = some (.slice e)) (h : DataW.trod enc Tryd.prog W 0 (fun _ => true) true fuel t [c] = some x) :
    ∃ a n cap, c = .slice a n cap ∧ DataW.Trod enc Tryd.prog W 0 (fun _ => true) true t (.slice a n cap) x.1 x.2 := by
  rcases DataW.trod_slice ht h with ⟨hcs, hx⟩ | ⟨ad, l, c', elems, rest, n, _, hcs, _⟩
  · simp at hcs
    subst hcs
    exact ⟨_, _, _, rfl, fuel, h⟩
  · simp at hcs
    subst hcs
    exact ⟨_, _, _, rfl, fuel, h⟩
theorem w_all {H : Type} {P : Program} {e : TypeId} : ∀ {l : List (DataW H)} {i : Nat} {d : DataW H}, l[i]? = some d → ∀ n ∈ d.weights P e, n ∈ DataW.weightsAll P e l
  | x :: r, 0, d, h, n, hn => by
    simp only [List.getElem?_cons_zero, Option.some.injEq] at h
    subst h
    simp only [DataW.weightsAll, List.mem_append]
    exact .inl hn
  | x :: r, i + 1, d, h, n, hn => by
    simp only [List.getElem?_cons_succ] at h
    simp only [DataW.weightsAll, List.mem_append]
    exact .inr (w_all h n hn)
  | [], i, d, h, n, hn => by simp at h
theorem cellsOp : Tryd.prog.cellsOf 35 = 42 := by kernel_rfl
theorem cellsRead : Tryd.prog.cellsOf 45 = 4 := by kernel_rfl
theorem list11 {α : Type} {l : List α} (h : l.length = 11) : ∃ c0 c1 c2 c3 c4 c5 c6 c7 c8 c9 c10, l = [c0, c1, c2, c3, c4, c5, c6, c7, c8, c9, c10] := by
  match l, h with
  | [c0, c1, c2, c3, c4, c5, c6, c7, c8, c9, c10], _ => exact ⟨c0, c1, c2, c3, c4, c5, c6, c7, c8, c9, c10, rfl⟩
theorem list8 {α : Type} {l : List α} {m : Nat} (h : l.length = m + 8) : ∃ c0 c1 c2 c3 c4 c5 c6 c7 t, l = c0 :: c1 :: c2 :: c3 :: c4 :: c5 :: c6 :: c7 :: t ∧ t.length = m := by
  match l, h with
  | c0 :: c1 :: c2 :: c3 :: c4 :: c5 :: c6 :: c7 :: t, h => exact ⟨c0, c1, c2, c3, c4, c5, c6, c7, t, rfl, by simpa using h⟩
theorem list2 {α : Type} {l : List α} (h : l.length = 2) : ∃ c0 c1, l = [c0, c1] := by
  match l, h with
  | [c0, c1], _ => exact ⟨c0, c1, rfl⟩
theorem list4 {α : Type} {l : List α} (h : l.length = 4) : ∃ c0 c1 c2 c3, l = [c0, c1, c2, c3] := by
  match l, h with
  | [c0, c1, c2, c3], _ => exact ⟨c0, c1, c2, c3, rfl⟩
def opTypes : List TypeId := [3, 5, 4, 27, 2, 28, 9, 29, 31, 32, 33]
theorem i64_wf {z : Int} (h : (Lit.int .i64 z).wf = true) : -9223372036854775808 ≤ z ∧ z < 9223372036854775808 := by
  simp [Lit.wf, IntKind.min, IntKind.max, IntKind.signed, IntKind.bits] at h
  omega
theorem u64_wf {z : Int} (h : (Lit.int .u64 z).wf = true) : 0 ≤ z ∧ z < 18446744073709551616 := by
  simp [Lit.wf, IntKind.min, IntKind.max, IntKind.signed, IntKind.bits] at h
  omega
/-- The weights of a struct's fields are its own. -/
theorem w_op {H : Type} {parts : List (DataW H)} {j : Nat} {t : TypeId} {d : DataW H} (ht : opTypes[j]? = some t) (hd : parts[j]? = some d) : ∀ n ∈ d.weights Tryd.prog t, n ∈ (DataW.agg parts).weights Tryd.prog 35 := fun n hn => by
  have e : (DataW.agg parts).weights Tryd.prog 35 = DataW.weightsEach Tryd.prog opTypes parts := by
    rw [DataW.weights, Tryd.underlying35]
    rfl
  rw [e]
  exact DataW.weights_mem_each ht hd n hn
set_option maxHeartbeats 1000000 in
/-- The cells of an Op that came in. -/
theorem op_cells {H : Type} {enc : TypeId × Value → H} {W : World} {fuel : Nat} {cs : List Value} {y : DataW H × List MemPlace} (h : DataW.trod enc Tryd.prog W 0 (fun _ => true) true fuel 35 cs = some y)
    (hw : ∀ n ∈ y.1.weights Tryd.prog 35, n ≤ reachBytes) : ∃ (k : Int) (o : OpV), cs = (o.c k).toList ∧ OpOk W o := by
  obtain ⟨xs, n, _, hx, hcl, hlen, hfs⟩ := DataW.trod_struct Tryd.underlying35 h
  rw [cellsOp] at hcl
  have hlen : xs.length = 11 := hlen
  obtain ⟨y0, y1, y2, y3, y4, y5, y6, y7, y8, y9, y10, rfl⟩ := list11 hlen
  obtain ⟨c0, c1, c2, c3, c4, c5, c6, c7, t, rfl, ht⟩ := list8 (m := 34) (by omega)
  obtain ⟨c8, c9, hc89⟩ : ∃ c8 c9, t.drop 32 = [c8, c9] := list2 (by simp; omega)
  have tt : t = t.take 32 ++ [c8, c9] := by rw [← hc89, List.take_append_drop]
  have k1 : ∀ T, T ∈ opTypes → T ≠ 31 → Tryd.prog.cellsOf T = 1 := by
    intro T hT hne
    simp only [opTypes, List.mem_cons, List.not_mem_nil, or_false] at hT
    rcases hT with e | e | e | e | e | e | e | e | e | e | e <;> subst e <;> first | exact absurd rfl hne | kernel_rfl
  have t0 : DataW.trod enc Tryd.prog W 0 (fun _ => true) true n 3 [c0] = some y0 := by simpa [k1 3 (by decide) (by decide)] using hfs 0 _ rfl
  have t1 : DataW.trod enc Tryd.prog W 0 (fun _ => true) true n 5 [c1] = some y1 := by simpa [k1 5 (by decide) (by decide)] using hfs 1 _ rfl
  have t2 : DataW.trod enc Tryd.prog W 0 (fun _ => true) true n 4 [c2] = some y2 := by simpa [k1 4 (by decide) (by decide)] using hfs 2 _ rfl
  have t3 : DataW.trod enc Tryd.prog W 0 (fun _ => true) true n 27 [c3] = some y3 := by simpa [k1 27 (by decide) (by decide)] using hfs 3 _ rfl
  have t4 : DataW.trod enc Tryd.prog W 0 (fun _ => true) true n 2 [c4] = some y4 := by simpa [k1 2 (by decide) (by decide)] using hfs 4 _ rfl
  have t5 : DataW.trod enc Tryd.prog W 0 (fun _ => true) true n 28 [c5] = some y5 := by simpa [k1 28 (by decide) (by decide)] using hfs 5 _ rfl
  have t6 : DataW.trod enc Tryd.prog W 0 (fun _ => true) true n 9 [c6] = some y6 := by simpa [k1 9 (by decide) (by decide)] using hfs 6 _ rfl
  have t7 : DataW.trod enc Tryd.prog W 0 (fun _ => true) true n 29 [c7] = some y7 := by simpa [k1 29 (by decide) (by decide)] using hfs 7 _ rfl
  have t8 : DataW.trod enc Tryd.prog W 0 (fun _ => true) true n 31 (t.take 32) = some y8 := by
    have := hfs 8 _ rfl
    simpa [cellsH] using this
  have t9 : DataW.trod enc Tryd.prog W 0 (fun _ => true) true n 32 [c8] = some y9 := by
    have := hfs 9 _ rfl
    simpa [k1 32 (by decide) (by decide), hc89] using this
  have t10 : DataW.trod enc Tryd.prog W 0 (fun _ => true) true n 33 [c9] = some y10 := by
    have := hfs 10 _ rfl
    have e33 : (t.drop 33).take 1 = [c9] := by rw [show 33 = 32 + 1 from rfl, ← List.drop_drop, hc89]; rfl
    simpa [k1 33 (by decide) (by decide), e33] using this
  obtain ⟨z0, e0, _, w0⟩ := DataW.trod_int Tryd.underlying3 t0
  obtain ⟨z1, e1, _, w1⟩ := DataW.trod_int Tryd.underlying5 t1
  obtain ⟨z2, e2, _⟩ := DataW.trod_bool Tryd.underlying4 t2
  obtain ⟨z3, e3, _, w3⟩ := DataW.trod_int Tryd.underlying27 t3
  obtain ⟨z4, e4, _, w4⟩ := DataW.trod_int Tryd.underlying2 t4
  obtain ⟨z5, e5, w5⟩ := trod_float Tryd.underlying28 t5
  obtain ⟨z6, e6, x6, w6⟩ := DataW.trod_string Tryd.underlying9 t6
  obtain ⟨ra, rn, rc, e7, tr7⟩ := trod_sl Tryd.underlying29 t7
  obtain ⟨hh, hh32, e8⟩ := hash_cells t8
  obtain ⟨la, ln, lc, e9, tr9⟩ := trod_sl Tryd.underlying32 t9
  obtain ⟨z10, e10, _, w10⟩ := DataW.trod_int Tryd.underlying33 t10
  simp at e0 e1 e2 e3 e4 e5 e6 e10
  subst e0 e1 e2 e3 e4 e5 e6 e7 e9 e10
  rw [e8] at tt
  obtain ⟨R, hR, _, hRb, hRd⟩ := view_bytes tr7
  obtain ⟨L, hL, hL32, hLl, _, hLd⟩ := view_hashes tr9
  have b3 := u64_wf w3
  have b4 := i64_wf w4
  have b1 := bounds_u8 w1
  have b5 : z5 < 18446744073709551616 := by simpa [Lit.wf, FloatKind.format, Ieee.Format.width, Ieee.double] using w5
  rw [hx] at hw
  have r6 : z6.size ≤ reachBytes := by
    have := hw z6.data.toList.length (w_op (j := 6) (t := 9) (d := y6.1) rfl rfl _ (by rw [x6]; simp [DataW.weights]))
    simpa using this
  have r7 : rn ≤ reachBytes := by
    rcases hRd with ⟨_, h0⟩ | ⟨el, sp, hd, hel⟩
    · omega
    · have := hw ((el.length + sp.length) * Tryd.prog.bytesOf 5) (w_op (j := 7) (t := 29) (d := y7.1) rfl rfl _ (by rw [hd]; simp [DataW.weights, Tryd.underlying29]))
      rw [bytes5] at this
      omega
  have r9 : ln * 32 ≤ reachBytes := by
    rcases hLd with ⟨_, h0⟩ | ⟨el, sp, hd, hel⟩
    · omega
    · have := hw ((el.length + sp.length) * Tryd.prog.bytesOf 31) (w_op (j := 9) (t := 32) (d := y9.1) rfl rfl _ (by rw [hd]; simp [DataW.weights, Tryd.underlying32]))
      rw [bytesH] at this
      omega
  simp only [reachBytes] at r6 r7 r9
  refine ⟨z0, ⟨z1, z2, z3.toNat, z4, z5, z6, ra, rn, rc, hh, la, ln, lc, z10⟩, ?_, hh32, by show z3.toNat < _; omega, b4.1, b4.2, b5, b1.1, b1.2, r6, ⟨R, hR, r7, hRb⟩, ⟨L, hL32, hL, by show ln ≤ _; omega, hLl⟩⟩
  rw [tt]
  show _ = oL _ _ _ _ _ _ _ _ _ _ _
  simp only [oL]
  rw [show ((z3.toNat : Nat) : Int) = z3 by omega]
/-- What a slice of Ops that came in gives a walk. -/
theorem view_ops {H : Type} {enc : TypeId × Value → H} {W : World} {a : Option Addr} {len cap : Nat} {d : DataW H} {p : List MemPlace}
    (h : DataW.Trod enc Tryd.prog W 0 (fun _ => true) true 22 (.slice a len cap) d p) (hw : ∀ n ∈ d.weights Tryd.prog 22, n ≤ reachBytes) :
    ∃ l : List (Int × OpV), l.length = len ∧ len ≤ 140737488351232 ∧ Opl W a l ∧ (d = .nil ∧ len = 0 ∨ ∃ el sp, d = .slice el sp ∧ el.length = len) := by
  obtain ⟨fuel, hf⟩ := h
  rcases DataW.trod_slice Tryd.underlying22 hf with ⟨hcs', hx⟩ | ⟨ad, l, c, elems, rest, n, _, hcs', hx, _, hl, hm, hel, hcell, _, _⟩
  · simp [Value.cells] at hcs'
    obtain ⟨rfl, rfl, rfl⟩ := hcs'
    simp only [Prod.mk.injEq] at hx
    exact ⟨[], rfl, by omega, .inl rfl, .inl ⟨hx.1, rfl⟩⟩
  · simp [Value.cells] at hcs'
    obtain ⟨rfl, rfl, rfl⟩ := hcs'
    simp only [Prod.mk.injEq] at hx
    obtain ⟨b, off, spot⟩ := ad
    have hwd : ∀ n ∈ DataW.weightsAll Tryd.prog 35 (elems.map (·.1)), n ≤ reachBytes := fun n hn => hw n (by
      rw [hx.1]
      simp only [DataW.weights, Tryd.underlying22, List.mem_cons, List.mem_append]
      exact .inr (.inl hn))
    have hbd : len ≤ 140737488351232 := by
      have := hw ((elems.map (·.1)).length * Tryd.prog.bytesOf 35 + (rest.map (·.1)).length * Tryd.prog.bytesOf 35) (by
        rw [hx.1]
        simp only [DataW.weights, Tryd.underlying22, List.mem_cons, List.mem_append, Nat.add_mul]
        exact .inl trivial)
      have hb : Tryd.prog.bytesOf 35 = 144 := by kernel_rfl
      rw [hb] at this
      simp only [reachBytes, List.length_map] at this
      omega
    have raw : ∀ i, i < len → ∃ x : Int × OpV, OpOk W x.2 ∧ ∀ j u, (x.2.c x.1).toList[j]? = some u → W.cell? (((⟨b, off, spot⟩ : Addr).add (i * 42)).add j) = some u := fun i hi => by
      have hi2 := hcell i hi
      have hlt : i < elems.length := by omega
      rw [List.getElem?_eq_getElem hlt, cellsOp, Option.bind_eq_some_iff] at hi2
      obtain ⟨cs, hc1, hc2⟩ := hi2
      obtain ⟨k, o, rfl, ok⟩ := op_cells hc2 (fun n hn => hwd n (w_all (i := i) (d := elems[i].1) (by simp [hlt]) n hn))
      obtain ⟨_, _, hc3⟩ := World.cells?_some hc1
      refine ⟨(k, o), ok, fun j u hu => ?_⟩
      have hj := (List.getElem?_eq_some_iff.1 hu).1
      have hj : j < 42 := by rw [oc_len o k ok.hh] at hj; exact hj
      rw [hc3 j hj]
      exact hu
    have hspot : 0 < len → spot = none := fun h0 => by
      obtain ⟨x, ok, hc⟩ := raw 0 h0
      have q := hc 0 _ (List.getElem?_eq_getElem (by rw [oc_len x.2 x.1 ok.hh]; omega))
      have := World.cell?_spot q
      simpa [Addr.add] using this
    let F : Nat → Int × OpV := fun i => if h : i < len then Classical.choose (raw i h) else (0, ⟨0, false, 0, 0, 0, ⟨#[]⟩, none, 0, 0, [], none, 0, 0, 0⟩)
    have hF : ∀ i (h : i < len), F i = Classical.choose (raw i h) := fun i h => dif_pos h
    refine ⟨(List.range len).map F, by simp, hbd, ?_, .inr ⟨_, _, hx.1, by simp [hel]⟩⟩
    by_cases h0 : 0 < len
    · have hs := hspot h0
      subst hs
      refine .inr ⟨b, off, rfl, fun i k o hv => ?_⟩
      have hi : i < len := by
        have := (List.getElem?_eq_some_iff.1 hv).1
        simpa using this
      rw [List.getElem?_map, List.getElem?_range hi] at hv
      simp only [Option.map_some, Option.some.injEq] at hv
      rw [hF i hi] at hv
      have sp := Classical.choose_spec (raw i hi)
      rw [hv] at sp
      refine ⟨fun j u hu => ?_, sp.1⟩
      have := sp.2 j u hu
      rw [Addr.add_mid, Addr.add_mid] at this
      rwa [show off + 42 * i + j = off + i * 42 + j by omega]
    · obtain rfl : len = 0 := by omega
      exact .inl rfl
/-- What a slice of Reads that came in gives a walk. -/
theorem view_reads {H : Type} {enc : TypeId × Value → H} {W : World} {a : Option Addr} {len cap : Nat} {d : DataW H} {p : List MemPlace}
    (h : DataW.Trod enc Tryd.prog W 0 (fun _ => true) true 23 (.slice a len cap) d p) (hw : ∀ n ∈ d.weights Tryd.prog 23, n ≤ reachBytes) :
    ∃ l : List (Int × Int × Int × Int), l.length = len ∧ len ≤ 140737488351232 ∧ Rdl W a l ∧ (∀ k u m e, (k, u, m, e) ∈ l → 0 ≤ u ∧ u < 18446744073709551616 ∧ -9223372036854775808 ≤ m ∧ m < 9223372036854775808) ∧ (d = .nil ∧ len = 0 ∨ ∃ el sp, d = .slice el sp ∧ el.length = len) := by
  obtain ⟨fuel, hf⟩ := h
  rcases DataW.trod_slice Tryd.underlying23 hf with ⟨hcs', hx⟩ | ⟨ad, l, c, elems, rest, n, _, hcs', hx, _, hl, hm, hel, hcell, _, _⟩
  · simp [Value.cells] at hcs'
    obtain ⟨rfl, rfl, rfl⟩ := hcs'
    simp only [Prod.mk.injEq] at hx
    exact ⟨[], rfl, by omega, .inl rfl, fun _ _ _ _ h => (by cases h), .inl ⟨hx.1, rfl⟩⟩
  · simp [Value.cells] at hcs'
    obtain ⟨rfl, rfl, rfl⟩ := hcs'
    simp only [Prod.mk.injEq] at hx
    obtain ⟨b, off, spot⟩ := ad
    have hbd : len ≤ 140737488351232 := by
      have := hw ((elems.map (·.1)).length * Tryd.prog.bytesOf 45 + (rest.map (·.1)).length * Tryd.prog.bytesOf 45) (by
        rw [hx.1]
        simp only [DataW.weights, Tryd.underlying23, List.mem_cons, List.mem_append, Nat.add_mul]
        exact .inl trivial)
      have hb : Tryd.prog.bytesOf 45 = 32 := by kernel_rfl
      rw [hb] at this
      simp only [reachBytes, List.length_map] at this
      omega
    have raw : ∀ i, i < len → ∃ x : Int × Int × Int × Int, (0 ≤ x.2.1 ∧ x.2.1 < 18446744073709551616 ∧ -9223372036854775808 ≤ x.2.2.1 ∧ x.2.2.1 < 9223372036854775808) ∧ ∀ j u, ([.int .i64 x.1, .int .u64 x.2.1, .int .i64 x.2.2.1, .int .i64 x.2.2.2] : List Value)[j]? = some u → W.cell? (((⟨b, off, spot⟩ : Addr).add (i * 4)).add j) = some u := fun i hi => by
      have hi2 := hcell i hi
      have hlt : i < elems.length := by omega
      rw [List.getElem?_eq_getElem hlt, cellsRead, Option.bind_eq_some_iff] at hi2
      obtain ⟨cs, hc1, hc2⟩ := hi2
      obtain ⟨xs, n', _, _, hcl, hlen, hfs⟩ := DataW.trod_struct Tryd.underlying45 hc2
      rw [cellsRead] at hcl
      have hlen : xs.length = 4 := hlen
      obtain ⟨c0, c1, c2, c3, rfl⟩ := list4 hcl
      obtain ⟨y0, y1, y2, y3, rfl⟩ := list4 hlen
      have q0 : Tryd.prog.cellsOf 3 = 1 := by kernel_rfl
      have q1 : Tryd.prog.cellsOf 27 = 1 := by kernel_rfl
      have q3 : Tryd.prog.cellsOf 33 = 1 := by kernel_rfl
      have t0 : DataW.trod enc Tryd.prog W 0 (fun _ => true) true n' 3 [c0] = some y0 := by simpa [q0] using hfs 0 _ rfl
      have t1 : DataW.trod enc Tryd.prog W 0 (fun _ => true) true n' 27 [c1] = some y1 := by simpa [q1] using hfs 1 _ rfl
      have t2 : DataW.trod enc Tryd.prog W 0 (fun _ => true) true n' 3 [c2] = some y2 := by simpa [q0] using hfs 2 _ rfl
      have t3 : DataW.trod enc Tryd.prog W 0 (fun _ => true) true n' 33 [c3] = some y3 := by simpa [q3] using hfs 3 _ rfl
      obtain ⟨z0, e0, _, _⟩ := DataW.trod_int Tryd.underlying3 t0
      obtain ⟨z1, e1, _, w1⟩ := DataW.trod_int Tryd.underlying27 t1
      obtain ⟨z2, e2, _, w2⟩ := DataW.trod_int Tryd.underlying3 t2
      obtain ⟨z3, e3, _, _⟩ := DataW.trod_int Tryd.underlying33 t3
      simp at e0 e1 e2 e3
      subst e0 e1 e2 e3
      have b1 := u64_wf w1
      have b2 := i64_wf w2
      obtain ⟨_, _, hc3⟩ := World.cells?_some hc1
      refine ⟨(z0, z1, z2, z3), ⟨b1.1, b1.2, b2.1, b2.2⟩, fun j u hu => ?_⟩
      have hj := (List.getElem?_eq_some_iff.1 hu).1
      have hj : j < 4 := by simpa using hj
      rw [hc3 j hj]
      exact hu
    have hspot : 0 < len → spot = none := fun h0 => by
      obtain ⟨x, _, hc⟩ := raw 0 h0
      have q := hc 0 _ rfl
      have := World.cell?_spot q
      simpa [Addr.add] using this
    let F : Nat → Int × Int × Int × Int := fun i => if h : i < len then Classical.choose (raw i h) else (0, 0, 0, 0)
    have hF : ∀ i (h : i < len), F i = Classical.choose (raw i h) := fun i h => dif_pos h
    refine ⟨(List.range len).map F, by simp, hbd, ?_, fun k u m e hv => ?_, .inr ⟨_, _, hx.1, by simp [hel]⟩⟩
    · by_cases h0 : 0 < len
      · have hs := hspot h0
        subst hs
        refine .inr ⟨b, off, rfl, fun i k u m e hv => ?_⟩
        have hi : i < len := by
          have := (List.getElem?_eq_some_iff.1 hv).1
          simpa using this
        rw [List.getElem?_map, List.getElem?_range hi] at hv
        simp only [Option.map_some, Option.some.injEq] at hv
        rw [hF i hi] at hv
        have sp := (Classical.choose_spec (raw i hi)).2
        rw [hv] at sp
        intro j v hu
        have := sp j v hu
        rw [Addr.add_mid, Addr.add_mid] at this
        rwa [show off + 4 * i + j = off + i * 4 + j by omega]
      · obtain rfl : len = 0 := by omega
        exact .inl rfl
    · rw [List.mem_map] at hv
      obtain ⟨i, hi, hv⟩ := hv
      rw [List.mem_range] at hi
      rw [hF i hi] at hv
      have sp := (Classical.choose_spec (raw i hi)).1
      rw [hv] at sp
      exact sp
end Go.Proofs.YtbpmpcmmdiaiiaaDoor

namespace Go.Proofs.YtbpmpcmmdiaiiaaDoor
open Go.RowKit
set_option linter.unusedVariables false
set_option linter.unusedSimpArgs false

theorem byC_bs (l : List UInt8) : K.byC l = (bs l).toList := by simp [K.byC, bs]
theorem resHashOf (tmps : Array Value) (w : World) (g : Nat) (t : TypeId) (l : List UInt8) (hl : l.length = 32) (fr : Nat × Nat) (hp : tmps.getD 2 undef = .pointer (some ⟨g, 0, none⟩)) (hg : w.heap[g]? = some (.cells (bs l) t fr)) :
    (results Tryd.f71 tmps).run Tryd.prog w = .ok (.agg (bs l)) w :=
  results_cell_row Tryd.results71 tmps w g t (bs l) fr _ hp hg Tryd.underlying31 rfl (by rw [bs_size, hl]; exact hsH)
theorem splice_all (x : List UInt8) (h : x.length = 32) : ((bs z32).toList.take 0 ++ (K.byC x ++ (bs z32).toList.drop (0 + (K.byC x).length))).toArray = bs x := by
  have e : (bs z32).toList.length = 32 := by rw [Array.length_toList, bs_size]; rfl
  rw [K.byC_len, h, List.drop_of_length_le (by omega), byC_bs]
  simp

set_option maxRecDepth 100000 in
set_option maxHeartbeats 1000000 in
theorem hashOf_any (b off n cap : Nat) (l : List UInt8) (w : World) (hl : l.length = n) (hn : 32 ≤ n) (hb : ∀ j, j < l.length → w.cell? ⟨b, off + j, none⟩ = some (.int .u8 (K.at8 l j))) (hbl : b < w.heap.size) :
    Calls Tryd.prog 71 #[.slice (some ⟨b, off, none⟩) n cap] w fun e w' => e = .returned (.agg (bs (l.take 32))) ∧ Below w.heap.size w w' := by
  have hzs : (bs z32).size = 32 := by rw [bs_size]; rfl
  obtain ⟨x, hx⟩ : ∃ x, x = l.take 32 := ⟨_, rfl⟩
  have ht : x.length = 32 := by rw [hx]; simp; omega
  rw [← hx]
  have HL : Hid ((K.byC x).length = Nat.min n 32) := (by rw [K.byC_len, ht]; exact (Nat.min_eq_right hn).symm : (K.byC x).length = Nat.min n 32)
  have bel : Below w.heap.size w ((w.alloc (.cells (bs z32) 31)).alloc (.cells (bs z32) 31)) := ((Below.refl _ _).alloc (Nat.le_refl _) _).alloc (by simp) _
  have g1 : ((w.alloc (.cells (bs z32) 31)).alloc (.cells (bs z32) 31)).heap[w.heap.size + 1]? = some (.cells (bs z32) 31 (0, 0)) := heap_alloc2_new _ _ _
  have g0 : ((w.alloc (.cells (bs z32) 31)).alloc (.cells (bs z32) 31)).heap[w.heap.size]? = some (.cells (bs z32) 31 (0, 0)) := heap_alloc2_old _ _ _
  have hsrc : Hid (∀ j v, (K.byC x)[j]? = some v → ((w.alloc (.cells (bs z32) 31)).alloc (.cells (bs z32) 31)).cell? ((⟨b, off, none⟩ : Addr).add j) = some v) := fun j v hj => by
    obtain ⟨h1, rfl⟩ := K.byC_get _ j v hj
    rw [Addr.add_mid, World.cell?_of_block (w := w) (bel.block b hbl), hb j (by omega), hx]
    congr 2
    unfold K.at8
    simp [List.getElem?_take, show j < 32 by omega]
  have hfit : Hid (0 + (K.byC x).length ≤ (bs z32).size) := (by rw [hzs, K.byC_len]; omega : 0 + (K.byC x).length ≤ (bs z32).size)
  have SP : Hid (((bs z32).toList.take 0 ++ (K.byC x ++ (bs z32).toList.drop (0 + (K.byC x).length))).toArray = bs x) := splice_all x ht
  have G0 : Hid ((((w.alloc (.cells (bs z32) 31)).alloc (.cells (bs z32) 31)).setRow (w.heap.size + 1) (bs x)).heap[w.heap.size]? = some (.cells (bs z32) 31 (0, 0))) := by show _ = _; rw [setRow_other _ _ _ _ (by omega)]; exact g0
  have G1 : Hid ((((w.alloc (.cells (bs z32) 31)).alloc (.cells (bs z32) 31)).setRow (w.heap.size + 1) (bs x)).heap[w.heap.size + 1]? = some (.cells (bs x) 31 (0, 0))) := setRow_heap _ _ _ _ _ _ g1
  have BB : Hid (Below w.heap.size w (((w.alloc (.cells (bs z32) 31)).alloc (.cells (bs z32) 31)).setRow (w.heap.size + 1) (bs x))) := bel.trans (below_setRow _ _ _ _ (by omega))
  clear hx hl hb
  go_enter Tryd.func71, Tryd.ntmps71
  go_wp2_with (first
    | (refine wpList_alloc_row rfl 31 rfl (bs z32) (hzH _) ?_)
    | (refine wpList_copy_own rfl (.tmp 4) (.tmp 5) 29 29 rfl 5 Tryd.underlying29 hsz5 (w.heap.size + 1) 0 32 32 ⟨b, off, none⟩ n cap rfl rfl (bs z32) 31 g1 (K.byC x) HL.out hsrc.out hfit.out (K.byC_one _) ?_; rw [SP.out])
    | (refine wpList_load_arr rfl 31 (.tmp 3) rfl (w.heap.size + 1) rfl 31 (bs x) (0, 0) _ G1.out Tryd.underlying31 rfl (by rw [bs_size, ht]; exact hsH) ?_)
    | (refine wpList_store_row rfl 31 (.tmp 2) (.tmp 7) rfl w.heap.size (bs x) rfl rfl 31 (bs z32) G0.out (by rw [bs_size, ht]; exact hsH) (by rw [hzs, bs_size, ht]) (bs_one _) ?_)
    | fail)
  exact bodyPost_ret (resHashOf _ _ w.heap.size 31 x ht (0, 0) rfl (setRow_heap _ _ _ _ _ _ G0.out)) rfl ⟨rfl, BB.out.trans (below_setRow _ _ _ _ (Nat.le_refl _))⟩

variable {T : TypeId} {r cap : Nat} {a : Option Addr} {L : List UInt8} {s : K.St}
set_option maxRecDepth 100000 in
set_option maxHeartbeats 2000000 in
theorem counted32 (most : Nat) (hm : most ≤ 9223372036854775807) (w : World) (h : K.RD w T r a cap L s) (hb : s.bad = 0) (v sz : Nat) (pl : Int) (hN : K.num L s.k = ⟨v, sz, 0, pl⟩) (hv : v ≤ most) (hlen : s.k + sz + v * 32 ≤ L.length) :
    Calls Tryd.prog 61 #[.pointer (some ⟨r, 0, none⟩), .int .i64 (most : Int), .int .i64 32] w fun e w' => e = .returned (.tuple #[.slice (K.from23 a cap (s.k + sz)) (v * 32) (cap - (s.k + sz)), .int .i64 (sz : Int), .bool true]) ∧ K.On w w' T r a cap L s := by
  have HN : Hid (Calls Tryd.prog 59 #[.pointer (some ⟨r, 0, none⟩)] w fun e w' => e = .returned (.tuple #[.int .u64 (v : Int), .int .i64 (sz : Int), .bool true]) ∧ K.On w w' T r a cap L s) := (K.number_any w h hb).mono fun e w' hx => by
    rw [hN, K.St.fl_ok] at hx
    exact hx
  have hf := h.few
  have hr := h.room
  have HL : Hid (∀ wx, K.On w wx T r a cap L s → Calls Tryd.prog 50 #[.pointer (some ⟨r, 0, none⟩)] wx fun e w' => e = .returned (.int .i64 ((L.length : Int) - (s.k : Int))) ∧ ∃ m, w' = wx.drewN m) := fun (wx : World) (hx : K.On w wx T r a cap L s) => K.cleft_any wx hx.1
  have s1 := K.sl_mid a L.length cap (s.k + sz) (s.k + sz + v * 32) ((s.k : Int) + (sz : Int)) ((s.k : Int) + (sz : Int) + (v : Int) * 32) (by omega) (by omega) (by omega) (by omega)
  have s2 := K.sl_mid' a L.length cap (s.k + sz) (s.k + sz + v * 32) ((s.k : Int) + (sz : Int)) ((s.k : Int) + (sz : Int) + (v : Int) * 32) (by omega) (by omega) (by omega) (by omega)
  rw [Nat.add_sub_cancel_left] at s1 s2
  clear h hN
  generalize K.from23 a cap (s.k + sz) = a4 at *
  generalize cap - (s.k + sz) = c4 at *
  obtain ⟨d, hd⟩ : ∃ d, d = (L.length - (s.k + sz)) / 32 := ⟨_, rfl⟩
  have tq : Int.tdiv ((L.length : Int) - (s.k : Int) - (sz : Int)) 32 = (d : Int) := by rw [Int.tdiv_eq_ediv_of_nonneg (by omega)]; omega
  have hvd : v ≤ d := by omega
  have hdL : d ≤ L.length := by omega
  have g3 : ¬ (d : Int) < (v : Int) := by omega
  clear hd
  generalize v * 32 = v32 at *
  have g1 : ¬ (most : Int) < 0 := by omega
  have g2 : ¬ (most : Int) < (v : Int) := by omega
  go_enter Tryd.func61, Tryd.ntmps61
  go_wp2_with fail
  refine HN.out.mono ?_
  rintro e w1 ⟨rfl, ho⟩
  have HON : Hid (K.On w w1 T r a cap L s) := ho
  have c0 := ho.1.c0
  have c1 := ho.1.c1
  clear ho
  go_wp2_with fail
  refine (HL.out w1 HON.out).mono ?_
  rintro e w2 ⟨rfl, m, rfl⟩
  have HON2 : Hid (K.On w (w1.drewN m) T r a cap L s) := HON.out.drew m
  go_wp2
  try (go_quiet (fail); go_wp2)
  go_ret3
  exact ⟨rfl, HON2.out⟩
end Go.Proofs.YtbpmpcmmdiaiiaaDoor

namespace Go.Proofs.YtbpmpcmmdiaiiaaDoor
open Go.RowKit
set_option linter.unusedVariables false
set_option linter.unusedSimpArgs false

variable {T : TypeId} {r cap : Nat} {a : Option Addr}
theorem drop_past (A B : List UInt8) (k : Nat) : (A ++ B).drop (A.length + k) = B.drop k := by
  rw [← List.drop_drop, List.drop_left]
/-- What stands in the k-th place of a list of hashes. -/
theorem cat_drop {D : List (List UInt8)} (hD : All32 D) (k : Nat) (x : List UInt8) (h : D[k]? = some x) : ((cat D).drop (k * 32)).take 32 = x := by
  induction D generalizing k with
  | nil => simp at h
  | cons y t ih =>
    have hy := hD y (by simp)
    cases k with
    | zero =>
      simp at h
      subst h
      simp [cat, List.take_append, hy]
    | succ k =>
      have := ih (fun z hz => hD z (List.mem_cons_of_mem _ hz)) k (by simpa using h)
      rw [← this]
      simp only [cat, List.flatten_cons]
      rw [show (k + 1) * 32 = y.length + k * 32 by omega, drop_past]

theorem on_below {w0 wr w2 : World} {B : Nat} {L : List UInt8} {s0 s : K.St} (h0 : K.RD w0 T r a cap L s0) (h : K.On w0 wr T r a cap L s) (hb : Below B wr w2) (hB : w0.heap.size ≤ B) : K.On w0 w2 T r a cap L s := by
  have hr := h0.lt
  have hbyt : K.Byt w2 a L := by
    rcases h0.byt with e | ⟨b, off, rfl, hc⟩
    · exact .inl e
    · rcases h.1.byt with e | ⟨b', off', e, hc'⟩
      · exact .inl e
      · cases e
        refine .inr ⟨b, off, rfl, fun j hj => ?_⟩
        have hlt : b < w0.heap.size := block_lt_of_cell (hc j hj)
        exact (World.cell?_of_block (hb.block b (by omega))).trans (hc' j hj)
  exact ⟨⟨by rw [hb.block r (by omega)]; exact h.1.row, h.1.room, hbyt, h.1.plain, h.1.at_le, h.1.few⟩, ⟨hb.os.trans h.2.os, hb.tape.trans h.2.tape, hb.output.trans h.2.output, Nat.le_trans h.2.size hb.size, fun i hi hne => (hb.block i (by omega)).trans (h.2.block i hi hne)⟩⟩

set_option maxRecDepth 100000 in
set_option maxHeartbeats 2000000 in
theorem rhashes_any (most : Nat) (hm : most ≤ 4398046510976) (D : List (List UInt8)) (hD : All32 D) (hr : SRise D) (hDm : D.length ≤ most) (w : World) (h : K.RD w 92 r a cap (hw D) ⟨0, 0, 0⟩) :
    Calls Tryd.prog 47 #[.pointer (some ⟨r, 0, none⟩), .int .i64 (most : Int)] w fun e w' => ∃ q, e = .returned (.slice (some ⟨q, 0, none⟩) D.length D.length) ∧ w.heap.size ≤ q ∧ q < w'.heap.size ∧ Hs w' q 0 D ∧ w'.there q 0 (32 * D.length) ∧ K.On w w' 92 r a cap (hw D) ⟨(hw D).length, 0, 0⟩ := by
  have HNum : Hid (K.num (hw D) 0 = ⟨D.length, (K.vint D.length).length, 0, (hw D).length⟩) := K.num_front D.length (by omega) (cat D)
  have HLen : Hid ((hw D).length = (K.vint D.length).length + D.length * 32) := (by unfold hw; rw [List.length_append, cat_len hD]; omega : (hw D).length = (K.vint D.length).length + D.length * 32)
  have HB : Hid (∀ k x, D[k]? = some x → (((hw D).drop ((K.vint D.length).length + k * 32)).take 32) = x) := fun k x hx => by
    unfold hw
    rw [drop_past]
    exact cat_drop hD k x hx
  obtain ⟨n, hn⟩ : ∃ n, n = D.length := ⟨_, rfl⟩
  obtain ⟨sz, hsz⟩ : ∃ sz, sz = (K.vint D.length).length := ⟨_, rfl⟩
  rw [← hsz] at HNum HLen HB
  rw [← hn] at HNum HLen hDm ⊢
  have HN : Hid (n = D.length) := hn
  clear hn hsz
  have hfw := h.few
  rw [HLen.out] at hfw
  have HC : Hid (Calls Tryd.prog 61 #[.pointer (some ⟨r, 0, none⟩), .int .i64 (most : Int), .int .i64 32] w fun e w' => e = .returned (.tuple #[.slice (K.from23 a cap sz) (n * 32) (cap - sz), .int .i64 (sz : Int), .bool true]) ∧ K.On w w' 92 r a cap (hw D) ⟨0, 0, 0⟩) := (by
    have := counted32 most (by omega) w h rfl n sz _ HNum.out hDm (by rw [HLen.out]; simp)
    simp only [Nat.zero_add] at this
    exact this)
  have HSt : Hid (Calls Tryd.prog 58 #[.pointer (some ⟨r, 0, none⟩)] w fun e w' => e = .returned (.bool false) ∧ w' = w) := (by
    have := K.stopped_any w h
    rw [show decide ((⟨0, 0, 0⟩ : K.St).bad ≠ 0) = false by simp] at this
    exact this)
  have HR : Hid (K.RD w 92 r a cap (hw D) ⟨0, 0, 0⟩) := h
  clear h
  have hmk := make_hashes n (by omega)
  have tq : Int.tdiv (((n * 32 : Nat) : Int)) 32 = (n : Int) := by rw [Int.tdiv_eq_ediv_of_nonneg (by omega)]; omega
  go_enter Tryd.func47, Tryd.ntmps47
  go_wp2_with fail
  refine HSt.out.mono ?_
  rintro e w0 ⟨rfl, rfl⟩
  go_wp2_with fail
  refine HC.out.mono ?_
  rintro e w1 ⟨rfl, on1⟩
  have HO1 : Hid (K.On w0 w1 92 r a cap (hw D) ⟨0, 0, 0⟩) := on1
  clear on1 HC HSt
  have HLN : Hid (n * 32 = n * 32) := rfl
  obtain ⟨n32, hn32⟩ : ∃ n32, n32 = n * 32 := ⟨_, rfl⟩
  rw [← hn32] at HLen hfw tq ⊢
  have HN32 : Hid (n32 = n * 32) := hn32
  clear hn32 HLN
  have HS0 : Hid (Hs (w1.alloc (.cells (madeCells (bs z32) (n * 32)) 31)) w1.heap.size 0 (part D n 0)) := (by rw [part_zero]; exact hs_made w1 n 31 : Hs (w1.alloc (.cells (madeCells (bs z32) (n * 32)) 31)) w1.heap.size 0 (part D n 0))
  have HT0 : Hid ((w1.alloc (.cells (madeCells (bs z32) (n * 32)) 31)).there w1.heap.size 0 (32 * n)) := there_made w1 n 31
  have HA0 : Hid (K.On w0 (w1.alloc (.cells (madeCells (bs z32) (n * 32)) 31)) 92 r a cap (hw D) ⟨0, 0, 0⟩) := on_below HR.out HO1.out ((Below.refl _ _).alloc (Nat.le_refl _) _) HO1.out.2.size
  have hq0 : w0.heap.size ≤ w1.heap.size := HO1.out.2.size
  go_wp2
  go_loopw [29] (fun i wr => ∃ k : Nat, k ≤ n ∧ i = .int .i64 k ∧ Hid (Hs wr w1.heap.size 0 (part D n k)) ∧ Hid (wr.there w1.heap.size 0 (32 * n)) ∧ Hid (K.On w0 wr 92 r a cap (hw D) ⟨0, 0, 0⟩) ∧ w1.heap.size < wr.heap.size) (fun i _ => n - (intOf i).toNat)
  case atStart => exact ⟨0, by omega, rfl, HS0, HT0, HA0, by simp⟩
  case round =>
    obtain ⟨k, hk, rfl, HSr, HTr, HOr, hqr⟩ := hrel
    by_cases hkn : k < n
    · have h32 := HN32.out
      have hkD : k < D.length := by rw [← HN.out]; exact hkn
      obtain ⟨x, hx⟩ : ∃ x, D[k]? = some x := ⟨_, List.getElem?_eq_getElem hkD⟩
      have hx32 := hD.get hx
      have HCut : Hid ((((hw D).drop (sz + k * 32)).take 32) = x) := HB.out k x hx
      obtain ⟨b, off, rfl, hcell⟩ : ∃ b off, a = some ⟨b, off, none⟩ ∧ ∀ j, j < (hw D).length → wr.cell? ⟨b, off + j, none⟩ = some (.int .u8 (K.at8 (hw D) j)) := by
        rcases HOr.out.1.byt with e | h
        · have := HLen.out; rw [e] at this; simp at this; omega
        · exact h
      have hroom := HOr.out.1.room
      rw [HLen.out] at hroom
      have e1 : K.from23 (K.from23 (some ⟨b, off, none⟩) cap sz) (cap - sz) (k * 32) = some ⟨b, off + sz + k * 32, none⟩ := by
        unfold K.from23
        rw [if_neg (by omega), if_neg (by omega)]
        simp [Addr.add_mid]
      have sl1 := fun wx => K.sl_from (K.from23 (some ⟨b, off, none⟩) cap sz) n32 (cap - sz) (k * 32) ((k : Int) * 32) (by omega) (by omega) wx
      have sl2 := fun wx => K.sl_from' (K.from23 (some ⟨b, off, none⟩) cap sz) n32 (cap - sz) (k * 32) ((k : Int) * 32) (by omega) (by omega) wx
      rw [e1] at sl1 sl2
      have HH : Hid (Calls Tryd.prog 71 #[.slice (some ⟨b, off + sz + k * 32, none⟩) (n32 - k * 32) (cap - sz - k * 32)] wr fun e w' => e = .returned (.agg (bs x)) ∧ Below wr.heap.size wr w') := (by
        have h1 : ((hw D).drop (sz + k * 32)).length = n32 - k * 32 := by rw [List.length_drop, HLen.out]; omega
        have hbl : b < wr.heap.size := block_lt_of_cell (hcell 0 (by rw [HLen.out]; omega))
        have := hashOf_any b (off + sz + k * 32) (n32 - k * 32) (cap - sz - k * 32) ((hw D).drop (sz + k * 32)) wr h1 (by omega) (fun j hj => by
          rw [show off + sz + k * 32 + j = off + (sz + k * 32 + j) by omega, hcell _ (by rw [List.length_drop] at hj; omega)]
          unfold K.at8
          simp) hbl
        rw [HCut.out] at this
        exact this)
      have ix1 := fun wx => indexH w1.heap.size 0 n n k wx hkn
      simp only [Nat.zero_add] at ix1
      clear HCut hcell e1 hroom
      generalize off + sz + k * 32 = off4 at *
      generalize n32 - k * 32 = n4 at *
      generalize cap - sz - k * 32 = cap4 at *
      generalize hq : w1.heap.size = q at *
      have hzr : Hid (w0.heap.size ≤ q) := hq0
      clear h32 hq
      go_wp2_with fail
      refine HH.out.mono ?_
      rintro e w2 ⟨rfl, bl2⟩
      have HT2 : Hid (w2.there q 0 (32 * n)) := there_below HTr.out bl2 hqr
      have HTH : Hid (w2.there q (32 * k) 32) := (by have := there_part (m := 32) (i := 32 * k) HT2.out (by omega); rwa [Nat.zero_add] at this : w2.there q (32 * k) 32)
      have hPL : D.length = n := HN.out.symm
      have HX : Hid (Hs (w2.setCells q (32 * k) (hcs x)) q 0 (part D n (k + 1))) := (by
        have := Hs.set (HSr.out.below bl2 hqr) (all32_part hD _ _) k x hx32 (by rw [part_len _ _ _ (by omega) hPL]; omega) (there_part HT2.out (by omega))
        rw [Nat.zero_add] at this
        rwa [part_set _ _ _ (by omega) hPL x hx] at this : Hs (w2.setCells q (32 * k) (hcs x)) q 0 (part D n (k + 1)))
      have HT3 : Hid ((w2.setCells q (32 * k) (hcs x)).there q 0 (32 * n)) := World.there_setCells HT2.out _ _ _
      have HO3 : Hid (K.On w0 (w2.setCells q (32 * k) (hcs x)) 92 r (some ⟨b, off, none⟩) cap (hw D) ⟨0, 0, 0⟩) := on_below HR.out (on_below HR.out HOr.out bl2 HOr.out.2.size) (below_setCells (Below.refl _ _) (Nat.le_refl q) _ _) hzr.out
      have hq3 : q < (w2.setCells q (32 * k) (hcs x)).heap.size := by rw [size_setCells]; have := bl2.size; omega
      clear hPL bl2 HT2 HSr HTr HOr hqr HH sl1 sl2
      go_wp2_with (first
        | (refine wpList_store_mid rfl 31 _ _ rfl q (32 * k) (bs x) rfl rfl (by rw [bs_size, hx32]; exact HTH.out) (by rw [bs_size, hx32]; exact hsH) (bs_one _) ?_)
        | fail)
      change Code.wp _ _ _ _ (w2.setCells q (32 * k) (hcs x))
      simp only [Act.put]
      generalize w2.setCells q (32 * k) (hcs x) = w3 at *
      clear HTH
      by_cases hk0 : k = 0
      · have gk : decide (0 < k) = false := by simp; omega
        clear hk0
        have hne : Nonempty (ExtT w3) := ExtT.some w3
        refine wp_region_ext (by kernel_rfl) (by kernel_rfl) ?_
        repeat (go_big_quiet_step (fail))
        refine wpQuiet_nil ?_
        rintro w4 ⟨⟨_, bl4⟩, rfl⟩
        have A1 : Hid (Hs w4 q 0 (part D n (k + 1))) := HX.out.below bl4 hq3
        have A2 : Hid (w4.there q 0 (32 * n)) := there_below HT3.out bl4 hq3
        have A3 : Hid (K.On w0 w4 92 r (some ⟨b, off, none⟩) cap (hw D) ⟨0, 0, 0⟩) := on_below HR.out HO3.out bl4 HO3.out.2.size
        have A4 : q < w4.heap.size := by have := bl4.size; omega
        clear bl4 hne HX HT3 HO3 hq3 gk
        go_wp2
        exact ⟨⟨k + 1, by omega, by go_num, A1, A2, A3, A4⟩, by simp [intOf]; omega⟩
      · obtain ⟨p, hp⟩ : ∃ p, D[k - 1]? = some p := ⟨_, List.getElem?_eq_getElem (by omega)⟩
        have hp32 := hD.get hp
        have hcl : cmpL p x < 0 := hr (k - 1) k p x hp hx (by omega)
        have HCm : Hid (∀ wx, Calls Tryd.prog 69 #[.agg (bs p), .agg (bs x)] wx fun e w' => e = .returned (.int .i64 (cmpL p x)) ∧ Below wx.heap.size wx w') := fun wx => cmp_any p x hp32 hx32 wx
        have hpt : ∀ i y, i < k + 1 → D[i]? = some y → (part D n (k + 1))[i]? = some y := fun i y hi hy => by
          unfold part
          rw [List.getElem?_append_left (by rw [List.length_take]; have := (List.getElem?_eq_some_iff.1 hy).1; omega), List.getElem?_take, if_pos hi]
          exact hy
        have S1 : Hid (w3.rangeAt q (32 * (k - 1)) (hcs p)) := (by have := HX.out (k - 1) p (hpt _ _ (by omega) hp); rwa [Nat.zero_add] at this : w3.rangeAt q (32 * (k - 1)) (hcs p))
        have S2 : Hid (w3.rangeAt q (32 * k) (hcs x)) := (by have := HX.out k x (hpt _ _ (by omega) hx); rwa [Nat.zero_add] at this : w3.rangeAt q (32 * k) (hcs x))
        have ix2 : ∀ wx, (Instr.indexAt 32 (.slice (some ⟨q, 0, none⟩) n n) (.int .i64 ((k : Int) - 1))).run Tryd.prog wx = .ok (.pointer (some ⟨q, 32 * (k - 1), none⟩)) wx := fun wx => (by
          have := indexH q 0 n n (k - 1) wx (by omega)
          rwa [Nat.zero_add, show ((k - 1 : Nat) : Int) = (k : Int) - 1 by omega] at this)
        have wk : IntKind.i64.wrap ((k : Int) - 1) = (k : Int) - 1 := by simp only [IntKind.wrap, IntKind.bits, IntKind.signed]; simp; omega
        have wk2 : wrap64 ((k : Int) - 1) = (k : Int) - 1 := (by unfold wrap64; omega)
        generalize cmpL p x = c at *
        have gc : ¬ (0 : Int) ≤ c := by omega
        have gk : 0 < k := by omega
        clear hpt hx hp hcl hk0
        have hne : Nonempty (ExtT w3) := ExtT.some w3
        refine wp_region_ext (by kernel_rfl) (by kernel_rfl) ?_
        repeat (first
          | (go_big_quiet_want; refine quiet_load_mid 31 _ rfl q (32 * (k - 1)) rfl (bs p) _ (by rintro _ ⟨e, rfl⟩; exact e.range S1.out (hcs_pos hp32)) Tryd.underlying31 rfl (sizeH hp32) ?_; simp only [Act.put, List.setIfInBounds_toArray, List.set_cons_zero, List.set_cons_succ]; go_big_quiet_on)
          | (go_big_quiet_want; refine quiet_load_mid 31 _ rfl q (32 * k) rfl (bs x) _ (by rintro _ ⟨e, rfl⟩; exact e.range S2.out (hcs_pos hx32)) Tryd.underlying31 rfl (sizeH hx32) ?_; simp only [Act.put, List.setIfInBounds_toArray, List.set_cons_zero, List.set_cons_succ]; go_big_quiet_on)
          | go_big_quiet_step (first | (go_at_call 69; exact ext_of (HCm.out _)) | fail))
        refine wpQuiet_nil ?_
        rintro w4 ⟨⟨_, bl4⟩, rfl⟩
        have A1 : Hid (Hs w4 q 0 (part D n (k + 1))) := HX.out.below bl4 hq3
        have A2 : Hid (w4.there q 0 (32 * n)) := there_below HT3.out bl4 hq3
        have A3 : Hid (K.On w0 w4 92 r (some ⟨b, off, none⟩) cap (hw D) ⟨0, 0, 0⟩) := on_below HR.out HO3.out bl4 HO3.out.2.size
        have A4 : q < w4.heap.size := by have := bl4.size; omega
        clear bl4 hne HX HT3 HO3 hq3 wk wk2 S1 S2 HCm ix2
        go_wp2
        exact ⟨⟨k + 1, by omega, by go_num, A1, A2, A3, A4⟩, by simp [intOf]; omega⟩
    · obtain rfl : k = n := by omega
      have c1 := HOr.out.1.c1
      have fz := HOr.out.1.fz 1
      have hfew : (sz + n32 : Nat) ≤ 140737488351232 := hfw
      have HE : Hid (Hs wr w1.heap.size 0 D) := (by have := HSr.out; rwa [part_all D k HN.out.symm] at this : Hs wr w1.heap.size 0 D)
      have HO9 : Hid (K.On w0 (wr.setCell ⟨r, 1, none⟩ (.int .i64 ((sz : Int) + (n32 : Int)))) 92 r a cap (hw D) ⟨(hw D).length, 0, 0⟩) := HOr.out.set1 (hw D).length _ (by rw [HLen.out]; omega) (Nat.le_refl _)
      have hrq : r ≠ w1.heap.size := by have := HR.out.lt; omega
      have HE9 : Hid (Hs (wr.setCell ⟨r, 1, none⟩ (.int .i64 ((sz : Int) + (n32 : Int)))) w1.heap.size 0 D) := fun i x e j v hv => (World.cell?_setCell_far wr ⟨r, 1, none⟩ _ _ hrq).trans (HE.out i x e j v hv)
      have HT9 : Hid ((wr.setCell ⟨r, 1, none⟩ (.int .i64 ((sz : Int) + (n32 : Int)))).there w1.heap.size 0 (32 * k)) := fun j hj => by
        have := HTr.out j hj
        exact ⟨by rw [World.cell?_setCell_far wr ⟨r, 1, none⟩ _ _ hrq]; exact this.1, by rw [World.frozen?_setCell]; exact this.2⟩
      have hz9 : w1.heap.size < (wr.setCell ⟨r, 1, none⟩ (.int .i64 ((sz : Int) + (n32 : Int)))).heap.size := by rw [World.size_setCell]; exact hqr
      clear HE HTr HSr HOr
      go_wp2
      go_ret
      exact ⟨_, rfl, hq0, hz9, HE9.out, HT9.out, HO9.out⟩
end Go.Proofs.YtbpmpcmmdiaiiaaDoor

