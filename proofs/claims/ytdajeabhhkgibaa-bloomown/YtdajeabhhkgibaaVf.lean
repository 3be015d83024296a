import Derived.Test.YtdajeabhhkgibaaVe
import Derived.Test.YtdajeabhhkgibaaMa
import Derived.DeepKeys3
import Derived.Laws.Tables
namespace Go.Proofs.Ytdajeabhhkgibaa
open Go.RowKit
set_option linter.unusedVariables false
set_option linter.unusedSimpArgs false

theorem same_bits : ∀ (l : List Value), (∀ v ∈ l, ∃ q n, v = .int q n) → ((l.zip l).all fun x => Instr.sameBits 9999 x.1 x.2) = true := by
  intro l hl
  rw [List.all_eq_true]
  intro x hx
  obtain ⟨i, hi⟩ := List.getElem?_of_mem hx
  rw [List.getElem?_zip_eq_some] at hi
  have e : x.1 = x.2 := Option.some.inj (hi.1.symm.trans hi.2)
  obtain ⟨q, n, hv⟩ := hl x.1 (List.mem_of_getElem? hi.1)
  rw [← e, hv]
  simp [Instr.sameBits]
theorem hcs_int (h : List UInt8) : ∀ v ∈ hcs h, ∃ n : Nat, n < 256 ∧ v = .int .u8 (n : Int) := by
  intro v hv
  simp only [hcs, bs, List.mem_map, List.mem_toArray, Array.mem_toList_iff] at hv
  obtain ⟨b, _, rfl⟩ := hv
  exact ⟨b.toNat, b.toNat_lt, rfl⟩
theorem mapM_some {α β : Type} (f : α → Option β) : ∀ (l : List α), (∀ x ∈ l, ∃ y, f x = some y) → ∃ ys, l.mapM f = some ys
  | [], _ => ⟨[], rfl⟩
  | a :: l, h => by
    obtain ⟨y, hy⟩ := h a (by simp)
    obtain ⟨ys, hys⟩ := mapM_some f l (fun x hx => h x (List.mem_cons_of_mem _ hx))
    exact ⟨y :: ys, by simp [List.mapM_cons, hy, hys]⟩
theorem hash_lits (D : Nat) (h : List UInt8) (hl : h.length = 32) : ∃ la, Try.prog.keyLits (D + 2) 30 (hcs h) = some la := by
  have hc : Try.prog.cellsOf 30 = 32 := by kernel_rfl
  have hc5 : Try.prog.cellsOf 5 = 1 := by kernel_rfl
  unfold Program.keyLits
  simp only [Try.underlying30]
  rw [if_pos (by rw [hcs_len, hl, hc])]
  obtain ⟨ys, hys⟩ := mapM_some (fun i => Try.prog.keyLits (D + 1) 5 (((hcs h).drop (i * Try.prog.cellsOf 5)).take (Try.prog.cellsOf 5))) (List.range 32) (fun i hi => by
    have hi' := List.mem_range.1 hi
    have hlen : i < (hcs h).length := by rw [hcs_len, hl]; exact hi'
    rw [hc5, Nat.mul_one, List.drop_eq_getElem_cons hlen, List.take_succ_cons, List.take_zero]
    obtain ⟨n, hn, e⟩ := hcs_int h _ (List.getElem_mem hlen)
    rw [e]
    unfold Program.keyLits
    simp only [Try.underlying5]
    rw [if_pos (by simp [Lit.wf, IntKind.min, IntKind.max, IntKind.bits, IntKind.signed]; omega)]
    exact ⟨_, rfl⟩)
  rw [hys]
  exact ⟨_, rfl⟩
def hV (h : List UInt8) : Value := .agg (bs h)
theorem hash_chk (b : Bool) (h : List UInt8) (w : World) (hl : h.length = 32) : (Instr.checkKey b 10000 30 (hV h)).run Try.prog w = .ok () w := by
  obtain ⟨la, e⟩ := hash_lits 0 h hl
  have hf : (hV h).formed Try.prog 30 = true := by
    unfold hV Value.formed
    simp only [Try.underlying30]
    rw [bs_size, hl]
    kernel_rfl
  exact run_checkKey_deep b 9990 10 30 (by kernel_rfl) w 2 (hV h) la hf (by simpa [hV, Value.cells, hcs] using e)
theorem hash_eq (d : Nat) (a b : List UInt8) (ha : a.length = 32) (hb : b.length = 32) (w : World) : (Op.equalIn (d + 2) 30 (hV a) (hV b)).run Try.prog w = .ok (decide (a = b)) w := by
  obtain ⟨i, hi⟩ : ∃ i, Try.prog.info? 5 = some i := by
    cases h : Try.prog.info? 5 with
    | none => have : (Try.prog.info? 5).isSome = true := by kernel_rfl
              rw [h] at this; cases this
    | some i => exact ⟨i, rfl⟩
  exact eq_bytes d Try.underlying30 hi (by kernel_rfl) Try.underlying5 a b ha hb w
theorem hash_bits (h : List UInt8) : Instr.sameBits 10000 (hV h) (hV h) = true := by
  unfold hV
  rw [Instr.sameBits]
  simp only [BEq.rfl, Bool.true_and]
  exact same_bits _ (fun v hv => by
    obtain ⟨n, _, e⟩ := hcs_int h v (by simpa [hcs] using hv)
    exact ⟨_, _, e⟩)
theorem hashKey : M.KeyOk Try.prog 30 hV (fun h => h.length = 32) :=
  ⟨fun b k w hk => hash_chk b k w hk, fun a b w ha hb => hash_eq 9998 a b ha hb w, ⟨_, Try.underlying30, fun a b => rfl⟩, hash_bits⟩
/-- A hash into a box of its own. -/
theorem at_al {P : Program} {ops : Array Oper} {R : List Oper} {a : Act} {w : World} {Q : Exit → Act → World → Prop} {d : Option Tmp} {ty : TypeId} {pos : String} {af : _} {g : _}
    (h : wpList P ops Q (⟨d, .alloc 30, ty, pos, af, g⟩ :: R) a w) : wpList P ops Q (⟨d, .alloc 30, ty, pos, af, g⟩ :: R) a w := h
theorem wpList_boxH {ops : Array Oper} {rest R : List Oper} {o1 o2 : Oper} {a : Act} {w : World} {Q : Exit → Act → World → Prop} (y : Operand) (d : Nat) (ho1 : o1.op = .alloc 30) (hd : o1.dst = some d) (hR : R = o2 :: rest) (hg1 : o1.guard = none) (hg2 : o2.guard = none) (hd2 : o2.dst = none)
    (ho2 : o2.op = .store 30 (.tmp d) y) (h : List UInt8) (hl : h.length = 32) (he : (a.put (some d) (.pointer (some ⟨w.heap.size, 0, none⟩))).eval (.tmp d) = .pointer (some ⟨w.heap.size, 0, none⟩)) (hy : (a.put (some d) (.pointer (some ⟨w.heap.size, 0, none⟩))).eval y = .agg (bs h))
    (hK : wpList Try.prog ops Q rest (a.put (some d) (.pointer (some ⟨w.heap.size, 0, none⟩))) (w.alloc (.cells (bs h) 30))) : wpList Try.prog ops Q (o1 :: R) a w := by
  subst hR
  refine wpList_alloc_row hg1 30 ho1 (bs z32) (hzH w) ?_
  rw [hd]
  refine wpList_store_row hg2 30 (.tmp d) y ho2 w.heap.size (bs h) he hy 30 (bs z32) (heap_alloc_new _ _) (by rw [bs_size, hl]; exact hsH) (by rw [bs_size, bs_size, hl, z32_len]) (bs_one h) ?_
  rw [World.setRow_alloc_new, hd2]
  exact hK
def uMap (L : List (List UInt8)) : List (List UInt8 × Value) := L.foldl (fun E h => M.put E h (.agg #[])) []
theorem uMap_snoc (L : List (List UInt8)) (h : List UInt8) : uMap (L ++ [h]) = M.put (uMap L) h (.agg #[]) := by simp [uMap]
theorem make_map (t : TypeId) {kt et : TypeId} (ht : Try.prog.underlying t = some (.map kt et)) (n : Int) (w : World) : (Instr.makeMap t (some (.int .i64 n))).run Try.prog w = .ok (.map (some w.heap.size)) (w.alloc (.map #[] 0)) := by
  simp [Instr.makeMap, run_underlying ht, asInt, newObj]
  rfl
theorem uMap_len (L : List (List UInt8)) : (uMap L).length ≤ L.length := by
  unfold uMap
  suffices h : ∀ (L : List (List UInt8)) (E : List (List UInt8 × Value)), (L.foldl (fun E h => M.put E h (.agg #[])) E).length ≤ E.length + L.length by simpa using h L []
  intro L
  induction L with
  | nil => intro E; simp
  | cons h L ih =>
    intro E
    have h1 := ih (M.put E h (.agg #[]))
    have h2 := M.put_len E h (.agg #[])
    simp only [List.foldl_cons, List.length_cons]
    split at h2 <;> omega
theorem put_run (b : Nat) {w : World} {E : List (List UInt8 × Value)} (h : M.MapAt w b hV (fun h => h.length = 32) E) (k : List UInt8) (hk : k.length = 32) (v : Value) : ∃ o, (Instr.mapUpdate 125 (.map (some b)) (.agg (bs k)) v).run Try.prog w = .ok () (M.setM w b o) ∧ M.MapAt (M.setM w b o) b hV (fun h => h.length = 32) (M.put E k v) :=
  M.run_put hashKey Try.underlying125 h k hk v
set_option maxRecDepth 100000 in
set_option maxHeartbeats 4000000 in
theorem unlike_any (a : Option Addr) (L : List (List UInt8)) (c : Nat) (w : World) (hL : All32 L) (hn : L.length ≤ 4398046511104) (hl : Hl w a L) :
    Calls Try.prog 39 #[.slice a L.length c] w fun e w' => e = .returned (.int .i64 ((uMap L).length : Int)) ∧ Below w.heap.size w w' := by
  have mk := fun (n : Int) (w : World) => make_map 125 Try.underlying125 n w
  have H0 : Hid (M.MapAt (w.alloc (.map #[] 0)) w.heap.size hV (fun h => h.length = 32) (uMap (L.take 0))) := by show M.MapAt _ _ _ _ _; rw [List.take_zero]; exact M.MapAt.new w _ _
  have HB0 : Hid (Below w.heap.size w (w.alloc (.map #[] 0))) := (Below.refl _ _).alloc (Nat.le_refl _) _
  have HLL := Hid.mk' (fun wx (h : Below w.heap.size w wx) => hl.below hL h)
  have HAL := Hid.mk' hL
  clear hl hL
  generalize hnn : L.length = n at *
  have HNN := Hid.mk' hnn
  clear hnn
  generalize hb : w.heap.size = B at *
  have HBB := Hid.mk' hb
  go_enter Try.func39, Try.ntmps39
  go_wp2
  clear hb mk
  go_loopw [11] (fun i wr => ∃ k : Nat, k ≤ n ∧ i = .int .i64 (k : Int) ∧ Hid (M.MapAt wr B hV (fun h => h.length = 32) (uMap (L.take k))) ∧ Hid (Below B w wr)) (fun i _ => n - (intOf i).toNat)
  case atStart => exact ⟨0, by omega, rfl, H0, HB0⟩
  case round =>
    obtain ⟨k, hk, rfl, HM, HW⟩ := hrel
    clear H0 HB0
    by_cases hkn : k < n
    · have hkn' : (k : Int) < (n : Int) := by omega
      obtain ⟨b, off, rfl, hs⟩ := (HLL.out wr (by first | exact HW.out | (rw [HBB.out]; exact HW.out))).at (i := k) (by rw [HNN.out]; exact hkn)
      obtain ⟨h, hh⟩ : ∃ h, L[k]? = some h := ⟨L[k]'(by rw [HNN.out]; exact hkn), List.getElem?_eq_getElem _⟩
      have hr := hs k h hh
      have h32 := HAL.out.get hh
      have ix := fun wx => indexH b off n c k wx hkn
      have HS : Hid (uMap (L.take (k + 1)) = M.put (uMap (L.take k)) h (.agg #[])) := by show _ = _; rw [List.take_add_one, hh, Option.toList, uMap_snoc]
      have HRA := Hid.mk' hr
      have HH := Hid.mk' h32
      clear hs hr hh HLL HAL
      have hM2 : M.MapAt (wr.alloc (.cells (bs h) 30)) B hV (fun h => h.length = 32) (uMap (L.take k)) := HM.out.below (Below.heap_alloc _ _ _ HM.out.lt)
      have HX : Hid ((wr.alloc (.cells (bs h) 30)).rangeAt wr.heap.size 0 (hcs h)) := range_box wr h 30
      obtain ⟨o, hrun, hM3⟩ := put_run B hM2 h h32 (.agg #[])
      have HM3 : Hid (M.MapAt (M.setM (wr.alloc (.cells (bs h) 30)) B o) B hV (fun h => h.length = 32) (uMap (L.take (k + 1)))) := by rw [HS.out]; exact hM3
      have HB3 : Hid (Below B w (M.setM (wr.alloc (.cells (bs h) 30)) B o)) := M.setM_below o (HW.out.alloc (by have := HW.out.size; rw [HBB.out] at this; exact this) _) (Nat.le_refl _)
      clear hM2 hM3 HS HM h32
      go_wp2_with (first
        | (with_reducible refine at_ld ?_; refine wpList_ld (.tmp 13) rfl rfl b (off + 32 * k) rfl h HH.out HRA.out ?_)
        | (with_reducible refine at_al ?_; refine wpList_boxH (.tmp 14) 5 rfl rfl rfl rfl rfl rfl rfl h HH.out rfl rfl ?_)
        | (with_reducible refine at_ld ?_; refine wpList_ld (.tmp 5) rfl rfl wr.heap.size 0 rfl h HH.out HX.out ?_)
        | fail)
      exact ⟨⟨k + 1, by omega, by go_num, HM3, HB3⟩, by simp [intOf]; omega⟩
    · obtain rfl : k = n := by omega
      have hkn' : ¬ (k : Int) < (k : Int) := by omega
      have HL2 : Hid (uMap (L.take k) = uMap L) := by show _ = _; rw [← HNN.out, List.take_length]
      have ml := fun ty => M.run_mlen (ty := ty) Try.underlying125 HM.out
      rw [HL2.out] at ml
      have hle := uMap_len L
      rw [HNN.out] at hle
      obtain ⟨U, hU⟩ : ∃ U, (uMap L).length = U := ⟨_, rfl⟩
      rw [hU] at ml hle
      have HU := Hid.mk' hU
      clear hU
      go_wp2
      go_ret
      exact ⟨by rw [HU.out]; rfl, HW.out⟩
end Go.Proofs.Ytdajeabhhkgibaa
