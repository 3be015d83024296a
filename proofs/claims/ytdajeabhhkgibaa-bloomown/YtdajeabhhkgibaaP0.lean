import Derived.Test.YtdajeabhhkgibaaYg0
import Derived.Test.YtdajeabhhkgibaaVi
import Derived.WalkKit
import Derived.ProofKit
import Derived.OpenShut
import Derived.Test.YtdajeabhhkgibaaRows
import Derived.WalkSpells
import Derived.WalkLawsBesides
import Derived.Maps.AppendAt
import Derived.Laws.OwnMore
import Derived.Below
import Derived.OwnWalk
import Derived.Deep.MidRow
import Derived.Test.YtdajeabhhkgibaaVa
import Derived.Test.YtdajeabhhkgibaaYd
import Derived.Test.YtdajeabhhkgibaaKWb
import Derived.Test.YtdajeabhhkgibaaKWd
import Derived.Test.YtdajeabhhkgibaaKKs
import Derived.Test.YtdajeabhhkgibaaVw
import Derived.Test.YtdajeabhhkgibaaYe
namespace Go.Proofs.Ytdajeabhhkgibaa
open Go.RowKit
set_option linter.unusedVariables false
set_option linter.unusedSimpArgs false

set_option maxRecDepth 100000 in
set_option maxHeartbeats 4000000 in
theorem back_all (a1 a2 : Option Addr) (L : List (List UInt8)) (B h : List UInt8) (c1 c2 : Nat) (w : World) (hL : All32 L) (hn : L.length ≤ 4398046511104) (hl1 : Hl w a1 L) (hB : B.length ≤ 140737488351232) (ha : a2 = none → c2 = 0) (hb : K.Byt w a2 B) (hh : h.length = 32) :
    Calls Try.prog 6 #[.slice a1 L.length c1, .slice a2 B.length c2, .agg (bs h)] w fun e w' => e = .returned (.bool true) ∧ Below w.heap.size w w' := by
  have hb0 := ofB_pos (uMap L).length
  have hb1 := ofB_le (uMap L).length
  have hob := okB_ofB (uMap L).length
  have HOF : Hid (∀ W, Below w.heap.size w W → Calls Try.prog 9 #[.slice a1 L.length c1] W (OfPost W.heap.size (ofB (uMap L).length) (addL _ hb0 7 (fun _ => 0) L) W)) := fun W hb => of_any a1 L c1 W hL hn (hl1.below hL hb)
  have HLT : Hid (∀ i, addL (ofB (uMap L).length) hb0 7 (fun _ => 0) L i < 18446744073709551616) := addL_lt hb0 7 (fun i => by omega) L
  have HWI : Hid (Within (addL (ofB (uMap L).length) hb0 7 (fun _ => 0) L) (ofB (uMap L).length)) := within_addL hb0 7 (within_zero _) L
  generalize addL (ofB (uMap L).length) hb0 7 (fun _ => 0) L = ws at *
  generalize ofB (uMap L).length = bits at *
  have hob' := of_decide_eq_true hob
  have HEN : Hid (∀ W q g N, FAt N W q g bits 7 ws → Calls Try.prog 34 #[.pointer (some ⟨q, 0, none⟩)] W (EnPost (encF bits 7 ws) W)) := fun W q g N f => enc_post q g bits 7 ws W f.fw HLT.out hob'.1 hb1 (by omega)
  have HDB : Hid (∀ W pb pc, K.Byt W (some ⟨pb, 0, none⟩) (encF bits 7 ws) → Calls Try.prog 29 #[.slice (some ⟨pb, 0, none⟩) (encF bits 7 ws).length pc] W (OkPost bits 7 ws W)) := fun W pb pc hy => dec_back pb pc bits 7 ws W hy hob (by omega) HWI.out HLT.out
  have HSM : Hid (∀ W b c pb pc, K.Byt W (some ⟨b, 0, none⟩) (encF bits 7 ws) → K.Byt W (some ⟨pb, 0, none⟩) (encF bits 7 ws) → Calls Try.prog 35 #[.slice (some ⟨b, 0, none⟩) (encF bits 7 ws).length c, .slice (some ⟨pb, 0, none⟩) (encF bits 7 ws).length pc] W fun e w' => e = .returned (.bool true) ∧ Below W.heap.size W w') := fun W b c pb pc y1 y2 => same_post _ _ _ c pc W y1 y2 (encF_len bits 7 ws hb1)
  have HBI : Hid (∀ W q g N, FAt N W q g bits 7 ws → Calls Try.prog 32 #[.pointer (some ⟨q, 0, none⟩)] W fun e w' => e = .returned (.int .i64 (bits : Int)) ∧ Below W.heap.size W w') := fun W q g N f => (bits_any q g bits 7 W f.fw.fc).mono (by
    rintro e w' ⟨rfl, rfl⟩
    exact ⟨rfl, Below.refl _ _⟩)
  have HHA : Hid (∀ W q g N, FAt N W q g bits 7 ws → Calls Try.prog 22 #[.pointer (some ⟨q, 0, none⟩), .agg (bs h)] W fun e w' => e = .returned (.bool (allBits ws (spotL h bits hb0 7))) ∧ Below W.heap.size W w') := fun W q g N f => hasF_any q g bits 7 ws h W hh hb0 hb1 (by omega) f.fw HLT.out
  have HSP : Hid (∀ W q g N, FAt N W q g bits 7 ws → Calls Try.prog 25 #[.pointer (some ⟨q, 0, none⟩), .agg (bs h)] W fun e w' => ∃ s c, e = .returned (.slice s 7 c) ∧ RowOn w' s ((spotL h bits hb0 7).map spV) ∧ Below W.heap.size W w') := fun W q g N f => spotsF_any q g bits 7 ws h W hh hb0 hb1 (by omega) f.fw
  have HSI : Hid (∀ W s1 c1 s2 c2, RowOn W s1 ((spotL h bits hb0 7).map spV) → RowOn W s2 ((spotL h bits hb0 7).map spV) → Calls Try.prog 24 #[.slice s1 7 c1, .slice s2 7 c2] W fun e w' => e = .returned (.bool true) ∧ Below W.heap.size W w') := fun W s1 c1 s2 c2 r1 r2 => sameI_any s1 s2 7 c1 c2 (spI (spotL h bits hb0 7)) W (by omega) (row_ints r1 (spotL_len _ _ _ _)) (row_ints r2 (spotL_len _ _ _ _))
  have HTK : Hid (K.doneE B (d4 B) = 0 → ∀ W, Below w.heap.size w W → Calls Try.prog 29 #[.slice a2 B.length c2] W (TkPost B W)) := fun hE W be => dec_take a2 c2 B W hB ha (K.byt_below hb be) hE
  have HNO : Hid (¬ K.doneE B (d4 B) = 0 → ∀ W, Below w.heap.size w W → Calls Try.prog 29 #[.slice a2 B.length c2] W fun e w' => e = .returned (.tuple #[.pointer none, .int .i64 (K.doneE B (d4 B)), .int .i64 (K.doneP B (d4 B))]) ∧ Below W.heap.size W w') := fun hE W be => dec_no a2 c2 B W hB ha (K.byt_below hb be) hE
  generalize K.doneE B (d4 B) = dE at *
  generalize K.doneP B (d4 B) = dP at *
  have HSB : Hid (∀ W b c, Below w.heap.size w W → K.Byt W (some ⟨b, 0, none⟩) B → Calls Try.prog 35 #[.slice (some ⟨b, 0, none⟩) B.length c, .slice a2 B.length c2] W fun e w' => e = .returned (.bool true) ∧ Below W.heap.size W w') := fun W b c be y => (K.same_any _ a2 B B.length c c2 W rfl y (K.byt_below hb be) (by omega)).mono (by
    rintro e w' ⟨rfl, m, rfl⟩
    exact ⟨rfl, K.below_drewN (Below.refl _ _) m⟩)
  generalize allBits ws (spotL h bits hb0 7) = z at *
  generalize (spotL h bits hb0 7).map spV = lS at *
  generalize encF bits 7 ws = EN at *
  have B0 : Hid (Below w.heap.size w (w.alloc (.cells (bs h) 30))) := (Below.refl _ _).alloc (Nat.le_refl _) _
  have R0 : Hid ((w.alloc (.cells (bs h) 30)).rangeAt w.heap.size 0 (hcs h)) := range_box w h 30
  have Z0 : Hid ((w.alloc (.cells (bs h) 30)).heap.size = w.heap.size + 1) := World.size_alloc _ _
  have HH := Hid.mk' hh
  clear hl1 hL hb ha hob hob' HLT HWI hh
  generalize L.length = n at *
  go_enter Try.func6, Try.ntmps6
  go_upto_region 4 with (first
    | (go_at_call 9; refine (HOF.out _ B0.out).mono ?_; clear HOF; rintro e W1 ⟨qf, gf, rfl, f1, b1⟩; have F1 := Hid.mk' f1; have B1 := Hid.mk' (B0.out.trans (b1.mono B0.out.size)); have BA1 := Hid.mk' b1; clear f1 b1; have C34 := Hid.mk' (HEN.out _ _ _ _ F1.out))
    | (go_at_call 34; refine C34.out.mono ?_; clear C34; rintro e W2 ⟨pb, pc, rfl, y2, b2⟩; have Y2 := Hid.mk' y2; have F2 := Hid.mk' (F1.out.below b2); have B2 := Hid.mk' (B1.out.trans (b2.mono B1.out.size)); have BA2 := Hid.mk' (BA1.out.trans (b2.mono BA1.out.size)); clear y2 b2 F1 B1 BA1; have C29 := Hid.mk' (HDB.out _ pb pc (Y2.out _ (Below.refl _ _))))
    | (go_at_call 29; refine C29.out.mono ?_; clear C29; rintro e W3 ⟨qg, gg, rfl, f3, b3⟩; have G3 := Hid.mk' f3; have F3 := Hid.mk' (F2.out.below b3); have B3 := Hid.mk' (B2.out.trans (b3.mono B2.out.size)); have BA3 := Hid.mk' (BA2.out.trans (b3.mono BA2.out.size)); have Y3 := Hid.mk' (fun W (hW : Below W3.heap.size W3 W) => Y2.out W (b3.trans (hW.mono b3.size))); clear f3 b3 F2 B2 BA2 Y2)
    | fail)
  have HLD : Hid (∀ W, Below W3.heap.size W3 W → (Instr.loadAt 30 (.pointer (some ⟨w.heap.size, 0, none⟩))).run Try.prog W = .ok (.agg (bs h)) W) := fun W hb => load30 W _ h HH.out (rangeAt_below R0.out (BA3.out.trans (hb.mono BA3.out.size)) (by rw [Z0.out]; omega))
  refine back4 W3.heap.size W3 qf qg pb pc EN.length w.heap.size 7 (bits : Int) z h lS (fun W b => ∀ W2, Below W.heap.size W W2 → K.Byt W2 (some ⟨b, 0, none⟩) EN) _ W3 _ rfl rfl rfl rfl rfl rfl rfl (Below.refl _ _).drew HLD.out
    (fun W hb => HEN.out W qg gg _ (G3.out.below hb)) (fun W b c hb y => HSM.out W b c pb pc (y W (Below.refl _ _)) (Y3.out W hb)) (fun W hb => HBI.out W qg gg _ (G3.out.below hb)) (fun W hb => HBI.out W qf gf _ (F3.out.below hb)) (fun W hb => HHA.out W qg gg _ (G3.out.below hb)) (fun W hb => HHA.out W qf gf _ (F3.out.below hb))
    (fun W hb => HSP.out W qg gg _ (G3.out.below hb)) (fun W hb => HSP.out W qf gf _ (F3.out.below hb)) (fun W s1 c1 s2 c2 hb r1 r2 => HSI.out W s1 c1 s2 c2 r1 r2) (fun W hb => hb.size) ?_
  intro b4 c4 s1 cc1 s2 cc2 a' W5 b5 hact
  subst hact
  have T5 : Hid (Below w.heap.size w W5) := B3.out.trans (b5.mono B3.out.size)
  clear b5 B3 BA3 F3 G3 Y3 HEN HSM HBI HHA HSP HSI HLD R0 B0 Z0 HDB
  simp only [Act.put, List.setIfInBounds_toArray, List.set_cons_zero, List.set_cons_succ]
  by_cases hE : dE = 0
  · have CT := Hid.mk' (HTK.out hE _ T5.out)
    clear HTK HNO hE
    go_wp2_with (first
      | (go_at_call 29; refine CT.out.mono ?_; clear CT; rintro e W6 ⟨qk, rfl, b6, c6⟩; have T6 := Hid.mk' (T5.out.trans (b6.mono T5.out.size)); have C6 := Hid.mk' c6; clear b6 c6)
      | (go_at_call 34; refine C6.out.mono ?_; clear C6; rintro e W7 ⟨b7, c7, rfl, y7, l7⟩; have T7 := Hid.mk' (T6.out.trans (l7.mono T6.out.size)); have C7 := Hid.mk' (HSB.out _ b7 c7 T7.out (y7 _ (Below.refl _ _))); clear y7 l7)
      | (go_at_call 35; refine C7.out.mono ?_; clear C7; rintro e W8 ⟨rfl, l8⟩; have T8 := Hid.mk' (T7.out.trans (l8.mono T7.out.size)); clear l8)
      | fail)
    go_ret
    exact ⟨rfl, T8.out⟩
  · have hE' : (dE == 0) = false := by simp [hE]
    have CT := Hid.mk' (HNO.out hE _ T5.out)
    clear HTK HNO
    go_wp2_with (first
      | (go_at_call 29; refine CT.out.mono ?_; clear CT; rintro e W6 ⟨rfl, b6⟩; have T6 := Hid.mk' (T5.out.trans (b6.mono T5.out.size)); clear b6)
      | fail)
    go_ret
    exact ⟨rfl, T6.out⟩
end Go.Proofs.Ytdajeabhhkgibaa

namespace Go.Proofs.Ytdajeabhhkgibaa
open Go.ChangeShapes Go.WideShapes Go.ChangeAt Go.RowKit
set_option linter.unusedVariables false
set_option linter.unusedSimpArgs false

section
variable {H : Type} {enc : TypeId × Value → H} {P : Program} {w : World} {base : Nat} {spare : Nat → Bool} {held : Bool}

/-- An array of n bytes that can be read is a row of n bytes. -/
theorem open_bytes {t e : TypeId} {n : Nat} {cs : Array Value} {d : DataW H} {p : List MemPlace} (ht : P.underlying t = some (.array n e)) (he : P.underlying e = some (.int .u8)) (hce : P.cellsOf e = 1) (hsz : cs.size = n)
    (h : DataW.Trod enc P w base spare held t (.agg cs) d p) : ∃ l : List UInt8, l.length = n ∧ cs = bs l := by
  obtain ⟨fuel, hf⟩ := h
  obtain ⟨xs, m, _, _, _, hxs, hall⟩ := DataW.trod_array ht hf
  have key : ∀ i (hi : i < cs.size), ∃ z : Int, cs[i] = .int .u8 z ∧ 0 ≤ z ∧ z ≤ 255 := by
    intro i hi
    have h1 := hall i (by omega)
    rw [hce, Nat.mul_one, List.getElem?_eq_getElem (by omega)] at h1
    obtain ⟨z, e0, _, w0⟩ := DataW.trod_int he h1
    have hb := bounds_u8 w0
    refine ⟨z, ?_, hb.1, hb.2⟩
    have e1 : (Value.agg cs).cells.toList = cs.toList := rfl
    rw [e1, List.drop_eq_getElem_cons (by simpa using hi)] at e0
    simpa using e0
  refine ⟨cs.toList.map (fun v => UInt8.ofNat (intOf v).toNat), by simpa using hsz, ?_⟩
  apply Array.ext
  · simp [bs]
  · intro i h1 h2
    obtain ⟨z, hz, z0, z1⟩ := key i h1
    simp only [bs, List.map_map, List.getElem_toArray, List.getElem_map, Array.getElem_toList, Function.comp_apply]
    rw [hz]
    simp only [intOf, Value.int.injEq, true_and]
    rw [UInt8.toNat_ofNat']
    omega
end
theorem bytes5 : Try.prog.bytesOf 5 = 1 := by kernel_rfl
/-- What a slice of bytes that came in gives a walk. -/
theorem view_bytes {H : Type} {enc : TypeId × Value → H} {W : World} {a : Option Addr} {len cap : Nat} {d : DataW H} {p : List MemPlace}
    (h : DataW.Trod enc Try.prog W 0 (fun _ => true) true 53 (.slice a len cap) d p) :
    ∃ L : List UInt8, L.length = len ∧ len ≤ cap ∧ (a = none → cap = 0) ∧ K.Byt W a L ∧ (d = .nil ∧ len = 0 ∨ ∃ el sp, d = .slice el sp ∧ el.length = len) := by
  obtain ⟨fuel, hf⟩ := h
  rcases open_ints Try.underlying53 Try.underlying5 (by kernel_rfl) hf with ⟨hcs, hx⟩ | ⟨x, l, c, zs, hcs, _, hl, hm, hz, hx, hcell, hwz⟩
  · simp [Value.cells] at hcs
    obtain ⟨rfl, rfl, rfl⟩ := hcs
    simp only [Prod.mk.injEq] at hx
    exact ⟨[], rfl, Nat.le_refl _, fun _ => rfl, .inl rfl, .inl ⟨hx.1, rfl⟩⟩
  · simp [Value.cells] at hcs
    obtain ⟨rfl, rfl, rfl⟩ := hcs
    have hz' : zs.length = cap := by simpa using hz
    simp only [Prod.mk.injEq] at hx
    have hlen0 : ((zs.take len).map (fun z => UInt8.ofNat z.toNat)).length = len := by simp; omega
    refine ⟨(zs.take len).map (fun z => UInt8.ofNat z.toNat), hlen0, hl, (fun e => by cases e), ?_, .inr ⟨_, _, hx.1, by simp [lits]; omega⟩⟩
    by_cases h0 : 0 < len
    · obtain ⟨b, off, spot⟩ := x
      have hc := hcell 0 (by omega)
      have hspot : spot = none := by simpa [Addr.add] using World.cell?_spot hc
      subst hspot
      refine .inr ⟨b, off, rfl, fun j hj => ?_⟩
      rw [hlen0] at hj
      have h1 := hcell j (by omega)
      have e : (⟨b, off, none⟩ : Addr).add j = ⟨b, off + j, none⟩ := by unfold Addr.add; split <;> simp_all
      rw [e] at h1
      rw [h1]
      have hb := bounds_u8 (hwz (zs.getD j 0) (by rw [List.getD_eq_getElem?_getD, List.getElem?_eq_getElem (by omega)]; exact List.getElem_mem _))
      have hlen : j < zs.length := by omega
      simp only [K.at8, List.getD_eq_getElem?_getD, List.getElem?_map, List.getElem?_take, if_pos hj, List.getElem?_eq_getElem hlen, Option.map_some, Option.getD_some] at hb ⊢
      rw [UInt8.toNat_ofNat']
      simp only [Option.some.injEq, Value.int.injEq, true_and]
      omega
    · exact .inl (List.eq_nil_of_length_eq_zero (by omega))
theorem reach_of {H : Type} {ts : List TypeId} {ds : List (DataW H)} (hsz : (DataW.weightsEach Try.prog ts ds).all (· ≤ reachBytes) = true) (j : Nat) (ht : ts[j]? = some 53) {d : DataW H} (hd : ds[j]? = some d) {len : Nat}
    (h : d = .nil ∧ len = 0 ∨ ∃ el sp, d = .slice el sp ∧ el.length = len) : len ≤ 140737488351232 := by
  rcases h with ⟨_, rfl⟩ | ⟨el, sp, rfl, rfl⟩
  · omega
  · have := sized_slice hsz (j := j) (t := 53) (e := 5) ht hd Try.underlying53
    rw [bytes5] at this
    simp only [reachBytes] at this
    omega
theorem cells30 : Try.prog.cellsOf 30 = 32 := by kernel_rfl
end Go.Proofs.Ytdajeabhhkgibaa

namespace Go.Proofs.Ytdajeabhhkgibaa.B
open Go.RowKit
set_option linter.unusedVariables false
set_option linter.unusedSimpArgs false

/-- n times the cells of x. -/
def rpC (n : Nat) (x : List Value) : List Value := (List.replicate n x).flatten
theorem rpC_len (n : Nat) (x : List Value) : (rpC n x).length = n * x.length := by simp [rpC]
theorem rpC_cons (n : Nat) (x : List Value) : rpC (n + 1) x = x ++ rpC n x := by simp [rpC, List.replicate_succ]
theorem rpC_succ (n : Nat) (x : List Value) : rpC n x ++ x = rpC (n + 1) x := by
  unfold rpC
  rw [List.replicate_succ', List.flatten_append]
  simp
theorem rpC_get {x : List Value} {j : Nat} (hj : j < x.length) : ∀ {n k : Nat}, k < n → (rpC n x)[k * x.length + j]? = x[j]?
  | 0, k, h => by omega
  | n + 1, 0, h => by rw [rpC_cons, Nat.zero_mul, Nat.zero_add, List.getElem?_append_left hj]
  | n + 1, k + 1, h => by
    rw [rpC_cons, List.getElem?_append_right (by rw [Nat.succ_mul]; omega), show (k + 1) * x.length + j - x.length = k * x.length + j by rw [Nat.succ_mul]; omega]
    exact rpC_get hj (by omega)
theorem rpC_pre (n m : Nat) (x : List Value) {j : Nat} (hj : j < n * x.length) : (rpC (n + m) x)[j]? = (rpC n x)[j]? := by
  have hx : 0 < x.length := by
    rcases Nat.eq_zero_or_pos x.length with h | h
    · rw [h] at hj; omega
    · exact h
  have h1 : j / x.length < n := (Nat.div_lt_iff_lt_mul hx).2 hj
  have h2 : j = j / x.length * x.length + j % x.length := by rw [Nat.mul_comm]; exact (Nat.div_add_mod j x.length).symm
  rw [h2, rpC_get (Nat.mod_lt _ hx) (by omega), rpC_get (Nat.mod_lt _ hx) h1]
/-- The first k elements are x. -/
def fillC (k : Nat) (x L : List Value) : List Value := rpC k x ++ L.drop (k * x.length)
theorem fillC_len {k : Nat} {x L : List Value} (h : k * x.length ≤ L.length) : (fillC k x L).length = L.length := by
  unfold fillC
  rw [List.length_append, rpC_len, List.length_drop]
  omega
theorem fillC_zero (x L : List Value) : fillC 0 x L = L := by simp [fillC, rpC]
theorem fillC_all {n : Nat} {x L : List Value} (h : L.length = n * x.length) : fillC n x L = rpC n x := by
  unfold fillC
  rw [← h, List.drop_length, List.append_nil]
theorem fillC_three {k : Nat} {x0 x1 x2 : Value} {L : List Value} (h : (k + 1) * 3 ≤ L.length) : (((fillC k [x0, x1, x2] L).set (3 * k) x0).set (3 * k + 1) x1).set (3 * k + 2) x2 = fillC (k + 1) [x0, x1, x2] L := by
  unfold fillC
  have hl : (rpC k [x0, x1, x2]).length = 3 * k := by rw [rpC_len]; simp; omega
  have e3 : ([x0, x1, x2] : List Value).length = 3 := rfl
  rw [e3, ← rpC_succ]
  have hd : ∃ a b c, L.drop (k * 3) = a :: b :: c :: L.drop ((k + 1) * 3) := by
    have h1 : k * 3 < L.length := by omega
    have h2 : k * 3 + 1 < L.length := by omega
    have h3 : k * 3 + 2 < L.length := by omega
    refine ⟨L[k * 3], L[k * 3 + 1], L[k * 3 + 2], ?_⟩
    rw [List.drop_eq_getElem_cons h1, List.drop_eq_getElem_cons h2, List.drop_eq_getElem_cons h3, show k * 3 + 2 + 1 = (k + 1) * 3 by omega]
  obtain ⟨a, b, c, hd⟩ := hd
  rw [hd, List.set_append_right _ _ (by omega), hl, Nat.sub_self, List.set_cons_zero, List.set_append_right _ _ (by omega), hl, show 3 * k + 1 - 3 * k = 1 by omega, List.set_cons_succ, List.set_cons_zero, List.set_append_right _ _ (by omega), hl, show 3 * k + 2 - 3 * k = 2 by omega]
  simp
/-- A list's elements are all x. -/
def RdC (w : World) (a : Option Addr) (n : Nat) (x : List Value) : Prop := n = 0 ∨ ∃ b off, a = some ⟨b, off, none⟩ ∧ ∀ j u, (rpC n x)[j]? = some u → w.cell? ⟨b, off + j, none⟩ = some u
theorem RdC.grown {w w' : World} {a : Option Addr} {n : Nat} {x : List Value} {row : Option Nat} (h : RdC w a n x) (gr : w.grownBy w' row) (hne : 0 < n → ∀ b off, a = some ⟨b, off, none⟩ → some b ≠ row) : RdC w' a n x := by
  rcases h with rfl | ⟨b, off, rfl, hc⟩
  · exact .inl rfl
  · rcases Nat.eq_zero_or_pos n with h0 | h0
    · exact .inl h0
    · exact .inr ⟨b, off, rfl, fun j u hj => gr.cell (hc j u hj) (hne h0 b off rfl)⟩
theorem RdC.below {w w' : World} {a : Option Addr} {n : Nat} {x : List Value} (h : RdC w a n x) (hb : Below w.heap.size w w') : RdC w' a n x := by
  rcases h with rfl | ⟨b, off, rfl, hc⟩
  · exact .inl rfl
  · exact .inr ⟨b, off, rfl, fun j u hj => (hb.cell (p := ⟨b, off + j, none⟩) (block_lt_of_cell (hc j u hj))).trans (hc j u hj)⟩
theorem own_rd {w : World} {base e sz : Nat} {a : Option Addr} {n c : Nat} {x : List Value} (h : w.ownsRow base e sz (.slice a n c) n (rpC n x)) : RdC w a n x := by
  have hc := fun g hg => World.ownsRow.cells h (g := g) hg
  rcases h.2 with ⟨_, hn⟩ | ⟨g, cap, cur, ev, _⟩
  · exact .inl hn
  · cases ev
    refine .inr ⟨g, 0, rfl, fun j u hj => ?_⟩
    have := hc g rfl j u hj
    rw [Addr.add_mid] at this
    exact this
theorem own_slice {w : World} {base e sz n : Nat} {v : Value} {xs : List Value} (h : w.ownsRow base e sz v n xs) : ∃ a c, v = .slice a n c := by
  rcases h.2 with ⟨rfl, rfl⟩ | ⟨g, cap, cur, rfl, _⟩
  · exact ⟨_, _, rfl⟩
  · exact ⟨_, _, rfl⟩
theorem own_below {w w' : World} {base e sz n : Nat} {v : Value} {xs : List Value} (h : w.ownsRow base e sz v n xs) (hb : Below w.heap.size w w') : w'.ownsRow base e sz v n xs :=
  World.ownsRow.kept h (row := none) ⟨hb.os, hb.tape, hb.output, hb.size, fun k hk _ => hb.block k hk⟩ (by cases hx : v.ownBlock <;> simp)
theorem own_other {w : World} {q base j e sz n : Nat} {v u : Value} {xs : List Value} (h : w.ownsRow base e sz v n xs) (hq : v.ownBlock ≠ some q) : (w.setCell ⟨q, j, none⟩ u).ownsRow base e sz v n xs := by
  refine ⟨h.1, ?_⟩
  rcases h.2 with hn | ⟨g, cap, cur, rfl, hbg, hg, rest⟩
  · exact .inl hn
  · refine .inr ⟨g, cap, cur, rfl, hbg, ?_, rest⟩
    rw [Below.heap_setCell _ _ _ _ (fun e => hq (by simp [Value.ownBlock]; exact e))]
    exact hg
theorem own_put {w : World} {base g n cap r e sz : Nat} {F : List Value} (h : w.ownsRow base e sz (.slice (some ⟨g, 0, none⟩) n cap) n F) (x : Value) (hr : r < F.length) : (w.setCell ⟨g, r, none⟩ x).ownsRow base e sz (.slice (some ⟨g, 0, none⟩) n cap) n (F.set r x) := by
  rcases h.2 with ⟨e, _⟩ | ⟨g', cap', cur, ev, hbg, hg, hnc, hcm, hcs, htake⟩
  · cases e
  · cases ev
    refine ⟨by rw [List.length_set]; exact h.1, .inr ⟨g, cap, _, rfl, hbg, heap_setCell_same w g r _ e _ hg, hnc, hcm, by simpa using hcs, ?_⟩⟩
    rw [Array.toList_setIfInBounds, List.take_set, htake]
theorem own_at {w : World} {base g n cap r e sz : Nat} {F : List Value} {u : Value} (h : w.ownsRow base e sz (.slice (some ⟨g, 0, none⟩) n cap) n F) (hr : F[r]? = some u) : w.cell? ⟨g, r, none⟩ = some u ∧ w.frozen? ⟨g, r, none⟩ = false := by
  have hc := World.ownsRow.cells h (g := g) rfl r u hr
  rw [Addr.add_mid, Nat.zero_add] at hc
  rcases h.2 with ⟨e, _⟩ | ⟨g', cap', cur, ev, hbg, hg, hnc, hcm, hcs, htake⟩
  · cases e
  · cases ev
    exact ⟨hc, frozen_of_row w g r _ _ hg⟩
/-- append of one onto an owned row: it lies where it lay, or it is new and all that was is as it was. -/
theorem run_app3 {P : Program} (w : World) (base : Nat) (t ty e : TypeId) (i : TypeInfo) (z : Value) (size bytes : Nat) (ht : P.underlying t = some (.slice e)) (hi : P.info? e = some i) (hz : i.zero = some z)
    (hsize : i.size = size) (hby : i.bytes = bytes) (hzs : z.cells.size = size) (hsz : 0 < size) (v : Value) (n : Nat) (xs : List Value) (hown : w.ownsRow base e size v n xs)
    (ad : Addr) (c : Nat) (news : List Value) (hl : news.length = 1 * size) (hnews : ∀ j u, news[j]? = some u → w.cell? (ad.add j) = some u) (h1 : ∀ u ∈ news, u.oneCell' = true)
    (h63 : n + 1 ≤ maxLen) (hbytes : (n + 1) * bytes ≤ 140737488355328) (hbase : base ≤ w.heap.size) :
    ∃ v' w', (Builtin.append_ #[t, t] ty #[v, .slice (some ad) 1 c]).run P w = .ok v' w' ∧ w'.ownsRow base e size v' (n + 1) (xs ++ news) ∧ w.grownBy w' v.ownBlock ∧
      (v'.ownBlock = v.ownBlock ∨ v'.ownBlock = some w.heap.size ∧ Below w.heap.size w w') := by
  obtain ⟨v', w', hr, own, gr, _, hblk⟩ := run_append_own_at (P := P) w base t ty e i z size bytes ht hi hz hsize hby hzs hsz v n xs hown ad 1 c news hl hnews h1 h63 hbytes hbase
  refine ⟨v', w', hr, own, gr, ?_⟩
  rcases hblk with e1 | e1
  · exact .inl e1
  · refine .inr ⟨e1, ?_⟩
    cases hv : v.ownBlock with
    | none => exact (Below.refl _ _).grown gr (Nat.le_refl _) (fun k hk => by rw [hv] at hk; cases hk)
    | some g =>
      rcases hown.2 with ⟨rfl, hn⟩ | ⟨g', cap, cur, rfl, hbg, hg, hnc, hcm, hcs, htake⟩
      · simp [Value.ownBlock] at hv
      · have hg' : g' < w.heap.size := (Array.getElem?_eq_some_iff.1 hg).1
        subst hsize hby
        by_cases hroom : n + 1 ≤ cap
        · have hr2 := run_append_room (P := P) w t ty e i ht hi g' n cap cur hg ad 1 c news (by rw [hl]) hnews h1 hroom (by rw [hl, hcs, ← Nat.add_mul]; exact Nat.mul_le_mul_right _ hroom)
          rw [hr] at hr2
          injection hr2 with e2 e3
          rw [e2] at e1
          simp [Value.ownBlock] at e1
          omega
        · have hr2 := run_append_grow (P := P) w t ty e i z ht hi hz ⟨g', 0, none⟩ n cap xs (by rw [hown.1]) (hown.cells (g := g') rfl) ad 1 c news (by rw [hl]) hnews (by omega) (by unfold maxLen at h63; omega) (growslice_fits (by omega) (by simpa using hbytes))
          rw [hr] at hr2
          injection hr2 with e2 e3
          rw [e3]
          exact (below_drewN (Below.refl _ _) 1).alloc (Nat.le_refl _) _
theorem wpList_app3 {P : Program} {ops : Array Oper} {rest : List Oper} {o : Oper} {a : Act} {w : World} {Q : Exit → Act → World → Prop} (hgd : o.guard = none) (s x : Operand) (t e : TypeId) (i : TypeInfo) (z : Value) (size bytes : Nat)
    (ht : P.underlying t = some (.slice e)) (hi : P.info? e = some i) (hz : i.zero = some z) (hsize : i.size = size) (hby : i.bytes = bytes) (hzs : z.cells.size = size) (hsz : 0 < size)
    (ho : o.op = .call { callee := .builtin .append, args := #[s, x], argTypes := #[t, t] }) (base : Nat) (v : Value) (n : Nat) (xs : List Value) (hs : a.eval s = v) (hown : w.ownsRow base e size v n xs)
    (ad : Addr) (c : Nat) (news : List Value) (hx : a.eval x = .slice (some ad) 1 c) (hl : news.length = 1 * size) (hnews : ∀ j u, news[j]? = some u → w.cell? (ad.add j) = some u) (h1 : ∀ u ∈ news, u.oneCell' = true)
    (h63 : n + 1 ≤ maxLen) (hbytes : (n + 1) * bytes ≤ 140737488355328) (hbase : base ≤ w.heap.size)
    (h : ∀ v' w', w'.ownsRow base e size v' (n + 1) (xs ++ news) → w.grownBy w' v.ownBlock → (v'.ownBlock = v.ownBlock ∨ v'.ownBlock = some w.heap.size ∧ Below w.heap.size w w') → wpList P ops Q rest (a.put o.dst v') w') : wpList P ops Q (o :: rest) a w :=
  wpList_plain hgd fun _ hK => by
    obtain ⟨v', w', hr, h2, h3, h4⟩ := run_app3 (P := P) w base t o.type e i z size bytes ht hi hz hsize hby hzs hsz v n xs hown ad c news hl hnews h1 h63 hbytes hbase
    unfold Oper.wp execOp
    simp only [ho, resolve, invoke, builtin, Sem.run_bind, Sem.run_pure, Result.andThen_ok, List.map_toArray, List.map_cons, List.map_nil, hs, hx, hr]
    exact hK _ _ (h v' w' h2 h3 h4)
/-- One append onto a list of the Book: it lies where it lay, or behind all that was; what the list held is there. -/
theorem grow_step {wa w' : World} {base W n cap m e sz : Nat} {a : Option Addr} {x : List Value} {g g' : Value} (hW : W ≤ wa.heap.size) (hx : 0 < x.length)
    (hB : RdC wa a n x) (hv : ∀ b off, 0 < n → a = some ⟨b, off, none⟩ → (Value.slice a n cap).ownBlock = some b ∧ off = 0 ∧ b < W)
    (own' : w'.ownsRow base e sz g' (n + m + 1) (rpC (n + m + 1) x)) (gr : wa.grownBy w' g.ownBlock)
    (h4 : g'.ownBlock = g.ownBlock ∨ g'.ownBlock = some wa.heap.size ∧ Below wa.heap.size wa w')
    (hg : g.ownBlock = (Value.slice a n cap).ownBlock ∨ ∃ b, g.ownBlock = some b ∧ W ≤ b) :
    RdC w' a n x ∧ (g'.ownBlock = (Value.slice a n cap).ownBlock ∨ ∃ b, g'.ownBlock = some b ∧ W ≤ b) := by
  refine ⟨?_, ?_⟩
  · rcases hB with h0 | ⟨b, off, rfl, hc⟩
    · exact .inl h0
    by_cases hn : 0 < n
    · obtain ⟨hvb, rfl, hbW⟩ := hv b off hn rfl
      rcases hg with e1 | ⟨b2, e1, hb2⟩
      · rcases h4 with e4 | ⟨e4, bl⟩
        · have eo : g'.ownBlock = some b := by rw [e4, e1, hvb]
          refine .inr ⟨b, 0, rfl, fun j u hj => ?_⟩
          have hjl : j < n * x.length := by
            have := (List.getElem?_eq_some_iff.1 hj).1
            rwa [rpC_len] at this
          have hj2 : (rpC (n + m + 1) x)[j]? = some u := by rw [Nat.add_assoc, rpC_pre n (m + 1) x hjl]; exact hj
          have := World.ownsRow.cells own' eo j u hj2
          rw [Addr.add_mid] at this
          exact this
        · exact .inr ⟨b, 0, rfl, fun j u hj => (bl.cell (p := ⟨b, 0 + j, none⟩) (block_lt_of_cell (hc j u hj))).trans (hc j u hj)⟩
      · exact .inr ⟨b, 0, rfl, fun j u hj => gr.cell (hc j u hj) (fun e3 => by rw [e1] at e3; simp at e3; omega)⟩
    · left; omega
  · rcases h4 with e4 | ⟨e4, _⟩
    · rw [e4]; exact hg
    · exact .inr ⟨_, e4, hW⟩
/-- A list that a Book keeps. -/
structure Lst where
  a : Option Addr
  n : Nat
  c : Nat
def Lst.v (l : Lst) : Value := .slice l.a l.n l.c
/-- A Book that keeps N lists of one kind. -/
structure BookAt (w : World) (q fi B cB N : Nat) (qo : Option Obj) (V : Nat → Lst) : Prop where
  cq : w.cell? ⟨q, fi, none⟩ = some (.slice (some ⟨B, 0, none⟩) N cB)
  cr : ∀ i, i < N → w.cell? ⟨B, i, none⟩ = some (V i).v
  ho : w.heap[q]? = qo
  lB : B < w.heap.size
theorem BookAt.keep {w w' : World} {q fi B cB N : Nat} {qo : Option Obj} {V : Nat → Lst} (h : BookAt w q fi B cB N qo V) (hq : w'.heap[q]? = w.heap[q]?) (hB : w'.heap[B]? = w.heap[B]?) (hs : w.heap.size ≤ w'.heap.size) : BookAt w' q fi B cB N qo V :=
  ⟨(World.cell?_of_block hq).trans h.cq, fun i hi => (World.cell?_of_block hB).trans (h.cr i hi), hq.trans h.ho, Nat.lt_of_lt_of_le h.lB hs⟩
theorem BookAt.lq {w : World} {q fi B cB N : Nat} {qo : Option Obj} {V : Nat → Lst} (h : BookAt w q fi B cB N qo V) : q < w.heap.size := block_lt_of_cell h.cq
def Tg (tg : Nat → Nat) (v : Value) (t : Nat) : Prop := ∀ b, v.ownBlock = some b → tg b = t
/-- All lists are the call's own, each in a block of its own. -/
structure Ph1 (w0 w : World) (base q fi B cB N e sz : Nat) (qo : Option Obj) (V : Nat → Lst) (tg : Nat → Nat) (F : Nat → List Value) : Prop where
  bk : BookAt w q fi B cB N qo V
  tq : tg q = 0
  tB : tg B = 0
  ow : ∀ i, i < N → w.ownsRow base e sz (V i).v (V i).n (F i) ∧ Tg tg (V i).v (i + 1)
  be : Below base w0 w
  fr : ∀ k, k < w0.heap.size → tg k = 0 → w.heap[k]? = w0.heap[k]?
def upF (F : Nat → List Value) (m : Nat) (l : List Value) : Nat → List Value := fun i => if i = m then l else F i
theorem upF_at (F : Nat → List Value) (m : Nat) (l : List Value) : upF F m l m = l := by unfold upF; rw [if_pos rfl]
theorem upF_up (F : Nat → List Value) (m : Nat) (l l' : List Value) : upF (upF F m l) m l' = upF F m l' := by
  funext i
  unfold upF
  split <;> rfl
theorem Ph1.set {w0 w : World} {base q fi B cB N e sz : Nat} {qo : Option Obj} {V : Nat → Lst} {tg : Nat → Nat} {F : Nat → List Value} (h : Ph1 w0 w base q fi B cB N e sz qo V tg F) (m r g : Nat) (x : Value) (hm : m < N) (hr : r < (F m).length) (hg : (V m).a = some ⟨g, 0, none⟩) (hbg : base ≤ g) :
    Ph1 w0 (w.setCell ⟨g, r, none⟩ x) base q fi B cB N e sz qo V tg (upF F m ((F m).set r x)) := by
  have hv : (V m).v = .slice (some ⟨g, 0, none⟩) (V m).n (V m).c := by unfold Lst.v; rw [hg]
  have tm : tg g = m + 1 := (h.ow m hm).2 g (by rw [hv]; rfl)
  have ne : ∀ b, tg b ≠ m + 1 → b ≠ g := fun b hb e => hb (by rw [e]; exact tm)
  have hset : ∀ b, b ≠ g → (w.setCell ⟨g, r, none⟩ x).heap[b]? = w.heap[b]? := fun b hb => Below.heap_setCell _ _ _ _ hb
  refine ⟨h.bk.keep (hset q (ne q (by rw [h.tq]; omega))) (hset B (ne B (by rw [h.tB]; omega))) (by simp [World.setCell]), h.tq, h.tB, fun i hi => ?_, h.be.setCell hbg _, fun k hk ht => (hset k (ne k (by rw [ht]; omega))).trans (h.fr k hk ht)⟩
  obtain ⟨o, t⟩ := h.ow i hi
  unfold upF
  by_cases e : i = m
  · subst e
    rw [if_pos rfl]
    refine ⟨?_, t⟩
    rw [hv] at o ⊢
    exact own_put o x hr
  · rw [if_neg e]
    exact ⟨own_other o (fun e2 => by have := t g e2; omega), t⟩
/-- The lists are being grown. -/
structure Ph2 (w0 w : World) (base q fi B cB N e sz te : Nat) (qo : Option Obj) (V : Nat → Lst) (X : Nat → List Value) (tz tg : Nat → Nat) (lo m : Nat) (G : Nat → Value) (all : Value) : Prop where
  bk : BookAt w q fi B cB N qo V
  tq : tg q = 0
  tB : tg B = 0
  rd : ∀ i, i < N → RdC w (V i).a (V i).n (X i) ∧ Tg tg (V i).v (i + 1) ∧ ∀ b, (V i).v.ownBlock = some b → b < w.heap.size
  ow : ∀ i, lo ≤ i → i < N → w.ownsRow base e sz (V i).v (V i).n (rpC (V i).n (X i))
  gs : ∀ i, i < m → w.ownsRow base e sz (G i) ((V i).n + 20) (rpC ((V i).n + 20) (X i)) ∧ Tg tg (G i) (i + 1)
  al : w.ownsRow base te 1 all m ((List.range m).map G) ∧ Tg tg all (N + 1)
  be : Below base w0 w
  zb : base ≤ w.heap.size
  z0 : w0.heap.size ≤ w.heap.size
  fr : ∀ k, k < w0.heap.size → tz k = 0 → tg k = 0 ∧ w.heap[k]? = w0.heap[k]?
/-- The new block's tag. -/
def tgN (tg : Nat → Nat) (z t : Nat) : Nat → Nat := fun b => if b < z then tg b else t
section
variable {w0 w w' : World} {base q fi B cB N e sz te : Nat} {qo : Option Obj} {V : Nat → Lst} {X : Nat → List Value} {tz tg : Nat → Nat} {lo m : Nat} {G : Nat → Value} {all : Value}
theorem Ph2.below (h : Ph2 w0 w base q fi B cB N e sz te qo V X tz tg lo m G all) (hb : Below w.heap.size w w') : Ph2 w0 w' base q fi B cB N e sz te qo V X tz tg lo m G all :=
  ⟨h.bk.keep (hb.block q h.bk.lq) (hb.block B h.bk.lB) hb.size, h.tq, h.tB, fun i hi => ⟨(h.rd i hi).1.below hb, (h.rd i hi).2.1, fun b e => Nat.lt_of_lt_of_le ((h.rd i hi).2.2 b e) hb.size⟩,
    fun i h1 h2 => own_below (h.ow i h1 h2) hb, fun i hi => ⟨own_below (h.gs i hi).1 hb, (h.gs i hi).2⟩, ⟨own_below h.al.1 hb, h.al.2⟩, h.be.trans (hb.mono h.zb), Nat.le_trans h.zb hb.size, Nat.le_trans h.z0 hb.size, fun k hk ht => ⟨(h.fr k hk ht).1, (hb.block k (Nat.lt_of_lt_of_le hk h.z0)).trans (h.fr k hk ht).2⟩⟩
theorem Tg.new {v : Value} {t : Nat} (z t' : Nat) (h : Tg tg v t) (hl : ∀ b, v.ownBlock = some b → b < z) : Tg (tgN tg z t') v t := fun b e => by
  unfold tgN
  rw [if_pos (hl b e)]
  exact h b e
/-- One list is grown: all others stay. -/
theorem Ph2.grow (h : Ph2 w0 w base q fi B cB N e sz te qo V X tz tg lo m G all) (t : Nat) (v v' : Value) (h1 : 1 ≤ t) (gr : w.grownBy w' v.ownBlock) (ht : Tg tg v t) (hv : ∀ b, v.ownBlock = some b → base ≤ b ∧ b < w.heap.size) (hblk : v'.ownBlock = v.ownBlock ∨ v'.ownBlock = some w.heap.size)
    (hrd : ∀ i, i + 1 = t → i < N → RdC w' (V i).a (V i).n (X i)) (how : ∀ i, lo ≤ i → i < N → i + 1 ≠ t) (hgs : ∀ i, i < m → i + 1 ≠ t) (hal : N + 1 ≠ t) : Ph2 w0 w' base q fi B cB N e sz te qo V X tz (tgN tg w.heap.size t) lo m G all ∧ Tg (tgN tg w.heap.size t) v' t := by
  have ne : ∀ b, tg b ≠ t → some b ≠ v.ownBlock := fun b hb e => hb (ht b e.symm)
  have kp : ∀ {e : TypeId} {sz n : Nat} {u : Value} {xs : List Value} {s : Nat}, w.ownsRow base e sz u n xs → Tg tg u s → s ≠ t → w'.ownsRow base e sz u n xs := fun {e sz n u xs s} o tu hs => World.ownsRow.kept o gr (by
    cases hx : u.ownBlock with
    | none => exact .inl rfl
    | some b => exact .inr (fun e => by have := tu b hx; have := ht b e.symm; omega))
  have lt : ∀ {e : TypeId} {sz n : Nat} {u : Value} {xs : List Value}, w.ownsRow base e sz u n xs → ∀ b, u.ownBlock = some b → b < w.heap.size := fun o b e => (World.ownsRow.lt o b e).2
  refine ⟨⟨h.bk.keep (gr.block q h.bk.lq (ne q (by rw [h.tq]; omega))) (gr.block B h.bk.lB (ne B (by rw [h.tB]; omega))) gr.size, ?_, ?_, fun i hi => ?_, fun i h1 h2 => kp (h.ow i h1 h2) (h.rd i h2).2.1 (how i h1 h2), fun i hi => ⟨kp (h.gs i hi).1 (h.gs i hi).2 (hgs i hi), (h.gs i hi).2.new _ _ (lt (h.gs i hi).1)⟩, ⟨kp h.al.1 h.al.2 hal, h.al.2.new _ _ (lt h.al.1)⟩, h.be.grown gr h.zb (fun b e => (hv b e).1), Nat.le_trans h.zb gr.size, Nat.le_trans h.z0 gr.size, fun k hk ht0 => (by
    have hkz := Nat.lt_of_lt_of_le hk h.z0
    obtain ⟨f1, f2⟩ := h.fr k hk ht0
    refine ⟨?_, (gr.block k hkz (ne k (by rw [f1]; omega))).trans f2⟩
    unfold tgN
    rw [if_pos hkz]
    exact f1)⟩, fun b e => ?_⟩
  · unfold tgN; rw [if_pos h.bk.lq]; exact h.tq
  · unfold tgN; rw [if_pos h.bk.lB]; exact h.tB
  · obtain ⟨r1, r2, r3⟩ := h.rd i hi
    refine ⟨?_, r2.new _ _ r3, fun b e => Nat.lt_of_lt_of_le (r3 b e) gr.size⟩
    by_cases e : i + 1 = t
    · exact hrd i e hi
    · exact r1.grown gr (fun _ b off ea e2 => by
        have : (V i).v.ownBlock = some b := by unfold Lst.v; rw [ea]; rfl
        have := r2 b this
        have := ht b e2.symm
        omega)
  · unfold tgN
    rcases hblk with e2 | e2
    · rw [e2] at e
      rw [if_pos (hv b e).2]
      exact ht b e
    · rw [e2] at e
      cases e
      rw [if_neg (by omega)]
theorem Ph2.done (h : Ph2 w0 w base q fi B cB N e sz te qo V X tz tg (m + 1) m G all) (hm : m < N) (g all' : Value) (og : w.ownsRow base e sz g ((V m).n + 20) (rpC ((V m).n + 20) (X m))) (hg : Tg tg g (m + 1)) (gr : w.grownBy w' all.ownBlock) (hblk : all'.ownBlock = all.ownBlock ∨ all'.ownBlock = some w.heap.size)
    (rows : w'.ownsRow base te 1 all' (m + 1) ((List.range m).map G ++ [g])) : ∃ tg', Ph2 w0 w' base q fi B cB N e sz te qo V X tz tg' (m + 1) (m + 1) (fun i => if i = m then g else G i) all' := by
  have ht := h.al.2
  have hv : ∀ b, all.ownBlock = some b → base ≤ b ∧ b < w.heap.size := fun b e => World.ownsRow.lt h.al.1 b e
  have ne : ∀ b, tg b ≠ N + 1 → some b ≠ all.ownBlock := fun b hb e => hb (ht b e.symm)
  have kp : ∀ {e : TypeId} {sz n : Nat} {u : Value} {xs : List Value} {s : Nat}, w.ownsRow base e sz u n xs → Tg tg u s → s ≠ N + 1 → w'.ownsRow base e sz u n xs := fun {e sz n u xs s} o tu hs => World.ownsRow.kept o gr (by
    cases hx : u.ownBlock with
    | none => exact .inl rfl
    | some b => exact .inr (fun e => by have := tu b hx; have := ht b e.symm; omega))
  have lt : ∀ {e : TypeId} {sz n : Nat} {u : Value} {xs : List Value}, w.ownsRow base e sz u n xs → ∀ b, u.ownBlock = some b → b < w.heap.size := fun o b e => (World.ownsRow.lt o b e).2
  refine ⟨tgN tg w.heap.size (N + 1), ⟨h.bk.keep (gr.block q h.bk.lq (ne q (by rw [h.tq]; omega))) (gr.block B h.bk.lB (ne B (by rw [h.tB]; omega))) gr.size, ?_, ?_, fun i hi => ?_, fun i h1 h2 => kp (h.ow i h1 h2) (h.rd i h2).2.1 (by omega), fun i hi => ?_, ⟨?_, fun b e => ?_⟩, h.be.grown gr h.zb (fun b e => (hv b e).1), Nat.le_trans h.zb gr.size, Nat.le_trans h.z0 gr.size, fun k hk ht0 => (by
    have hkz := Nat.lt_of_lt_of_le hk h.z0
    obtain ⟨f1, f2⟩ := h.fr k hk ht0
    refine ⟨?_, (gr.block k hkz (ne k (by rw [f1]; omega))).trans f2⟩
    unfold tgN
    rw [if_pos hkz]
    exact f1)⟩⟩
  · unfold tgN; rw [if_pos h.bk.lq]; exact h.tq
  · unfold tgN; rw [if_pos h.bk.lB]; exact h.tB
  · obtain ⟨r1, r2, r3⟩ := h.rd i hi
    refine ⟨r1.grown gr (fun _ b off ea e2 => ?_), r2.new _ _ r3, fun b e => Nat.lt_of_lt_of_le (r3 b e) gr.size⟩
    have : (V i).v.ownBlock = some b := by unfold Lst.v; rw [ea]; rfl
    have := r2 b this
    have := ht b e2.symm
    omega
  · show w'.ownsRow base e sz (if i = m then g else G i) _ _ ∧ Tg _ (if i = m then g else G i) _
    by_cases e : i = m
    · subst e
      rw [if_pos rfl]
      exact ⟨kp og hg (by omega), hg.new _ _ (lt og)⟩
    · rw [if_neg e]
      have hi2 : i < m := by omega
      exact ⟨kp (h.gs i hi2).1 (h.gs i hi2).2 (by omega), (h.gs i hi2).2.new _ _ (lt (h.gs i hi2).1)⟩
  · have : (List.range (m + 1)).map (fun i => if i = m then g else G i) = (List.range m).map G ++ [g] := by
      rw [List.range_succ, List.map_append]
      congr 1
      · apply List.map_congr_left
        intro i hi
        rw [if_neg (by have := List.mem_range.1 hi; omega)]
      · simp
    rw [this]
    exact rows
  · unfold tgN
    rcases hblk with e2 | e2
    · rw [e2] at e
      rw [if_pos (hv b e).2]
      exact ht b e
    · rw [e2] at e
      cases e
      rw [if_neg (by omega)]
theorem Ph2.weak (h : Ph2 w0 w base q fi B cB N e sz te qo V X tz tg lo m G all) (lo' : Nat) (hl : lo ≤ lo') : Ph2 w0 w base q fi B cB N e sz te qo V X tz tg lo' m G all :=
  ⟨h.bk, h.tq, h.tB, h.rd, fun i h1 h2 => h.ow i (by omega) h2, h.gs, h.al, h.be, h.zb, h.z0, h.fr⟩
/-- The first m lists are marked. -/
def mF (V : Nat → Lst) (X L : Nat → List Value) (m : Nat) : Nat → List Value := fun i => if i < m then rpC (V i).n (X i) else L i
theorem mF_start (V : Nat → Lst) (X L : Nat → List Value) (m : Nat) : upF (mF V X L m) m (fillC 0 (X m) (L m)) = mF V X L m := by
  funext i
  unfold upF mF
  by_cases e : i = m
  · subst e; rw [if_pos rfl, fillC_zero, if_neg (by omega)]
  · rw [if_neg e]
theorem mF_end (V : Nat → Lst) (X L : Nat → List Value) (m : Nat) (h : (L m).length = (V m).n * (X m).length) : upF (mF V X L m) m (fillC (V m).n (X m) (L m)) = mF V X L (m + 1) := by
  funext i
  unfold upF mF
  by_cases e : i = m
  · subst e; rw [if_pos rfl, fillC_all h, if_pos (by omega)]
  · rw [if_neg e]
    by_cases e2 : i < m
    · rw [if_pos e2, if_pos (by omega)]
    · rw [if_neg e2, if_neg (by omega)]
theorem ph2_start {L : Nat → List Value} (h : Ph1 w0 w base q fi B cB N e sz qo V tg (mF V X L N)) (hb : base ≤ w.heap.size) (hz0 : w0.heap.size ≤ w.heap.size) : Ph2 w0 w base q fi B cB N e sz te qo V X tg tg 0 0 (fun _ => .slice none 0 0) (.slice none 0 0) := by
  have key : ∀ i, i < N → w.ownsRow base e sz (V i).v (V i).n (rpC (V i).n (X i)) := fun i hi => by
    have := (h.ow i hi).1
    unfold mF at this
    rwa [if_pos hi] at this
  exact ⟨h.bk, h.tq, h.tB, fun i hi => ⟨own_rd (key i hi), (h.ow i hi).2, fun b e => (World.ownsRow.lt (key i hi) b e).2⟩, fun i _ hi => key i hi, fun i hi => by omega, ⟨World.ownsRow_nil _ _ _ _, fun b e => by cases e⟩, h.be, hb, hz0, fun k hk ht => ⟨ht, h.fr k hk ht⟩⟩
/-- A list while it is grown. -/
def Gr (w : World) (base e sz W : Nat) (tg : Nat → Nat) (x : List Value) (m n0 k0 k : Nat) (a0 : Option Addr) (g : Value) : Prop :=
  w.ownsRow base e sz g (n0 + k) (rpC (n0 + k) x) ∧ Tg tg g (m + 1) ∧ (g.ownBlock = (Value.slice a0 n0 k0).ownBlock ∨ ∃ b, g.ownBlock = some b ∧ W ≤ b) ∧ W ≤ w.heap.size
/-- Tags of N lists that lie in blocks of their own. -/
noncomputable def tgOf (N : Nat) (V : Nat → Lst) (b : Nat) : Nat := @dite _ (∃ i, i < N ∧ (V i).v.ownBlock = some b) (Classical.propDecidable _) (fun h => Classical.choose h + 1) (fun _ => 0)
theorem tgOf_own (sep : ∀ i j, i < N → j < N → ∀ b, (V i).v.ownBlock = some b → (V j).v.ownBlock = some b → i = j) (i : Nat) (hi : i < N) : Tg (tgOf N V) (V i).v (i + 1) := fun b e => by
  have hx : ∃ i, i < N ∧ (V i).v.ownBlock = some b := ⟨i, hi, e⟩
  unfold tgOf
  rw [dif_pos hx]
  have hs := Classical.choose_spec hx
  rw [sep _ i hs.1 hi b hs.2 e]
theorem tgOf_no (b : Nat) (h : ∀ i, i < N → (V i).v.ownBlock ≠ some b) : tgOf N V b = 0 := by
  unfold tgOf
  rw [dif_neg]
  rintro ⟨i, hi, e⟩
  exact h i hi e
end
end Go.Proofs.Ytdajeabhhkgibaa.B

namespace Go.Proofs.Ytdajeabhhkgibaa.B
open Go.RowKit
set_option linter.unusedVariables false
set_option linter.unusedSimpArgs false

theorem fillC_one {k : Nat} {x : Value} {L : List Value} (h : k + 1 ≤ L.length) : (fillC k [x] L).set k x = fillC (k + 1) [x] L := by
  unfold fillC
  have hl : (rpC k [x]).length = k := by rw [rpC_len]; simp
  have e1 : ([x] : List Value).length = 1 := rfl
  rw [e1, ← rpC_succ, Nat.mul_one, Nat.mul_one, List.set_append_right _ _ (by omega), hl, Nat.sub_self, List.drop_eq_getElem_cons (show k < L.length by omega), List.set_cons_zero]
  simp
theorem Ph1.set1 {w0 w : World} {base q fi B cB N e : Nat} {qo : Option Obj} {V : Nat → Lst} {tg : Nat → Nat} {F : Nat → List Value} {m k g : Nat} {x : Value} {L : List Value} (h : Ph1 w0 w base q fi B cB N e 1 qo V tg (upF F m (fillC k [x] L))) (hm : m < N) (hL : k + 1 ≤ L.length) (hg : (V m).a = some ⟨g, 0, none⟩) (hbg : base ≤ g) :
    Ph1 w0 (w.setCell ⟨g, k, none⟩ x) base q fi B cB N e 1 qo V tg (upF F m (fillC (k + 1) [x] L)) := by
  have hl : (fillC k [x] L).length = L.length := fillC_len (by simp; omega)
  have h1 := h.set m k g x hm (by rw [upF_at, hl]; omega) hg hbg
  rw [upF_at, upF_up, fillC_one hL] at h1
  exact h1
theorem own_get1 {w : World} {base g n cap k e : Nat} {F : List Value} (h : w.ownsRow base e 1 (.slice (some ⟨g, 0, none⟩) n cap) n F) (hk : k < n) : ∃ a, w.cell? ⟨g, k, none⟩ = some a ∧ w.frozen? ⟨g, k, none⟩ = false := by
  have hl := h.1
  have h0 : F[k]? = some F[k] := List.getElem?_eq_getElem (by omega)
  exact ⟨_, (own_at h h0).1, (own_at h h0).2⟩
theorem one_cell {w : World} {ad : Addr} {u : Value} (h : w.cell? ad = some u) : ∀ j x, ([u] : List Value)[j]? = some x → w.cell? (ad.add j) = some x := fun j x hx => by
  cases j with
  | zero => simp at hx; subst hx; simpa [Addr.add] using h
  | succ j => simp at hx
theorem rd1 {w : World} {a : Option Addr} {n i : Nat} {x : Value} (h : RdC w a n [x]) (hi : i < n) : ∃ b off, a = some ⟨b, off, none⟩ ∧ w.cell? ⟨b, off + i, none⟩ = some x := by
  rcases h with h | ⟨b, off, rfl, hc⟩
  · omega
  · have g := rpC_get (x := [x]) (j := 0) (by simp) hi
    simp only [List.length_cons, List.length_nil, Nat.zero_add, Nat.mul_one, Nat.add_zero, List.getElem?_cons_zero] at g
    exact ⟨b, off, rfl, hc i x g⟩
theorem cell_lit (w : World) (x : Value) (t : TypeId) : (w.alloc (.cells #[x] t)).cell? ⟨w.heap.size, 0, none⟩ = some x := (cell_of_row _ w.heap.size 0 _ _ _ (heap_alloc_new _ _)).trans rfl
end Go.Proofs.Ytdajeabhhkgibaa.B

namespace Go.Proofs.Ytdajeabhhkgibaa.B
open Go.RowKit
set_option linter.unusedVariables false
set_option linter.unusedSimpArgs false

/-- The mark of a list. -/
def mkI (i : Nat) : List Value := [.int .i64 (-7 - (i : Int))]
theorem mkI_one (i : Nat) : ∀ u ∈ mkI i, u.oneCell' = true := by
  intro u hu
  simp [mkI] at hu
  subst hu
  rfl
theorem infoI : ∃ i, Try.prog.info? 3 = some i ∧ i.zero = some (.int .i64 0) ∧ i.size = 1 ∧ i.bytes = 8 := info_parts (by kernel_rfl)
theorem infoIl : ∃ i, Try.prog.info? 49 = some i ∧ i.zero = some (.slice none 0 0) ∧ i.size = 1 ∧ i.bytes = 24 := info_parts (by kernel_rfl)
set_option maxRecDepth 100000 in
set_option maxHeartbeats 4000000 in
theorem aloneInts_any (q B cB base N : Nat) (qo : Option Obj) (V : Nat → Lst) (L : Nat → List Value) (tz : Nat → Nat) (w : World) (hN1 : 1 ≤ N) (hN : N ≤ 1000) (hn : ∀ i, i < N → (V i).n ≤ 4398046510976)
    (h : Ph1 w w base q 4 B cB N 3 1 qo V tz L) (hbase : base ≤ w.heap.size) :
    Calls Try.prog 82 #[.pointer (some ⟨q, 0, none⟩)] w fun e w' => e = .returned (.bool true) ∧ Below base w w' ∧ w'.heap[q]? = qo ∧ ∀ k, k < w.heap.size → tz k = 0 → w'.heap[k]? = w.heap[k]? := by
  have HP0 := Hid.mk' h
  have HL : Hid (∀ i, i < N → (L i).length = (V i).n) := fun i hi => (h.ow i hi).1.1.trans (Nat.mul_one _)
  clear h
  go_enter Try.func82, Try.ntmps82
  go_wp2
  go_loopw [3] (fun i wr => ∃ m : Nat, m ≤ N ∧ i = .int .i64 m ∧ Hid (Ph1 w wr base q 4 B cB N 3 1 qo V tz (mF V mkI L m))) (fun i _ => N - (intOf i).toNat)
  case atStart => exact ⟨0, by omega, rfl, by show Ph1 _ _ _ _ _ _ _ _ _ _ _ _ _ _; have : mF V mkI L 0 = L := by (funext i; unfold mF; rw [if_neg (by omega)])
                                              rw [this]; exact HP0.out⟩
  case round =>
    clear HP0
    obtain ⟨m, hm, rfl, HP⟩ := hrel
    by_cases hlt : m < N
    · have hlt' : (m : Int) < (N : Int) := by omega
      obtain ⟨l, hl⟩ : ∃ l, V m = l := ⟨_, rfl⟩
      obtain ⟨a0, n0, k0⟩ := l
      have hnm : n0 ≤ 4398046510976 := by have := hn m hlt; rw [hl] at this; exact this
      have hLm : (L m).length = n0 := by have := HL.out m hlt; rw [hl] at this; exact this
      have HS : Hid (Ph1 w wr base q 4 B cB N 3 1 qo V tz (upF (mF V mkI L m) m (fillC 0 (mkI m) (L m)))) := by show Ph1 _ _ _ _ _ _ _ _ _ _ _ _ _ _; rw [mF_start]; exact HP.out
      have HV := Hid.mk' hl
      have cq := HP.out.bk.cq
      clear HP hl
      go_wp2
      go_loopw [4] (fun kk wx => ∃ k : Nat, k ≤ n0 ∧ kk = .int .i64 k ∧ Hid (Ph1 w wx base q 4 B cB N 3 1 qo V tz (upF (mF V mkI L m) m (fillC k (mkI m) (L m))))) (fun kk _ => n0 - (intOf kk).toNat)
      case atStart => exact ⟨0, by omega, rfl, HS⟩
      case round =>
        clear HS cq
        obtain ⟨k, hk, rfl, HP⟩ := hrel
        have cq := HP.out.bk.cq
        have cm : wr.cell? ⟨B, m, none⟩ = some (.slice a0 n0 k0) := by have := HP.out.bk.cr m hlt; rw [HV.out] at this; exact this
        by_cases hkn : k < n0
        · have hkn' : (k : Int) < (n0 : Int) := by omega
          obtain ⟨oo, _⟩ := HP.out.ow m hlt
          rw [HV.out] at oo
          obtain ⟨g, rfl, hg1⟩ : ∃ g, a0 = some ⟨g, 0, none⟩ ∧ base ≤ g := by
            rcases oo.2 with ⟨e, _⟩ | ⟨g, cap, cur, e, hbg, _⟩
            · simp only [Lst.v, Value.slice.injEq] at e; omega
            · simp only [Lst.v, Value.slice.injEq] at e; exact ⟨g, e.1, hbg⟩
          obtain ⟨xa, dc, df⟩ := own_get1 oo hkn
          have NX : Hid (Ph1 w (wr.setCell ⟨g, k, none⟩ (.int .i64 (-7 - (m : Int)))) base q 4 B cB N 3 1 qo V tz (upF (mF V mkI L m) m (fillC (k + 1) (mkI m) (L m)))) := HP.out.set1 hlt (by omega) (by rw [HV.out]) hg1
          clear oo HP
          go_wp2
          exact ⟨⟨k + 1, by omega, by go_num, NX⟩, by simp [intOf]; omega⟩
        · obtain rfl : k = n0 := by omega
          have NX : Hid (Ph1 w wr base q 4 B cB N 3 1 qo V tz (mF V mkI L (m + 1))) := by
            show Ph1 _ _ _ _ _ _ _ _ _ _ _ _ _ _
            rw [← mF_end V mkI L m (by rw [HV.out]; exact hLm.trans (Nat.mul_one _).symm), HV.out]
            exact HP.out
          clear HP
          go_wp2
          exact ⟨⟨m + 1, by omega, by go_num, NX⟩, by simp [intOf]; omega⟩
    · obtain rfl : m = N := by omega
      have zb : base ≤ wr.heap.size := Nat.le_trans hbase HP.out.be.size
      have hz00 : w.heap.size ≤ wr.heap.size := HP.out.be.size
      have HQ : Hid (∃ tg G, Ph2 w wr base q 4 B cB m 3 1 49 qo V mkI tz tg 0 0 G (.slice none 0 0)) := ⟨_, _, ph2_start HP.out zb hz00⟩
      have cq := HP.out.bk.cq
      clear HP HL zb
      go_wp2
      clear cq
      go_loopw [5, 6] (fun all i wr => ∃ j : Nat, j ≤ m ∧ i = .int .i64 j ∧ Hid (∃ tg G, Ph2 w wr base q 4 B cB m 3 1 49 qo V mkI tz tg j j G all)) (fun _ i _ => m - (intOf i).toNat)
      case atStart => exact ⟨0, by omega, rfl, HQ⟩
      case round =>
        clear HQ
        obtain ⟨j, hj, rfl, HP⟩ := hrel
        by_cases hjm : j < m
        · have hjm' : (j : Int) < (m : Int) := by omega
          obtain ⟨tg1, G, hP⟩ := HP.out
          obtain ⟨l, hl⟩ : ∃ l, V j = l := ⟨_, rfl⟩
          obtain ⟨a0, n0, k0⟩ := l
          have hnm : n0 ≤ 4398046510976 := by have := hn j hjm; rw [hl] at this; exact this
          have HV := Hid.mk' hl
          have oo : wr.ownsRow base 3 1 (.slice a0 n0 k0) n0 (rpC n0 (mkI j)) := by have := hP.ow j (Nat.le_refl _) hjm; rw [hl] at this; exact this
          have to : Tg tg1 (.slice a0 n0 k0) (j + 1) := by have := (hP.rd j hjm).2.1; rw [hl] at this; exact this
          obtain ⟨W, hW1, hW2⟩ : ∃ W, wr.heap.size ≤ W ∧ W ≤ wr.heap.size := ⟨_, Nat.le_refl _, Nat.le_refl _⟩
          have hv : Hid (∀ b off, 0 < n0 → a0 = some ⟨b, off, none⟩ → (Value.slice a0 n0 k0).ownBlock = some b ∧ off = 0 ∧ b < W) := fun b off hn e => by
            rcases oo.2 with ⟨e1, _⟩ | ⟨g, cap, cur, e1, _, hg, _⟩
            · simp at e1; omega
            · simp only [Value.slice.injEq] at e1
              rw [e] at e1
              obtain ⟨e2, _⟩ := e1
              simp at e2
              have := (Array.getElem?_eq_some_iff.1 hg).1
              exact ⟨by rw [e]; rfl, e2.2, by omega⟩
          have HI : Hid (∃ tg, Ph2 w wr base q 4 B cB m 3 1 49 qo V mkI tz tg (j + 1) j G u5 ∧ Gr wr base 3 1 W tg (mkI j) j n0 k0 0 a0 (.slice a0 n0 k0)) := ⟨tg1, hP.weak _ (by omega), oo, to, .inl rfl, hW2⟩
          have cq := hP.bk.cq
          have cm : wr.cell? ⟨B, j, none⟩ = some (.slice a0 n0 k0) := by have := hP.bk.cr j hjm; rw [hl] at this; exact this
          clear oo to hP HP hl hW1 hW2
          go_wp2
          clear cq cm
          go_loopw [7, 8] (fun g kk wx => ∃ k : Nat, k ≤ 20 ∧ kk = .int .i64 k ∧ Hid (∃ tg, Ph2 w wx base q 4 B cB m 3 1 49 qo V mkI tz tg (j + 1) j G u5 ∧ Gr wx base 3 1 W tg (mkI j) j n0 k0 k a0 g)) (fun _ kk _ => 20 - (intOf kk).toNat)
          case atStart => exact ⟨0, by omega, rfl, HI⟩
          case round =>
            clear HI
            obtain ⟨k, hk, rfl, HI⟩ := hrel
            by_cases hlt : k < 20
            · have hlt' : (k : Int) < 20 := by omega
              obtain ⟨tg2, P, og, tgg, hg, hWx⟩ := HI.out
              obtain ⟨wa, hwa⟩ : ∃ wa, wa = wr.alloc (.cells #[.int .i64 (-7 - (j : Int))] 3) := ⟨_, rfl⟩
              have be : Below wr.heap.size wr wa := by rw [hwa]; exact (Below.refl _ _).alloc (Nat.le_refl _) _
              have OA : Hid (wa.ownsRow base 3 1 u7 (n0 + k) (rpC (n0 + k) (mkI j))) := own_below og be
              have NA : Hid (∀ jj u, (mkI j)[jj]? = some u → wa.cell? ((⟨wr.heap.size, 0, none⟩ : Addr).add jj) = some u) := by rw [hwa]; exact one_cell (cell_lit _ _ _)
              have PA : Hid (Ph2 w wa base q 4 B cB m 3 1 49 qo V mkI tz tg2 (j + 1) j G u5) := P.below be
              have ZA : Hid (base ≤ wa.heap.size) := PA.out.zb
              have WA : Hid (W ≤ wa.heap.size) := Nat.le_trans hWx be.size
              have TA := Hid.mk' tgg
              have GA := Hid.mk' hg
              have SZ : Hid (wa.heap.size = wr.heap.size + 1) := by show _ = _; rw [hwa]; simp
              obtain ⟨i0, hi0, hz0, hs0, hby0⟩ := infoI
              clear og tgg hg hWx P be HI
              go_wp2_with (first
                | (at_builtin; refine wpList_app3 rfl (.tmp 66) (.tmp 69) 49 3 i0 (.int .i64 0) 1 8 Try.underlying49 hi0 hz0 hs0 hby0 rfl (by decide) rfl base u7 (n0 + k) (rpC (n0 + k) (mkI j)) rfl (by rw [← hwa]; exact OA.out) ⟨wr.heap.size, 0, none⟩ 1 (mkI j) rfl rfl (by rw [← hwa]; exact NA.out) (mkI_one j) (by unfold maxLen; omega) (by omega) (by rw [← hwa]; exact ZA.out) ?_)
                | fail)
              intro g' w' own' gr h4
              rw [rpC_succ] at own'
              first | rw [← hwa] at gr h4 | (rw [← hwa] at gr; try rw [← hwa] at h4)
              try rw [← SZ.out] at h4
              clear hwa hi0 hz0 hs0 hby0
              have YA : RdC wa a0 n0 (mkI j) := by have := (PA.out.rd j hjm).1; rw [HV.out] at this; exact this
              obtain ⟨yn, gn⟩ := grow_step (cap := k0) WA.out (by show 0 < 1; decide) YA hv.out own' gr h4 GA.out
              have hl2 : ∀ b, u7.ownBlock = some b → base ≤ b ∧ b < wa.heap.size := fun b e => World.ownsRow.lt OA.out b e
              have h5 : g'.ownBlock = u7.ownBlock ∨ g'.ownBlock = some wa.heap.size := by rcases h4 with e | ⟨e, _⟩; exact .inl e; exact .inr e
              have hrd : ∀ i, i + 1 = j + 1 → i < m → RdC w' (V i).a (V i).n (mkI i) := fun i e hi => by
                obtain rfl : i = j := by omega
                rw [HV.out]
                exact yn
              obtain ⟨P2, T2⟩ := PA.out.grow (j + 1) u7 g' (by omega) gr TA.out hl2 h5 hrd (fun i h1 _ => by omega) (fun i hi => by omega) (by omega)
              have NX : Hid (∃ tg, Ph2 w w' base q 4 B cB m 3 1 49 qo V mkI tz tg (j + 1) j G u5 ∧ Gr w' base 3 1 W tg (mkI j) j n0 k0 (k + 1) a0 g') := ⟨_, P2, own', T2, gn, Nat.le_trans WA.out gr.size⟩
              obtain ⟨ga, gc, rfl⟩ := own_slice own'
              clear OA NA PA ZA WA TA GA SZ gr h4 YA yn gn hl2 h5 P2 T2 own' hrd
              go_wp2
              exact ⟨⟨k + 1, by omega, by go_num, NX⟩, by simp [intOf]; omega⟩
            · obtain rfl : k = 20 := by omega
              clear hlt
              obtain ⟨tg2, P, og, tgg, hg, hWx⟩ := HI.out
              obtain ⟨ga, gc, rfl⟩ := own_slice og
              obtain ⟨wa, hwa⟩ : ∃ wa, wa = wr.alloc (.cells #[.slice ga (n0 + 20) gc] 49) := ⟨_, rfl⟩
              have be : Below wr.heap.size wr wa := by rw [hwa]; exact (Below.refl _ _).alloc (Nat.le_refl _) _
              have PA : Hid (Ph2 w wa base q 4 B cB m 3 1 49 qo V mkI tz tg2 (j + 1) j G u5) := P.below be
              have OA : Hid (wa.ownsRow base 3 1 (.slice ga (n0 + 20) gc) (n0 + 20) (rpC (n0 + 20) (mkI j))) := own_below og be
              have TA := Hid.mk' tgg
              have SZ : Hid (wa.heap.size = wr.heap.size + 1) := by show _ = _; rw [hwa]; simp
              have CA : Hid (wa.cell? ⟨wr.heap.size, 0, none⟩ = some (.slice ga (n0 + 20) gc)) := by show _ = _; rw [hwa]; exact cell_lit _ _ _
              obtain ⟨i0, hi0, hz0, hs0, hby0⟩ := infoIl
              clear og tgg hg hWx P be HI
              go_wp2_with (first | (at_builtin; refine wpList_app3 rfl (.tmp 71) (.tmp 73) 69 49 i0 (.slice none 0 0) 1 24 Try.underlying69 hi0 hz0 hs0 hby0 rfl (by decide) rfl base u5 j ((List.range j).map G) rfl (by rw [← hwa]; exact PA.out.al.1) ⟨wr.heap.size, 0, none⟩ 1 [.slice ga (n0 + 20) gc] rfl rfl (one_cell (by rw [← hwa]; exact CA.out)) (by simp; rfl) (by unfold maxLen; omega) (by omega) (by rw [← hwa]; exact PA.out.zb) ?_) | fail)
              intro all' w' rows' gr hblk
              first | rw [← hwa] at gr hblk | (rw [← hwa] at gr; try rw [← hwa] at hblk)
              try rw [← SZ.out] at hblk
              clear hwa hi0 hz0 hs0 hby0
              have hblk2 : all'.ownBlock = u5.ownBlock ∨ all'.ownBlock = some wa.heap.size := by rcases hblk with e | ⟨e, _⟩; exact .inl e; exact .inr e
              obtain ⟨tg3, P3⟩ := PA.out.done hjm (.slice ga (n0 + 20) gc) all' (by rw [HV.out]; exact OA.out) TA.out gr hblk2 rows'
              have NX : Hid (∃ tg G, Ph2 w w' base q 4 B cB m 3 1 49 qo V mkI tz tg (j + 1) (j + 1) G all') := ⟨_, _, P3⟩
              obtain ⟨la, lc, rfl⟩ := own_slice rows'
              clear PA OA TA CA SZ gr hblk hblk2 rows' P3
              go_wp2
              exact ⟨⟨j + 1, by omega, by go_num, NX⟩, by simp [intOf]; omega⟩
        · obtain rfl : j = m := by omega
          obtain ⟨tg1, G, hP⟩ := HP.out
          obtain ⟨A, cA, rfl, cG⟩ : ∃ A cA, u5 = .slice (some ⟨A, 0, none⟩) j cA ∧ ∀ i, i < j → wr.cell? ⟨A, i, none⟩ = some (G i) := by
            have hc := fun g hg => World.ownsRow.cells hP.al.1 (g := g) hg
            rcases hP.al.1.2 with ⟨_, hn0⟩ | ⟨g, cap, cur, rfl, _⟩
            · omega
            · refine ⟨g, cap, rfl, fun i hi => ?_⟩
              have := hc g rfl i (G i) (by rw [List.getElem?_map, List.getElem?_range hi]; rfl)
              rw [Addr.add_mid, Nat.zero_add] at this
              exact this
          have HC := Hid.mk' cG
          have HR : Hid (Below base w wr ∧ wr.heap[q]? = qo ∧ ∀ k, k < w.heap.size → tz k = 0 → wr.heap[k]? = w.heap[k]?) := ⟨hP.be, hP.bk.ho, fun k hk ht => (hP.fr k hk ht).2⟩
          have PP := Hid.mk' hP
          have cq := hP.bk.cq
          clear HP hP cG
          go_wp2
          go_loopw [9] (fun i wx => ∃ k : Nat, k ≤ j ∧ i = .int .i64 k ∧ wx = wr) (fun i _ => j - (intOf i).toNat)
          case atStart => exact ⟨0, by omega, rfl, rfl⟩
          case round =>
            obtain ⟨k, hk, rfl, rfl⟩ := hrel
            by_cases hkj : k < j
            · have hkj' : (k : Int) < (j : Int) := by omega
              obtain ⟨l, hl⟩ : ∃ l, V k = l := ⟨_, rfl⟩
              obtain ⟨a0, n0, k0⟩ := l
              have hnm : n0 ≤ 4398046510976 := by have := hn k hkj; rw [hl] at this; exact this
              have cg := HC.out k hkj
              have og := (PP.out.gs k hkj).1
              rw [hl] at og
              obtain ⟨nn, hnn⟩ : ∃ nn, nn = n0 + 20 := ⟨_, rfl⟩
              have hnb : nn ≤ 4398046510996 := by omega
              have og' : wr.ownsRow base 3 1 (G k) nn (rpC nn (mkI k)) := by rw [hnn]; exact og
              clear og hnn
              obtain ⟨ga, gc, e1⟩ := own_slice og'
              rw [e1] at cg og'
              have cm : wr.cell? ⟨B, k, none⟩ = some (.slice a0 n0 k0) := by have := PP.out.bk.cr k hkj; rw [hl] at this; exact this
              have Z0 := Hid.mk' (own_rd og')
              have Y0 : Hid (RdC wr a0 n0 (mkI k)) := by have := (PP.out.rd k hkj).1; rw [hl] at this; exact this
              clear hl og' e1
              go_wp2
              go_loopw [10] (fun kk wx => ∃ i : Nat, i ≤ nn ∧ kk = .int .i64 i ∧ wx = wr) (fun kk _ => nn - (intOf kk).toNat)
              case atStart => exact ⟨0, by omega, rfl, rfl⟩
              case round =>
                obtain ⟨i, hi, rfl, rfl⟩ := hrel
                by_cases hlt : i < nn
                · have hlt' : (i : Int) < (nn : Int) := by omega
                  obtain ⟨bb, bo, rfl, ck⟩ := rd1 Z0.out hlt
                  clear Z0
                  go_wp2
                  exact ⟨⟨i + 1, by omega, by go_num, trivial⟩, by simp [intOf]; omega⟩
                · obtain rfl : i = nn := by omega
                  clear hlt
                  go_wp2
                  go_loopw [12] (fun kk wx => ∃ i : Nat, i ≤ n0 ∧ kk = .int .i64 i ∧ wx = wr) (fun kk _ => n0 - (intOf kk).toNat)
                  case atStart => exact ⟨0, by omega, rfl, rfl⟩
                  case round =>
                    obtain ⟨i, hi, rfl, rfl⟩ := hrel
                    by_cases hlt : i < n0
                    · have hlt' : (i : Int) < (n0 : Int) := by omega
                      obtain ⟨bb, bo, rfl, ck⟩ := rd1 Y0.out hlt
                      clear Y0
                      go_wp2
                      exact ⟨⟨i + 1, by omega, by go_num, trivial⟩, by simp [intOf]; omega⟩
                    · obtain rfl : i = n0 := by omega
                      clear hlt
                      go_wp2
                      exact ⟨⟨k + 1, by omega, by go_num, trivial⟩, by simp [intOf]; omega⟩
            · obtain rfl : k = j := by omega
              clear hkj
              go_wp2
              go_ret
              exact ⟨rfl, HR.out.1, HR.out.2.1, HR.out.2.2⟩
end Go.Proofs.Ytdajeabhhkgibaa.B

namespace Go.Proofs.Ytdajeabhhkgibaa.B
open Go.RowKit
set_option linter.unusedVariables false
set_option linter.unusedSimpArgs false

/-- The mark of a list. -/
def mkU (i : Nat) : List Value := [.int .u8 ((48 + (i : Int)) % 256)]
theorem mkU_one (i : Nat) : ∀ u ∈ mkU i, u.oneCell' = true := by
  intro u hu
  simp [mkU] at hu
  subst hu
  rfl
theorem infoU : ∃ i, Try.prog.info? 5 = some i ∧ i.zero = some (.int .u8 0) ∧ i.size = 1 ∧ i.bytes = 1 := info_parts (by kernel_rfl)
theorem infoUl : ∃ i, Try.prog.info? 53 = some i ∧ i.zero = some (.slice none 0 0) ∧ i.size = 1 ∧ i.bytes = 24 := info_parts (by kernel_rfl)
set_option maxRecDepth 100000 in
set_option maxHeartbeats 4000000 in
theorem aloneBytes_any (q B cB base N : Nat) (qo : Option Obj) (V : Nat → Lst) (L : Nat → List Value) (tz : Nat → Nat) (w : World) (hN1 : 1 ≤ N) (hN : N ≤ 1000) (hn : ∀ i, i < N → (V i).n ≤ 4398046510976)
    (h : Ph1 w w base q 0 B cB N 5 1 qo V tz L) (hbase : base ≤ w.heap.size) :
    Calls Try.prog 78 #[.pointer (some ⟨q, 0, none⟩)] w fun e w' => e = .returned (.bool true) ∧ Below base w w' ∧ w'.heap[q]? = qo ∧ ∀ k, k < w.heap.size → tz k = 0 → w'.heap[k]? = w.heap[k]? := by
  have HP0 := Hid.mk' h
  have HL : Hid (∀ i, i < N → (L i).length = (V i).n) := fun i hi => (h.ow i hi).1.1.trans (Nat.mul_one _)
  clear h
  go_enter Try.func78, Try.ntmps78
  go_wp2
  go_loopw [3] (fun i wr => ∃ m : Nat, m ≤ N ∧ i = .int .i64 m ∧ Hid (Ph1 w wr base q 0 B cB N 5 1 qo V tz (mF V mkU L m))) (fun i _ => N - (intOf i).toNat)
  case atStart => exact ⟨0, by omega, rfl, by show Ph1 _ _ _ _ _ _ _ _ _ _ _ _ _ _; have : mF V mkU L 0 = L := by (funext i; unfold mF; rw [if_neg (by omega)])
                                              rw [this]; exact HP0.out⟩
  case round =>
    clear HP0
    obtain ⟨m, hm, rfl, HP⟩ := hrel
    by_cases hlt : m < N
    · have hlt' : (m : Int) < (N : Int) := by omega
      obtain ⟨l, hl⟩ : ∃ l, V m = l := ⟨_, rfl⟩
      obtain ⟨a0, n0, k0⟩ := l
      have hnm : n0 ≤ 4398046510976 := by have := hn m hlt; rw [hl] at this; exact this
      have hLm : (L m).length = n0 := by have := HL.out m hlt; rw [hl] at this; exact this
      have HS : Hid (Ph1 w wr base q 0 B cB N 5 1 qo V tz (upF (mF V mkU L m) m (fillC 0 (mkU m) (L m)))) := by show Ph1 _ _ _ _ _ _ _ _ _ _ _ _ _ _; rw [mF_start]; exact HP.out
      have HV := Hid.mk' hl
      have cq := HP.out.bk.cq
      clear HP hl
      go_wp2
      go_loopw [4] (fun kk wx => ∃ k : Nat, k ≤ n0 ∧ kk = .int .i64 k ∧ Hid (Ph1 w wx base q 0 B cB N 5 1 qo V tz (upF (mF V mkU L m) m (fillC k (mkU m) (L m))))) (fun kk _ => n0 - (intOf kk).toNat)
      case atStart => exact ⟨0, by omega, rfl, HS⟩
      case round =>
        clear HS cq
        obtain ⟨k, hk, rfl, HP⟩ := hrel
        have cq := HP.out.bk.cq
        have cm : wr.cell? ⟨B, m, none⟩ = some (.slice a0 n0 k0) := by have := HP.out.bk.cr m hlt; rw [HV.out] at this; exact this
        by_cases hkn : k < n0
        · have hkn' : (k : Int) < (n0 : Int) := by omega
          obtain ⟨oo, _⟩ := HP.out.ow m hlt
          rw [HV.out] at oo
          obtain ⟨g, rfl, hg1⟩ : ∃ g, a0 = some ⟨g, 0, none⟩ ∧ base ≤ g := by
            rcases oo.2 with ⟨e, _⟩ | ⟨g, cap, cur, e, hbg, _⟩
            · simp only [Lst.v, Value.slice.injEq] at e; omega
            · simp only [Lst.v, Value.slice.injEq] at e; exact ⟨g, e.1, hbg⟩
          obtain ⟨xa, dc, df⟩ := own_get1 oo hkn
          have NX : Hid (Ph1 w (wr.setCell ⟨g, k, none⟩ (.int .u8 ((48 + (m : Int)) % 256))) base q 0 B cB N 5 1 qo V tz (upF (mF V mkU L m) m (fillC (k + 1) (mkU m) (L m)))) := HP.out.set1 hlt (by omega) (by rw [HV.out]) hg1
          clear oo HP
          go_wp2
          exact ⟨⟨k + 1, by omega, by go_num, NX⟩, by simp [intOf]; omega⟩
        · obtain rfl : k = n0 := by omega
          have NX : Hid (Ph1 w wr base q 0 B cB N 5 1 qo V tz (mF V mkU L (m + 1))) := by
            show Ph1 _ _ _ _ _ _ _ _ _ _ _ _ _ _
            rw [← mF_end V mkU L m (by rw [HV.out]; exact hLm.trans (Nat.mul_one _).symm), HV.out]
            exact HP.out
          clear HP
          go_wp2
          exact ⟨⟨m + 1, by omega, by go_num, NX⟩, by simp [intOf]; omega⟩
    · obtain rfl : m = N := by omega
      have zb : base ≤ wr.heap.size := Nat.le_trans hbase HP.out.be.size
      have hz00 : w.heap.size ≤ wr.heap.size := HP.out.be.size
      have HQ : Hid (∃ tg G, Ph2 w wr base q 0 B cB m 5 1 53 qo V mkU tz tg 0 0 G (.slice none 0 0)) := ⟨_, _, ph2_start HP.out zb hz00⟩
      have cq := HP.out.bk.cq
      clear HP HL zb
      go_wp2
      clear cq
      go_loopw [5, 6] (fun all i wr => ∃ j : Nat, j ≤ m ∧ i = .int .i64 j ∧ Hid (∃ tg G, Ph2 w wr base q 0 B cB m 5 1 53 qo V mkU tz tg j j G all)) (fun _ i _ => m - (intOf i).toNat)
      case atStart => exact ⟨0, by omega, rfl, HQ⟩
      case round =>
        clear HQ
        obtain ⟨j, hj, rfl, HP⟩ := hrel
        by_cases hjm : j < m
        · have hjm' : (j : Int) < (m : Int) := by omega
          obtain ⟨tg1, G, hP⟩ := HP.out
          obtain ⟨l, hl⟩ : ∃ l, V j = l := ⟨_, rfl⟩
          obtain ⟨a0, n0, k0⟩ := l
          have hnm : n0 ≤ 4398046510976 := by have := hn j hjm; rw [hl] at this; exact this
          have HV := Hid.mk' hl
          have oo : wr.ownsRow base 5 1 (.slice a0 n0 k0) n0 (rpC n0 (mkU j)) := by have := hP.ow j (Nat.le_refl _) hjm; rw [hl] at this; exact this
          have to : Tg tg1 (.slice a0 n0 k0) (j + 1) := by have := (hP.rd j hjm).2.1; rw [hl] at this; exact this
          obtain ⟨W, hW1, hW2⟩ : ∃ W, wr.heap.size ≤ W ∧ W ≤ wr.heap.size := ⟨_, Nat.le_refl _, Nat.le_refl _⟩
          have hv : Hid (∀ b off, 0 < n0 → a0 = some ⟨b, off, none⟩ → (Value.slice a0 n0 k0).ownBlock = some b ∧ off = 0 ∧ b < W) := fun b off hn e => by
            rcases oo.2 with ⟨e1, _⟩ | ⟨g, cap, cur, e1, _, hg, _⟩
            · simp at e1; omega
            · simp only [Value.slice.injEq] at e1
              rw [e] at e1
              obtain ⟨e2, _⟩ := e1
              simp at e2
              have := (Array.getElem?_eq_some_iff.1 hg).1
              exact ⟨by rw [e]; rfl, e2.2, by omega⟩
          have HI : Hid (∃ tg, Ph2 w wr base q 0 B cB m 5 1 53 qo V mkU tz tg (j + 1) j G u5 ∧ Gr wr base 5 1 W tg (mkU j) j n0 k0 0 a0 (.slice a0 n0 k0)) := ⟨tg1, hP.weak _ (by omega), oo, to, .inl rfl, hW2⟩
          have cq := hP.bk.cq
          have cm : wr.cell? ⟨B, j, none⟩ = some (.slice a0 n0 k0) := by have := hP.bk.cr j hjm; rw [hl] at this; exact this
          clear oo to hP HP hl hW1 hW2
          go_wp2
          clear cq cm
          go_loopw [7, 8] (fun g kk wx => ∃ k : Nat, k ≤ 20 ∧ kk = .int .i64 k ∧ Hid (∃ tg, Ph2 w wx base q 0 B cB m 5 1 53 qo V mkU tz tg (j + 1) j G u5 ∧ Gr wx base 5 1 W tg (mkU j) j n0 k0 k a0 g)) (fun _ kk _ => 20 - (intOf kk).toNat)
          case atStart => exact ⟨0, by omega, rfl, HI⟩
          case round =>
            clear HI
            obtain ⟨k, hk, rfl, HI⟩ := hrel
            by_cases hlt : k < 20
            · have hlt' : (k : Int) < 20 := by omega
              obtain ⟨tg2, P, og, tgg, hg, hWx⟩ := HI.out
              obtain ⟨wa, hwa⟩ : ∃ wa, wa = wr.alloc (.cells #[.int .u8 ((48 + (j : Int)) % 256)] 5) := ⟨_, rfl⟩
              have be : Below wr.heap.size wr wa := by rw [hwa]; exact (Below.refl _ _).alloc (Nat.le_refl _) _
              have OA : Hid (wa.ownsRow base 5 1 u7 (n0 + k) (rpC (n0 + k) (mkU j))) := own_below og be
              have NA : Hid (∀ jj u, (mkU j)[jj]? = some u → wa.cell? ((⟨wr.heap.size, 0, none⟩ : Addr).add jj) = some u) := by rw [hwa]; exact one_cell (cell_lit _ _ _)
              have PA : Hid (Ph2 w wa base q 0 B cB m 5 1 53 qo V mkU tz tg2 (j + 1) j G u5) := P.below be
              have ZA : Hid (base ≤ wa.heap.size) := PA.out.zb
              have WA : Hid (W ≤ wa.heap.size) := Nat.le_trans hWx be.size
              have TA := Hid.mk' tgg
              have GA := Hid.mk' hg
              have SZ : Hid (wa.heap.size = wr.heap.size + 1) := by show _ = _; rw [hwa]; simp
              obtain ⟨i0, hi0, hz0, hs0, hby0⟩ := infoU
              clear og tgg hg hWx P be HI
              go_wp2_with (first
                | (at_builtin; refine wpList_app3 rfl (.tmp 67) (.tmp 71) 53 5 i0 (.int .u8 0) 1 1 Try.underlying53 hi0 hz0 hs0 hby0 rfl (by decide) rfl base u7 (n0 + k) (rpC (n0 + k) (mkU j)) rfl (by rw [← hwa]; exact OA.out) ⟨wr.heap.size, 0, none⟩ 1 (mkU j) rfl rfl (by rw [← hwa]; exact NA.out) (mkU_one j) (by unfold maxLen; omega) (by omega) (by rw [← hwa]; exact ZA.out) ?_)
                | fail)
              intro g' w' own' gr h4
              rw [rpC_succ] at own'
              first | rw [← hwa] at gr h4 | (rw [← hwa] at gr; try rw [← hwa] at h4)
              try rw [← SZ.out] at h4
              clear hwa hi0 hz0 hs0 hby0
              have YA : RdC wa a0 n0 (mkU j) := by have := (PA.out.rd j hjm).1; rw [HV.out] at this; exact this
              obtain ⟨yn, gn⟩ := grow_step (cap := k0) WA.out (by show 0 < 1; decide) YA hv.out own' gr h4 GA.out
              have hl2 : ∀ b, u7.ownBlock = some b → base ≤ b ∧ b < wa.heap.size := fun b e => World.ownsRow.lt OA.out b e
              have h5 : g'.ownBlock = u7.ownBlock ∨ g'.ownBlock = some wa.heap.size := by rcases h4 with e | ⟨e, _⟩; exact .inl e; exact .inr e
              have hrd : ∀ i, i + 1 = j + 1 → i < m → RdC w' (V i).a (V i).n (mkU i) := fun i e hi => by
                obtain rfl : i = j := by omega
                rw [HV.out]
                exact yn
              obtain ⟨P2, T2⟩ := PA.out.grow (j + 1) u7 g' (by omega) gr TA.out hl2 h5 hrd (fun i h1 _ => by omega) (fun i hi => by omega) (by omega)
              have NX : Hid (∃ tg, Ph2 w w' base q 0 B cB m 5 1 53 qo V mkU tz tg (j + 1) j G u5 ∧ Gr w' base 5 1 W tg (mkU j) j n0 k0 (k + 1) a0 g') := ⟨_, P2, own', T2, gn, Nat.le_trans WA.out gr.size⟩
              obtain ⟨ga, gc, rfl⟩ := own_slice own'
              clear OA NA PA ZA WA TA GA SZ gr h4 YA yn gn hl2 h5 P2 T2 own' hrd
              go_wp2
              exact ⟨⟨k + 1, by omega, by go_num, NX⟩, by simp [intOf]; omega⟩
            · obtain rfl : k = 20 := by omega
              clear hlt
              obtain ⟨tg2, P, og, tgg, hg, hWx⟩ := HI.out
              obtain ⟨ga, gc, rfl⟩ := own_slice og
              obtain ⟨wa, hwa⟩ : ∃ wa, wa = wr.alloc (.cells #[.slice ga (n0 + 20) gc] 53) := ⟨_, rfl⟩
              have be : Below wr.heap.size wr wa := by rw [hwa]; exact (Below.refl _ _).alloc (Nat.le_refl _) _
              have PA : Hid (Ph2 w wa base q 0 B cB m 5 1 53 qo V mkU tz tg2 (j + 1) j G u5) := P.below be
              have OA : Hid (wa.ownsRow base 5 1 (.slice ga (n0 + 20) gc) (n0 + 20) (rpC (n0 + 20) (mkU j))) := own_below og be
              have TA := Hid.mk' tgg
              have SZ : Hid (wa.heap.size = wr.heap.size + 1) := by show _ = _; rw [hwa]; simp
              have CA : Hid (wa.cell? ⟨wr.heap.size, 0, none⟩ = some (.slice ga (n0 + 20) gc)) := by show _ = _; rw [hwa]; exact cell_lit _ _ _
              obtain ⟨i0, hi0, hz0, hs0, hby0⟩ := infoUl
              clear og tgg hg hWx P be HI
              go_wp2_with (first | (at_builtin; refine wpList_app3 rfl (.tmp 73) (.tmp 75) 65 53 i0 (.slice none 0 0) 1 24 Try.underlying65 hi0 hz0 hs0 hby0 rfl (by decide) rfl base u5 j ((List.range j).map G) rfl (by rw [← hwa]; exact PA.out.al.1) ⟨wr.heap.size, 0, none⟩ 1 [.slice ga (n0 + 20) gc] rfl rfl (one_cell (by rw [← hwa]; exact CA.out)) (by simp; rfl) (by unfold maxLen; omega) (by omega) (by rw [← hwa]; exact PA.out.zb) ?_) | fail)
              intro all' w' rows' gr hblk
              first | rw [← hwa] at gr hblk | (rw [← hwa] at gr; try rw [← hwa] at hblk)
              try rw [← SZ.out] at hblk
              clear hwa hi0 hz0 hs0 hby0
              have hblk2 : all'.ownBlock = u5.ownBlock ∨ all'.ownBlock = some wa.heap.size := by rcases hblk with e | ⟨e, _⟩; exact .inl e; exact .inr e
              obtain ⟨tg3, P3⟩ := PA.out.done hjm (.slice ga (n0 + 20) gc) all' (by rw [HV.out]; exact OA.out) TA.out gr hblk2 rows'
              have NX : Hid (∃ tg G, Ph2 w w' base q 0 B cB m 5 1 53 qo V mkU tz tg (j + 1) (j + 1) G all') := ⟨_, _, P3⟩
              obtain ⟨la, lc, rfl⟩ := own_slice rows'
              clear PA OA TA CA SZ gr hblk hblk2 rows' P3
              go_wp2
              exact ⟨⟨j + 1, by omega, by go_num, NX⟩, by simp [intOf]; omega⟩
        · obtain rfl : j = m := by omega
          obtain ⟨tg1, G, hP⟩ := HP.out
          obtain ⟨A, cA, rfl, cG⟩ : ∃ A cA, u5 = .slice (some ⟨A, 0, none⟩) j cA ∧ ∀ i, i < j → wr.cell? ⟨A, i, none⟩ = some (G i) := by
            have hc := fun g hg => World.ownsRow.cells hP.al.1 (g := g) hg
            rcases hP.al.1.2 with ⟨_, hn0⟩ | ⟨g, cap, cur, rfl, _⟩
            · omega
            · refine ⟨g, cap, rfl, fun i hi => ?_⟩
              have := hc g rfl i (G i) (by rw [List.getElem?_map, List.getElem?_range hi]; rfl)
              rw [Addr.add_mid, Nat.zero_add] at this
              exact this
          have HC := Hid.mk' cG
          have HR : Hid (Below base w wr ∧ wr.heap[q]? = qo ∧ ∀ k, k < w.heap.size → tz k = 0 → wr.heap[k]? = w.heap[k]?) := ⟨hP.be, hP.bk.ho, fun k hk ht => (hP.fr k hk ht).2⟩
          have PP := Hid.mk' hP
          have cq := hP.bk.cq
          clear HP hP cG
          go_wp2
          go_loopw [9] (fun i wx => ∃ k : Nat, k ≤ j ∧ i = .int .i64 k ∧ wx = wr) (fun i _ => j - (intOf i).toNat)
          case atStart => exact ⟨0, by omega, rfl, rfl⟩
          case round =>
            obtain ⟨k, hk, rfl, rfl⟩ := hrel
            by_cases hkj : k < j
            · have hkj' : (k : Int) < (j : Int) := by omega
              obtain ⟨l, hl⟩ : ∃ l, V k = l := ⟨_, rfl⟩
              obtain ⟨a0, n0, k0⟩ := l
              have hnm : n0 ≤ 4398046510976 := by have := hn k hkj; rw [hl] at this; exact this
              have cg := HC.out k hkj
              have og := (PP.out.gs k hkj).1
              rw [hl] at og
              obtain ⟨nn, hnn⟩ : ∃ nn, nn = n0 + 20 := ⟨_, rfl⟩
              have hnb : nn ≤ 4398046510996 := by omega
              have og' : wr.ownsRow base 5 1 (G k) nn (rpC nn (mkU k)) := by rw [hnn]; exact og
              clear og hnn
              obtain ⟨ga, gc, e1⟩ := own_slice og'
              rw [e1] at cg og'
              have cm : wr.cell? ⟨B, k, none⟩ = some (.slice a0 n0 k0) := by have := PP.out.bk.cr k hkj; rw [hl] at this; exact this
              have Z0 := Hid.mk' (own_rd og')
              have Y0 : Hid (RdC wr a0 n0 (mkU k)) := by have := (PP.out.rd k hkj).1; rw [hl] at this; exact this
              clear hl og' e1
              go_wp2
              go_loopw [10] (fun kk wx => ∃ i : Nat, i ≤ nn ∧ kk = .int .i64 i ∧ wx = wr) (fun kk _ => nn - (intOf kk).toNat)
              case atStart => exact ⟨0, by omega, rfl, rfl⟩
              case round =>
                obtain ⟨i, hi, rfl, rfl⟩ := hrel
                by_cases hlt : i < nn
                · have hlt' : (i : Int) < (nn : Int) := by omega
                  obtain ⟨bb, bo, rfl, ck⟩ := rd1 Z0.out hlt
                  clear Z0
                  go_wp2
                  exact ⟨⟨i + 1, by omega, by go_num, trivial⟩, by simp [intOf]; omega⟩
                · obtain rfl : i = nn := by omega
                  clear hlt
                  go_wp2
                  go_loopw [12] (fun kk wx => ∃ i : Nat, i ≤ n0 ∧ kk = .int .i64 i ∧ wx = wr) (fun kk _ => n0 - (intOf kk).toNat)
                  case atStart => exact ⟨0, by omega, rfl, rfl⟩
                  case round =>
                    obtain ⟨i, hi, rfl, rfl⟩ := hrel
                    by_cases hlt : i < n0
                    · have hlt' : (i : Int) < (n0 : Int) := by omega
                      obtain ⟨bb, bo, rfl, ck⟩ := rd1 Y0.out hlt
                      clear Y0
                      go_wp2
                      exact ⟨⟨i + 1, by omega, by go_num, trivial⟩, by simp [intOf]; omega⟩
                    · obtain rfl : i = n0 := by omega
                      clear hlt
                      go_wp2
                      exact ⟨⟨k + 1, by omega, by go_num, trivial⟩, by simp [intOf]; omega⟩
            · obtain rfl : k = j := by omega
              clear hkj
              go_wp2
              go_ret
              exact ⟨rfl, HR.out.1, HR.out.2.1, HR.out.2.2⟩
end Go.Proofs.Ytdajeabhhkgibaa.B

namespace Go.Proofs.Ytdajeabhhkgibaa
open Go.RowKit
set_option linter.unusedVariables false
set_option linter.unusedSimpArgs false

set_option maxRecDepth 100000 in
set_option maxHeartbeats 1000000 in
theorem aloneHashes (q : Nat) (w : World) (c : w.cell? ⟨q, 1, none⟩ = some (.slice none 0 0)) :
    Calls Try.prog 79 #[.pointer (some ⟨q, 0, none⟩)] w fun e w' => e = .returned (.bool true) ∧ w' = w := by
  go_enter Try.func79, Try.ntmps79
  go_wp2
  go_loopw [3] (fun i wr => i = .int .i64 0 ∧ wr = w) (fun _ _ => 0)
  case atStart => exact ⟨rfl, rfl⟩
  case round =>
    obtain ⟨rfl, rfl⟩ := hrel
    go_wp2
    go_loopw [5, 6] (fun all i wy => all = .slice none 0 0 ∧ i = .int .i64 0 ∧ wy = wr) (fun _ _ _ => 0)
    case atStart => exact ⟨rfl, rfl, rfl⟩
    case round =>
      obtain ⟨rfl, rfl, rfl⟩ := hrel
      go_wp2
      go_loopw [9] (fun i wz => i = .int .i64 0 ∧ wz = wr) (fun _ _ => 0)
      case atStart => exact ⟨rfl, rfl⟩
      case round =>
        obtain ⟨rfl, rfl⟩ := hrel
        go_wp2
        go_ret
        exact ⟨rfl, rfl⟩
set_option maxRecDepth 100000 in
set_option maxHeartbeats 1000000 in
theorem aloneIds (q : Nat) (w : World) (c : w.cell? ⟨q, 2, none⟩ = some (.slice none 0 0)) :
    Calls Try.prog 80 #[.pointer (some ⟨q, 0, none⟩)] w fun e w' => e = .returned (.bool true) ∧ w' = w := by
  go_enter Try.func80, Try.ntmps80
  go_wp2
  go_loopw [3] (fun i wr => i = .int .i64 0 ∧ wr = w) (fun _ _ => 0)
  case atStart => exact ⟨rfl, rfl⟩
  case round =>
    obtain ⟨rfl, rfl⟩ := hrel
    go_wp2
    go_loopw [5, 6] (fun all i wy => all = .slice none 0 0 ∧ i = .int .i64 0 ∧ wy = wr) (fun _ _ _ => 0)
    case atStart => exact ⟨rfl, rfl, rfl⟩
    case round =>
      obtain ⟨rfl, rfl, rfl⟩ := hrel
      go_wp2
      go_loopw [9] (fun i wz => i = .int .i64 0 ∧ wz = wr) (fun _ _ => 0)
      case atStart => exact ⟨rfl, rfl⟩
      case round =>
        obtain ⟨rfl, rfl⟩ := hrel
        go_wp2
        go_ret
        exact ⟨rfl, rfl⟩
set_option maxRecDepth 100000 in
set_option maxHeartbeats 1000000 in
theorem aloneTexts (q : Nat) (w : World) (c : w.cell? ⟨q, 3, none⟩ = some (.slice none 0 0)) :
    Calls Try.prog 81 #[.pointer (some ⟨q, 0, none⟩)] w fun e w' => e = .returned (.bool true) ∧ w' = w := by
  go_enter Try.func81, Try.ntmps81
  go_wp2
  go_loopw [3] (fun i wr => i = .int .i64 0 ∧ wr = w) (fun _ _ => 0)
  case atStart => exact ⟨rfl, rfl⟩
  case round =>
    obtain ⟨rfl, rfl⟩ := hrel
    go_wp2
    go_loopw [5, 6] (fun all i wy => all = .slice none 0 0 ∧ i = .int .i64 0 ∧ wy = wr) (fun _ _ _ => 0)
    case atStart => exact ⟨rfl, rfl, rfl⟩
    case round =>
      obtain ⟨rfl, rfl, rfl⟩ := hrel
      go_wp2
      go_loopw [9] (fun i wz => i = .int .i64 0 ∧ wz = wr) (fun _ _ => 0)
      case atStart => exact ⟨rfl, rfl⟩
      case round =>
        obtain ⟨rfl, rfl⟩ := hrel
        go_wp2
        go_ret
        exact ⟨rfl, rfl⟩
set_option maxRecDepth 100000 in
set_option maxHeartbeats 1000000 in
theorem aloneInts (q : Nat) (w : World) (c : w.cell? ⟨q, 4, none⟩ = some (.slice none 0 0)) :
    Calls Try.prog 82 #[.pointer (some ⟨q, 0, none⟩)] w fun e w' => e = .returned (.bool true) ∧ w' = w := by
  go_enter Try.func82, Try.ntmps82
  go_wp2
  go_loopw [3] (fun i wr => i = .int .i64 0 ∧ wr = w) (fun _ _ => 0)
  case atStart => exact ⟨rfl, rfl⟩
  case round =>
    obtain ⟨rfl, rfl⟩ := hrel
    go_wp2
    go_loopw [5, 6] (fun all i wy => all = .slice none 0 0 ∧ i = .int .i64 0 ∧ wy = wr) (fun _ _ _ => 0)
    case atStart => exact ⟨rfl, rfl, rfl⟩
    case round =>
      obtain ⟨rfl, rfl, rfl⟩ := hrel
      go_wp2
      go_loopw [9] (fun i wz => i = .int .i64 0 ∧ wz = wr) (fun _ _ => 0)
      case atStart => exact ⟨rfl, rfl⟩
      case round =>
        obtain ⟨rfl, rfl⟩ := hrel
        go_wp2
        go_ret
        exact ⟨rfl, rfl⟩
set_option maxRecDepth 100000 in
set_option maxHeartbeats 1000000 in
theorem aloneEntries (q : Nat) (w : World) (c : w.cell? ⟨q, 5, none⟩ = some (.slice none 0 0)) :
    Calls Try.prog 83 #[.pointer (some ⟨q, 0, none⟩)] w fun e w' => e = .returned (.bool true) ∧ w' = w := by
  go_enter Try.func83, Try.ntmps83
  go_wp2
  go_loopw [3] (fun i wr => i = .int .i64 0 ∧ wr = w) (fun _ _ => 0)
  case atStart => exact ⟨rfl, rfl⟩
  case round =>
    obtain ⟨rfl, rfl⟩ := hrel
    go_wp2
    go_loopw [5, 6] (fun all i wy => all = .slice none 0 0 ∧ i = .int .i64 0 ∧ wy = wr) (fun _ _ _ => 0)
    case atStart => exact ⟨rfl, rfl, rfl⟩
    case round =>
      obtain ⟨rfl, rfl, rfl⟩ := hrel
      go_wp2
      go_loopw [9] (fun i wz => i = .int .i64 0 ∧ wz = wr) (fun _ _ => 0)
      case atStart => exact ⟨rfl, rfl⟩
      case round =>
        obtain ⟨rfl, rfl⟩ := hrel
        go_wp2
        go_ret
        exact ⟨rfl, rfl⟩
set_option maxRecDepth 100000 in
set_option maxHeartbeats 1000000 in
theorem aloneEdits (q : Nat) (w : World) (c : w.cell? ⟨q, 6, none⟩ = some (.slice none 0 0)) :
    Calls Try.prog 84 #[.pointer (some ⟨q, 0, none⟩)] w fun e w' => e = .returned (.bool true) ∧ w' = w := by
  go_enter Try.func84, Try.ntmps84
  go_wp2
  go_loopw [3] (fun i wr => i = .int .i64 0 ∧ wr = w) (fun _ _ => 0)
  case atStart => exact ⟨rfl, rfl⟩
  case round =>
    obtain ⟨rfl, rfl⟩ := hrel
    go_wp2
    go_loopw [5, 6] (fun all i wy => all = .slice none 0 0 ∧ i = .int .i64 0 ∧ wy = wr) (fun _ _ _ => 0)
    case atStart => exact ⟨rfl, rfl, rfl⟩
    case round =>
      obtain ⟨rfl, rfl, rfl⟩ := hrel
      go_wp2
      go_loopw [9] (fun i wz => i = .int .i64 0 ∧ wz = wr) (fun _ _ => 0)
      case atStart => exact ⟨rfl, rfl⟩
      case round =>
        obtain ⟨rfl, rfl⟩ := hrel
        go_wp2
        go_ret
        exact ⟨rfl, rfl⟩
end Go.Proofs.Ytdajeabhhkgibaa

namespace Go.Proofs.Ytdajeabhhkgibaa
open Go.RowKit
set_option linter.unusedVariables false
set_option linter.unusedSimpArgs false

set_option maxRecDepth 100000 in
set_option maxHeartbeats 1000000 in
theorem aloneOps (q : Nat) (w : World) (c : w.cell? ⟨q, 7, none⟩ = some (.slice none 0 0)) :
    Calls Try.prog 85 #[.pointer (some ⟨q, 0, none⟩)] w fun e w' => e = .returned (.bool true) ∧ w' = w := by
  go_enter Try.func85, Try.ntmps85
  go_wp2
  go_loopw [3] (fun i wr => i = .int .i64 0 ∧ wr = w) (fun _ _ => 0)
  case atStart => exact ⟨rfl, rfl⟩
  case round =>
    obtain ⟨rfl, rfl⟩ := hrel
    go_wp2
    go_loopw [5, 6] (fun all i wy => all = .slice none 0 0 ∧ i = .int .i64 0 ∧ wy = wr) (fun _ _ _ => 0)
    case atStart => exact ⟨rfl, rfl, rfl⟩
    case round =>
      obtain ⟨rfl, rfl, rfl⟩ := hrel
      go_wp2
      go_loopw [9] (fun i wz => i = .int .i64 0 ∧ wz = wr) (fun _ _ => 0)
      case atStart => exact ⟨rfl, rfl⟩
      case round =>
        obtain ⟨rfl, rfl⟩ := hrel
        go_wp2
        go_ret
        exact ⟨rfl, rfl⟩
set_option maxRecDepth 100000 in
set_option maxHeartbeats 1000000 in
theorem aloneSpans (q : Nat) (w : World) (c : w.cell? ⟨q, 8, none⟩ = some (.slice none 0 0)) :
    Calls Try.prog 86 #[.pointer (some ⟨q, 0, none⟩)] w fun e w' => e = .returned (.bool true) ∧ w' = w := by
  go_enter Try.func86, Try.ntmps86
  go_wp2
  go_loopw [3] (fun i wr => i = .int .i64 0 ∧ wr = w) (fun _ _ => 0)
  case atStart => exact ⟨rfl, rfl⟩
  case round =>
    obtain ⟨rfl, rfl⟩ := hrel
    go_wp2
    go_loopw [5, 6] (fun all i wy => all = .slice none 0 0 ∧ i = .int .i64 0 ∧ wy = wr) (fun _ _ _ => 0)
    case atStart => exact ⟨rfl, rfl, rfl⟩
    case round =>
      obtain ⟨rfl, rfl, rfl⟩ := hrel
      go_wp2
      go_loopw [9] (fun i wz => i = .int .i64 0 ∧ wz = wr) (fun _ _ => 0)
      case atStart => exact ⟨rfl, rfl⟩
      case round =>
        obtain ⟨rfl, rfl⟩ := hrel
        go_wp2
        go_ret
        exact ⟨rfl, rfl⟩
set_option maxRecDepth 100000 in
set_option maxHeartbeats 1000000 in
theorem aloneSteps (q : Nat) (w : World) (c : w.cell? ⟨q, 9, none⟩ = some (.slice none 0 0)) :
    Calls Try.prog 87 #[.pointer (some ⟨q, 0, none⟩)] w fun e w' => e = .returned (.bool true) ∧ w' = w := by
  go_enter Try.func87, Try.ntmps87
  go_wp2
  go_loopw [3] (fun i wr => i = .int .i64 0 ∧ wr = w) (fun _ _ => 0)
  case atStart => exact ⟨rfl, rfl⟩
  case round =>
    obtain ⟨rfl, rfl⟩ := hrel
    go_wp2
    go_loopw [5, 6] (fun all i wy => all = .slice none 0 0 ∧ i = .int .i64 0 ∧ wy = wr) (fun _ _ _ => 0)
    case atStart => exact ⟨rfl, rfl, rfl⟩
    case round =>
      obtain ⟨rfl, rfl, rfl⟩ := hrel
      go_wp2
      go_loopw [9] (fun i wz => i = .int .i64 0 ∧ wz = wr) (fun _ _ => 0)
      case atStart => exact ⟨rfl, rfl⟩
      case round =>
        obtain ⟨rfl, rfl⟩ := hrel
        go_wp2
        go_ret
        exact ⟨rfl, rfl⟩
set_option maxRecDepth 100000 in
set_option maxHeartbeats 1000000 in
theorem aloneCredits (q : Nat) (w : World) (c : w.cell? ⟨q, 10, none⟩ = some (.slice none 0 0)) :
    Calls Try.prog 88 #[.pointer (some ⟨q, 0, none⟩)] w fun e w' => e = .returned (.bool true) ∧ w' = w := by
  go_enter Try.func88, Try.ntmps88
  go_wp2
  go_loopw [3] (fun i wr => i = .int .i64 0 ∧ wr = w) (fun _ _ => 0)
  case atStart => exact ⟨rfl, rfl⟩
  case round =>
    obtain ⟨rfl, rfl⟩ := hrel
    go_wp2
    go_loopw [5, 6] (fun all i wy => all = .slice none 0 0 ∧ i = .int .i64 0 ∧ wy = wr) (fun _ _ _ => 0)
    case atStart => exact ⟨rfl, rfl, rfl⟩
    case round =>
      obtain ⟨rfl, rfl, rfl⟩ := hrel
      go_wp2
      go_loopw [9] (fun i wz => i = .int .i64 0 ∧ wz = wr) (fun _ _ => 0)
      case atStart => exact ⟨rfl, rfl⟩
      case round =>
        obtain ⟨rfl, rfl⟩ := hrel
        go_wp2
        go_ret
        exact ⟨rfl, rfl⟩
set_option maxRecDepth 100000 in
set_option maxHeartbeats 1000000 in
theorem aloneRights (q : Nat) (w : World) (c : w.cell? ⟨q, 11, none⟩ = some (.slice none 0 0)) :
    Calls Try.prog 89 #[.pointer (some ⟨q, 0, none⟩)] w fun e w' => e = .returned (.bool true) ∧ w' = w := by
  go_enter Try.func89, Try.ntmps89
  go_wp2
  go_loopw [3] (fun i wr => i = .int .i64 0 ∧ wr = w) (fun _ _ => 0)
  case atStart => exact ⟨rfl, rfl⟩
  case round =>
    obtain ⟨rfl, rfl⟩ := hrel
    go_wp2
    go_loopw [5, 6] (fun all i wy => all = .slice none 0 0 ∧ i = .int .i64 0 ∧ wy = wr) (fun _ _ _ => 0)
    case atStart => exact ⟨rfl, rfl, rfl⟩
    case round =>
      obtain ⟨rfl, rfl, rfl⟩ := hrel
      go_wp2
      go_loopw [9] (fun i wz => i = .int .i64 0 ∧ wz = wr) (fun _ _ => 0)
      case atStart => exact ⟨rfl, rfl⟩
      case round =>
        obtain ⟨rfl, rfl⟩ := hrel
        go_wp2
        go_ret
        exact ⟨rfl, rfl⟩
set_option maxRecDepth 100000 in
set_option maxHeartbeats 1000000 in
theorem aloneUpdates (q : Nat) (w : World) (c : w.cell? ⟨q, 12, none⟩ = some (.slice none 0 0)) :
    Calls Try.prog 90 #[.pointer (some ⟨q, 0, none⟩)] w fun e w' => e = .returned (.bool true) ∧ w' = w := by
  go_enter Try.func90, Try.ntmps90
  go_wp2
  go_loopw [3] (fun i wr => i = .int .i64 0 ∧ wr = w) (fun _ _ => 0)
  case atStart => exact ⟨rfl, rfl⟩
  case round =>
    obtain ⟨rfl, rfl⟩ := hrel
    go_wp2
    go_loopw [5, 6] (fun all i wy => all = .slice none 0 0 ∧ i = .int .i64 0 ∧ wy = wr) (fun _ _ _ => 0)
    case atStart => exact ⟨rfl, rfl, rfl⟩
    case round =>
      obtain ⟨rfl, rfl, rfl⟩ := hrel
      go_wp2
      go_loopw [9] (fun i wz => i = .int .i64 0 ∧ wz = wr) (fun _ _ => 0)
      case atStart => exact ⟨rfl, rfl⟩
      case round =>
        obtain ⟨rfl, rfl⟩ := hrel
        go_wp2
        go_ret
        exact ⟨rfl, rfl⟩
end Go.Proofs.Ytdajeabhhkgibaa

namespace Go.Proofs.Ytdajeabhhkgibaa
open Go.RowKit
set_option linter.unusedVariables false
set_option linter.unusedSimpArgs false

set_option maxRecDepth 100000 in
set_option maxHeartbeats 1000000 in
theorem aloneNodes (q : Nat) (w : World) (c : w.cell? ⟨q, 13, none⟩ = some (.slice none 0 0)) :
    Calls Try.prog 91 #[.pointer (some ⟨q, 0, none⟩)] w fun e w' => e = .returned (.bool true) ∧ w' = w := by
  go_enter Try.func91, Try.ntmps91
  go_wp2
  go_loopw [3] (fun i wr => i = .int .i64 0 ∧ wr = w) (fun _ _ => 0)
  case atStart => exact ⟨rfl, rfl⟩
  case round =>
    obtain ⟨rfl, rfl⟩ := hrel
    go_wp2
    go_loopw [5, 6] (fun all i wy => all = .slice none 0 0 ∧ i = .int .i64 0 ∧ wy = wr) (fun _ _ _ => 0)
    case atStart => exact ⟨rfl, rfl, rfl⟩
    case round =>
      obtain ⟨rfl, rfl, rfl⟩ := hrel
      go_wp2
      go_loopw [9] (fun i wz => i = .int .i64 0 ∧ wz = wr) (fun _ _ => 0)
      case atStart => exact ⟨rfl, rfl⟩
      case round =>
        obtain ⟨rfl, rfl⟩ := hrel
        go_wp2
        go_ret
        exact ⟨rfl, rfl⟩
set_option maxRecDepth 100000 in
set_option maxHeartbeats 1000000 in
theorem alonePatches (q : Nat) (w : World) (c : w.cell? ⟨q, 14, none⟩ = some (.slice none 0 0)) :
    Calls Try.prog 92 #[.pointer (some ⟨q, 0, none⟩)] w fun e w' => e = .returned (.bool true) ∧ w' = w := by
  go_enter Try.func92, Try.ntmps92
  go_wp2
  go_loopw [3] (fun i wr => i = .int .i64 0 ∧ wr = w) (fun _ _ => 0)
  case atStart => exact ⟨rfl, rfl⟩
  case round =>
    obtain ⟨rfl, rfl⟩ := hrel
    go_wp2
    go_loopw [5, 6] (fun all i wy => all = .slice none 0 0 ∧ i = .int .i64 0 ∧ wy = wr) (fun _ _ _ => 0)
    case atStart => exact ⟨rfl, rfl, rfl⟩
    case round =>
      obtain ⟨rfl, rfl, rfl⟩ := hrel
      go_wp2
      go_loopw [9] (fun i wz => i = .int .i64 0 ∧ wz = wr) (fun _ _ => 0)
      case atStart => exact ⟨rfl, rfl⟩
      case round =>
        obtain ⟨rfl, rfl⟩ := hrel
        go_wp2
        go_ret
        exact ⟨rfl, rfl⟩
set_option maxRecDepth 100000 in
set_option maxHeartbeats 1000000 in
theorem aloneImages (q : Nat) (w : World) (c : w.cell? ⟨q, 15, none⟩ = some (.slice none 0 0)) :
    Calls Try.prog 93 #[.pointer (some ⟨q, 0, none⟩)] w fun e w' => e = .returned (.bool true) ∧ w' = w := by
  go_enter Try.func93, Try.ntmps93
  go_wp2
  go_loopw [3] (fun i wr => i = .int .i64 0 ∧ wr = w) (fun _ _ => 0)
  case atStart => exact ⟨rfl, rfl⟩
  case round =>
    obtain ⟨rfl, rfl⟩ := hrel
    go_wp2
    go_loopw [5, 6] (fun all i wy => all = .slice none 0 0 ∧ i = .int .i64 0 ∧ wy = wr) (fun _ _ _ => 0)
    case atStart => exact ⟨rfl, rfl, rfl⟩
    case round =>
      obtain ⟨rfl, rfl, rfl⟩ := hrel
      go_wp2
      go_loopw [9] (fun i wz => i = .int .i64 0 ∧ wz = wr) (fun _ _ => 0)
      case atStart => exact ⟨rfl, rfl⟩
      case round =>
        obtain ⟨rfl, rfl⟩ := hrel
        go_wp2
        go_ret
        exact ⟨rfl, rfl⟩
set_option maxRecDepth 100000 in
set_option maxHeartbeats 1000000 in
theorem aloneForks (q : Nat) (w : World) (c : w.cell? ⟨q, 16, none⟩ = some (.slice none 0 0)) :
    Calls Try.prog 94 #[.pointer (some ⟨q, 0, none⟩)] w fun e w' => e = .returned (.bool true) ∧ w' = w := by
  go_enter Try.func94, Try.ntmps94
  go_wp2
  go_loopw [3] (fun i wr => i = .int .i64 0 ∧ wr = w) (fun _ _ => 0)
  case atStart => exact ⟨rfl, rfl⟩
  case round =>
    obtain ⟨rfl, rfl⟩ := hrel
    go_wp2
    go_loopw [5, 6] (fun all i wy => all = .slice none 0 0 ∧ i = .int .i64 0 ∧ wy = wr) (fun _ _ _ => 0)
    case atStart => exact ⟨rfl, rfl, rfl⟩
    case round =>
      obtain ⟨rfl, rfl, rfl⟩ := hrel
      go_wp2
      go_loopw [9] (fun i wz => i = .int .i64 0 ∧ wz = wr) (fun _ _ => 0)
      case atStart => exact ⟨rfl, rfl⟩
      case round =>
        obtain ⟨rfl, rfl⟩ := hrel
        go_wp2
        go_ret
        exact ⟨rfl, rfl⟩
set_option maxRecDepth 100000 in
set_option maxHeartbeats 1000000 in
theorem aloneRows (q : Nat) (w : World) (c : w.cell? ⟨q, 17, none⟩ = some (.slice none 0 0)) :
    Calls Try.prog 95 #[.pointer (some ⟨q, 0, none⟩)] w fun e w' => e = .returned (.bool true) ∧ w' = w := by
  go_enter Try.func95, Try.ntmps95
  go_wp2
  go_loopw [3] (fun i wr => i = .int .i64 0 ∧ wr = w) (fun _ _ => 0)
  case atStart => exact ⟨rfl, rfl⟩
  case round =>
    obtain ⟨rfl, rfl⟩ := hrel
    go_wp2
    go_loopw [5, 6] (fun all i wy => all = .slice none 0 0 ∧ i = .int .i64 0 ∧ wy = wr) (fun _ _ _ => 0)
    case atStart => exact ⟨rfl, rfl, rfl⟩
    case round =>
      obtain ⟨rfl, rfl, rfl⟩ := hrel
      go_wp2
      go_loopw [9] (fun i wz => i = .int .i64 0 ∧ wz = wr) (fun _ _ => 0)
      case atStart => exact ⟨rfl, rfl⟩
      case round =>
        obtain ⟨rfl, rfl⟩ := hrel
        go_wp2
        go_ret
        exact ⟨rfl, rfl⟩
end Go.Proofs.Ytdajeabhhkgibaa

namespace Go.Proofs.Ytdajeabhhkgibaa
open Go.RowKit
set_option linter.unusedVariables false
set_option linter.unusedSimpArgs false

/-- The document's filter in memory: its cells. -/
structure RC (w : World) (q g bits probes : Nat) : Prop where
  c0 : w.cell? ⟨q, 0, none⟩ = some (.slice (some ⟨g, 0, none⟩) bits bits)
  c1 : w.cell? ⟨q, 1, none⟩ = some (.int .i64 (probes : Int))
  ne : g ≠ q
theorem RC.of {w w' : World} {q g bits probes : Nat} (h : RC w q g bits probes) (e : w'.heap[q]? = w.heap[q]?) : RC w' q g bits probes :=
  ⟨(World.cell?_of_block (w := w) (a := ⟨q, 0, none⟩) e).trans h.c0, (World.cell?_of_block (w := w) (a := ⟨q, 1, none⟩) e).trans h.c1, h.ne⟩
theorem RC.lt {w : World} {q g bits probes : Nat} (h : RC w q g bits probes) : q < w.heap.size := World.block_lt_of_cell? _ _ h.c0
/-- .. its bits. -/
def RB (w : World) (g bits : Nat) (f : Nat → Bool) : Prop := w.rowIs g 4 bits (fun i => .bool (f i))
structure RW (w : World) (q g bits probes : Nat) (f : Nat → Bool) : Prop where
  rc : RC w q g bits probes
  rb : RB w g bits f
theorem RW.of {w w' : World} {q g bits probes : Nat} {f : Nat → Bool} (h : RW w q g bits probes f) (e1 : w'.heap[q]? = w.heap[q]?) (e2 : w'.heap[g]? = w.heap[g]?) : RW w' q g bits probes f := ⟨h.rc.of e1, h.rb.of_block e2⟩
theorem RW.below {w w' : World} {q g bits probes : Nat} {f : Nat → Bool} (h : RW w q g bits probes f) (hb : Below w.heap.size w w') : RW w' q g bits probes f := h.of (hb.block _ h.rc.lt) (hb.block _ h.rb.lt)
theorem info4x : (Try.prog.info? 4).map (fun i => (i.zero, i.size, i.bytes)) = some (some (.bool false), 1, 1) := by kernel_rfl
set_option maxRecDepth 100000 in
theorem rbits_x (q g bits probes : Nat) (w : World) (h : RC w q g bits probes) : Calls Try.prog 52 #[.pointer (some ⟨q, 0, none⟩)] w fun e w' => e = .returned (.int .i64 (bits : Int)) ∧ w' = w := by
  have hc := h.c0
  clear h
  go_enter Try.func52, Try.ntmps52
  go_wp2
  go_ret
  exact ⟨rfl, rfl⟩
set_option maxRecDepth 100000 in
theorem rprobes_x (q g bits probes : Nat) (w : World) (h : RC w q g bits probes) : Calls Try.prog 54 #[.pointer (some ⟨q, 0, none⟩)] w fun e w' => e = .returned (.int .i64 (probes : Int)) ∧ w' = w := by
  have hc := h.c1
  clear h
  go_enter Try.func54, Try.ntmps54
  go_wp2
  go_ret
  exact ⟨rfl, rfl⟩
set_option maxRecDepth 100000 in
set_option maxHeartbeats 2000000 in
theorem rnew_ok (bits probes : Nat) (w : World) (h1 : 8 ≤ bits) (h2 : bits ≤ 65536) (h3 : bits % 8 = 0) (h4 : 1 ≤ probes) (h5 : probes ≤ 16) :
    Calls Try.prog 19 #[.int .i64 (bits : Int), .int .i64 (probes : Int)] w fun e w' => e = .returned (.tuple #[.pointer (some ⟨w.heap.size + 1, 0, none⟩), .int .i64 0]) ∧ RW w' (w.heap.size + 1) w.heap.size bits probes (fun _ => false) ∧ Below w.heap.size w w' ∧ w.heap.size + 1 < w'.heap.size := by
  have mk2 := run_make_row' (P := Try.prog) 99 4 (.bool false) 1 Try.underlying99 info4x rfl .i64 .i64 bits (by omega) (by omega)
  have e1 : ¬ (bits : Int) < 8 := by omega
  have e2 : ¬ (65536 : Int) < (bits : Int) := by omega
  have e3 : (bits : Int).tmod 8 = 0 := by rw [Int.tmod_eq_emod_of_nonneg (by omega)]; omega
  have e4 : ¬ (probes : Int) < 1 := by omega
  have e5 : ¬ (16 : Int) < (probes : Int) := by omega
  have HW : Hid (RW ((w.alloc (.cells (madeCells #[.bool false] bits) 4)).alloc (.cells #[.slice (some ⟨w.heap.size, 0, none⟩) bits bits, .int .i64 (probes : Int)] 101)) (w.heap.size + 1) w.heap.size bits probes (fun _ => false) ∧ Below w.heap.size w ((w.alloc (.cells (madeCells #[.bool false] bits) 4)).alloc (.cells #[.slice (some ⟨w.heap.size, 0, none⟩) bits bits, .int .i64 (probes : Int)] 101))) := by
    have g := heap_alloc_new (w.alloc (.cells (madeCells #[.bool false] bits) 4)) (.cells #[.slice (some ⟨w.heap.size, 0, none⟩) bits bits, .int .i64 (probes : Int)] 101)
    rw [World.size_alloc] at g
    refine ⟨⟨⟨(cell_of_row _ _ 0 _ _ _ g).trans rfl, (cell_of_row _ _ 1 _ _ _ g).trans rfl, by omega⟩, ?_⟩, ((Below.refl _ _).alloc (Nat.le_refl _) _).alloc (by simp) _⟩
    exact ((World.rowIs_made w (.bool false) bits 4).alloc _)
  clear h3
  go_enter Try.func19, Try.ntmps19
  go_wp2
  go_ret2
  exact ⟨rfl, HW.out.1, HW.out.2, by simp⟩
set_option maxRecDepth 100000 in
set_option maxHeartbeats 2000000 in
theorem rnew_no (bits probes : Nat) (w : World) (h2 : bits ≤ 65536) (hk : ¬ (okB bits = true ∧ okP (probes : Int) = true)) :
    Calls Try.prog 19 #[.int .i64 (bits : Int), .int .i64 (probes : Int)] w fun e w' => e = .returned (.tuple #[.pointer none, .int .i64 2]) ∧ w' = w := by
  have hk' : ¬ ((8 ≤ bits ∧ bits ≤ 65536 ∧ bits % 8 = 0) ∧ (1 ≤ (probes : Int) ∧ (probes : Int) ≤ 16)) := fun h => hk ⟨decide_eq_true h.1, decide_eq_true h.2⟩
  clear hk
  have e2 : ¬ (65536 : Int) < (bits : Int) := by omega
  by_cases h8 : bits < 8
  · have e1 : (bits : Int) < 8 := by omega
    clear hk'
    go_enter Try.func19, Try.ntmps19
    go_wp2
    go_ret2
    exact ⟨rfl, rfl⟩
  · have e1 : ¬ (bits : Int) < 8 := by omega
    have e3 : (bits : Int).tmod 8 = ((bits % 8 : Nat) : Int) := by rw [Int.tmod_eq_emod_of_nonneg (by omega)]; omega
    by_cases hm : bits % 8 = 0
    · rw [hm] at e3
      by_cases hp : 1 ≤ probes
      · have e4 : ¬ (probes : Int) < 1 := by omega
        have e5 : (16 : Int) < (probes : Int) := by omega
        clear hk' hm h8 hp
        go_enter Try.func19, Try.ntmps19
        go_wp2
        go_ret2
        exact ⟨rfl, rfl⟩
      · have e4 : (probes : Int) < 1 := by omega
        clear hk' hm h8 hp
        go_enter Try.func19, Try.ntmps19
        go_wp2
        go_ret2
        exact ⟨rfl, rfl⟩
    · have e5 : (((bits % 8 : Nat) : Int) == 0) = false := by simp; omega
      have e6 : 0 < bits % 8 := by omega
      clear hk' hm h8
      generalize bits % 8 = z at *
      go_enter Try.func19, Try.ntmps19
      go_wp2
      go_ret2
      exact ⟨rfl, rfl⟩
set_option maxRecDepth 100000 in
theorem index99 (b n cap k : Nat) (w : World) (hk : k < n) : (Instr.indexAt 99 (.slice (some ⟨b, 0, none⟩) n cap) (.int .i64 (k : Int))).run Try.prog w = .ok (.pointer (some ⟨b, k, none⟩)) w := by
  rw [run_indexAt_slice (P := Try.prog) _ _ _ _ _ _ _ Try.underlying99]
  have hsz : (sizeOf (Try.prog.elem 99)).run Try.prog w = .ok 1 w := by kernel_rfl
  simp [hk, hsz, Addr.add_mid]
/-- How many bits are set below k. -/
def cntB (f : Nat → Bool) : Nat → Nat
  | 0 => 0
  | k + 1 => cntB f k + (if f k = true then 1 else 0)
theorem cntB_le (f : Nat → Bool) (k : Nat) : cntB f k ≤ k := by
  induction k with
  | zero => exact Nat.le_refl _
  | succ k ih => rw [cntB]; split <;> omega
set_option maxRecDepth 100000 in
set_option maxHeartbeats 2000000 in
theorem rset_any (q g bits probes : Nat) (f : Nat → Bool) (w : World) (h : RW w q g bits probes f) (hb : bits ≤ 65536) :
    Calls Try.prog 55 #[.pointer (some ⟨q, 0, none⟩)] w fun e w' => e = .returned (.int .i64 (cntB f bits : Int)) ∧ w' = w := by
  have HB := Hid.mk' (rbits_x q g bits probes w h.rc)
  have c0 := h.rc.c0
  have HR := Hid.mk' h.rb
  have HL : Hid (∀ k, cntB f k ≤ k) := cntB_le f
  clear h
  go_enter Try.func55, Try.ntmps55
  go_wp2
  go_loopw [3, 4] (fun n i wr => wr = w ∧ ∃ k : Nat, k ≤ bits ∧ i = .int .i64 (k : Int) ∧ n = .int .i64 (cntB f k : Int)) (fun _ i _ => bits - (intOf i).toNat)
  case atStart => exact ⟨rfl, 0, by omega, rfl, rfl⟩
  case round =>
    obtain ⟨rfl, k, hk, rfl, rfl⟩ := hrel
    have hcl := HL.out k
    by_cases hkb : k < bits
    · have hkb' : (k : Int) < (bits : Int) := by omega
      have c1 : wr.cell? ⟨g, k, none⟩ = some (.bool (f k)) := HR.out.cell hkb
      have ix := fun wx => index99 g bits bits k wx hkb
      have HS : Hid (cntB f (k + 1) = cntB f k + (if f k = true then 1 else 0)) := rfl
      cases hf : f k with
      | true =>
        rw [hf] at c1 HS
        have HS2 : Hid (cntB f (k + 1) = cntB f k + 1) := HS.out
        generalize cntB f k = C at *
        go_wp2_with (first
          | (go_at_call 52; refine HB.out.mono ?_; rintro e W ⟨rfl, hw⟩; obtain rfl := hw.symm; clear hw)
          | fail)
        exact ⟨⟨by first | trivial | rfl, k + 1, by omega, by go_num, by rw [HS2.out]; go_num⟩, by simp [intOf]; omega⟩
      | false =>
        rw [hf] at c1 HS
        have HS2 : Hid (cntB f (k + 1) = cntB f k) := HS.out
        generalize cntB f k = C at *
        go_wp2_with (first
          | (go_at_call 52; refine HB.out.mono ?_; rintro e W ⟨rfl, hw⟩; obtain rfl := hw.symm; clear hw)
          | fail)
        exact ⟨⟨by first | trivial | rfl, k + 1, by omega, by go_num, by rw [HS2.out]⟩, by simp [intOf]; omega⟩
    · obtain rfl : k = bits := by omega
      have hkb' : ¬ (k : Int) < (k : Int) := by omega
      go_wp2_with (first
        | (go_at_call 52; refine HB.out.mono ?_; rintro e W ⟨rfl, hw⟩; obtain rfl := hw.symm; clear hw)
        | fail)
      go_ret
      exact ⟨rfl, rfl⟩
end Go.Proofs.Ytdajeabhhkgibaa

namespace Go.Proofs.Ytdajeabhhkgibaa.K
open Go.RowKit
set_option linter.unusedVariables false
set_option linter.unusedSimpArgs false

variable {p : Nat} {g : Option Nat} {M : List UInt8} {e : Int}
set_option maxRecDepth 100000 in
set_option maxHeartbeats 2000000 in
theorem put_any (k : UInt8) (kv : Int) (hk : kv = (k.toNat : Int)) (w : World) (hw : WS w 133 p g M e) (hsum : M.length + 1 ≤ 140737488355328) :
    Calls Try.prog 121 #[.pointer (some ⟨p, 0, none⟩), .int .u8 kv] w fun x w' => x = .returned (.tuple #[]) ∧ Wr w w' 133 p g (wA M e [k]) e := by
  subst hk
  by_cases he : e = 0
  · subst he
    rw [wA_0]
    have hne := hw.ne
    obtain ⟨v, hq, own, hg⟩ := hw.ex
    have zq : p < w.heap.size := (Array.getElem?_eq_some_iff.1 hq).1
    have c0 := (cell_of_row w p 0 _ _ _ hq).trans (show (#[v, .int .i64 0] : Array Value)[0]? = some v from rfl)
    have c1 := (cell_of_row w p 1 _ _ _ hq).trans (show (#[v, .int .i64 0] : Array Value)[1]? = some (.int .i64 0) from rfl)
    have be : Below w.heap.size w (w.alloc (.cells (bs [k]) 5)) := (Below.refl _ _).alloc (Nat.le_refl _) _
    have hqA : (w.alloc (.cells (bs [k]) 5)).heap[p]? = some (.cells #[v, .int .i64 0] 133 (0, 0)) := (be.block p zq).trans hq
    obtain ⟨av, cv, rfl, hcv, byv, hav⟩ := own.open
    have HO : Hid (OwnB (w.alloc (.cells #[.int .u8 (k.toNat : Int)] 5)) 0 (.slice av M.length cv) M) := own.below be
    have HB : Hid (Byt (w.alloc (.cells #[.int .u8 (k.toNat : Int)] 5)) (some ⟨w.heap.size, 0, none⟩) [k]) := byt_lit w [k] 5
    have HS : Hid (M.length + [k].length ≤ 140737488355328) := by show _ ≤ _; simpa using hsum
    have HQ : Hid ((w.alloc (.cells #[.int .u8 (k.toNat : Int)] 5)).heap[p]? = some (.cells #[.slice av M.length cv, .int .i64 0] 133 (0, 0))) := hqA
    have HE : Hid (Below w.heap.size w (w.alloc (.cells #[.int .u8 (k.toNat : Int)] 5))) := be
    have HG := Hid.mk' hg
    clear hsum hqA be hg hw
    go_enter Try.func121, Try.ntmps121
    go_wp2_with (first | (at_builtin; refine wpList_app2 rfl (.tmp 17) (.tmp 19) rfl 0 (.slice av M.length cv) M rfl HO.out (some ⟨w.heap.size, 0, none⟩) 1 1 [k] rfl rfl HB.out HS.out (Nat.zero_le _) ?_) | fail)
    intro v' w1 own1 gr1 hblk
    have zqA : p < (w.alloc (.cells #[.int .u8 (k.toNat : Int)] 5)).heap.size := by simp; omega
    have zA : (w.alloc (.cells #[.int .u8 (k.toNat : Int)] 5)).heap.size = w.heap.size + 1 := by simp
    have hq1 : w1.heap[p]? = some (.cells #[.slice av M.length cv, .int .i64 0] 133 (0, 0)) := by rw [gr1.block p zqA (fun e => hne (HG.out.symm.trans e.symm))]; exact HQ.out
    have d0 := (cell_of_row w1 p 0 _ _ _ hq1).trans (show (#[.slice av M.length cv, .int .i64 0] : Array Value)[0]? = some (.slice av M.length cv) from rfl)
    have f0 := frozen_of_row w1 p 0 _ _ hq1
    have hblk' : Nw g v'.ownBlock w.heap.size := by
      rcases hblk with e | e
      · exact .inl (e.trans HG.out)
      · exact .inr ⟨_, e, by omega⟩
    have hne1 : v'.ownBlock ≠ some p := by
      rcases hblk' with e | ⟨k, e, hk⟩
      · rw [e]; exact hne
      · rw [e]; intro h; simp at h; omega
    have W1 : Hid (Wr w (w1.setCell ⟨p, 0, none⟩ v') 133 p g (M ++ [k]) 0) := by
      refine ⟨v'.ownBlock, ⟨⟨v', by rw [heap_setCell_same w1 p 0 _ 133 _ hq1]; rfl, own_setCell own1 hne1, rfl⟩, hne1⟩, ⟨gr1.os.trans HE.out.os, gr1.tape.trans HE.out.tape, gr1.output.trans HE.out.output, by simp [World.setCell]; have := gr1.size; omega, fun i hi hp hn => ?_⟩, hblk'⟩
      rw [Below.heap_setCell _ _ _ _ hp, gr1.block i (by omega) (fun e => hn (e.trans HG.out)), HE.out.block i hi]
    obtain ⟨av', cv', rfl, _⟩ := own1.open
    rw [List.length_append] at W1
    clear own1 gr1 hblk hblk' hne1 HO HB HS HQ HE HG zA zqA
    go_wp2
    go_end0
    exact ⟨rfl, W1.out⟩
  · rw [wA_no M [k] e he]
    obtain ⟨v, hq, own, hg⟩ := hw.ex
    have c1 := (cell_of_row w p 1 _ _ _ hq).trans (show (#[v, .int .i64 e] : Array Value)[1]? = some (.int .i64 e) from rfl)
    have HW := Hid.mk' hw.wr
    clear hw own hg hq
    go_enter Try.func121, Try.ntmps121
    go_wp2
    go_end0
    exact ⟨rfl, HW.out⟩
end Go.Proofs.Ytdajeabhhkgibaa.K

namespace Go.Proofs.Ytdajeabhhkgibaa.K
open Go.RowKit
set_option linter.unusedVariables false
set_option linter.unusedSimpArgs false

variable {p : Nat} {g : Option Nat} {M : List UInt8} {e : Int}
set_option maxRecDepth 100000 in
set_option maxHeartbeats 1000000 in
theorem xbyte_any (k : UInt8) (kv : Int) (hk : kv = (k.toNat : Int)) (w : World) (hw : WS w 133 p g M e) (hsum : M.length + 1 ≤ 140737488355328) :
    Calls Try.prog 102 #[.pointer (some ⟨p, 0, none⟩), .int .u8 kv] w fun x w' => x = .returned (.tuple #[]) ∧ Wr w w' 133 p g (wA M e [k]) e := by
  subst hk
  have H := Hid.mk' (put_any k _ rfl w hw hsum)
  clear hw
  go_enter Try.func102, Try.ntmps102
  go_wp2_with fail
  refine H.out.mono ?_
  rintro x w1 ⟨rfl, ho⟩
  have HO := Hid.mk' ho
  clear ho
  go_wp2
  go_end0
  exact ⟨rfl, HO.out⟩
set_option maxRecDepth 100000 in
set_option maxHeartbeats 1000000 in
theorem xuint_any (v : Nat) (hv : v < 18446744073709551616) (w : World) (hw : WS w 133 p g M e) (hsum : M.length + 64 ≤ 140737488355328) :
    Calls Try.prog 101 #[.pointer (some ⟨p, 0, none⟩), .int .u64 (v : Int)] w fun x w' => x = .returned (.tuple #[]) ∧ Wr w w' 133 p g (wA M e (vint v)) e := by
  have HV : Hid ((vint v).length ≤ 10) := vint_10 v hv
  have HS : Hid (M.length + 64 ≤ 140737488355328) := hsum
  clear hsum
  go_enter Try.func101, Try.ntmps101
  go_wp2_with fail
  go_loopw [1] (fun x wr => ∃ (n : Nat) (P : List UInt8), x = .int .u64 (n : Int) ∧ n < 18446744073709551616 ∧ Hid (P ++ vint n = vint v) ∧ Hid (Wr w wr 133 p g (wA M e P) e)) (fun x _ => (intOf x).toNat)
  case atStart => exact ⟨v, [], rfl, hv, rfl, by show Wr _ _ _ _ _ _ _; rw [wA_nil]; exact hw.wr⟩
  case round =>
    clear hw
    obtain ⟨n, P, rfl, hn, HP, HW⟩ := hrel
    obtain ⟨g1, ws, fr, nw⟩ := HW.out
    have hPl : P.length ≤ 10 := by
      have h1 := HV.out
      rw [← HP.out, List.length_append] at h1
      omega
    have hwl : (wA M e P).length + 1 ≤ 140737488355328 := by have := wA_len M e P; have := HS.out; omega
    by_cases hlt : n < 128
    · have hlt' : (n : Int) < 128 := by omega
      have H := Hid.mk' ((put_any (UInt8.ofNat n) (n : Int) (by rw [UInt8.toNat_ofNat']; omega) wr ws hwl).mono fun x w' h => And.intro h.1 (Wr.step fr nw h.2))
      rw [wA_wA, show P ++ [UInt8.ofNat n] = vint v by rw [← HP.out, vint_lt hlt]] at H
      clear ws fr nw HW HP hwl
      go_wp2_with fail
      refine H.out.mono ?_
      rintro x w1 ⟨rfl, ho⟩
      have HO := Hid.mk' ho
      clear ho
      go_wp2
      go_end0
      exact ⟨rfl, HO.out⟩
    · have hlt' : ¬ (n : Int) < 128 := by omega
      have H : Hid (∀ kv : Int, kv = ((UInt8.ofNat (n % 128 + 128)).toNat : Int) → Calls Try.prog 121 #[.pointer (some ⟨p, 0, none⟩), .int .u8 kv] wr fun x w' => x = .returned (.tuple #[]) ∧ Wr w w' 133 p g (wA M e (P ++ [UInt8.ofNat (n % 128 + 128)])) e) := fun kv hk => (put_any (UInt8.ofNat (n % 128 + 128)) kv hk wr ws hwl).mono fun x w' h => by
        rw [wA_wA] at h
        exact And.intro h.1 (Wr.step fr nw h.2)
      clear ws fr nw HW hwl
      have hP2 : Hid (P ++ [UInt8.ofNat (n % 128 + 128)] ++ vint (n / 128) = vint v) := by
        show _ = _
        rw [← HP.out, vint_ge hlt]
        simp
      go_wp2_with fail
      refine (H.out _ (by first | rfl | (rw [UInt8.toNat_ofNat']; omega))).mono ?_
      rintro x w1 ⟨rfl, ho⟩
      have HO := Hid.mk' ho
      clear ho
      go_wp2
      exact ⟨⟨n / 128, P ++ [UInt8.ofNat (n % 128 + 128)], by first | rfl | (congr 1; omega), by omega, hP2, HO⟩, by simp [intOf]; omega⟩
end Go.Proofs.Ytdajeabhhkgibaa.K

namespace Go.Proofs.Ytdajeabhhkgibaa.K
open Go.RowKit
set_option linter.unusedVariables false
set_option linter.unusedSimpArgs false

variable {p : Nat} {g : Option Nat} {M : List UInt8} {e : Int}
set_option maxRecDepth 100000 in
set_option maxHeartbeats 1000000 in
theorem xraw_any (B : List UInt8) (b off len cap : Nat) (w : World) (hw : WS w 133 p g M e) (hlen : B.length = len) (hb : Byt w (some ⟨b, off, none⟩) B) (hp : b ≠ p ∧ some b ≠ g) (hlt : b < w.heap.size) (hsum : M.length + 64 + B.length ≤ 140737488355328) :
    Calls Try.prog 103 #[.pointer (some ⟨p, 0, none⟩), .slice (some ⟨b, off, none⟩) len cap] w fun x w' => x = .returned (.tuple #[]) ∧ Wr w w' 133 p g (wA M e (vint len ++ B)) e := by
  have h10 := vint_10 len (by omega)
  have H1 := Hid.mk' (xuint_any len (by omega) w hw (by omega))
  have HP : Hid (∀ wx (P : List UInt8) (k : UInt8) (kv : Int), P.length ≤ 10 + len → kv = (k.toNat : Int) → Wr w wx 133 p g (wA M e P) e → Calls Try.prog 121 #[.pointer (some ⟨p, 0, none⟩), .int .u8 kv] wx fun x w' => x = .returned (.tuple #[]) ∧ Wr w w' 133 p g (wA M e (P ++ [k])) e) := fun wx P k kv hP hk hx => by
    obtain ⟨g1, ws, fr, nw⟩ := hx
    refine (put_any k kv hk wx ws (by have := wA_len M e P; omega)).mono fun x w' h => ?_
    rw [wA_wA] at h
    exact And.intro h.1 (Wr.step fr nw h.2)
  have HB : Hid (∀ wx (P : List UInt8), Wr w wx 133 p g (wA M e P) e → ∀ j, j < len → wx.cell? ⟨b, off + j, none⟩ = some (.int .u8 ((B.getD j 0).toNat : Int))) := fun wx P hx j hj => by
    obtain ⟨g1, ws, fr, nw⟩ := hx
    rcases fr.byt (fun ad e => by cases e; exact hp) hb with e | ⟨b', off', e, hc⟩
    · rw [e] at hlen; simp at hlen; omega
    · cases e
      exact hc j (by omega)
  have hl2 : (len : Int) < 18446744073709551616 := by omega
  have hlb : len ≤ 140737488355328 := by omega
  clear hw hb hp hlt hsum
  go_enter Try.func103, Try.ntmps103
  go_wp2_with fail
  refine H1.out.mono ?_
  rintro x w1 ⟨rfl, a1⟩
  have A1 := Hid.mk' a1
  clear a1
  go_wp2
  go_loopw [4] (fun i wr => ∃ j : Nat, i = .int .i64 (j : Int) ∧ j ≤ len ∧ Hid (Wr w wr 133 p g (wA M e (vint len ++ B.take j)) e)) (fun i _ => len - (intOf i).toNat)
  case atStart => exact ⟨0, rfl, by omega, by show Wr _ _ _ _ _ _ _; rw [List.take_zero, List.append_nil]; exact A1.out⟩
  case round =>
    clear A1 H1
    obtain ⟨j, rfl, hj, HW⟩ := hrel
    by_cases hjl : j < len
    · have hjl' : (j : Int) < (len : Int) := by omega
      have cc := HB.out _ _ HW.out j hjl
      have H := Hid.mk' (HP.out wr _ (B.getD j 0) _ (by rw [List.length_append, List.length_take]; omega) rfl HW.out)
      rw [List.append_assoc, show B.take j ++ [B.getD j 0] = B.take (j + 1) by rw [List.take_succ_eq_append_getElem (by omega)]; simp [List.getElem?_eq_getElem (show j < B.length by omega)]] at H
      generalize B.getD j 0 = bn at *
      clear HW
      go_wp2_with fail
      refine H.out.mono ?_
      rintro x w2 ⟨rfl, a2⟩
      have A2 := Hid.mk' a2
      clear a2
      go_wp2
      exact ⟨⟨j + 1, by go_num, by omega, A2⟩, by simp [intOf]; omega⟩
    · have hjl' : ¬ (j : Int) < (len : Int) := by omega
      obtain rfl : j = len := by omega
      have HW2 : Hid (Wr w wr 133 p g (wA M e (vint j ++ B)) e) := by
        have := HW.out
        rw [List.take_of_length_le (by omega)] at this
        exact this
      clear HW
      go_wp2
      go_end0
      exact ⟨rfl, HW2.out⟩
set_option maxRecDepth 100000 in
set_option maxHeartbeats 1000000 in
theorem xraw_nil (a : Option Addr) (cap : Nat) (w : World) (hw : WS w 133 p g M e) (hsum : M.length + 64 ≤ 140737488355328) :
    Calls Try.prog 103 #[.pointer (some ⟨p, 0, none⟩), .slice a 0 cap] w fun x w' => x = .returned (.tuple #[]) ∧ Wr w w' 133 p g (wA M e (vint 0)) e := by
  have H1 := Hid.mk' (xuint_any 0 (by omega) w hw (by omega))
  clear hw hsum
  go_enter Try.func103, Try.ntmps103
  go_wp2_with fail
  refine H1.out.mono ?_
  rintro x w1 ⟨rfl, a1⟩
  have A1 := Hid.mk' a1
  clear a1
  go_wp2
  go_loopw [4] (fun i wr => i = .int .i64 0 ∧ wr = w1) (fun i _ => 0)
  case atStart => exact ⟨rfl, rfl⟩
  case round =>
    clear H1
    obtain ⟨rfl, rfl⟩ := hrel
    go_wp2
    go_end0
    exact ⟨rfl, A1.out⟩
theorem xraw_all (B : List UInt8) (a : Option Addr) (len cap : Nat) (w : World) (hw : WS w 133 p g M e) (hlen : B.length = len) (hb : Byt w a B) (hp : ∀ ad, a = some ad → ad.block ≠ p ∧ some ad.block ≠ g) (hlt : ∀ ad, a = some ad → ad.block < w.heap.size) (hsum : M.length + 64 + B.length ≤ 140737488355328) :
    Calls Try.prog 103 #[.pointer (some ⟨p, 0, none⟩), .slice a len cap] w fun x w' => x = .returned (.tuple #[]) ∧ Wr w w' 133 p g (wA M e (vint len ++ B)) e := by
  rcases hb with rfl | ⟨b, off, rfl, hc⟩
  · obtain rfl : len = 0 := hlen.symm
    rw [List.append_nil]
    exact xraw_nil a cap w hw (by omega)
  · exact xraw_any B b off len cap w hw hlen (.inr ⟨b, off, rfl, hc⟩) (hp _ rfl) (hlt _ rfl) hsum
end Go.Proofs.Ytdajeabhhkgibaa.K

namespace Go.Proofs.Ytdajeabhhkgibaa.K
open Go.RowKit
set_option linter.unusedVariables false
set_option linter.unusedSimpArgs false

theorem belowN (W : World) : Below W.heap.size W (W.alloc (.cells #[] 5)) := (Below.refl _ _).alloc (Nat.le_refl _) _
/-- What Done tells. -/
def dM (M : List UInt8) (e : Int) : List UInt8 := if e = 0 then M else []
variable {p : Nat} {g : Option Nat} {M : List UInt8} {e : Int}
theorem WS.see {w : World} {T : TypeId} (h : WS w T p g M e) : ∃ a cv, w.cell? ⟨p, 0, none⟩ = some (.slice a M.length cv) ∧ w.cell? ⟨p, 1, none⟩ = some (.int .i64 e) ∧ Byt w a M ∧ (a = none ∧ M = [] ∧ cv = 0 ∨ ∃ b, a = some ⟨b, 0, none⟩) := by
  obtain ⟨v, hq, own, hg⟩ := h.ex
  have c0 := (cell_of_row w p 0 _ _ _ hq).trans (show (#[v, .int .i64 e] : Array Value)[0]? = some v from rfl)
  have c1 := (cell_of_row w p 1 _ _ _ hq).trans (show (#[v, .int .i64 e] : Array Value)[1]? = some (.int .i64 e) from rfl)
  obtain ⟨a, cv, rfl, h1, h2, h3⟩ := own.open
  refine ⟨a, cv, c0, c1, h2, ?_⟩
  rcases own.2 with ⟨hv, hn⟩ | ⟨gg, cap, cur, hv, _⟩
  · simp only [Value.slice.injEq] at hv
    exact .inl ⟨hv.1, List.eq_nil_of_length_eq_zero hn, hv.2.2⟩
  · simp only [Value.slice.injEq] at hv
    exact .inr ⟨_, hv.1⟩
set_option maxRecDepth 100000 in
set_option maxHeartbeats 1000000 in
theorem clone_nil0 (w : World) : Calls Try.prog 105 #[.slice none 0 0] w fun x w' => x = .returned (.slice none 0 0) ∧ w' = w := by
  have hnil : ∀ W, (binOp .eql 53 (.slice none 0 0) (.slice none 0 0)).run Try.prog W = .ok (.bool true) W := fun W => Lib.run_eql_slice_nil_nil W 0 0 Try.underlying53
  go_enter Try.func105, Try.ntmps105
  go_wp2
  go_ret
  exact ⟨rfl, rfl⟩
set_option maxRecDepth 100000 in
set_option maxHeartbeats 1000000 in
theorem wdone_own (w : World) (hw : WS w 119 p g M e) (hl : M.length ≤ 140737488355328) :
    Calls Try.prog 77 #[.pointer (some ⟨p, 0, none⟩)] w fun x w' => ∃ v, x = .returned (.tuple #[v, .int .i64 e]) ∧ OwnB w' w.heap.size v (dM M e) ∧ Below w.heap.size w w' := by
  obtain ⟨a, cv, c0, c1, hb, ha⟩ := hw.see
  clear hw
  by_cases he : e = 0
  · subst he
    have eD : dM M 0 = M := by simp [dM]
    rw [eD]
    clear eD
    rcases ha with ⟨rfl, rfl, rfl⟩ | ⟨b, rfl⟩
    · have HC := Hid.mk' (clone_nil0 w)
      clear hb hl
      go_enter Try.func77, Try.ntmps77
      go_wp2_with fail
      refine HC.out.mono ?_
      rintro x w1 ⟨rfl, hw1⟩
      subst hw1
      go_wp2
      go_ret2
      exact ⟨_, rfl, ownB_nil _ _, Below.refl _ _⟩
    · have HC : Hid (Calls Try.prog 105 #[.slice (some ⟨b, 0, none⟩) M.length cv] w fun x w' => ∃ v, x = .returned v ∧ OwnB w' w.heap.size v M ∧ Below w.heap.size w w') := clone_any b 0 M.length cv M w rfl hl hb
      clear hb hl
      go_enter Try.func77, Try.ntmps77
      go_wp2_with fail
      refine HC.out.mono ?_
      rintro x w1 ⟨v, rfl, h2, h3⟩
      have H2 := Hid.mk' h2
      have H3 := Hid.mk' h3
      clear h2 h3
      go_wp2
      go_ret2
      exact ⟨_, rfl, H2.out, H3.out⟩
  · have eD : dM M e = [] := by simp [dM, he]
    rw [eD]
    clear hb ha eD
    go_enter Try.func77, Try.ntmps77
    go_wp2
    go_quiet (fail)
    go_wp2
    go_ret2
    exact ⟨_, rfl, ownB_nil _ _, below_drewN (Below.refl _ _) _⟩
set_option maxRecDepth 100000 in
set_option maxHeartbeats 1000000 in
theorem xdone_own (w : World) (hw : WS w 133 p g M e) (hl : M.length ≤ 140737488355328) :
    Calls Try.prog 104 #[.pointer (some ⟨p, 0, none⟩)] w fun x w' => ∃ v, x = .returned (.tuple #[v, .int .i64 e]) ∧ OwnB w' w.heap.size v (dM M e) ∧ Below w.heap.size w w' := by
  have hws0 := hw.below (belowN w)
  obtain ⟨a, cv, c0, c1, hb, ha⟩ := hw.see
  have d0 : (w.alloc (.cells #[] 5)).cell? ⟨p, 0, none⟩ = some (.slice a M.length cv) := ((belowN w).cell (p := ⟨p, 0, none⟩) hw.lt).trans c0
  clear hw hws0
  by_cases he : e = 0
  · subst he
    have eD : dM M 0 = M := by simp [dM]
    rw [eD]
    clear eD
    have O0 : Hid (OwnB (w.alloc (.cells #[] 5)) w.heap.size (.slice (some ⟨w.heap.size, 0, none⟩) 0 0) []) := ⟨rfl, .inr ⟨w.heap.size, 0, #[], rfl, Nat.le_refl _, heap_alloc_new _ _, by simp, by simp [maxLen], rfl, rfl⟩⟩
    have B0 := Hid.mk' (byt_below hb (belowN w))
    have S0 : Hid (([] : List UInt8).length + M.length ≤ 140737488355328) := by show _ ≤ _; simpa using hl
    have Z0 := Hid.mk' (belowN w)
    have Z1 : Hid (w.heap.size ≤ (w.alloc (.cells #[] 5)).heap.size) := Z0.out.size
    clear hb hl ha
    go_enter Try.func104, Try.ntmps104
    go_wp2_with (first | (at_builtin; refine wpList_app2 rfl (.tmp 15) (.tmp 19) rfl w.heap.size (.slice (some ⟨w.heap.size, 0, none⟩) 0 0) [] rfl O0.out a M.length cv M rfl rfl B0.out S0.out Z1.out ?_) | fail)
    intro v w1 own1 gr1 hblk
    have own1' : Hid (OwnB w1 w.heap.size v M) := by show OwnB _ _ _ _; simpa using own1
    have b1 : Hid (Below w.heap.size w w1) := Z0.out.grown gr1 Z0.out.size (fun k hk => by simp [Value.ownBlock] at hk; omega)
    clear own1 gr1 hblk O0 B0 S0 Z0 Z1
    go_wp2
    go_ret2
    exact ⟨_, rfl, own1'.out, b1.out⟩
  · have eD : dM M e = [] := by simp [dM, he]
    rw [eD]
    clear hb ha eD
    go_enter Try.func104, Try.ntmps104
    go_wp2
    go_quiet (fail)
    go_wp2
    go_ret2
    exact ⟨_, rfl, ownB_nil _ _, below_drewN (Below.refl _ _) _⟩
theorem ws_zero (w : World) (T : TypeId) : WS (w.alloc (.cells #[.slice none 0 0, .int .i64 0] T)) T w.heap.size none [] 0 := ⟨⟨_, heap_alloc_new _ _, ownB_nil _ _, rfl⟩, by simp⟩
end Go.Proofs.Ytdajeabhhkgibaa.K

namespace Go.Proofs.Ytdajeabhhkgibaa
open Go.RowKit
set_option linter.unusedVariables false
set_option linter.unusedSimpArgs false

theorem S2_snoc (n x : Nat) : PC.S 2 (n + 1) x = PC.S 2 n x + (if x.testBit n = true then 1 else 0) := by
  induction n generalizing x with
  | zero =>
    rw [PC.S, PC.S, PC.S, Nat.testBit_zero]
    by_cases h : x % 2 = 1
    · rw [if_pos (decide_eq_true h)]; omega
    · rw [if_neg (by simpa using h)]; omega
  | succ n ih =>
    rw [PC.S, ih, Nat.testBit_succ]
    rw [show PC.S 2 (n + 1) x = x % 2 + PC.S 2 n (x / 2) from rfl]
    omega
theorem cntB_word (ws : Nat → Nat) (m j : Nat) (hj : j ≤ 64) : cntB (bitAt ws) (64 * m + j) = cntB (bitAt ws) (64 * m) + PC.S 2 j (ws m) := by
  induction j with
  | zero => rfl
  | succ j ih =>
    have e : bitAt ws (64 * m + j) = (ws m).testBit j := by
      unfold bitAt
      rw [show (64 * m + j) / 64 = m by omega, show (64 * m + j) % 64 = j by omega]
    rw [show 64 * m + (j + 1) = (64 * m + j) + 1 by omega, cntB, ih (by omega), S2_snoc, e]
    omega
theorem cntB_words (ws : Nat → Nat) (m : Nat) : cntB (bitAt ws) (64 * m) = cntW ws m := by
  induction m with
  | zero => rfl
  | succ m ih => rw [show 64 * (m + 1) = 64 * m + 64 by omega, cntB_word ws m 64 (Nat.le_refl _), ih, cntW]
theorem cntB_more {f : Nat → Bool} {n : Nat} (h : ∀ x, f x = true → x < n) (d : Nat) : cntB f (n + d) = cntB f n := by
  induction d with
  | zero => rfl
  | succ d ih =>
    rw [show n + (d + 1) = (n + d) + 1 by omega, cntB, ih]
    cases hf : f (n + d) with
    | false => rfl
    | true => have := h _ hf; omega
theorem cntB_bits {ws : Nat → Nat} {bits : Nat} (h : Within ws bits) : cntB (bitAt ws) bits = cntW ws ((bits + 63) / 64) := by
  rw [← cntB_words, ← cntB_more h (64 * ((bits + 63) / 64) - bits), show bits + (64 * ((bits + 63) / 64) - bits) = 64 * ((bits + 63) / 64) by omega]
/-- The bytes behind k bits. -/
def pB (ws : Nat → Nat) (k j : Nat) : Nat := if 8 * j + 8 ≤ k then (byW ws j).toNat else if 8 * j < k then (byW ws j).toNat % 2 ^ (k - 8 * j) else 0
theorem mod_pow_succ (x t : Nat) : x % 2 ^ (t + 1) = x % 2 ^ t + (if x.testBit t = true then 2 ^ t else 0) := by
  rw [Nat.pow_succ, Nat.mod_mul, Nat.testBit_eq_decide_div_mod_eq]
  by_cases h : x / 2 ^ t % 2 = 1
  · rw [if_pos (decide_eq_true h), h, Nat.mul_one]
  · rw [if_neg (by simpa using h), show x / 2 ^ t % 2 = 0 by omega, Nat.mul_zero]
theorem pB_zero (ws : Nat → Nat) (j : Nat) : pB ws 0 j = 0 := by unfold pB; rw [if_neg (by omega), if_neg (by omega)]
theorem pB_all (ws : Nat → Nat) (n j : Nat) (hj : j < n) : pB ws (8 * n) j = (byW ws j).toNat := by unfold pB; rw [if_pos (by omega)]
theorem pB_other (ws : Nat → Nat) (k j : Nat) (h : j ≠ k / 8) : pB ws (k + 1) j = pB ws k j := by
  unfold pB
  by_cases h1 : 8 * j + 8 ≤ k
  · rw [if_pos (by omega), if_pos h1]
  · have : ¬ 8 * j < k + 1 := by omega
    rw [if_neg (by omega), if_neg this, if_neg h1, if_neg (by omega)]
theorem pB_full (ws : Nat → Nat) (j : Nat) : (byW ws j).toNat % 2 ^ 8 = (byW ws j).toNat := Nat.mod_eq_of_lt (UInt8.toNat_lt _)
theorem pB_step (ws : Nat → Nat) (k : Nat) : pB ws (k + 1) (k / 8) = pB ws k (k / 8) + (if bitAt ws k = true then 2 ^ (k % 8) else 0) ∧ pB ws k (k / 8) < 2 ^ (k % 8) := by
  have hr : k % 8 < 8 := Nat.mod_lt _ (by omega)
  have e0 : pB ws k (k / 8) = (byW ws (k / 8)).toNat % 2 ^ (k % 8) := by
    unfold pB
    rw [if_neg (by omega)]
    by_cases h : 8 * (k / 8) < k
    · rw [if_pos h, show k - 8 * (k / 8) = k % 8 by omega]
    · rw [if_neg h, show k % 8 = 0 by omega, Nat.pow_zero, Nat.mod_one]
  have e1 : pB ws (k + 1) (k / 8) = (byW ws (k / 8)).toNat % 2 ^ (k % 8 + 1) := by
    unfold pB
    by_cases h : 8 * (k / 8) + 8 ≤ k + 1
    · rw [if_pos h, show k % 8 + 1 = 8 by omega, pB_full]
    · rw [if_neg h, if_pos (by omega), show k + 1 - 8 * (k / 8) = k % 8 + 1 by omega]
  have e2 : (byW ws (k / 8)).toNat.testBit (k % 8) = bitAt ws k := by rw [bit_byW ws _ _ hr, show 8 * (k / 8) + k % 8 = k by omega]
  rw [e0, e1, mod_pow_succ, e2]
  exact ⟨rfl, Nat.mod_lt _ (Nat.two_pow_pos _)⟩
end Go.Proofs.Ytdajeabhhkgibaa

namespace Go.Proofs.Ytdajeabhhkgibaa
open Go.RowKit
set_option linter.unusedVariables false
set_option linter.unusedSimpArgs false

/-- The document's Writer that was made since. -/
def WH (w W : World) (M : List UInt8) : Prop := K.Wr (w.alloc (.cells #[.slice none 0 0, .int .i64 0] 133)) W 133 w.heap.size none M 0
theorem WH.start (w : World) : WH w (w.alloc (.cells #[.slice none 0 0, .int .i64 0] 133)) [] :=
  K.WS.wr ⟨⟨_, heap_alloc_new _ _, K.ownB_nil _ _, rfl⟩, by simp⟩
theorem WH.below {w W : World} {M : List UInt8} (h : WH w W M) : Below w.heap.size w W := by
  obtain ⟨g', ws, fr, nw⟩ := h
  have b : Below w.heap.size w (w.alloc (.cells #[.slice none 0 0, .int .i64 0] 133)) := (Below.refl _ _).alloc (Nat.le_refl _) _
  exact b.trans ⟨fr.os, fr.tape, fr.output, fr.size, fun k hk => fr.block k (by simp; omega) (by omega) (by simp)⟩
theorem WH.uint {w W : World} {M : List UInt8} (h : WH w W M) (v : Nat) (hv : v < 18446744073709551616) (hM : M.length ≤ 1000000) :
    Calls Try.prog 101 #[.pointer (some ⟨w.heap.size, 0, none⟩), .int .u64 (v : Int)] W fun x w' => x = .returned (.tuple #[]) ∧ WH w w' (M ++ K.vint v) := by
  obtain ⟨g', ws, fr, nw⟩ := h
  refine (K.xuint_any v hv W ws (by omega)).mono ?_
  rintro e W' ⟨rfl, hr⟩
  rw [K.wA_0] at hr
  exact ⟨rfl, K.Wr.step fr nw hr⟩
theorem WH.byte {w W : World} {M : List UInt8} (h : WH w W M) (k : UInt8) (kv : Int) (hk : kv = (k.toNat : Int)) (hM : M.length ≤ 1000000) :
    Calls Try.prog 102 #[.pointer (some ⟨w.heap.size, 0, none⟩), .int .u8 kv] W fun x w' => x = .returned (.tuple #[]) ∧ WH w w' (M ++ [k]) := by
  obtain ⟨g', ws, fr, nw⟩ := h
  refine (K.xbyte_any k kv hk W ws (by omega)).mono ?_
  rintro e W' ⟨rfl, hr⟩
  rw [K.wA_0] at hr
  exact ⟨rfl, K.Wr.step fr nw hr⟩
theorem WH.raw {w W : World} {M B : List UInt8} (h : WH w W M) (b n c : Nat) (hn : B.length = n) (hB : K.Byt W (some ⟨b, 0, none⟩) B) (h1 : b < w.heap.size) (hM : M.length ≤ 1000000) (hBl : B.length ≤ 1000000) :
    Calls Try.prog 103 #[.pointer (some ⟨w.heap.size, 0, none⟩), .slice (some ⟨b, 0, none⟩) n c] W fun x w' => x = .returned (.tuple #[]) ∧ WH w w' (M ++ (K.vint n ++ B)) := by
  obtain ⟨g', ws, fr, nw⟩ := h
  have hlt := fr.size
  rw [World.size_alloc] at hlt
  refine (K.xraw_any B b 0 n c W ws hn hB ⟨by omega, fun e => ?_⟩ (by omega) (by omega)).mono ?_
  · rcases nw with rfl | ⟨k, rfl, hk⟩
    · cases e
    · cases e
      rw [World.size_alloc] at hk
      omega
  · rintro e W' ⟨rfl, hr⟩
    rw [K.wA_0] at hr
    exact ⟨rfl, K.Wr.step fr nw hr⟩
end Go.Proofs.Ytdajeabhhkgibaa

namespace Go.Proofs.Ytdajeabhhkgibaa
open Go.RowKit
set_option linter.unusedVariables false
set_option linter.unusedSimpArgs false

theorem WH.done {w W : World} {M : List UInt8} (h : WH w W M) (h0 : 0 < M.length) (hM : M.length ≤ 1000000) : Calls Try.prog 104 #[.pointer (some ⟨w.heap.size, 0, none⟩)] W fun x w' => ∃ b cv, x = .returned (.tuple #[.slice (some ⟨b, 0, none⟩) M.length cv, .int .i64 0]) ∧ (∀ W2, Below w'.heap.size w' W2 → K.Byt W2 (some ⟨b, 0, none⟩) M) ∧ Below W.heap.size W w' := by
  obtain ⟨g', ws, fr, nw⟩ := h
  refine (K.xdone_own W ws (by omega)).mono ?_
  rintro e W' ⟨v, rfl, ow, be⟩
  have e0 : K.dM M 0 = M := if_pos rfl
  rw [e0] at ow
  obtain ⟨b, cv, rfl, _⟩ := ow.open1 h0
  refine ⟨b, cv, rfl, fun W2 h2 => ?_, be⟩
  obtain ⟨a, c, e, k1, k2, k3⟩ := (ow.below h2).open
  cases e
  exact k2
theorem wrap8_pow (r : Nat) (hr : r < 8) : IntKind.u8.wrap (2 ^ r) = ((2 ^ r : Nat) : Int) ∧ 2 ^ r ≤ 128 := by
  have h1 : 2 ^ r ≤ 2 ^ 7 := Nat.pow_le_pow_right (by omega) (by omega)
  have h2 : (2 : Int) ^ r = ((2 ^ r : Nat) : Int) := by simp
  have h3 : (2 : Nat) ^ 7 = 128 := by decide
  refine ⟨?_, by omega⟩
  rw [IntKind.wrap_u8, h2]
  generalize (2 ^ r : Nat) = z at *
  omega
set_option maxRecDepth 100000 in
set_option maxHeartbeats 8000000 in
theorem renc_any (q g bits probes : Nat) (ws : Nat → Nat) (w : World) (hF : RW w q g bits probes (bitAt ws)) (hb0 : 8 ≤ bits) (hb1 : bits ≤ 65536) (hb2 : bits % 8 = 0) (hp : probes ≤ 16) :
    Calls Try.prog 56 #[.pointer (some ⟨q, 0, none⟩)] w (EnPost (encF bits probes ws) w) := by
  have HFW : Hid (∀ W, Below w.heap.size w W → RW W q g bits probes (bitAt ws)) := fun W hb => hF.below hb
  have v1 := K.vint_10 bits (by omega)
  have hpb : (probes : Int) = ((UInt8.ofNat probes).toNat : Int) := by rw [UInt8.toNat_ofNat']; omega
  have HPB := Hid.mk' hpb
  clear hpb
  have HE : Hid ([] ++ K.vint bits ++ [UInt8.ofNat probes] ++ (K.vint (bits / 8) ++ bytesW ws (bits / 8)) = encF bits probes ws) := by show _ = _; unfold encF; simp
  have HPos := Hid.mk' (encF_pos bits probes ws)
  have HLen := Hid.mk' (encF_len bits probes ws hb1)
  have c0 := hF.rc.c0
  have c1 := hF.rc.c1
  have HC0 : Hid (∀ W, Below w.heap.size w W → W.cell? ⟨q, 0, none⟩ = some (.slice (some ⟨g, 0, none⟩) bits bits)) := fun W h => (HFW.out W h).rc.c0
  have HC1 : Hid (∀ W, Below w.heap.size w W → W.cell? ⟨q, 1, none⟩ = some (.int .i64 (probes : Int))) := fun W h => (HFW.out W h).rc.c1
  have HCG : Hid (∀ W, Below w.heap.size w W → ∀ k, k < bits → W.cell? ⟨g, k, none⟩ = some (.bool (bitAt ws k))) := fun W h k hk => (HFW.out W h).rb.cell hk
  have e8 : (bits : Int).tdiv 8 = ((bits / 8 : Nat) : Int) := by rw [Int.tdiv_eq_ediv_of_nonneg (by omega)]; omega
  have e9 : (bits : Int) / 8 = ((bits / 8 : Nat) : Int) := by omega
  have HL8 : Hid ((bytesW ws (bits / 8)).length = bits / 8) := bytesW_len _ _
  have HG8 : Hid (∀ j, j < bits / 8 → (bytesW ws (bits / 8)).getD j 0 = byW ws j) := fun j hj => bytesW_get ws _ j hj
  have h8 : bits / 8 ≤ 8192 := by omega
  have H8B : Hid (bits = 8 * (bits / 8)) := by show _ = _; omega
  have mk2 := run_make_row' (P := Try.prog) 53 5 (.int .u8 0) 1 Try.underlying53 info5x rfl .i64 .i64 (bits / 8) (by omega) (by omega)
  have H0 : Hid ((w.alloc (.cells (madeCells #[.int .u8 0] (bits / 8)) 5)).rowIs w.heap.size 5 (bits / 8) (fun j => .int .u8 (pB ws 0 j : Int))) := (World.rowIs_made w (.int .u8 0) (bits / 8) 5).congr (fun j _ => by rw [pB_zero]; rfl)
  have HB0 : Hid (Below w.heap.size w (w.alloc (.cells (madeCells #[.int .u8 0] (bits / 8)) 5))) := (Below.refl _ _).alloc (Nat.le_refl _) _
  clear hF hb2
  generalize hwid : bytesW ws (bits / 8) = BB at *
  generalize encF bits probes ws = EN at *
  generalize bits / 8 = n8 at *
  clear hwid
  go_enter Try.func56, Try.ntmps56
  go_wp2
  clear mk2
  generalize hB : w.heap.size = B at *
  have HBB := Hid.mk' hB
  clear hB
  go_loopw [4] (fun i wr => ∃ k : Nat, k ≤ bits ∧ i = .int .i64 (k : Int) ∧ Hid (wr.rowIs B 5 n8 (fun j => .int .u8 (pB ws k j : Int))) ∧ Hid (Below B w wr)) (fun i _ => bits - (intOf i).toNat)
  case atStart => exact ⟨0, by omega, rfl, H0, HB0⟩
  case round =>
    obtain ⟨k, hk, rfl, HR, HBe⟩ := hrel
    clear H0 HB0 c0 c1
    have a0 := HC0.out wr HBe.out
    by_cases hkb : k < bits
    · have hkb' : (k : Int) < (bits : Int) := by omega
      have ag := HCG.out wr HBe.out k hkb
      have ix := fun wx => index99 g bits bits k wx hkb
      have hd : k / 8 < n8 := by have := H8B.out; omega
      obtain ⟨hst, hlt⟩ := pB_step ws k
      have hr8 : k % 8 < 8 := Nat.mod_lt _ (by omega)
      cases hbit : bitAt ws k with
      | false =>
        rw [hbit] at ag hst
        have HN : Hid (wr.rowIs B 5 n8 (fun j => .int .u8 (pB ws (k + 1) j : Int))) := HR.out.congr fun j _ => by
          by_cases e : j = k / 8
          · rw [e, hst]; rfl
          · rw [pB_other ws k j e]
        clear hst hlt
        go_wp2
        exact ⟨⟨k + 1, by omega, by go_num, HN, HBe⟩, by simp [intOf]; omega⟩
      | true =>
        rw [hbit] at ag hst
        rw [if_pos rfl] at hst
        obtain ⟨hw1, hw2⟩ := wrap8_pow (k % 8) hr8
        have hsum : pB ws k (k / 8) + 2 ^ (k % 8) ≤ 255 := by
          have h7 : 2 ^ (k % 8) ≤ 128 := hw2
          omega
        have ix2 := fun wx => index53 B n8 n8 (k / 8) wx hd
        have e1 : (k : Int).tdiv 8 = ((k / 8 : Nat) : Int) := by rw [Int.tdiv_eq_ediv_of_nonneg (by omega)]; omega
        have e2 : (k : Int).tmod 8 = ((k % 8 : Nat) : Int) := by rw [Int.tmod_eq_emod_of_nonneg (by omega)]; omega
        have cb : wr.cell? ⟨B, k / 8, none⟩ = some (.int .u8 (pB ws k (k / 8) : Int)) := HR.out.cell hd
        have fb : wr.frozen? ⟨B, k / 8, none⟩ = false := HR.out.frozen _
        have HN : Hid ((wr.setCell ⟨B, k / 8, none⟩ (.int .u8 ((pB ws k (k / 8) : Int) + ((2 ^ (k % 8) : Nat) : Int)))).drew.rowIs B 5 n8 (fun j => .int .u8 (pB ws (k + 1) j : Int))) := (HR.out.set (k / 8) _).congr fun j _ => by
          by_cases e : j = k / 8
          · rw [if_pos e, e, hst]; rfl
          · rw [if_neg e, pB_other ws k j e]
        have HBN : Hid (Below B w (wr.setCell ⟨B, k / 8, none⟩ (.int .u8 ((pB ws k (k / 8) : Int) + ((2 ^ (k % 8) : Nat) : Int)))).drew) := (HBe.out.setCell (p := ⟨B, k / 8, none⟩) (Nat.le_refl _) _).drew
        clear hst hlt
        generalize pB ws k (k / 8) = x at *
        generalize k / 8 = d at *
        generalize k % 8 = r at *
        generalize hy : (2 ^ r : Nat) = y at *
        have hy1 : 0 ≤ y := by omega
        clear hy
        go_wp2
        go_region
        go_wp2
        exact ⟨⟨k + 1, by omega, by go_num, HN, HBN⟩, by simp [intOf]; omega⟩
    · obtain rfl : k = bits := by omega
      have hkb' : ¬ (k : Int) < (k : Int) := by omega
      have a1 := HC1.out wr HBe.out
      have HBY : Hid (∀ W, Below wr.heap.size wr W → K.Byt W (some ⟨B, 0, none⟩) BB) := fun W hW => by
        have hr : wr.rowIs B 5 n8 (fun j => .int .u8 ((BB.getD j 0).toNat : Int)) := HR.out.congr fun j hj => by
          rw [HG8.out j hj]
          have := pB_all ws n8 j hj
          rw [← H8B.out] at this
          rw [this]
        exact K.byt_below (byt_row HL8.out hr) hW
      have hBlt : Hid (B < wr.heap.size) := HR.out.lt
      have HSZ : Hid (B ≤ wr.heap.size) := Nat.le_of_lt HR.out.lt
      have HG0 := Hid.mk' (WH.start wr)
      have HCC0 : Hid (∀ W, Below wr.heap.size wr W → W.cell? ⟨q, 0, none⟩ = some (.slice (some ⟨g, 0, none⟩) k k)) := fun W hW => HC0.out W (HBe.out.trans (hW.mono HSZ.out))
      have HCC1 : Hid (∀ W, Below wr.heap.size wr W → W.cell? ⟨q, 1, none⟩ = some (.int .i64 (probes : Int))) := fun W hW => HC1.out W (HBe.out.trans (hW.mono HSZ.out))
      have b0 := HCC0.out _ HG0.out.below
      clear HC0 HC1 HCG HFW HG8 HR
      go_wp2_with (first
        | (go_at_call 101; refine (HG0.out.uint k (by omega) (by simp)).mono ?_; rintro e W1 ⟨rfl, g1⟩; have G1 := Hid.mk' g1; clear g1; have b1 := HCC1.out _ G1.out.below)
        | (go_at_call 102; refine (G1.out.byte (UInt8.ofNat probes) _ HPB.out (by simp; omega)).mono ?_; rintro e W2 ⟨rfl, g2⟩; have G2 := Hid.mk' g2; clear g2)
        | (go_at_call 103; refine (G2.out.raw (B := BB) B n8 n8 HL8.out (HBY.out _ G2.out.below) hBlt.out (by simp; omega) (by rw [HL8.out]; omega)).mono ?_; rintro e W3 ⟨rfl, g3⟩; rw [HE.out] at g3; have G3 := Hid.mk' g3; clear g3)
        | (go_at_call 104; refine (G3.out.done HPos.out (by have := HLen.out; omega)).mono ?_; rintro e W4 ⟨b4, c4, rfl, y4, l4⟩; have Y4 := Hid.mk' y4; have B4 := Hid.mk' (HBe.out.trans ((G3.out.below.trans (l4.mono G3.out.below.size)).mono HSZ.out)); clear y4 l4)
        | fail)
      go_ret
      refine ⟨b4, c4, rfl, Y4.out, ?_⟩
      rw [HBB.out]
      exact B4.out
end Go.Proofs.Ytdajeabhhkgibaa

namespace Go.Proofs.Ytdajeabhhkgibaa
open Go.RowKit
set_option linter.unusedVariables false
set_option linter.unusedSimpArgs false

set_option maxRecDepth 100000 in
set_option maxHeartbeats 4000000 in
theorem alike_ok (qf gf qg gg bits p : Nat) (ws : Nat → Nat) (w : World) (hf : FW w qf gf bits p ws) (hg : RW w qg gg bits p (bitAt ws)) (hW : Within ws bits) (hlt : ∀ i, ws i < 18446744073709551616) (hob : okB bits = true) (hp : p ≤ 16) :
    Calls Try.prog 27 #[.pointer (some ⟨qf, 0, none⟩), .pointer (some ⟨qg, 0, none⟩)] w fun e w' => e = .returned (.bool true) ∧ Below w.heap.size w w' := by
  have hb := of_decide_eq_true hob
  have C32 := Hid.mk' (bits_any qf gf bits p w hf.fc)
  have C52 := Hid.mk' (rbits_x qg gg bits p w hg.rc)
  have C53 := Hid.mk' (probes_any qf gf bits p w hf.fc)
  have C54 := Hid.mk' (rprobes_x qg gg bits p w hg.rc)
  have C33 := Hid.mk' (set_any qf gf bits p ws w hf hlt hb.2.1)
  have C55 := Hid.mk' (rset_any qg gg bits p _ w hg hb.2.1)
  rw [cntB_bits hW] at C55
  have C34 := Hid.mk' (enc_post qf gf bits p ws w hf hlt hb.1 hb.2.1 hp)
  have C56 : Hid (∀ W, Below w.heap.size w W → Calls Try.prog 56 #[.pointer (some ⟨qg, 0, none⟩)] W (EnPost (encF bits p ws) W)) := fun W h => renc_any qg gg bits p ws W (hg.below h) hb.1 hb.2.1 hb.2.2 hp
  have C35 : Hid (∀ W b1 b2 c1 c2, K.Byt W (some ⟨b1, 0, none⟩) (encF bits p ws) → K.Byt W (some ⟨b2, 0, none⟩) (encF bits p ws) → Calls Try.prog 35 #[.slice (some ⟨b1, 0, none⟩) (encF bits p ws).length c1, .slice (some ⟨b2, 0, none⟩) (encF bits p ws).length c2] W fun e w' => e = .returned (.bool true) ∧ Below W.heap.size W w') := fun W b1 b2 c1 c2 h1 h2 => same_post _ _ _ c1 c2 W h1 h2 (encF_len bits p ws hb.2.1)
  clear hf hg hW hlt hob hb
  generalize encF bits p ws = EN at *
  generalize cntW ws ((bits + 63) / 64) = C at *
  go_enter Try.func27, Try.ntmps27
  go_wp2_with (first
    | (go_at_call 32; refine C32.out.mono ?_; clear C32; rintro e W ⟨rfl, hw⟩; obtain rfl := hw.symm; clear hw)
    | (go_at_call 52; refine C52.out.mono ?_; clear C52; rintro e W ⟨rfl, hw⟩; obtain rfl := hw.symm; clear hw)
    | (go_at_call 53; refine C53.out.mono ?_; clear C53; rintro e W ⟨rfl, hw⟩; obtain rfl := hw.symm; clear hw)
    | (go_at_call 54; refine C54.out.mono ?_; clear C54; rintro e W ⟨rfl, hw⟩; obtain rfl := hw.symm; clear hw)
    | (go_at_call 33; refine C33.out.mono ?_; clear C33; rintro e W ⟨rfl, hw⟩; obtain rfl := hw.symm; clear hw)
    | (go_at_call 55; refine C55.out.mono ?_; clear C55; rintro e W ⟨rfl, hw⟩; obtain rfl := hw.symm; clear hw)
    | (go_at_call 34; refine C34.out.mono ?_; clear C34; rintro e W1 ⟨b1, c1, rfl, y1, l1⟩; have Y1 := Hid.mk' y1; have L1 := Hid.mk' l1; clear y1 l1)
    | (go_at_call 56; refine (C56.out _ L1.out).mono ?_; rintro e W2 ⟨b2, c2, rfl, y2, l2⟩; have D35 := Hid.mk' (C35.out _ b1 b2 c1 c2 (Y1.out _ l2) (y2 _ (Below.refl _ _))); have L2 := Hid.mk' (L1.out.trans (l2.mono L1.out.size)); clear y2 l2)
    | (go_at_call 35; refine D35.out.mono ?_; rintro e W3 ⟨rfl, l3⟩; have L3 := Hid.mk' (L2.out.trans (l3.mono L2.out.size)); clear l3)
    | fail)
  go_ret
  exact ⟨rfl, L3.out⟩
set_option maxRecDepth 100000 in
theorem nil_32 (w : World) : Calls Try.prog 32 #[.pointer none] w fun e w' => e = .returned (.int .i64 0) ∧ w' = w := by
  go_enter Try.func32, Try.ntmps32
  go_wp2
  go_ret
  exact ⟨rfl, rfl⟩
set_option maxRecDepth 100000 in
theorem nil_52 (w : World) : Calls Try.prog 52 #[.pointer none] w fun e w' => e = .returned (.int .i64 0) ∧ w' = w := by
  go_enter Try.func52, Try.ntmps52
  go_wp2
  go_ret
  exact ⟨rfl, rfl⟩
set_option maxRecDepth 100000 in
theorem nil_53 (w : World) : Calls Try.prog 53 #[.pointer none] w fun e w' => e = .returned (.int .i64 0) ∧ w' = w := by
  go_enter Try.func53, Try.ntmps53
  go_wp2
  go_ret
  exact ⟨rfl, rfl⟩
set_option maxRecDepth 100000 in
theorem nil_54 (w : World) : Calls Try.prog 54 #[.pointer none] w fun e w' => e = .returned (.int .i64 0) ∧ w' = w := by
  go_enter Try.func54, Try.ntmps54
  go_wp2
  go_ret
  exact ⟨rfl, rfl⟩
set_option maxRecDepth 100000 in
theorem nil_33 (w : World) : Calls Try.prog 33 #[.pointer none] w fun e w' => e = .returned (.int .i64 0) ∧ w' = w := by
  go_enter Try.func33, Try.ntmps33
  go_wp2
  go_ret
  exact ⟨rfl, rfl⟩
set_option maxRecDepth 100000 in
theorem nil_34 (w : World) : Calls Try.prog 34 #[.pointer none] w fun e w' => e = .returned (.slice none 0 0) ∧ w' = w := by
  go_enter Try.func34, Try.ntmps34
  go_wp2
  go_ret
  exact ⟨rfl, rfl⟩
set_option maxRecDepth 100000 in
theorem nil_56 (w : World) : Calls Try.prog 56 #[.pointer none] w fun e w' => e = .returned (.slice none 0 0) ∧ w' = w := by
  go_enter Try.func56, Try.ntmps56
  go_wp2
  go_ret
  exact ⟨rfl, rfl⟩
set_option maxRecDepth 100000 in
theorem rset_nil (w : World) : Calls Try.prog 55 #[.pointer none] w fun e w' => e = .returned (.int .i64 0) ∧ w' = w := by
  go_enter Try.func55, Try.ntmps55
  go_wp2
  go_loopw [3, 4] (fun n i wr => wr = w ∧ n = .int .i64 0 ∧ i = .int .i64 0) (fun _ i _ => 0)
  case atStart => exact ⟨rfl, rfl, rfl⟩
  case round =>
    obtain ⟨rfl, rfl, rfl⟩ := hrel
    go_wp2
    go_ret
    exact ⟨rfl, rfl⟩
set_option maxRecDepth 100000 in
set_option maxHeartbeats 2000000 in
theorem alike_nil (w : World) : Calls Try.prog 27 #[.pointer none, .pointer none] w fun e w' => e = .returned (.bool true) ∧ Below w.heap.size w w' := by
  have C55 := Hid.mk' (rset_nil w)
  have C35 := Hid.mk' (K.same_any none none [] 0 0 0 w rfl (.inl rfl) (.inl rfl) (by omega))
  go_enter Try.func27, Try.ntmps27
  go_wp2_with (first
    | (go_at_call 32; refine (nil_32 w).mono ?_; rintro e W ⟨rfl, hw⟩; obtain rfl := hw.symm; clear hw)
    | (go_at_call 52; refine (nil_52 w).mono ?_; rintro e W ⟨rfl, hw⟩; obtain rfl := hw.symm; clear hw)
    | (go_at_call 53; refine (nil_53 w).mono ?_; rintro e W ⟨rfl, hw⟩; obtain rfl := hw.symm; clear hw)
    | (go_at_call 54; refine (nil_54 w).mono ?_; rintro e W ⟨rfl, hw⟩; obtain rfl := hw.symm; clear hw)
    | (go_at_call 33; refine (nil_33 w).mono ?_; rintro e W ⟨rfl, hw⟩; obtain rfl := hw.symm; clear hw)
    | (go_at_call 34; refine (nil_34 w).mono ?_; rintro e W ⟨rfl, hw⟩; obtain rfl := hw.symm; clear hw)
    | (go_at_call 56; refine (nil_56 w).mono ?_; rintro e W ⟨rfl, hw⟩; obtain rfl := hw.symm; clear hw)
    | (go_at_call 55; refine C55.out.mono ?_; clear C55; rintro e W ⟨rfl, hw⟩; obtain rfl := hw.symm; clear hw)
    | (go_at_call 35; refine C35.out.mono ?_; clear C35; rintro e W ⟨rfl, m, hw⟩; obtain rfl := hw.symm; clear hw)
    | fail)
  go_ret
  exact ⟨rfl, K.below_drewN (Below.refl _ _) m⟩
end Go.Proofs.Ytdajeabhhkgibaa

namespace Go.Proofs.Ytdajeabhhkgibaa
open Go.RowKit Go.Maps
set_option linter.unusedVariables false
set_option linter.unusedSimpArgs false

set_option maxRecDepth 100000 in
theorem rnumber_any (b o c : Nat) (h : List UInt8) (w : World) (hr : ∀ k, k < 8 → w.cell? ⟨b, o + k, none⟩ = some (.int .u8 ((h.getD (o + k) 0).toNat : Int))) :
    Calls Try.prog 51 #[.slice (some ⟨b, o, none⟩) 8 c] w fun e w' => e = .returned (.int .u64 (numB h o 8 : Int)) ∧ w' = w := by
  have HR := Hid.mk' hr
  have HL := Hid.mk' (numB_lt h o)
  clear hr
  go_enter Try.func51, Try.ntmps51
  go_wp2
  go_loopw [3, 4] (fun n i wr => ∃ k : Nat, k ≤ 8 ∧ i = .int .i64 (k : Int) ∧ n = .int .u64 (numB h o k : Int) ∧ wr = w) (fun _ i _ => 8 - (intOf i).toNat)
  case atStart => exact ⟨0, by omega, rfl, rfl, rfl⟩
  case round =>
    obtain ⟨k, hk, rfl, rfl, rfl⟩ := hrel
    by_cases hk8 : k < 8
    · have hk8' : (k : Int) < 8 := by omega
      have hc := HR.out k hk8
      have hb := (h.getD (o + k) 0).toNat_lt
      have hn : numB h o k < 72057594037927936 := Nat.lt_of_lt_of_le (HL.out k) (Nat.le_trans (Nat.pow_le_pow_right (by omega) (show k ≤ 7 by omega)) (by decide))
      have hs : Hid (numB h o (k + 1) = numB h o k * 256 + (h.getD (o + k) 0).toNat) := rfl
      generalize hN : numB h o k = n at *
      generalize (h.getD (o + k) 0).toNat = x at *
      clear hN
      go_wp2
      exact ⟨⟨k + 1, by omega, by go_num, by rw [hs.out]; go_num, trivial⟩, by simp [intOf]; omega⟩
    · obtain rfl : k = 8 := by omega
      go_wp2
      go_ret
      exact ⟨rfl, rfl⟩
set_option maxRecDepth 100000 in
set_option maxHeartbeats 4000000 in
theorem rspots_any (q g bits probes : Nat) (h : List UInt8) (w : World) (hl : h.length = 32) (hb0 : 0 < bits) (hb1 : bits ≤ 65536) (hp : probes ≤ 16) (hF : RC w q g bits probes) :
    Calls Try.prog 26 #[.pointer (some ⟨q, 0, none⟩), .agg (bs h)] w (SpPost probes ((spotL h bits hb0 probes).map spV) w) := by
  obtain ⟨i0, hi, hz0, hz1, hz2⟩ := info_parts info3x
  have HBX : Hid (∀ k, HB ((w.alloc (.cells (bs h) 30)).drewN k) w.heap.size h) := fun k => hb_box w h hl 30
  have HN : Hid (∀ k o c, (o = 0 ∧ c = 32) ∨ (o = 8 ∧ c = 24) → Calls Try.prog 51 #[.slice (some ⟨w.heap.size, o, none⟩) 8 c] ((w.alloc (.cells (bs h) 30)).drewN k) fun e w' => e = .returned (.int .u64 (numB h o 8 : Int)) ∧ w' = (w.alloc (.cells (bs h) 30)).drewN k) := fun k o c hc =>
    rnumber_any w.heap.size o c h _ (fun i hi => HBX.out k (o + i) (by omega))
  have HC0 : Hid (∀ W, Below w.heap.size w W → W.cell? ⟨q, 0, none⟩ = some (.slice (some ⟨g, 0, none⟩) bits bits)) := fun W hb => (hF.of (hb.block q hF.lt)).c0
  have HC1 : Hid (∀ W, Below w.heap.size w W → W.cell? ⟨q, 1, none⟩ = some (.int .i64 (probes : Int))) := fun W hb => (hF.of (hb.block q hF.lt)).c1
  have B0 : Hid (∀ k, Below w.heap.size w ((w.alloc (.cells (bs h) 30)).drewN k)) := fun k => K.below_drewN ((Below.refl _ _).alloc (Nat.le_refl _) _) k
  have hx0 := numB_lt h 0 8
  have hy0 := numB_lt h 8 8
  have HXA : Hid (∀ k : Nat, k ≤ 16 → IntKind.u64.wrap ((numB h 0 8 : Int) + IntKind.u64.wrap ((k : Int) * (numB h 8 8 : Int))) = (xAt h k : Int)) := fun k hk => by
    rw [IntKind.wrap_u64, IntKind.wrap_u64]
    unfold xAt
    have e : (k : Int) * (numB h 8 8 : Int) = ((k * numB h 8 8 : Nat) : Int) := by simp
    rw [e]
    generalize k * numB h 8 8 = z
    omega
  have HSP : Hid (∀ k, xAt h k < 18446744073709551616 ∧ spot h bits k = xAt h k % bits ∧ spot h bits k < bits) := fun k => ⟨Nat.mod_lt _ (by omega), rfl, Nat.mod_lt _ hb0⟩
  clear hF
  go_enter Try.func26, Try.ntmps26
  go_upto_region 4 with fail
  go_quiet (first | (go_at_call 51; exact Calls.quiet_of_same (HN.out _ _ _ (by first | exact .inl ⟨rfl, rfl⟩ | exact .inr ⟨rfl, rfl⟩))) | fail)
  rename_i hK
  refine hK _ _ ?_
  have b1 := B0.out nq
  generalize (w.alloc (.cells (bs h) 30)).drewN nq = W1 at *
  have B1 := Hid.mk' b1
  clear hK HN HBX b1 B0
  have hx : numB h 0 8 < 18446744073709551616 := by simpa using hx0
  have hy : numB h 8 8 < 18446744073709551616 := by simpa using hy0
  clear hx0 hy0
  generalize numB h 0 8 = X at *
  generalize numB h 8 8 = Y at *
  go_wp2
  go_loopw [5, 8] (fun v i wr => ∃ k : Nat, k ≤ probes ∧ i = .int .i64 (k : Int) ∧ Hid (wr.ownsRow w.heap.size 3 1 v k ((spotL h bits hb0 k).map spV)) ∧ Hid (Below w.heap.size w wr)) (fun _ i _ => probes - (intOf i).toNat)
  case atStart => exact ⟨0, by omega, rfl, World.ownsRow_nil _ _ _ _, B1⟩
  case round =>
    obtain ⟨k, hk, rfl, HR, HBe⟩ := hrel
    clear B1
    have c0 := HC0.out wr HBe.out
    have c1 := HC1.out wr HBe.out
    by_cases hkp : k < probes
    · have hkp' : (k : Int) < (probes : Int) := by omega
      have hxa := HXA.out k (by omega)
      obtain ⟨s1, s2, s3⟩ := HSP.out k
      have e2 : (xAt h k : Int).tmod (bits : Int) = (spot h bits k : Int) := by rw [Int.tmod_eq_emod_of_nonneg (by omega), s2]; omega
      have HS : Hid ((spotL h bits hb0 (k + 1)).map spV = (spotL h bits hb0 k).map spV ++ [.int .i64 (spot h bits k : Int)]) := by show _ = _; rw [spotL_succ, List.map_append]; rfl
      clear s2
      generalize xAt h k = xk at *
      generalize spot h bits k = sp at *
      generalize (spotL h bits hb0 k).map spV = xs at *
      have HA := Hid.mk' (HBe.out.alloc (o := .cells #[.int .i64 (sp : Int)] 3) HBe.out.size)
      go_wp2_with (first
        | (at_builtin; refine wpList_append_own _ rfl _ _ 49 rfl w.heap.size 3 i0 (.int .i64 0) 1 8 Try.underlying49 hi hz0 hz1 hz2 rfl (by decide) _ k xs rfl (HR.out.alloc _) ⟨wr.heap.size, 0, none⟩ 1 1 [.int .i64 (sp : Int)] rfl rfl (cell_one_new _ _ _) (by simp [Value.oneCell']) (by simp [maxLen]; omega) (by omega) (by have := HBe.out.size; simp; omega) ?_; intro v' w1 hown hgr _; have HOW := Hid.mk' hown; have HGR := Hid.mk' hgr; clear hown hgr)
        | fail)
      have HBN : Hid (Below w.heap.size w w1) := HA.out.grown HGR.out (by have := HBe.out.size; simp; omega) (fun kk hk => (World.ownsRow.lt HR.out kk hk).1)
      exact ⟨⟨k + 1, by omega, by go_num, by rw [HS.out]; exact HOW, HBN⟩, by simp [intOf]; omega⟩
    · obtain rfl : k = probes := by omega
      have hkp' : ¬ (k : Int) < (k : Int) := by omega
      go_wp2
      go_ret
      obtain ⟨a, c, rfl, hc⟩ := own_cells HR.out (by rw [List.length_map, spotL_len])
      exact ⟨a, c, rfl, hc, HBe.out⟩
/-- Bits set one behind the other. -/
def onAll {b : Nat} (f : Nat → Bool) (l : List (Fin b)) (i : Nat) : Bool := l.any (fun x => decide (i = x.val)) || f i
theorem onAll_bits {b : Nat} (ws : Nat → Nat) (l : List (Fin b)) : onAll (bitAt ws) l = bitAt (setAll ws l) := by
  funext i
  rw [bit_setAll]
  rfl
set_option maxRecDepth 100000 in
set_option maxHeartbeats 4000000 in
theorem radd_any (q g bits probes : Nat) (f : Nat → Bool) (h : List UInt8) (w : World) (hl : h.length = 32) (hb0 : 0 < bits) (hb1 : bits ≤ 65536) (hp : probes ≤ 16) (hF : RW w q g bits probes f) :
    Calls Try.prog 13 #[.pointer (some ⟨q, 0, none⟩), .agg (bs h)] w fun e w' => e = .returned (.tuple #[]) ∧ RW w' q g bits probes (onAll f (spotL h bits hb0 probes)) ∧ Kb w.heap.size g w w' := by
  have HR : Hid ((w.alloc (.cells (bs h) 30)).rangeAt w.heap.size 0 (hcs h)) := range_box w h 30
  have B0 : Hid (Below w.heap.size w (w.alloc (.cells (bs h) 30))) := (Below.refl _ _).alloc (Nat.le_refl _) _
  have C26 := Hid.mk' (rspots_any q g bits probes h (w.alloc (.cells (bs h) 30)) hl hb0 hb1 hp (hF.below B0.out).rc)
  have HFW : Hid (∀ W, Below w.heap.size w W → RW W q g bits probes f) := fun W hb => hF.below hb
  have lq := hF.rc.lt
  have lg := hF.rb.lt
  have HL : Hid (∀ k, k < probes → ((spotL h bits hb0 probes).map spV)[k]? = some (.int .i64 ((spotF h bits hb0 k).val : Int))) := fun k hk => by
    unfold spotL
    rw [List.getElem?_map, List.getElem?_map, List.getElem?_range hk]
    rfl
  have HP : Hid (∀ k i, onAll f (spotL h bits hb0 (k + 1)) i = (decide (i = (spotF h bits hb0 k).val) || onAll f (spotL h bits hb0 k) i)) := fun k i => by
    unfold onAll
    rw [spotL_succ, List.any_append]
    simp only [List.any_cons, List.any_nil, Bool.or_false]
    cases (spotL h bits hb0 k).any (fun x => decide (i = x.val)) <;> cases decide (i = (spotF h bits hb0 k).val) <;> rfl
  clear hF
  go_enter Try.func13, Try.ntmps13
  go_wp2_with (first
    | (with_reducible refine at_ld ?_; refine wpList_ld (.tmp 3) rfl rfl w.heap.size 0 rfl h hl HR.out ?_)
    | (go_at_call 26; refine C26.out.mono ?_; clear C26; rintro e W1 ⟨a, c, rfl, y1, l1⟩; have Y1 := Hid.mk' y1; have B1 := Hid.mk' (B0.out.trans (l1.mono B0.out.size)); have L1 := Hid.mk' l1; clear y1 l1)
    | fail)
  have F1 := Hid.mk' (HFW.out _ B1.out)
  have HC : Hid (∀ W, K.Fr g W1 W → ∀ k, k < probes → ∃ b, a = some ⟨b, 0, none⟩ ∧ W.cell? ⟨b, k, none⟩ = some (.int .i64 ((spotF h bits hb0 k).val : Int))) := fun W hW k hk => by
    obtain ⟨b, e1, e2⟩ := Y1.out W1 (Below.refl _ _) k _ (HL.out k hk)
    refine ⟨b, e1, hW.cell (p := ⟨b, k, none⟩) (fun e => ?_) e2⟩
    obtain ⟨x, hx, hn, hc⟩ := F1.out.rb
    have e' : b = g := e
    subst e'
    have := F1.out.rb
    simp only [World.cell?, hx] at e2
    by_cases hkb : k < x.size
    · have h3 := hc k (by omega)
      rw [h3] at e2
      simp at e2
    · rw [Array.getElem?_eq_none (by omega)] at e2
      simp at e2
  have H0 : Hid (RB W1 g bits (onAll f (spotL h bits hb0 0))) := F1.out.rb
  have HRC := Hid.mk' F1.out.rc
  clear F1 HFW HR B0 L1 Y1 HL
  go_loopw [5] (fun i wr => ∃ k : Nat, k ≤ probes ∧ i = .int .i64 (k : Int) ∧ Hid (RB wr g bits (onAll f (spotL h bits hb0 k))) ∧ Hid (K.Fr g W1 wr)) (fun i _ => probes - (intOf i).toNat)
  case atStart => exact ⟨0, by omega, rfl, H0, K.Fr.refl _ _⟩
  case round =>
    obtain ⟨k, hk, rfl, HB, HG⟩ := hrel
    clear H0
    by_cases hkp : k < probes
    · have hkp' : (k : Int) < (probes : Int) := by omega
      obtain ⟨b, rfl, cb⟩ := HC.out wr HG.out k hkp
      have c0 : wr.cell? ⟨q, 0, none⟩ = some (.slice (some ⟨g, 0, none⟩) bits bits) := HG.out.cell (p := ⟨q, 0, none⟩) (fun e => HRC.out.ne e.symm) HRC.out.c0
      have hsp := (spotF h bits hb0 k).isLt
      have hPk := HP.out k
      generalize (spotF h bits hb0 k).val = sp at *
      have cg : wr.cell? ⟨g, sp, none⟩ = some (.bool (onAll f (spotL h bits hb0 k) sp)) := HB.out.cell hsp
      have fg : wr.frozen? ⟨g, sp, none⟩ = false := HB.out.frozen _
      have ix := fun wx => index49 b probes c k wx hkp
      have ix2 := fun wx => index99 g bits bits sp wx hsp
      have HN : Hid (RB (wr.setCell ⟨g, sp, none⟩ (.bool true)).drew g bits (onAll f (spotL h bits hb0 (k + 1)))) := (HB.out.set sp _).congr fun i _ => by
        by_cases e : i = sp
        · rw [if_pos e, hPk i, decide_eq_true e, Bool.true_or]
        · rw [if_neg e, hPk i, decide_eq_false e, Bool.false_or]
      have HF : Hid (K.Fr g W1 (wr.setCell ⟨g, sp, none⟩ (.bool true)).drew) := (HG.out.trans (K.Fr.set g wr ⟨g, sp, none⟩ rfl _)).trans (K.Fr.drew g _ 1)
      clear hPk
      generalize onAll f (spotL h bits hb0 k) sp = ob at *
      go_wp2
      go_region
      go_wp2
      exact ⟨⟨k + 1, by omega, by go_num, HN, HF⟩, by simp [intOf]; omega⟩
    · obtain rfl : k = probes := by omega
      have hkp' : ¬ (k : Int) < (k : Int) := by omega
      go_wp2
      go_end0
      refine ⟨rfl, ⟨HRC.out.of (HG.out.block q HRC.out.lt (fun e => HRC.out.ne e.symm)), HB.out⟩, (Kb.below B1.out).trans ⟨HG.out.os, HG.out.tape, HG.out.output, HG.out.size, fun j hj hg => HG.out.block j (by have := B1.out.size; omega) hg⟩⟩
end Go.Proofs.Ytdajeabhhkgibaa

namespace Go.Proofs.Ytdajeabhhkgibaa
open Go.RowKit Go.Maps
set_option linter.unusedVariables false
set_option linter.unusedSimpArgs false

def onL {b : Nat} (f : Nat → Bool) (l : List (Fin b)) : Bool := l.all fun x => f x.val
set_option maxRecDepth 100000 in
set_option maxHeartbeats 4000000 in
theorem rhas_any (q g bits probes : Nat) (f : Nat → Bool) (h : List UInt8) (w : World) (hl : h.length = 32) (hb0 : 0 < bits) (hb1 : bits ≤ 65536) (hp : probes ≤ 16) (hF : RW w q g bits probes f) :
    Calls Try.prog 23 #[.pointer (some ⟨q, 0, none⟩), .agg (bs h)] w fun e w' => e = .returned (.bool (onL f (spotL h bits hb0 probes))) ∧ Below w.heap.size w w' := by
  have HR : Hid ((w.alloc (.cells (bs h) 30)).rangeAt w.heap.size 0 (hcs h)) := range_box w h 30
  have B0 : Hid (Below w.heap.size w (w.alloc (.cells (bs h) 30))) := (Below.refl _ _).alloc (Nat.le_refl _) _
  have C26 := Hid.mk' (rspots_any q g bits probes h (w.alloc (.cells (bs h) 30)) hl hb0 hb1 hp (hF.below B0.out).rc)
  have HFW : Hid (∀ W, Below w.heap.size w W → RW W q g bits probes f) := fun W hb => hF.below hb
  have HL : Hid (∀ k, k < probes → ((spotL h bits hb0 probes).map spV)[k]? = some (.int .i64 ((spotF h bits hb0 k).val : Int))) := fun k hk => by
    unfold spotL
    rw [List.getElem?_map, List.getElem?_map, List.getElem?_range hk]
    rfl
  have HP : Hid (∀ k, onL f (spotL h bits hb0 (k + 1)) = (onL f (spotL h bits hb0 k) && f (spotF h bits hb0 k).val)) := fun k => by
    unfold onL
    rw [spotL_succ, List.all_append]
    simp
  have HNO : Hid (∀ k, k < probes → f (spotF h bits hb0 k).val = false → onL f (spotL h bits hb0 probes) = false) := fun k hk hf => by
    have hm : spotF h bits hb0 k ∈ spotL h bits hb0 probes := by unfold spotL; exact List.mem_map.2 ⟨k, List.mem_range.2 hk, rfl⟩
    cases e : onL f (spotL h bits hb0 probes) with
    | false => rfl
    | true =>
      unfold onL at e
      have := List.all_eq_true.1 e _ hm
      rw [hf] at this
      cases this
  clear hF
  go_enter Try.func23, Try.ntmps23
  go_wp2_with (first
    | (with_reducible refine at_ld ?_; refine wpList_ld (.tmp 3) rfl rfl w.heap.size 0 rfl h hl HR.out ?_)
    | (go_at_call 26; refine C26.out.mono ?_; clear C26; rintro e W1 ⟨a, c, rfl, y1, l1⟩; have Y1 := Hid.mk' y1; have B1 := Hid.mk' (B0.out.trans (l1.mono B0.out.size)); clear y1 l1)
    | fail)
  clear HR B0
  go_loopw [6] (fun i wr => ∃ k : Nat, k ≤ probes ∧ i = .int .i64 (k : Int) ∧ Hid (onL f (spotL h bits hb0 k) = true) ∧ Hid (Below W1.heap.size W1 wr)) (fun i _ => probes - (intOf i).toNat)
  case atStart => exact ⟨0, by omega, rfl, rfl, Below.refl _ _⟩
  case round =>
    obtain ⟨k, hk, rfl, HO, HB⟩ := hrel
    have HBW : Hid (Below w.heap.size w wr) := B1.out.trans (HB.out.mono B1.out.size)
    by_cases hkp : k < probes
    · have hkp' : (k : Int) < (probes : Int) := by omega
      obtain ⟨b, rfl, cb⟩ := Y1.out wr HB.out k _ (HL.out k hkp)
      have hRW := HFW.out wr HBW.out
      have c0 := hRW.rc.c0
      have hsp := (spotF h bits hb0 k).isLt
      have cg : wr.cell? ⟨g, (spotF h bits hb0 k).val, none⟩ = some (.bool (f (spotF h bits hb0 k).val)) := hRW.rb.cell hsp
      have ix := fun wx => index49 b probes c k wx hkp
      have ix2 := fun wx => index99 g bits bits (spotF h bits hb0 k).val wx hsp
      clear hRW
      cases hf : f (spotF h bits hb0 k).val with
      | true =>
        rw [hf] at cg
        have HS : Hid (onL f (spotL h bits hb0 (k + 1)) = true) := by show _ = _; rw [HP.out, HO.out, hf]; rfl
        clear hf
        generalize (spotF h bits hb0 k).val = sp at *
        go_wp2
        go_region
        go_wp2
        exact ⟨⟨k + 1, by omega, by go_num, HS, HB.out.drew⟩, by simp [intOf]; omega⟩
      | false =>
        rw [hf] at cg
        have HS := Hid.mk' (HNO.out k hkp hf)
        clear hf
        generalize (spotF h bits hb0 k).val = sp at *
        go_wp2
        go_region
        go_wp2
        go_ret
        exact ⟨by rw [HS.out]; rfl, HBW.out.drew⟩
    · obtain rfl : k = probes := by omega
      have hkp' : ¬ (k : Int) < (k : Int) := by omega
      go_wp2
      go_ret
      exact ⟨by rw [HO.out]; rfl, HBW.out⟩
theorem onL_bits {b : Nat} (ws : Nat → Nat) (l : List (Fin b)) : onL (bitAt ws) l = allBits ws l := rfl
end Go.Proofs.Ytdajeabhhkgibaa

namespace Go.Proofs.Ytdajeabhhkgibaa
open Go.RowKit Go.Maps
set_option linter.unusedVariables false
set_option linter.unusedSimpArgs false

/-- The bits behind k of a join. -/
def jB (f f2 : Nat → Bool) (k i : Nat) : Bool := if i < k then (f i || f2 i) else f i
set_option maxRecDepth 100000 in
set_option maxHeartbeats 4000000 in
theorem rjoin_any (q g q2 g2 bits probes : Nat) (f f2 : Nat → Bool) (w : World) (h : RW w q g bits probes f) (h2 : RW w q2 g2 bits probes f2) (hb : bits ≤ 65536) (hq2 : q2 ≠ g) (hs : g2 ≠ g ∨ (g2 = g ∧ f2 = f)) :
    Calls Try.prog 15 #[.pointer (some ⟨q, 0, none⟩), .pointer (some ⟨q2, 0, none⟩)] w fun e w' => e = .returned (.int .i64 0) ∧ RB w' g bits (jB f f2 bits) ∧ K.Fr g w w' := by
  have a0 := h.rc.c0
  have a1 := h.rc.c1
  have b0 := h2.rc.c0
  have b1 := h2.rc.c1
  have HA0 : Hid (∀ W, K.Fr g w W → W.cell? ⟨q, 0, none⟩ = some (.slice (some ⟨g, 0, none⟩) bits bits)) := fun W hW => hW.cell (p := ⟨q, 0, none⟩) (fun e => h.rc.ne e.symm) a0
  have HB0 : Hid (∀ W, K.Fr g w W → W.cell? ⟨q2, 0, none⟩ = some (.slice (some ⟨g2, 0, none⟩) bits bits)) := fun W hW => hW.cell (p := ⟨q2, 0, none⟩) hq2 b0
  have HG2 : Hid (∀ W k, K.Fr g w W → RB W g bits (jB f f2 k) → k < bits → W.cell? ⟨g2, k, none⟩ = some (.bool (f2 k))) := fun W k hW hr hk => by
    rcases hs with hs | ⟨e1, e2⟩
    · exact hW.cell (p := ⟨g2, k, none⟩) hs (h2.rb.cell hk)
    · rw [e1, hr.cell hk, e2]
      unfold jB
      rw [if_neg (by omega)]
  have H0 : Hid (RB w g bits (jB f f2 0)) := h.rb.congr fun i _ => by unfold jB; rw [if_neg (by omega)]
  clear h h2 hs
  go_enter Try.func15, Try.ntmps15
  go_upto_region 3 with fail
  go_quiet (fail)
  rename_i hK
  refine hK _ _ ?_
  have H1 : Hid (RB (w.drewN nq) g bits (jB f f2 0)) := H0.out
  have G1 : Hid (K.Fr g w (w.drewN nq)) := K.Fr.drew g w nq
  generalize w.drewN nq = W1 at *
  clear hK H0 a0 a1 b0 b1
  go_wp2
  go_loopw [5] (fun i wr => ∃ k : Nat, k ≤ bits ∧ i = .int .i64 (k : Int) ∧ Hid (RB wr g bits (jB f f2 k)) ∧ Hid (K.Fr g w wr)) (fun i _ => bits - (intOf i).toNat)
  case atStart => exact ⟨0, by omega, rfl, H1, G1⟩
  case round =>
    obtain ⟨k, hk, rfl, HR, HG⟩ := hrel
    clear H1 G1
    have a0 := HA0.out wr HG.out
    have b0 := HB0.out wr HG.out
    by_cases hkb : k < bits
    · have hkb' : (k : Int) < (bits : Int) := by omega
      have cg : wr.cell? ⟨g, k, none⟩ = some (.bool (f k)) := by
        have := HR.out.cell hkb
        rw [this]
        unfold jB
        rw [if_neg (by omega)]
      have cg2 := HG2.out wr k HG.out HR.out hkb
      have fg : wr.frozen? ⟨g, k, none⟩ = false := HR.out.frozen _
      have ix := fun wx => index99 g bits bits k wx hkb
      have ix2 := fun wx => index99 g2 bits bits k wx hkb
      have HN : Hid (RB (wr.setCell ⟨g, k, none⟩ (.bool (f k || f2 k))).drew g bits (jB f f2 (k + 1))) := (HR.out.set k _).congr fun i _ => by
        unfold jB
        by_cases e : i = k
        · rw [if_pos e, if_pos (by omega), e]
        · rw [if_neg e]
          by_cases e2 : i < k
          · rw [if_pos e2, if_pos (by omega)]
          · rw [if_neg e2, if_neg (by omega)]
      have HF : Hid (K.Fr g w (wr.setCell ⟨g, k, none⟩ (.bool (f k || f2 k))).drew) := (HG.out.trans (K.Fr.set g wr ⟨g, k, none⟩ rfl _)).trans (K.Fr.drew g _ 1)
      cases hf : f k with
      | true =>
        rw [hf] at cg HN HF
        rw [Bool.true_or] at HN HF
        clear hf
        go_wp2
        go_region
        go_wp2
        exact ⟨⟨k + 1, by omega, by go_num, HN, HF⟩, by simp [intOf]; omega⟩
      | false =>
        rw [hf] at cg HN HF
        rw [Bool.false_or] at HN HF
        clear hf
        generalize f2 k = z at *
        go_wp2
        go_region
        go_wp2
        exact ⟨⟨k + 1, by omega, by go_num, HN, HF⟩, by simp [intOf]; omega⟩
    · obtain rfl : k = bits := by omega
      have hkb' : ¬ (k : Int) < (k : Int) := by omega
      go_wp2
      go_ret
      exact ⟨rfl, HR.out, HG.out⟩
theorem jB_bits (a b : Nat → Nat) (bits m : Nat) (i : Nat) (hi : i < bits) (hm : bits ≤ 64 * m) : jB (bitAt a) (bitAt b) bits i = bitAt (orW a b m) i := by
  unfold jB
  rw [if_pos hi, bit_orW a b m i (by omega)]
end Go.Proofs.Ytdajeabhhkgibaa

