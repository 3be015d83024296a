import Derived.Test.YtdgbjmhmacgaaaaDoorUm
import Derived.Test.YtdgbjmhmacgaaaaDoorUh
namespace Go.Proofs.YtdgbjmhmacgaaaaDoor
open Go.RowKit
set_option linter.unusedVariables false
set_option linter.unusedSimpArgs false

def UnqOut (s : ByteArray) (w : World) (e : Ending) (w' : World) : Prop := e = .returned (.tuple #[.string ⟨(unqA s).1.toArray⟩, .int .i64 (unqA s).2.1, .int .i64 (unqA s).2.2]) ∧ Below w.heap.size w w'
theorem unq_mk {s : ByteArray} {w w' : World} {l : List UInt8} {a b : Int} (h : unqA s = (l, a, b)) (hw : Below w.heap.size w w') : UnqOut s w (.returned (.tuple #[.string ⟨l.toArray⟩, .int .i64 a, .int .i64 b])) w' :=
  ⟨by rw [h], hw⟩
theorem unq_mk0 {s : ByteArray} {w w' : World} {a b : Int} (h : unqA s = ([], a, b)) (hw : Below w.heap.size w w') : UnqOut s w (.returned (.tuple #[.string { data := #[] }, .int .i64 a, .int .i64 b])) w' :=
  ⟨by rw [h], hw⟩
theorem res17 (tmps : Array Value) (w : World) (a b c : Value) (h1 : tmps.getD 2 undef = a) (h2 : tmps.getD 3 undef = b) (h3 : tmps.getD 4 undef = c) : (results Tryd.f17 tmps).run Tryd.prog w = .ok (.tuple #[a, b, c]) w := by
  subst h1 h2 h3
  simp [results, Tryd.results17]
theorem empty_list {s : ByteArray} (h : s.size = 0) : s.toList.isEmpty = true := by
  rw [Lib.toList_data]
  have : s.data.toList = [] := List.eq_nil_of_length_eq_zero (by rw [← Lib.size_eq]; exact h)
  rw [this]; rfl
theorem builderAt_below {B b : Nat} {p : Value} {bs : List Value} {w w' : World} (h : Lib.BuilderAtF 53 5 B b p bs w) (hb : Below w.heap.size w w') : Lib.BuilderAtF 53 5 B b p bs w' := by
  have hlt := h.lt
  obtain ⟨hB, v, hbb, hown, hne⟩ := h
  refine ⟨hB, v, (hb.block b hlt).trans hbb, ⟨hown.1, ?_⟩, hne⟩
  rcases hown.2 with hn | ⟨g, cap, cur, fz, rfl, hb2, hg, rest⟩
  · exact .inl hn
  · exact .inr ⟨g, cap, cur, fz, rfl, hb2, (hb.block g (Array.getElem?_eq_some_iff.1 hg).1).trans hg, rest⟩
theorem builder_below {B b : Nat} {bs : List Value} {w w' : World} (h : Lib.IsBuilderF 53 5 B b bs w) (hb : Below w.heap.size w w') : Lib.IsBuilderF 53 5 B b bs w' :=
  h.elim (fun x => .inl (builderAt_below x hb)) (fun x => .inr (builderAt_below x hb))
set_option maxRecDepth 100000 in
set_option maxHeartbeats 4000000 in
theorem unquote_any (s : ByteArray) (w : World) (hs : s.size ≤ 140737488351232) (hT : Tabs w) :
    Calls Tryd.prog 17 #[.string s] w (UnqOut s w) := by
  by_cases h0 : s.size = 0
  · have hE := empty_list h0
    have hA : unqA s = ([], 0, 31) := by unfold unqA; rw [if_pos (.inl h0)]
    go_enter Tryd.func17, Tryd.ntmps17
    go_wp2
    exact bodyPost_ret (res17 _ _ _ _ _ rfl rfl rfl) rfl (unq_mk0 hA (Below.refl _ _))
  have h0s : 0 < s.size := by omega
  have h0' : (0 : Int) < (s.size : Int) := by omega
  have hE := not_empty s h0s
  obtain ⟨b0, hb0⟩ : ∃ b, (s[0]'h0s).toNat = b := ⟨_, rfl⟩
  have g0 : by8 s 0 = b0 := by rw [by8_get s 0 h0s, hb0]
  by_cases hq : b0 = 34
  · have hA : Hid (unqF s s.size 1 [] = unqA s) := by
      show _ = _
      unfold unqA
      rw [if_neg (by rw [g0]; omega)]
    have c0 : ((b0 : Int) != 34) = false := by rw [hq]; rfl
    clear g0 hq
    have HT : Hid (Tabs w) := hT
    clear hT
    go_enter Tryd.func17, Tryd.ntmps17
    go_wp2
    go_loopw [6] (fun i wr => ∃ (k f : Nat) (acc : List UInt8), i = .int .i64 k ∧ k ≤ s.size ∧ 1 ≤ k ∧ Hid (s.size + 1 ≤ k + f) ∧ Hid (acc.length ≤ k) ∧ Hid (Lib.IsBuilderF 53 5 w.heap.size w.heap.size (Lib.byteCells acc) wr) ∧ Hid (Below w.heap.size w wr) ∧ Hid (unqF s f k acc = unqA s)) (fun i _ => s.size - (intOf i).toNat)
    case atStart => exact ⟨1, s.size, [], rfl, by omega, by omega, (by omega : _ ≤ _), (Nat.zero_le 1 : _ ≤ _), Lib.IsBuilderF.of (Lib.fresh_isBuilder 53 5 w), (Below.refl _ w).alloc (Nat.le_refl _) _, hA⟩
    case round =>
      obtain ⟨k, f, acc, rfl, hk, hk1, hf, hal, hI, bel, hF⟩ := hrel
      clear hA
      have hfp : ∃ f', f = f' + 1 := ⟨f - 1, by have := hf.out; omega⟩
      obtain ⟨f', rfl⟩ := hfp
      have ZB : Hid (w.heap.size ≤ wr.heap.size) := bel.out.size
      by_cases h1 : k < s.size
      · have h1' : (k : Int) < (s.size : Int) := by omega
        obtain ⟨b, hb⟩ : ∃ b, (s[k]'h1).toNat = b := ⟨_, rfl⟩
        have gk : by8 s k = b := by rw [by8_get s k h1, hb]
        by_cases h2 : b = 34
        · have c2 : ((b : Int) != 34) = false := by rw [h2]; rfl
          have c3 : ((k : Int) == (s.size : Int)) = false := beq_eq_false_iff_ne.2 (by omega)
          have hA : Hid (unqA s = (acc, (k : Int) + 1, 0)) := by
            show _ = _
            rw [← hF.out]
            exact unqF_shut h1 (by omega)
          clear gk h2 hF
          go_wp2_with fail
          refine (bstring_any w.heap.size w.heap.size acc _ hI.out ZB.out).mono ?_
          rintro e W1 ⟨rfl, _, b1, _⟩
          go_wp2
          exact bodyPost_ret (res17 _ _ _ _ _ rfl rfl rfl) rfl (unq_mk hA.out (bel.out.trans b1))
        · have c2 : ((b : Int) != 34) = true := bne_iff_ne.2 (by omega)
          have h2' : Hid (by8 s k ≠ 34) := by show _ ≠ _; omega
          obtain ⟨t, ht⟩ : ∃ t, s.extract k s.size = t := ⟨_, rfl⟩
          have zt : t.size = s.size - k := by rw [← ht, Lib.ext_size]
          have HC : Hid (Calls Tryd.prog 37 #[.string t] wr (ChrOut t wr)) := character_any t wr (by omega) (by omega) (HT.out.below bel.out)
          have ht' : Hid (s.extract k s.size = t) := ht
          clear gk h2
          go_wp2_with fail
          refine HC.out.mono ?_
          rintro e W1 ⟨⟨v, hv, rfl⟩, b1⟩
          obtain ⟨c, n, ok⟩ := v
          obtain ⟨n0, n1, nok⟩ := chr_ok (by omega) hv
          have HV : Hid (ChrV (s.extract k s.size) (c, n, ok)) := by show ChrV _ _; rw [ht'.out]; exact hv
          obtain ⟨m, rfl⟩ := Int.eq_ofNat_of_zero_le n0
          have B1 : Hid (Below w.heap.size w W1) := bel.out.trans (b1.mono bel.out.size)
          cases ok with
          | false =>
            have hA : Hid (unqA s = ([], (k : Int) + (m : Int), 31)) := by
              show _ = _
              rw [← hF.out]
              exact unqF_bad h1 h2'.out HV.out
            clear hv nok b1 hF HV
            go_wp2
            exact bodyPost_ret (res17 _ _ _ _ _ rfl rfl rfl) rfl (unq_mk0 hA.out B1.out)
          | true =>
            obtain ⟨m1, c0', c1', el⟩ := nok rfl
            have hA : Hid (unqF s f' (k + m) (acc ++ Lib.encodeRune c) = unqA s) := by
              show _ = _
              rw [← hF.out, unqF_step h1 h2'.out HV.out]
              rfl
            have I1 : Hid (Lib.IsBuilderF 53 5 w.heap.size w.heap.size (Lib.byteCells acc) W1) := builder_below hI.out b1
            have Z1 : Hid (w.heap.size ≤ W1.heap.size) := B1.out.size
            have LB : Hid ((Lib.byteCells acc).length + 4 ≤ 140737488355328) := by
              show _ ≤ _
              rw [Lib.byteCells_length]
              have := hal.out
              omega
            have F2 : Hid (s.size + 1 ≤ k + m + f') := (by have := hf.out; omega : _ ≤ _)
            have L2 : Hid ((acc ++ Lib.encodeRune c).length ≤ k + m) := by
              show _ ≤ _
              rw [List.length_append]
              have := hal.out
              omega
            clear hv nok b1 hF HV hI bel el hf
            go_wp2_with fail
            refine (wrune_any w.heap.size w.heap.size _ c (by omega) (by omega) _ I1.out LB.out Z1.out).mono ?_
            rintro e W2 ⟨rfl, h2b, b2, _⟩
            have I2 : Hid (Lib.IsBuilderF 53 5 w.heap.size w.heap.size (Lib.byteCells (acc ++ Lib.encodeRune c)) W2) := by
              show Lib.IsBuilderF _ _ _ _ _ _
              rw [Lib.byteCells_append, Lib.byteCells_encodeRune]
              exact Or.inr h2b
            have B2 : Hid (Below w.heap.size w W2) := B1.out.trans b2
            clear h2b b2
            go_wp2
            go_roundw
            case rel => exact ⟨k + m, f', acc ++ Lib.encodeRune c, by go_num, by omega, by omega, F2, L2, I2, B2, hA⟩
            case measure => simp [intOf]; omega
      · obtain rfl : k = s.size := by omega
        have h1' : ¬ (s.size : Int) < (s.size : Int) := by omega
        have hA : Hid (unqA s = ([], (s.size : Int), 31)) := by
          show _ = _
          rw [← hF.out]
          exact unqF_end rfl
        clear hF
        go_wp2
        exact bodyPost_ret (res17 _ _ _ _ _ rfl rfl rfl) rfl (unq_mk0 hA.out bel.out)
  · have c0 : ((b0 : Int) != 34) = true := bne_iff_ne.2 (by omega)
    have hA : unqA s = ([], 0, 31) := by unfold unqA; rw [if_pos (.inr (by rw [g0]; exact hq))]
    clear g0 hq
    go_enter Tryd.func17, Tryd.ntmps17
    go_wp2
    exact bodyPost_ret (res17 _ _ _ _ _ rfl rfl rfl) rfl (unq_mk0 hA (Below.refl _ _))
end Go.Proofs.YtdgbjmhmacgaaaaDoor
