import Derived.Test.YtphpaaajfcbafaaDoorQl
namespace Go.Proofs.YtphpaaajfcbafaaDoor.K
open Go.RowKit
set_option linter.unusedVariables false
set_option linter.unusedSimpArgs false

theorem un_ok (L : List UInt8) (n : Nat) : ∀ (f : Nat) (s : St) (l : List Nat) (lr : Bool), L.length - s.k ≤ f → s.k ≤ L.length → l.length ≤ n → (∀ x ∈ l, x < 18446744073709551616) → (un L n s l lr).1.length ≤ n ∧ ∀ x ∈ (un L n s l lr).1, x < 18446744073709551616
  | f, s, l, lr, hf, hk, hl, hx => by
    by_cases h : s.k < L.length
    · by_cases hb : (pcS L (n - l.length) s).bad = 0
      · by_cases hn : nof l (pcL L (n - l.length) s) (pcR L s) lr = true
        · rw [un_form h hb hn]; simp
        · rw [un_step h hb hn]
          have hg := (pc_good hk hb).2.1
          have hp := pcS_le (L := L) (s := s) (n - l.length) hk
          have hpl := pcL_len hk hb
          cases f with
          | zero => omega
          | succ f =>
            refine un_ok L n f _ _ _ (by omega) hp.2 (by rw [List.length_append]; omega) (fun x hm => ?_)
            rw [List.mem_append] at hm
            rcases hm with hm | hm
            · exact hx x hm
            · exact pcL_lt _ hk x hm
      · rw [un_fault h hb]; simp
    · by_cases hn : l.length < n
      · rw [un_less h hn]; simp
      · rw [un_end h hn]; exact ⟨hl, hx⟩
theorem unA_ok (L : List UInt8) (n : Int) (hn : n ≤ 2147483647) : (unA L n).1.length ≤ 2147483647 ∧ ∀ x ∈ (unA L n).1, x < 18446744073709551616 := by
  unfold unA
  split
  · simp
  · have := un_ok L n.toNat L.length ⟨0, 0, 0⟩ [] false (by show L.length - 0 ≤ _; omega) (by show 0 ≤ _; omega) (by simp) (by simp)
    exact ⟨by omega, this.2⟩
/-- What UnDeltas answers. -/
def UF (w w' : World) (D : List Int × Int × Int) (e : Ending) : Prop := ∃ a c, e = .returned (.tuple #[.slice a D.1.length c, .int .i64 D.2.1, .int .i64 D.2.2]) ∧ Sgn w' a D.1 ∧ Below w.heap.size w w'
variable {L : List UInt8}
set_option maxRecDepth 100000 in
set_option maxHeartbeats 1000000 in
theorem UnDeltas_any (n : Int) (a0 : Option Addr) (nb c0 : Nat) (w : World) (hg : EG w) (hl : L.length = nb) (hnb : nb ≤ 140737488351232) (ha : a0 = none → c0 = 0) (hb : Byt w a0 L) (hn0 : -9223372036854775808 ≤ n) (hn : n ≤ 2147483647) :
    Calls Tryd.prog 8 #[.slice a0 nb c0, .int .i64 n] w fun e w' => UF w w' (unDA (unA L n)) e := by
  have HU := Hid.mk' (undeltas_any n a0 nb c0 w hl hnb ha hb hn0 hn (unA_ok L n hn).1 (unA_ok L n hn).2)
  have HG := Hid.mk' hg
  clear hb ha hg
  unfold UE at HU
  generalize unDA (unA L n) = A at *
  go_enter Tryd.func8, Tryd.ntmps8
  go_wp2_with (first
    | (go_at_call 22; refine HU.out.mono ?_)
    | fail)
  rintro e w1 ⟨av, cv, err, rfl, he, ho, hb⟩
  have HT := Hid.mk' (told_any err _ _ w1 (HG.out.below hb) he)
  have HO := Hid.mk' ho
  have HB := Hid.mk' hb
  clear he ho hb
  go_wp2_with (first
    | (go_at_call 16; refine HT.out.mono ?_)
    | fail)
  rintro e w2 ⟨rfl, b2⟩
  have HR : Hid (UF w w2 A (.returned (.tuple #[.slice av A.1.length cv, .int .i64 A.2.1, .int .i64 A.2.2]))) := ⟨av, cv, rfl, HO.out.below b2, HB.out.trans (b2.mono HB.out.size)⟩
  clear b2 HO HB HT
  go_wp2
  go_ret3
  exact HR.out
/-- The document's Reader and a list of numbers beside it. -/
structure PI (w wr : World) (r : Nat) (a : Option Addr) (cap : Nat) (L : List UInt8) (s : St) (X : List Nat) (la : Option Addr) (lc : Nat) : Prop where
  rd : RD wr 79 r a cap L s
  own : OwnV wr w.heap.size 35 (.slice la X.length lc) (uC X)
  fr : Fr r w wr
variable {w wr W1 W2 : World} {r cap : Nat} {a : Option Addr} {s s' : St} {X : List Nat} {la : Option Addr} {lc : Nat}
theorem PI.next (h : PI w wr r a cap L s X la lc) (hr : r < w.heap.size) (ha : ∀ ad, a = some ad → ad.block < w.heap.size) (hon : On wr W1 79 r a cap L s') {u : Nat} {v2 : Value} (own2 : OwnV W2 w.heap.size 35 v2 (uC X ++ [.int .u64 (u : Int)])) (gr : (W1.alloc (.cells #[.int .u64 (u : Int)] 35)).grownBy W2 (Value.slice la X.length lc).ownBlock) :
    ∃ la2 lc2, v2 = .slice la2 (X.length + 1) lc2 ∧ PI w W2 r a cap L s' (X ++ [u]) la2 lc2 := by
  have hz := h.fr.size
  have hz1 := hon.2.size
  have hob : ∀ k, k < w.heap.size → some k ≠ (Value.slice la X.length lc).ownBlock := fun k hk e => by
    have := (World.ownsRow.lt h.own k e.symm).1
    omega
  have blk : ∀ k, k < w.heap.size → W2.heap[k]? = W1.heap[k]? := fun k hk => by
    rw [gr.block k (by simp; omega) (hob k hk)]
    exact heap_alloc_old W1 _ (by omega)
  obtain ⟨av2, cv2, rfl, _⟩ := own2.open
  have hlen : (uC X ++ [Value.int .u64 (u : Int)]).length = X.length + 1 := by simp [uC_len]
  rw [hlen] at own2 ⊢
  refine ⟨av2, cv2, rfl, ⟨hon.1.keep (blk r hr) (fun ad e => blk _ (ha ad e)), ?_, ⟨?_, ?_, ?_, ?_, fun k hk h1 => ?_⟩⟩⟩
  · have e : uC (X ++ [u]) = uC X ++ [.int .u64 (u : Int)] := by rw [uC_app]; rfl
    rw [e, List.length_append]
    exact own2
  · exact gr.os.trans (hon.2.os.trans h.fr.os)
  · exact gr.tape.trans (hon.2.tape.trans h.fr.tape)
  · exact gr.output.trans (hon.2.output.trans h.fr.output)
  · have := gr.size
    simp at this
    omega
  · rw [blk k hk, hon.2.block k (by omega) h1, h.fr.block k hk h1]
/-- What append wants. -/
theorem PI.app (h : PI w wr r a cap L s X la lc) (hr : r < w.heap.size) (hon : On wr W1 79 r a cap L s') (u : Nat) :
    OwnV (W1.alloc (.cells #[.int .u64 (u : Int)] 35)) w.heap.size 35 (.slice la X.length lc) (uC X) ∧ Vals (W1.alloc (.cells #[.int .u64 (u : Int)] 35)) (some ⟨W1.heap.size, 0, none⟩) [.int .u64 (u : Int)] ∧ w.heap.size ≤ (W1.alloc (.cells #[.int .u64 (u : Int)] 35)).heap.size := by
  have be : Below W1.heap.size W1 (W1.alloc (.cells #[.int .u64 (u : Int)] 35)) := (Below.refl _ _).alloc (Nat.le_refl _) _
  refine ⟨(ownV_fr h.own hon.2 (fun e => ?_)).below be, vals_lit _ _ _, ?_⟩
  · have := (World.ownsRow.lt h.own r e).1
    omega
  · have := h.fr.size
    have := hon.2.size
    simp
    omega
/-- What piece answers. -/
def PQ (w w' : World) (r : Nat) (a : Option Addr) (cap : Nat) (L : List UInt8) (left : Nat) (s : St) (e : Ending) : Prop := ∃ la lc, e = .returned (.tuple #[.slice la (pcL L left s).length lc, .bool (pcR L s)]) ∧ PI w w' r a cap L (pcS L left s) (pcL L left s) la lc
theorem pi_nil (h : RD w 79 r a cap L s) (hon : On w wr 79 r a cap L s') : PI w wr r a cap L s' [] none 0 := ⟨hon.1, ownV_nil _ _ _, hon.2⟩
end Go.Proofs.YtphpaaajfcbafaaDoor.K
