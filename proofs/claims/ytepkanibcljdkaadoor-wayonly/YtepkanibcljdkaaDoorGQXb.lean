import Derived.Test.YtepkanibcljdkaaDoorGQXa
import Derived.Test.YtepkanibcljdkaaDoorQQq
import Derived.Lib.TrimAscii
import Derived.Shelf.LaysM
import Derived.Ground.NamesProg
import Derived.Shelf.Strconv.AppendIntPublic10
import Derived.Shelf.Strconv.Itoa3
import Derived.Test.YtepkanibcljdkaaDoorRows
namespace Go.Proofs.YtepkanibcljdkaaDoor.Q.X
open Go.RowKit
set_option linter.unusedVariables false
set_option linter.unusedSimpArgs false

theorem decodeN_pre {n n' b0 b1 b2 b3 c1 c2 c3 : Nat} {r : Nat × Nat} (h : Lib.decodeN n b0 b1 b2 b3 = r) (hv : ¬ (r.1 = 65533 ∧ r.2 = 1)) (hn : r.2 ≤ n') (e1 : 1 < r.2 → c1 = b1) (e2 : 2 < r.2 → c2 = b2) (e3 : 3 < r.2 → c3 = b3) : Lib.decodeN n' b0 c1 c2 c3 = r := by
  unfold Lib.decodeN at h
  unfold Lib.decodeN
  split at h
  · next a => rw [if_pos a]; exact h
  · next a =>
    rw [if_neg a]
    split at h
    · next b =>
      split at h
      · next d =>
        subst h
        simp only [] at hn e1
        have := e1 (by omega)
        subst this
        rw [if_pos ⟨b.1, by omega, b.2.2⟩, if_pos d]
      · subst h; exact absurd ⟨rfl, rfl⟩ hv
    · next b =>
      split at h
      · next d =>
        split at h
        · next g =>
          subst h
          simp only [] at hn e1 e2
          have := e1 (by omega)
          have := e2 (by omega)
          subst c1 c2
          rw [if_neg (by omega), if_pos ⟨d.1, ⟨by omega, d.2.1.2⟩, by omega, d.2.2.2⟩, if_pos g]
        · subst h; exact absurd ⟨rfl, rfl⟩ hv
      · next d =>
        split at h
        · next g =>
          split at h
          · next k =>
            subst h
            simp only [] at hn e1 e2 e3
            have := e1 (by omega)
            have := e2 (by omega)
            have := e3 (by omega)
            subst c1 c2 c3
            rw [if_neg (by omega), if_neg (by omega), if_pos ⟨g.1, ⟨by omega, g.2.1.2⟩, ⟨by omega, g.2.2.1.2⟩, by omega, g.2.2.2.2⟩, if_pos k]
          · subst h; exact absurd ⟨rfl, rfl⟩ hv
        · subst h; exact absurd ⟨rfl, rfl⟩ hv
/-- A whole character is what it is, whatever stands behind it. -/
theorem decode_app {l m : List UInt8} (hne : l ≠ []) (hv : ¬ ((Lib.decodeL l).1 = 65533 ∧ (Lib.decodeL l).2 = 1)) : Lib.decodeL (l.take (Lib.decodeL l).2 ++ m) = Lib.decodeL l := by
  have hp := decode_pos l
  have hle := decode_len l hne hv
  have hg : ∀ i, i < (Lib.decodeL l).2 → (l.take (Lib.decodeL l).2 ++ m).getD i 0 = l.getD i 0 := fun i hi => by
    rw [List.getD_eq_getElem?_getD, List.getD_eq_getElem?_getD, List.getElem?_append_left (by rw [List.length_take]; omega), List.getElem?_take, if_pos hi]
  rw [Lib.decodeL_N (_ ++ m), hg 0 (by omega)]
  refine decodeN_pre (Lib.decodeL_N l).symm hv ?_ ?_ ?_ ?_
  · rw [List.length_append, List.length_take]; omega
  · intro h; rw [hg 1 h]
  · intro h; rw [hg 2 h]
  · intro h; rw [hg 3 h]
theorem decode_low {l : List UInt8} (h : (Lib.decodeL l).1 < 128) : (l.getD 0 0).toNat = (Lib.decodeL l).1 ∧ (Lib.decodeL l).2 = 1 := by
  rw [Lib.decodeL_N] at h ⊢
  generalize (l.getD 0 0).toNat = b0 at *
  generalize (l.getD 1 0).toNat = b1 at *
  generalize (l.getD 2 0).toNat = b2 at *
  generalize (l.getD 3 0).toNat = b3 at *
  unfold Lib.decodeN at h ⊢
  split at h
  · next a => rw [if_pos a]; exact ⟨rfl, rfl⟩
  · next a =>
    rw [if_neg a]
    split at h
    · split at h <;> simp at h <;> omega
    · split at h
      · split at h <;> simp at h <;> omega
      · split at h
        · split at h <;> simp at h <;> omega
        · simp at h
theorem by8_drop (t : ByteArray) (i j : Nat) : by8 t (i + j) = ((t.data.toList.drop i).getD j 0).toNat := by
  unfold by8
  rw [List.getD_eq_getElem?_getD, List.getD_eq_getElem?_getD, List.getElem?_drop]
theorem enc_ascii {r : Nat} (h : r < 128) : Lib.encodeRune (r : Int) = [UInt8.ofNat r] := by
  rw [enc_asc (by omega) (by omega)]
  simp
/-- A byte of a text without hidden signs. -/
def shown (c : UInt8) : Bool := decide (32 ≤ c.toNat) && decide (c.toNat ≠ 127)
/-- What was put into quotes is read out of them. -/
theorem quo_go (t : ByteArray) (B : List UInt8) : ∀ (n : Nat) (l : List UInt8) (f i : Nat) (acc : List UInt8), l.length ≤ n → Lib.validD l = true → (∀ c ∈ l, shown c = true) → t.data.toList.drop i = l.flatMap escB ++ 34 :: B → t.size + 1 ≤ i + f → unqF t f i acc = (acc ++ l, (i : Int) + ((l.flatMap escB).length : Int) + 1, 0) := by
  intro n
  induction n with
  | zero =>
    intro l f i acc hl hv hs ht hf
    obtain rfl : l = [] := List.eq_nil_of_length_eq_zero (by omega)
    have hlen : (t.data.toList.drop i).length = 1 + B.length := by rw [ht]; simp; omega
    rw [List.length_drop, Array.length_toList] at hlen
    have hz : t.data.size = t.size := rfl
    have h34 : by8 t i = 34 := by have := by8_drop t i 0; rw [Nat.add_zero, ht] at this; simpa using this
    obtain ⟨g, rfl⟩ : ∃ g, f = g + 1 := ⟨f - 1, by omega⟩
    rw [unqF, if_neg (fun h => h.2 h34), if_neg (by omega)]
    simp
  | succ n ih =>
    intro l f i acc hl hv hs ht hf
    have hz : t.data.size = t.size := rfl
    by_cases hne : l = []
    · subst hne
      exact ih [] f i acc (by simp) hv hs ht hf
    · obtain ⟨hd, hv2⟩ := valid_next l hne hv
      have hp := decode_pos l
      have hle := decode_len l hne hd
      have he := Lib.encode_decode l hne hd
      have hstep := esc_step l hne hd
      have happ : ∀ m, Lib.decodeL (l.take (Lib.decodeL l).2 ++ m) = Lib.decodeL l := fun m => decode_app hne hd
      have hr := decode_le l
      have hlow : (Lib.decodeL l).1 < 128 → 32 ≤ (Lib.decodeL l).1 ∧ (Lib.decodeL l).1 ≠ 127 := fun h => by
        obtain ⟨e, _⟩ := decode_low h
        have hm : l.getD 0 0 ∈ l := by
          cases l with
          | nil => exact absurd rfl hne
          | cons a l => simp
        have := hs _ hm
        unfold shown at this
        simp only [Bool.and_eq_true, decide_eq_true_eq] at this
        rw [e] at this
        exact this
      have hlen : (t.data.toList.drop i).length = (l.flatMap escB).length + 1 + B.length := by rw [ht]; simp; omega
      rw [List.length_drop, Array.length_toList] at hlen
      generalize hD : Lib.decodeL l = D at *
      obtain ⟨r, m⟩ := D
      simp only [] at hd hv2 hp hle he hstep happ hr hlow
      have hx : (t.extract i t.size).data.toList = escR (r : Int) ++ ((l.drop m).flatMap escB ++ 34 :: B) := by
        rw [Lib.ext_list, ht, hstep, List.append_assoc]
      have zx : (t.extract i t.size).size = t.size - i := Lib.ext_size t i
      have next : ∀ q : Nat, (escR (r : Int)).length = q → 1 ≤ q → by8 t i ≠ 34 → ChrV (t.extract i t.size) ((r : Int), (q : Int), true) → unqF t f i acc = (acc ++ l, (i : Int) + ((l.flatMap escB).length : Int) + 1, 0) := by
        intro q hq hq1 h34 hc
        rw [hstep, List.length_append, hq] at hlen
        obtain ⟨g, rfl⟩ : ∃ g, f = g + 1 := ⟨f - 1, by omega⟩
        rw [unqF_step (by omega) h34 hc, Int.toNat_natCast]
        have e : t.data.toList.drop (i + q) = (l.drop m).flatMap escB ++ 34 :: B := by
          rw [← List.drop_drop, ht, hstep, List.append_assoc, ← hq, List.drop_left]
        rw [ih (l.drop m) g (i + q) _ (by rw [List.length_drop]; omega) hv2 (fun c hc => hs c (List.mem_of_mem_drop hc)) e (by omega), he, List.append_assoc, List.take_append_drop, hstep, List.length_append, hq]
        congr 2
        push_cast
        omega
      have b0 := by8_drop t i 0
      rw [Nat.add_zero, ht, hstep, List.append_assoc] at b0
      have x1 : by8 (t.extract i t.size) 1 = ((escR (r : Int) ++ ((l.drop m).flatMap escB ++ 34 :: B)).getD 1 0).toNat := by
        have := by8_drop (t.extract i t.size) 0 1
        rw [Nat.zero_add, List.drop_zero, hx] at this
        exact this
      by_cases hq : r = 34 ∨ r = 92
      · have hs2 : signN (r : Int) = (r : Int) := by unfold signN; rw [if_pos (by omega)]
        have e2 : escR (r : Int) = [92, UInt8.ofNat r] := by
          unfold escR
          rw [hs2, if_pos (by omega)]
          simp
        have hz2 : 2 ≤ (t.extract i t.size).size := by
          rw [zx]
          rw [hstep, List.length_append, e2] at hlen
          simp at hlen
          omega
        refine next 2 (by rw [e2]; rfl) (by omega) ?_ ?_
        · rw [b0, e2]; simp
        · refine .inl ⟨?_, .inr (.inl ⟨hz2, (r : Int), ?_, ?_, rfl⟩)⟩
          · rw [hx, e2, List.cons_append, Lib.decodeL_ascii 92 _ (by decide)]
            rfl
          · rcases hq with rfl | rfl
            · exact .inl rfl
            · exact .inr (.inl rfl)
          · rw [x1, e2, hs2]
            rcases hq with rfl | rfl <;> simp
      · have hhid : hidB (r : Int) = false := by
          unfold hidB
          rcases Nat.lt_or_ge r 128 with h | h
          · obtain ⟨h1, h2⟩ := hlow h
            rw [decide_eq_false (by omega), decide_eq_false (by omega)]
            rfl
          · rw [decide_eq_false (by omega), decide_eq_false (by omega)]
            rfl
        have hsg : signN (r : Int) = 0 := by
          unfold signN
          rcases Nat.lt_or_ge r 128 with h | h
          · obtain ⟨h1, h2⟩ := hlow h
            rw [if_neg (by omega), if_neg (by omega), if_neg (by omega), if_neg (by omega)]
          · rw [if_neg (by omega), if_neg (by omega), if_neg (by omega), if_neg (by omega)]
        have e2 : escR (r : Int) = l.take m := by
          unfold escR
          rw [if_neg (by rw [hsg]; simp), if_neg (by rw [hhid]; simp), he]
        have hD2 : Lib.decodeL (t.extract i t.size).data.toList = (r, m) := by rw [hx, e2]; exact happ _
        refine next m (by rw [e2, List.length_take]; omega) hp ?_ ?_
        · intro h34
          have hb : by8 (t.extract i t.size) 0 = 34 := by
            have := by8_drop (t.extract i t.size) 0 0
            rw [Nat.zero_add, List.drop_zero, hx] at this
            rw [this, ← List.append_assoc] 
            rw [b0] at h34
            rw [← List.append_assoc] at h34
            exact h34
          have h5 : (Lib.decodeL (t.extract i t.size).data.toList).1 = 34 := by
            have hne2 : (t.extract i t.size).data.toList ≠ [] := by
              intro e
              rw [hx] at e
              simp at e
            obtain ⟨a, y, hay⟩ := List.exists_cons_of_ne_nil hne2
            have ha : a.toNat = 34 := by
              unfold by8 at hb
              rw [hay] at hb
              simpa using hb
            rw [hay, Lib.decodeL_ascii a y (by omega)]
            exact ha
          rw [hD2] at h5
          exact hq (.inl h5)
        · refine .inr (.inr (.inr ?_))
          rw [hD2]
          exact ⟨by simp only []; omega, hd, hhid, rfl⟩
/-- Of quotes and what is behind them Unquote tells what was put into them. -/
theorem quo_back (t : ByteArray) (l B : List UInt8) (hv : Lib.validD l = true) (hs : ∀ c ∈ l, shown c = true) (ht : t.data.toList = quoL l ++ B) : unqA t = (l, ((quoL l).length : Int), 0) := by
  have hz : t.data.toList.length = t.size := Array.length_toList
  have e1 : t.data.toList = 34 :: (l.flatMap escB ++ 34 :: B) := by rw [ht]; simp [quoL]
  have h0 : by8 t 0 = 34 := by unfold by8; rw [e1]; rfl
  have hlen := congrArg List.length e1
  simp at hlen
  unfold unqA
  rw [if_neg (by omega), quo_go t B l.length l t.size 1 [] (Nat.le_refl _) hv hs (by rw [e1]; rfl) (by omega)]
  simp only [List.nil_append]
  congr 2
  simp [quoL]
  omega
end Go.Proofs.YtepkanibcljdkaaDoor.Q.X

namespace Go.Proofs.YtepkanibcljdkaaDoor.Q.X
open Go.RowKit
set_option linter.unusedVariables false
set_option linter.unusedSimpArgs false

theorem of_toNat {a : UInt8} {n : Nat} (h : a.toNat = n) : a = UInt8.ofNat n := by rw [← h]; simp
theorem take_two {l : List UInt8} {a b : Nat} (hl : 2 ≤ l.length) (h0 : (l.getD 0 0).toNat = a) (h1 : (l.getD 1 0).toNat = b) : l.take 2 = [UInt8.ofNat a, UInt8.ofNat b] := by
  match l, hl with
  | x :: y :: r, _ =>
    simp at h0 h1
    simp [of_toNat h0, of_toNat h1]
theorem take_six {l : List UInt8} {a b c d e f : Nat} (hl : 6 ≤ l.length) (h0 : (l.getD 0 0).toNat = a) (h1 : (l.getD 1 0).toNat = b) (h2 : (l.getD 2 0).toNat = c) (h3 : (l.getD 3 0).toNat = d) (h4 : (l.getD 4 0).toNat = e) (h5 : (l.getD 5 0).toNat = f) : l.take 6 = [UInt8.ofNat a, UInt8.ofNat b, UInt8.ofNat c, UInt8.ofNat d, UInt8.ofNat e, UInt8.ofNat f] := by
  match l, hl with
  | x0 :: x1 :: x2 :: x3 :: x4 :: x5 :: r, _ =>
    simp at h0 h1 h2 h3 h4 h5
    simp [of_toNat h0, of_toNat h1, of_toNat h2, of_toNat h3, of_toNat h4, of_toNat h5]
theorem hx_ix : ∀ x : Fin 256, 0 ≤ ixD x.val → hx (ixD x.val) = UInt8.ofNat x.val := by decide +kernel
theorem byte_lt (s : ByteArray) (k : Nat) : by8 s k < 256 := by unfold by8; exact (s.data.toList.getD k 0).toNat_lt
theorem esc_asc {c : Int} (h0 : 0 ≤ c) (h1 : c < 128) : (Lib.encodeRune c).flatMap escB = escR c := by
  obtain ⟨n, rfl⟩ : ∃ n : Nat, c = (n : Int) := ⟨c.toNat, by omega⟩
  rw [enc_ascii (by omega)]
  have := esc_low ⟨n, by omega⟩
  simp only [List.flatMap_cons, List.flatMap_nil, List.append_nil]
  exact this
/-- What a character is read from is what is written of it. -/
theorem chr_text {x : ByteArray} {c n : Int} (h0 : 0 < x.size) (h34 : by8 x 0 ≠ 34) (h : ChrV x (c, n, true)) : (Lib.encodeRune c).flatMap escB = x.data.toList.take n.toNat := by
  have hz : x.data.toList.length = x.size := Array.length_toList
  have hne := ne_nil h0
  rcases h with ⟨h1, h2⟩ | ⟨h1, h2, k, hk, hv⟩ | ⟨h1, h2, h3, hv⟩ | ⟨h1, h2, h3, hv⟩
  · have hb0 := decode_b0 h0 h1
    rcases h2 with ⟨g1, hv⟩ | ⟨g1, d, hd, g2, hv⟩ | ⟨g1, g2, k, hk, hv⟩
    · cases hv
    · cases hv
      have ht := take_two (by omega) hb0 (show (x.data.toList.getD 1 0).toNat = (signN c).toNat by rw [g2]; rfl)
      rw [show (2 : Int).toNat = 2 from rfl, ht]
      rcases hd with rfl | rfl | rfl | rfl | rfl <;> (rw [esc_asc (by omega) (by omega)]; decide)
    · have hc : n = 6 ∧ k = 4 ∧ x.size ≥ 6 ∧ 0 ≤ ixD (by8 x 4) ∧ 0 ≤ ixD (by8 x 5) ∧ c = ixD (by8 x 4) * 16 + ixD (by8 x 5) ∧ hidB c = true ∧ signN c = 0 := by
        have l4 := hk.le4
        have l5 := hk.le
        unfold codedV at hv
        split at hv
        · cases hv
        · next a =>
          split at hv
          · cases hv
          · next b =>
            split at hv
            · cases hv
            · next d =>
              split at hv
              · cases hv
              · next e =>
                simp only [not_or] at e
                cases hv
                refine ⟨rfl, by omega, by omega, by omega, by omega, rfl, by simpa using e.2.1, by simpa using e.2.2⟩
      obtain ⟨rfl, rfl, h6, p4, p5, hcc, hh, hs⟩ := hc
      have i4 := ixD_bd (by8 x 4)
      have i5 := ixD_bd (by8 x 5)
      have cl : c < 128 := by
        unfold hidB at hh
        simp only [Bool.or_eq_true, decide_eq_true_eq] at hh
        omega
      rw [esc_asc (by omega) cl, show (6 : Int).toNat = 6 from rfl, take_six (by omega) (hk.all 0 (by omega)) (hk.all 1 (by omega)) (hk.all 2 (by omega)) (hk.all 3 (by omega)) rfl rfl]
      unfold escR
      rw [if_neg (by rw [hs]; simp), if_pos hh, show c / 16 = ixD (by8 x 4) by omega, show c % 16 = ixD (by8 x 5) by omega]
      have e4 := hx_ix ⟨by8 x 4, byte_lt x 4⟩ p4
      have e5 := hx_ix ⟨by8 x 5, byte_lt x 5⟩ p5
      simp only [] at e4 e5
      rw [e4, e5]
      rfl
  · cases hv
  · cases hv
  · cases hv
    have he := Lib.encode_decode _ hne h2
    have hr := decode_le x.data.toList
    rw [Int.toNat_natCast, ← he]
    rcases Nat.lt_or_ge (Lib.decodeL x.data.toList).1 128 with hlo | hhi
    · obtain ⟨e, _⟩ := decode_low hlo
      have e' : by8 x 0 = (Lib.decodeL x.data.toList).1 := e
      rw [esc_asc (by omega) (by omega)]
      unfold escR
      have hs : signN ((Lib.decodeL x.data.toList).1 : Int) = 0 := by
        unfold hidB at h3
        simp only [Bool.or_eq_false_iff, decide_eq_false_iff_not] at h3
        unfold signN
        rw [if_neg (by omega), if_neg (by omega), if_neg (by omega), if_neg (by omega)]
      rw [if_neg (by rw [hs]; simp), if_neg (by rw [h3]; simp)]
    · rw [esc_flat _ (enc_high _ (by omega) (by omega))]
/-- What is read out of quotes is written so. -/
theorem unq_text (t : ByteArray) : ∀ (f i : Nat) (acc l : List UInt8) (n : Int), i ≤ t.size → t.size + 1 ≤ i + f → unqF t f i acc = (l, n, 0) → (i : Int) < n ∧ n ≤ (t.size : Int) ∧ ∃ l1, l = acc ++ l1 ∧ l1.flatMap escB ++ [34] = (t.data.toList.drop i).take (n.toNat - i)
  | 0, i, acc, l, n, h1, h2, h => by omega
  | f + 1, i, acc, l, n, h1, h2, h => by
    have hz : t.data.toList.length = t.size := Array.length_toList
    rw [unqF] at h
    split at h
    · next a =>
      split at h
      · next b =>
        have zx : (t.extract i t.size).size = t.size - i := Lib.ext_size t i
        have hc := chrF_spec b
        have e3 : chrF (t.extract i t.size) = ((chrF (t.extract i t.size)).1, (chrF (t.extract i t.size)).2.1, true) := by rw [← b]
        rw [e3] at hc
        generalize (chrF (t.extract i t.size)).1 = c at *
        generalize (chrF (t.extract i t.size)).2.1 = m at *
        have hk := chr_ok (by omega) hc
        have hp := hk.2.2 rfl
        have hb : by8 (t.extract i t.size) 0 ≠ 34 := by
          have e := by8_drop (t.extract i t.size) 0 0
          rw [Nat.zero_add, List.drop_zero, Lib.ext_list] at e
          have e' := by8_drop t i 0
          rw [Nat.add_zero] at e'
          rw [e, ← e']
          exact a.2
        have ht := chr_text (by omega) hb hc
        rw [Lib.ext_list] at ht
        obtain ⟨r1, r2, l1, rfl, r3⟩ := unq_text t f _ _ l n (by omega) (by omega) h
        refine ⟨by omega, r2, Lib.encodeRune c ++ l1, by rw [List.append_assoc], ?_⟩
        rw [List.flatMap_append, List.append_assoc, r3, ht, ← List.drop_drop]
        have e4 : n.toNat - i = m.toNat + (n.toNat - (i + m.toNat)) := by omega
        rw [e4, List.take_add]
      · cases h
    · next a =>
      split at h
      · cases h
      · next b =>
        cases h
        have hi : i < t.size := by omega
        have h34 : by8 t i = 34 := by
          rcases Nat.decEq (by8 t i) 34 with h | h
          · exact absurd ⟨hi, h⟩ a
          · exact h
        refine ⟨by omega, by omega, [], by simp, ?_⟩
        rw [show ((i : Int) + 1).toNat - i = 1 by omega]
        have e' := by8_drop t i 0
        rw [Nat.add_zero, h34] at e'
        have hl : 1 ≤ (t.data.toList.drop i).length := by rw [List.length_drop]; omega
        generalize t.data.toList.drop i = y at *
        match y, hl with
        | x :: r, _ =>
          simp at e'
          simp [of_toNat e'.symm]
theorem quo_only {t : ByteArray} {l : List UInt8} {n : Int} (h : unqA t = (l, n, 0)) : 2 ≤ n ∧ n ≤ (t.size : Int) ∧ quoL l = t.data.toList.take n.toNat := by
  have hz : t.data.toList.length = t.size := Array.length_toList
  unfold unqA at h
  split at h
  · cases h
  · next a =>
    simp only [not_or] at a
    have h34 : by8 t 0 = 34 := by simpa using a.2
    obtain ⟨r1, r2, l1, hl1, r3⟩ := unq_text t t.size 1 [] l n (by omega) (by omega) h
    rw [List.nil_append] at hl1
    subst hl1
    refine ⟨by omega, r2, ?_⟩
    have hl : 1 ≤ t.data.toList.length := by omega
    have e' := by8_drop t 0 0
    rw [Nat.zero_add, h34, List.drop_zero] at e'
    unfold quoL
    rw [List.append_assoc, r3]
    generalize t.data.toList = y at *
    match y, hl with
    | x :: r, _ =>
      simp at e'
      obtain ⟨k, hk⟩ : ∃ k, n.toNat = k + 1 := ⟨n.toNat - 1, by omega⟩
      rw [hk]
      simp [of_toNat e'.symm]
end Go.Proofs.YtepkanibcljdkaaDoor.Q.X

namespace Go.Proofs.YtepkanibcljdkaaDoor
open Go.Shelf
def laysAppInt_ren : Go.Shelf.Ren := ⟨fun | 176 => 27 | 249 => 42 | 288 => 55 | 283 => 60 | 284 => 61 | 285 => 62 | 286 => 63 | 129 => 70 | 317 => 69 | 318 => 71 | 319 => 72 | 320 => 73 | 337 => 79 | 338 => 80 | n => n, fun | 37 => 36 | 2 => 2 | 3 => 3 | 53 => 73 | 4 => 4 | 9 => 9 | 171 => 83 | 0 => 0 | 173 => 86 | 212 => 104 | 51 => 101 | 5 => 5 | 20 => 20 | 213 => 105 | 46 => 80 | 232 => 122 | 233 => 123 | n => n, fun | 17 => 5 | 18 => 6 | 19 => 7 | n => n⟩
theorem laysAppInt : Go.Proofs.LaysM.n176 Tryd.prog laysAppInt_ren := {
  mixed := by kernel_rfl
  f129 := Tryd.func70.trans (congrArg some (by kernel_rfl))
  f176 := Tryd.func27.trans (congrArg some (by kernel_rfl))
  f249 := Tryd.func42.trans (congrArg some (by kernel_rfl))
  f283 := Tryd.func60.trans (congrArg some (by kernel_rfl))
  f284 := Tryd.func61.trans (congrArg some (by kernel_rfl))
  f285 := Tryd.func62.trans (congrArg some (by kernel_rfl))
  f286 := Tryd.func63.trans (congrArg some (by kernel_rfl))
  f288 := Tryd.func55.trans (congrArg some (by kernel_rfl))
  f317 := Tryd.func69.trans (congrArg some (by kernel_rfl))
  f318 := Tryd.func71.trans (congrArg some (by kernel_rfl))
  f319 := Tryd.func72.trans (congrArg some (by kernel_rfl))
  f320 := Tryd.func73.trans (congrArg some (by kernel_rfl))
  f337 := Tryd.func79.trans (congrArg some (by kernel_rfl))
  f338 := Tryd.func80.trans (congrArg some (by kernel_rfl))
  t0 := Tryd.underlying0
  a0 := Tryd.isAgg0
  z0 := Tryd.sizeOf0
  v0 := Tryd.zeroValue0
  t2 := Tryd.underlying2
  a2 := Tryd.isAgg2
  z2 := Tryd.sizeOf2
  v2 := Tryd.zeroValue2
  t3 := Tryd.underlying3
  a3 := Tryd.isAgg3
  z3 := Tryd.sizeOf3
  v3 := Tryd.zeroValue3
  t4 := Tryd.underlying4
  a4 := Tryd.isAgg4
  z4 := Tryd.sizeOf4
  v4 := Tryd.zeroValue4
  t5 := Tryd.underlying5
  a5 := Tryd.isAgg5
  z5 := Tryd.sizeOf5
  v5 := Tryd.zeroValue5
  t9 := Tryd.underlying9
  a9 := Tryd.isAgg9
  z9 := Tryd.sizeOf9
  v9 := Tryd.zeroValue9
  t20 := Tryd.underlying20
  a20 := Tryd.isAgg20
  z20 := Tryd.sizeOf20
  v20 := Tryd.zeroValue20
  t37 := Tryd.underlying36
  a37 := Tryd.isAgg36
  z37 := Tryd.sizeOf36
  v37 := Tryd.zeroValue36
  t46 := Tryd.underlying80
  a46 := Tryd.isAgg80
  z46 := Tryd.sizeOf80
  v46 := Tryd.zeroValue80
  t51 := Tryd.underlying101
  a51 := Tryd.isAgg101
  z51 := Tryd.sizeOf101
  v51 := Tryd.zeroValue101
  t53 := Tryd.underlying73
  a53 := Tryd.isAgg73
  z53 := Tryd.sizeOf73
  v53 := Tryd.zeroValue73
  t171 := Tryd.underlying83
  a171 := Tryd.isAgg83
  z171 := Tryd.sizeOf83
  v171 := Tryd.zeroValue83
  t173 := Tryd.underlying86
  a173 := Tryd.isAgg86
  z173 := Tryd.sizeOf86
  v173 := Tryd.zeroValue86
  t212 := Tryd.underlying104
  a212 := Tryd.isAgg104
  z212 := Tryd.sizeOf104
  v212 := Tryd.zeroValue104
  t213 := Tryd.underlying105
  a213 := Tryd.isAgg105
  z213 := Tryd.sizeOf105
  t232 := Tryd.underlying122
  a232 := Tryd.isAgg122
  z232 := Tryd.sizeOf122
  v232 := Tryd.zeroValue122
  t233 := Tryd.underlying123
  a233 := Tryd.isAgg123
  z233 := Tryd.sizeOf123
  v233 := Tryd.zeroValue123
  g17 := by kernel_rfl
  g18 := by kernel_rfl
  g19 := by kernel_rfl
  i0 := by kernel_rfl
  i2 := by kernel_rfl
  i3 := by kernel_rfl
  i4 := by kernel_rfl
  i5 := by kernel_rfl
  i9 := by kernel_rfl
  i20 := by kernel_rfl
  i37 := by kernel_rfl
  i46 := by kernel_rfl
  i51 := by kernel_rfl
  i53 := by kernel_rfl
  i171 := by kernel_rfl
  i173 := by kernel_rfl
  i212 := by kernel_rfl
  i232 := by kernel_rfl
  i233 := by kernel_rfl
  m17 := by kernel_rfl
  m18 := by kernel_rfl
  m19 := by kernel_rfl }
def laysItoa_ren : Go.Shelf.Ren := ⟨fun | 171 => 18 | 243 => 30 | 246 => 46 | 283 => 60 | 284 => 61 | 285 => 62 | 286 => 63 | 129 => 70 | 317 => 69 | 318 => 71 | 319 => 72 | 320 => 73 | 337 => 79 | 338 => 80 | n => n, fun | 3 => 3 | 9 => 9 | 2 => 2 | 4 => 4 | 171 => 83 | 0 => 0 | 53 => 73 | 37 => 36 | 5 => 5 | 173 => 86 | 212 => 104 | 51 => 101 | 20 => 20 | 213 => 105 | 46 => 80 | 232 => 122 | 233 => 123 | n => n, fun | 17 => 5 | 18 => 6 | 19 => 7 | n => n⟩
theorem laysItoa : Go.Proofs.LaysM.n171 Tryd.prog laysItoa_ren := {
  mixed := by kernel_rfl
  f129 := Tryd.func70.trans (congrArg some (by kernel_rfl))
  f171 := Tryd.func18.trans (congrArg some (by kernel_rfl))
  f243 := Tryd.func30.trans (congrArg some (by kernel_rfl))
  f246 := Tryd.func46.trans (congrArg some (by kernel_rfl))
  f283 := Tryd.func60.trans (congrArg some (by kernel_rfl))
  f284 := Tryd.func61.trans (congrArg some (by kernel_rfl))
  f285 := Tryd.func62.trans (congrArg some (by kernel_rfl))
  f286 := Tryd.func63.trans (congrArg some (by kernel_rfl))
  f317 := Tryd.func69.trans (congrArg some (by kernel_rfl))
  f318 := Tryd.func71.trans (congrArg some (by kernel_rfl))
  f319 := Tryd.func72.trans (congrArg some (by kernel_rfl))
  f320 := Tryd.func73.trans (congrArg some (by kernel_rfl))
  f337 := Tryd.func79.trans (congrArg some (by kernel_rfl))
  f338 := Tryd.func80.trans (congrArg some (by kernel_rfl))
  t0 := Tryd.underlying0
  a0 := Tryd.isAgg0
  z0 := Tryd.sizeOf0
  v0 := Tryd.zeroValue0
  t2 := Tryd.underlying2
  a2 := Tryd.isAgg2
  z2 := Tryd.sizeOf2
  v2 := Tryd.zeroValue2
  t3 := Tryd.underlying3
  a3 := Tryd.isAgg3
  z3 := Tryd.sizeOf3
  v3 := Tryd.zeroValue3
  t4 := Tryd.underlying4
  a4 := Tryd.isAgg4
  z4 := Tryd.sizeOf4
  v4 := Tryd.zeroValue4
  t5 := Tryd.underlying5
  a5 := Tryd.isAgg5
  z5 := Tryd.sizeOf5
  v5 := Tryd.zeroValue5
  t9 := Tryd.underlying9
  a9 := Tryd.isAgg9
  z9 := Tryd.sizeOf9
  v9 := Tryd.zeroValue9
  t20 := Tryd.underlying20
  a20 := Tryd.isAgg20
  z20 := Tryd.sizeOf20
  v20 := Tryd.zeroValue20
  t37 := Tryd.underlying36
  a37 := Tryd.isAgg36
  z37 := Tryd.sizeOf36
  v37 := Tryd.zeroValue36
  t46 := Tryd.underlying80
  a46 := Tryd.isAgg80
  z46 := Tryd.sizeOf80
  v46 := Tryd.zeroValue80
  t51 := Tryd.underlying101
  a51 := Tryd.isAgg101
  z51 := Tryd.sizeOf101
  v51 := Tryd.zeroValue101
  t53 := Tryd.underlying73
  a53 := Tryd.isAgg73
  z53 := Tryd.sizeOf73
  v53 := Tryd.zeroValue73
  t171 := Tryd.underlying83
  a171 := Tryd.isAgg83
  z171 := Tryd.sizeOf83
  v171 := Tryd.zeroValue83
  t173 := Tryd.underlying86
  a173 := Tryd.isAgg86
  z173 := Tryd.sizeOf86
  v173 := Tryd.zeroValue86
  t212 := Tryd.underlying104
  a212 := Tryd.isAgg104
  z212 := Tryd.sizeOf104
  v212 := Tryd.zeroValue104
  t213 := Tryd.underlying105
  a213 := Tryd.isAgg105
  z213 := Tryd.sizeOf105
  t232 := Tryd.underlying122
  a232 := Tryd.isAgg122
  z232 := Tryd.sizeOf122
  v232 := Tryd.zeroValue122
  t233 := Tryd.underlying123
  a233 := Tryd.isAgg123
  z233 := Tryd.sizeOf123
  v233 := Tryd.zeroValue123
  g17 := by kernel_rfl
  g18 := by kernel_rfl
  g19 := by kernel_rfl
  i0 := by kernel_rfl
  i2 := by kernel_rfl
  i3 := by kernel_rfl
  i4 := by kernel_rfl
  i5 := by kernel_rfl
  i9 := by kernel_rfl
  i20 := by kernel_rfl
  i37 := by kernel_rfl
  i46 := by kernel_rfl
  i51 := by kernel_rfl
  i53 := by kernel_rfl
  i171 := by kernel_rfl
  i173 := by kernel_rfl
  i212 := by kernel_rfl
  i232 := by kernel_rfl
  i233 := by kernel_rfl
  m17 := by kernel_rfl
  m18 := by kernel_rfl
  m19 := by kernel_rfl }
end Go.Proofs.YtepkanibcljdkaaDoor

