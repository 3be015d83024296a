import Derived.Test.YtbpmpcmmdiaiiaaDoorP2
import Derived.Test.YtbpmpcmmdiaiiaaDoorP6
import Derived.Test.YtbpmpcmmdiaiiaaDoorP3
import Derived.Laws.BytesArg
import Derived.Laws.IdiomStrings
namespace Go.Proofs.YtbpmpcmmdiaiiaaDoor
open Go.RowKit
set_option linter.unusedVariables false
set_option linter.unusedSimpArgs false

theorem bs_k (l : List UInt8) : K.bs l = bs l := rfl
set_option maxRecDepth 100000 in
set_option maxHeartbeats 1000000 in
theorem whash_any {p : Nat} {g : Option Nat} {M : List UInt8} {e : Int} (h : List UInt8) (hl : h.length = 32) (w : World) (hw : K.WS w 50 p g M e) (hsum : M.length + 32 ≤ 140737488355328) :
    Calls Tryd.prog 34 #[.pointer (some ⟨p, 0, none⟩), .agg (bs h)] w fun x w' => x = .returned (.tuple #[]) ∧ K.Wr w w' 50 p g (K.wA M e h) e := by
  have be : Below w.heap.size w (w.alloc (.cells (bs h) 31)) := (Below.refl _ _).alloc (Nat.le_refl _) _
  have H : Hid (Calls Tryd.prog 54 #[.pointer (some ⟨p, 0, none⟩), .slice (some ⟨w.heap.size, 0, none⟩) 32 32] (w.alloc (.cells (bs h) 31)) fun x w' => x = .returned (.tuple #[]) ∧ K.Wr w w' 50 p g (K.wA M e h) e) :=
    (K.add_any h (some ⟨w.heap.size, 0, none⟩) 32 32 (w.alloc (.cells (bs h) 31)) (hw.below be) hl (K.byt_lit w h 31) (by omega)).mono fun x w' h => ⟨h.1, K.Wr.pre be h.2⟩
  clear hw
  go_enter Tryd.func34, Tryd.ntmps34
  go_wp2_with fail
  refine H.out.mono ?_
  rintro x w1 ⟨rfl, ho⟩
  have HO : Hid (K.Wr w w1 50 p g (K.wA M e h) e) := ho
  clear ho
  go_wp2
  go_end0
  exact ⟨rfl, HO.out⟩

/-- Each is less than those behind it. -/
def SRise (L : List (List UInt8)) : Prop := ∀ (i j : Nat) (x y : List UInt8), L[i]? = some x → L[j]? = some y → i < j → cmpL x y < 0
theorem SRise.tail {x : List UInt8} {r : List (List UInt8)} (h : SRise (x :: r)) : SRise r := fun i j a b ha hb hij => h (i + 1) (j + 1) a b (by simpa using ha) (by simpa using hb) (by omega)
theorem SRise.head {x y : List UInt8} {r : List (List UInt8)} (h : SRise (x :: r)) (hy : y ∈ r) : cmpL x y < 0 := by
  obtain ⟨i, hi⟩ := List.mem_iff_getElem?.1 hy
  exact h 0 (i + 1) x y rfl (by simpa using hi) (by omega)
/-- One list of what there is. -/
theorem SRise.unique : ∀ (L M : List (List UInt8)), All32 L → SRise L → SRise M → (∀ x, x ∈ L ↔ x ∈ M) → L = M
  | [], [], _, _, _, _ => rfl
  | [], y :: s, _, _, _, h => absurd ((h y).2 (by simp)) (by simp)
  | x :: r, [], _, _, _, h => absurd ((h x).1 (by simp)) (by simp)
  | x :: r, y :: s, h32, hL, hM, h => by
    have hM32 : All32 (y :: s) := fun z hz => h32 z ((h z).2 hz)
    have exy : x = y := by
      by_cases e : x = y
      · exact e
      · exfalso
        have hx : x ∈ s := (List.mem_cons.1 ((h x).1 (by simp))).resolve_left e
        have hy : y ∈ r := (List.mem_cons.1 ((h y).2 (by simp))).resolve_left (fun e' => e e'.symm)
        have h1 := hM.head hx
        have h2 := hL.head hy
        rw [cmpL_neg (h32 x (by simp)) (hM32 y (by simp))] at h1
        omega
    subst exy
    rw [SRise.unique r s (fun z hz => h32 z (by simp [hz])) hL.tail hM.tail (fun z => ?_)]
    have hxr : x ∉ r := fun hr => by have := hL.head hr; rw [cmpL_same] at this; omega
    have hxs : x ∉ s := fun hr => by have := hM.head hr; rw [cmpL_same] at this; omega
    constructor
    · intro hz
      rcases List.mem_cons.1 ((h z).1 (by simp [hz])) with rfl | h1
      · exact absurd hz hxr
      · exact h1
    · intro hz
      rcases List.mem_cons.1 ((h z).2 (by simp [hz])) with rfl | h1
      · exact absurd hz hxs
      · exact h1
theorem rises_tail {x : List UInt8} {r : List (List UInt8)} (h : Rises (x :: r)) : Rises r := fun i j a b ha hb hij => h (i + 1) (j + 1) a b (by simpa using ha) (by simpa using hb) (by omega)
theorem srise_cons {x : List UInt8} {r : List (List UInt8)} (h : SRise r) (hx : ∀ y ∈ r, cmpL x y < 0) : SRise (x :: r) := fun i j a b ha hb hij => by
  cases j with
  | zero => omega
  | succ j =>
    cases i with
    | zero =>
      simp at ha
      subst ha
      exact hx b (List.mem_of_getElem? (by simpa using hb))
    | succ i => exact h i j a b (by simpa using ha) (by simpa using hb) (by omega)
theorem lt_of_not {x y : List UInt8} (hx : x.length = 32) (hy : y.length = 32) (h : ¬ cmpL y x < 0) (hne : ¬ y = x) : cmpL x y < 0 := by
  have e := cmpL_neg hx hy
  have h0 : cmpL x y ≠ 0 := fun h0 => hne ((cmpL_zero hx hy).1 h0).symm
  omega
theorem ddF_rise : ∀ (p : List UInt8) (l : List (List UInt8)), All32 (p :: l) → Rises (p :: l) → SRise (ddF p l) ∧ ∀ y ∈ ddF p l, cmpL p y < 0
  | p, [], _, _ => ⟨fun i j x y h => by simp [ddF] at h, fun y h => by simp [ddF] at h⟩
  | p, x :: r, h32, hr => by
    have hp32 := h32 p (by simp)
    have hx32 := h32 x (by simp)
    unfold ddF
    split
    · rename_i hxp
      subst hxp
      exact ddF_rise x r (fun z hz => h32 z (List.mem_cons_of_mem _ hz)) (rises_tail hr)
    · rename_i hxp
      obtain ⟨h1, h2⟩ := ddF_rise x r (fun z hz => h32 z (List.mem_cons_of_mem _ hz)) (rises_tail hr)
      have hpx : cmpL p x < 0 := lt_of_not hp32 hx32 (hr 0 1 p x rfl rfl (by omega)) hxp
      refine ⟨srise_cons h1 h2, fun y hy => ?_⟩
      rcases List.mem_cons.1 hy with rfl | hy
      · exact hpx
      · exact lt_trans hp32 hx32 (h32 y (by have := ddF_mem x r y hy; simp [this])) hpx (h2 y hy)
theorem dd_rise {L : List (List UInt8)} (h32 : All32 L) (hr : Rises L) : SRise (dd L) := by
  cases L with
  | nil => intro i j x y h; simp [dd] at h
  | cons x r =>
    obtain ⟨h1, h2⟩ := ddF_rise x r h32 hr
    exact srise_cons h1 h2
theorem ddF_all (p : List UInt8) (l : List (List UInt8)) (x : List UInt8) : x ∈ l → x = p ∨ x ∈ ddF p l := by
  induction l generalizing p with
  | nil => simp
  | cons y r ih =>
    intro h
    simp only [ddF]
    by_cases hy : y = p
    · rw [if_pos hy]
      rcases List.mem_cons.1 h with rfl | h
      · exact .inl hy
      · exact ih p h
    · rw [if_neg hy]
      rcases List.mem_cons.1 h with rfl | h
      · exact .inr (by simp)
      · rcases ih y h with rfl | h
        · exact .inr (by simp)
        · exact .inr (by simp [h])
theorem dd_all {L : List (List UInt8)} {x : List UInt8} (h : x ∈ L) : x ∈ dd L := by
  cases L with
  | nil => exact h
  | cons y r =>
    simp only [dd]
    rcases List.mem_cons.1 h with rfl | h
    · simp
    · rcases ddF_all y r x h with rfl | h
      · simp
      · simp [h]
/-- The one rising list of the members of another. -/
def Srt (L D : List (List UInt8)) : Prop := SRise D ∧ All32 D ∧ (∀ x, x ∈ D ↔ x ∈ L)
theorem srt_dd {L M : List (List UInt8)} (hL : All32 L) (hp : M.Perm L) (hr : Rises M) : Srt L (dd M) := by
  have hM : All32 M := fun x hx => hL x (hp.mem_iff.1 hx)
  exact ⟨dd_rise hM hr, all32_dd hM, fun x => ⟨fun h => hp.mem_iff.1 (dd_mem h), fun h => dd_all (hp.mem_iff.2 h)⟩⟩
theorem dd_length_le (L : List (List UInt8)) : (dd L).length ≤ L.length := by
  have key : ∀ (l : List (List UInt8)) p, (ddF p l).length ≤ l.length := by
    intro l
    induction l with
    | nil => intro p; simp [ddF]
    | cons y r ih =>
      intro p
      simp only [ddF]
      split
      · have := ih p; simp; omega
      · have := ih y; simp; omega
  cases L with
  | nil => simp [dd]
  | cons x r => have := key r x; simp [dd]; omega
end Go.Proofs.YtbpmpcmmdiaiiaaDoor

namespace Go.Proofs.YtbpmpcmmdiaiiaaDoor
open Go.RowKit
set_option linter.unusedVariables false
set_option linter.unusedSimpArgs false

/-- All hashes one behind the other. -/
def cat (L : List (List UInt8)) : List UInt8 := L.flatten
theorem cat_nil : cat [] = [] := rfl
theorem cat_snoc (L : List (List UInt8)) (k : Nat) (x : List UInt8) (h : L[k]? = some x) : cat (L.take (k + 1)) = cat (L.take k) ++ x := by
  rw [List.take_add_one, h]; simp [cat]
theorem cat_len {L : List (List UInt8)} (h : All32 L) : (cat L).length = 32 * L.length := by
  induction L with
  | nil => rfl
  | cons x r ih =>
    have h1 := ih (fun z hz => h z (List.mem_cons_of_mem _ hz))
    have h2 := h x (by simp)
    simp [cat] at h1 ⊢
    omega
theorem all32_take {L : List (List UInt8)} (h : All32 L) (k : Nat) : All32 (L.take k) := fun x hx => h x (List.mem_of_mem_take hx)
/-- What Writer.Hashes writes. -/
def hw (D : List (List UInt8)) : List UInt8 := K.vint D.length ++ cat D
/-- The hashes' block stays beside a Writer. -/
theorem hs_frw {p q : Nat} {g : Option Nat} {w w' : World} {D : List (List UInt8)} (hD : All32 D) (h : Hs w q 0 D) (f : K.FrW p g w w') (hq : q < w.heap.size) (h1 : q ≠ p) (h2 : some q ≠ g) : Hs w' q 0 D := fun i x e => by
  have h3 := h i x e
  intro j v hv
  have h4 := h3 j v hv
  exact (World.cell?_of_block (f.block q hq h1 h2)).trans h4

theorem WS.gone {w : World} {T : TypeId} {p q : Nat} {g : Option Nat} {M : List UInt8} {e : Int} (h : K.WS w T p g M e) (hq : w.heap.size ≤ q) : some q ≠ g := by
  obtain ⟨v, h1, h2, h3⟩ := h.ex
  intro e
  have := (World.ownsRow.lt h2 q (h3.trans e.symm)).2
  omega
theorem nw_apart {g g1 : Option Nat} {q z : Nat} (h : K.Nw g g1 z) (hq : q < z) (hg : some q ≠ g) : some q ≠ g1 := by
  rcases h with e | ⟨k, e, hk⟩
  · rw [e]; exact hg
  · rw [e]; intro h2; cases h2; omega
/-- slices.Compact at whatever length. -/
theorem compactH (g : Nat) (L : List (List UInt8)) (cap : Nat) (w : World) (hL : All32 L) (hb : L.length ≤ 4398046511104) (hcap : L.length ≤ cap) (hg : g < w.heap.size) (hs : Hs w g 0 L) (ht : w.there g 0 (32 * L.length)) :
    Calls Tryd.prog 70 #[.slice (some ⟨g, 0, none⟩) L.length cap] w fun e w' => e = .returned (.slice (some ⟨g, 0, none⟩) (dd L).length cap) ∧ Hs w' g 0 (dd L) ∧ (∀ B, B ≤ g → Below B w w') ∧ g < w'.heap.size := by
  by_cases h2 : 2 ≤ L.length
  · exact compact_any g L cap w hL h2 hb hcap hg hs ht
  · refine (compact_few (some ⟨g, 0, none⟩) L.length cap (by omega) w).mono ?_
    rintro e w' ⟨rfl, rfl⟩
    rw [dd_short (by omega)]
    exact ⟨rfl, hs, fun B _ => Below.refl _ _, hg⟩

set_option maxRecDepth 100000 in
set_option maxHeartbeats 2000000 in
theorem whashes_gen {p : Nat} {g : Option Nat} {M : List UInt8} (a : Addr) (L : List (List UInt8)) (cap : Nat) (w : World) (hL : All32 L) (hb : L.length ≤ 4398046510976) (hl : Hl w (some a) L) (hw0 : K.WS w 50 p g M 0) (hsum : M.length + 64 + 32 * L.length ≤ 140737488355328) :
    Calls Tryd.prog 36 #[.pointer (some ⟨p, 0, none⟩), .slice (some a) L.length cap] w fun x w' => x = .returned (.tuple #[]) ∧ ∃ D, Srt L D ∧ D.length ≤ L.length ∧ K.Wr w w' 50 p g (M ++ hw D) 0 := by
  have HC : Hid (Calls Tryd.prog 67 #[.slice (some a) L.length cap] w fun e w' => ∃ g cap', e = .returned (.slice (some ⟨g, 0, none⟩) L.length cap') ∧ OwnH w' w.heap.size (.slice (some ⟨g, 0, none⟩) L.length cap') L ∧ Below w.heap.size w w') := cloneH_any a L cap w hL (by omega) hl
  obtain ⟨n, hn⟩ : ∃ n, n = L.length := ⟨_, rfl⟩
  rw [← hn] at hb HC hsum ⊢
  have HN : Hid (n = L.length) := hn
  clear hn hl
  have hlt := hw0.lt
  have HW : Hid (K.WS w 50 p g M 0) := hw0
  clear hw0
  go_enter Tryd.func36, Tryd.ntmps36
  go_wp2_with fail
  refine HC.out.mono ?_
  rintro e w1 ⟨q, cap', rfl, own1, be1⟩
  clear HC
  obtain ⟨hqB, hq1, hs1, ht1, hcap⟩ : w.heap.size ≤ q ∧ q < w1.heap.size ∧ Hs w1 q 0 L ∧ w1.there q 0 (32 * L.length) ∧ L.length ≤ cap' := by
    rcases own1.open with ⟨h1, _⟩ | ⟨g', c', h1, h6, h2, h3, h4, h5⟩
    · cases h1
    · cases h1; exact ⟨h2, h3, h4, h5, h6⟩
  have HS : Hid (Calls Tryd.prog 68 #[.slice (some ⟨q, 0, none⟩) n cap', .func (.func 69) #[] #[]] w1 fun e w' => e = .returned (.tuple #[]) ∧
      ∃ L' : List (List UInt8), L'.Perm L ∧ Rises L' ∧ Hs w' q 0 L' ∧ w'.there q 0 (32 * L.length) ∧ ∀ B, B ≤ q → Below B w1 w') := (by
    rw [HN.out]
    exact sortH_any q L cap' w1 hL (by rw [← HN.out]; omega) hq1 hs1 ht1)
  clear own1 hs1 ht1
  go_wp2_with fail
  refine HS.out.mono ?_
  rintro e w2 ⟨rfl, R, hpm, hri, hs2, ht2, hbel⟩
  have be2 : Below w.heap.size w w2 := be1.trans (hbel _ hqB)
  have hsz2 : w1.heap.size ≤ w2.heap.size := (hbel 0 (by omega)).size
  have hRn : R.length = L.length := hpm.length_eq
  have HR32 : Hid (All32 R) := fun x hx => hL x (hpm.mem_iff.1 hx)
  have HSR : Hid (Srt L (dd R)) := srt_dd hL hpm hri
  have HCo : Hid (Calls Tryd.prog 70 #[.slice (some ⟨q, 0, none⟩) n cap'] w2 fun e w' => e = .returned (.slice (some ⟨q, 0, none⟩) (dd R).length cap') ∧ Hs w' q 0 (dd R) ∧ (∀ B, B ≤ q → Below B w2 w') ∧ q < w'.heap.size) := (by
    rw [HN.out, ← hRn]
    exact compactH q R cap' w2 HR32.out (by rw [hRn, ← HN.out]; omega) (by rw [hRn]; exact hcap) (by omega) hs2 (by rw [hRn]; exact ht2))
  have hDn : (dd R).length ≤ n := (by rw [HN.out, ← hRn]; exact dd_length_le R)
  clear HS hpm hri hs2 ht2 hbel be1 hRn HR32
  generalize dd R = D at *
  go_wp2_with fail
  refine HCo.out.mono ?_
  rintro e w3 ⟨rfl, hs3, hbel, hq3⟩
  have be3 : Below w.heap.size w w3 := be2.trans (hbel _ hqB)
  have WS3 : K.WS w3 50 p g M 0 := HW.out.below be3
  have hqg : some q ≠ g := WS.gone HW.out hqB
  have hqp : q ≠ p := by omega
  have HD32 : Hid (All32 D) := HSR.out.2.1
  obtain ⟨m, hm⟩ : ∃ m, m = D.length := ⟨_, rfl⟩
  have HU : Hid (Calls Tryd.prog 20 #[.pointer (some ⟨p, 0, none⟩), .int .u64 (m : Int)] w3 fun x w' => x = .returned (.tuple #[]) ∧ K.Wr w3 w' 50 p g (M ++ K.vint m) 0) := (by
    have := K.wuint_any m (by omega) w3 WS3 (by omega)
    rwa [K.wA_0] at this)
  rw [← hm] at hDn ⊢
  have HM : Hid (m = D.length) := hm
  have HS3 : Hid (Hs w3 q 0 D) := hs3
  clear HCo hs3 hbel be2 hsz2 hm WS3 HW
  go_wp2_with fail
  refine HU.out.mono ?_
  rintro e w4 ⟨rfl, wr4⟩
  have HS4 : Hid (Hs w4 q 0 D) := (by obtain ⟨g1, _, f, _⟩ := wr4; exact hs_frw HD32.out HS3.out f hq3 hqp hqg : Hs w4 q 0 D)
  have HW4 : Hid (K.Wr w3 w4 50 p g (M ++ K.vint m) 0) := wr4
  have hlt4 : w3.heap.size ≤ w4.heap.size := by obtain ⟨g1, _, f, _⟩ := wr4; exact f.size
  clear wr4 HU HS3
  have hzs : (bs z32).size = 32 := by rw [bs_size]; rfl
  go_wp2
  go_loopw [20] (fun i wr => ∃ k : Nat, k ≤ m ∧ i = .int .i64 k ∧ Hid (K.Wr w3 wr 50 p g (M ++ (K.vint m ++ cat (D.take k))) 0) ∧ Hid (Hs wr q 0 D)) (fun i _ => m - (intOf i).toNat)
  case atStart => exact ⟨0, by omega, rfl, (by have := HW4.out; simpa [cat] using this : K.Wr w3 w4 50 p g (M ++ (K.vint m ++ cat (D.take 0))) 0), HS4.out⟩
  case round =>
    obtain ⟨k, hk, rfl, HWr, HSr⟩ := hrel
    by_cases hkm : k < m
    · have hkD : k < D.length := by rw [← HM.out]; exact hkm
      obtain ⟨x, hx⟩ : ∃ x, D[k]? = some x := ⟨_, List.getElem?_eq_getElem hkD⟩
      have hx32 := HD32.out.get hx
      have HR : Hid (wr.rangeAt q (32 * k) (hcs x)) := (by have := HSr.out k x hx; rwa [Nat.zero_add] at this : wr.rangeAt q (32 * k) (hcs x))
      have ix1 := fun wx => indexH q 0 m cap' k wx hkm
      simp only [Nat.zero_add] at ix1
      have be : Below wr.heap.size wr (wr.alloc (.cells (bs x) 31)) := (Below.refl _ _).alloc (Nat.le_refl _) _
      have HC : Hid (Calls Tryd.prog 34 #[.pointer (some ⟨p, 0, none⟩), .agg (bs x)] (wr.alloc (.cells (bs x) 31)) fun e w' => e = .returned (.tuple #[]) ∧ K.Wr w3 w' 50 p g (M ++ (K.vint m ++ cat (D.take (k + 1)))) 0 ∧ Hs w' q 0 D) := (by
        obtain ⟨g1, ws1, f1, n1⟩ := HWr.out
        have hqr : q < wr.heap.size := by have := f1.size; omega
        have hqg1 := nw_apart n1 hq3 hqg
        have hlen : (M ++ (K.vint m ++ cat (D.take k))).length ≤ 140737488355328 - 32 := by
          have h1 := cat_len (all32_take HD32.out k)
          have h2 := K.vint_10 m (by omega)
          have h3 : (D.take k).length ≤ k := by simp; omega
          simp only [List.length_append]
          omega
        refine (whash_any x hx32 _ (ws1.below be) (by omega)).mono ?_
        rintro e w' ⟨rfl, wr'⟩
        rw [K.wA_0] at wr'
        refine ⟨rfl, ?_, ?_⟩
        · rw [cat_snoc D k x hx, ← List.append_assoc (K.vint m), ← List.append_assoc M]
          exact K.Wr.step f1 n1 (K.Wr.pre be wr')
        · obtain ⟨g2, _, f2, _⟩ := wr'
          exact hs_frw HD32.out (HSr.out.below be hqr) f2 (by simp; omega) hqp hqg1)
      clear hx HWr HSr be
      go_wp2_with (first
        | (refine wpList_load_mid rfl 31 _ rfl q (32 * k) rfl (hcs x) _ HR.out Tryd.underlying31 rfl (by rw [hcs_len, hx32]; exact hsH) ?_; rw [hcs_arr])
        | (refine wpList_alloc_row rfl 31 rfl (bs z32) (hzH _) ?_)
        | (refine wpList_store_row rfl 31 _ _ rfl wr.heap.size (bs x) rfl rfl 31 (bs z32) (heap_alloc_new _ _) (by rw [bs_size, hx32]; exact hsH) (by rw [hzs, bs_size, hx32]) (bs_one _) ?_; rw [World.setRow_alloc_new])
        | (refine wpList_load_arr rfl 31 _ rfl wr.heap.size rfl 31 (bs x) (0, 0) _ (heap_alloc_new _ _) Tryd.underlying31 rfl (by rw [bs_size, hx32]; exact hsH) ?_)
        | fail)
      refine HC.out.mono ?_
      rintro e w5 ⟨rfl, hw5, hs5⟩
      have H5 : Hid (K.Wr w3 w5 50 p g (M ++ (K.vint m ++ cat (D.take (k + 1)))) 0) := hw5
      have G5 : Hid (Hs w5 q 0 D) := hs5
      clear hw5 hs5 HC HR
      go_wp2
      exact ⟨⟨k + 1, by omega, by go_num, H5, G5⟩, by simp [intOf]; omega⟩
    · obtain rfl : k = m := by omega
      have HE : Hid (K.Wr w wr 50 p g (M ++ hw D) 0) := (by
        have h1 := HWr.out
        rw [HM.out, List.take_length] at h1
        exact K.Wr.pre be3 h1)
      go_wp2
      go_end0
      exact ⟨rfl, D, HSR.out, (by rw [← HM.out]; exact hDn), HE.out⟩
theorem whashes_any {p : Nat} {g : Option Nat} {M : List UInt8} (a : Addr) (L : List (List UInt8)) (cap : Nat) (w : World) (hL : All32 L) (hb : L.length ≤ 4398046510976) (hl : Hl w (some a) L) (hw0 : K.WS w 50 p g M 0) (hsum : M.length ≤ 1000) :
    Calls Tryd.prog 36 #[.pointer (some ⟨p, 0, none⟩), .slice (some a) L.length cap] w fun x w' => x = .returned (.tuple #[]) ∧ ∃ D, Srt L D ∧ D.length ≤ L.length ∧ K.Wr w w' 50 p g (M ++ hw D) 0 :=
  whashes_gen a L cap w hL hb hl hw0 (by omega)
end Go.Proofs.YtbpmpcmmdiaiiaaDoor

namespace Go.Proofs.YtbpmpcmmdiaiiaaDoor
open Go.RowKit
set_option linter.unusedVariables false
set_option linter.unusedSimpArgs false

set_option maxRecDepth 100000 in
set_option maxHeartbeats 1000000 in
theorem nhash (h : List UInt8) (hl : h.length = 32) (w : World) :
    Calls Tryd.prog 34 #[.pointer none, .agg (bs h)] w fun x w' => x = .returned (.tuple #[]) ∧ Below w.heap.size w w' := by
  have be : Below w.heap.size w (w.alloc (.cells (bs h) 31)) := (Below.refl _ _).alloc (Nat.le_refl _) _
  go_enter Tryd.func34, Tryd.ntmps34
  go_wp2_with fail
  refine (K.nadd _ _ _ _).mono ?_
  rintro x w1 ⟨rfl, h1⟩
  have be : Below w.heap.size w w1 := by rw [h1]; exact be
  clear h1
  go_wp2
  go_end0
  exact ⟨rfl, be⟩

set_option maxRecDepth 100000 in
set_option maxHeartbeats 2000000 in
theorem nhashes (a : Addr) (L : List (List UInt8)) (cap : Nat) (w : World) (hL : All32 L) (hb : L.length ≤ 4398046510976) (hl : Hl w (some a) L) :
    Calls Tryd.prog 36 #[.pointer none, .slice (some a) L.length cap] w fun x w' => x = .returned (.tuple #[]) ∧ Below w.heap.size w w' := by
  have HC : Hid (Calls Tryd.prog 67 #[.slice (some a) L.length cap] w fun e w' => ∃ g cap', e = .returned (.slice (some ⟨g, 0, none⟩) L.length cap') ∧ OwnH w' w.heap.size (.slice (some ⟨g, 0, none⟩) L.length cap') L ∧ Below w.heap.size w w') := cloneH_any a L cap w hL (by omega) hl
  obtain ⟨n, hn⟩ : ∃ n, n = L.length := ⟨_, rfl⟩
  rw [← hn] at hb HC ⊢
  have HN : Hid (n = L.length) := hn
  clear hn hl
  go_enter Tryd.func36, Tryd.ntmps36
  go_wp2_with fail
  refine HC.out.mono ?_
  rintro e w1 ⟨q, cap', rfl, own1, be1⟩
  clear HC
  obtain ⟨hqB, hq1, hs1, ht1, hcap⟩ : w.heap.size ≤ q ∧ q < w1.heap.size ∧ Hs w1 q 0 L ∧ w1.there q 0 (32 * L.length) ∧ L.length ≤ cap' := by
    rcases own1.open with ⟨h1, _⟩ | ⟨g', c', h1, h6, h2, h3, h4, h5⟩
    · cases h1
    · cases h1; exact ⟨h2, h3, h4, h5, h6⟩
  have HS : Hid (Calls Tryd.prog 68 #[.slice (some ⟨q, 0, none⟩) n cap', .func (.func 69) #[] #[]] w1 fun e w' => e = .returned (.tuple #[]) ∧
      ∃ L' : List (List UInt8), L'.Perm L ∧ Rises L' ∧ Hs w' q 0 L' ∧ w'.there q 0 (32 * L.length) ∧ ∀ B, B ≤ q → Below B w1 w') := (by
    rw [HN.out]
    exact sortH_any q L cap' w1 hL (by rw [← HN.out]; omega) hq1 hs1 ht1)
  clear own1 hs1 ht1
  go_wp2_with fail
  refine HS.out.mono ?_
  rintro e w2 ⟨rfl, R, hpm, hri, hs2, ht2, hbel⟩
  have be2 : Below w.heap.size w w2 := be1.trans (hbel _ hqB)
  have hsz2 : w1.heap.size ≤ w2.heap.size := (hbel 0 (by omega)).size
  have hRn : R.length = L.length := hpm.length_eq
  have HR32 : Hid (All32 R) := fun x hx => hL x (hpm.mem_iff.1 hx)
  have HCo : Hid (Calls Tryd.prog 70 #[.slice (some ⟨q, 0, none⟩) n cap'] w2 fun e w' => e = .returned (.slice (some ⟨q, 0, none⟩) (dd R).length cap') ∧ Hs w' q 0 (dd R) ∧ (∀ B, B ≤ q → Below B w2 w') ∧ q < w'.heap.size) := (by
    rw [HN.out, ← hRn]
    exact compactH q R cap' w2 HR32.out (by rw [hRn, ← HN.out]; omega) (by rw [hRn]; exact hcap) (by omega) hs2 (by rw [hRn]; exact ht2))
  have hDn : (dd R).length ≤ n := (by rw [HN.out, ← hRn]; exact dd_length_le R)
  have HD32 : Hid (All32 (dd R)) := all32_dd HR32.out
  clear HS hpm hri hs2 ht2 hbel be1 hRn HR32
  generalize dd R = D at *
  go_wp2_with fail
  refine HCo.out.mono ?_
  rintro e w3 ⟨rfl, hs3, hbel, hq3⟩
  have be3 : Hid (Below w.heap.size w w3) := be2.trans (hbel _ hqB)
  obtain ⟨m, hm⟩ : ∃ m, m = D.length := ⟨_, rfl⟩
  have HU := K.Hid.mk' (K.nuint m (by omega) w3)
  rw [← hm] at hDn ⊢
  have HM : Hid (m = D.length) := hm
  have HS3 : Hid (Hs w3 q 0 D) := hs3
  clear HCo hs3 hbel be2 hsz2 hm
  go_wp2_with fail
  refine HU.out.mono ?_
  rintro e w4 ⟨rfl, be4⟩
  have HS4 : Hid (Hs w4 q 0 D) := HS3.out.below be4 hq3
  have hq4 : q < w4.heap.size := by have := be4.size; omega
  have HW4 : Hid (Below w.heap.size w w4) := be3.out.trans (be4.mono be3.out.size)
  clear be4 be3 HU HS3
  have hzs : (bs z32).size = 32 := by rw [bs_size]; rfl
  go_wp2
  go_loopw [20] (fun i wr => ∃ k : Nat, k ≤ m ∧ i = .int .i64 k ∧ Hid (Below w.heap.size w wr) ∧ Hid (Hs wr q 0 D) ∧ q < wr.heap.size) (fun i _ => m - (intOf i).toNat)
  case atStart => exact ⟨0, by omega, rfl, HW4, HS4, hq4⟩
  case round =>
    obtain ⟨k, hk, rfl, HWr, HSr, hqr⟩ := hrel
    by_cases hkm : k < m
    · have hkD : k < D.length := by rw [← HM.out]; exact hkm
      obtain ⟨x, hx⟩ : ∃ x, D[k]? = some x := ⟨_, List.getElem?_eq_getElem hkD⟩
      have hx32 := HD32.out.get hx
      have HR : Hid (wr.rangeAt q (32 * k) (hcs x)) := (by have := HSr.out k x hx; rwa [Nat.zero_add] at this : wr.rangeAt q (32 * k) (hcs x))
      have ix1 := fun wx => indexH q 0 m cap' k wx hkm
      simp only [Nat.zero_add] at ix1
      have be : Below wr.heap.size wr (wr.alloc (.cells (bs x) 31)) := (Below.refl _ _).alloc (Nat.le_refl _) _
      have HC : Hid (Calls Tryd.prog 34 #[.pointer none, .agg (bs x)] (wr.alloc (.cells (bs x) 31)) fun e w' => e = .returned (.tuple #[]) ∧ Below w.heap.size w w' ∧ Hs w' q 0 D ∧ q < w'.heap.size) := (by
        refine (nhash x hx32 _).mono ?_
        rintro e w' ⟨rfl, b'⟩
        have b2 := be.trans (b'.mono be.size)
        exact ⟨rfl, HWr.out.trans (b2.mono HWr.out.size), HSr.out.below b2 hqr, by have := b2.size; omega⟩)
      clear hx HWr HSr be
      go_wp2_with (first
        | (refine wpList_load_mid rfl 31 _ rfl q (32 * k) rfl (hcs x) _ HR.out Tryd.underlying31 rfl (by rw [hcs_len, hx32]; exact hsH) ?_; rw [hcs_arr])
        | (refine wpList_alloc_row rfl 31 rfl (bs z32) (hzH _) ?_)
        | (refine wpList_store_row rfl 31 _ _ rfl wr.heap.size (bs x) rfl rfl 31 (bs z32) (heap_alloc_new _ _) (by rw [bs_size, hx32]; exact hsH) (by rw [hzs, bs_size, hx32]) (bs_one _) ?_; rw [World.setRow_alloc_new])
        | (refine wpList_load_arr rfl 31 _ rfl wr.heap.size rfl 31 (bs x) (0, 0) _ (heap_alloc_new _ _) Tryd.underlying31 rfl (by rw [bs_size, hx32]; exact hsH) ?_)
        | fail)
      refine HC.out.mono ?_
      rintro e w5 ⟨rfl, hw5, hs5, hq5⟩
      have H5 : Hid (Below w.heap.size w w5) := hw5
      have G5 : Hid (Hs w5 q 0 D) := hs5
      clear hw5 hs5 HC HR
      go_wp2
      exact ⟨⟨k + 1, by omega, by go_num, H5, G5, hq5⟩, by simp [intOf]; omega⟩
    · obtain rfl : k = m := by omega
      go_wp2
      go_end0
      exact ⟨rfl, HWr.out⟩
end Go.Proofs.YtbpmpcmmdiaiiaaDoor

namespace Go.Proofs.YtbpmpcmmdiaiiaaDoor.K
open Go.RowKit
set_option linter.unusedVariables false
set_option linter.unusedSimpArgs false

def rCnt (L : List UInt8) (most : Nat) (s : St) : Option (Nat × Nat) × St :=
  if (num L s.k).why = 0 then (if (num L s.k).v ≤ most then (if (num L s.k).v + (s.k + (num L s.k).size) ≤ L.length then (some ((num L s.k).v, (num L s.k).size), s) else (none, ⟨s.k, 20, L.length⟩)) else (none, ⟨s.k, 6, s.k⟩)) else (none, ⟨s.k, (num L s.k).why, (num L s.k).place⟩)
theorem rCnt_some {L : List UInt8} {most : Nat} {s : St} {n hd : Nat} {s' : St} (h : rCnt L most s = (some (n, hd), s')) (hk : s.k ≤ L.length) : s' = s ∧ n ≤ most ∧ n + (s.k + hd) ≤ L.length ∧ 0 < hd := by
  have := num_ok L s.k hk
  unfold rCnt at h
  split at h
  · split at h
    · split at h
      · simp only [Prod.mk.injEq, Option.some.injEq] at h
        rename_i h0 h1 h2
        have h3 := this.1 h0
        exact ⟨h.2.symm, by omega, by omega, by omega⟩
      · simp at h
    · simp at h
  · simp at h
variable {T : TypeId} {r cap : Nat} {a : Option Addr} {L : List UInt8} {s : St}
set_option maxRecDepth 100000 in
set_option maxHeartbeats 2000000 in
theorem counted_some (most : Nat) (hm : most ≤ 9223372036854775807) (w : World) (h : RD w T r a cap L s) (hb : s.bad = 0) (n hd : Nat) (hc : rCnt L most s = (some (n, hd), s)) :
    Calls Tryd.prog 61 #[.pointer (some ⟨r, 0, none⟩), .int .i64 (most : Int), .int .i64 1] w fun e w' => e = .returned (.tuple #[.slice (from23 a cap (s.k + hd)) n (cap - (s.k + hd)), .int .i64 (hd : Int), .bool true]) ∧ On w w' T r a cap L s := by
  have HN := Hid.mk' (number_any w h hb)
  have hok := num_ok L s.k h.at_le
  unfold rCnt at hc
  generalize num L s.k = N at *
  obtain ⟨v, sz, why, pl⟩ := N
  simp only at HN hok hc ⊢
  have h1 : why = 0 := by
    refine Classical.byContradiction fun hn => ?_
    rw [if_neg hn] at hc
    simp at hc
  rw [if_pos h1] at hc
  have h2 : v ≤ most := by
    refine Classical.byContradiction fun hn => ?_
    rw [if_neg hn] at hc
    simp at hc
  rw [if_pos h2] at hc
  have h3 : v + (s.k + sz) ≤ L.length := by
    refine Classical.byContradiction fun hn => ?_
    rw [if_neg hn] at hc
    simp at hc
  rw [if_pos h3] at hc
  simp only [Prod.mk.injEq, Option.some.injEq, and_true] at hc
  obtain ⟨rfl, rfl⟩ := hc
  subst h1
  have HN' : Hid (Calls Tryd.prog 59 #[.pointer (some ⟨r, 0, none⟩)] w fun e w' => e = .returned (.tuple #[.int .u64 (v : Int), .int .i64 (sz : Int), .bool true]) ∧ On w w' T r a cap L s) := HN.out.mono fun e w' hx => by
    rw [St.fl_ok] at hx
    exact hx
  have hf := h.few
  have hr := h.room
  have HL := Hid.mk' (fun (wx : World) (hx : On w wx T r a cap L s) => cleft_any wx hx.1)
  have s1 := sl_mid a L.length cap (s.k + sz) (s.k + sz + v) ((s.k : Int) + (sz : Int)) ((s.k : Int) + (sz : Int) + (v : Int)) (by omega) (by omega) (by omega) (by omega)
  have s2 := sl_mid' a L.length cap (s.k + sz) (s.k + sz + v) ((s.k : Int) + (sz : Int)) ((s.k : Int) + (sz : Int) + (v : Int)) (by omega) (by omega) (by omega) (by omega)
  rw [Nat.add_sub_cancel_left] at s1 s2
  clear HN h
  generalize from23 a cap (s.k + sz) = a4 at *
  generalize cap - (s.k + sz) = c4 at *
  have g1 : ¬ (most : Int) < 0 := by omega
  have g2 : ¬ (most : Int) < (v : Int) := by omega
  have g3 : ¬ ((L.length : Int) - (s.k : Int) - (sz : Int)) < (v : Int) := by omega
  go_enter Tryd.func61, Tryd.ntmps61
  go_wp2_with fail
  refine HN'.out.mono ?_
  rintro e w1 ⟨rfl, ho⟩
  have HON := Hid.mk' ho
  have c0 := ho.1.c0
  have c1 := ho.1.c1
  clear ho
  go_wp2_with fail
  refine (HL.out w1 HON.out).mono ?_
  rintro e w2 ⟨rfl, m, rfl⟩
  have HON2 := Hid.mk' (HON.out.drew m)
  go_wp2
  try (go_quiet (fail); go_wp2)
  go_ret3
  exact ⟨rfl, HON2.out⟩
set_option maxRecDepth 100000 in
set_option maxHeartbeats 2000000 in
theorem counted_none (most : Nat) (hm : most ≤ 9223372036854775807) (w : World) (h : RD w T r a cap L s) (hb : s.bad = 0) (s' : St) (hc : rCnt L most s = (none, s')) :
    Calls Tryd.prog 61 #[.pointer (some ⟨r, 0, none⟩), .int .i64 (most : Int), .int .i64 1] w fun e w' => e = .returned (.tuple #[.slice none 0 0, .int .i64 0, .bool false]) ∧ On w w' T r a cap L s' := by
  have HN := Hid.mk' (number_any w h hb)
  have hok := num_ok L s.k h.at_le
  have HAt := Hid.mk' (fun (wx : World) (hx : On w wx T r a cap L s) => cat_any wx hx.1)
  have HL := Hid.mk' (fun (wx : World) (hx : On w wx T r a cap L s) => cleft_any wx hx.1)
  have hf := h.few
  have hr := h.room
  unfold rCnt at hc
  generalize num L s.k = N at *
  obtain ⟨v, sz, why, pl⟩ := N
  simp only at HN hok hc ⊢
  by_cases h1 : why = 0
  · subst h1
    rw [if_pos rfl] at hc
    have HN' : Hid (Calls Tryd.prog 59 #[.pointer (some ⟨r, 0, none⟩)] w fun e w' => e = .returned (.tuple #[.int .u64 (v : Int), .int .i64 (sz : Int), .bool true]) ∧ On w w' T r a cap L s) := HN.out.mono fun e w' hx => by
      rw [St.fl_ok] at hx
      exact hx
    obtain ⟨k1, k2, k3⟩ := hok.1 rfl
    clear HN h hok
    by_cases h2 : v ≤ most
    · rw [if_pos h2] at hc
      by_cases h3 : v + (s.k + sz) ≤ L.length
      · rw [if_pos h3] at hc
        simp at hc
      · rw [if_neg h3] at hc
        simp only [Prod.mk.injEq, true_and] at hc
        subst hc
        have HK := Hid.mk' (keep_on (a := a) (cap := cap) (L := L) (T := T) (r := r) w hb 20 (L.length : Int) (by decide))
        have g1 : ¬ (most : Int) < 0 := by omega
        have g2 : ¬ (most : Int) < (v : Int) := by omega
        have g3 : ((L.length : Int) - (s.k : Int) - (sz : Int)) < (v : Int) := by omega
        go_enter Tryd.func61, Tryd.ntmps61
        go_wp2_with fail
        refine HN'.out.mono ?_
        rintro e w1 ⟨rfl, ho⟩
        have HON := Hid.mk' ho
        have c0 := ho.1.c0
        have c1 := ho.1.c1
        clear ho
        go_wp2_with fail
        refine (HL.out w1 HON.out).mono ?_
        rintro e w2 ⟨rfl, m, hw2⟩
        have HON2 : Hid (On w w2 T r a cap L s) := by show On _ _ _ _ _ _ _ _; rw [hw2]; exact HON.out.drew m
        have c0' := HON2.out.1.c0
        clear hw2 HON c0 c1
        go_wp2_with fail
        refine (HK.out w2 HON2.out).mono ?_
        rintro e w3 ⟨rfl, ho⟩
        have HO2 := Hid.mk' ho
        clear ho
        go_wp2
        go_ret3
        exact ⟨rfl, HO2.out⟩
    · rw [if_neg h2] at hc
      simp only [Prod.mk.injEq, true_and] at hc
      subst hc
      have HK := Hid.mk' (keep_on (a := a) (cap := cap) (L := L) (T := T) (r := r) w hb 6 (s.k : Int) (by decide))
      have g1 : ¬ (most : Int) < 0 := by omega
      have g2 : (most : Int) < (v : Int) := by omega
      go_enter Tryd.func61, Tryd.ntmps61
      go_wp2_with fail
      refine HN'.out.mono ?_
      rintro e w1 ⟨rfl, ho⟩
      have HON := Hid.mk' ho
      clear ho
      go_wp2_with fail
      refine (HAt.out w1 HON.out).mono ?_
      rintro e w2 ⟨rfl, hw2⟩
      subst hw2
      go_wp2_with fail
      refine (HK.out w2 HON.out).mono ?_
      rintro e w3 ⟨rfl, ho⟩
      have HO2 := Hid.mk' ho
      clear ho
      go_wp2
      go_ret3
      exact ⟨rfl, HO2.out⟩
  · rw [if_neg h1] at hc
    simp only [Prod.mk.injEq, true_and] at hc
    subst hc
    have HN' : Hid (Calls Tryd.prog 59 #[.pointer (some ⟨r, 0, none⟩)] w fun e w' => e = .returned (.tuple #[.int .u64 (v : Int), .int .i64 (sz : Int), .bool false]) ∧ On w w' T r a cap L ⟨s.k, why, pl⟩) := HN.out.mono fun e w' hx => by
      rw [St.fl_new s _ _ hb h1] at hx
      rw [show decide (why = 0) = false by simp [h1]] at hx
      exact hx
    clear HN h
    go_enter Tryd.func61, Tryd.ntmps61
    go_wp2_with fail
    refine HN'.out.mono ?_
    rintro e w1 ⟨rfl, ho⟩
    have HO2 := Hid.mk' ho
    clear ho
    go_wp2
    go_ret3
    exact ⟨rfl, HO2.out⟩
end Go.Proofs.YtbpmpcmmdiaiiaaDoor.K

namespace Go.Proofs.YtbpmpcmmdiaiiaaDoor.K
open Go.RowKit
set_option linter.unusedVariables false
set_option linter.unusedSimpArgs false

theorem RD.below {w w' : World} {T : TypeId} {r cap : Nat} {a : Option Addr} {L : List UInt8} {s : St} (h : RD w T r a cap L s) (hb : Below w.heap.size w w') : RD w' T r a cap L s :=
  ⟨by rw [hb.block r h.lt]; exact h.row, h.room, byt_below h.byt hb, h.plain, h.at_le, h.few⟩
theorem On.below {w w1 w2 : World} {T : TypeId} {r cap : Nat} {a : Option Addr} {L : List UInt8} {s : St} (h : On w w1 T r a cap L s) (hb : Below w1.heap.size w1 w2) : On w w2 T r a cap L s :=
  ⟨h.1.below hb, h.2.trans (Fr.of_below hb)⟩
theorem own_string {w : World} {base : Nat} {v : Value} {L : List UInt8} (h : OwnB w base v L) : (convert 29 9 v).run Tryd.prog w = .ok (.string ⟨L.toArray⟩) w := by
  by_cases h0 : 0 < L.length
  · obtain ⟨g1, c1, rfl, hc1, hcl, _, _⟩ := h.open1 h0
    exact run_convert_bytes_back (P := Tryd.prog) w 29 9 5 ⟨g1, 0, none⟩ c1 L Tryd.underlying29 Tryd.underlying5 Tryd.underlying9 (fun j hj => by
      have e : (⟨g1, 0, none⟩ : Addr).add j = ⟨g1, j, none⟩ := by simpa using Addr.add_mid g1 0 j
      rw [e, hcl j hj]
      simp [at8, List.getElem?_eq_getElem hj])
  · have hL : L = [] := List.eq_nil_of_length_eq_zero (by omega)
    subst hL
    rcases h.2 with ⟨rfl, hn⟩ | ⟨g, cap, cur, rfl, hbg, hg, hnc, hcm, hcs, htake⟩
    · rw [run_convert_bytes_string w 29 9 5 none 0 0 Tryd.underlying29 Tryd.underlying5 Tryd.underlying9]
      rfl
    · exact run_convert_bytes_back (P := Tryd.prog) w 29 9 5 ⟨g, 0, none⟩ cap [] Tryd.underlying29 Tryd.underlying5 Tryd.underlying9 (fun j hj => by simp at hj)
theorem byt_string {w : World} {b off n cap : Nat} {l : List UInt8} (hn : l.length = n) (h : Byt w (some ⟨b, off, none⟩) l) : (convert 29 9 (.slice (some ⟨b, off, none⟩) n cap)).run Tryd.prog w = .ok (.string ⟨l.toArray⟩) w := by
  subst hn
  exact run_convert_bytes_back (P := Tryd.prog) w 29 9 5 ⟨b, off, none⟩ cap l Tryd.underlying29 Tryd.underlying5 Tryd.underlying9 (fun j hj => by
      rcases h with rfl | ⟨b', off', e, hc⟩
      · simp at hj
      · cases e
        rw [Addr.add_mid, hc j hj]
        simp [at8, List.getElem?_eq_getElem hj])
def cut (L : List UInt8) (j n : Nat) : List UInt8 := (L.drop j).take n
theorem cut_len (L : List UInt8) (j n : Nat) (h : j + n ≤ L.length) : (cut L j n).length = n := by simp [cut]; omega
def rRaw (L : List UInt8) (most : Nat) (s : St) : List UInt8 × St :=
  if s.bad = 0 then (match rCnt L most s with | (some (n, hd), _) => (cut L (s.k + hd) n, ⟨s.k + hd + n, s.bad, s.wh⟩) | (none, s') => ([], s')) else ([], s)
variable {T : TypeId} {r cap : Nat} {a : Option Addr} {L : List UInt8} {s : St}
theorem RD.some {w : World} (h : RD w T r a cap L s) (h0 : 0 < L.length) (j : Nat) : ∃ b off, from23 a cap j = some ⟨b, off, none⟩ := by
  rcases h.byt with e | ⟨b, off, rfl, hc⟩
  · rw [e] at h0; simp at h0
  · unfold from23
    split
    · exact ⟨b, off, rfl⟩
    · exact ⟨b, off + j, by simp [Addr.add_mid]⟩
theorem RD.cut {w : World} (h : RD w T r a cap L s) (j n : Nat) : Byt w (from23 a cap j) (cut L j n) := byt_take (byt_from h.byt cap j h.room) n
set_option maxRecDepth 100000 in
set_option maxHeartbeats 2000000 in
theorem raw_any (most : Nat) (hm : most ≤ 9223372036854775807) (w : World) (h : RD w T r a cap L s) :
    Calls Tryd.prog 45 #[.pointer (some ⟨r, 0, none⟩), .int .i64 (most : Int)] w fun e w' => ∃ v base, e = .returned v ∧ w.heap.size ≤ base ∧ OwnB w' base v (rRaw L most s).1 ∧ On w w' T r a cap L (rRaw L most s).2 := by
  have HS : Hid (Calls Tryd.prog 58 #[.pointer (some ⟨r, 0, none⟩)] w fun e w' => e = .returned (.bool (decide (s.bad ≠ 0))) ∧ w' = w) := stopped_any w h
  by_cases hb : s.bad = 0
  · have HS' : Hid (Calls Tryd.prog 58 #[.pointer (some ⟨r, 0, none⟩)] w fun e w' => e = .returned (.bool false) ∧ w' = w) := by have := HS.out; rw [show decide (s.bad ≠ 0) = false by simp [hb]] at this; exact this
    clear HS
    have hE : rRaw L most s = (match rCnt L most s with | (some (n, hd), _) => (cut L (s.k + hd) n, ⟨s.k + hd + n, s.bad, s.wh⟩) | (none, s') => ([], s')) := by unfold rRaw; rw [if_pos hb]
    rcases hq : rCnt L most s with ⟨_ | ⟨n, hd⟩, s'⟩
    · rw [hq] at hE
      simp only at hE
      rw [hE]
      have HC := Hid.mk' (counted_none most hm w h hb s' hq)
      clear h hE hq
      go_enter Tryd.func45, Tryd.ntmps45
      go_wp2_with fail
      refine HS'.out.mono ?_
      rintro e w1 ⟨rfl, hw1⟩
      subst hw1
      go_wp2_with fail
      refine HC.out.mono ?_
      rintro e w2 ⟨rfl, ho⟩
      have HO := Hid.mk' ho
      clear ho
      go_wp2
      go_ret
      exact ⟨_, _, rfl, Nat.le_refl _, ownB_nil _ _, HO.out⟩
    · rw [hq] at hE
      simp only at hE
      rw [hE]
      obtain ⟨rfl, h1, h2, h3⟩ := rCnt_some hq h.at_le
      have HC := Hid.mk' (counted_some most hm w h hb n hd hq)
      obtain ⟨b, off, eA⟩ := h.some (by omega) (s'.k + hd)
      have hf := h.few
      rw [eA] at HC
      have HCut := Hid.mk' (fun (wx : World) (s2 : St) (hx : On w wx T r a cap L s2) => hx.1.cut (s'.k + hd) n)
      rw [eA] at HCut
      have hlen := cut_len L (s'.k + hd) n (by omega)
      clear h hE hq eA
      generalize cap - (s'.k + hd) = c4 at *
      go_enter Tryd.func45, Tryd.ntmps45
      go_wp2_with fail
      refine HS'.out.mono ?_
      rintro e w1 ⟨rfl, hw1⟩
      subst hw1
      go_wp2_with fail
      refine HC.out.mono ?_
      rintro e w2 ⟨rfl, ho⟩
      have HON := Hid.mk' ho
      have c1 := ho.1.c1
      have f1 := ho.1.fz 1
      clear ho
      have HO2 := Hid.mk' (HON.out.set1 (s'.k + hd + n) ((s'.k : Int) + ((hd : Int) + (n : Int))) (by omega) (by omega))
      go_wp2_with fail
      refine (clone_any b off n c4 _ _ hlen (by omega) (HCut.out _ _ HO2.out)).mono ?_
      rintro e w3 ⟨v, rfl, own, bl⟩
      have HO3 := Hid.mk' (HO2.out.below bl)
      have HOW := Hid.mk' own
      clear own bl
      go_wp2
      go_ret
      exact ⟨_, _, rfl, by rw [World.size_setCell]; exact HON.out.2.size, HOW.out, HO3.out⟩
  · have HS' : Hid (Calls Tryd.prog 58 #[.pointer (some ⟨r, 0, none⟩)] w fun e w' => e = .returned (.bool true) ∧ w' = w) := by have := HS.out; rw [show decide (s.bad ≠ 0) = true by simp [hb]] at this; exact this
    have e0 : rRaw L most s = ([], s) := by unfold rRaw; rw [if_neg hb]
    rw [e0]
    have HO := Hid.mk' h.on
    clear HS h e0
    go_enter Tryd.func45, Tryd.ntmps45
    go_wp2_with fail
    refine HS'.out.mono ?_
    rintro e w1 ⟨rfl, hw1⟩
    subst hw1
    go_wp2
    go_ret
    exact ⟨_, _, rfl, Nat.le_refl _, ownB_nil _ _, HO.out⟩
end Go.Proofs.YtbpmpcmmdiaiiaaDoor.K

namespace Go.Proofs.YtbpmpcmmdiaiiaaDoor.K
open Go.RowKit
set_option linter.unusedVariables false
set_option linter.unusedSimpArgs false

/-- A byte of a text, as a number; 0 behind its end. -/
def by8 (s : ByteArray) (k : Nat) : Nat := (s.data.toList.getD k 0).toNat
theorem by8_lt (s : ByteArray) (k : Nat) : by8 s k < 256 := by unfold by8; exact (s.data.toList.getD k 0).toNat_lt
theorem index_str (s : ByteArray) (k : Nat) (kk : Int) (hk : kk = (k : Int)) (w : World) (h : k < s.size) : (Instr.index 9 (.string s) (.int .i64 kk)).run Tryd.prog w = .ok (.int .u8 (by8 s k : Int)) w := by
  subst hk
  have hd : s.data.toList[k]? = some (s[k]'h) := by simp [h]; rfl
  have e : by8 s k = (s[k]'h).toNat := by
    unfold by8
    rw [List.getD_eq_getElem?_getD, hd]
    rfl
  rw [e]
  simp [Instr.index, asIntOf, run_underlying Tryd.underlying9, h]
/-- A byte stands there, from lo to hi. -/
def folB (s : ByteArray) (j lo hi : Nat) : Bool := decide (j < s.size) && (decide (lo ≤ by8 s j) && decide (by8 s j ≤ hi))
set_option maxRecDepth 100000 in
set_option maxHeartbeats 1000000 in
theorem follows_any (s : ByteArray) (ii : Int) (j lo hi : Nat) (hii : ii = (j : Int)) (w : World) :
    Calls Tryd.prog 81 #[.string s, .int .i64 ii, .int .u8 (lo : Int), .int .u8 (hi : Int)] w fun e w' => e = .returned (.bool (folB s j lo hi)) ∧ w' = w := by
  by_cases h1 : j < s.size
  · have h1' : ii < (s.size : Int) := by omega
    have i1 := fun wx => index_str s j ii hii wx h1
    have e : folB s j lo hi = (decide (lo ≤ by8 s j) && decide (by8 s j ≤ hi)) := by unfold folB; rw [decide_eq_true h1]; rfl
    rw [e]
    generalize by8 s j = b at *
    clear hii e
    by_cases h2 : lo ≤ b
    · have h2' : (lo : Int) ≤ (b : Int) := by omega
      rw [decide_eq_true h2]
      by_cases h3 : b ≤ hi
      · have h3' : (b : Int) ≤ (hi : Int) := by omega
        rw [decide_eq_true h3]
        go_enter Tryd.func81, Tryd.ntmps81
        go_wp2
        go_ret
        exact ⟨rfl, rfl⟩
      · have h3' : ¬ (b : Int) ≤ (hi : Int) := by omega
        rw [decide_eq_false h3]
        go_enter Tryd.func81, Tryd.ntmps81
        go_wp2
        go_ret
        exact ⟨rfl, rfl⟩
    · have h2' : ¬ (lo : Int) ≤ (b : Int) := by omega
      rw [decide_eq_false h2]
      go_enter Tryd.func81, Tryd.ntmps81
      go_wp2
      go_ret
      exact ⟨rfl, rfl⟩
  · have h1' : ¬ ii < (s.size : Int) := by omega
    have e : folB s j lo hi = false := by unfold folB; rw [decide_eq_false h1]; rfl
    rw [e]
    go_enter Tryd.func81, Tryd.ntmps81
    go_wp2
    go_ret
    exact ⟨rfl, rfl⟩
/-- The bytes 1 to n - 1 behind a place go on, the first of them from lo to hi. -/
def TailB (s : ByteArray) (i n lo hi : Nat) : Bool := folB s (i + 1) lo hi && ((decide (n ≤ 2) || folB s (i + 2) 128 191) && (decide (n ≤ 3) || folB s (i + 3) 128 191))
end Go.Proofs.YtbpmpcmmdiaiiaaDoor.K

