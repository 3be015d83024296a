import Derived.Test.YtpalbfkkegaliabDoorKWb
import Derived.Test.YtpalbfkkegaliabDoorCo
import Derived.Test.YtpalbfkkegaliabDoorSo
import Derived.Test.YtpalbfkkegaliabDoorCl
import Derived.Laws.CopyOwn
namespace Go.Proofs.YtpalbfkkegaliabDoor
open Go.RowKit
set_option linter.unusedVariables false
set_option linter.unusedSimpArgs false

theorem bs_k (l : List UInt8) : K.bs l = bs l := rfl
set_option maxRecDepth 100000 in
set_option maxHeartbeats 1000000 in
theorem whash_any {p : Nat} {g : Option Nat} {M : List UInt8} {e : Int} (h : List UInt8) (hl : h.length = 32) (w : World) (hw : K.WS w 28 p g M e) (hsum : M.length + 32 ≤ 140737488355328) :
    Calls Tryd.prog 43 #[.pointer (some ⟨p, 0, none⟩), .agg (bs h)] w fun x w' => x = .returned (.tuple #[]) ∧ K.Wr w w' 28 p g (K.wA M e h) e := by
  have be : Below w.heap.size w (w.alloc (.cells (bs h) 36)) := (Below.refl _ _).alloc (Nat.le_refl _) _
  have H : Hid (Calls Tryd.prog 64 #[.pointer (some ⟨p, 0, none⟩), .slice (some ⟨w.heap.size, 0, none⟩) 32 32] (w.alloc (.cells (bs h) 36)) fun x w' => x = .returned (.tuple #[]) ∧ K.Wr w w' 28 p g (K.wA M e h) e) :=
    (K.add_any h (some ⟨w.heap.size, 0, none⟩) 32 32 (w.alloc (.cells (bs h) 36)) (hw.below be) hl (K.byt_lit w h 36) (by omega)).mono fun x w' h => ⟨h.1, K.Wr.pre be h.2⟩
  clear hw
  go_enter Tryd.func43, Tryd.ntmps43
  go_wp2_with fail
  refine H.out.mono ?_
  rintro x w1 ⟨rfl, ho⟩
  have HO : Hid (K.Wr w w1 28 p g (K.wA M e h) e) := ho
  clear ho
  go_wp2
  go_end0
  exact ⟨rfl, HO.out⟩

/-- Each is less than those behind it. -/
def SRise (L : List (List UInt8)) : Prop := ∀ (i j : Nat) (x y : List UInt8), L[i]? = some x → L[j]? = some y → i < j → cmpL x y < 0
theorem SRise.tail {x : List UInt8} {r : List (List UInt8)} (h : SRise (x :: r)) : SRise r := fun i j a b ha hb hij => h (i + 1) (j + 1) a b (by simpa using ha) (by simpa using hb) (by omega)
theorem SRise.head {x y : List UInt8} {r : List (List UInt8)} (h : SRise (x :: r)) (hy : y ∈ r) : cmpL x y < 0 := by
  obtain ⟨i, hi⟩ := List.mem_iff_getElem?.1 hy
  exact h 0 (i + 1) x y rfl (by simpa using hi) (by omega)
/-- One list of what there is. -/
theorem SRise.unique : ∀ (L M : List (List UInt8)), All32 L → SRise L → SRise M → (∀ x, x ∈ L ↔ x ∈ M) → L = M
  | [], [], _, _, _, _ => rfl
  | [], y :: s, _, _, _, h => absurd ((h y).2 (by simp)) (by simp)
  | x :: r, [], _, _, _, h => absurd ((h x).1 (by simp)) (by simp)
  | x :: r, y :: s, h32, hL, hM, h => by
    have hM32 : All32 (y :: s) := fun z hz => h32 z ((h z).2 hz)
    have exy : x = y := by
      by_cases e : x = y
      · exact e
      · exfalso
        have hx : x ∈ s := (List.mem_cons.1 ((h x).1 (by simp))).resolve_left e
        have hy : y ∈ r := (List.mem_cons.1 ((h y).2 (by simp))).resolve_left (fun e' => e e'.symm)
        have h1 := hM.head hx
        have h2 := hL.head hy
        rw [cmpL_neg (h32 x (by simp)) (hM32 y (by simp))] at h1
        omega
    subst exy
    rw [SRise.unique r s (fun z hz => h32 z (by simp [hz])) hL.tail hM.tail (fun z => ?_)]
    have hxr : x ∉ r := fun hr => by have := hL.head hr; rw [cmpL_same] at this; omega
    have hxs : x ∉ s := fun hr => by have := hM.head hr; rw [cmpL_same] at this; omega
    constructor
    · intro hz
      rcases List.mem_cons.1 ((h z).1 (by simp [hz])) with rfl | h1
      · exact absurd hz hxr
      · exact h1
    · intro hz
      rcases List.mem_cons.1 ((h z).2 (by simp [hz])) with rfl | h1
      · exact absurd hz hxs
      · exact h1
theorem rises_tail {x : List UInt8} {r : List (List UInt8)} (h : Rises (x :: r)) : Rises r := fun i j a b ha hb hij => h (i + 1) (j + 1) a b (by simpa using ha) (by simpa using hb) (by omega)
theorem srise_cons {x : List UInt8} {r : List (List UInt8)} (h : SRise r) (hx : ∀ y ∈ r, cmpL x y < 0) : SRise (x :: r) := fun i j a b ha hb hij => by
  cases j with
  | zero => omega
  | succ j =>
    cases i with
    | zero =>
      simp at ha
      subst ha
      exact hx b (List.mem_of_getElem? (by simpa using hb))
    | succ i => exact h i j a b (by simpa using ha) (by simpa using hb) (by omega)
theorem lt_of_not {x y : List UInt8} (hx : x.length = 32) (hy : y.length = 32) (h : ¬ cmpL y x < 0) (hne : ¬ y = x) : cmpL x y < 0 := by
  have e := cmpL_neg hx hy
  have h0 : cmpL x y ≠ 0 := fun h0 => hne ((cmpL_zero hx hy).1 h0).symm
  omega
theorem ddF_rise : ∀ (p : List UInt8) (l : List (List UInt8)), All32 (p :: l) → Rises (p :: l) → SRise (ddF p l) ∧ ∀ y ∈ ddF p l, cmpL p y < 0
  | p, [], _, _ => ⟨fun i j x y h => by simp [ddF] at h, fun y h => by simp [ddF] at h⟩
  | p, x :: r, h32, hr => by
    have hp32 := h32 p (by simp)
    have hx32 := h32 x (by simp)
    unfold ddF
    split
    · rename_i hxp
      subst hxp
      exact ddF_rise x r (fun z hz => h32 z (List.mem_cons_of_mem _ hz)) (rises_tail hr)
    · rename_i hxp
      obtain ⟨h1, h2⟩ := ddF_rise x r (fun z hz => h32 z (List.mem_cons_of_mem _ hz)) (rises_tail hr)
      have hpx : cmpL p x < 0 := lt_of_not hp32 hx32 (hr 0 1 p x rfl rfl (by omega)) hxp
      refine ⟨srise_cons h1 h2, fun y hy => ?_⟩
      rcases List.mem_cons.1 hy with rfl | hy
      · exact hpx
      · exact lt_trans hp32 hx32 (h32 y (by have := ddF_mem x r y hy; simp [this])) hpx (h2 y hy)
theorem dd_rise {L : List (List UInt8)} (h32 : All32 L) (hr : Rises L) : SRise (dd L) := by
  cases L with
  | nil => intro i j x y h; simp [dd] at h
  | cons x r =>
    obtain ⟨h1, h2⟩ := ddF_rise x r h32 hr
    exact srise_cons h1 h2
theorem ddF_all (p : List UInt8) (l : List (List UInt8)) (x : List UInt8) : x ∈ l → x = p ∨ x ∈ ddF p l := by
  induction l generalizing p with
  | nil => simp
  | cons y r ih =>
    intro h
    simp only [ddF]
    by_cases hy : y = p
    · rw [if_pos hy]
      rcases List.mem_cons.1 h with rfl | h
      · exact .inl hy
      · exact ih p h
    · rw [if_neg hy]
      rcases List.mem_cons.1 h with rfl | h
      · exact .inr (by simp)
      · rcases ih y h with rfl | h
        · exact .inr (by simp)
        · exact .inr (by simp [h])
theorem dd_all {L : List (List UInt8)} {x : List UInt8} (h : x ∈ L) : x ∈ dd L := by
  cases L with
  | nil => exact h
  | cons y r =>
    simp only [dd]
    rcases List.mem_cons.1 h with rfl | h
    · simp
    · rcases ddF_all y r x h with rfl | h
      · simp
      · simp [h]
/-- The one rising list of the members of another. -/
def Srt (L D : List (List UInt8)) : Prop := SRise D ∧ All32 D ∧ (∀ x, x ∈ D ↔ x ∈ L)
theorem srt_dd {L M : List (List UInt8)} (hL : All32 L) (hp : M.Perm L) (hr : Rises M) : Srt L (dd M) := by
  have hM : All32 M := fun x hx => hL x (hp.mem_iff.1 hx)
  exact ⟨dd_rise hM hr, all32_dd hM, fun x => ⟨fun h => hp.mem_iff.1 (dd_mem h), fun h => dd_all (hp.mem_iff.2 h)⟩⟩
theorem dd_length_le (L : List (List UInt8)) : (dd L).length ≤ L.length := by
  have key : ∀ (l : List (List UInt8)) p, (ddF p l).length ≤ l.length := by
    intro l
    induction l with
    | nil => intro p; simp [ddF]
    | cons y r ih =>
      intro p
      simp only [ddF]
      split
      · have := ih p; simp; omega
      · have := ih y; simp; omega
  cases L with
  | nil => simp [dd]
  | cons x r => have := key r x; simp [dd]; omega
end Go.Proofs.YtpalbfkkegaliabDoor

namespace Go.Proofs.YtpalbfkkegaliabDoor
open Go.RowKit
set_option linter.unusedVariables false
set_option linter.unusedSimpArgs false

/-- All hashes one behind the other. -/
def cat (L : List (List UInt8)) : List UInt8 := L.flatten
theorem cat_nil : cat [] = [] := rfl
theorem cat_snoc (L : List (List UInt8)) (k : Nat) (x : List UInt8) (h : L[k]? = some x) : cat (L.take (k + 1)) = cat (L.take k) ++ x := by
  rw [List.take_add_one, h]; simp [cat]
theorem cat_len {L : List (List UInt8)} (h : All32 L) : (cat L).length = 32 * L.length := by
  induction L with
  | nil => rfl
  | cons x r ih =>
    have h1 := ih (fun z hz => h z (List.mem_cons_of_mem _ hz))
    have h2 := h x (by simp)
    simp [cat] at h1 ⊢
    omega
theorem all32_take {L : List (List UInt8)} (h : All32 L) (k : Nat) : All32 (L.take k) := fun x hx => h x (List.mem_of_mem_take hx)
/-- What Writer.Hashes writes. -/
def hw (D : List (List UInt8)) : List UInt8 := K.vint D.length ++ cat D
/-- The hashes' block stays beside a Writer. -/
theorem hs_frw {p q : Nat} {g : Option Nat} {w w' : World} {D : List (List UInt8)} (hD : All32 D) (h : Hs w q 0 D) (f : K.FrW p g w w') (hq : q < w.heap.size) (h1 : q ≠ p) (h2 : some q ≠ g) : Hs w' q 0 D := fun i x e => by
  have h3 := h i x e
  intro j v hv
  have h4 := h3 j v hv
  exact (World.cell?_of_block (f.block q hq h1 h2)).trans h4

theorem WS.gone {w : World} {T : TypeId} {p q : Nat} {g : Option Nat} {M : List UInt8} {e : Int} (h : K.WS w T p g M e) (hq : w.heap.size ≤ q) : some q ≠ g := by
  obtain ⟨v, h1, h2, h3⟩ := h.ex
  intro e
  have := (World.ownsRow.lt h2 q (h3.trans e.symm)).2
  omega
theorem nw_apart {g g1 : Option Nat} {q z : Nat} (h : K.Nw g g1 z) (hq : q < z) (hg : some q ≠ g) : some q ≠ g1 := by
  rcases h with e | ⟨k, e, hk⟩
  · rw [e]; exact hg
  · rw [e]; intro h2; cases h2; omega
/-- slices.Compact at whatever length. -/
theorem compactH (g : Nat) (L : List (List UInt8)) (cap : Nat) (w : World) (hL : All32 L) (hb : L.length ≤ 4398046511104) (hcap : L.length ≤ cap) (hg : g < w.heap.size) (hs : Hs w g 0 L) (ht : w.there g 0 (32 * L.length)) :
    Calls Tryd.prog 62 #[.slice (some ⟨g, 0, none⟩) L.length cap] w fun e w' => e = .returned (.slice (some ⟨g, 0, none⟩) (dd L).length cap) ∧ Hs w' g 0 (dd L) ∧ (∀ B, B ≤ g → Below B w w') ∧ g < w'.heap.size := by
  by_cases h2 : 2 ≤ L.length
  · exact compact_any g L cap w hL h2 hb hcap hg hs ht
  · refine (compact_few (some ⟨g, 0, none⟩) L.length cap (by omega) w).mono ?_
    rintro e w' ⟨rfl, rfl⟩
    rw [dd_short (by omega)]
    exact ⟨rfl, hs, fun B _ => Below.refl _ _, hg⟩

set_option maxRecDepth 100000 in
set_option maxHeartbeats 2000000 in
theorem whashes_any {p : Nat} {g : Option Nat} {M : List UInt8} (a : Addr) (L : List (List UInt8)) (cap : Nat) (w : World) (hL : All32 L) (hb : L.length ≤ 4398046510976) (hl : Hl w (some a) L) (hw0 : K.WS w 28 p g M 0) (hsum : M.length ≤ 1000) :
    Calls Tryd.prog 18 #[.pointer (some ⟨p, 0, none⟩), .slice (some a) L.length cap] w fun x w' => x = .returned (.tuple #[]) ∧ ∃ D, Srt L D ∧ D.length ≤ L.length ∧ K.Wr w w' 28 p g (M ++ hw D) 0 := by
  have HC : Hid (Calls Tryd.prog 59 #[.slice (some a) L.length cap] w fun e w' => ∃ g cap', e = .returned (.slice (some ⟨g, 0, none⟩) L.length cap') ∧ OwnH w' w.heap.size (.slice (some ⟨g, 0, none⟩) L.length cap') L ∧ Below w.heap.size w w') := cloneH_any a L cap w hL (by omega) hl
  obtain ⟨n, hn⟩ : ∃ n, n = L.length := ⟨_, rfl⟩
  rw [← hn] at hb HC ⊢
  have HN : Hid (n = L.length) := hn
  clear hn hl
  have hlt := hw0.lt
  have HW : Hid (K.WS w 28 p g M 0) := hw0
  clear hw0
  go_enter Tryd.func18, Tryd.ntmps18
  go_wp2_with fail
  refine HC.out.mono ?_
  rintro e w1 ⟨q, cap', rfl, own1, be1⟩
  clear HC
  obtain ⟨hqB, hq1, hs1, ht1, hcap⟩ : w.heap.size ≤ q ∧ q < w1.heap.size ∧ Hs w1 q 0 L ∧ w1.there q 0 (32 * L.length) ∧ L.length ≤ cap' := by
    rcases own1.open with ⟨h1, _⟩ | ⟨g', c', h1, h6, h2, h3, h4, h5⟩
    · cases h1
    · cases h1; exact ⟨h2, h3, h4, h5, h6⟩
  have HS : Hid (Calls Tryd.prog 60 #[.slice (some ⟨q, 0, none⟩) n cap', .func (.func 61) #[] #[]] w1 fun e w' => e = .returned (.tuple #[]) ∧
      ∃ L' : List (List UInt8), L'.Perm L ∧ Rises L' ∧ Hs w' q 0 L' ∧ w'.there q 0 (32 * L.length) ∧ ∀ B, B ≤ q → Below B w1 w') := (by
    rw [HN.out]
    exact sortH_any q L cap' w1 hL (by rw [← HN.out]; omega) hq1 hs1 ht1)
  clear own1 hs1 ht1
  go_wp2_with fail
  refine HS.out.mono ?_
  rintro e w2 ⟨rfl, R, hpm, hri, hs2, ht2, hbel⟩
  have be2 : Below w.heap.size w w2 := be1.trans (hbel _ hqB)
  have hsz2 : w1.heap.size ≤ w2.heap.size := (hbel 0 (by omega)).size
  have hRn : R.length = L.length := hpm.length_eq
  have HR32 : Hid (All32 R) := fun x hx => hL x (hpm.mem_iff.1 hx)
  have HSR : Hid (Srt L (dd R)) := srt_dd hL hpm hri
  have HCo : Hid (Calls Tryd.prog 62 #[.slice (some ⟨q, 0, none⟩) n cap'] w2 fun e w' => e = .returned (.slice (some ⟨q, 0, none⟩) (dd R).length cap') ∧ Hs w' q 0 (dd R) ∧ (∀ B, B ≤ q → Below B w2 w') ∧ q < w'.heap.size) := (by
    rw [HN.out, ← hRn]
    exact compactH q R cap' w2 HR32.out (by rw [hRn, ← HN.out]; omega) (by rw [hRn]; exact hcap) (by omega) hs2 (by rw [hRn]; exact ht2))
  have hDn : (dd R).length ≤ n := (by rw [HN.out, ← hRn]; exact dd_length_le R)
  clear HS hpm hri hs2 ht2 hbel be1 hRn HR32
  generalize dd R = D at *
  go_wp2_with fail
  refine HCo.out.mono ?_
  rintro e w3 ⟨rfl, hs3, hbel, hq3⟩
  have be3 : Below w.heap.size w w3 := be2.trans (hbel _ hqB)
  have WS3 : K.WS w3 28 p g M 0 := HW.out.below be3
  have hqg : some q ≠ g := WS.gone HW.out hqB
  have hqp : q ≠ p := by omega
  have HD32 : Hid (All32 D) := HSR.out.2.1
  obtain ⟨m, hm⟩ : ∃ m, m = D.length := ⟨_, rfl⟩
  have HU : Hid (Calls Tryd.prog 27 #[.pointer (some ⟨p, 0, none⟩), .int .u64 (m : Int)] w3 fun x w' => x = .returned (.tuple #[]) ∧ K.Wr w3 w' 28 p g (M ++ K.vint m) 0) := (by
    have := K.wuint_any m (by omega) w3 WS3 (by omega)
    rwa [K.wA_0] at this)
  rw [← hm] at hDn ⊢
  have HM : Hid (m = D.length) := hm
  have HS3 : Hid (Hs w3 q 0 D) := hs3
  clear HCo hs3 hbel be2 hsz2 hm WS3 HW
  go_wp2_with fail
  refine HU.out.mono ?_
  rintro e w4 ⟨rfl, wr4⟩
  have HS4 : Hid (Hs w4 q 0 D) := (by obtain ⟨g1, _, f, _⟩ := wr4; exact hs_frw HD32.out HS3.out f hq3 hqp hqg : Hs w4 q 0 D)
  have HW4 : Hid (K.Wr w3 w4 28 p g (M ++ K.vint m) 0) := wr4
  have hlt4 : w3.heap.size ≤ w4.heap.size := by obtain ⟨g1, _, f, _⟩ := wr4; exact f.size
  clear wr4 HU HS3
  have hzs : (bs z32).size = 32 := by rw [bs_size]; rfl
  go_wp2
  go_loopw [20] (fun i wr => ∃ k : Nat, k ≤ m ∧ i = .int .i64 k ∧ Hid (K.Wr w3 wr 28 p g (M ++ (K.vint m ++ cat (D.take k))) 0) ∧ Hid (Hs wr q 0 D)) (fun i _ => m - (intOf i).toNat)
  case atStart => exact ⟨0, by omega, rfl, (by have := HW4.out; simpa [cat] using this : K.Wr w3 w4 28 p g (M ++ (K.vint m ++ cat (D.take 0))) 0), HS4.out⟩
  case round =>
    obtain ⟨k, hk, rfl, HWr, HSr⟩ := hrel
    by_cases hkm : k < m
    · have hkD : k < D.length := by rw [← HM.out]; exact hkm
      obtain ⟨x, hx⟩ : ∃ x, D[k]? = some x := ⟨_, List.getElem?_eq_getElem hkD⟩
      have hx32 := HD32.out.get hx
      have HR : Hid (wr.rangeAt q (32 * k) (hcs x)) := (by have := HSr.out k x hx; rwa [Nat.zero_add] at this : wr.rangeAt q (32 * k) (hcs x))
      have ix1 := fun wx => indexH q 0 m cap' k wx hkm
      simp only [Nat.zero_add] at ix1
      have be : Below wr.heap.size wr (wr.alloc (.cells (bs x) 36)) := (Below.refl _ _).alloc (Nat.le_refl _) _
      have HC : Hid (Calls Tryd.prog 43 #[.pointer (some ⟨p, 0, none⟩), .agg (bs x)] (wr.alloc (.cells (bs x) 36)) fun e w' => e = .returned (.tuple #[]) ∧ K.Wr w3 w' 28 p g (M ++ (K.vint m ++ cat (D.take (k + 1)))) 0 ∧ Hs w' q 0 D) := (by
        obtain ⟨g1, ws1, f1, n1⟩ := HWr.out
        have hqr : q < wr.heap.size := by have := f1.size; omega
        have hqg1 := nw_apart n1 hq3 hqg
        have hlen : (M ++ (K.vint m ++ cat (D.take k))).length ≤ 140737488355328 - 32 := by
          have h1 := cat_len (all32_take HD32.out k)
          have h2 := K.vint_10 m (by omega)
          have h3 : (D.take k).length ≤ k := by simp; omega
          simp only [List.length_append]
          omega
        refine (whash_any x hx32 _ (ws1.below be) (by omega)).mono ?_
        rintro e w' ⟨rfl, wr'⟩
        rw [K.wA_0] at wr'
        refine ⟨rfl, ?_, ?_⟩
        · rw [cat_snoc D k x hx, ← List.append_assoc (K.vint m), ← List.append_assoc M]
          exact K.Wr.step f1 n1 (K.Wr.pre be wr')
        · obtain ⟨g2, _, f2, _⟩ := wr'
          exact hs_frw HD32.out (HSr.out.below be hqr) f2 (by simp; omega) hqp hqg1)
      clear hx HWr HSr be
      go_wp2_with (first
        | (refine wpList_load_mid rfl 36 _ rfl q (32 * k) rfl (hcs x) _ HR.out Tryd.underlying36 rfl (by rw [hcs_len, hx32]; exact hsH) ?_; rw [hcs_arr])
        | (refine wpList_alloc_row rfl 36 rfl (bs z32) (hzH _) ?_)
        | (refine wpList_store_row rfl 36 _ _ rfl wr.heap.size (bs x) rfl rfl 36 (bs z32) (heap_alloc_new _ _) (by rw [bs_size, hx32]; exact hsH) (by rw [hzs, bs_size, hx32]) (bs_one _) ?_; rw [World.setRow_alloc_new])
        | (refine wpList_load_arr rfl 36 _ rfl wr.heap.size rfl 36 (bs x) (0, 0) _ (heap_alloc_new _ _) Tryd.underlying36 rfl (by rw [bs_size, hx32]; exact hsH) ?_)
        | fail)
      refine HC.out.mono ?_
      rintro e w5 ⟨rfl, hw5, hs5⟩
      have H5 : Hid (K.Wr w3 w5 28 p g (M ++ (K.vint m ++ cat (D.take (k + 1)))) 0) := hw5
      have G5 : Hid (Hs w5 q 0 D) := hs5
      clear hw5 hs5 HC HR
      go_wp2
      exact ⟨⟨k + 1, by omega, by go_num, H5, G5⟩, by simp [intOf]; omega⟩
    · obtain rfl : k = m := by omega
      have HE : Hid (K.Wr w wr 28 p g (M ++ hw D) 0) := (by
        have h1 := HWr.out
        rw [HM.out, List.take_length] at h1
        exact K.Wr.pre be3 h1)
      go_wp2
      go_end0
      exact ⟨rfl, D, HSR.out, (by rw [← HM.out]; exact hDn), HE.out⟩
end Go.Proofs.YtpalbfkkegaliabDoor

namespace Go.Proofs.YtpalbfkkegaliabDoor.K
open Go.RowKit
set_option linter.unusedVariables false
set_option linter.unusedSimpArgs false

variable {p : Nat} {g : Option Nat} {M : List UInt8} {e : Int}
theorem WS.view {w : World} {T : TypeId} (h : WS w T p g M e) : ∃ a cv, w.cell? ⟨p, 0, none⟩ = some (.slice a M.length cv) ∧ w.cell? ⟨p, 1, none⟩ = some (.int .i64 e) ∧ Byt w a M ∧ (a = none ∧ M = [] ∧ cv = 0 ∨ ∃ b, a = some ⟨b, 0, none⟩) := by
  obtain ⟨v, hq, own, hg⟩ := h.ex
  have c0 := (cell_of_row w p 0 _ _ _ hq).trans (show (#[v, .int .i64 e] : Array Value)[0]? = some v from rfl)
  have c1 := (cell_of_row w p 1 _ _ _ hq).trans (show (#[v, .int .i64 e] : Array Value)[1]? = some (.int .i64 e) from rfl)
  obtain ⟨a, cv, rfl, h1, h2, h3⟩ := own.open
  refine ⟨a, cv, c0, c1, h2, ?_⟩
  rcases own.2 with ⟨hv, hn⟩ | ⟨gg, cap, cur, hv, _⟩
  · simp only [Value.slice.injEq] at hv
    exact .inl ⟨hv.1, List.eq_nil_of_length_eq_zero hn, hv.2.2⟩
  · simp only [Value.slice.injEq] at hv
    exact .inr ⟨_, hv.1⟩
set_option maxRecDepth 100000 in
set_option maxHeartbeats 1000000 in
/-- Done, where there is no error and something was written. -/
theorem wdone0 (w : World) (hw : WS w 28 p g M 0) (hM : 0 < M.length) (hl : M.length ≤ 140737488355328) :
    Calls Tryd.prog 9 #[.pointer (some ⟨p, 0, none⟩)] w fun x w' => ∃ b cv, x = .returned (.tuple #[.slice (some ⟨b, 0, none⟩) M.length cv, .int .i64 0]) ∧ OwnB w' w.heap.size (.slice (some ⟨b, 0, none⟩) M.length cv) M ∧ Below w.heap.size w w' := by
  obtain ⟨a, cv, c0, c1, hb, ha⟩ := hw.view
  clear hw
  rcases ha with ⟨rfl, rfl, rfl⟩ | ⟨b, rfl⟩
  · simp at hM
  · have HC : Hid (Calls Tryd.prog 47 #[.slice (some ⟨b, 0, none⟩) M.length cv] w fun x w' => ∃ b cv, x = .returned (.slice (some ⟨b, 0, none⟩) M.length cv) ∧ OwnB w' w.heap.size (.slice (some ⟨b, 0, none⟩) M.length cv) M ∧ Below w.heap.size w w') := (clone_any b 0 M.length cv M w rfl hl hb).mono fun x w' h => by
      obtain ⟨v, h1, h2, h3⟩ := h
      obtain ⟨g, cap, rfl, _⟩ := h2.open1 hM
      exact ⟨g, cap, h1, h2, h3⟩
    clear hb hl
    generalize M.length = n at *
    go_enter Tryd.func9, Tryd.ntmps9
    go_wp2_with fail
    refine HC.out.mono ?_
    rintro x w1 ⟨b1, cv1, rfl, h2, h3⟩
    have H2 : Hid (OwnB w1 w.heap.size (.slice (some ⟨b1, 0, none⟩) n cv1) M) := h2
    have H3 : Hid (Below w.heap.size w w1) := h3
    clear h2 h3
    go_wp2
    go_ret2
    exact ⟨_, _, rfl, H2.out, H3.out⟩

theorem rd_of_own {w : World} {T : TypeId} {v : Value} {l : List UInt8} {base : Nat} (own : OwnB w base v l) (hl : l.length ≤ 140737488351232) :
    ∃ a cap, v = .slice a l.length cap ∧ RD (w.alloc (.cells #[.slice a l.length cap, .int .i64 0, .int .i64 0, .int .i64 0] T)) T w.heap.size a cap l ⟨0, 0, 0⟩ ∧ (∀ ad, a = some ad → base ≤ ad.block ∧ ad.block < w.heap.size) := by
  have hop : ∃ a cap, v = .slice a l.length cap ∧ l.length ≤ cap ∧ Byt w a l ∧ (∀ ad, a = some ad → ad.spot = none ∧ base ≤ ad.block ∧ ad.block < w.heap.size) := by
    rcases own.2 with ⟨rfl, hn⟩ | ⟨g, cap, cur, rfl, hbg, hg, hnc, hcm, hcs, htake⟩
    · obtain rfl : l = [] := List.eq_nil_of_length_eq_zero hn
      exact ⟨none, 0, rfl, Nat.le_refl _, .inl rfl, fun _ e => by cases e⟩
    · obtain ⟨a', cap', e, hc, hb, _⟩ := own.open
      cases e
      exact ⟨_, _, rfl, hc, hb, fun ad e => by cases e; exact ⟨rfl, hbg, (Array.getElem?_eq_some_iff.1 hg).1⟩⟩
  obtain ⟨a, cap, rfl, hcap, hb, hp⟩ := hop
  refine ⟨a, cap, rfl, ⟨heap_alloc_new _ _, hcap, byt_below hb ((Below.refl _ _).alloc (Nat.le_refl _) _), fun ad e => ⟨(hp ad e).1, by have := (hp ad e).2.2; omega⟩, Nat.zero_le _, hl⟩, fun ad e => (hp ad e).2⟩
set_option maxRecDepth 100000 in
set_option maxHeartbeats 1000000 in
theorem new_any (b off n cap : Nat) (l : List UInt8) (w : World) (hl : l.length = n) (hn : n ≤ 140737488351232) (hb : Byt w (some ⟨b, off, none⟩) l) :
    Calls Tryd.prog 11 #[.slice (some ⟨b, off, none⟩) n cap] w fun e w' => ∃ r a c, e = .returned (.pointer (some ⟨r, 0, none⟩)) ∧ RD w' 91 r a c l ⟨0, 0, 0⟩ ∧ w.heap.size ≤ r ∧ Below w.heap.size w w' := by
  have HC : Hid (Calls Tryd.prog 47 #[.slice (some ⟨b, off, none⟩) n cap] w fun e w' => ∃ v, e = .returned v ∧ OwnB w' w.heap.size v l ∧ Below w.heap.size w w') := clone_any b off n cap l w hl (by omega) hb
  clear hb
  go_enter Tryd.func11, Tryd.ntmps11
  go_wp2_with fail
  refine HC.out.mono ?_
  rintro e w1 ⟨v, rfl, own, b1⟩
  obtain ⟨a, c, rfl, rd, hp⟩ := rd_of_own (w := w1) (T := 91) own (by omega)
  have z1 := b1.size
  have HRD : Hid (RD (w1.alloc (.cells #[.slice a l.length c, .int .i64 0, .int .i64 0, .int .i64 0] 91)) 91 w1.heap.size a c l ⟨0, 0, 0⟩) := rd
  have B2 : Hid (Below w.heap.size w (w1.alloc (.cells #[.slice a l.length c, .int .i64 0, .int .i64 0, .int .i64 0] 91))) := b1.alloc (by omega) (.cells #[.slice a l.length c, .int .i64 0, .int .i64 0, .int .i64 0] 91)
  rw [hl] at HRD B2
  clear own rd hp b1
  go_wp2
  go_ret
  exact ⟨_, a, c, rfl, HRD.out, z1, B2.out⟩

/-- A number is read as it was written. -/
theorem num_vint (len k : Nat) (t : List UInt8) : ∀ (f v i acc : Nat), v ≤ f → v * 2 ^ (7 * i) < 2 ^ 63 → (0 < i → 0 < v) → numL len k (vint v ++ t) i acc = ⟨acc + v * 2 ^ (7 * i), i + (vint v).length, 0, len⟩ := by
  intro f
  induction f with
  | zero =>
    intro v i acc hf hv h0
    obtain rfl : v = 0 := by omega
    have hi : i = 0 := by omega
    subst hi
    rw [vint_lt (by omega)]
    simp [numL]
  | succ f ih =>
    intro v i acc hf hv h0
    have h9 : i = 9 → v = 0 := fun e => by
      subst e
      have : v * 2 ^ 63 < 1 * 2 ^ 63 := by simpa using hv
      have := Nat.lt_of_mul_lt_mul_right this
      omega
    by_cases h : v < 128
    · rw [vint_lt h]
      have e1 : (UInt8.ofNat v).toNat = v := by simp; omega
      simp only [List.cons_append, List.nil_append, numL, e1]
      rw [if_neg (by omega), if_pos h]
      simp
    · rw [vint_ge h]
      have e1 : (UInt8.ofNat (v % 128 + 128)).toNat = v % 128 + 128 := by simp; omega
      simp only [List.cons_append, numL, e1]
      rw [if_neg (by omega), if_neg (by omega), ih (v / 128) (i + 1) _ (by omega) ?_ (fun _ => by omega)]
      · have e2 : 2 ^ (7 * (i + 1)) = 128 * 2 ^ (7 * i) := by rw [Nat.mul_add, Nat.pow_add]; omega
        have e3 : v * 2 ^ (7 * i) = (v % 128) * 2 ^ (7 * i) + v / 128 * (128 * 2 ^ (7 * i)) := by
          rw [← Nat.mul_assoc, ← Nat.add_mul]
          congr 1
          omega
        rw [e2, e3, Nat.add_sub_cancel]
        simp only [List.length_cons, Num.mk.injEq, and_true]
        exact ⟨by omega, by omega⟩
      · have e2 : 2 ^ (7 * (i + 1)) = 128 * 2 ^ (7 * i) := by rw [Nat.mul_add, Nat.pow_add]; omega
        rw [e2, ← Nat.mul_assoc]
        exact Nat.lt_of_le_of_lt (Nat.mul_le_mul_right _ (by omega)) hv
theorem num_front (v : Nat) (hv : v ≤ 4398046510976) (t : List UInt8) : num (vint v ++ t) 0 = ⟨v, (vint v).length, 0, (vint v ++ t).length⟩ := by
  unfold num
  rw [List.drop_zero, num_vint _ _ t v v 0 0 (Nat.le_refl _) (by simp; omega) (by omega)]
  simp
end Go.Proofs.YtpalbfkkegaliabDoor.K

namespace Go.Proofs.YtpalbfkkegaliabDoor
open Go.RowKit
set_option linter.unusedVariables false
set_option linter.unusedSimpArgs false

theorem byC_bs (l : List UInt8) : K.byC l = (bs l).toList := by simp [K.byC, bs]
theorem resHashOf (tmps : Array Value) (w : World) (g : Nat) (t : TypeId) (l : List UInt8) (hl : l.length = 32) (fr : Nat × Nat) (hp : tmps.getD 2 undef = .pointer (some ⟨g, 0, none⟩)) (hg : w.heap[g]? = some (.cells (bs l) t fr)) :
    (results Tryd.f69 tmps).run Tryd.prog w = .ok (.agg (bs l)) w :=
  results_cell_row Tryd.results69 tmps w g t (bs l) fr _ hp hg Tryd.underlying36 rfl (by rw [bs_size, hl]; exact hsH)
theorem splice_all (x : List UInt8) (h : x.length = 32) : ((bs z32).toList.take 0 ++ (K.byC x ++ (bs z32).toList.drop (0 + (K.byC x).length))).toArray = bs x := by
  have e : (bs z32).toList.length = 32 := by rw [Array.length_toList, bs_size]; rfl
  rw [K.byC_len, h, List.drop_of_length_le (by omega), byC_bs]
  simp

set_option maxRecDepth 100000 in
set_option maxHeartbeats 1000000 in
theorem hashOf_any (b off n cap : Nat) (l : List UInt8) (w : World) (hl : l.length = n) (hn : 32 ≤ n) (hb : ∀ j, j < l.length → w.cell? ⟨b, off + j, none⟩ = some (.int .u8 (K.at8 l j))) (hbl : b < w.heap.size) :
    Calls Tryd.prog 69 #[.slice (some ⟨b, off, none⟩) n cap] w fun e w' => e = .returned (.agg (bs (l.take 32))) ∧ Below w.heap.size w w' := by
  have hzs : (bs z32).size = 32 := by rw [bs_size]; rfl
  obtain ⟨x, hx⟩ : ∃ x, x = l.take 32 := ⟨_, rfl⟩
  have ht : x.length = 32 := by rw [hx]; simp; omega
  rw [← hx]
  have HL : Hid ((K.byC x).length = Nat.min n 32) := (by rw [K.byC_len, ht]; exact (Nat.min_eq_right hn).symm : (K.byC x).length = Nat.min n 32)
  have bel : Below w.heap.size w ((w.alloc (.cells (bs z32) 36)).alloc (.cells (bs z32) 36)) := ((Below.refl _ _).alloc (Nat.le_refl _) _).alloc (by simp) _
  have g1 : ((w.alloc (.cells (bs z32) 36)).alloc (.cells (bs z32) 36)).heap[w.heap.size + 1]? = some (.cells (bs z32) 36 (0, 0)) := heap_alloc2_new _ _ _
  have g0 : ((w.alloc (.cells (bs z32) 36)).alloc (.cells (bs z32) 36)).heap[w.heap.size]? = some (.cells (bs z32) 36 (0, 0)) := heap_alloc2_old _ _ _
  have hsrc : Hid (∀ j v, (K.byC x)[j]? = some v → ((w.alloc (.cells (bs z32) 36)).alloc (.cells (bs z32) 36)).cell? ((⟨b, off, none⟩ : Addr).add j) = some v) := fun j v hj => by
    obtain ⟨h1, rfl⟩ := K.byC_get _ j v hj
    rw [Addr.add_mid, World.cell?_of_block (w := w) (bel.block b hbl), hb j (by omega), hx]
    congr 2
    unfold K.at8
    simp [List.getElem?_take, show j < 32 by omega]
  have hfit : Hid (0 + (K.byC x).length ≤ (bs z32).size) := (by rw [hzs, K.byC_len]; omega : 0 + (K.byC x).length ≤ (bs z32).size)
  have SP : Hid (((bs z32).toList.take 0 ++ (K.byC x ++ (bs z32).toList.drop (0 + (K.byC x).length))).toArray = bs x) := splice_all x ht
  have G0 : Hid ((((w.alloc (.cells (bs z32) 36)).alloc (.cells (bs z32) 36)).setRow (w.heap.size + 1) (bs x)).heap[w.heap.size]? = some (.cells (bs z32) 36 (0, 0))) := by show _ = _; rw [setRow_other _ _ _ _ (by omega)]; exact g0
  have G1 : Hid ((((w.alloc (.cells (bs z32) 36)).alloc (.cells (bs z32) 36)).setRow (w.heap.size + 1) (bs x)).heap[w.heap.size + 1]? = some (.cells (bs x) 36 (0, 0))) := setRow_heap _ _ _ _ _ _ g1
  have BB : Hid (Below w.heap.size w (((w.alloc (.cells (bs z32) 36)).alloc (.cells (bs z32) 36)).setRow (w.heap.size + 1) (bs x))) := bel.trans (below_setRow _ _ _ _ (by omega))
  clear hx hl hb
  go_enter Tryd.func69, Tryd.ntmps69
  go_wp2_with (first
    | (refine wpList_alloc_row rfl 36 rfl (bs z32) (hzH _) ?_)
    | (refine wpList_copy_own rfl (.tmp 4) (.tmp 5) 25 25 rfl 5 Tryd.underlying25 hsz5 (w.heap.size + 1) 0 32 32 ⟨b, off, none⟩ n cap rfl rfl (bs z32) 36 g1 (K.byC x) HL.out hsrc.out hfit.out (K.byC_one _) ?_; rw [SP.out])
    | (refine wpList_load_arr rfl 36 (.tmp 3) rfl (w.heap.size + 1) rfl 36 (bs x) (0, 0) _ G1.out Tryd.underlying36 rfl (by rw [bs_size, ht]; exact hsH) ?_)
    | (refine wpList_store_row rfl 36 (.tmp 2) (.tmp 7) rfl w.heap.size (bs x) rfl rfl 36 (bs z32) G0.out (by rw [bs_size, ht]; exact hsH) (by rw [hzs, bs_size, ht]) (bs_one _) ?_)
    | fail)
  exact bodyPost_ret (resHashOf _ _ w.heap.size 36 x ht (0, 0) rfl (setRow_heap _ _ _ _ _ _ G0.out)) rfl ⟨rfl, BB.out.trans (below_setRow _ _ _ _ (Nat.le_refl _))⟩

variable {T : TypeId} {r cap : Nat} {a : Option Addr} {L : List UInt8} {s : K.St}
set_option maxRecDepth 100000 in
set_option maxHeartbeats 2000000 in
theorem counted32 (most : Nat) (hm : most ≤ 4398046510976) (w : World) (h : K.RD w T r a cap L s) (hb : s.bad = 0) (v sz : Nat) (pl : Int) (hN : K.num L s.k = ⟨v, sz, 0, pl⟩) (hv : v ≤ most) (hlen : s.k + sz + v * 32 ≤ L.length) :
    Calls Tryd.prog 68 #[.pointer (some ⟨r, 0, none⟩), .int .i64 (most : Int), .int .i64 32] w fun e w' => e = .returned (.tuple #[.slice (K.from23 a cap (s.k + sz)) (v * 32) (cap - (s.k + sz)), .int .i64 (sz : Int), .bool true]) ∧ K.On w w' T r a cap L s := by
  have HN : Hid (Calls Tryd.prog 79 #[.pointer (some ⟨r, 0, none⟩)] w fun e w' => e = .returned (.tuple #[.int .u64 (v : Int), .int .i64 (sz : Int), .bool true]) ∧ K.On w w' T r a cap L s) := (K.number_any w h hb).mono fun e w' hx => by
    rw [hN, K.St.fl_ok] at hx
    exact hx
  have hf := h.few
  have hr := h.room
  have HL : Hid (∀ wx, K.On w wx T r a cap L s → Calls Tryd.prog 58 #[.pointer (some ⟨r, 0, none⟩)] wx fun e w' => e = .returned (.int .i64 ((L.length : Int) - (s.k : Int))) ∧ ∃ m, w' = wx.drewN m) := fun (wx : World) (hx : K.On w wx T r a cap L s) => K.cleft_any wx hx.1
  have s1 := K.sl_mid a L.length cap (s.k + sz) (s.k + sz + v * 32) ((s.k : Int) + (sz : Int)) ((s.k : Int) + (sz : Int) + (v : Int) * 32) (by omega) (by omega) (by omega) (by omega)
  have s2 := K.sl_mid' a L.length cap (s.k + sz) (s.k + sz + v * 32) ((s.k : Int) + (sz : Int)) ((s.k : Int) + (sz : Int) + (v : Int) * 32) (by omega) (by omega) (by omega) (by omega)
  rw [Nat.add_sub_cancel_left] at s1 s2
  clear h hN
  generalize K.from23 a cap (s.k + sz) = a4 at *
  generalize cap - (s.k + sz) = c4 at *
  obtain ⟨d, hd⟩ : ∃ d, d = (L.length - (s.k + sz)) / 32 := ⟨_, rfl⟩
  have tq : Int.tdiv ((L.length : Int) - (s.k : Int) - (sz : Int)) 32 = (d : Int) := by rw [Int.tdiv_eq_ediv_of_nonneg (by omega)]; omega
  have hvd : v ≤ d := by omega
  have hdL : d ≤ L.length := by omega
  have g3 : ¬ (d : Int) < (v : Int) := by omega
  clear hd
  generalize v * 32 = v32 at *
  have g1 : ¬ (most : Int) < 0 := by omega
  have g2 : ¬ (most : Int) < (v : Int) := by omega
  go_enter Tryd.func68, Tryd.ntmps68
  go_wp2_with fail
  refine HN.out.mono ?_
  rintro e w1 ⟨rfl, ho⟩
  have HON : Hid (K.On w w1 T r a cap L s) := ho
  have c0 := ho.1.c0
  have c1 := ho.1.c1
  clear ho
  go_wp2_with fail
  refine (HL.out w1 HON.out).mono ?_
  rintro e w2 ⟨rfl, m, rfl⟩
  have HON2 : Hid (K.On w (w1.drewN m) T r a cap L s) := HON.out.drew m
  go_wp2
  try (go_quiet (fail); go_wp2)
  go_ret3
  exact ⟨rfl, HON2.out⟩
end Go.Proofs.YtpalbfkkegaliabDoor

