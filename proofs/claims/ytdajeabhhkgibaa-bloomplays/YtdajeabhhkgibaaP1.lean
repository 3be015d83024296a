import Derived.Test.YtdajeabhhkgibaaKWb
import Derived.Test.YtdajeabhhkgibaaP0
import Derived.Laws.CopyOwn
import Derived.Test.YtdajeabhhkgibaaVv
import Derived.Test.YtdajeabhhkgibaaKOb
namespace Go.Proofs.Ytdajeabhhkgibaa
open Go.RowKit
set_option linter.unusedVariables false
set_option linter.unusedSimpArgs false

theorem bs_k (l : List UInt8) : K.bs l = bs l := rfl
/-- Each is less than those behind it. -/
def SRise (L : List (List UInt8)) : Prop := ∀ (i j : Nat) (x y : List UInt8), L[i]? = some x → L[j]? = some y → i < j → cmpL x y < 0
theorem SRise.tail {x : List UInt8} {r : List (List UInt8)} (h : SRise (x :: r)) : SRise r := fun i j a b ha hb hij => h (i + 1) (j + 1) a b (by simpa using ha) (by simpa using hb) (by omega)
theorem SRise.head {x y : List UInt8} {r : List (List UInt8)} (h : SRise (x :: r)) (hy : y ∈ r) : cmpL x y < 0 := by
  obtain ⟨i, hi⟩ := List.mem_iff_getElem?.1 hy
  exact h 0 (i + 1) x y rfl (by simpa using hi) (by omega)
/-- One list of what there is. -/
theorem SRise.unique : ∀ (L M : List (List UInt8)), All32 L → SRise L → SRise M → (∀ x, x ∈ L ↔ x ∈ M) → L = M
  | [], [], _, _, _, _ => rfl
  | [], y :: s, _, _, _, h => absurd ((h y).2 (by simp)) (by simp)
  | x :: r, [], _, _, _, h => absurd ((h x).1 (by simp)) (by simp)
  | x :: r, y :: s, h32, hL, hM, h => by
    have hM32 : All32 (y :: s) := fun z hz => h32 z ((h z).2 hz)
    have exy : x = y := by
      by_cases e : x = y
      · exact e
      · exfalso
        have hx : x ∈ s := (List.mem_cons.1 ((h x).1 (by simp))).resolve_left e
        have hy : y ∈ r := (List.mem_cons.1 ((h y).2 (by simp))).resolve_left (fun e' => e e'.symm)
        have h1 := hM.head hx
        have h2 := hL.head hy
        rw [cmpL_neg (h32 x (by simp)) (hM32 y (by simp))] at h1
        omega
    subst exy
    rw [SRise.unique r s (fun z hz => h32 z (by simp [hz])) hL.tail hM.tail (fun z => ?_)]
    have hxr : x ∉ r := fun hr => by have := hL.head hr; rw [cmpL_same] at this; omega
    have hxs : x ∉ s := fun hr => by have := hM.head hr; rw [cmpL_same] at this; omega
    constructor
    · intro hz
      rcases List.mem_cons.1 ((h z).1 (by simp [hz])) with rfl | h1
      · exact absurd hz hxr
      · exact h1
    · intro hz
      rcases List.mem_cons.1 ((h z).2 (by simp [hz])) with rfl | h1
      · exact absurd hz hxs
      · exact h1
theorem rises_tail {x : List UInt8} {r : List (List UInt8)} (h : Rises (x :: r)) : Rises r := fun i j a b ha hb hij => h (i + 1) (j + 1) a b (by simpa using ha) (by simpa using hb) (by omega)
theorem srise_cons {x : List UInt8} {r : List (List UInt8)} (h : SRise r) (hx : ∀ y ∈ r, cmpL x y < 0) : SRise (x :: r) := fun i j a b ha hb hij => by
  cases j with
  | zero => omega
  | succ j =>
    cases i with
    | zero =>
      simp at ha
      subst ha
      exact hx b (List.mem_of_getElem? (by simpa using hb))
    | succ i => exact h i j a b (by simpa using ha) (by simpa using hb) (by omega)
theorem lt_of_not {x y : List UInt8} (hx : x.length = 32) (hy : y.length = 32) (h : ¬ cmpL y x < 0) (hne : ¬ y = x) : cmpL x y < 0 := by
  have e := cmpL_neg hx hy
  have h0 : cmpL x y ≠ 0 := fun h0 => hne ((cmpL_zero hx hy).1 h0).symm
  omega
theorem ddF_rise : ∀ (p : List UInt8) (l : List (List UInt8)), All32 (p :: l) → Rises (p :: l) → SRise (ddF p l) ∧ ∀ y ∈ ddF p l, cmpL p y < 0
  | p, [], _, _ => ⟨fun i j x y h => by simp [ddF] at h, fun y h => by simp [ddF] at h⟩
  | p, x :: r, h32, hr => by
    have hp32 := h32 p (by simp)
    have hx32 := h32 x (by simp)
    unfold ddF
    split
    · rename_i hxp
      subst hxp
      exact ddF_rise x r (fun z hz => h32 z (List.mem_cons_of_mem _ hz)) (rises_tail hr)
    · rename_i hxp
      obtain ⟨h1, h2⟩ := ddF_rise x r (fun z hz => h32 z (List.mem_cons_of_mem _ hz)) (rises_tail hr)
      have hpx : cmpL p x < 0 := lt_of_not hp32 hx32 (hr 0 1 p x rfl rfl (by omega)) hxp
      refine ⟨srise_cons h1 h2, fun y hy => ?_⟩
      rcases List.mem_cons.1 hy with rfl | hy
      · exact hpx
      · exact lt_trans hp32 hx32 (h32 y (by have := ddF_mem x r y hy; simp [this])) hpx (h2 y hy)
theorem dd_rise {L : List (List UInt8)} (h32 : All32 L) (hr : Rises L) : SRise (dd L) := by
  cases L with
  | nil => intro i j x y h; simp [dd] at h
  | cons x r =>
    obtain ⟨h1, h2⟩ := ddF_rise x r h32 hr
    exact srise_cons h1 h2
theorem ddF_all (p : List UInt8) (l : List (List UInt8)) (x : List UInt8) : x ∈ l → x = p ∨ x ∈ ddF p l := by
  induction l generalizing p with
  | nil => simp
  | cons y r ih =>
    intro h
    simp only [ddF]
    by_cases hy : y = p
    · rw [if_pos hy]
      rcases List.mem_cons.1 h with rfl | h
      · exact .inl hy
      · exact ih p h
    · rw [if_neg hy]
      rcases List.mem_cons.1 h with rfl | h
      · exact .inr (by simp)
      · rcases ih y h with rfl | h
        · exact .inr (by simp)
        · exact .inr (by simp [h])
theorem dd_all {L : List (List UInt8)} {x : List UInt8} (h : x ∈ L) : x ∈ dd L := by
  cases L with
  | nil => exact h
  | cons y r =>
    simp only [dd]
    rcases List.mem_cons.1 h with rfl | h
    · simp
    · rcases ddF_all y r x h with rfl | h
      · simp
      · simp [h]
/-- The one rising list of the members of another. -/
def Srt (L D : List (List UInt8)) : Prop := SRise D ∧ All32 D ∧ (∀ x, x ∈ D ↔ x ∈ L)
theorem srt_dd {L M : List (List UInt8)} (hL : All32 L) (hp : M.Perm L) (hr : Rises M) : Srt L (dd M) := by
  have hM : All32 M := fun x hx => hL x (hp.mem_iff.1 hx)
  exact ⟨dd_rise hM hr, all32_dd hM, fun x => ⟨fun h => hp.mem_iff.1 (dd_mem h), fun h => dd_all (hp.mem_iff.2 h)⟩⟩
theorem dd_length_le (L : List (List UInt8)) : (dd L).length ≤ L.length := by
  have key : ∀ (l : List (List UInt8)) p, (ddF p l).length ≤ l.length := by
    intro l
    induction l with
    | nil => intro p; simp [ddF]
    | cons y r ih =>
      intro p
      simp only [ddF]
      split
      · have := ih p; simp; omega
      · have := ih y; simp; omega
  cases L with
  | nil => simp [dd]
  | cons x r => have := key r x; simp [dd]; omega
end Go.Proofs.Ytdajeabhhkgibaa

namespace Go.Proofs.Ytdajeabhhkgibaa
open Go.RowKit
set_option linter.unusedVariables false
set_option linter.unusedSimpArgs false

/-- All hashes one behind the other. -/
def cat (L : List (List UInt8)) : List UInt8 := L.flatten
theorem cat_nil : cat [] = [] := rfl
theorem cat_snoc (L : List (List UInt8)) (k : Nat) (x : List UInt8) (h : L[k]? = some x) : cat (L.take (k + 1)) = cat (L.take k) ++ x := by
  rw [List.take_add_one, h]; simp [cat]
theorem cat_len {L : List (List UInt8)} (h : All32 L) : (cat L).length = 32 * L.length := by
  induction L with
  | nil => rfl
  | cons x r ih =>
    have h1 := ih (fun z hz => h z (List.mem_cons_of_mem _ hz))
    have h2 := h x (by simp)
    simp [cat] at h1 ⊢
    omega
theorem all32_take {L : List (List UInt8)} (h : All32 L) (k : Nat) : All32 (L.take k) := fun x hx => h x (List.mem_of_mem_take hx)
/-- What Writer.Hashes writes. -/
def hw (D : List (List UInt8)) : List UInt8 := K.vint D.length ++ cat D
/-- The hashes' block stays beside a Writer. -/
theorem hs_frw {p q : Nat} {g : Option Nat} {w w' : World} {D : List (List UInt8)} (hD : All32 D) (h : Hs w q 0 D) (f : K.FrW p g w w') (hq : q < w.heap.size) (h1 : q ≠ p) (h2 : some q ≠ g) : Hs w' q 0 D := fun i x e => by
  have h3 := h i x e
  intro j v hv
  have h4 := h3 j v hv
  exact (World.cell?_of_block (f.block q hq h1 h2)).trans h4

theorem WS.gone {w : World} {T : TypeId} {p q : Nat} {g : Option Nat} {M : List UInt8} {e : Int} (h : K.WS w T p g M e) (hq : w.heap.size ≤ q) : some q ≠ g := by
  obtain ⟨v, h1, h2, h3⟩ := h.ex
  intro e
  have := (World.ownsRow.lt h2 q (h3.trans e.symm)).2
  omega
theorem nw_apart {g g1 : Option Nat} {q z : Nat} (h : K.Nw g g1 z) (hq : q < z) (hg : some q ≠ g) : some q ≠ g1 := by
  rcases h with e | ⟨k, e, hk⟩
  · rw [e]; exact hg
  · rw [e]; intro h2; cases h2; omega
end Go.Proofs.Ytdajeabhhkgibaa

namespace Go.Proofs.Ytdajeabhhkgibaa.K
open Go.RowKit
set_option linter.unusedVariables false
set_option linter.unusedSimpArgs false

variable {p : Nat} {g : Option Nat} {M : List UInt8} {e : Int}
theorem WS.view3 {w : World} {T : TypeId} (h : WS w T p g M e) : ∃ a cv, w.cell? ⟨p, 0, none⟩ = some (.slice a M.length cv) ∧ w.cell? ⟨p, 1, none⟩ = some (.int .i64 e) ∧ Byt w a M ∧ (a = none ∧ M = [] ∧ cv = 0 ∨ ∃ b, a = some ⟨b, 0, none⟩) := by
  obtain ⟨v, hq, own, hg⟩ := h.ex
  have c0 := (cell_of_row w p 0 _ _ _ hq).trans (show (#[v, .int .i64 e] : Array Value)[0]? = some v from rfl)
  have c1 := (cell_of_row w p 1 _ _ _ hq).trans (show (#[v, .int .i64 e] : Array Value)[1]? = some (.int .i64 e) from rfl)
  obtain ⟨a, cv, rfl, h1, h2, h3⟩ := own.open
  refine ⟨a, cv, c0, c1, h2, ?_⟩
  rcases own.2 with ⟨hv, hn⟩ | ⟨gg, cap, cur, hv, _⟩
  · simp only [Value.slice.injEq] at hv
    exact .inl ⟨hv.1, List.eq_nil_of_length_eq_zero hn, hv.2.2⟩
  · simp only [Value.slice.injEq] at hv
    exact .inr ⟨_, hv.1⟩
set_option maxRecDepth 100000 in
set_option maxHeartbeats 1000000 in
/-- Done, where there is no error and something was written. -/
theorem wdone3 (w : World) (hw : WS w 119 p g M 0) (hM : 0 < M.length) (hl : M.length ≤ 140737488355328) :
    Calls Try.prog 77 #[.pointer (some ⟨p, 0, none⟩)] w fun x w' => ∃ b cv, x = .returned (.tuple #[.slice (some ⟨b, 0, none⟩) M.length cv, .int .i64 0]) ∧ OwnB w' w.heap.size (.slice (some ⟨b, 0, none⟩) M.length cv) M ∧ Below w.heap.size w w' := by
  obtain ⟨a, cv, c0, c1, hb, ha⟩ := hw.view3
  clear hw
  rcases ha with ⟨rfl, rfl, rfl⟩ | ⟨b, rfl⟩
  · simp at hM
  · have HC : Hid (Calls Try.prog 105 #[.slice (some ⟨b, 0, none⟩) M.length cv] w fun x w' => ∃ b cv, x = .returned (.slice (some ⟨b, 0, none⟩) M.length cv) ∧ OwnB w' w.heap.size (.slice (some ⟨b, 0, none⟩) M.length cv) M ∧ Below w.heap.size w w') := (clone_any b 0 M.length cv M w rfl hl hb).mono fun x w' h => by
      obtain ⟨v, h1, h2, h3⟩ := h
      obtain ⟨g, cap, rfl, _⟩ := h2.open1 hM
      exact ⟨g, cap, h1, h2, h3⟩
    clear hb hl
    generalize M.length = n at *
    go_enter Try.func77, Try.ntmps77
    go_wp2_with fail
    refine HC.out.mono ?_
    rintro x w1 ⟨b1, cv1, rfl, h2, h3⟩
    have H2 : Hid (OwnB w1 w.heap.size (.slice (some ⟨b1, 0, none⟩) n cv1) M) := h2
    have H3 : Hid (Below w.heap.size w w1) := h3
    clear h2 h3
    go_wp2
    go_ret2
    exact ⟨_, _, rfl, H2.out, H3.out⟩

theorem rd_of_own3 {w : World} {T : TypeId} {v : Value} {l : List UInt8} {base : Nat} (own : OwnB w base v l) (hl : l.length ≤ 140737488351232) :
    ∃ a cap, v = .slice a l.length cap ∧ RD (w.alloc (.cells #[.slice a l.length cap, .int .i64 0, .int .i64 0, .int .i64 0] T)) T w.heap.size a cap l ⟨0, 0, 0⟩ ∧ (∀ ad, a = some ad → base ≤ ad.block ∧ ad.block < w.heap.size) := by
  have hop : ∃ a cap, v = .slice a l.length cap ∧ l.length ≤ cap ∧ Byt w a l ∧ (∀ ad, a = some ad → ad.spot = none ∧ base ≤ ad.block ∧ ad.block < w.heap.size) := by
    rcases own.2 with ⟨rfl, hn⟩ | ⟨g, cap, cur, rfl, hbg, hg, hnc, hcm, hcs, htake⟩
    · obtain rfl : l = [] := List.eq_nil_of_length_eq_zero hn
      exact ⟨none, 0, rfl, Nat.le_refl _, .inl rfl, fun _ e => by cases e⟩
    · obtain ⟨a', cap', e, hc, hb, _⟩ := own.open
      cases e
      exact ⟨_, _, rfl, hc, hb, fun ad e => by cases e; exact ⟨rfl, hbg, (Array.getElem?_eq_some_iff.1 hg).1⟩⟩
  obtain ⟨a, cap, rfl, hcap, hb, hp⟩ := hop
  refine ⟨a, cap, rfl, ⟨heap_alloc_new _ _, hcap, byt_below hb ((Below.refl _ _).alloc (Nat.le_refl _) _), fun ad e => ⟨(hp ad e).1, by have := (hp ad e).2.2; omega⟩, Nat.zero_le _, hl⟩, fun ad e => (hp ad e).2⟩
set_option maxRecDepth 100000 in
set_option maxHeartbeats 1000000 in
theorem new_any (b off n cap : Nat) (l : List UInt8) (w : World) (hl : l.length = n) (hn : n ≤ 140737488351232) (hb : Byt w (some ⟨b, off, none⟩) l) :
    Calls Try.prog 57 #[.slice (some ⟨b, off, none⟩) n cap] w fun e w' => ∃ r a c, e = .returned (.pointer (some ⟨r, 0, none⟩)) ∧ RD w' 139 r a c l ⟨0, 0, 0⟩ ∧ w.heap.size ≤ r ∧ Below w.heap.size w w' := by
  have HC : Hid (Calls Try.prog 105 #[.slice (some ⟨b, off, none⟩) n cap] w fun e w' => ∃ v, e = .returned v ∧ OwnB w' w.heap.size v l ∧ Below w.heap.size w w') := clone_any b off n cap l w hl (by omega) hb
  clear hb
  go_enter Try.func57, Try.ntmps57
  go_wp2_with fail
  refine HC.out.mono ?_
  rintro e w1 ⟨v, rfl, own, b1⟩
  obtain ⟨a, c, rfl, rd, hp⟩ := rd_of_own3 (w := w1) (T := 139) own (by omega)
  have z1 := b1.size
  have HRD : Hid (RD (w1.alloc (.cells #[.slice a l.length c, .int .i64 0, .int .i64 0, .int .i64 0] 139)) 139 w1.heap.size a c l ⟨0, 0, 0⟩) := rd
  have B2 : Hid (Below w.heap.size w (w1.alloc (.cells #[.slice a l.length c, .int .i64 0, .int .i64 0, .int .i64 0] 139))) := b1.alloc (by omega) (.cells #[.slice a l.length c, .int .i64 0, .int .i64 0, .int .i64 0] 139)
  rw [hl] at HRD B2
  clear own rd hp b1
  go_wp2
  go_ret
  exact ⟨_, a, c, rfl, HRD.out, z1, B2.out⟩

/-- A number is read as it was written. -/
theorem num_vint (len k : Nat) (t : List UInt8) : ∀ (f v i acc : Nat), v ≤ f → v * 2 ^ (7 * i) < 2 ^ 63 → (0 < i → 0 < v) → numL len k (vint v ++ t) i acc = ⟨acc + v * 2 ^ (7 * i), i + (vint v).length, 0, len⟩ := by
  intro f
  induction f with
  | zero =>
    intro v i acc hf hv h0
    obtain rfl : v = 0 := by omega
    have hi : i = 0 := by omega
    subst hi
    rw [vint_lt (by omega)]
    simp [numL]
  | succ f ih =>
    intro v i acc hf hv h0
    have h9 : i = 9 → v = 0 := fun e => by
      subst e
      have : v * 2 ^ 63 < 1 * 2 ^ 63 := by simpa using hv
      have := Nat.lt_of_mul_lt_mul_right this
      omega
    by_cases h : v < 128
    · rw [vint_lt h]
      have e1 : (UInt8.ofNat v).toNat = v := by simp; omega
      simp only [List.cons_append, List.nil_append, numL, e1]
      rw [if_neg (by omega), if_pos h]
      simp
    · rw [vint_ge h]
      have e1 : (UInt8.ofNat (v % 128 + 128)).toNat = v % 128 + 128 := by simp; omega
      simp only [List.cons_append, numL, e1]
      rw [if_neg (by omega), if_neg (by omega), ih (v / 128) (i + 1) _ (by omega) ?_ (fun _ => by omega)]
      · have e2 : 2 ^ (7 * (i + 1)) = 128 * 2 ^ (7 * i) := by rw [Nat.mul_add, Nat.pow_add]; omega
        have e3 : v * 2 ^ (7 * i) = (v % 128) * 2 ^ (7 * i) + v / 128 * (128 * 2 ^ (7 * i)) := by
          rw [← Nat.mul_assoc, ← Nat.add_mul]
          congr 1
          omega
        rw [e2, e3, Nat.add_sub_cancel]
        simp only [List.length_cons, Num.mk.injEq, and_true]
        exact ⟨by omega, by omega⟩
      · have e2 : 2 ^ (7 * (i + 1)) = 128 * 2 ^ (7 * i) := by rw [Nat.mul_add, Nat.pow_add]; omega
        rw [e2, ← Nat.mul_assoc]
        exact Nat.lt_of_le_of_lt (Nat.mul_le_mul_right _ (by omega)) hv
theorem num_front (v : Nat) (hv : v ≤ 4398046510976) (t : List UInt8) : num (vint v ++ t) 0 = ⟨v, (vint v).length, 0, (vint v ++ t).length⟩ := by
  unfold num
  rw [List.drop_zero, num_vint _ _ t v v 0 0 (Nat.le_refl _) (by simp; omega) (by omega)]
  simp
end Go.Proofs.Ytdajeabhhkgibaa.K

namespace Go.Proofs.Ytdajeabhhkgibaa
open Go.RowKit
set_option linter.unusedVariables false
set_option linter.unusedSimpArgs false

theorem byC_bs (l : List UInt8) : K.byC l = (bs l).toList := by simp [K.byC, bs]
theorem splice_all (x : List UInt8) (h : x.length = 32) : ((bs z32).toList.take 0 ++ (K.byC x ++ (bs z32).toList.drop (0 + (K.byC x).length))).toArray = bs x := by
  have e : (bs z32).toList.length = 32 := by rw [Array.length_toList, bs_size]; rfl
  rw [K.byC_len, h, List.drop_of_length_le (by omega), byC_bs]
  simp

variable {T : TypeId} {r cap : Nat} {a : Option Addr} {L : List UInt8} {s : K.St}
set_option maxRecDepth 100000 in
set_option maxHeartbeats 2000000 in
theorem counted32 (most : Nat) (hm : most ≤ 9223372036854775807) (w : World) (h : K.RD w T r a cap L s) (hb : s.bad = 0) (v sz : Nat) (pl : Int) (hN : K.num L s.k = ⟨v, sz, 0, pl⟩) (hv : v ≤ most) (hlen : s.k + sz + v * 32 ≤ L.length) :
    Calls Try.prog 111 #[.pointer (some ⟨r, 0, none⟩), .int .i64 (most : Int), .int .i64 32] w fun e w' => e = .returned (.tuple #[.slice (K.from23 a cap (s.k + sz)) (v * 32) (cap - (s.k + sz)), .int .i64 (sz : Int), .bool true]) ∧ K.On w w' T r a cap L s := by
  have HN : Hid (Calls Try.prog 108 #[.pointer (some ⟨r, 0, none⟩)] w fun e w' => e = .returned (.tuple #[.int .u64 (v : Int), .int .i64 (sz : Int), .bool true]) ∧ K.On w w' T r a cap L s) := (K.number_any w h hb).mono fun e w' hx => by
    rw [hN, K.St.fl_ok] at hx
    exact hx
  have hf := h.few
  have hr := h.room
  have HL : Hid (∀ wx, K.On w wx T r a cap L s → Calls Try.prog 122 #[.pointer (some ⟨r, 0, none⟩)] wx fun e w' => e = .returned (.int .i64 ((L.length : Int) - (s.k : Int))) ∧ ∃ m, w' = wx.drewN m) := fun (wx : World) (hx : K.On w wx T r a cap L s) => K.cleft_any wx hx.1
  have s1 := K.sl_mid a L.length cap (s.k + sz) (s.k + sz + v * 32) ((s.k : Int) + (sz : Int)) ((s.k : Int) + (sz : Int) + (v : Int) * 32) (by omega) (by omega) (by omega) (by omega)
  have s2 := K.sl_mid' a L.length cap (s.k + sz) (s.k + sz + v * 32) ((s.k : Int) + (sz : Int)) ((s.k : Int) + (sz : Int) + (v : Int) * 32) (by omega) (by omega) (by omega) (by omega)
  rw [Nat.add_sub_cancel_left] at s1 s2
  clear h hN
  generalize K.from23 a cap (s.k + sz) = a4 at *
  generalize cap - (s.k + sz) = c4 at *
  obtain ⟨d, hd⟩ : ∃ d, d = (L.length - (s.k + sz)) / 32 := ⟨_, rfl⟩
  have tq : Int.tdiv ((L.length : Int) - (s.k : Int) - (sz : Int)) 32 = (d : Int) := by rw [Int.tdiv_eq_ediv_of_nonneg (by omega)]; omega
  have hvd : v ≤ d := by omega
  have hdL : d ≤ L.length := by omega
  have g3 : ¬ (d : Int) < (v : Int) := by omega
  clear hd
  generalize v * 32 = v32 at *
  have g1 : ¬ (most : Int) < 0 := by omega
  have g2 : ¬ (most : Int) < (v : Int) := by omega
  go_enter Try.func111, Try.ntmps111
  go_wp2_with fail
  refine HN.out.mono ?_
  rintro e w1 ⟨rfl, ho⟩
  have HON : Hid (K.On w w1 T r a cap L s) := ho
  have c0 := ho.1.c0
  have c1 := ho.1.c1
  clear ho
  go_wp2_with fail
  refine (HL.out w1 HON.out).mono ?_
  rintro e w2 ⟨rfl, m, rfl⟩
  have HON2 : Hid (K.On w (w1.drewN m) T r a cap L s) := HON.out.drew m
  go_wp2
  try (go_quiet (fail); go_wp2)
  go_ret3
  exact ⟨rfl, HON2.out⟩
end Go.Proofs.Ytdajeabhhkgibaa

namespace Go.Proofs.Ytdajeabhhkgibaa
open Go.RowKit
set_option linter.unusedVariables false
set_option linter.unusedSimpArgs false

variable {T : TypeId} {r cap : Nat} {a : Option Addr}
theorem drop_past (A B : List UInt8) (k : Nat) : (A ++ B).drop (A.length + k) = B.drop k := by
  rw [← List.drop_drop, List.drop_left]
/-- What stands in the k-th place of a list of hashes. -/
theorem cat_drop {D : List (List UInt8)} (hD : All32 D) (k : Nat) (x : List UInt8) (h : D[k]? = some x) : ((cat D).drop (k * 32)).take 32 = x := by
  induction D generalizing k with
  | nil => simp at h
  | cons y t ih =>
    have hy := hD y (by simp)
    cases k with
    | zero =>
      simp at h
      subst h
      simp [cat, List.take_append, hy]
    | succ k =>
      have := ih (fun z hz => hD z (List.mem_cons_of_mem _ hz)) k (by simpa using h)
      rw [← this]
      simp only [cat, List.flatten_cons]
      rw [show (k + 1) * 32 = y.length + k * 32 by omega, drop_past]

theorem on_below {w0 wr w2 : World} {B : Nat} {L : List UInt8} {s0 s : K.St} (h0 : K.RD w0 T r a cap L s0) (h : K.On w0 wr T r a cap L s) (hb : Below B wr w2) (hB : w0.heap.size ≤ B) : K.On w0 w2 T r a cap L s := by
  have hr := h0.lt
  have hbyt : K.Byt w2 a L := by
    rcases h0.byt with e | ⟨b, off, rfl, hc⟩
    · exact .inl e
    · rcases h.1.byt with e | ⟨b', off', e, hc'⟩
      · exact .inl e
      · cases e
        refine .inr ⟨b, off, rfl, fun j hj => ?_⟩
        have hlt : b < w0.heap.size := block_lt_of_cell (hc j hj)
        exact (World.cell?_of_block (hb.block b (by omega))).trans (hc' j hj)
  exact ⟨⟨by rw [hb.block r (by omega)]; exact h.1.row, h.1.room, hbyt, h.1.plain, h.1.at_le, h.1.few⟩, ⟨hb.os.trans h.2.os, hb.tape.trans h.2.tape, hb.output.trans h.2.output, Nat.le_trans h.2.size hb.size, fun i hi hne => (hb.block i (by omega)).trans (h.2.block i hi hne)⟩⟩

end Go.Proofs.Ytdajeabhhkgibaa

namespace Go.Proofs.Ytdajeabhhkgibaa
open Go.RowKit
set_option linter.unusedVariables false
set_option linter.unusedSimpArgs false

set_option maxHeartbeats 1000000 in
/-- The reference's Compare. -/
theorem rcmp_any (a b : List UInt8) (ha : a.length = 32) (hb : b.length = 32) (w : World) :
    Calls Try.prog 97 #[.agg (bs a), .agg (bs b)] w fun e w' => e = .returned (.int .i64 (cmpL a b)) ∧ Below w.heap.size w w' := by
  have be0 : Below w.heap.size w ((w.alloc (.cells (bs a) 30)).alloc (.cells (bs b) 30)) := ((Below.refl _ _).alloc (Nat.le_refl _) _).alloc (by simp) _
  have g0 : ((w.alloc (.cells (bs a) 30)).alloc (.cells (bs b) 30)).heap[w.heap.size]? = some (.cells (bs a) 30 (0, 0)) := heap_alloc2_old _ _ _
  have g1 : ((w.alloc (.cells (bs a) 30)).alloc (.cells (bs b) 30)).heap[w.heap.size + 1]? = some (.cells (bs b) 30 (0, 0)) := heap_alloc2_new _ _ _
  go_enter Try.func97, Try.ntmps97
  go_wp2
  generalize ((w.alloc (.cells (bs a) 30)).alloc (.cells (bs b) 30)) = W0 at *
  go_loopw [5] (fun i wr => ∃ k : Nat, k ≤ 32 ∧ i = .int .i64 k ∧ Hid (∀ j, j < k → at8 a j = at8 b j) ∧ ∃ m, wr = W0.drewN m) (fun i _ => 32 - (intOf i).toNat)
  case atStart => exact ⟨0, by omega, rfl, (fun j hj => by omega : ∀ j, j < 0 → at8 a j = at8 b j), 0, rfl⟩
  case round =>
    obtain ⟨k, hk, rfl, hsame, m, rfl⟩ := hrel
    by_cases hlt : k < 32
    · have ca := (cell_of_row W0 w.heap.size k _ _ _ g0).trans (bs_get a k (by omega))
      have cb := (cell_of_row W0 (w.heap.size + 1) k _ _ _ g1).trans (bs_get b k (by omega))
      have HL := cmpL_at a b k (by omega) (by omega) hsame.out
      have HL1 : Hid ((at8 a k < at8 b k → cmpL a b = -1) ∧ (at8 b k < at8 a k → cmpL a b = 1)) := HL
      clear HL
      have hlt' : (k : Int) < 32 := by omega
      by_cases h1 : at8 a k < at8 b k
      · go_wp2
        go_quiet (fail)
        go_wp2
        go_ret
        exact ⟨ret_int (HL1.out.1 h1).symm, below_drewN (below_drewN be0 _) _⟩
      · by_cases h2 : at8 b k < at8 a k
        · go_wp2
          go_quiet (fail)
          go_wp2
          go_quiet (fail)
          go_wp2
          go_ret
          exact ⟨ret_int (HL1.out.2 h2).symm, below_drewN (below_drewN (below_drewN be0 _) _) _⟩
        · go_wp2
          go_quiet (fail)
          go_wp2
          go_quiet (fail)
          go_wp2
          refine ⟨⟨k + 1, by omega, by go_num, ?_, _, rfl⟩, by simp [intOf]; omega⟩
          show ∀ j, j < k + 1 → at8 a j = at8 b j
          intro j hj
          by_cases e : j = k
          · subst e; omega
          · exact hsame.out j (by omega)
    · have hk2 : k = 32 := by omega
      subst hk2
      have HE : Hid (cmpL a b = 0) := by
        show cmpL a b = 0
        rw [at8_ext 32 ha hb hsame.out]
        exact cmpL_same b
      go_wp2
      go_ret
      exact ⟨ret_int HE.out.symm, below_drewN be0 _⟩

/-! ### A hash put in its place -/
theorem srise_app : ∀ {A B : List (List UInt8)}, SRise A → SRise B → (∀ a ∈ A, ∀ b ∈ B, cmpL a b < 0) → SRise (A ++ B)
  | [], B, _, hB, _ => hB
  | x :: r, B, hA, hB, h => by
    rw [List.cons_append]
    refine srise_cons (srise_app hA.tail hB (fun a ha b hb => h a (by simp [ha]) b hb)) (fun y hy => ?_)
    rcases List.mem_append.1 hy with hy | hy
    · exact hA.head hy
    · exact h x (by simp) y hy
theorem srise_take {D : List (List UInt8)} (h : SRise D) (k : Nat) : SRise (D.take k) := fun i j x y hx hy hij => by
  rw [List.getElem?_take] at hx hy
  split at hx
  · split at hy
    · exact h i j x y hx hy hij
    · simp at hy
  · simp at hx
theorem srise_drop {D : List (List UInt8)} (h : SRise D) (k : Nat) : SRise (D.drop k) := fun i j x y hx hy hij => by
  rw [List.getElem?_drop] at hx hy
  exact h (k + i) (k + j) x y hx hy (by omega)
/-- Put in at a place. -/
def ins (D : List (List UInt8)) (k : Nat) (x : List UInt8) : List (List UInt8) := D.take k ++ x :: D.drop k
theorem ins_len (D : List (List UInt8)) (k : Nat) (x : List UInt8) : (ins D k x).length = D.length + 1 := by simp [ins]; omega
theorem ins_mem (D : List (List UInt8)) (k : Nat) (x y : List UInt8) : y ∈ ins D k x ↔ y ∈ D ∨ y = x := by
  have h : y ∈ D ↔ y ∈ D.take k ∨ y ∈ D.drop k := by rw [← List.mem_append, List.take_append_drop]
  simp only [ins, List.mem_append, List.mem_cons, h]
  constructor
  · rintro (h | h | h)
    · exact .inl (.inl h)
    · exact .inr h
    · exact .inl (.inr h)
  · rintro ((h | h) | h)
    · exact .inl h
    · exact .inr (.inr h)
    · exact .inr (.inl h)
theorem all32_ins {D : List (List UInt8)} (h : All32 D) (k : Nat) {x : List UInt8} (hx : x.length = 32) : All32 (ins D k x) := fun y hy => by
  rcases (ins_mem D k x y).1 hy with hy | rfl
  · exact h y hy
  · exact hx
theorem srise_ins {D : List (List UInt8)} (h32 : All32 D) (h : SRise D) {k : Nat} {x : List UInt8} (hx : x.length = 32) (hk : k ≤ D.length) (hlo : ∀ j y, j < k → D[j]? = some y → cmpL y x < 0) (hhi : ∀ y, D[k]? = some y → cmpL x y < 0) : SRise (ins D k x) := by
  have hall : ∀ y ∈ D.drop k, cmpL x y < 0 := fun y hy => by
    obtain ⟨j, hj⟩ := List.mem_iff_getElem?.1 hy
    rw [List.getElem?_drop] at hj
    have hlt := (List.getElem?_eq_some_iff.1 hj).1
    have hz : D[k]? = some D[k] := List.getElem?_eq_getElem (by omega)
    by_cases e : j = 0
    · subst e; exact hhi y (by simpa using hj)
    · exact lt_trans hx (h32.get hz) (h32.get hj) (hhi _ hz) (h k (k + j) _ y hz hj (by omega))
  have hal : ∀ y ∈ D.take k, cmpL y x < 0 := fun y hy => by
    obtain ⟨j, hj⟩ := List.mem_iff_getElem?.1 hy
    rw [List.getElem?_take] at hj
    split at hj
    · rename_i hjk; exact hlo j y hjk hj
    · simp at hj
  refine srise_app (srise_take h k) (srise_cons (srise_drop h k) hall) (fun a ha b hb => ?_)
  rcases List.mem_cons.1 hb with rfl | hb
  · exact hal a ha
  · exact lt_trans (h32 a (List.mem_of_mem_take ha)) hx (h32 b (List.mem_of_mem_drop hb)) (hal a ha) (hall b hb)
/-- The first of a list, and the next one. -/
theorem srt_next {L D E : List (List UInt8)} {k : Nat} {x : List UInt8} (hx : L[k]? = some x) (h : Srt (L.take k) D) (h1 : SRise E) (h2 : All32 E) (h3 : ∀ y, y ∈ E ↔ y ∈ D ∨ y = x) : Srt (L.take (k + 1)) E := by
  refine ⟨h1, h2, fun y => ?_⟩
  rw [h3, h.2.2, List.take_add_one, hx]
  simp
/-- What a list is while places are freed. -/
def Shf (D X : List (List UInt8)) (k : Nat) : Prop := X.length = D.length + 1 ∧ All32 X ∧ (∀ j, j < k → X[j]? = D[j]?) ∧ ∀ j, k ≤ j → j < D.length → X[j + 1]? = D[j]?
theorem shf_zero {D : List (List UInt8)} (h : All32 D) : Shf D (D ++ [z32]) D.length := ⟨by simp, all32_app h (fun x hx => by simp at hx; subst hx; exact z32_len), fun j hj => List.getElem?_append_left hj, fun j h1 h2 => by omega⟩
theorem shf_step {D X : List (List UInt8)} {k : Nat} {p : List UInt8} (h : Shf D X k) (hk : 1 ≤ k) (hkD : k ≤ D.length) (hp : D[k - 1]? = some p) (hp32 : p.length = 32) : Shf D (X.set k p) (k - 1) := by
  obtain ⟨h1, h2, h3, h4⟩ := h
  refine ⟨by simp [h1], h2.set k hp32, fun j hj => ?_, fun j hj hjD => ?_⟩
  · rw [List.getElem?_set_ne (by omega)]; exact h3 j (by omega)
  · by_cases e : j = k - 1
    · subst e
      rw [show k - 1 + 1 = k by omega, List.getElem?_set_self (by omega)]
      exact hp.symm
    · rw [List.getElem?_set_ne (by omega)]; exact h4 j (by omega) hjD
theorem shf_end {D X : List (List UInt8)} {k : Nat} {x : List UInt8} (h : Shf D X k) (hk : k ≤ D.length) : X.set k x = ins D k x := by
  obtain ⟨h1, h2, h3, h4⟩ := h
  apply List.ext_getElem?
  intro j
  unfold ins
  rcases Nat.lt_trichotomy j k with h | h | h
  · rw [List.getElem?_set_ne (by omega), List.getElem?_append_left (by simp; omega), List.getElem?_take, if_pos h]
    exact h3 j h
  · subst h
    rw [List.getElem?_set_self (by omega), List.getElem?_append_right (by simp; omega)]
    simp [Nat.min_eq_left hk]
  · rw [List.getElem?_set_ne (by omega), List.getElem?_append_right (by simp; omega)]
    have e : (D.take k).length = k := by simp; omega
    rw [e]
    obtain ⟨m, rfl⟩ : ∃ m, j = k + 1 + m := ⟨j - (k + 1), by omega⟩
    rw [show k + 1 + m - k = m + 1 by omega, List.getElem?_cons_succ, List.getElem?_drop]
    by_cases hm : k + m < D.length
    · have := h4 (k + m) (by omega) hm
      rw [show k + 1 + m = k + m + 1 by omega]
      exact this
    · rw [List.getElem?_eq_none (by omega), List.getElem?_eq_none (by omega)]

/-! ### A block of hashes of the call's own -/
def Box (w : World) (g cap : Nat) : Prop := ∃ cur, w.heap[g]? = some (.cells cur 30 (0, 0)) ∧ cur.size = cap * 32
theorem box_setCells (g cap : Nat) : ∀ (vs : List Value) (o : Nat) (w : World), Box w g cap → Box (w.setCells g o vs) g cap
  | [], _, _, h => h
  | v :: r, o, w, ⟨cur, h1, h2⟩ => box_setCells g cap r (o + 1) _ ⟨_, heap_setCell_same w g o cur _ v h1, by simp [h2]⟩
theorem Box.below {w w' : World} {g cap B : Nat} (h : Box w g cap) (hb : Below B w w') (hg : g < B) : Box w' g cap := by
  obtain ⟨cur, h1, h2⟩ := h
  exact ⟨cur, by rw [hb.block g hg]; exact h1, h2⟩
theorem Box.lt {w : World} {g cap : Nat} (h : Box w g cap) : g < w.heap.size := by
  obtain ⟨cur, h1, h2⟩ := h
  exact (Array.getElem?_eq_some_iff.1 h1).1
theorem Box.there {w : World} {g cap n : Nat} (h : Box w g cap) (hn : n ≤ cap) : w.there g 0 (32 * n) := fun j hj => by
  obtain ⟨cur, h1, h2⟩ := h
  refine ⟨?_, ?_⟩
  · rw [Nat.zero_add, cell_of_row w g j cur _ _ h1, Array.getElem?_eq_getElem (by omega)]; rfl
  · rw [Nat.zero_add]; exact frozen_of_row w g j cur _ h1
theorem OwnH.box {w : World} {base : Nat} {v : Value} {L : List (List UInt8)} (h : OwnH w base v L) (h0 : 0 < L.length) :
    ∃ g cap, v = .slice (some ⟨g, 0, none⟩) L.length cap ∧ L.length ≤ cap ∧ cap ≤ maxLen ∧ base ≤ g ∧ Box w g cap ∧ Hs w g 0 L := by
  have ho := h.open
  obtain ⟨hL, hlen, ⟨rfl, hn⟩ | ⟨g, cap, cur, rfl, hbg, hg, hnc, hcm, hcs', htake⟩⟩ := h
  · omega
  · rcases ho with ⟨h1, _⟩ | ⟨g', cap', h1, _, _, _, h5, _⟩
    · cases h1
    · cases h1
      exact ⟨g, cap, rfl, hnc, hcm, hbg, ⟨cur, hg, hcs'⟩, h5⟩
theorem ownH_mk {w : World} {base g cap : Nat} {L : List (List UInt8)} (hL : All32 L) (hb : Box w g cap) (hn : L.length ≤ cap) (hm : cap ≤ maxLen) (hg : base ≤ g) (hs : Hs w g 0 L) : OwnH w base (.slice (some ⟨g, 0, none⟩) L.length cap) L := by
  obtain ⟨cur, h1, h2⟩ := hb
  refine ⟨hL, flat_len hL, .inr ⟨g, cap, cur, rfl, hg, h1, hn, hm, h2, ?_⟩⟩
  apply List.ext_getElem?
  intro j
  by_cases hj : j < L.length * 32
  · have hx : L[j / 32]? = some L[j / 32] := List.getElem?_eq_getElem (by omega)
    have e1 := flat_get hL (j / 32) (j % 32) _ hx (by omega)
    rw [show j / 32 * 32 + j % 32 = j by omega] at e1
    have hlt : j % 32 < (hcs L[j / 32]).length := by rw [hcs_len, hL.get hx]; omega
    have e2 := hs (j / 32) _ hx (j % 32) _ (List.getElem?_eq_getElem hlt)
    rw [show 0 + 32 * (j / 32) + j % 32 = j by omega, cell_of_row w g j cur _ _ h1] at e2
    rw [e1, List.getElem?_take, if_pos hj, List.getElem?_eq_getElem hlt, ← e2]
    simp
  · rw [List.getElem?_take, if_neg hj, List.getElem?_eq_none (by rw [flat_len hL]; omega)]
end Go.Proofs.Ytdajeabhhkgibaa

namespace Go.Proofs.Ytdajeabhhkgibaa
open Go.RowKit
set_option linter.unusedVariables false
set_option linter.unusedSimpArgs false
theorem OwnH.size {w : World} {base : Nat} {v : Value} {L : List (List UInt8)} (h : OwnH w base v L) : ∃ a cap, v = .slice a L.length cap := by
  rcases h.open with ⟨rfl, rfl⟩ | ⟨g, cap, rfl, _⟩
  · exact ⟨none, 0, rfl⟩
  · exact ⟨_, _, rfl⟩

theorem int_pred {m : Nat} (h : 1 ≤ m) : Value.int .i64 ((m : Int) - 1) = .int .i64 ((m - 1 : Nat) : Int) := by
  rw [show ((m - 1 : Nat) : Int) = (m : Int) - 1 by omega]
theorem hl_one (w : World) : Hl (w.alloc (.cells (bs z32) 30)) (some ⟨w.heap.size, 0, none⟩) [z32] := by
  refine .inr ⟨w.heap.size, 0, rfl, fun i x e => ?_⟩
  have hi : i = 0 := by have := (List.getElem?_eq_some_iff.1 e).1; simp at this; omega
  subst hi
  simp at e
  subst e
  intro j v hv
  rw [Nat.mul_zero, Nat.add_zero, Nat.zero_add, cell_of_row _ w.heap.size j (bs z32) _ (0, 0) (heap_alloc_new _ _)]
  simpa [hcs] using hv

set_option maxRecDepth 100000 in
set_option maxHeartbeats 2000000 in
theorem sorted_any (a : Option Addr) (L : List (List UInt8)) (cap : Nat) (w : World) (hL : All32 L) (hb : L.length ≤ 4398046510976) (hl : Hl w a L) :
    Calls Try.prog 41 #[.slice a L.length cap] w fun e w' => ∃ v D, e = .returned v ∧ Srt L D ∧ OwnH w' w.heap.size v D ∧ Below w.heap.size w w' := by
  obtain ⟨n, hn⟩ : ∃ n, n = L.length := ⟨_, rfl⟩
  rw [← hn] at hb ⊢
  have HN : Hid (n = L.length) := hn
  have HL : Hid (Hl w a L) := hl
  clear hn hl
  have HO0 : Hid (OwnH w w.heap.size (.slice none 0 0) []) := OwnH.nil _ _
  have HS0 : Hid (Srt (L.take 0) []) := (⟨fun i j x y h => by simp at h, fun x h => by simp at h, fun x => by simp⟩ : Srt (L.take 0) [])
  go_enter Try.func41, Try.ntmps41
  go_wp2
  go_loopw [3, 4] (fun v i wr => ∃ k : Nat, ∃ D : List (List UInt8), ∃ (va : Option Addr) (vc d : Nat), k ≤ n ∧ d ≤ k ∧ i = .int .i64 k ∧ v = .slice va d vc ∧ Hid (d = D.length) ∧ Hid (OwnH wr w.heap.size (.slice va d vc) D) ∧ Hid (Srt (L.take k) D) ∧ Below w.heap.size w wr) (fun _ i _ => n - (intOf i).toNat)
  case atStart => exact ⟨0, [], none, 0, 0, by omega, by omega, rfl, rfl, rfl, HO0, HS0, Below.refl _ _⟩
  case round =>
    obtain ⟨k, D, va, vc, d, hk, hdk, rfl, rfl, HD, HOr, HSr, bel⟩ := hrel
    by_cases hkn : k < n
    · have hkL : k < L.length := by rw [← HN.out]; exact hkn
      obtain ⟨b, off, rfl, hsA⟩ := HL.out.at hkL
      obtain ⟨x, hx⟩ : ∃ x, L[k]? = some x := ⟨_, List.getElem?_eq_getElem hkL⟩
      have hx32 := hL.get hx
      have hbB : b < w.heap.size := hsA.lt hL (by omega)
      have SX0 : Hid (w.rangeAt b (off + 32 * k) (hcs x)) := hsA k x hx
      have ixL := fun wx => indexH b off n cap k wx hkn
      have HX : Hid (L[k]? = some x) := hx
      clear hx hsA
      go_wp2
      go_loopw [5] (fun i wq => ∃ t : Nat, t ≤ d ∧ i = .int .i64 t ∧ Hid (∀ j y, j < t → D[j]? = some y → cmpL y x < 0) ∧ Hid (OwnH wq w.heap.size (.slice va d vc) D) ∧ Below w.heap.size w wq) (fun i _ => d - (intOf i).toNat)
      case atStart => exact ⟨0, by omega, rfl, (fun j y hj => by omega : ∀ j y, j < 0 → D[j]? = some y → cmpL y x < 0), HOr, bel⟩
      case round =>
        clear HOr bel
        obtain ⟨t, ht, rfl, HLo, HOr, bel⟩ := hrel
        have SX : Hid (wr.rangeAt b (off + 32 * k) (hcs x)) := rangeAt_below SX0.out bel hbB
        by_cases htd : t < d
        · have htD : t < D.length := by rw [← HD.out]; exact htd
          obtain ⟨y, hy⟩ : ∃ y, D[t]? = some y := ⟨_, List.getElem?_eq_getElem htD⟩
          have hy32 := HSr.out.2.1.get hy
          obtain ⟨g, rfl, hnc, hcm, hgB, hbox, hsg⟩ : ∃ g, va = some ⟨g, 0, none⟩ ∧ d ≤ vc ∧ vc ≤ maxLen ∧ w.heap.size ≤ g ∧ Box wr g vc ∧ Hs wr g 0 D := by
            obtain ⟨g, cg, hvg, hnc, hcm, hgB, hbox, hsg⟩ := HOr.out.box (by omega)
            simp only [Value.slice.injEq] at hvg
            obtain ⟨rfl, h2, rfl⟩ := hvg
            exact ⟨g, rfl, by omega, hcm, hgB, hbox, hsg⟩
          have SY : Hid (wr.rangeAt g (32 * t) (hcs y)) := (by have := hsg t y hy; rwa [Nat.zero_add] at this : wr.rangeAt g (32 * t) (hcs y))
          have ixD := fun wx => indexH g 0 d vc t wx htd
          simp only [Nat.zero_add] at ixD
          have HY : Hid (D[t]? = some y) := hy
          have HCm : Hid (∀ wx, Calls Try.prog 97 #[.agg (bs y), .agg (bs x)] wx fun e w' => e = .returned (.int .i64 (cmpL y x)) ∧ Below wx.heap.size wx w') := fun wx => rcmp_any y x hy32 hx32 wx
          have hne : Nonempty (ExtT wr) := ExtT.some wr
          have hgl : g < wr.heap.size := hbox.lt
          clear hy hsg hbox htD
          by_cases hc : cmpL y x < 0
          · have HL2 : Hid (∀ j z, j < t + 1 → D[j]? = some z → cmpL z x < 0) := fun j z hj hz => by
              by_cases e : j = t
              · subst e; rw [HY.out] at hz; cases hz; exact hc
              · exact HLo.out j z (by omega) hz
            generalize cmpL y x = c at *
            go_wp2_with fail
            refine wp_region_ext (by kernel_rfl) (by kernel_rfl) ?_
            repeat (first
              | (go_big_quiet_want; refine quiet_load_mid 30 _ rfl g (32 * t) rfl (bs y) _ (by rintro _ ⟨e, rfl⟩; exact e.range SY.out (hcs_pos hy32)) Try.underlying30 rfl (sizeH hy32) ?_; simp only [Act.put, List.setIfInBounds_toArray, List.set_cons_zero, List.set_cons_succ]; go_big_quiet_on)
              | (go_big_quiet_want; refine quiet_load_mid 30 _ rfl b (off + 32 * k) rfl (bs x) _ (by rintro _ ⟨e, rfl⟩; exact e.range SX.out (hcs_pos hx32)) Try.underlying30 rfl (sizeH hx32) ?_; simp only [Act.put, List.setIfInBounds_toArray, List.set_cons_zero, List.set_cons_succ]; go_big_quiet_on)
              | go_big_quiet_step (first | (go_at_call 97; exact ext_of (HCm.out _)) | fail))
            refine wpQuiet_nil ?_
            rintro w3 ⟨⟨_, bl3⟩, rfl⟩
            have O3 : Hid (OwnH w3 w.heap.size (.slice (some ⟨g, 0, none⟩) d vc) D) := HOr.out.below bl3
            have bel3 : Below w.heap.size w w3 := bel.trans (bl3.mono bel.size)
            clear bl3 hne SX SY HCm hc
            go_wp2
            exact ⟨⟨t + 1, by omega, by go_num, HL2, O3, bel3⟩, by simp [intOf]; omega⟩
          · have HXY : Hid (¬ y = x → cmpL x y < 0) := fun h => lt_of_not hx32 hy32 hc h
            generalize cmpL y x = c at *
            go_wp2_with fail
            refine wp_region_ext (by kernel_rfl) (by kernel_rfl) ?_
            repeat (first
              | (go_big_quiet_want; refine quiet_load_mid 30 _ rfl g (32 * t) rfl (bs y) _ (by rintro _ ⟨e, rfl⟩; exact e.range SY.out (hcs_pos hy32)) Try.underlying30 rfl (sizeH hy32) ?_; simp only [Act.put, List.setIfInBounds_toArray, List.set_cons_zero, List.set_cons_succ]; go_big_quiet_on)
              | (go_big_quiet_want; refine quiet_load_mid 30 _ rfl b (off + 32 * k) rfl (bs x) _ (by rintro _ ⟨e, rfl⟩; exact e.range SX.out (hcs_pos hx32)) Try.underlying30 rfl (sizeH hx32) ?_; simp only [Act.put, List.setIfInBounds_toArray, List.set_cons_zero, List.set_cons_succ]; go_big_quiet_on)
              | go_big_quiet_step (first | (go_at_call 97; exact ext_of (HCm.out _)) | fail))
            refine wpQuiet_nil ?_
            rintro w3 ⟨⟨_, bl3⟩, rfl⟩
            have O3 : Hid (OwnH w3 w.heap.size (.slice (some ⟨g, 0, none⟩) d vc) D) := HOr.out.below bl3
            have bel3 : Below w.heap.size w w3 := bel.trans (bl3.mono bel.size)
            have SX3 : Hid (w3.rangeAt b (off + 32 * k) (hcs x)) := rangeAt_below SX0.out bel3 hbB
            have SY3 : Hid (w3.rangeAt g (32 * t) (hcs y)) := rangeAt_below SY.out bl3 hgl
            have eqq := fun wx => eq23 y x hy32 hx32 wx
            clear bl3 hne SX SY HCm
            have hne : Nonempty (ExtT w3) := ExtT.some w3
            by_cases hyx : y = x
            · have hd : decide (y = x) = true := by simp [hyx]
              rw [hd] at eqq
              have HE : Hid (Srt (L.take (k + 1)) D) := srt_next HX.out HSr.out HSr.out.1 HSr.out.2.1 (fun z => ⟨fun h => .inl h, fun h => h.elim id (fun e => by rw [e, ← hyx]; exact List.mem_of_getElem? HY.out)⟩)
              clear hd hyx
              go_wp2_with fail
              refine wp_region_ext (by kernel_rfl) (by kernel_rfl) ?_
              repeat (first
                | (go_big_quiet_want; refine quiet_load_mid 30 _ rfl g (32 * t) rfl (bs y) _ (by rintro _ ⟨e, rfl⟩; exact e.range SY3.out (hcs_pos hy32)) Try.underlying30 rfl (sizeH hy32) ?_; simp only [Act.put, List.setIfInBounds_toArray, List.set_cons_zero, List.set_cons_succ]; go_big_quiet_on)
                | (go_big_quiet_want; refine quiet_load_mid 30 _ rfl b (off + 32 * k) rfl (bs x) _ (by rintro _ ⟨e, rfl⟩; exact e.range SX3.out (hcs_pos hx32)) Try.underlying30 rfl (sizeH hx32) ?_; simp only [Act.put, List.setIfInBounds_toArray, List.set_cons_zero, List.set_cons_succ]; go_big_quiet_on)
                | go_big_quiet_step (fail))
              refine wpQuiet_nil ?_
              rintro w4 ⟨⟨_, bl4⟩, rfl⟩
              have OW4 : Hid (OwnH w4 w.heap.size (.slice (some ⟨g, 0, none⟩) d vc) D) := O3.out.below bl4
              have bel4 : Below w.heap.size w w4 := bel3.trans (bl4.mono bel3.size)
              clear bl4 hne O3 bel3 SX3 SY3
              go_wp2
              exact ⟨⟨k + 1, D, some ⟨g, 0, none⟩, vc, d, by omega, by omega, by go_num, rfl, HD, OW4, HE, bel4⟩, by simp [intOf]; omega⟩
            · have hd : decide (y = x) = false := by simp [hyx]
              rw [hd] at eqq
              have HHi : Hid (∀ z, D[t]? = some z → cmpL x z < 0) := fun z hz => by
                rw [HY.out] at hz
                cases hz
                exact HXY.out hyx
              clear hd hyx
              go_wp2_with fail
              refine wp_region_ext (by kernel_rfl) (by kernel_rfl) ?_
              repeat (first
                | (go_big_quiet_want; refine quiet_load_mid 30 _ rfl g (32 * t) rfl (bs y) _ (by rintro _ ⟨e, rfl⟩; exact e.range SY3.out (hcs_pos hy32)) Try.underlying30 rfl (sizeH hy32) ?_; simp only [Act.put, List.setIfInBounds_toArray, List.set_cons_zero, List.set_cons_succ]; go_big_quiet_on)
                | (go_big_quiet_want; refine quiet_load_mid 30 _ rfl b (off + 32 * k) rfl (bs x) _ (by rintro _ ⟨e, rfl⟩; exact e.range SX3.out (hcs_pos hx32)) Try.underlying30 rfl (sizeH hx32) ?_; simp only [Act.put, List.setIfInBounds_toArray, List.set_cons_zero, List.set_cons_succ]; go_big_quiet_on)
                | go_big_quiet_step (fail))
              refine wpQuiet_nil ?_
              rintro w4 ⟨⟨_, bl4⟩, rfl⟩
              have OW4 : Hid (OwnH w4 w.heap.size (.slice (some ⟨g, 0, none⟩) d vc) D) := O3.out.below bl4
              have bel4 : Below w.heap.size w w4 := bel3.trans (bl4.mono bel3.size)
              clear bl4 hne O3 bel3 SX3 SY3
              have O1 : Hid (OwnH (w4.alloc (.cells (bs z32) 30)) w.heap.size (.slice (some ⟨g, 0, none⟩) d vc) D) := OW4.out.below ((Below.refl _ _).alloc (Nat.le_refl _) _)
              have be1 : Below w.heap.size w (w4.alloc (.cells (bs z32) 30)) := bel4.alloc bel4.size _
              have B1 : Hid (Hl (w4.alloc (.cells (bs z32) 30)) (some ⟨w4.heap.size, 0, none⟩) [z32]) := hl_one w4
              have A1 : Hid (All32 [z32]) := (fun y h => by simp at h; subst h; exact z32_len : All32 [z32])
              have S1 : Hid (D.length + ([z32] : List (List UInt8)).length ≤ 4398046511104 + 4096) := (by rw [← HD.out]; simp; omega : D.length + ([z32] : List (List UInt8)).length ≤ 4398046511104 + 4096)
              have Z1 : Hid (w.heap.size ≤ (w4.alloc (.cells (bs z32) 30)).heap.size) := be1.size
              go_wp2_with (first | (at_builtin; refine wpList_appH rfl (.tmp 46) (.tmp 48) rfl w.heap.size (.slice (some ⟨g, 0, none⟩) d vc) D rfl O1.out ⟨w4.heap.size, 0, none⟩ 1 1 [z32] rfl rfl A1.out B1.out S1.out Z1.out ?_) | fail)
              intro v5 w5 own5 grow5 hv5
              have be5 : Below w.heap.size w w5 := be1.grown grow5 Z1.out (fun k hk => (World.ownsRow.lt O1.out.2 k hk).1)
              have hz5 : (D ++ [z32]).length = d + 1 := by rw [List.length_append, ← HD.out]; rfl
              obtain ⟨g5, c5, rfl, hc5, hm5, hg5, hbox5, hs5⟩ := own5.box (by omega)
              rw [hz5] at hc5 ⊢
              have HB5 : Hid (Box w5 g5 c5) := hbox5
              have HS5 : Hid (Hs w5 g5 0 (D ++ [z32])) := hs5
              have HF5 : Hid (Shf D (D ++ [z32]) d) := (by have := shf_zero HSr.out.2.1; rwa [← HD.out] at this : Shf D (D ++ [z32]) d)
              have HM5 : Hid (c5 ≤ maxLen) := hm5
              clear own5 grow5 hv5 hz5 hbox5 hs5 hm5 O1 B1 A1 S1 Z1 be1 OW4 bel4
              go_wp2
              go_loopw [6] (fun i wq => ∃ (m : Nat) (X : List (List UInt8)), t ≤ m ∧ m ≤ d ∧ i = .int .i64 m ∧ Hid (Shf D X m) ∧ Hid (Hs wq g5 0 X) ∧ Hid (Box wq g5 c5) ∧ Below w.heap.size w wq) (fun i _ => (intOf i).toNat)
              case atStart => exact ⟨d, D ++ [z32], by omega, Nat.le_refl _, by go_num, HF5, HS5, HB5, be5⟩
              case round =>
                clear HF5 HS5 HB5 be5 bel
                obtain ⟨m, X, htm, hmd, rfl, HF, HSx, HBx, bel⟩ := hrel
                by_cases hlt : t < m
                · obtain ⟨q, hq⟩ : ∃ q, D[m - 1]? = some q := ⟨_, List.getElem?_eq_getElem (by have := HD.out; omega)⟩
                  have hq32 := HSr.out.2.1.get hq
                  have SQ : Hid (wr.rangeAt g5 (32 * (m - 1)) (hcs q)) := (by have := HSx.out (m - 1) q ((HF.out.2.2.1 (m - 1) (by omega)).trans hq); rwa [Nat.zero_add] at this : wr.rangeAt g5 (32 * (m - 1)) (hcs q))
                  have ix1 : ∀ wx, (Instr.indexAt 31 (.slice (some ⟨g5, 0, none⟩) (d + 1) c5) (.int .i64 ((m : Int) - 1))).run Try.prog wx = .ok (.pointer (some ⟨g5, 32 * (m - 1), none⟩)) wx := fun wx => (by
                    have := indexH g5 0 (d + 1) c5 (m - 1) wx (by omega)
                    rwa [Nat.zero_add, show ((m - 1 : Nat) : Int) = (m : Int) - 1 by omega] at this)
                  have ix2 := fun wx => indexH g5 0 (d + 1) c5 m wx (by omega)
                  simp only [Nat.zero_add] at ix2
                  have hXl : X.length = d + 1 := by rw [HF.out.1, ← HD.out]
                  have HTm : Hid (wr.there g5 (32 * m) 32) := (by have := there_part (m := 32) (i := 32 * m) (HBx.out.there hc5) (by omega); rwa [Nat.zero_add] at this : wr.there g5 (32 * m) 32)
                  have HF2 : Hid (Shf D (X.set m q) (m - 1)) := shf_step HF.out (by omega) (by have := HD.out; omega) hq hq32
                  have HS2 : Hid (Hs (wr.setCells g5 (32 * m) (hcs q)) g5 0 (X.set m q)) := (by
                    have := Hs.set HSx.out HF.out.2.1 m q hq32 (by omega) (by rw [Nat.zero_add]; exact HTm.out)
                    rwa [Nat.zero_add] at this : Hs (wr.setCells g5 (32 * m) (hcs q)) g5 0 (X.set m q))
                  have HB2 : Hid (Box (wr.setCells g5 (32 * m) (hcs q)) g5 c5) := box_setCells g5 c5 _ _ _ HBx.out
                  have bel2 : Below w.heap.size w (wr.setCells g5 (32 * m) (hcs q)) := below_setCells bel hg5 _ _
                  clear hq HF HSx HBx hXl
                  go_wp2_with (first
                    | (refine wpList_load_mid rfl 30 _ rfl g5 (32 * (m - 1)) rfl (hcs q) _ SQ.out Try.underlying30 rfl (by rw [hcs_len, hq32]; exact hsH) ?_; rw [hcs_arr])
                    | (refine wpList_store_mid rfl 30 _ _ rfl g5 (32 * m) (bs q) rfl rfl (by rw [bs_size, hq32]; exact HTm.out) (by rw [bs_size, hq32]; exact hsH) (bs_one _) ?_)
                    | fail)
                  exact ⟨⟨m - 1, X.set m q, by omega, by omega, int_pred (by omega), HF2, HS2, HB2, bel2⟩, by simp [intOf]; omega⟩
                · obtain rfl : t = m := by omega
                  have SX5 : Hid (wr.rangeAt b (off + 32 * k) (hcs x)) := rangeAt_below SX0.out bel hbB
                  have ix2 := fun wx => indexH g5 0 (d + 1) c5 t wx (by omega)
                  simp only [Nat.zero_add] at ix2
                  have HTm : Hid (wr.there g5 (32 * t) 32) := (by have := there_part (m := 32) (i := 32 * t) (HBx.out.there hc5) (by omega); rwa [Nat.zero_add] at this : wr.there g5 (32 * t) 32)
                  have hXl : X.length = d + 1 := by rw [HF.out.1, ← HD.out]
                  have HI : Hid (X.set t x = ins D t x) := shf_end HF.out (by rw [← HD.out]; omega)
                  have hil : (ins D t x).length = d + 1 := by rw [ins_len, ← HD.out]
                  have HS2 : Hid (Hs (wr.setCells g5 (32 * t) (hcs x)) g5 0 (ins D t x)) := (by
                    have := Hs.set HSx.out HF.out.2.1 t x hx32 (by omega) (by rw [Nat.zero_add]; exact HTm.out)
                    rwa [Nat.zero_add, HI.out] at this : Hs (wr.setCells g5 (32 * t) (hcs x)) g5 0 (ins D t x))
                  have HI32 : Hid (All32 (ins D t x)) := all32_ins HSr.out.2.1 t hx32
                  have HO2 : Hid (OwnH (wr.setCells g5 (32 * t) (hcs x)) w.heap.size (.slice (some ⟨g5, 0, none⟩) (d + 1) c5) (ins D t x)) := (by
                    have := ownH_mk (base := w.heap.size) HI32.out (box_setCells g5 c5 _ _ _ HBx.out) (by rw [hil]; exact hc5) HM5.out hg5 HS2.out
                    rwa [hil] at this : OwnH (wr.setCells g5 (32 * t) (hcs x)) w.heap.size (.slice (some ⟨g5, 0, none⟩) (d + 1) c5) (ins D t x))
                  have HI1 : Hid (d + 1 = (ins D t x).length) := hil.symm
                  have HS3 : Hid (Srt (L.take (k + 1)) (ins D t x)) := srt_next HX.out HSr.out (srise_ins HSr.out.2.1 HSr.out.1 hx32 (by rw [← HD.out]; omega) HLo.out HHi.out) HI32.out (fun y => ins_mem D t x y)
                  have bel2 : Below w.heap.size w (wr.setCells g5 (32 * t) (hcs x)) := below_setCells bel hg5 _ _
                  clear HF HSx HBx hXl hil HI HS2
                  go_wp2_with (first
                    | (refine wpList_load_mid rfl 30 _ rfl b (off + 32 * k) rfl (hcs x) _ SX5.out Try.underlying30 rfl (by rw [hcs_len, hx32]; exact hsH) ?_; rw [hcs_arr])
                    | (refine wpList_store_mid rfl 30 _ _ rfl g5 (32 * t) (bs x) rfl rfl (by rw [bs_size, hx32]; exact HTm.out) (by rw [bs_size, hx32]; exact hsH) (bs_one _) ?_)
                    | fail)
                  exact ⟨⟨k + 1, ins D t x, some ⟨g5, 0, none⟩, c5, d + 1, by omega, by omega, by go_num, rfl, HI1, HO2, HS3, bel2⟩, by simp [intOf]; omega⟩
        · obtain rfl : t = d := by omega
          have hne : Nonempty (ExtT wr) := ExtT.some wr
          go_wp2_with fail
          refine wp_region_ext (by kernel_rfl) (by kernel_rfl) ?_
          repeat (go_big_quiet_step (fail))
          refine wpQuiet_nil ?_
          rintro w3 ⟨⟨_, bl3⟩, rfl⟩
          have O3 : Hid (OwnH w3 w.heap.size (.slice va t vc) D) := HOr.out.below bl3
          have bel3 : Below w.heap.size w w3 := bel.trans (bl3.mono bel.size)
          clear bl3 hne SX
          have hne : Nonempty (ExtT w3) := ExtT.some w3
          go_wp2_with fail
          refine wp_region_ext (by kernel_rfl) (by kernel_rfl) ?_
          repeat (go_big_quiet_step (fail))
          refine wpQuiet_nil ?_
          rintro w4 ⟨⟨_, bl4⟩, rfl⟩
          have OW4 : Hid (OwnH w4 w.heap.size (.slice va t vc) D) := O3.out.below bl4
          have bel4 : Below w.heap.size w w4 := bel3.trans (bl4.mono bel3.size)
          clear bl4 hne O3 bel3
          have HHi : Hid (∀ y, D[t]? = some y → cmpL x y < 0) := fun y hy => by have := (List.getElem?_eq_some_iff.1 hy).1; have := HD.out; omega
          have O1 : Hid (OwnH (w4.alloc (.cells (bs z32) 30)) w.heap.size (.slice va t vc) D) := OW4.out.below ((Below.refl _ _).alloc (Nat.le_refl _) _)
          have be1 : Below w.heap.size w (w4.alloc (.cells (bs z32) 30)) := bel4.alloc bel4.size _
          have B1 : Hid (Hl (w4.alloc (.cells (bs z32) 30)) (some ⟨w4.heap.size, 0, none⟩) [z32]) := hl_one w4
          have A1 : Hid (All32 [z32]) := (fun y h => by simp at h; subst h; exact z32_len : All32 [z32])
          have S1 : Hid (D.length + ([z32] : List (List UInt8)).length ≤ 4398046511104 + 4096) := (by rw [← HD.out]; simp; omega : D.length + ([z32] : List (List UInt8)).length ≤ 4398046511104 + 4096)
          have Z1 : Hid (w.heap.size ≤ (w4.alloc (.cells (bs z32) 30)).heap.size) := be1.size
          go_wp2_with (first | (at_builtin; refine wpList_appH rfl (.tmp 46) (.tmp 48) rfl w.heap.size (.slice va t vc) D rfl O1.out ⟨w4.heap.size, 0, none⟩ 1 1 [z32] rfl rfl A1.out B1.out S1.out Z1.out ?_) | fail)
          intro v5 w5 own5 grow5 hv5
          have be5 : Below w.heap.size w w5 := be1.grown grow5 Z1.out (fun k hk => (World.ownsRow.lt O1.out.2 k hk).1)
          have hz5 : (D ++ [z32]).length = t + 1 := by rw [List.length_append, ← HD.out]; rfl
          obtain ⟨g5, c5, rfl, hc5, hm5, hg5, hbox5, hs5⟩ := own5.box (by omega)
          rw [hz5] at hc5 ⊢
          have HB5 : Hid (Box w5 g5 c5) := hbox5
          have HS5 : Hid (Hs w5 g5 0 (D ++ [z32])) := hs5
          have HF5 : Hid (Shf D (D ++ [z32]) t) := (by have := shf_zero HSr.out.2.1; rwa [← HD.out] at this : Shf D (D ++ [z32]) t)
          have HM5 : Hid (c5 ≤ maxLen) := hm5
          clear own5 grow5 hv5 hz5 hbox5 hs5 hm5 O1 B1 A1 S1 Z1 be1 OW4 bel4
          go_wp2
          go_loopw [6] (fun i wq => ∃ (m : Nat) (X : List (List UInt8)), t ≤ m ∧ m ≤ t ∧ i = .int .i64 m ∧ Hid (Shf D X m) ∧ Hid (Hs wq g5 0 X) ∧ Hid (Box wq g5 c5) ∧ Below w.heap.size w wq) (fun i _ => (intOf i).toNat)
          case atStart => exact ⟨t, D ++ [z32], by omega, Nat.le_refl _, by go_num, HF5, HS5, HB5, be5⟩
          case round =>
            clear HF5 HS5 HB5 be5 bel
            obtain ⟨m, X, htm, hmd, rfl, HF, HSx, HBx, bel⟩ := hrel
            by_cases hlt : t < m
            · omega
            · obtain rfl : t = m := by omega
              have SX5 : Hid (wr.rangeAt b (off + 32 * k) (hcs x)) := rangeAt_below SX0.out bel hbB
              have ix2 := fun wx => indexH g5 0 (t + 1) c5 t wx (by omega)
              simp only [Nat.zero_add] at ix2
              have HTm : Hid (wr.there g5 (32 * t) 32) := (by have := there_part (m := 32) (i := 32 * t) (HBx.out.there hc5) (by omega); rwa [Nat.zero_add] at this : wr.there g5 (32 * t) 32)
              have hXl : X.length = t + 1 := by rw [HF.out.1, ← HD.out]
              have HI : Hid (X.set t x = ins D t x) := shf_end HF.out (by rw [← HD.out]; omega)
              have hil : (ins D t x).length = t + 1 := by rw [ins_len, ← HD.out]
              have HS2 : Hid (Hs (wr.setCells g5 (32 * t) (hcs x)) g5 0 (ins D t x)) := (by
                have := Hs.set HSx.out HF.out.2.1 t x hx32 (by omega) (by rw [Nat.zero_add]; exact HTm.out)
                rwa [Nat.zero_add, HI.out] at this : Hs (wr.setCells g5 (32 * t) (hcs x)) g5 0 (ins D t x))
              have HI32 : Hid (All32 (ins D t x)) := all32_ins HSr.out.2.1 t hx32
              have HO2 : Hid (OwnH (wr.setCells g5 (32 * t) (hcs x)) w.heap.size (.slice (some ⟨g5, 0, none⟩) (t + 1) c5) (ins D t x)) := (by
                have := ownH_mk (base := w.heap.size) HI32.out (box_setCells g5 c5 _ _ _ HBx.out) (by rw [hil]; exact hc5) HM5.out hg5 HS2.out
                rwa [hil] at this : OwnH (wr.setCells g5 (32 * t) (hcs x)) w.heap.size (.slice (some ⟨g5, 0, none⟩) (t + 1) c5) (ins D t x))
              have HI1 : Hid (t + 1 = (ins D t x).length) := hil.symm
              have HS3 : Hid (Srt (L.take (k + 1)) (ins D t x)) := srt_next HX.out HSr.out (srise_ins HSr.out.2.1 HSr.out.1 hx32 (by rw [← HD.out]; omega) HLo.out HHi.out) HI32.out (fun y => ins_mem D t x y)
              have bel2 : Below w.heap.size w (wr.setCells g5 (32 * t) (hcs x)) := below_setCells bel hg5 _ _
              clear HF HSx HBx hXl hil HI HS2
              go_wp2_with (first
                | (refine wpList_load_mid rfl 30 _ rfl b (off + 32 * k) rfl (hcs x) _ SX5.out Try.underlying30 rfl (by rw [hcs_len, hx32]; exact hsH) ?_; rw [hcs_arr])
                | (refine wpList_store_mid rfl 30 _ _ rfl g5 (32 * t) (bs x) rfl rfl (by rw [bs_size, hx32]; exact HTm.out) (by rw [bs_size, hx32]; exact hsH) (bs_one _) ?_)
                | fail)
              exact ⟨⟨k + 1, ins D t x, some ⟨g5, 0, none⟩, c5, t + 1, by omega, by omega, by go_num, rfl, HI1, HO2, HS3, bel2⟩, by simp [intOf]; omega⟩
    · obtain rfl : k = n := by omega
      have HE : Hid (Srt L D) := (by have := HSr.out; rwa [HN.out, List.take_length] at this : Srt L D)
      go_wp2
      go_ret
      exact ⟨_, D, rfl, HE.out, HOr.out, bel⟩
end Go.Proofs.Ytdajeabhhkgibaa

namespace Go.Proofs.Ytdajeabhhkgibaa
open Go.RowKit
set_option linter.unusedVariables false
set_option linter.unusedSimpArgs false

theorem nodup_len : ∀ (A B : List (List UInt8)), A.Nodup → (∀ x ∈ A, x ∈ B) → A.length ≤ B.length
  | [], B, _, _ => by simp
  | a :: A, B, hn, hs => by
    have hm : a ∈ B := hs a (by simp)
    rw [List.nodup_cons] at hn
    have := nodup_len A (B.erase a) hn.2 (fun x hx => by
      have hne : x ≠ a := fun e => hn.1 (by rw [← e]; exact hx)
      exact (List.mem_erase_of_ne hne).2 (hs x (by simp [hx])))
    rw [List.length_erase_of_mem hm] at this
    have hp : 0 < B.length := List.length_pos_of_mem hm
    simp only [List.length_cons]
    omega
theorem fold_keys : ∀ (L : List (List UInt8)) (E : List (List UInt8 × Value)), (E.map (·.1)).Nodup → ((L.foldl (fun E h => M.put E h (.agg #[])) E).map (·.1)).Nodup ∧ ∀ x, (M.look (L.foldl (fun E h => M.put E h (.agg #[])) E) x).isSome = true ↔ ((M.look E x).isSome = true ∨ x ∈ L)
  | [], E, hn => ⟨hn, fun x => by simp⟩
  | h :: L, E, hn => by
    have ih := fold_keys L (M.put E h (.agg #[])) (M.put_keys E h _ hn)
    refine ⟨ih.1, fun x => ?_⟩
    rw [List.foldl_cons, ih.2 x, M.put_look E h _ hn x]
    by_cases e : x = h
    · simp [e]
    · simp [e]
theorem uMap_keys (L : List (List UInt8)) : ((uMap L).map (·.1)).Nodup ∧ ∀ x, x ∈ (uMap L).map (·.1) ↔ x ∈ L := by
  have h := fold_keys L [] (by simp)
  refine ⟨h.1, fun x => ?_⟩
  have h2 := h.2 x
  have h3 : (M.look ([] : List (List UInt8 × Value)) x).isSome = false := rfl
  rw [h3] at h2
  simp only [Bool.false_eq_true, false_or] at h2
  rw [← h2]
  show _ ↔ (M.look (uMap L) x).isSome = true
  constructor
  · intro hm
    rw [List.mem_map] at hm
    obtain ⟨⟨k, v⟩, hp, rfl⟩ := hm
    have hn : ((uMap L).map (·.1)).Nodup := h.1
    show (M.look (uMap L) k).isSome = true
    rw [M.look_of_mem hn hp]
    rfl
  · intro hm
    obtain ⟨v, hv⟩ := Option.isSome_iff_exists.1 hm
    rw [List.mem_map]
    exact ⟨(x, v), M.look_mem hv, rfl⟩
theorem srise_nodup {D : List (List UInt8)} (h : SRise D) : D.Nodup := by
  rw [List.nodup_iff_pairwise_ne, List.pairwise_iff_getElem]
  intro i j hi hj hij e
  have := h i j D[i] D[j] (List.getElem?_eq_getElem hi) (List.getElem?_eq_getElem hj) hij
  rw [e, cmpL_same] at this
  omega
theorem srt_len {L D : List (List UInt8)} (h : Srt L D) : D.length = (uMap L).length := by
  obtain ⟨k1, k2⟩ := uMap_keys L
  have a := nodup_len D ((uMap L).map (·.1)) (srise_nodup h.1) (fun x hx => (k2 x).2 ((h.2.2 x).1 hx))
  have b := nodup_len ((uMap L).map (·.1)) D k1 (fun x hx => (h.2.2 x).2 ((k2 x).1 hx))
  rw [List.length_map] at a b
  omega
/-- What the document's Of answers. -/
def ROf (U : Nat) (L : List (List UInt8)) (w : World) (e : Ending) (w' : World) : Prop := ∃ q g, e = .returned (.pointer (some ⟨q, 0, none⟩)) ∧ RW w' q g (ofB U) 7 (bitAt (addL _ (ofB_pos U) 7 (fun _ => 0) L)) ∧ Below w.heap.size w w' ∧ w.heap.size ≤ g ∧ w.heap.size ≤ q
theorem ofB_end (U j : Nat) (h1 : j = 0 ∨ (64 + 8 * j - 8 < 10 * U ∧ 64 + 8 * j - 8 < 65536)) (h2 : ¬ (64 + 8 * j < 10 * U ∧ 64 + 8 * j < 65536)) : 64 + 8 * j = ofB U := by
  unfold ofB
  by_cases a : 10 * U ≤ 65536
  · rw [Nat.min_eq_right a]
    by_cases b : 10 * U ≤ 64
    · rw [Nat.max_eq_left b]; omega
    · rw [Nat.max_eq_right (by omega)]; omega
  · rw [Nat.min_eq_left (by omega), Nat.max_eq_right (by omega)]; omega
theorem ofB_8 (U : Nat) : 8 ≤ ofB U ∧ ofB U % 8 = 0 := by
  have h1 : 64 ≤ max 64 (min 65536 (10 * U)) := Nat.le_max_left _ _
  unfold ofB
  generalize max 64 (min 65536 (10 * U)) = m at *
  omega
set_option maxRecDepth 100000 in
set_option maxHeartbeats 4000000 in
/-- The document's Of. -/
theorem rof_any (a : Option Addr) (L : List (List UInt8)) (c : Nat) (w : World) (hL : All32 L) (hn : L.length ≤ 4398046510976) (hl : Hl w a L) :
    Calls Try.prog 10 #[.slice a L.length c] w (ROf (uMap L).length L w) := by
  have HU := Hid.mk' (sorted_any a L c w hL hn hl)
  have hul := uMap_len L
  have HLL := Hid.mk' (fun wx (h : Below w.heap.size w wx) => hl.below hL h)
  have HAL := Hid.mk' hL
  have HLen : Hid (∀ D, Srt L D → D.length = (uMap L).length) := fun D h => srt_len h
  clear hl hL
  generalize (uMap L).length = U at *
  have hb0 := ofB_pos U
  have hb1 := ofB_le U
  have hb8 := (ofB_8 U).1
  have hbm := (ofB_8 U).2
  have HBE := Hid.mk' (ofB_end U)
  have HE := Hid.mk' (fun W => rnew_ok (ofB U) 7 W hb8 hb1 hbm (by omega) (by omega))
  have HAD := Hid.mk' (fun q g f h W (hl : h.length = 32) (hF : RW W q g (ofB U) 7 f) => radd_any q g (ofB U) 7 f h W hl hb0 hb1 (by omega) hF)
  obtain ⟨AA, hAA⟩ : ∃ AA : List (List UInt8) → Nat → Bool, AA = fun M => bitAt (addL (ofB U) hb0 7 (fun _ => 0) M) := ⟨_, rfl⟩
  have HSN : Hid (∀ M h, AA (M ++ [h]) = onAll (AA M) (spotL h (ofB U) hb0 7)) := fun M h => by rw [hAA]; show bitAt _ = onAll (bitAt _) _; rw [addL_snoc, onAll_bits]
  have HA0 : Hid (AA [] = fun _ => false) := by show _ = _; rw [hAA]; funext n; exact bit_zero n
  have HFin : Hid (∀ q g W, RW W q g (ofB U) 7 (AA L) → Below w.heap.size w W → w.heap.size ≤ g → w.heap.size ≤ q → ROf U L w (.returned (.pointer (some ⟨q, 0, none⟩))) W) := fun q g W h1 h2 h3 h4 => by rw [hAA] at h1; exact ⟨q, g, rfl, h1, h2, h3, h4⟩
  clear hAA hbm
  go_enter Try.func10, Try.ntmps10
  go_wp2_with (first
    | (go_at_call 41; refine HU.out.mono ?_; rintro e W1 ⟨v, D, rfl, hsrt, hown, b1⟩; obtain ⟨va, vc, rfl⟩ := OwnH.size hown; rw [HLen.out D hsrt]; have B1 := Hid.mk' b1; clear b1 hsrt hown)
    | fail)
  clear HU HLen
  go_loopw [4] (fun b wr => ∃ j : Nat, b = .int .i64 ((64 + 8 * j : Nat) : Int) ∧ j ≤ 8184 ∧ wr = W1 ∧ Hid (j = 0 ∨ (64 + 8 * j - 8 < 10 * U ∧ 64 + 8 * j - 8 < 65536))) (fun b _ => 65536 - (intOf b).toNat)
  case atStart => exact ⟨0, rfl, by omega, rfl, .inl rfl⟩
  case round =>
    obtain ⟨j, rfl, hj, rfl, HJ⟩ := hrel
    by_cases h1 : 64 + 8 * j < 10 * U ∧ 64 + 8 * j < 65536
    · have k1 : ((64 + 8 * j : Nat) : Int) < 10 * (U : Int) := by omega
      have k2 : ((64 + 8 * j : Nat) : Int) < 65536 := by omega
      have HJ2 : Hid (j + 1 = 0 ∨ (64 + 8 * (j + 1) - 8 < 10 * U ∧ 64 + 8 * (j + 1) - 8 < 65536)) := .inr (by omega)
      have hj2 : j + 1 ≤ 8184 := by omega
      have he : ((64 + 8 * (j + 1) : Nat) : Int) = ((64 + 8 * j : Nat) : Int) + 8 := by omega
      have HE8 := Hid.mk' he
      clear h1 HJ he
      generalize hbb : 64 + 8 * j = bb at *
      have HBB := Hid.mk' hbb
      clear hbb
      go_wp2
      go_roundw
      case rel => exact ⟨j + 1, by rw [HE8.out], hj2, trivial, HJ2⟩
      case measure => simp [intOf]; omega
    · have hEnd := HBE.out j HJ.out h1
      have k12 : ¬ ((ofB U : Nat) : Int) < 10 * (U : Int) ∨ ¬ ((ofB U : Nat) : Int) < 65536 := by rw [← hEnd]; omega
      rw [hEnd]
      have HNew := Hid.mk' (HE.out wr)
      have HW1 := Hid.mk' B1.out.size
      clear h1 HJ hEnd HBE hj HE
      generalize ofB U = bits at *
      generalize hnn : L.length = n at *
      have HNN := Hid.mk' hnn
      clear hnn
      by_cases k1 : ((bits : Nat) : Int) < 10 * (U : Int)
      · have k2 : ¬ ((bits : Nat) : Int) < 65536 := by omega
        clear k12
        go_wp2_with (first
          | (go_at_call 19; refine HNew.out.mono ?_; rintro e W2 ⟨rfl, rw2, b2, s2⟩; have R2 := Hid.mk' rw2; have B2 := Hid.mk' (B1.out.trans (b2.mono B1.out.size)); clear rw2 b2 s2)
          | fail)
        have H0 : Hid (RW W2 (wr.heap.size + 1) wr.heap.size bits 7 (AA (L.take 0))) := by rw [List.take_zero, HA0.out]; exact R2
        clear HNew B1 R2 k1
        generalize wr.heap.size = g at *
        go_loopw [7] (fun i wq => ∃ k : Nat, k ≤ n ∧ i = .int .i64 (k : Int) ∧ Hid (RW wq (g + 1) g bits 7 (AA (L.take k))) ∧ Hid (Below w.heap.size w wq)) (fun i _ => n - (intOf i).toNat)
        case atStart => exact ⟨0, by omega, rfl, H0, B2⟩
        case round =>
          clear H0 B2
          obtain ⟨k, hk, rfl, HF, HW⟩ := hrel
          by_cases hkn : k < n
          · have hkn' : (k : Int) < (n : Int) := by omega
            obtain ⟨b, off, rfl, hs⟩ := (HLL.out _ HW.out).at (i := k) (by rw [HNN.out]; exact hkn)
            obtain ⟨h, hh⟩ : ∃ h, L[k]? = some h := ⟨L[k]'(by rw [HNN.out]; exact hkn), List.getElem?_eq_getElem _⟩
            have HRA := Hid.mk' (hs k h hh)
            have HH := Hid.mk' (HAL.out.get hh)
            have ix := fun wx => indexH b off n c k wx hkn
            have HS : Hid (AA (L.take (k + 1)) = onAll (AA (L.take k)) (spotL h bits hb0 7)) := by show _ = _; rw [List.take_add_one, hh, Option.toList, HSN.out]
            have HC := Hid.mk' (HAD.out (g + 1) g (AA (L.take k)) h _ HH.out HF.out)
            clear hs hh
            go_wp2_with (first
              | (with_reducible refine at_ld ?_; refine wpList_ld (.tmp 35) rfl rfl b (off + 32 * k) rfl h HH.out HRA.out ?_)
              | (go_at_call 13; refine HC.out.mono ?_; rintro e W3 ⟨rfl, f3, k3⟩; have F3 : Hid (RW W3 (g + 1) g bits 7 (AA (L.take (k + 1)))) := (by rw [HS.out]; exact f3); have B3 := Hid.mk' (k3.toBelow HW.out HW.out.size HW1.out); clear f3 k3)
              | fail)
            exact ⟨⟨k + 1, by omega, by go_num, F3, B3⟩, by simp [intOf]; omega⟩
          · obtain rfl : k = n := by omega
            have hkn' : ¬ (k : Int) < (k : Int) := by omega
            have HF2 : Hid (RW wr (g + 1) g bits 7 (AA L)) := by have := HF.out; rw [← HNN.out, List.take_length] at this; exact this
            have HR := Hid.mk' (HFin.out (g + 1) g _ HF2.out HW.out HW1.out (by have := HW1.out; omega))
            clear HF HF2
            go_wp2
            go_ret
            exact HR.out
      · clear k12
        go_wp2_with (first
          | (go_at_call 19; refine HNew.out.mono ?_; rintro e W2 ⟨rfl, rw2, b2, s2⟩; have R2 := Hid.mk' rw2; have B2 := Hid.mk' (B1.out.trans (b2.mono B1.out.size)); clear rw2 b2 s2)
          | fail)
        have H0 : Hid (RW W2 (wr.heap.size + 1) wr.heap.size bits 7 (AA (L.take 0))) := by rw [List.take_zero, HA0.out]; exact R2
        clear HNew B1 R2 k1
        generalize wr.heap.size = g at *
        go_loopw [7] (fun i wq => ∃ k : Nat, k ≤ n ∧ i = .int .i64 (k : Int) ∧ Hid (RW wq (g + 1) g bits 7 (AA (L.take k))) ∧ Hid (Below w.heap.size w wq)) (fun i _ => n - (intOf i).toNat)
        case atStart => exact ⟨0, by omega, rfl, H0, B2⟩
        case round =>
          clear H0 B2
          obtain ⟨k, hk, rfl, HF, HW⟩ := hrel
          by_cases hkn : k < n
          · have hkn' : (k : Int) < (n : Int) := by omega
            obtain ⟨b, off, rfl, hs⟩ := (HLL.out _ HW.out).at (i := k) (by rw [HNN.out]; exact hkn)
            obtain ⟨h, hh⟩ : ∃ h, L[k]? = some h := ⟨L[k]'(by rw [HNN.out]; exact hkn), List.getElem?_eq_getElem _⟩
            have HRA := Hid.mk' (hs k h hh)
            have HH := Hid.mk' (HAL.out.get hh)
            have ix := fun wx => indexH b off n c k wx hkn
            have HS : Hid (AA (L.take (k + 1)) = onAll (AA (L.take k)) (spotL h bits hb0 7)) := by show _ = _; rw [List.take_add_one, hh, Option.toList, HSN.out]
            have HC := Hid.mk' (HAD.out (g + 1) g (AA (L.take k)) h _ HH.out HF.out)
            clear hs hh
            go_wp2_with (first
              | (with_reducible refine at_ld ?_; refine wpList_ld (.tmp 35) rfl rfl b (off + 32 * k) rfl h HH.out HRA.out ?_)
              | (go_at_call 13; refine HC.out.mono ?_; rintro e W3 ⟨rfl, f3, k3⟩; have F3 : Hid (RW W3 (g + 1) g bits 7 (AA (L.take (k + 1)))) := (by rw [HS.out]; exact f3); have B3 := Hid.mk' (k3.toBelow HW.out HW.out.size HW1.out); clear f3 k3)
              | fail)
            exact ⟨⟨k + 1, by omega, by go_num, F3, B3⟩, by simp [intOf]; omega⟩
          · obtain rfl : k = n := by omega
            have hkn' : ¬ (k : Int) < (k : Int) := by omega
            have HF2 : Hid (RW wr (g + 1) g bits 7 (AA L)) := by have := HF.out; rw [← HNN.out, List.take_length] at this; exact this
            have HR := Hid.mk' (HFin.out (g + 1) g _ HF2.out HW.out HW1.out (by have := HW1.out; omega))
            clear HF HF2
            go_wp2
            go_ret
            exact HR.out
end Go.Proofs.Ytdajeabhhkgibaa

namespace Go.Proofs.Ytdajeabhhkgibaa.K
open Go.RowKit
set_option linter.unusedVariables false
set_option linter.unusedSimpArgs false

/-- Values of one cell that lie in memory. -/
def Vals (w : World) (a : Option Addr) (X : List Value) : Prop := X = [] ∨ ∃ b off, a = some ⟨b, off, none⟩ ∧ ∀ j u, X[j]? = some u → w.cell? ⟨b, off + j, none⟩ = some u
/-- A row of the call's own. -/
def OwnV (w : World) (base : Nat) (e : TypeId) (v : Value) (X : List Value) : Prop := w.ownsRow base e 1 v X.length X
theorem Vals.below {w w' : World} {a : Option Addr} {X : List Value} (h : Vals w a X) (hb : Below w.heap.size w w') : Vals w' a X := by
  rcases h with rfl | ⟨b, off, rfl, hc⟩
  · exact .inl rfl
  · exact .inr ⟨b, off, rfl, fun j u hj => (hb.cell (p := ⟨b, off + j, none⟩) (block_lt_of_cell (hc j u hj))).trans (hc j u hj)⟩
theorem OwnV.below {w w' : World} {base : Nat} {e : TypeId} {v : Value} {X : List Value} (h : OwnV w base e v X) (hb : Below w.heap.size w w') : OwnV w' base e v X := by
  refine ⟨h.1, ?_⟩
  rcases h.2 with hn | ⟨g, cap, cur, rfl, hbg, hg, rest⟩
  · exact .inl hn
  · exact .inr ⟨g, cap, cur, rfl, hbg, by rw [hb.block g (Array.getElem?_eq_some_iff.1 hg).1]; exact hg, rest⟩
theorem OwnV.open {w : World} {base : Nat} {e : TypeId} {v : Value} {X : List Value} (h : OwnV w base e v X) :
    ∃ a cap, v = .slice a X.length cap ∧ X.length ≤ cap ∧ Vals w a X ∧ (a = none → X = [] ∧ cap = 0) := by
  rcases h.2 with ⟨rfl, hn⟩ | ⟨g, cap, cur, rfl, hbg, hg, hnc, hcm, hcs, htake⟩
  · obtain rfl : X = [] := List.eq_nil_of_length_eq_zero hn
    exact ⟨none, 0, rfl, Nat.le_refl _, .inl rfl, fun _ => ⟨rfl, rfl⟩⟩
  · refine ⟨some ⟨g, 0, none⟩, cap, rfl, hnc, .inr ⟨g, 0, rfl, fun j u hj => ?_⟩, fun h => by cases h⟩
    rw [Nat.zero_add, cell_of_row w g j cur e (0, 0) hg]
    rw [← htake, List.getElem?_take] at hj
    split at hj
    · simpa using hj
    · cases hj
theorem app_at {P : Program} (w : World) (base : Nat) (t ty e : TypeId) (i : TypeInfo) (z : Value) (size bytes : Nat) (ht : P.underlying t = some (.slice e)) (hi : P.info? e = some i) (hz : i.zero = some z)
    (hsize : i.size = size) (hby : i.bytes = bytes) (hzs : z.cells.size = size) (hsz : 0 < size) (v : Value) (n : Nat) (xs : List Value) (hown : w.ownsRow base e size v n xs)
    (a : Addr) (m c : Nat) (news : List Value) (hl : news.length = m * size) (hnews : ∀ j u, news[j]? = some u → w.cell? (a.add j) = some u) (h1 : ∀ u ∈ news, u.oneCell' = true)
    (h63 : n + m ≤ maxLen) (hbytes : ((n + m) + (n + m) / 4 + 192) * bytes ≤ 281474976710656) (hbase : base ≤ w.heap.size) :
    ∃ v' w', (Builtin.append_ #[t, t] ty #[v, .slice (some a) m c]).run P w = .ok v' w' ∧ w'.ownsRow base e size v' (n + m) (xs ++ news) ∧ w.grownBy w' v.ownBlock ∧ (v'.ownBlock = v.ownBlock ∨ v'.ownBlock = some w.heap.size) := by
  obtain ⟨v', w', hr, h2, h3, h4⟩ := run_append_own_wide (P := P) w base t ty e i z size bytes ht hi hz hsize hby hzs hsz v n xs hown a m c news hl hnews h1 h63 hbytes hbase
  refine ⟨v', w', hr, h2, h3, ?_⟩
  have hx := hown.1
  subst hsize
  subst hby
  have hbig : n + m ≤ 9223372036854775807 := by simp only [maxLen] at h63; omega
  rcases hown.2 with ⟨rfl, rfl⟩ | ⟨g, cap, cur, rfl, hbg, hg, hnc, hcm, hcs, htake⟩
  · by_cases hm : m = 0
    · left; rw [(h4.2 ⟨rfl, hm⟩)]
    · have hk := run_append_nil (P := P) w t ty e i z ht hi hz a m c news hl hnews (by omega) (by omega) (Nat.le_trans (Nat.mul_le_mul_right _ (by omega)) hbytes)
      rw [hr] at hk
      simp only [Result.ok.injEq] at hk
      rw [hk.1]
      exact .inr rfl
  · by_cases hroom : n + m ≤ cap
    · have hk := run_append_room (P := P) w t ty e i ht hi g n cap cur hg a m c news hl hnews h1 hroom (by rw [hl, hcs, ← Nat.add_mul]; exact Nat.mul_le_mul_right _ hroom)
      rw [hr] at hk
      simp only [Result.ok.injEq] at hk
      rw [hk.1]
      exact .inl rfl
    · have hk := run_append_grow (P := P) w t ty e i z ht hi hz ⟨g, 0, none⟩ n cap xs hx (hown.cells (g := g) rfl) a m c news hl hnews (by omega) (by omega) (growslice_fits_wide (by omega) hbytes)
      rw [hr] at hk
      simp only [Result.ok.injEq] at hk
      rw [hk.1]
      exact .inr rfl

theorem run_appV (T e : TypeId) (z : Value) (ht : Try.prog.underlying T = some (.slice e)) (hi : (Try.prog.info? e).map (fun i => (i.zero, i.size, i.bytes)) = some (some z, 1, 8)) (hz1 : z.cells.size = 1)
    (w : World) (base : Nat) (ty : TypeId) (v : Value) (L : List Value) (a : Option Addr) (M : List Value) (c : Nat) (hown : OwnV w base e v L) (hb : Vals w a M) (h1 : ∀ u ∈ M, u.oneCell' = true)
    (h : L.length + M.length ≤ 28000000000000) (hbase : base ≤ w.heap.size) :
    ∃ v' w', (Builtin.append_ #[T, T] ty #[v, .slice a M.length c]).run Try.prog w = .ok v' w' ∧ OwnV w' base e v' (L ++ M) ∧ w.grownBy w' v.ownBlock ∧ (v'.ownBlock = v.ownBlock ∨ v'.ownBlock = some w.heap.size) := by
  obtain ⟨i, hi, hz, hs, hby⟩ := info_parts hi
  cases a with
  | some ad =>
    have hnews : ∀ j u, M[j]? = some u → w.cell? (ad.add j) = some u := fun j u hj => by
      rcases hb with rfl | ⟨b, off, e, hc⟩
      · simp at hj
      · cases e
        rw [Addr.add_mid]
        exact hc j u hj
    obtain ⟨v', w', hr, h2, h3, h5⟩ := app_at (P := Try.prog) w base T ty e i z 1 8 ht hi hz hs hby hz1 (by decide) v L.length L hown ad M.length c M (by omega) hnews h1 (by unfold maxLen; omega) (by omega) hbase
    refine ⟨v', w', hr, ?_, h3, h5⟩
    unfold OwnV
    rw [List.length_append]
    exact h2
  | none =>
    obtain rfl : M = [] := by
      rcases hb with rfl | ⟨b, off, e, _⟩
      · rfl
      · cases e
    rcases hown.2 with ⟨rfl, hn⟩ | ⟨g, cap, cur, rfl, hbg, hg, hnc, rest⟩
    · refine ⟨.slice none 0 0, w, ?_, by rw [List.append_nil]; exact hown, ⟨rfl, rfl, rfl, Nat.le_refl _, fun _ _ _ => rfl⟩, .inl rfl⟩
      simp [Builtin.append_, run_underlying ht, sizeOf, typeInfo, hi, Builtin.lenOf, Builtin.firstCells, loadCells, loadCellsFrom]
    · refine ⟨.slice (some ⟨g, 0, none⟩) L.length cap, w, ?_, by rw [List.append_nil]; exact hown, ⟨rfl, rfl, rfl, Nat.le_refl _, fun _ _ _ => rfl⟩, .inl rfl⟩
      simp [Builtin.append_, run_underlying ht, sizeOf, typeInfo, hi, Builtin.lenOf, Builtin.firstCells, hnc, storeCells]
theorem wpList_appV {ops : Array Oper} {rest : List Oper} {o : Oper} {a : Act} {w : World} {Q : Exit → Act → World → Prop} (hgd : o.guard = none) (s x : Operand) (T e : TypeId) (z : Value) (ht : Try.prog.underlying T = some (.slice e)) (hi : (Try.prog.info? e).map (fun i => (i.zero, i.size, i.bytes)) = some (some z, 1, 8)) (hz1 : z.cells.size = 1)
    (ho : o.op = .call { callee := .builtin .append, args := #[s, x], argTypes := #[T, T] }) (base : Nat) (v : Value) (L : List Value) (hs : a.eval s = v) (hown : OwnV w base e v L)
    (aa : Option Addr) (m c : Nat) (M : List Value) (hx : a.eval x = .slice aa m c) (hm : M.length = m) (hb : Vals w aa M) (h1 : ∀ u ∈ M, u.oneCell' = true) (hlen : L.length + M.length ≤ 28000000000000) (hbase : base ≤ w.heap.size)
    (h : ∀ v' w', OwnV w' base e v' (L ++ M) → w.grownBy w' v.ownBlock → (v'.ownBlock = v.ownBlock ∨ v'.ownBlock = some w.heap.size) → wpList Try.prog ops Q rest (a.put o.dst v') w') : wpList Try.prog ops Q (o :: rest) a w :=
  wpList_plain hgd fun _ hK => by
    subst hm
    obtain ⟨v', w', hr, h2, h3, h4⟩ := run_appV T e z ht hi hz1 w base o.type v L aa M c hown hb h1 hlen hbase
    unfold Oper.wp execOp
    simp only [ho, resolve, invoke, builtin, Sem.run_bind, Sem.run_pure, Result.andThen_ok, List.map_toArray, List.map_cons, List.map_nil, hs, hx, hr]
    exact hK _ _ (h v' w' h2 h3 h4)
theorem vals_lit (w : World) (x : Value) (t : TypeId) : Vals (w.alloc (.cells #[x] t)) (some ⟨w.heap.size, 0, none⟩) [x] :=
  .inr ⟨w.heap.size, 0, rfl, fun j u hj => by
    have hl := (List.getElem?_eq_some_iff.1 hj).1
    obtain rfl : j = 0 := by simp at hl; omega
    rw [cell_of_row _ w.heap.size 0 _ _ _ (heap_alloc_new _ _)]
    simpa using hj⟩
theorem ownV_empty (w : World) (e : TypeId) : OwnV (w.alloc (.cells #[] e)) w.heap.size e (.slice (some ⟨w.heap.size, 0, none⟩) 0 0) [] :=
  ⟨rfl, .inr ⟨w.heap.size, 0, #[], rfl, Nat.le_refl _, heap_alloc_new _ _, by simp, by simp [maxLen], rfl, rfl⟩⟩
theorem ownV_nil (w : World) (base : Nat) (e : TypeId) : OwnV w base e (.slice none 0 0) [] := World.ownsRow_nil w base e 1
theorem below_ownV {w w1 w2 : World} {base : Nat} {e : TypeId} {v : Value} {L : List Value} (hb : Below base w w1) (ho : OwnV w1 base e v L) (gr : w1.grownBy w2 v.ownBlock) (hz : base ≤ w1.heap.size) : Below base w w2 :=
  hb.grown gr hz (fun k hk => (World.ownsRow.lt ho k hk).1)
theorem step_appV {ops : Array Oper} {o : Oper} {a : Act} {w : World} {K : Act → World → Prop} {Q : Exit → Act → World → Prop} {E : Prop} (hgd : o.guard = none) (s x : Operand) (T e : TypeId) (z : Value) (ht : Try.prog.underlying T = some (.slice e)) (hi : (Try.prog.info? e).map (fun i => (i.zero, i.size, i.bytes)) = some (some z, 1, 8)) (hz1 : z.cells.size = 1)
    (ho : o.op = .call { callee := .builtin .append, args := #[s, x], argTypes := #[T, T] }) (base : Nat) (v : Value) (L : List Value) (hs : a.eval s = v) (hown : OwnV w base e v L)
    (aa : Option Addr) (m c : Nat) (M : List Value) (hx : a.eval x = .slice aa m c) (hm : M.length = m) (hb : Vals w aa M) (h1 : ∀ u ∈ M, u.oneCell' = true) (hlen : L.length + M.length ≤ 28000000000000) (hbase : base ≤ w.heap.size)
    (h : ∀ v' w', OwnV w' base e v' (L ++ M) → w.grownBy w' v.ownBlock → (v'.ownBlock = v.ownBlock ∨ v'.ownBlock = some w.heap.size) → K (a.put o.dst v') w') : if Region.wanted o (yielded ops a.tmps) = true then Oper.wp Try.prog o a w K Q else E := by
  have hw : Region.wanted o (yielded ops a.tmps) = true := by simp [Region.wanted, hgd]
  rw [if_pos hw]
  subst hm
  obtain ⟨v', w', hr, h2, h3, h4⟩ := run_appV T e z ht hi hz1 w base o.type v L aa M c hown hb h1 hlen hbase
  unfold Oper.wp execOp
  simp only [ho, resolve, invoke, builtin, Sem.run_bind, Sem.run_pure, Result.andThen_ok, List.map_toArray, List.map_cons, List.map_nil, hs, hx, hr]
  exact h v' w' h2 h3 h4
end Go.Proofs.Ytdajeabhhkgibaa.K

namespace Go.Proofs.Ytdajeabhhkgibaa
open Go.RowKit
set_option linter.unusedVariables false
set_option linter.unusedSimpArgs false

/-- A filter of the program's and the document's that tells the same. -/
structure It where
  q : Nat
  g : Nat
  q2 : Nat
  g2 : Nat
  bits : Nat
  p : Nat
  ws : Nat → Nat
def blk (t : It) (k : Nat) : Prop := k = t.q ∨ k = t.g ∨ k = t.q2 ∨ k = t.g2
structure ItAt (N : Nat) (w : World) (t : It) : Prop where
  fw : FW w t.q t.g t.bits t.p t.ws
  rw' : RW w t.q2 t.g2 t.bits t.p (bitAt t.ws)
  wi : Within t.ws t.bits
  lt : ∀ i, t.ws i < 18446744073709551616
  ob : okB t.bits = true
  p1 : 1 ≤ t.p
  p2 : t.p ≤ 16
  lo : ∀ k, blk t k → N ≤ k
  df : t.g ≠ t.q2 ∧ t.g ≠ t.g2 ∧ t.g2 ≠ t.q
theorem ItAt.keep {N : Nat} {w w' : World} {t : It} (h : ItAt N w t) (e : ∀ k, blk t k → w'.heap[k]? = w.heap[k]?) : ItAt N w' t :=
  ⟨h.fw.of (e _ (.inl rfl)) (e _ (.inr (.inl rfl))), h.rw'.of (e _ (.inr (.inr (.inl rfl)))) (e _ (.inr (.inr (.inr rfl)))), h.wi, h.lt, h.ob, h.p1, h.p2, h.lo, h.df⟩
theorem ItAt.size {N : Nat} {w : World} {t : It} (h : ItAt N w t) : ∀ k, blk t k → k < w.heap.size := by
  rintro k (rfl | rfl | rfl | rfl)
  · exact h.fw.fc.lt
  · exact h.fw.wr.lt
  · exact h.rw'.rc.lt
  · exact h.rw'.rb.lt
def fptr : Option It → Value
  | none => .pointer none
  | some t => .pointer (some ⟨t.q, 0, none⟩)
def gptr : Option It → Value
  | none => .pointer none
  | some t => .pointer (some ⟨t.q2, 0, none⟩)
/-- Two rows of filters, side by side. -/
structure Pl (N : Nat) (w : World) (X : List (Option It)) (F G : List Value) (fv gv : Value) : Prop where
  nb : N ≤ w.heap.size
  f : K.OwnV w N 23 fv F
  g : K.OwnV w N 26 gv G
  fg : ∀ k, fv.ownBlock = some k → gv.ownBlock ≠ some k
  it : ∀ t, some t ∈ X → ItAt N w t ∧ ∀ k, blk t k → fv.ownBlock ≠ some k ∧ gv.ownBlock ≠ some k
  ap : ∀ (i j : Nat) (t u : It), X[i]? = some (some t) → X[j]? = some (some u) → i ≠ j → ∀ k, blk t k → ¬ blk u k
theorem ownV_keep {w w' : World} {base : Nat} {e : TypeId} {v : Value} {X : List Value} (h : K.OwnV w base e v X) (hk : ∀ k, v.ownBlock = some k → w'.heap[k]? = w.heap[k]?) : K.OwnV w' base e v X := by
  refine ⟨h.1, ?_⟩
  rcases h.2 with hn | ⟨g, cap, cur, rfl, hbg, hg, rest⟩
  · exact .inl hn
  · exact .inr ⟨g, cap, cur, rfl, hbg, by rw [hk g rfl]; exact hg, rest⟩
theorem Pl.below {N : Nat} {w w' : World} {X : List (Option It)} {F G : List Value} {fv gv : Value} (h : Pl N w X F G fv gv) (hb : Below w.heap.size w w') : Pl N w' X F G fv gv :=
  ⟨Nat.le_trans h.nb hb.size, h.f.below hb, h.g.below hb, h.fg, fun t ht => ⟨(h.it t ht).1.keep (fun k hk => hb.block k ((h.it t ht).1.size k hk)), (h.it t ht).2⟩, h.ap⟩
/-- One item turns, in its two rows of bits alone. -/
theorem Pl.turn {N : Nat} {w w' : World} {X : List (Option It)} {F G : List Value} {fv gv : Value} (h : Pl N w X F G fv gv) (i : Nat) (t t' : It) (hi : X[i]? = some (some t)) (e1 : t'.q = t.q ∧ t'.g = t.g ∧ t'.q2 = t.q2 ∧ t'.g2 = t.g2) (ht : ItAt N w' t')
    (hs : w.heap.size ≤ w'.heap.size) (hk : ∀ k, k < w.heap.size → k ≠ t.g → k ≠ t.g2 → w'.heap[k]? = w.heap[k]?) : Pl N w' (X.set i (some t')) F G fv gv := by
  have hm : some t ∈ X := List.mem_of_getElem? hi
  have hb : ∀ k, blk t' k ↔ blk t k := fun k => by unfold blk; rw [e1.1, e1.2.1, e1.2.2.1, e1.2.2.2]
  have ht0 := h.it t hm
  have hlt : i < X.length := (List.getElem?_eq_some_iff.1 hi).1
  refine ⟨Nat.le_trans h.nb hs, ownV_keep h.f (fun k e => hk k (World.ownsRow.lt h.f k e).2 (fun e2 => (ht0.2 t.g (.inr (.inl rfl))).1 (by rw [← e2]; exact e)) (fun e2 => (ht0.2 t.g2 (.inr (.inr (.inr rfl)))).1 (by rw [← e2]; exact e))),
    ownV_keep h.g (fun k e => hk k (World.ownsRow.lt h.g k e).2 (fun e2 => (ht0.2 t.g (.inr (.inl rfl))).2 (by rw [← e2]; exact e)) (fun e2 => (ht0.2 t.g2 (.inr (.inr (.inr rfl)))).2 (by rw [← e2]; exact e))), h.fg, ?_, ?_⟩
  · intro u hu
    obtain ⟨j, hj⟩ := List.mem_iff_getElem?.1 hu
    rw [List.getElem?_set] at hj
    by_cases e : i = j
    · rw [if_pos e, if_pos (by omega)] at hj
      cases hj
      exact ⟨ht, fun k hk2 => ht0.2 k ((hb k).1 hk2)⟩
    · rw [if_neg e] at hj
      have hu2 := h.it u (List.mem_of_getElem? hj)
      refine ⟨hu2.1.keep (fun k hk2 => hk k (hu2.1.size k hk2) (fun e2 => ?_) (fun e2 => ?_)), hu2.2⟩
      · exact h.ap i j t u hi hj e k (by rw [e2]; exact .inr (.inl rfl)) hk2
      · exact h.ap i j t u hi hj e k (by rw [e2]; exact .inr (.inr (.inr rfl))) hk2
  · intro a b x y ha hb2 hab k hk1 hk2
    rw [List.getElem?_set] at ha hb2
    by_cases ea : i = a
    · rw [if_pos ea, if_pos (by omega)] at ha
      cases ha
      rw [if_neg (by omega)] at hb2
      exact h.ap i b t y hi hb2 (by omega) k ((hb k).1 hk1) hk2
    · rw [if_neg ea] at ha
      by_cases eb : i = b
      · rw [if_pos eb, if_pos (by omega)] at hb2
        cases hb2
        exact h.ap a i x t ha hi (by omega) k hk1 ((hb k).1 hk2)
      · rw [if_neg eb] at hb2
        exact h.ap a b x y ha hb2 hab k hk1 hk2
/-- One more. -/
theorem Pl.push {N : Nat} {w0 w : World} {X : List (Option It)} {F G : List Value} {fv gv : Value} (h : Pl N w0 X F G fv gv) (hb : Below w0.heap.size w0 w) (t : It) (ht : ItAt N w t) (hf : ∀ k, blk t k → w0.heap.size ≤ k) : Pl N w (X ++ [some t]) F G fv gv := by
  have hw := h.below hb
  refine ⟨hw.nb, hw.f, hw.g, hw.fg, ?_, ?_⟩
  · intro u hu
    rw [List.mem_append] at hu
    rcases hu with hu | hu
    · exact hw.it u hu
    · simp at hu
      subst hu
      refine ⟨ht, fun k hk => ⟨fun e => ?_, fun e => ?_⟩⟩
      · have := (World.ownsRow.lt h.f k e).2; have := hf k hk; omega
      · have := (World.ownsRow.lt h.g k e).2; have := hf k hk; omega
  · have old : ∀ (j : Nat) (u : It) (k : Nat), X[j]? = some (some u) → blk u k → k < w0.heap.size := fun j u k hj hk => (h.it u (List.mem_of_getElem? hj)).1.size k hk
    intro a b x y ha hb2 hab k hk1 hk2
    rw [List.getElem?_append] at ha hb2
    by_cases ea : a < X.length
    · rw [if_pos ea] at ha
      by_cases eb : b < X.length
      · rw [if_pos eb] at hb2
        exact h.ap a b x y ha hb2 hab k hk1 hk2
      · rw [if_neg eb] at hb2
        have h1 := (List.getElem?_eq_some_iff.1 hb2).1
        simp only [List.length_cons, List.length_nil] at h1
        have h0 : b - X.length = 0 := by omega
        rw [h0] at hb2
        simp at hb2
        subst hb2
        have := old a x k ha hk1
        have := hf k hk2
        omega
    · rw [if_neg ea] at ha
      have h1 := (List.getElem?_eq_some_iff.1 ha).1
      simp only [List.length_cons, List.length_nil] at h1
      have h0 : a - X.length = 0 := by omega
      rw [h0] at ha
      simp at ha
      subst ha
      by_cases eb : b < X.length
      · rw [if_pos eb] at hb2
        have := old b y k hb2 hk2
        have := hf k hk1
        omega
      · have h2 : b - X.length < 1 := by rw [if_neg eb] at hb2; have := (List.getElem?_eq_some_iff.1 hb2).1; simpa using this
        omega
theorem Pl.pushNil {N : Nat} {w : World} {X : List (Option It)} {F G : List Value} {fv gv : Value} (h : Pl N w X F G fv gv) : Pl N w (X ++ [none]) F G fv gv := by
  have old : ∀ (a : Nat) (x : It), (X ++ [none])[a]? = some (some x) → X[a]? = some (some x) := fun a x ha => by
    rw [List.getElem?_append] at ha
    by_cases ea : a < X.length
    · rwa [if_pos ea] at ha
    · rw [if_neg ea] at ha
      have h1 := (List.getElem?_eq_some_iff.1 ha).1
      simp only [List.length_cons, List.length_nil] at h1
      have h0 : a - X.length = 0 := by omega
      rw [h0] at ha
      simp at ha
  exact ⟨h.nb, h.f, h.g, h.fg, fun t ht => h.it t (by simpa using ht), fun a b x y ha hb => h.ap a b x y (old a x ha) (old b y hb)⟩
/-- The program's row grows. -/
theorem Pl.appF {N : Nat} {w w' : World} {X : List (Option It)} {F G F' : List Value} {fv gv fv' : Value} (h : Pl N w X F G fv gv) (ho : K.OwnV w' N 23 fv' F') (hg : w.grownBy w' fv.ownBlock) (hb : fv'.ownBlock = fv.ownBlock ∨ fv'.ownBlock = some w.heap.size) : Pl N w' X F' G fv' gv := by
  have gl : ∀ k, gv.ownBlock = some k → k < w.heap.size := fun k e => (World.ownsRow.lt h.g k e).2
  refine ⟨Nat.le_trans h.nb hg.size, ho, ownV_keep h.g (fun k e => hg.block k (gl k e) (fun e2 => h.fg k e2.symm e)), fun k e e2 => ?_, fun t ht => ?_, h.ap⟩
  · rcases hb with hb | hb
    · exact h.fg k (by rw [← hb]; exact e) e2
    · rw [hb] at e; cases e; have := gl _ e2; omega
  · have ht0 := h.it t ht
    refine ⟨ht0.1.keep (fun k hk => hg.block k (ht0.1.size k hk) (fun e => (ht0.2 k hk).1 e.symm)), fun k hk => ⟨fun e => ?_, (ht0.2 k hk).2⟩⟩
    rcases hb with hb | hb
    · exact (ht0.2 k hk).1 (by rw [← hb]; exact e)
    · rw [hb] at e; cases e; have := ht0.1.size _ hk; omega
/-- The document's row grows. -/
theorem Pl.appG {N : Nat} {w w' : World} {X : List (Option It)} {F G G' : List Value} {fv gv gv' : Value} (h : Pl N w X F G fv gv) (ho : K.OwnV w' N 26 gv' G') (hg : w.grownBy w' gv.ownBlock) (hb : gv'.ownBlock = gv.ownBlock ∨ gv'.ownBlock = some w.heap.size) : Pl N w' X F G' fv gv' := by
  have fl : ∀ k, fv.ownBlock = some k → k < w.heap.size := fun k e => (World.ownsRow.lt h.f k e).2
  refine ⟨Nat.le_trans h.nb hg.size, ownV_keep h.f (fun k e => hg.block k (fl k e) (fun e2 => h.fg k e e2.symm)), ho, fun k e e2 => ?_, fun t ht => ?_, h.ap⟩
  · rcases hb with hb | hb
    · exact h.fg k e (by rw [← hb]; exact e2)
    · rw [hb] at e2; cases e2; have := fl _ e; omega
  · have ht0 := h.it t ht
    refine ⟨ht0.1.keep (fun k hk => hg.block k (ht0.1.size k hk) (fun e => (ht0.2 k hk).2 e.symm)), fun k hk => ⟨(ht0.2 k hk).1, fun e => ?_⟩⟩
    rcases hb with hb | hb
    · exact (ht0.2 k hk).2 (by rw [← hb]; exact e)
    · rw [hb] at e; cases e; have := ht0.1.size _ hk; omega
end Go.Proofs.Ytdajeabhhkgibaa

namespace Go.Proofs.Ytdajeabhhkgibaa
open Go.RowKit
set_option linter.unusedVariables false
set_option linter.unusedSimpArgs false

variable {N : Nat} {w w1 w2 : World} {X : List (Option It)} {F G : List Value} {fv gv : Value}
theorem set_map (f : Option It → Value) {i : Nat} {x y : Option It} (h : X[i]? = some x) (e : f y = f x) : (X.set i y).map f = X.map f := by
  apply List.ext_getElem?
  intro k
  rw [List.getElem?_map, List.getElem?_map, List.getElem?_set]
  by_cases ek : i = k
  · subst ek
    have hl := (List.getElem?_eq_some_iff.1 h).1
    rw [if_pos rfl, if_pos hl, h]
    simp [e]
  · rw [if_neg ek]
/-- Behind the program's half. -/
theorem ItAt.half {t : It} (h : ItAt N w t) (hs : w.heap.size ≤ w1.heap.size) (hk : ∀ k, k < w.heap.size → k ≠ t.g → w1.heap[k]? = w.heap[k]?) : RW w1 t.q2 t.g2 t.bits t.p (bitAt t.ws) :=
  h.rw'.of (hk _ h.rw'.rc.lt (fun e => h.df.1 e.symm)) (hk _ h.rw'.rb.lt (fun e => h.df.2.1 e.symm))
/-- Both halves. -/
theorem Pl.both (h : Pl N w X F G fv gv) (i : Nat) (t : It) (hi : X[i]? = some (some t)) (ws : Nat → Nat) (hf : FW w1 t.q t.g t.bits t.p ws) (hs1 : w.heap.size ≤ w1.heap.size) (hk1 : ∀ k, k < w.heap.size → k ≠ t.g → w1.heap[k]? = w.heap[k]?)
    (hr : RW w2 t.q2 t.g2 t.bits t.p (bitAt ws)) (hs2 : w1.heap.size ≤ w2.heap.size) (hk2 : ∀ k, k < w1.heap.size → k ≠ t.g2 → w2.heap[k]? = w1.heap[k]?) (hw : Within ws t.bits) (hl : ∀ i, ws i < 18446744073709551616) :
    Pl N w2 (X.set i (some { t with ws := ws })) F G fv gv := by
  have ht := (h.it t (List.mem_of_getElem? hi)).1
  refine h.turn i t { t with ws := ws } hi ⟨rfl, rfl, rfl, rfl⟩ ⟨?_, hr, hw, hl, ht.ob, ht.p1, ht.p2, ht.lo, ht.df⟩ (Nat.le_trans hs1 hs2) (fun k hk h1 h2 => (hk2 k (by omega) h2).trans (hk1 k hk h1))
  exact hf.of (hk2 _ hf.fc.lt (fun e => ht.df.2.2 e.symm)) (hk2 _ hf.wr.lt ht.df.2.1)
theorem within_set {bits : Nat} (hb : 0 < bits) (p : Nat) {ws : Nat → Nat} (h : Within ws bits) (x : List UInt8) : Within (setAll ws (spotL x bits hb p)) bits := within_addL hb p h [x]
theorem ItAt.pos {t : It} (h : ItAt N w t) : 0 < t.bits ∧ t.bits ≤ 65536 ∧ 8 ≤ t.bits ∧ t.bits % 8 = 0 := by
  have := of_decide_eq_true h.ob
  omega
/-- Add on both sides. -/
theorem Pl.added (h : Pl N w X F G fv gv) (i : Nat) (t : It) (hi : X[i]? = some (some t)) (hb : 0 < t.bits) (x : List UInt8) (hf : FW w1 t.q t.g t.bits t.p (setAll t.ws (spotL x t.bits hb t.p))) (k1 : Kb w.heap.size t.g w w1)
    (hr : RW w2 t.q2 t.g2 t.bits t.p (onAll (bitAt t.ws) (spotL x t.bits hb t.p))) (k2 : Kb w1.heap.size t.g2 w1 w2) :
    ∃ t', Pl N w2 (X.set i (some t')) F G fv gv ∧ (X.set i (some t')).map fptr = X.map fptr ∧ (X.set i (some t')).map gptr = X.map gptr ∧ (X.set i (some t')).length = X.length := by
  have ht := (h.it t (List.mem_of_getElem? hi)).1
  rw [onAll_bits] at hr
  exact ⟨_, h.both i t hi _ hf k1.size (fun k hk hg => k1.block k hk hg) hr k2.size (fun k hk hg => k2.block k hk hg) (within_set hb t.p ht.wi x) (setAll_lt ht.lt _), set_map fptr hi rfl, set_map gptr hi rfl, by simp⟩
/-- Join on both sides. -/
theorem Pl.joined (h : Pl N w X F G fv gv) (i : Nat) (t : It) (hi : X[i]? = some (some t)) (wo : Nat → Nat) (hwo : Within wo t.bits) (hlo : ∀ i, wo i < 18446744073709551616) (hf : FW w1 t.q t.g t.bits t.p (orW t.ws wo ((t.bits + 63) / 64))) (k1 : w.grownBy w1 (some t.g))
    (hr : RB w2 t.g2 t.bits (jB (bitAt t.ws) (bitAt wo) t.bits)) (k2 : K.Fr t.g2 w1 w2) :
    ∃ t', Pl N w2 (X.set i (some t')) F G fv gv ∧ (X.set i (some t')).map fptr = X.map fptr ∧ (X.set i (some t')).map gptr = X.map gptr ∧ (X.set i (some t')).length = X.length := by
  have ht := (h.it t (List.mem_of_getElem? hi)).1
  have hk1 : ∀ k, k < w.heap.size → k ≠ t.g → w1.heap[k]? = w.heap[k]? := fun k hk hg => k1.block k hk (fun e => hg (by cases e; rfl))
  have hrw := ht.half k1.size hk1
  have hr2 : RW w2 t.q2 t.g2 t.bits t.p (bitAt (orW t.ws wo ((t.bits + 63) / 64))) := ⟨hrw.rc.of (k2.block _ hrw.rc.lt (fun e => hrw.rc.ne e.symm)), hr.congr (fun j hj => by rw [jB_bits t.ws wo t.bits ((t.bits + 63) / 64) j hj (by omega)])⟩
  exact ⟨_, h.both i t hi _ hf k1.size hk1 hr2 k2.size (fun k hk hg => k2.block k hk hg) (within_orW ht.wi hwo) (orW_lt ht.lt hlo _), set_map fptr hi rfl, set_map gptr hi rfl, by simp⟩
/-- A pair that was made since. -/
theorem itAt_new {q g q2 g2 bits p : Nat} {ws : Nat → Nat} (hN : N ≤ w.heap.size) (hf : FW w2 q g bits p ws) (hr : RW w2 q2 g2 bits p (bitAt ws)) (hw : Within ws bits) (hl : ∀ i, ws i < 18446744073709551616) (ho : okB bits = true) (p1 : 1 ≤ p) (p2 : p ≤ 16)
    (h1 : w.heap.size ≤ q) (h2 : w.heap.size ≤ g) (h3 : w1.heap.size ≤ q2) (h4 : w1.heap.size ≤ g2) (h5 : q < w1.heap.size) (h6 : g < w1.heap.size) (hs : w.heap.size ≤ w1.heap.size) : ItAt N w2 ⟨q, g, q2, g2, bits, p, ws⟩ ∧ ∀ k, blk ⟨q, g, q2, g2, bits, p, ws⟩ k → w.heap.size ≤ k := by
  have hb : ∀ k, blk ⟨q, g, q2, g2, bits, p, ws⟩ k → w.heap.size ≤ k := by
    rintro k (e | e | e | e) <;> (simp only at e; omega)
  exact ⟨⟨hf, hr, hw, hl, ho, p1, p2, fun k hk => Nat.le_trans hN (hb k hk), ⟨by show g ≠ q2; omega, by show g ≠ g2; omega, by show g2 ≠ q; omega⟩⟩, hb⟩
end Go.Proofs.Ytdajeabhhkgibaa

