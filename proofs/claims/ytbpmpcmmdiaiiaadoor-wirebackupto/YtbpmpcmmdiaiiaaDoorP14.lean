import Derived.Test.YtbpmpcmmdiaiiaaDoorP10
namespace Go.Proofs.YtbpmpcmmdiaiiaaDoor
open Go.RowKit
set_option linter.unusedVariables false
set_option linter.unusedSimpArgs false

set_option maxHeartbeats 1000000 in
/-- The reference's Compare. -/
theorem rcmp_any (a b : List UInt8) (ha : a.length = 32) (hb : b.length = 32) (w : World) :
    Calls Tryd.prog 73 #[.agg (bs a), .agg (bs b)] w fun e w' => e = .returned (.int .i64 (cmpL a b)) ∧ Below w.heap.size w w' := by
  have be0 : Below w.heap.size w ((w.alloc (.cells (bs a) 31)).alloc (.cells (bs b) 31)) := ((Below.refl _ _).alloc (Nat.le_refl _) _).alloc (by simp) _
  have g0 : ((w.alloc (.cells (bs a) 31)).alloc (.cells (bs b) 31)).heap[w.heap.size]? = some (.cells (bs a) 31 (0, 0)) := heap_alloc2_old _ _ _
  have g1 : ((w.alloc (.cells (bs a) 31)).alloc (.cells (bs b) 31)).heap[w.heap.size + 1]? = some (.cells (bs b) 31 (0, 0)) := heap_alloc2_new _ _ _
  go_enter Tryd.func73, Tryd.ntmps73
  go_wp2
  generalize ((w.alloc (.cells (bs a) 31)).alloc (.cells (bs b) 31)) = W0 at *
  go_loopw [5] (fun i wr => ∃ k : Nat, k ≤ 32 ∧ i = .int .i64 k ∧ Hid (∀ j, j < k → at8 a j = at8 b j) ∧ ∃ m, wr = W0.drewN m) (fun i _ => 32 - (intOf i).toNat)
  case atStart => exact ⟨0, by omega, rfl, (fun j hj => by omega : ∀ j, j < 0 → at8 a j = at8 b j), 0, rfl⟩
  case round =>
    obtain ⟨k, hk, rfl, hsame, m, rfl⟩ := hrel
    by_cases hlt : k < 32
    · have ca := (cell_of_row W0 w.heap.size k _ _ _ g0).trans (bs_get a k (by omega))
      have cb := (cell_of_row W0 (w.heap.size + 1) k _ _ _ g1).trans (bs_get b k (by omega))
      have HL := cmpL_at a b k (by omega) (by omega) hsame.out
      have HL1 : Hid ((at8 a k < at8 b k → cmpL a b = -1) ∧ (at8 b k < at8 a k → cmpL a b = 1)) := HL
      clear HL
      have hlt' : (k : Int) < 32 := by omega
      by_cases h1 : at8 a k < at8 b k
      · go_wp2
        go_quiet (fail)
        go_wp2
        go_ret
        exact ⟨ret_int (HL1.out.1 h1).symm, below_drewN (below_drewN be0 _) _⟩
      · by_cases h2 : at8 b k < at8 a k
        · go_wp2
          go_quiet (fail)
          go_wp2
          go_quiet (fail)
          go_wp2
          go_ret
          exact ⟨ret_int (HL1.out.2 h2).symm, below_drewN (below_drewN (below_drewN be0 _) _) _⟩
        · go_wp2
          go_quiet (fail)
          go_wp2
          go_quiet (fail)
          go_wp2
          refine ⟨⟨k + 1, by omega, by go_num, ?_, _, rfl⟩, by simp [intOf]; omega⟩
          show ∀ j, j < k + 1 → at8 a j = at8 b j
          intro j hj
          by_cases e : j = k
          · subst e; omega
          · exact hsame.out j (by omega)
    · have hk2 : k = 32 := by omega
      subst hk2
      have HE : Hid (cmpL a b = 0) := by
        show cmpL a b = 0
        rw [at8_ext 32 ha hb hsame.out]
        exact cmpL_same b
      go_wp2
      go_ret
      exact ⟨ret_int HE.out.symm, below_drewN be0 _⟩

/-! ### A hash put in its place -/
theorem srise_app : ∀ {A B : List (List UInt8)}, SRise A → SRise B → (∀ a ∈ A, ∀ b ∈ B, cmpL a b < 0) → SRise (A ++ B)
  | [], B, _, hB, _ => hB
  | x :: r, B, hA, hB, h => by
    rw [List.cons_append]
    refine srise_cons (srise_app hA.tail hB (fun a ha b hb => h a (by simp [ha]) b hb)) (fun y hy => ?_)
    rcases List.mem_append.1 hy with hy | hy
    · exact hA.head hy
    · exact h x (by simp) y hy
theorem srise_take {D : List (List UInt8)} (h : SRise D) (k : Nat) : SRise (D.take k) := fun i j x y hx hy hij => by
  rw [List.getElem?_take] at hx hy
  split at hx
  · split at hy
    · exact h i j x y hx hy hij
    · simp at hy
  · simp at hx
theorem srise_drop {D : List (List UInt8)} (h : SRise D) (k : Nat) : SRise (D.drop k) := fun i j x y hx hy hij => by
  rw [List.getElem?_drop] at hx hy
  exact h (k + i) (k + j) x y hx hy (by omega)
/-- Put in at a place. -/
def ins (D : List (List UInt8)) (k : Nat) (x : List UInt8) : List (List UInt8) := D.take k ++ x :: D.drop k
theorem ins_len (D : List (List UInt8)) (k : Nat) (x : List UInt8) : (ins D k x).length = D.length + 1 := by simp [ins]; omega
theorem ins_mem (D : List (List UInt8)) (k : Nat) (x y : List UInt8) : y ∈ ins D k x ↔ y ∈ D ∨ y = x := by
  have h : y ∈ D ↔ y ∈ D.take k ∨ y ∈ D.drop k := by rw [← List.mem_append, List.take_append_drop]
  simp only [ins, List.mem_append, List.mem_cons, h]
  constructor
  · rintro (h | h | h)
    · exact .inl (.inl h)
    · exact .inr h
    · exact .inl (.inr h)
  · rintro ((h | h) | h)
    · exact .inl h
    · exact .inr (.inr h)
    · exact .inr (.inl h)
theorem all32_ins {D : List (List UInt8)} (h : All32 D) (k : Nat) {x : List UInt8} (hx : x.length = 32) : All32 (ins D k x) := fun y hy => by
  rcases (ins_mem D k x y).1 hy with hy | rfl
  · exact h y hy
  · exact hx
theorem srise_ins {D : List (List UInt8)} (h32 : All32 D) (h : SRise D) {k : Nat} {x : List UInt8} (hx : x.length = 32) (hk : k ≤ D.length) (hlo : ∀ j y, j < k → D[j]? = some y → cmpL y x < 0) (hhi : ∀ y, D[k]? = some y → cmpL x y < 0) : SRise (ins D k x) := by
  have hall : ∀ y ∈ D.drop k, cmpL x y < 0 := fun y hy => by
    obtain ⟨j, hj⟩ := List.mem_iff_getElem?.1 hy
    rw [List.getElem?_drop] at hj
    have hlt := (List.getElem?_eq_some_iff.1 hj).1
    have hz : D[k]? = some D[k] := List.getElem?_eq_getElem (by omega)
    by_cases e : j = 0
    · subst e; exact hhi y (by simpa using hj)
    · exact lt_trans hx (h32.get hz) (h32.get hj) (hhi _ hz) (h k (k + j) _ y hz hj (by omega))
  have hal : ∀ y ∈ D.take k, cmpL y x < 0 := fun y hy => by
    obtain ⟨j, hj⟩ := List.mem_iff_getElem?.1 hy
    rw [List.getElem?_take] at hj
    split at hj
    · rename_i hjk; exact hlo j y hjk hj
    · simp at hj
  refine srise_app (srise_take h k) (srise_cons (srise_drop h k) hall) (fun a ha b hb => ?_)
  rcases List.mem_cons.1 hb with rfl | hb
  · exact hal a ha
  · exact lt_trans (h32 a (List.mem_of_mem_take ha)) hx (h32 b (List.mem_of_mem_drop hb)) (hal a ha) (hall b hb)
/-- The first of a list, and the next one. -/
theorem srt_next {L D E : List (List UInt8)} {k : Nat} {x : List UInt8} (hx : L[k]? = some x) (h : Srt (L.take k) D) (h1 : SRise E) (h2 : All32 E) (h3 : ∀ y, y ∈ E ↔ y ∈ D ∨ y = x) : Srt (L.take (k + 1)) E := by
  refine ⟨h1, h2, fun y => ?_⟩
  rw [h3, h.2.2, List.take_add_one, hx]
  simp
/-- What a list is while places are freed. -/
def Shf (D X : List (List UInt8)) (k : Nat) : Prop := X.length = D.length + 1 ∧ All32 X ∧ (∀ j, j < k → X[j]? = D[j]?) ∧ ∀ j, k ≤ j → j < D.length → X[j + 1]? = D[j]?
theorem shf_zero {D : List (List UInt8)} (h : All32 D) : Shf D (D ++ [z32]) D.length := ⟨by simp, all32_app h (fun x hx => by simp at hx; subst hx; exact z32_len), fun j hj => List.getElem?_append_left hj, fun j h1 h2 => by omega⟩
theorem shf_step {D X : List (List UInt8)} {k : Nat} {p : List UInt8} (h : Shf D X k) (hk : 1 ≤ k) (hkD : k ≤ D.length) (hp : D[k - 1]? = some p) (hp32 : p.length = 32) : Shf D (X.set k p) (k - 1) := by
  obtain ⟨h1, h2, h3, h4⟩ := h
  refine ⟨by simp [h1], h2.set k hp32, fun j hj => ?_, fun j hj hjD => ?_⟩
  · rw [List.getElem?_set_ne (by omega)]; exact h3 j (by omega)
  · by_cases e : j = k - 1
    · subst e
      rw [show k - 1 + 1 = k by omega, List.getElem?_set_self (by omega)]
      exact hp.symm
    · rw [List.getElem?_set_ne (by omega)]; exact h4 j (by omega) hjD
theorem shf_end {D X : List (List UInt8)} {k : Nat} {x : List UInt8} (h : Shf D X k) (hk : k ≤ D.length) : X.set k x = ins D k x := by
  obtain ⟨h1, h2, h3, h4⟩ := h
  apply List.ext_getElem?
  intro j
  unfold ins
  rcases Nat.lt_trichotomy j k with h | h | h
  · rw [List.getElem?_set_ne (by omega), List.getElem?_append_left (by simp; omega), List.getElem?_take, if_pos h]
    exact h3 j h
  · subst h
    rw [List.getElem?_set_self (by omega), List.getElem?_append_right (by simp; omega)]
    simp [Nat.min_eq_left hk]
  · rw [List.getElem?_set_ne (by omega), List.getElem?_append_right (by simp; omega)]
    have e : (D.take k).length = k := by simp; omega
    rw [e]
    obtain ⟨m, rfl⟩ : ∃ m, j = k + 1 + m := ⟨j - (k + 1), by omega⟩
    rw [show k + 1 + m - k = m + 1 by omega, List.getElem?_cons_succ, List.getElem?_drop]
    by_cases hm : k + m < D.length
    · have := h4 (k + m) (by omega) hm
      rw [show k + 1 + m = k + m + 1 by omega]
      exact this
    · rw [List.getElem?_eq_none (by omega), List.getElem?_eq_none (by omega)]

/-! ### A block of hashes of the call's own -/
def Box (w : World) (g cap : Nat) : Prop := ∃ cur, w.heap[g]? = some (.cells cur 31 (0, 0)) ∧ cur.size = cap * 32
theorem box_setCells (g cap : Nat) : ∀ (vs : List Value) (o : Nat) (w : World), Box w g cap → Box (w.setCells g o vs) g cap
  | [], _, _, h => h
  | v :: r, o, w, ⟨cur, h1, h2⟩ => box_setCells g cap r (o + 1) _ ⟨_, heap_setCell_same w g o cur _ v h1, by simp [h2]⟩
theorem Box.below {w w' : World} {g cap B : Nat} (h : Box w g cap) (hb : Below B w w') (hg : g < B) : Box w' g cap := by
  obtain ⟨cur, h1, h2⟩ := h
  exact ⟨cur, by rw [hb.block g hg]; exact h1, h2⟩
theorem Box.lt {w : World} {g cap : Nat} (h : Box w g cap) : g < w.heap.size := by
  obtain ⟨cur, h1, h2⟩ := h
  exact (Array.getElem?_eq_some_iff.1 h1).1
theorem Box.there {w : World} {g cap n : Nat} (h : Box w g cap) (hn : n ≤ cap) : w.there g 0 (32 * n) := fun j hj => by
  obtain ⟨cur, h1, h2⟩ := h
  refine ⟨?_, ?_⟩
  · rw [Nat.zero_add, cell_of_row w g j cur _ _ h1, Array.getElem?_eq_getElem (by omega)]; rfl
  · rw [Nat.zero_add]; exact frozen_of_row w g j cur _ h1
theorem OwnH.box {w : World} {base : Nat} {v : Value} {L : List (List UInt8)} (h : OwnH w base v L) (h0 : 0 < L.length) :
    ∃ g cap, v = .slice (some ⟨g, 0, none⟩) L.length cap ∧ L.length ≤ cap ∧ cap ≤ maxLen ∧ base ≤ g ∧ Box w g cap ∧ Hs w g 0 L := by
  have ho := h.open
  obtain ⟨hL, hlen, ⟨rfl, hn⟩ | ⟨g, cap, cur, rfl, hbg, hg, hnc, hcm, hcs', htake⟩⟩ := h
  · omega
  · rcases ho with ⟨h1, _⟩ | ⟨g', cap', h1, _, _, _, h5, _⟩
    · cases h1
    · cases h1
      exact ⟨g, cap, rfl, hnc, hcm, hbg, ⟨cur, hg, hcs'⟩, h5⟩
theorem ownH_mk {w : World} {base g cap : Nat} {L : List (List UInt8)} (hL : All32 L) (hb : Box w g cap) (hn : L.length ≤ cap) (hm : cap ≤ maxLen) (hg : base ≤ g) (hs : Hs w g 0 L) : OwnH w base (.slice (some ⟨g, 0, none⟩) L.length cap) L := by
  obtain ⟨cur, h1, h2⟩ := hb
  refine ⟨hL, flat_len hL, .inr ⟨g, cap, cur, rfl, hg, h1, hn, hm, h2, ?_⟩⟩
  apply List.ext_getElem?
  intro j
  by_cases hj : j < L.length * 32
  · have hx : L[j / 32]? = some L[j / 32] := List.getElem?_eq_getElem (by omega)
    have e1 := flat_get hL (j / 32) (j % 32) _ hx (by omega)
    rw [show j / 32 * 32 + j % 32 = j by omega] at e1
    have hlt : j % 32 < (hcs L[j / 32]).length := by rw [hcs_len, hL.get hx]; omega
    have e2 := hs (j / 32) _ hx (j % 32) _ (List.getElem?_eq_getElem hlt)
    rw [show 0 + 32 * (j / 32) + j % 32 = j by omega, cell_of_row w g j cur _ _ h1] at e2
    rw [e1, List.getElem?_take, if_pos hj, List.getElem?_eq_getElem hlt, ← e2]
    simp
  · rw [List.getElem?_take, if_neg hj, List.getElem?_eq_none (by rw [flat_len hL]; omega)]
end Go.Proofs.YtbpmpcmmdiaiiaaDoor

namespace Go.Proofs.YtbpmpcmmdiaiiaaDoor
open Go.RowKit
set_option linter.unusedVariables false
set_option linter.unusedSimpArgs false
theorem OwnH.size {w : World} {base : Nat} {v : Value} {L : List (List UInt8)} (h : OwnH w base v L) : ∃ a cap, v = .slice a L.length cap := by
  rcases h.open with ⟨rfl, rfl⟩ | ⟨g, cap, rfl, _⟩
  · exact ⟨none, 0, rfl⟩
  · exact ⟨_, _, rfl⟩

theorem int_pred {m : Nat} (h : 1 ≤ m) : Value.int .i64 ((m : Int) - 1) = .int .i64 ((m - 1 : Nat) : Int) := by
  rw [show ((m - 1 : Nat) : Int) = (m : Int) - 1 by omega]
theorem hl_one (w : World) : Hl (w.alloc (.cells (bs z32) 31)) (some ⟨w.heap.size, 0, none⟩) [z32] := by
  refine .inr ⟨w.heap.size, 0, rfl, fun i x e => ?_⟩
  have hi : i = 0 := by have := (List.getElem?_eq_some_iff.1 e).1; simp at this; omega
  subst hi
  simp at e
  subst e
  intro j v hv
  rw [Nat.mul_zero, Nat.add_zero, Nat.zero_add, cell_of_row _ w.heap.size j (bs z32) _ (0, 0) (heap_alloc_new _ _)]
  simpa [hcs] using hv

set_option maxRecDepth 100000 in
set_option maxHeartbeats 2000000 in
theorem rising_any (a : Option Addr) (L : List (List UInt8)) (cap : Nat) (w : World) (hL : All32 L) (hb : L.length ≤ 4398046510976) (hl : Hl w a L) :
    Calls Tryd.prog 53 #[.slice a L.length cap] w fun e w' => ∃ v D, e = .returned v ∧ Srt L D ∧ OwnH w' w.heap.size v D ∧ Below w.heap.size w w' := by
  obtain ⟨n, hn⟩ : ∃ n, n = L.length := ⟨_, rfl⟩
  rw [← hn] at hb ⊢
  have HN : Hid (n = L.length) := hn
  have HL : Hid (Hl w a L) := hl
  clear hn hl
  have HO0 : Hid (OwnH w w.heap.size (.slice none 0 0) []) := OwnH.nil _ _
  have HS0 : Hid (Srt (L.take 0) []) := (⟨fun i j x y h => by simp at h, fun x h => by simp at h, fun x => by simp⟩ : Srt (L.take 0) [])
  go_enter Tryd.func53, Tryd.ntmps53
  go_wp2
  go_loopw [3, 4] (fun v i wr => ∃ k : Nat, ∃ D : List (List UInt8), ∃ (va : Option Addr) (vc d : Nat), k ≤ n ∧ d ≤ k ∧ i = .int .i64 k ∧ v = .slice va d vc ∧ Hid (d = D.length) ∧ Hid (OwnH wr w.heap.size (.slice va d vc) D) ∧ Hid (Srt (L.take k) D) ∧ Below w.heap.size w wr) (fun _ i _ => n - (intOf i).toNat)
  case atStart => exact ⟨0, [], none, 0, 0, by omega, by omega, rfl, rfl, rfl, HO0, HS0, Below.refl _ _⟩
  case round =>
    obtain ⟨k, D, va, vc, d, hk, hdk, rfl, rfl, HD, HOr, HSr, bel⟩ := hrel
    by_cases hkn : k < n
    · have hkL : k < L.length := by rw [← HN.out]; exact hkn
      obtain ⟨b, off, rfl, hsA⟩ := HL.out.at hkL
      obtain ⟨x, hx⟩ : ∃ x, L[k]? = some x := ⟨_, List.getElem?_eq_getElem hkL⟩
      have hx32 := hL.get hx
      have hbB : b < w.heap.size := hsA.lt hL (by omega)
      have SX0 : Hid (w.rangeAt b (off + 32 * k) (hcs x)) := hsA k x hx
      have ixL := fun wx => indexH b off n cap k wx hkn
      have HX : Hid (L[k]? = some x) := hx
      clear hx hsA
      go_wp2
      go_loopw [5] (fun i wq => ∃ t : Nat, t ≤ d ∧ i = .int .i64 t ∧ Hid (∀ j y, j < t → D[j]? = some y → cmpL y x < 0) ∧ Hid (OwnH wq w.heap.size (.slice va d vc) D) ∧ Below w.heap.size w wq) (fun i _ => d - (intOf i).toNat)
      case atStart => exact ⟨0, by omega, rfl, (fun j y hj => by omega : ∀ j y, j < 0 → D[j]? = some y → cmpL y x < 0), HOr, bel⟩
      case round =>
        clear HOr bel
        obtain ⟨t, ht, rfl, HLo, HOr, bel⟩ := hrel
        have SX : Hid (wr.rangeAt b (off + 32 * k) (hcs x)) := rangeAt_below SX0.out bel hbB
        by_cases htd : t < d
        · have htD : t < D.length := by rw [← HD.out]; exact htd
          obtain ⟨y, hy⟩ : ∃ y, D[t]? = some y := ⟨_, List.getElem?_eq_getElem htD⟩
          have hy32 := HSr.out.2.1.get hy
          obtain ⟨g, rfl, hnc, hcm, hgB, hbox, hsg⟩ : ∃ g, va = some ⟨g, 0, none⟩ ∧ d ≤ vc ∧ vc ≤ maxLen ∧ w.heap.size ≤ g ∧ Box wr g vc ∧ Hs wr g 0 D := by
            obtain ⟨g, cg, hvg, hnc, hcm, hgB, hbox, hsg⟩ := HOr.out.box (by omega)
            simp only [Value.slice.injEq] at hvg
            obtain ⟨rfl, h2, rfl⟩ := hvg
            exact ⟨g, rfl, by omega, hcm, hgB, hbox, hsg⟩
          have SY : Hid (wr.rangeAt g (32 * t) (hcs y)) := (by have := hsg t y hy; rwa [Nat.zero_add] at this : wr.rangeAt g (32 * t) (hcs y))
          have ixD := fun wx => indexH g 0 d vc t wx htd
          simp only [Nat.zero_add] at ixD
          have HY : Hid (D[t]? = some y) := hy
          have HCm : Hid (∀ wx, Calls Tryd.prog 73 #[.agg (bs y), .agg (bs x)] wx fun e w' => e = .returned (.int .i64 (cmpL y x)) ∧ Below wx.heap.size wx w') := fun wx => rcmp_any y x hy32 hx32 wx
          have hne : Nonempty (ExtT wr) := ExtT.some wr
          have hgl : g < wr.heap.size := hbox.lt
          clear hy hsg hbox htD
          by_cases hc : cmpL y x < 0
          · have HL2 : Hid (∀ j z, j < t + 1 → D[j]? = some z → cmpL z x < 0) := fun j z hj hz => by
              by_cases e : j = t
              · subst e; rw [HY.out] at hz; cases hz; exact hc
              · exact HLo.out j z (by omega) hz
            generalize cmpL y x = c at *
            go_wp2_with fail
            refine wp_region_ext (by kernel_rfl) (by kernel_rfl) ?_
            repeat (first
              | (go_big_quiet_want; refine quiet_load_mid 31 _ rfl g (32 * t) rfl (bs y) _ (by rintro _ ⟨e, rfl⟩; exact e.range SY.out (hcs_pos hy32)) Tryd.underlying31 rfl (sizeH hy32) ?_; simp only [Act.put, List.setIfInBounds_toArray, List.set_cons_zero, List.set_cons_succ]; go_big_quiet_on)
              | (go_big_quiet_want; refine quiet_load_mid 31 _ rfl b (off + 32 * k) rfl (bs x) _ (by rintro _ ⟨e, rfl⟩; exact e.range SX.out (hcs_pos hx32)) Tryd.underlying31 rfl (sizeH hx32) ?_; simp only [Act.put, List.setIfInBounds_toArray, List.set_cons_zero, List.set_cons_succ]; go_big_quiet_on)
              | go_big_quiet_step (first | (go_at_call 73; exact ext_of (HCm.out _)) | fail))
            refine wpQuiet_nil ?_
            rintro w3 ⟨⟨_, bl3⟩, rfl⟩
            have O3 : Hid (OwnH w3 w.heap.size (.slice (some ⟨g, 0, none⟩) d vc) D) := HOr.out.below bl3
            have bel3 : Below w.heap.size w w3 := bel.trans (bl3.mono bel.size)
            clear bl3 hne SX SY HCm hc
            go_wp2
            exact ⟨⟨t + 1, by omega, by go_num, HL2, O3, bel3⟩, by simp [intOf]; omega⟩
          · have HXY : Hid (¬ y = x → cmpL x y < 0) := fun h => lt_of_not hx32 hy32 hc h
            generalize cmpL y x = c at *
            go_wp2_with fail
            refine wp_region_ext (by kernel_rfl) (by kernel_rfl) ?_
            repeat (first
              | (go_big_quiet_want; refine quiet_load_mid 31 _ rfl g (32 * t) rfl (bs y) _ (by rintro _ ⟨e, rfl⟩; exact e.range SY.out (hcs_pos hy32)) Tryd.underlying31 rfl (sizeH hy32) ?_; simp only [Act.put, List.setIfInBounds_toArray, List.set_cons_zero, List.set_cons_succ]; go_big_quiet_on)
              | (go_big_quiet_want; refine quiet_load_mid 31 _ rfl b (off + 32 * k) rfl (bs x) _ (by rintro _ ⟨e, rfl⟩; exact e.range SX.out (hcs_pos hx32)) Tryd.underlying31 rfl (sizeH hx32) ?_; simp only [Act.put, List.setIfInBounds_toArray, List.set_cons_zero, List.set_cons_succ]; go_big_quiet_on)
              | go_big_quiet_step (first | (go_at_call 73; exact ext_of (HCm.out _)) | fail))
            refine wpQuiet_nil ?_
            rintro w3 ⟨⟨_, bl3⟩, rfl⟩
            have O3 : Hid (OwnH w3 w.heap.size (.slice (some ⟨g, 0, none⟩) d vc) D) := HOr.out.below bl3
            have bel3 : Below w.heap.size w w3 := bel.trans (bl3.mono bel.size)
            have SX3 : Hid (w3.rangeAt b (off + 32 * k) (hcs x)) := rangeAt_below SX0.out bel3 hbB
            have SY3 : Hid (w3.rangeAt g (32 * t) (hcs y)) := rangeAt_below SY.out bl3 hgl
            have eqq := fun wx => eq23 y x hy32 hx32 wx
            clear bl3 hne SX SY HCm
            have hne : Nonempty (ExtT w3) := ExtT.some w3
            by_cases hyx : y = x
            · have hd : decide (y = x) = true := by simp [hyx]
              rw [hd] at eqq
              have HE : Hid (Srt (L.take (k + 1)) D) := srt_next HX.out HSr.out HSr.out.1 HSr.out.2.1 (fun z => ⟨fun h => .inl h, fun h => h.elim id (fun e => by rw [e, ← hyx]; exact List.mem_of_getElem? HY.out)⟩)
              clear hd hyx
              go_wp2_with fail
              refine wp_region_ext (by kernel_rfl) (by kernel_rfl) ?_
              repeat (first
                | (go_big_quiet_want; refine quiet_load_mid 31 _ rfl g (32 * t) rfl (bs y) _ (by rintro _ ⟨e, rfl⟩; exact e.range SY3.out (hcs_pos hy32)) Tryd.underlying31 rfl (sizeH hy32) ?_; simp only [Act.put, List.setIfInBounds_toArray, List.set_cons_zero, List.set_cons_succ]; go_big_quiet_on)
                | (go_big_quiet_want; refine quiet_load_mid 31 _ rfl b (off + 32 * k) rfl (bs x) _ (by rintro _ ⟨e, rfl⟩; exact e.range SX3.out (hcs_pos hx32)) Tryd.underlying31 rfl (sizeH hx32) ?_; simp only [Act.put, List.setIfInBounds_toArray, List.set_cons_zero, List.set_cons_succ]; go_big_quiet_on)
                | go_big_quiet_step (fail))
              refine wpQuiet_nil ?_
              rintro w4 ⟨⟨_, bl4⟩, rfl⟩
              have OW4 : Hid (OwnH w4 w.heap.size (.slice (some ⟨g, 0, none⟩) d vc) D) := O3.out.below bl4
              have bel4 : Below w.heap.size w w4 := bel3.trans (bl4.mono bel3.size)
              clear bl4 hne O3 bel3 SX3 SY3
              go_wp2
              exact ⟨⟨k + 1, D, some ⟨g, 0, none⟩, vc, d, by omega, by omega, by go_num, rfl, HD, OW4, HE, bel4⟩, by simp [intOf]; omega⟩
            · have hd : decide (y = x) = false := by simp [hyx]
              rw [hd] at eqq
              have HHi : Hid (∀ z, D[t]? = some z → cmpL x z < 0) := fun z hz => by
                rw [HY.out] at hz
                cases hz
                exact HXY.out hyx
              clear hd hyx
              go_wp2_with fail
              refine wp_region_ext (by kernel_rfl) (by kernel_rfl) ?_
              repeat (first
                | (go_big_quiet_want; refine quiet_load_mid 31 _ rfl g (32 * t) rfl (bs y) _ (by rintro _ ⟨e, rfl⟩; exact e.range SY3.out (hcs_pos hy32)) Tryd.underlying31 rfl (sizeH hy32) ?_; simp only [Act.put, List.setIfInBounds_toArray, List.set_cons_zero, List.set_cons_succ]; go_big_quiet_on)
                | (go_big_quiet_want; refine quiet_load_mid 31 _ rfl b (off + 32 * k) rfl (bs x) _ (by rintro _ ⟨e, rfl⟩; exact e.range SX3.out (hcs_pos hx32)) Tryd.underlying31 rfl (sizeH hx32) ?_; simp only [Act.put, List.setIfInBounds_toArray, List.set_cons_zero, List.set_cons_succ]; go_big_quiet_on)
                | go_big_quiet_step (fail))
              refine wpQuiet_nil ?_
              rintro w4 ⟨⟨_, bl4⟩, rfl⟩
              have OW4 : Hid (OwnH w4 w.heap.size (.slice (some ⟨g, 0, none⟩) d vc) D) := O3.out.below bl4
              have bel4 : Below w.heap.size w w4 := bel3.trans (bl4.mono bel3.size)
              clear bl4 hne O3 bel3 SX3 SY3
              have O1 : Hid (OwnH (w4.alloc (.cells (bs z32) 31)) w.heap.size (.slice (some ⟨g, 0, none⟩) d vc) D) := OW4.out.below ((Below.refl _ _).alloc (Nat.le_refl _) _)
              have be1 : Below w.heap.size w (w4.alloc (.cells (bs z32) 31)) := bel4.alloc bel4.size _
              have B1 : Hid (Hl (w4.alloc (.cells (bs z32) 31)) (some ⟨w4.heap.size, 0, none⟩) [z32]) := hl_one w4
              have A1 : Hid (All32 [z32]) := (fun y h => by simp at h; subst h; exact z32_len : All32 [z32])
              have S1 : Hid (D.length + ([z32] : List (List UInt8)).length ≤ 4398046511104 + 4096) := (by rw [← HD.out]; simp; omega : D.length + ([z32] : List (List UInt8)).length ≤ 4398046511104 + 4096)
              have Z1 : Hid (w.heap.size ≤ (w4.alloc (.cells (bs z32) 31)).heap.size) := be1.size
              go_wp2_with (first | (at_builtin; refine wpList_appH rfl (.tmp 46) (.tmp 48) rfl w.heap.size (.slice (some ⟨g, 0, none⟩) d vc) D rfl O1.out ⟨w4.heap.size, 0, none⟩ 1 1 [z32] rfl rfl A1.out B1.out S1.out Z1.out ?_) | fail)
              intro v5 w5 own5 grow5 hv5
              have be5 : Below w.heap.size w w5 := be1.grown grow5 Z1.out (fun k hk => (World.ownsRow.lt O1.out.2 k hk).1)
              have hz5 : (D ++ [z32]).length = d + 1 := by rw [List.length_append, ← HD.out]; rfl
              obtain ⟨g5, c5, rfl, hc5, hm5, hg5, hbox5, hs5⟩ := own5.box (by omega)
              rw [hz5] at hc5 ⊢
              have HB5 : Hid (Box w5 g5 c5) := hbox5
              have HS5 : Hid (Hs w5 g5 0 (D ++ [z32])) := hs5
              have HF5 : Hid (Shf D (D ++ [z32]) d) := (by have := shf_zero HSr.out.2.1; rwa [← HD.out] at this : Shf D (D ++ [z32]) d)
              have HM5 : Hid (c5 ≤ maxLen) := hm5
              clear own5 grow5 hv5 hz5 hbox5 hs5 hm5 O1 B1 A1 S1 Z1 be1 OW4 bel4
              go_wp2
              go_loopw [6] (fun i wq => ∃ (m : Nat) (X : List (List UInt8)), t ≤ m ∧ m ≤ d ∧ i = .int .i64 m ∧ Hid (Shf D X m) ∧ Hid (Hs wq g5 0 X) ∧ Hid (Box wq g5 c5) ∧ Below w.heap.size w wq) (fun i _ => (intOf i).toNat)
              case atStart => exact ⟨d, D ++ [z32], by omega, Nat.le_refl _, by go_num, HF5, HS5, HB5, be5⟩
              case round =>
                clear HF5 HS5 HB5 be5 bel
                obtain ⟨m, X, htm, hmd, rfl, HF, HSx, HBx, bel⟩ := hrel
                by_cases hlt : t < m
                · obtain ⟨q, hq⟩ : ∃ q, D[m - 1]? = some q := ⟨_, List.getElem?_eq_getElem (by have := HD.out; omega)⟩
                  have hq32 := HSr.out.2.1.get hq
                  have SQ : Hid (wr.rangeAt g5 (32 * (m - 1)) (hcs q)) := (by have := HSx.out (m - 1) q ((HF.out.2.2.1 (m - 1) (by omega)).trans hq); rwa [Nat.zero_add] at this : wr.rangeAt g5 (32 * (m - 1)) (hcs q))
                  have ix1 : ∀ wx, (Instr.indexAt 32 (.slice (some ⟨g5, 0, none⟩) (d + 1) c5) (.int .i64 ((m : Int) - 1))).run Tryd.prog wx = .ok (.pointer (some ⟨g5, 32 * (m - 1), none⟩)) wx := fun wx => (by
                    have := indexH g5 0 (d + 1) c5 (m - 1) wx (by omega)
                    rwa [Nat.zero_add, show ((m - 1 : Nat) : Int) = (m : Int) - 1 by omega] at this)
                  have ix2 := fun wx => indexH g5 0 (d + 1) c5 m wx (by omega)
                  simp only [Nat.zero_add] at ix2
                  have hXl : X.length = d + 1 := by rw [HF.out.1, ← HD.out]
                  have HTm : Hid (wr.there g5 (32 * m) 32) := (by have := there_part (m := 32) (i := 32 * m) (HBx.out.there hc5) (by omega); rwa [Nat.zero_add] at this : wr.there g5 (32 * m) 32)
                  have HF2 : Hid (Shf D (X.set m q) (m - 1)) := shf_step HF.out (by omega) (by have := HD.out; omega) hq hq32
                  have HS2 : Hid (Hs (wr.setCells g5 (32 * m) (hcs q)) g5 0 (X.set m q)) := (by
                    have := Hs.set HSx.out HF.out.2.1 m q hq32 (by omega) (by rw [Nat.zero_add]; exact HTm.out)
                    rwa [Nat.zero_add] at this : Hs (wr.setCells g5 (32 * m) (hcs q)) g5 0 (X.set m q))
                  have HB2 : Hid (Box (wr.setCells g5 (32 * m) (hcs q)) g5 c5) := box_setCells g5 c5 _ _ _ HBx.out
                  have bel2 : Below w.heap.size w (wr.setCells g5 (32 * m) (hcs q)) := below_setCells bel hg5 _ _
                  clear hq HF HSx HBx hXl
                  go_wp2_with (first
                    | (refine wpList_load_mid rfl 31 _ rfl g5 (32 * (m - 1)) rfl (hcs q) _ SQ.out Tryd.underlying31 rfl (by rw [hcs_len, hq32]; exact hsH) ?_; rw [hcs_arr])
                    | (refine wpList_store_mid rfl 31 _ _ rfl g5 (32 * m) (bs q) rfl rfl (by rw [bs_size, hq32]; exact HTm.out) (by rw [bs_size, hq32]; exact hsH) (bs_one _) ?_)
                    | fail)
                  exact ⟨⟨m - 1, X.set m q, by omega, by omega, int_pred (by omega), HF2, HS2, HB2, bel2⟩, by simp [intOf]; omega⟩
                · obtain rfl : t = m := by omega
                  have SX5 : Hid (wr.rangeAt b (off + 32 * k) (hcs x)) := rangeAt_below SX0.out bel hbB
                  have ix2 := fun wx => indexH g5 0 (d + 1) c5 t wx (by omega)
                  simp only [Nat.zero_add] at ix2
                  have HTm : Hid (wr.there g5 (32 * t) 32) := (by have := there_part (m := 32) (i := 32 * t) (HBx.out.there hc5) (by omega); rwa [Nat.zero_add] at this : wr.there g5 (32 * t) 32)
                  have hXl : X.length = d + 1 := by rw [HF.out.1, ← HD.out]
                  have HI : Hid (X.set t x = ins D t x) := shf_end HF.out (by rw [← HD.out]; omega)
                  have hil : (ins D t x).length = d + 1 := by rw [ins_len, ← HD.out]
                  have HS2 : Hid (Hs (wr.setCells g5 (32 * t) (hcs x)) g5 0 (ins D t x)) := (by
                    have := Hs.set HSx.out HF.out.2.1 t x hx32 (by omega) (by rw [Nat.zero_add]; exact HTm.out)
                    rwa [Nat.zero_add, HI.out] at this : Hs (wr.setCells g5 (32 * t) (hcs x)) g5 0 (ins D t x))
                  have HI32 : Hid (All32 (ins D t x)) := all32_ins HSr.out.2.1 t hx32
                  have HO2 : Hid (OwnH (wr.setCells g5 (32 * t) (hcs x)) w.heap.size (.slice (some ⟨g5, 0, none⟩) (d + 1) c5) (ins D t x)) := (by
                    have := ownH_mk (base := w.heap.size) HI32.out (box_setCells g5 c5 _ _ _ HBx.out) (by rw [hil]; exact hc5) HM5.out hg5 HS2.out
                    rwa [hil] at this : OwnH (wr.setCells g5 (32 * t) (hcs x)) w.heap.size (.slice (some ⟨g5, 0, none⟩) (d + 1) c5) (ins D t x))
                  have HI1 : Hid (d + 1 = (ins D t x).length) := hil.symm
                  have HS3 : Hid (Srt (L.take (k + 1)) (ins D t x)) := srt_next HX.out HSr.out (srise_ins HSr.out.2.1 HSr.out.1 hx32 (by rw [← HD.out]; omega) HLo.out HHi.out) HI32.out (fun y => ins_mem D t x y)
                  have bel2 : Below w.heap.size w (wr.setCells g5 (32 * t) (hcs x)) := below_setCells bel hg5 _ _
                  clear HF HSx HBx hXl hil HI HS2
                  go_wp2_with (first
                    | (refine wpList_load_mid rfl 31 _ rfl b (off + 32 * k) rfl (hcs x) _ SX5.out Tryd.underlying31 rfl (by rw [hcs_len, hx32]; exact hsH) ?_; rw [hcs_arr])
                    | (refine wpList_store_mid rfl 31 _ _ rfl g5 (32 * t) (bs x) rfl rfl (by rw [bs_size, hx32]; exact HTm.out) (by rw [bs_size, hx32]; exact hsH) (bs_one _) ?_)
                    | fail)
                  exact ⟨⟨k + 1, ins D t x, some ⟨g5, 0, none⟩, c5, d + 1, by omega, by omega, by go_num, rfl, HI1, HO2, HS3, bel2⟩, by simp [intOf]; omega⟩
        · obtain rfl : t = d := by omega
          have hne : Nonempty (ExtT wr) := ExtT.some wr
          go_wp2_with fail
          refine wp_region_ext (by kernel_rfl) (by kernel_rfl) ?_
          repeat (go_big_quiet_step (fail))
          refine wpQuiet_nil ?_
          rintro w3 ⟨⟨_, bl3⟩, rfl⟩
          have O3 : Hid (OwnH w3 w.heap.size (.slice va t vc) D) := HOr.out.below bl3
          have bel3 : Below w.heap.size w w3 := bel.trans (bl3.mono bel.size)
          clear bl3 hne SX
          have hne : Nonempty (ExtT w3) := ExtT.some w3
          go_wp2_with fail
          refine wp_region_ext (by kernel_rfl) (by kernel_rfl) ?_
          repeat (go_big_quiet_step (fail))
          refine wpQuiet_nil ?_
          rintro w4 ⟨⟨_, bl4⟩, rfl⟩
          have OW4 : Hid (OwnH w4 w.heap.size (.slice va t vc) D) := O3.out.below bl4
          have bel4 : Below w.heap.size w w4 := bel3.trans (bl4.mono bel3.size)
          clear bl4 hne O3 bel3
          have HHi : Hid (∀ y, D[t]? = some y → cmpL x y < 0) := fun y hy => by have := (List.getElem?_eq_some_iff.1 hy).1; have := HD.out; omega
          have O1 : Hid (OwnH (w4.alloc (.cells (bs z32) 31)) w.heap.size (.slice va t vc) D) := OW4.out.below ((Below.refl _ _).alloc (Nat.le_refl _) _)
          have be1 : Below w.heap.size w (w4.alloc (.cells (bs z32) 31)) := bel4.alloc bel4.size _
          have B1 : Hid (Hl (w4.alloc (.cells (bs z32) 31)) (some ⟨w4.heap.size, 0, none⟩) [z32]) := hl_one w4
          have A1 : Hid (All32 [z32]) := (fun y h => by simp at h; subst h; exact z32_len : All32 [z32])
          have S1 : Hid (D.length + ([z32] : List (List UInt8)).length ≤ 4398046511104 + 4096) := (by rw [← HD.out]; simp; omega : D.length + ([z32] : List (List UInt8)).length ≤ 4398046511104 + 4096)
          have Z1 : Hid (w.heap.size ≤ (w4.alloc (.cells (bs z32) 31)).heap.size) := be1.size
          go_wp2_with (first | (at_builtin; refine wpList_appH rfl (.tmp 46) (.tmp 48) rfl w.heap.size (.slice va t vc) D rfl O1.out ⟨w4.heap.size, 0, none⟩ 1 1 [z32] rfl rfl A1.out B1.out S1.out Z1.out ?_) | fail)
          intro v5 w5 own5 grow5 hv5
          have be5 : Below w.heap.size w w5 := be1.grown grow5 Z1.out (fun k hk => (World.ownsRow.lt O1.out.2 k hk).1)
          have hz5 : (D ++ [z32]).length = t + 1 := by rw [List.length_append, ← HD.out]; rfl
          obtain ⟨g5, c5, rfl, hc5, hm5, hg5, hbox5, hs5⟩ := own5.box (by omega)
          rw [hz5] at hc5 ⊢
          have HB5 : Hid (Box w5 g5 c5) := hbox5
          have HS5 : Hid (Hs w5 g5 0 (D ++ [z32])) := hs5
          have HF5 : Hid (Shf D (D ++ [z32]) t) := (by have := shf_zero HSr.out.2.1; rwa [← HD.out] at this : Shf D (D ++ [z32]) t)
          have HM5 : Hid (c5 ≤ maxLen) := hm5
          clear own5 grow5 hv5 hz5 hbox5 hs5 hm5 O1 B1 A1 S1 Z1 be1 OW4 bel4
          go_wp2
          go_loopw [6] (fun i wq => ∃ (m : Nat) (X : List (List UInt8)), t ≤ m ∧ m ≤ t ∧ i = .int .i64 m ∧ Hid (Shf D X m) ∧ Hid (Hs wq g5 0 X) ∧ Hid (Box wq g5 c5) ∧ Below w.heap.size w wq) (fun i _ => (intOf i).toNat)
          case atStart => exact ⟨t, D ++ [z32], by omega, Nat.le_refl _, by go_num, HF5, HS5, HB5, be5⟩
          case round =>
            clear HF5 HS5 HB5 be5 bel
            obtain ⟨m, X, htm, hmd, rfl, HF, HSx, HBx, bel⟩ := hrel
            by_cases hlt : t < m
            · omega
            · obtain rfl : t = m := by omega
              have SX5 : Hid (wr.rangeAt b (off + 32 * k) (hcs x)) := rangeAt_below SX0.out bel hbB
              have ix2 := fun wx => indexH g5 0 (t + 1) c5 t wx (by omega)
              simp only [Nat.zero_add] at ix2
              have HTm : Hid (wr.there g5 (32 * t) 32) := (by have := there_part (m := 32) (i := 32 * t) (HBx.out.there hc5) (by omega); rwa [Nat.zero_add] at this : wr.there g5 (32 * t) 32)
              have hXl : X.length = t + 1 := by rw [HF.out.1, ← HD.out]
              have HI : Hid (X.set t x = ins D t x) := shf_end HF.out (by rw [← HD.out]; omega)
              have hil : (ins D t x).length = t + 1 := by rw [ins_len, ← HD.out]
              have HS2 : Hid (Hs (wr.setCells g5 (32 * t) (hcs x)) g5 0 (ins D t x)) := (by
                have := Hs.set HSx.out HF.out.2.1 t x hx32 (by omega) (by rw [Nat.zero_add]; exact HTm.out)
                rwa [Nat.zero_add, HI.out] at this : Hs (wr.setCells g5 (32 * t) (hcs x)) g5 0 (ins D t x))
              have HI32 : Hid (All32 (ins D t x)) := all32_ins HSr.out.2.1 t hx32
              have HO2 : Hid (OwnH (wr.setCells g5 (32 * t) (hcs x)) w.heap.size (.slice (some ⟨g5, 0, none⟩) (t + 1) c5) (ins D t x)) := (by
                have := ownH_mk (base := w.heap.size) HI32.out (box_setCells g5 c5 _ _ _ HBx.out) (by rw [hil]; exact hc5) HM5.out hg5 HS2.out
                rwa [hil] at this : OwnH (wr.setCells g5 (32 * t) (hcs x)) w.heap.size (.slice (some ⟨g5, 0, none⟩) (t + 1) c5) (ins D t x))
              have HI1 : Hid (t + 1 = (ins D t x).length) := hil.symm
              have HS3 : Hid (Srt (L.take (k + 1)) (ins D t x)) := srt_next HX.out HSr.out (srise_ins HSr.out.2.1 HSr.out.1 hx32 (by rw [← HD.out]; omega) HLo.out HHi.out) HI32.out (fun y => ins_mem D t x y)
              have bel2 : Below w.heap.size w (wr.setCells g5 (32 * t) (hcs x)) := below_setCells bel hg5 _ _
              clear HF HSx HBx hXl hil HI HS2
              go_wp2_with (first
                | (refine wpList_load_mid rfl 31 _ rfl b (off + 32 * k) rfl (hcs x) _ SX5.out Tryd.underlying31 rfl (by rw [hcs_len, hx32]; exact hsH) ?_; rw [hcs_arr])
                | (refine wpList_store_mid rfl 31 _ _ rfl g5 (32 * t) (bs x) rfl rfl (by rw [bs_size, hx32]; exact HTm.out) (by rw [bs_size, hx32]; exact hsH) (bs_one _) ?_)
                | fail)
              exact ⟨⟨k + 1, ins D t x, some ⟨g5, 0, none⟩, c5, t + 1, by omega, by omega, by go_num, rfl, HI1, HO2, HS3, bel2⟩, by simp [intOf]; omega⟩
    · obtain rfl : k = n := by omega
      have HE : Hid (Srt L D) := (by have := HSr.out; rwa [HN.out, List.take_length] at this : Srt L D)
      go_wp2
      go_ret
      exact ⟨_, D, rfl, HE.out, HOr.out, bel⟩
end Go.Proofs.YtbpmpcmmdiaiiaaDoor

