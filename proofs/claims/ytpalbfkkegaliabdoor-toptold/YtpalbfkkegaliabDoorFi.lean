import Derived.Test.YtpalbfkkegaliabDoorBg
import Derived.Test.YtpalbfkkegaliabDoorHk
namespace Go.Proofs.YtpalbfkkegaliabDoor
open Go.RowKit
set_option linter.unusedVariables false
set_option linter.unusedSimpArgs false

/-- What Find tells, some being looked at: the hash, the error. -/
def findG (s : ByteArray) : Option (List UInt8) → List (List UInt8) → List UInt8 × Int
  | none, [] => (z32, 4)
  | some f, [] => (f, 0)
  | none, h :: r => if beg h s then findG s (some h) r else findG s none r
  | some f, h :: r => if beg h s then (if h = f then findG s (some h) r else (z32, 11)) else findG s (some f) r
def findA (s : ByteArray) (L : List (List UInt8)) : List UInt8 × Int := if s.size ≤ 64 ∧ good s.data.toList = s.size then findG s none L else (z32, 10)
def fndH : Option (List UInt8) → List UInt8 | none => z32 | some f => f
def whyI : Option (List UInt8) → Int | none => 4 | some _ => 0
theorem drop_at {L : List (List UInt8)} {k : Nat} {x : List UInt8} (h : L[k]? = some x) : L.drop k = x :: L.drop (k + 1) := by
  obtain ⟨hk, e⟩ := List.getElem?_eq_some_iff.1 h
  rw [List.drop_eq_getElem_cons hk, e]
theorem allDg_of {s : ByteArray} (h : s.size ≤ 64 ∧ good s.data.toList = s.size) : AllDg s := by
  obtain ⟨h1, h2⟩ := h
  have key : ∀ n l k, goodOf n l = k → ∀ j, j < k → isDg (at8 l j) = true := by
    intro n
    induction n with
    | zero => intro l k h j hj; simp [goodOf] at h; omega
    | succ n ih =>
      intro l k h j hj
      cases l with
      | nil => simp [goodOf] at h; omega
      | cons a r =>
        cases ha : isDg (a.toNat : Int) with
        | false => simp [goodOf, ha] at h; omega
        | true =>
          simp only [goodOf, ha, if_true] at h
          cases j with
          | zero => rw [at8_zero]; exact ha
          | succ j => rw [at8_succ]; exact ih r _ rfl j (by omega)
  intro j hj
  exact key 64 _ _ h2 j hj
theorem goodOf_le (n : Nat) (l : List UInt8) : goodOf n l ≤ l.length := by
  induction n generalizing l with
  | zero => simp [goodOf]
  | succ n ih =>
    cases l with
    | nil => simp [goodOf]
    | cons a r => simp only [goodOf]; split; (have := ih r; simp; omega); simp

theorem resFind (tmps : Array Value) (w : World) (g : Nat) (t : TypeId) (l : List UInt8) (hl : l.length = 32) (fr : Nat × Nat) (b : Value) (hp : tmps[4]?.getD undef = .pointer (some ⟨g, 0, none⟩))
    (h3 : tmps[5]?.getD undef = b) (hg : w.heap[g]? = some (.cells (bs l) t fr)) :
    (results Tryd.f25 tmps).run Tryd.prog w = .ok (.tuple #[.agg (bs l), b]) w := by
  simp [results, Tryd.results25, hp, h3, asAddr, load23 w g t l hl fr hg]
theorem ret_val {a b : Value} (h : a = b) : Ending.returned a = .returned b := by rw [h]

set_option maxRecDepth 100000 in
set_option maxHeartbeats 1000000 in
theorem find_any (s : ByteArray) (hs : s.size ≤ maxLen) (a : Option Addr) (L : List (List UInt8)) (cap : Nat) (w : World) (hL : All32 L) (hb : L.length ≤ 4398046511104) (hl : Hl w a L) :
    Calls Tryd.prog 25 #[.string s, .slice a L.length cap] w fun e w' => e = .returned (.tuple #[.agg (bs (findA s L).1), .int .i64 (findA s L).2]) ∧ Below w.heap.size w w' := by
  have HGD : Hid (∀ wx, Calls Tryd.prog 73 #[.string s] wx fun e w' => e = .returned (.int .i64 (good s.data.toList)) ∧ w' = wx) := fun wx => goodDigits_any s wx hs
  have hzs : (bs z32).size = 32 := by rw [bs_size]; rfl
  unfold maxLen at hs
  have hgl : good s.data.toList ≤ s.size := by have := goodOf_le 64 s.data.toList; rw [len_str] at this; exact this
  by_cases hok : s.size ≤ 64 ∧ good s.data.toList = s.size
  · have HDg : Hid (AllDg s) := allDg_of hok
    have HA : Hid (findA s L = findG s none L) := (by unfold findA; rw [if_pos hok] : findA s L = findG s none L)
    obtain ⟨h64, hgood⟩ := hok
    rw [hgood] at HGD
    obtain ⟨ans, hans⟩ : ∃ v, v = findA s L := ⟨_, rfl⟩
    rw [← hans]
    have HAN : Hid (ans = findG s none L) := (by rw [hans, HA.out] : ans = findG s none L)
    obtain ⟨n, hn⟩ : ∃ n, n = L.length := ⟨_, rfl⟩
    rw [← hn] at hb ⊢
    have HN : Hid (n = L.length) := hn
    clear hn hans HA hgood hgl
    go_enter Tryd.func25, Tryd.ntmps25
    go_wp2_with (first | (go_at_call 73; refine (HGD.out _).mono ?_; rintro e w' ⟨rfl, rfl⟩) | (refine wpList_alloc_row rfl 36 rfl (bs z32) (hz23 _) ?_) | fail)
    go_loopw [7, 23] (fun y i wr => ∃ k : Nat, ∃ st : Option (List UInt8), k ≤ n ∧ i = .int .i64 k ∧ y = .int .i64 (whyI st) ∧ Hid ((fndH st).length = 32) ∧ Hid (findG s st (L.drop k) = ans) ∧
      wr.heap[w.heap.size]? = some (.cells (bs z32) 36 (0, 0)) ∧ wr.heap[w.heap.size + 1]? = some (.cells (bs (fndH st)) 36 (0, 0)) ∧ Below w.heap.size w wr) (fun _ i _ => n - (intOf i).toNat)
    case atStart => exact ⟨0, none, by omega, rfl, rfl, z32_len, HAN.out.symm, heap_alloc2_old _ _ _, heap_alloc2_new _ _ _, ((Below.refl _ _).alloc (Nat.le_refl _) _).alloc (by simp) _⟩
    case round =>
      obtain ⟨k, st, hk, rfl, rfl, hf32, hst, hb0, hb1, bel⟩ := hrel
      by_cases hkn : k < n
      · have hkL : k < L.length := by rw [← HN.out]; exact hkn
        obtain ⟨b, off, rfl, hsA⟩ := hl.at hkL
        obtain ⟨x, hx⟩ : ∃ x, L[k]? = some x := ⟨_, List.getElem?_eq_getElem hkL⟩
        have hx32 := hL.get hx
        have hbB : b < w.heap.size := hsA.lt hL (by omega)
        have HR : Hid (wr.rangeAt b (off + 32 * k) (hcs x)) := rangeAt_below (hsA k x hx) bel hbB
        have ix1 := fun wx => indexH b off n cap k wx hkn
        have hlt1 : w.heap.size + 1 < wr.heap.size := (Array.getElem?_eq_some_iff.1 hb1).1
        have HB : Hid (∀ wx, Calls Tryd.prog 74 #[.agg (bs x), .string s] wx fun e w' => e = .returned (.bool (beg x s)) ∧ Below wx.heap.size wx w') := fun wx => begins_any x hx32 s h64 HDg.out wx
        have hdr := drop_at hx
        rw [hdr] at hst
        clear hdr hl hsA
        go_wp2_with (first
          | (refine wpList_load_mid rfl 36 _ rfl b (off + 32 * k) rfl (hcs x) _ HR.out Tryd.underlying36 rfl (by rw [hcs_len, hx32]; exact hsH) ?_; rw [hcs_arr])
          | (refine wpList_alloc_row rfl 36 rfl (bs z32) (hz23 _) ?_)
          | (refine wpList_store_row rfl 36 _ _ rfl wr.heap.size (bs x) rfl rfl 36 (bs z32) (heap_alloc_new _ _) (by rw [bs_size, hx32]; exact hs23) (by rw [hzs, bs_size, hx32]) (bs_one _) ?_; rw [World.setRow_alloc_new])
          | (refine wpList_load_arr rfl 36 _ rfl wr.heap.size rfl 36 (bs x) (0, 0) _ (heap_alloc_new _ _) Tryd.underlying36 rfl (by rw [bs_size, hx32]; exact hs23) ?_)
          | fail)
        refine (HB.out _).mono ?_
        rintro e w2 ⟨rfl, bl2⟩
        have l2 : wr.heap.size + 1 ≤ w2.heap.size := by have := bl2.size; simpa using this
        have c0 : w2.heap[w.heap.size]? = some (.cells (bs z32) 36 (0, 0)) := by rw [bl2.block _ (by simp; omega), Below.heap_alloc _ _ _ (by omega)]; exact hb0
        have c1 : w2.heap[w.heap.size + 1]? = some (.cells (bs (fndH st)) 36 (0, 0)) := by rw [bl2.block _ (by simp; omega), Below.heap_alloc _ _ _ (by omega)]; exact hb1
        have c2 : w2.heap[wr.heap.size]? = some (.cells (bs x) 36 (0, 0)) := by rw [bl2.block _ (by simp)]; exact heap_alloc_new _ _
        have bel2 : Below w.heap.size w w2 := (bel.alloc (by omega) _).trans (bl2.mono (by simp; omega))
        have hgw : w.heap.size + 1 < wr.heap.size := hlt1
        clear HB HR bl2 hb0 hb1 bel
        generalize wr.heap.size = g at *
        cases hbg : beg x s
        · have HS : Hid (findG s st (L.drop (k + 1)) = ans) := (by
            have := hst.out
            cases st <;> simpa [findG, hbg] using this : findG s st (L.drop (k + 1)) = ans)
          clear hst hbg
          obtain ⟨y, hy⟩ : ∃ y, y = whyI st := ⟨_, rfl⟩
          rw [← hy]
          have HY : Hid (y = whyI st) := hy
          clear hy
          go_wp2
          exact ⟨⟨k + 1, st, by omega, by go_num, by rw [HY.out], hf32, HS, c0, c1, bel2⟩, by simp [intOf]; omega⟩
        · cases st with
          | none =>
            have HS : Hid (findG s (some x) (L.drop (k + 1)) = ans) := (by
              have := hst.out
              simpa [findG, hbg] using this : findG s (some x) (L.drop (k + 1)) = ans)
            have c1' : w2.heap[w.heap.size + 1]? = some (.cells (bs z32) 36 (0, 0)) := c1
            have e4 : whyI none = 4 := rfl
            clear hst hbg c1
            rw [e4]
            clear e4
            go_wp2_with (first
              | (refine wpList_load_arr rfl 36 _ rfl g rfl 36 (bs x) (0, 0) _ c2 Tryd.underlying36 rfl (by rw [bs_size, hx32]; exact hs23) ?_)
              | (refine wpList_store_row rfl 36 _ _ rfl (w.heap.size + 1) (bs x) rfl rfl 36 (bs z32) c1' (by rw [bs_size, hx32]; exact hs23) (by rw [hzs, bs_size, hx32]) (bs_one _) ?_)
              | fail)
            refine ⟨⟨k + 1, some x, by omega, by go_num, rfl, hx32, HS, ?_, setRow_heap _ _ _ _ _ _ c1', bel2.trans (below_setRow _ _ _ _ (by omega))⟩, by simp [intOf]; omega⟩
            rw [setRow_other _ _ _ _ (by omega)]; exact c0
          | some f =>
            have hf : f.length = 32 := hf32.out
            have c1' : w2.heap[w.heap.size + 1]? = some (.cells (bs f) 36 (0, 0)) := c1
            have e4 : whyI (some f) = 0 := rfl
            have eqq := fun wx => eq23 x f hx32 hf wx
            clear c1
            rw [e4]
            clear e4
            by_cases hxf : x = f
            · subst hxf
              have HS : Hid (findG s (some x) (L.drop (k + 1)) = ans) := (by
                have := hst.out
                simpa [findG, hbg] using this : findG s (some x) (L.drop (k + 1)) = ans)
              simp only [decide_true] at eqq
              clear hst hbg
              go_wp2_with (first
                | (refine wpList_load_arr rfl 36 (.tmp 9) rfl g rfl 36 (bs x) (0, 0) _ c2 Tryd.underlying36 rfl (by rw [bs_size, hx32]; exact hs23) ?_)
                | (refine wpList_load_arr rfl 36 (.tmp 6) rfl (w.heap.size + 1) rfl 36 (bs x) (0, 0) _ c1' Tryd.underlying36 rfl (by rw [bs_size, hx32]; exact hs23) ?_)
                | (refine wpList_store_row rfl 36 _ _ rfl (w.heap.size + 1) (bs x) rfl rfl 36 (bs x) c1' (by rw [bs_size, hx32]; exact hs23) rfl (bs_one _) ?_)
                | fail)
              refine ⟨⟨k + 1, some x, by omega, by go_num, rfl, hx32, HS, ?_, setRow_heap _ _ _ _ _ _ c1', bel2.trans (below_setRow _ _ _ _ (by omega))⟩, by simp [intOf]; omega⟩
              rw [setRow_other _ _ _ _ (by omega)]; exact c0
            · have HS : Hid (ans = (z32, 11)) := (by
                have := hst.out
                simp [findG, hbg, hxf] at this
                exact this.symm : ans = (z32, 11))
              have hd : decide (x = f) = false := by simp [hxf]
              simp only [hd] at eqq
              clear hst hbg hd
              go_wp2_with (first
                | (refine wpList_load_arr rfl 36 (.tmp 9) rfl g rfl 36 (bs x) (0, 0) _ c2 Tryd.underlying36 rfl (by rw [bs_size, hx32]; exact hs23) ?_)
                | (refine wpList_load_arr rfl 36 (.tmp 6) rfl (w.heap.size + 1) rfl 36 (bs f) (0, 0) _ c1' Tryd.underlying36 rfl (by rw [bs_size, hf]; exact hs23) ?_)
                | (refine wpList_build_row rfl 36 rfl (bs z32) hb23 ?_)
                | (refine wpList_store_row rfl 36 _ _ rfl w.heap.size (bs z32) rfl rfl 36 (bs z32) c0 (by rw [hzs]; exact hs23) rfl (bs_one _) ?_)
                | fail)
              refine bodyPost_ret (resFind _ _ w.heap.size 36 z32 rfl (0, 0) _ rfl rfl (setRow_heap _ _ _ _ _ _ c0)) rfl ⟨ret_val (by rw [HS.out]; rfl), ?_⟩
              exact bel2.trans (below_setRow _ _ _ _ (Nat.le_refl _))
      · obtain rfl : k = n := by omega
        have HE : Hid (ans = (fndH st, whyI st)) := (by
          have h1 := hst.out
          rw [List.drop_eq_nil_of_le (by rw [← HN.out]; omega)] at h1
          rw [← h1]
          cases st <;> rfl : ans = (fndH st, whyI st))
        have h32 := hf32.out
        clear hst
        generalize fndH st = f at *
        generalize whyI st = y at *
        go_wp2_with (first | (refine wpList_load_row rfl 36 _ rfl (w.heap.size + 1) rfl 36 (bs f) (0, 0) _ hb1 Tryd.underlying36 rfl (by rw [bs_size, h32]; exact hs23) ?_) | (refine wpList_store_row rfl 36 _ _ rfl w.heap.size (bs f) rfl rfl 36 (bs z32) hb0 (by rw [bs_size, h32]; exact hs23) (by rw [hzs, bs_size, h32]) (bs_one _) ?_) | fail)
        refine bodyPost_ret (resFind _ _ w.heap.size 36 f h32 (0, 0) _ rfl rfl (setRow_heap _ _ _ _ _ _ hb0)) rfl ⟨ret_val (by rw [HE.out]; rfl), ?_⟩
        exact bel.trans (below_setRow _ _ _ _ (Nat.le_refl _))
  · have HA : Hid (findA s L = (z32, 10)) := (by unfold findA; rw [if_neg hok] : findA s L = (z32, 10))
    obtain ⟨ans, hans⟩ : ∃ v, v = findA s L := ⟨_, rfl⟩
    rw [← hans]
    have HAN : Hid (ans = (z32, 10)) := (by rw [hans, HA.out] : ans = (z32, 10))
    clear hans HA
    by_cases h64 : s.size ≤ 64
    · have hgd : (good s.data.toList : Int) < (s.size : Int) := by omega
      clear hok hgl
      generalize good s.data.toList = q at *
      go_enter Tryd.func25, Tryd.ntmps25
      go_wp2_with (first | (go_at_call 73; refine (HGD.out _).mono ?_; rintro e w' ⟨rfl, rfl⟩) | (refine wpList_alloc_row rfl 36 rfl (bs z32) (hz23 _) ?_) | (refine wpList_build_row rfl 36 rfl (bs z32) hb23 ?_) | (refine wpList_store_row rfl 36 _ _ rfl w.heap.size (bs z32) rfl rfl 36 (bs z32) (heap_alloc_new _ _) (by rw [hzs]; exact hs23) rfl (bs_one _) ?_) | fail)
      rw [World.setRow_alloc_new]
      exact bodyPost_ret (resFind _ _ w.heap.size 36 z32 rfl (0, 0) _ rfl rfl (heap_alloc_new _ _)) rfl ⟨ret_val (by rw [HAN.out]; rfl), (Below.refl _ _).alloc (Nat.le_refl _) _⟩
    · have h64' : (64 : Int) < (s.size : Int) := by omega
      clear hok hgl
      go_enter Tryd.func25, Tryd.ntmps25
      go_wp2_with (first | (refine wpList_alloc_row rfl 36 rfl (bs z32) (hz23 _) ?_) | (refine wpList_build_row rfl 36 rfl (bs z32) hb23 ?_) | (refine wpList_store_row rfl 36 _ _ rfl w.heap.size (bs z32) rfl rfl 36 (bs z32) (heap_alloc_new _ _) (by rw [hzs]; exact hs23) rfl (bs_one _) ?_) | fail)
      rw [World.setRow_alloc_new]
      exact bodyPost_ret (resFind _ _ w.heap.size 36 z32 rfl (0, 0) _ rfl rfl (heap_alloc_new _ _)) rfl ⟨ret_val (by rw [HAN.out]; rfl), (Below.refl _ _).alloc (Nat.le_refl _) _⟩
end Go.Proofs.YtpalbfkkegaliabDoor
