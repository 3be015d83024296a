import Derived.Test.YtpalbfkkegaliaaFi
import Derived.Test.YtpalbfkkegaliaaDg
namespace Go.Proofs.Ytpalbfkkegaliaa
open Go.RowKit
set_option linter.unusedVariables false
set_option linter.unusedSimpArgs false

theorem good_all {s : ByteArray} (h : s.size ≤ 64) (hd : AllDg s) : good s.data.toList = s.size :=
  goodOf_eq 64 _ s.size h (by rw [len_str]; exact Nat.le_refl _) hd (.inr (.inl (by rw [len_str])))
theorem good_not {s : ByteArray} {k : Nat} (hk : k < s.size) (h64 : s.size ≤ 64) (hd : ∀ j, j < k → isDg (at8 s.data.toList j) = true) (hn : isDg (at8 s.data.toList k) = false) : good s.data.toList ≠ s.size := by
  rw [good, goodOf_eq 64 _ k (by omega) (by rw [len_str]; omega) hd (.inr (.inr hn))]
  omega
theorem resRFind (tmps : Array Value) (w : World) (g : Nat) (t : TypeId) (l : List UInt8) (hl : l.length = 32) (fr : Nat × Nat) (b : Value) (hp : tmps[4]?.getD undef = .pointer (some ⟨g, 0, none⟩))
    (h3 : tmps[5]?.getD undef = b) (hg : w.heap[g]? = some (.cells (bs l) t fr)) :
    (results Try.f7 tmps).run Try.prog w = .ok (.tuple #[.agg (bs l), b]) w := by
  simp [results, Try.results7, hp, h3, asAddr, load23 w g t l hl fr hg]
/-- The place of what was found. -/
def Fnd (L : List (List UInt8)) (k : Nat) (st : Option (List UInt8)) (i : Int) : Prop :=
  match st with
  | none => i = -1
  | some f => ∃ j : Nat, i = (j : Int) ∧ j < k ∧ L[j]? = some f
theorem str_same {a b : ByteArray} : (a.toList == b.toList) = decide (a = b) := by
  rw [ByteArray.toList_eq, ByteArray.toList_eq]
  by_cases h : a = b
  · subst h; simp
  · have : ¬ a.data = b.data := fun e => h (Go.WideShapes.bytes_inj (by rw [e]))
    simp [h, this]
theorem str_eq (h : List UInt8) (s : ByteArray) : ((⟨(hexl h s.size).toArray⟩ : ByteArray) = s) ↔ beg h s = true := by
  unfold beg
  rw [decide_eq_true_eq]
  constructor
  · intro e
    have := congrArg (fun x : ByteArray => x.data.toList) e
    simpa using this
  · intro e
    rw [e]

set_option maxRecDepth 100000 in
set_option maxHeartbeats 1000000 in
theorem rfind_any (s : ByteArray) (hs : s.size ≤ maxLen) (a : Option Addr) (L : List (List UInt8)) (cap : Nat) (w : World) (hL : All32 L) (hb : L.length ≤ 4398046511104) (hl : Hl w a L) :
    Calls Try.prog 7 #[.string s, .slice a L.length cap] w fun e w' => e = .returned (.tuple #[.agg (bs (findA s L).1), .int .i64 (findA s L).2]) ∧ Below w.heap.size w w' := by
  have hzs : (bs z32).size = 32 := by rw [bs_size]; rfl
  unfold maxLen at hs
  obtain ⟨ans, hans⟩ : ∃ v, v = findA s L := ⟨_, rfl⟩
  rw [← hans]
  have HAN : Hid (ans = findA s L) := hans
  obtain ⟨n, hn⟩ : ∃ n, n = L.length := ⟨_, rfl⟩
  rw [← hn] at hb ⊢
  have HN : Hid (n = L.length) := hn
  clear hn hans
  by_cases h64 : s.size ≤ 64
  · have h64' : ¬ (64 : Int) < (s.size : Int) := by omega
    go_enter Try.func7, Try.ntmps7
    go_wp2_with (first | (refine wpList_alloc_row rfl 25 rfl (bs z32) (hz23 _) ?_) | fail)
    go_loopw [6] (fun i wr => ∃ k : Nat, k ≤ s.size ∧ i = .int .i64 k ∧ Hid (∀ j, j < k → isDg (at8 s.data.toList j) = true) ∧ wr.heap[w.heap.size]? = some (.cells (bs z32) 25 (0, 0)) ∧ Below w.heap.size w wr) (fun i _ => s.size - (intOf i).toNat)
    case atStart => exact ⟨0, by omega, rfl, (fun j hj => by omega : ∀ j, j < 0 → isDg (at8 s.data.toList j) = true), heap_alloc_new _ _, (Below.refl _ _).alloc (Nat.le_refl _) _⟩
    case round =>
      obtain ⟨k, hk, rfl, hdg, hb0, bel⟩ := hrel
      by_cases hks : k < s.size
      · have hix := fun wx => index_str s k wx hks
        have HD : Hid (∀ wx, Calls Try.prog 15 #[.int .u8 (at8 s.data.toList k)] wx fun e w' => e = .returned (.int .i64 (dgNo (at8 s.data.toList k))) ∧ w' = wx) := fun wx => digit_any _ wx (at8_lo _ _) (at8_hi _ _)
        by_cases hd : isDg (at8 s.data.toList k) = true
        · have hno : dgNo (at8 s.data.toList k) = dgVal (at8 s.data.toList k) := by unfold dgNo; rw [if_pos hd]
          have hv := (dgVal_digit hd).1
          have HDD : Hid (∀ j, j < k + 1 → isDg (at8 s.data.toList j) = true) := (fun j hj => by
            by_cases e : j = k
            · subst e; exact hd
            · exact hdg.out j (by omega) : ∀ j, j < k + 1 → isDg (at8 s.data.toList j) = true)
          rw [hno] at HD
          clear hno hd
          generalize dgVal (at8 s.data.toList k) = v at *
          have hv' : ¬ v < 0 := by omega
          generalize at8 s.data.toList k = z at *
          go_wp2_with (first | (go_at_call 15; refine (HD.out _).mono ?_; rintro e w' ⟨rfl, rfl⟩) | fail)
          exact ⟨⟨k + 1, by omega, by go_num, HDD, hb0, bel⟩, by simp [intOf]; omega⟩
        · have hno : dgNo (at8 s.data.toList k) = -1 := by unfold dgNo; rw [if_neg hd]
          rw [hno] at HD
          have HE : Hid (ans = (z32, 10)) := (by
            rw [HAN.out]
            unfold findA
            rw [if_neg]
            intro h
            exact good_not hks h64 hdg.out (by simpa using hd) h.2 : ans = (z32, 10))
          clear hno hd
          generalize at8 s.data.toList k = z at *
          go_wp2_with (first | (go_at_call 15; refine (HD.out _).mono ?_; rintro e w' ⟨rfl, rfl⟩) | (refine wpList_build_row rfl 25 rfl (bs z32) hb23 ?_) | (refine wpList_store_row rfl 25 _ _ rfl w.heap.size (bs z32) rfl rfl 25 (bs z32) hb0 (by rw [hzs]; exact hs23) rfl (bs_one _) ?_) | fail)
          exact bodyPost_ret (resRFind _ _ w.heap.size 25 z32 rfl (0, 0) _ rfl rfl (setRow_heap _ _ _ _ _ _ hb0)) rfl ⟨ret_val (by rw [HE.out]; rfl), bel.trans (below_setRow _ _ _ _ (Nat.le_refl _))⟩
      · obtain rfl : k = s.size := by omega
        have HDg : Hid (AllDg s) := hdg
        have HA : Hid (ans = findG s none L) := (by rw [HAN.out]; unfold findA; rw [if_pos ⟨h64, good_all h64 hdg.out⟩] : ans = findG s none L)
        clear hdg
        go_wp2
        go_loopw [7, 8] (fun f i wr => ∃ k : Nat, ∃ st : Option (List UInt8), ∃ fi : Int, k ≤ n ∧ i = .int .i64 k ∧ f = .int .i64 fi ∧ Hid (Fnd L k st fi) ∧ Hid (findG s st (L.drop k) = ans) ∧
          wr.heap[w.heap.size]? = some (.cells (bs z32) 25 (0, 0)) ∧ Below w.heap.size w wr) (fun _ i _ => n - (intOf i).toNat)
        case atStart => exact ⟨0, none, -1, by omega, rfl, rfl, (rfl : (-1 : Int) = -1), HA.out.symm, hb0, bel⟩
        case round =>
          clear hb0 bel
          obtain ⟨k, st, fi, hk, rfl, rfl, hfi, hst, hb0, bel⟩ := hrel
          by_cases hkn : k < n
          · have hkL : k < L.length := by rw [← HN.out]; exact hkn
            obtain ⟨b, off, rfl, hsA⟩ := hl.at hkL
            obtain ⟨x, hx⟩ : ∃ x, L[k]? = some x := ⟨_, List.getElem?_eq_getElem hkL⟩
            have hx32 := hL.get hx
            have hbB : b < w.heap.size := hsA.lt hL (by omega)
            have HR : Hid (wr.rangeAt b (off + 32 * k) (hcs x)) := rangeAt_below (hsA k x hx) bel hbB
            have ix1 := fun wx => indexH b off n cap k wx hkn
            have HSH : Hid (∀ wx, Calls Try.prog 16 #[.agg (bs x), .int .i64 (s.size : Int)] wx fun e w' => e = .returned (.string ⟨(hexl x s.size).toArray⟩) ∧ Below wx.heap.size wx w') := fun wx => (by
              have h := rshort_any x hx32 (s.size : Int) wx
              have e : upTo (s.size : Int) = s.size := by unfold upTo; rw [if_neg (by omega), if_neg (by omega)]; omega
              rwa [e] at h)
            have hTs := str_eq x s
            have hdr := drop_at hx
            rw [hdr] at hst
            have HX : Hid (L[k]? = some x) := hx
            clear hdr hx
            generalize (⟨(hexl x s.size).toArray⟩ : ByteArray) = T at *
            cases hbg : beg x s
            · have hT : (T.toList == s.toList) = false := by rw [str_same]; simp [hTs, hbg]
              have HS : Hid (findG s st (L.drop (k + 1)) = ans) := (by
                have := hst.out
                cases st <;> simpa [findG, hbg] using this : findG s st (L.drop (k + 1)) = ans)
              have HF : Hid (Fnd L (k + 1) st fi) := (by
                have := hfi.out
                cases st with
                | none => exact this
                | some f => obtain ⟨j, h1, h2, h3⟩ := this; exact ⟨j, h1, by omega, h3⟩ : Fnd L (k + 1) st fi)
              clear hst hbg hTs hsA
              go_wp2_with (first
                | (refine wpList_load_mid rfl 25 _ rfl b (off + 32 * k) rfl (hcs x) _ HR.out Try.underlying25 rfl (by rw [hcs_len, hx32]; exact hsH) ?_; rw [hcs_arr])
                | fail)
              refine (HSH.out _).mono ?_
              rintro e w2 ⟨rfl, bl2⟩
              have c0 : w2.heap[w.heap.size]? = some (.cells (bs z32) 25 (0, 0)) := by rw [bl2.block _ (Array.getElem?_eq_some_iff.1 hb0).1]; exact hb0
              go_wp2
              exact ⟨⟨k + 1, st, fi, by omega, by go_num, by trivial, HF, HS, c0, bel.trans (bl2.mono bel.size)⟩, by simp [intOf]; omega⟩
            · have hT : T = s := hTs.2 hbg
              subst hT
              have HFx : Hid (Fnd L (k + 1) (some x) (k : Int)) := ⟨k, rfl, by omega, HX.out⟩
              have HSH2 := HSH
              cases st with
              | none =>
                have hfi' : fi = -1 := hfi.out
                subst hfi'
                have HS : Hid (findG T (some x) (L.drop (k + 1)) = ans) := (by
                  have := hst.out
                  simpa [findG, hbg] using this : findG T (some x) (L.drop (k + 1)) = ans)
                clear hst hbg hTs hsA
                go_wp2_with (first
                  | (refine wpList_load_mid rfl 25 _ rfl b (off + 32 * k) rfl (hcs x) _ HR.out Try.underlying25 rfl (by rw [hcs_len, hx32]; exact hsH) ?_; rw [hcs_arr])
                  | fail)
                refine (HSH.out _).mono ?_
                rintro e w2 ⟨rfl, bl2⟩
                have c0 : w2.heap[w.heap.size]? = some (.cells (bs z32) 25 (0, 0)) := by rw [bl2.block _ (Array.getElem?_eq_some_iff.1 hb0).1]; exact hb0
                go_wp2_with fail
                have hne : Nonempty (ExtT w2) := ExtT.some w2
                refine wp_region_ext (by kernel_rfl) (by kernel_rfl) ?_
                repeat (go_big_quiet_step (fail))
                refine wpQuiet_nil ?_
                rintro w3 ⟨⟨_, bl3⟩, rfl⟩
                have d0 : w3.heap[w.heap.size]? = some (.cells (bs z32) 25 (0, 0)) := by rw [bl3.block _ (Array.getElem?_eq_some_iff.1 c0).1]; exact c0
                go_wp2
                exact ⟨⟨k + 1, some x, _, by omega, by go_num, rfl, HFx, HS, d0, bel.trans ((bl2.mono bel.size).trans (bl3.mono (by have := bl2.size; have := bel.size; omega)))⟩, by simp [intOf]; omega⟩
              | some f =>
                obtain ⟨j, rfl, hjk, hjf⟩ := hfi.out
                have hf : f.length = 32 := hL.get hjf
                have HRJ : Hid (wr.rangeAt b (off + 32 * j) (hcs f)) := rangeAt_below (hsA j f hjf) bel hbB
                have ix2 := fun wx => indexH b off n cap j wx (by omega)
                have hj0 : ¬ (j : Int) < 0 := by omega
                have eqq : ∀ wx, (Op.equalIn 10000 25 (.agg (bs f)) (.agg (bs x))).run Try.prog wx = .ok (decide (f = x)) wx := fun wx => eq23 f x hf hx32 wx
                by_cases hxf : x = f
                · subst hxf
                  have HS : Hid (findG T (some x) (L.drop (k + 1)) = ans) := (by
                    have := hst.out
                    simpa [findG, hbg] using this : findG T (some x) (L.drop (k + 1)) = ans)
                  simp only [decide_true] at eqq
                  clear hst hbg hTs hsA hfi hjf
                  go_wp2_with (first
                    | (refine wpList_load_mid rfl 25 _ rfl b (off + 32 * k) rfl (hcs x) _ HR.out Try.underlying25 rfl (by rw [hcs_len, hx32]; exact hsH) ?_; rw [hcs_arr])
                    | fail)
                  refine (HSH.out _).mono ?_
                  rintro e w2 ⟨rfl, bl2⟩
                  have c0 : w2.heap[w.heap.size]? = some (.cells (bs z32) 25 (0, 0)) := by rw [bl2.block _ (Array.getElem?_eq_some_iff.1 hb0).1]; exact hb0
                  have S1 : Hid (w2.rangeAt b (off + 32 * k) (hcs x)) := rangeAt_below HR.out bl2 (by have := bel.size; omega)
                  have S2 : Hid (w2.rangeAt b (off + 32 * j) (hcs x)) := rangeAt_below HRJ.out bl2 (by have := bel.size; omega)
                  go_wp2_with fail
                  have hne : Nonempty (ExtT w2) := ExtT.some w2
                  refine wp_region_ext (by kernel_rfl) (by kernel_rfl) ?_
                  repeat (first
                    | (go_big_quiet_want; refine quiet_load_mid 25 _ rfl b (off + 32 * j) rfl (bs x) _ (by rintro _ ⟨e, rfl⟩; exact e.range S2.out (hcs_pos hx32)) Try.underlying25 rfl (sizeH hx32) ?_; simp [Act.put]; go_big_quiet_on)
                    | (go_big_quiet_want; refine quiet_load_mid 25 _ rfl b (off + 32 * k) rfl (bs x) _ (by rintro _ ⟨e, rfl⟩; exact e.range S1.out (hcs_pos hx32)) Try.underlying25 rfl (sizeH hx32) ?_; simp [Act.put]; go_big_quiet_on)
                    | go_big_quiet_step (fail))
                  refine wpQuiet_nil ?_
                  rintro w3 ⟨⟨_, bl3⟩, rfl⟩
                  have d0 : w3.heap[w.heap.size]? = some (.cells (bs z32) 25 (0, 0)) := by rw [bl3.block _ (Array.getElem?_eq_some_iff.1 c0).1]; exact c0
                  go_wp2
                  exact ⟨⟨k + 1, some x, _, by omega, by go_num, rfl, HFx, HS, d0, bel.trans ((bl2.mono bel.size).trans (bl3.mono (by have := bl2.size; have := bel.size; omega)))⟩, by simp [intOf]; omega⟩
                · have HS : Hid (ans = (z32, 11)) := (by
                    have := hst.out
                    simp [findG, hbg, hxf] at this
                    exact this.symm : ans = (z32, 11))
                  have hd : decide (f = x) = false := by simp; exact fun e => hxf e.symm
                  simp only [hd] at eqq
                  clear hst hbg hTs hsA hfi hjf hd
                  go_wp2_with (first
                    | (refine wpList_load_mid rfl 25 _ rfl b (off + 32 * k) rfl (hcs x) _ HR.out Try.underlying25 rfl (by rw [hcs_len, hx32]; exact hsH) ?_; rw [hcs_arr])
                    | fail)
                  refine (HSH.out _).mono ?_
                  rintro e w2 ⟨rfl, bl2⟩
                  have c0 : w2.heap[w.heap.size]? = some (.cells (bs z32) 25 (0, 0)) := by rw [bl2.block _ (Array.getElem?_eq_some_iff.1 hb0).1]; exact hb0
                  have S1 : Hid (w2.rangeAt b (off + 32 * k) (hcs x)) := rangeAt_below HR.out bl2 (by have := bel.size; omega)
                  have S2 : Hid (w2.rangeAt b (off + 32 * j) (hcs f)) := rangeAt_below HRJ.out bl2 (by have := bel.size; omega)
                  go_wp2_with fail
                  have hne : Nonempty (ExtT w2) := ExtT.some w2
                  refine wp_region_ext (by kernel_rfl) (by kernel_rfl) ?_
                  repeat (first
                    | (go_big_quiet_want; refine quiet_load_mid 25 _ rfl b (off + 32 * j) rfl (bs f) _ (by rintro _ ⟨e, rfl⟩; exact e.range S2.out (hcs_pos hf)) Try.underlying25 rfl (sizeH hf) ?_; simp [Act.put]; go_big_quiet_on)
                    | (go_big_quiet_want; refine quiet_load_mid 25 _ rfl b (off + 32 * k) rfl (bs x) _ (by rintro _ ⟨e, rfl⟩; exact e.range S1.out (hcs_pos hx32)) Try.underlying25 rfl (sizeH hx32) ?_; simp [Act.put]; go_big_quiet_on)
                    | go_big_quiet_step (fail))
                  refine wpQuiet_nil ?_
                  rintro w3 ⟨⟨_, bl3⟩, rfl⟩
                  have d0 : w3.heap[w.heap.size]? = some (.cells (bs z32) 25 (0, 0)) := by rw [bl3.block _ (Array.getElem?_eq_some_iff.1 c0).1]; exact c0
                  go_wp2_with (first | (refine wpList_build_row rfl 25 rfl (bs z32) hb23 ?_) | (refine wpList_store_row rfl 25 _ _ rfl w.heap.size (bs z32) rfl rfl 25 (bs z32) d0 (by rw [hzs]; exact hs23) rfl (bs_one _) ?_) | fail)
                  refine bodyPost_ret (resRFind _ _ w.heap.size 25 z32 rfl (0, 0) _ rfl rfl (setRow_heap _ _ _ _ _ _ d0)) rfl ⟨ret_val (by rw [HS.out]; rfl), ?_⟩
                  exact (bel.trans ((bl2.mono bel.size).trans (bl3.mono (by have := bl2.size; have := bel.size; omega)))).trans (below_setRow _ _ _ _ (Nat.le_refl _))
          · obtain rfl : k = n := by omega
            have hans : ans = (fndH st, whyI st) := by
              have h1 := hst.out
              rw [List.drop_eq_nil_of_le (by rw [← HN.out]; omega)] at h1
              rw [← h1]
              cases st <;> rfl
            have HE : Hid (ans = (fndH st, whyI st)) := hans
            clear hans hst
            cases st with
            | none =>
              have hfi' : fi = -1 := hfi.out
              subst hfi'
              go_wp2_with (first | (refine wpList_build_row rfl 25 rfl (bs z32) hb23 ?_) | (refine wpList_store_row rfl 25 _ _ rfl w.heap.size (bs z32) rfl rfl 25 (bs z32) hb0 (by rw [hzs]; exact hs23) rfl (bs_one _) ?_) | fail)
              exact bodyPost_ret (resRFind _ _ w.heap.size 25 z32 rfl (0, 0) _ rfl rfl (setRow_heap _ _ _ _ _ _ hb0)) rfl ⟨ret_val (by rw [HE.out]; rfl), bel.trans (below_setRow _ _ _ _ (Nat.le_refl _))⟩
            | some f =>
              obtain ⟨j, rfl, hjk, hjf⟩ := hfi.out
              have hf : f.length = 32 := hL.get hjf
              obtain ⟨b, off, rfl, hsA⟩ := hl.at (List.getElem?_eq_some_iff.1 hjf).1
              have HRJ : Hid (wr.rangeAt b (off + 32 * j) (hcs f)) := rangeAt_below (hsA j f hjf) bel (hsA.lt hL (by have := (List.getElem?_eq_some_iff.1 hjf).1; omega))
              have ix2 := fun wx => indexH b off k cap j wx (by omega)
              have hj0 : ¬ (j : Int) < 0 := by omega
              clear hfi hjf hsA hl
              go_wp2_with (first
                | (refine wpList_load_mid rfl 25 _ rfl b (off + 32 * j) rfl (hcs f) _ HRJ.out Try.underlying25 rfl (by rw [hcs_len, hf]; exact hsH) ?_; rw [hcs_arr])
                | (refine wpList_store_row rfl 25 _ _ rfl w.heap.size (bs f) rfl rfl 25 (bs z32) hb0 (by rw [bs_size, hf]; exact hs23) (by rw [hzs, bs_size, hf]) (bs_one _) ?_) | fail)
              exact bodyPost_ret (resRFind _ _ w.heap.size 25 f hf (0, 0) _ rfl rfl (setRow_heap _ _ _ _ _ _ hb0)) rfl ⟨ret_val (by rw [HE.out]; rfl), bel.trans (below_setRow _ _ _ _ (Nat.le_refl _))⟩
  · have h64' : (64 : Int) < (s.size : Int) := by omega
    have HE : Hid (ans = (z32, 10)) := (by rw [HAN.out]; unfold findA; rw [if_neg (fun h => h64 h.1)] : ans = (z32, 10))
    go_enter Try.func7, Try.ntmps7
    go_wp2_with (first | (refine wpList_alloc_row rfl 25 rfl (bs z32) (hz23 _) ?_) | (refine wpList_build_row rfl 25 rfl (bs z32) hb23 ?_) | (refine wpList_store_row rfl 25 _ _ rfl w.heap.size (bs z32) rfl rfl 25 (bs z32) (heap_alloc_new _ _) (by rw [hzs]; exact hs23) rfl (bs_one _) ?_) | fail)
    rw [World.setRow_alloc_new]
    exact bodyPost_ret (resRFind _ _ w.heap.size 25 z32 rfl (0, 0) _ rfl rfl (heap_alloc_new _ _)) rfl ⟨ret_val (by rw [HE.out]; rfl), (Below.refl _ _).alloc (Nat.le_refl _) _⟩
end Go.Proofs.Ytpalbfkkegaliaa
