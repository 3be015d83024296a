import Derived.Test.YthffcdahjcpdfaaGreatDoorGQLv
import Derived.Laws.BytesArg
import Derived.Laws.IdiomStrings
namespace Go.Proofs.YthffcdahjcpdfaaGreatDoor.Q
open Go.RowKit
set_option linter.unusedVariables false
set_option linter.unusedSimpArgs false

/-- A text in quotes. -/
def quoL (l : List UInt8) : List UInt8 := [34] ++ l.flatMap escB ++ [34]
theorem made_bs (n : Nat) : madeCells #[.int .u8 0] n = bs (List.replicate n 0) := by
  apply Array.ext
  · simp [madeCells, bs]
  · intro i h1 h2
    simp [madeCells, bs, Nat.mod_one]
theorem quoL_len (l : List UInt8) : (quoL l).length ≤ 6 * l.length + 2 := by
  have := esc_total l
  simp [quoL] at *
  omega
set_option maxRecDepth 100000 in
set_option maxHeartbeats 2000000 in
theorem quote_yes (s : ByteArray) (w : World) (hs : s.size ≤ 16777216) (hT : Tabs w) (hv : Lib.validD s.data.toList = true) :
    Calls Tryz.prog 45 #[.string s] w fun e w' => e = .returned (.string ⟨(quoL s.data.toList).toArray⟩) ∧ Below w.heap.size w w' := by
  have HV : Hid (Calls Tryz.prog 54 #[.string s] w fun e w' => e = .returned (.bool true) ∧ Below w.heap.size w w') := (valid_any s w (by omega) hT).mono fun e w' h => ⟨by rw [h.1, hv], h.2⟩
  obtain ⟨i0, hi, hz0, hz1, hz2⟩ := info5'
  have hmk : ∀ wx : World, (Instr.makeSlice 66 (.int .i64 0) (.int .i64 ((s.size : Int) + 2))).run Tryz.prog wx = .ok (.slice (some ⟨wx.heap.size, 0, none⟩) 0 (s.size + 2)) (wx.alloc (.cells (bs (List.replicate (s.size + 2) 0)) 5)) := fun wx => by
    have h := run_make (P := Tryz.prog) wx 66 5 i0 (.int .u8 0) Tryz.underlying66 hi hz0 .i64 .i64 0 ((s.size : Int) + 2) (by omega) (by omega) (by rw [hz2]; omega) (by omega)
    rw [hz1, Nat.mul_one, show ((s.size : Int) + 2).toNat = s.size + 2 by omega, show ((0 : Int)).toNat = 0 from rfl] at h
    rw [h]
    congr 3
    exact made_bs _
  clear hi hz0 hz1 hz2 hT
  go_enter Tryz.func45, Tryz.ntmps45
  go_wp2_with fail
  refine HV.out.mono ?_
  rintro e w1 ⟨rfl, b1⟩
  clear HV
  have z1 := b1.size
  have bA : Below w1.heap.size w1 ((w1.alloc (.cells (bs (List.replicate (s.size + 2) 0)) 5)).alloc (.cells #[.int .u8 34] 5)) := ((Below.refl _ _).alloc (Nat.le_refl _) _).alloc (by simp) _
  have OA : Hid (OwnB ((w1.alloc (.cells (bs (List.replicate (s.size + 2) 0)) 5)).alloc (.cells #[.int .u8 34] 5)) w.heap.size (.slice (some ⟨w1.heap.size, 0, none⟩) 0 (s.size + 2)) []) := by
    refine ⟨rfl, .inr ⟨w1.heap.size, s.size + 2, bs (List.replicate (s.size + 2) 0), rfl, z1, ?_, by simp, by simp [maxLen]; omega, by simp [bs], rfl⟩⟩
    rw [Below.heap_alloc _ _ _ (by simp)]
    exact heap_alloc_new _ _
  have BA : Hid (Byt ((w1.alloc (.cells (bs (List.replicate (s.size + 2) 0)) 5)).alloc (.cells #[.int .u8 34] 5)) (some ⟨w1.heap.size + 1, 0, none⟩) [34]) := by
    have h := byt_lit2 (w1.alloc (.cells (bs (List.replicate (s.size + 2) 0)) 5)) [34] 5
    rw [show (w1.alloc (.cells (bs (List.replicate (s.size + 2) 0)) 5)).heap.size = w1.heap.size + 1 by simp] at h
    exact h
  have ZA : Hid (w.heap.size ≤ ((w1.alloc (.cells (bs (List.replicate (s.size + 2) 0)) 5)).alloc (.cells #[.int .u8 34] 5)).heap.size) := (by simp; omega : _ ≤ _)
  have BW : Hid (Below w.heap.size w ((w1.alloc (.cells (bs (List.replicate (s.size + 2) 0)) 5)).alloc (.cells #[.int .u8 34] 5))) := b1.trans (bA.mono z1)
  clear bA
  go_wp2_with (first | (at_builtin; refine wpList_app rfl (.tmp 13) (.tmp 14) rfl w.heap.size _ [] rfl OA.out (some ⟨w1.heap.size + 1, 0, none⟩) 1 1 [34] rfl rfl BA.out (by decide) ZA.out ?_) | fail)
  intro v2 w2 own2 gr2
  have B2 : Hid (Below w.heap.size w w2) := below_own BW.out OA.out gr2 ZA.out
  have O2 : Hid (OwnB w2 w.heap.size v2 [34]) := own2
  have Z2 : Hid (w.heap.size ≤ w2.heap.size) := B2.out.size
  clear own2 gr2 OA BA ZA BW hmk
  have B3 : Hid (Below w.heap.size w (w2.iter s 0)) := B2.out.alloc Z2.out _
  have O3 : Hid (OwnB (w2.iter s 0) w.heap.size v2 [34]) := O2.out.below ((Below.refl _ _).alloc (Nat.le_refl _) _)
  have Q3 : Hid ((w2.iter s 0).heap[w2.heap.size]? = some (.stringIter s 0)) := World.iter_heap w2 s 0
  have ZQ : Hid (w.heap.size ≤ w2.heap.size) := Z2.out
  clear B2 O2 Z2
  go_wp2
  generalize hqq : w2.heap.size = q at *
  clear hqq
  go_loopw [3] (fun v wr => ∃ (pos : Nat) (L : List UInt8), pos ≤ s.size ∧ Hid (OwnB wr w.heap.size v L) ∧ Hid (wr.heap[q]? = some (.stringIter s pos)) ∧ Hid (Below w.heap.size w wr) ∧ Hid (L ++ (s.data.toList.drop pos).flatMap escB = [34] ++ s.data.toList.flatMap escB) ∧ Hid (Lib.validD (s.data.toList.drop pos) = true)) (fun _ wr => s.size - wr.iterPos q)
  case atStart => exact ⟨0, [34], by omega, O3, Q3, B3, rfl, hv⟩
  case round =>
    obtain ⟨pos, L, hp, own, hq, bel, hT, hvd⟩ := hrel
    clear O3 Q3 B3 hv
    have LB : Hid (L.length + 6 ≤ 140737488355328) := by
      have h1 := congrArg List.length hT.out
      have h2 := esc_total s.data.toList
      simp only [List.length_append, List.length_cons, List.length_nil] at h1
      have h3 : s.data.toList.length = s.size := by simp
      show _ ≤ _
      omega
    by_cases h : pos < s.size
    · have hne : s.data.toList.drop pos ≠ [] := by
        intro e
        have := congrArg List.length e
        simp at this
        omega
      obtain ⟨nv, hv2⟩ := valid_next _ hne hvd.out
      have hstep := esc_step _ hne nv
      have hn1 := decode_pos (s.data.toList.drop pos)
      have hn2 := decode_len _ hne nv
      have hr := decode_le (s.data.toList.drop pos)
      have nx := next_some wr q s pos 0 hq.out h
      generalize (Lib.decodeL (s.data.toList.drop pos)).1 = r at *
      generalize (Lib.decodeL (s.data.toList.drop pos)).2 = n at *
      have hn3 : pos + n ≤ s.size := by simp at hn2; omega
      have HT2 : Hid (L ++ escR (r : Int) ++ (s.data.toList.drop (pos + n)).flatMap escB = [34] ++ s.data.toList.flatMap escB) := (by rw [← hT.out, hstep, List.append_assoc, List.drop_drop] : _ = _)
      have HV2 : Hid (Lib.validD (s.data.toList.drop (pos + n)) = true) := (by rw [← List.drop_drop]; exact hv2 : _ = _)
      have hne2 := own_iter_ne own.out hq.out
      have O4 : Hid (OwnB (setIter wr q s (pos + n)) w.heap.size u3 L) := setIter_own own.out hne2
      have B4 : Hid (Below w.heap.size w (setIter wr q s (pos + n))) := setIter_below bel.out ZQ.out
      have Q4 : Hid ((setIter wr q s (pos + n)).heap[q]? = some (.stringIter s (pos + n))) := setIter_at hq.out
      have Z4 : Hid (w.heap.size ≤ (setIter wr q s (pos + n)).heap.size) := B4.out.size
      have M4 : Hid (wr.iterPos q = pos) := (by unfold World.iterPos; rw [hq.out] : _ = _)
      clear hstep hv2 hvd hT nv hn2 hne own hq bel hne2
      go_wp2_with fail
      refine (appchr_any w.heap.size u3 L (r : Int) _ (by omega) (by omega) O4.out LB.out Z4.out q s (pos + n) Q4.out).mono ?_
      rintro e w4 ⟨v4, rfl, o4, b4, q4⟩
      have O5 : Hid (OwnB w4 w.heap.size v4 (L ++ escR (r : Int))) := o4
      have Q5 : Hid (w4.heap[q]? = some (.stringIter s (pos + n))) := q4
      have B5 : Hid (Below w.heap.size w w4) := B4.out.trans b4
      have M5 : Hid (w4.iterPos q = pos + n) := (by unfold World.iterPos; rw [q4] : _ = _)
      clear o4 q4 b4 O4 B4 Q4 Z4 nx LB
      go_wp2
      go_roundw
      case rel => exact ⟨pos + n, L ++ escR (r : Int), hn3, O5, Q5, B5, HT2, HV2⟩
      case measure => rw [M5.out, M4.out]; omega
    · have nx := next_none wr q s pos 0 hq.out h
      have eL : Hid (L ++ [34] = quoL s.data.toList) := by
        have e := hT.out
        rw [List.drop_eq_nil_of_le (by simp; omega), List.flatMap_nil, List.append_nil] at e
        show _ = _
        rw [e]
        rfl
      have ln : 0 < (quoL s.data.toList).length := by simp [quoL]
      obtain ⟨av, cv, rfl, hcv, byv, hav⟩ := own.out.open
      have be0 : Below wr.heap.size wr (wr.alloc (.cells #[.int .u8 34] 5)) := (Below.refl _ _).alloc (Nat.le_refl _) _
      have zr := bel.out.size
      have OA : Hid (OwnB (wr.alloc (.cells #[.int .u8 34] 5)) w.heap.size (.slice av L.length cv) L) := own.out.below be0
      have BA : Hid (Byt (wr.alloc (.cells #[.int .u8 34] 5)) (some ⟨wr.heap.size, 0, none⟩) [34]) := byt_lit2 wr [34] 5
      have LA : Hid (L.length + [(34 : UInt8)].length ≤ 140737488355328) := (by have := LB.out; simp; omega : _ ≤ _)
      have ZA : Hid (w.heap.size ≤ (wr.alloc (.cells #[.int .u8 34] 5)).heap.size) := (by simp; omega : _ ≤ _)
      have BW : Hid (Below w.heap.size w (wr.alloc (.cells #[.int .u8 34] 5))) := bel.out.trans (be0.mono zr)
      clear own hq bel hT hvd LB be0 byv hav
      go_wp2_with (first | (at_builtin; refine wpList_app rfl (.tmp 24) (.tmp 25) rfl w.heap.size (.slice av L.length cv) L rfl OA.out (some ⟨wr.heap.size, 0, none⟩) 1 1 [34] rfl rfl BA.out LA.out ZA.out ?_) | fail)
      intro v5 w5 own5 gr5
      have B5 : Hid (Below w.heap.size w w5) := below_own BW.out OA.out gr5 ZA.out
      rw [eL.out] at own5
      obtain ⟨g1, c1, rfl, hc1, hcl, _, _⟩ := own5.open1 ln
      have hcv5 := run_convert_bytes_back (P := Tryz.prog) w5 66 9 5 ⟨g1, 0, none⟩ c1 (quoL s.data.toList) Tryz.underlying66 Tryz.underlying5 Tryz.underlying9 (fun j hj => by
        have e : (⟨g1, 0, none⟩ : Addr).add j = ⟨g1, j, none⟩ := by simpa using Addr.add_mid g1 0 j
        rw [e, hcl j hj]
        simp [at8, List.getElem?_eq_getElem hj])
      clear own5 gr5 hcl hc1 OA BA LA ZA BW nx ln
      generalize hQL : quoL s.data.toList = QL at *
      have HQL : Hid (quoL s.data.toList = QL) := hQL
      clear hQL
      go_wp2
      go_ret
      exact ⟨by rw [HQL.out]; rfl, B5.out⟩

set_option maxRecDepth 100000 in
set_option maxHeartbeats 400000 in
theorem quote_no (s : ByteArray) (w : World) (hs : s.size ≤ 16777216) (hT : Tabs w) (hv : Lib.validD s.data.toList = false) :
    Calls Tryz.prog 45 #[.string s] w fun e w' => e = .returned (.string ⟨#[]⟩) ∧ Below w.heap.size w w' := by
  have HV : Hid (Calls Tryz.prog 54 #[.string s] w fun e w' => e = .returned (.bool false) ∧ Below w.heap.size w w') := (valid_any s w (by omega) hT).mono fun e w' h => ⟨by rw [h.1, hv], h.2⟩
  clear hT
  go_enter Tryz.func45, Tryz.ntmps45
  go_wp2_with fail
  refine HV.out.mono ?_
  rintro e w1 ⟨rfl, b1⟩
  go_wp2
  go_ret
  exact ⟨rfl, b1⟩
end Go.Proofs.YthffcdahjcpdfaaGreatDoor.Q
