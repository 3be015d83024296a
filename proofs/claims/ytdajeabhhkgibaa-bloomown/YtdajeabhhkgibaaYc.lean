import Derived.Test.YtdajeabhhkgibaaYa
import Derived.Test.YtdajeabhhkgibaaYb
namespace Go.Proofs.Ytdajeabhhkgibaa
open Go.RowKit
set_option linter.unusedVariables false
set_option linter.unusedSimpArgs false

def okB (u : Nat) : Bool := decide (8 ≤ u ∧ u ≤ 65536 ∧ u % 8 = 0)
def okP (v : Int) : Bool := decide (1 ≤ v ∧ v ≤ 16)
def d0 : K.St := ⟨0, 0, 0⟩
def dU (L : List UInt8) : Nat := (K.rUint L 65536 d0).1
def d1 (L : List UInt8) : K.St := (K.rUint L 65536 d0).2
def d2 (L : List UInt8) : K.St := if okB (dU L) = true then d1 L else (d1 L).fl 2 0
def dV (L : List UInt8) : Int := (K.rByte L (d2 L)).1
def d2b (L : List UInt8) : K.St := (K.rByte L (d2 L)).2
def d3 (L : List UInt8) : K.St := if okP (dV L) = true then d2b L else (d2b L).fl 2 ((d2 L).k : Int)
def dR (L : List UInt8) : List UInt8 := (K.rRaw L 8192 (d3 L)).1
def d3b (L : List UInt8) : K.St := (K.rRaw L 8192 (d3 L)).2
def d4 (L : List UInt8) : K.St := if (dR L).length = dU L / 8 then d3b L else (d3b L).fl 21 ((d3 L).k : Int)
theorem fl_bad_ne (s : K.St) (e p : Int) (he : e ≠ 0) : (s.fl e p).bad ≠ 0 := by
  by_cases h : s.bad = 0
  · rw [K.St.fl_new s e p h he]; exact he
  · rw [K.St.fl_bad s e p h]; exact h
theorem d4_ok {L : List UInt8} (h : (d4 L).bad = 0) : (dR L).length = dU L / 8 ∧ d4 L = d3b L := by
  unfold d4 at h ⊢
  split at h
  · rename_i e; exact ⟨e, if_pos e⟩
  · exact absurd h (fl_bad_ne _ _ _ (by omega))
theorem d3_ok {L : List UInt8} (h : (d3 L).bad = 0) : okP (dV L) = true ∧ d3 L = d2b L := by
  unfold d3 at h ⊢
  split at h
  · rename_i e; exact ⟨e, if_pos e⟩
  · exact absurd h (fl_bad_ne _ _ _ (by omega))
theorem d2_ok {L : List UInt8} (h : (d2 L).bad = 0) : okB (dU L) = true ∧ d2 L = d1 L := by
  unfold d2 at h ⊢
  split at h
  · rename_i e; exact ⟨e, if_pos e⟩
  · exact absurd h (fl_bad_ne _ _ _ (by omega))
theorem d1_ok {L : List UInt8} (h : (d1 L).bad = 0) : (K.num L 0).why = 0 ∧ dU L = (K.num L 0).v ∧ d1 L = ⟨(K.num L 0).size, 0, 0⟩ := by
  unfold d1 dU K.rUint at *
  rw [if_pos (show d0.bad = 0 from rfl)] at h ⊢
  split at h
  · rename_i e
    split at h
    · rename_i e2
      rw [if_pos e, if_pos e2]
      exact ⟨e, rfl, by simp [d0]⟩
    · simp at h
  · rename_i e
    exact absurd h e
theorem d2b_ok {L : List UInt8} (h : (d2b L).bad = 0) : (d2 L).bad = 0 ∧ (d2 L).k + 1 ≤ L.length ∧ dV L = K.at8 L (d2 L).k ∧ d2b L = ⟨(d2 L).k + 1, (d2 L).bad, (d2 L).wh⟩ := by
  unfold d2b dV K.rByte at *
  split at h
  · rename_i e
    split at h
    · rename_i e2
      rw [if_pos e, if_pos e2]
      exact ⟨e, e2, rfl, rfl⟩
    · simp at h
  · rename_i e
    exact absurd h e
theorem d3b_ok {L : List UInt8} (h : (d3b L).bad = 0) (hk : (d3 L).k ≤ L.length) : (d3 L).bad = 0 ∧ ∃ n hd, K.rCnt L 8192 (d3 L) = (some (n, hd), d3 L) ∧ dR L = K.cut L ((d3 L).k + hd) n ∧ d3b L = ⟨(d3 L).k + hd + n, (d3 L).bad, (d3 L).wh⟩ := by
  unfold d3b dR K.rRaw at *
  split at h
  · rename_i e
    rw [if_pos e]
    refine ⟨e, ?_⟩
    rcases hq : K.rCnt L 8192 (d3 L) with ⟨_ | ⟨n, hd⟩, s'⟩
    · rw [hq] at h
      simp only at h
      unfold K.rCnt at hq
      split at hq
      · split at hq
        · split at hq
          · simp at hq
          · cases hq; simp at h
        · cases hq; simp at h
      · rename_i e3; cases hq; exact absurd h e3
    · obtain ⟨rfl, _⟩ := K.rCnt_some hq hk
      exact ⟨n, hd, rfl, rfl, rfl⟩
  · rename_i e
    exact absurd h e
theorem doneE_ok {L : List UInt8} {s : K.St} (h : K.doneE L s = 0) : s.bad = 0 ∧ ¬ s.k < L.length := by
  unfold K.doneE at h
  split at h
  · rename_i e
    split at h
    · simp at h
    · rename_i e2; exact ⟨e, e2⟩
  · rename_i e; exact absurd h e
theorem cut_byte (L : List UInt8) (k : Nat) (h : k + 1 ≤ L.length) : K.cut L k 1 = [L.getD k 0] := by
  unfold K.cut
  rw [K.drop_cons L k (by omega)]
  rfl
theorem cut_all (L : List UInt8) (n : Nat) (h : L.length ≤ n) : K.cut L 0 n = L := by
  unfold K.cut
  rw [List.drop_zero, List.take_of_length_le h]
/-- What Decode takes is written so. -/
theorem dec_ok {L : List UInt8} (h : K.doneE L (d4 L) = 0) : okB (dU L) = true ∧ okP (dV L) = true ∧ (dR L).length = dU L / 8 ∧ ∃ v : Nat, dV L = (v : Int) ∧ L = K.vint (dU L) ++ [UInt8.ofNat v] ++ (K.vint (dU L / 8) ++ dR L) := by
  obtain ⟨hb, hk⟩ := doneE_ok h
  obtain ⟨hl, e4⟩ := d4_ok hb
  rw [e4] at hb hk
  have h3k : (d3 L).k ≤ L.length := by
    unfold d3 d2b
    have q : ∀ s : K.St, s.k ≤ L.length → ((K.rByte L s).2).k ≤ L.length := fun s hs => by
      unfold K.rByte
      split
      · split
        · simp only; omega
        · exact hs
      · exact hs
    have q0 : (d1 L).k ≤ L.length := by
      unfold d1 K.rUint
      rw [if_pos (show d0.bad = 0 from rfl)]
      have ok := K.num_ok L 0 (Nat.zero_le _)
      split
      · rename_i e
        have := ok.1 e
        split
        · simp [d0]; omega
        · simp [d0]
      · simp [d0]
    have q2 : (d2 L).k ≤ L.length := by
      unfold d2
      split
      · exact q0
      · rw [K.St.fl_k]; exact q0
    split
    · exact q _ q2
    · rw [K.St.fl_k]; exact q _ q2
  obtain ⟨b3, n, hd, hc, hR, e3b⟩ := d3b_ok hb h3k
  obtain ⟨hp, e3⟩ := d3_ok b3
  rw [e3] at b3
  obtain ⟨b2, l2, hv, e2b⟩ := d2b_ok b3
  obtain ⟨ho, e2⟩ := d2_ok b2
  rw [e2] at b2 l2 hv e2b
  obtain ⟨w1, hu, e1⟩ := d1_ok b2
  refine ⟨ho, hp, hl, (L.getD (d1 L).k 0).toNat, hv, ?_⟩
  have cn := K.rCnt_some hc h3k
  have hc2 := hc
  unfold K.rCnt at hc2
  have k3 : (d3 L).k = (K.num L 0).size + 1 := by rw [e3, e2b, e1]
  rw [k3] at hc2 hR cn
  split at hc2
  · rename_i w3
    split at hc2
    · split at hc2
      · simp only [Prod.mk.injEq, Option.some.injEq] at hc2
        obtain ⟨⟨en, eh⟩, _⟩ := hc2
        have hlen : (K.num L 0).size + 1 + hd + n = L.length := by
          rw [e3b, k3] at hk
          simp only at hk
          have := cn.2.2.1
          omega
        have c1 := K.num_canon L 0 w1
        have c3 := K.num_canon L ((K.num L 0).size + 1) w3
        have t := cut_all L ((K.num L 0).size + (1 + (hd + n))) (by omega)
        rw [K.cut_app, K.cut_app, K.cut_app, Nat.zero_add] at t
        have p1 : K.cut L 0 (K.num L 0).size = K.vint (dU L) := by rw [hu]; exact c1.2
        have p2 : K.cut L (K.num L 0).size 1 = [L.getD (K.num L 0).size 0] := cut_byte L _ (by omega)
        have hRl : (dR L).length = n := by rw [hR]; exact K.cut_len _ _ _ (by omega)
        have p3 : K.cut L ((K.num L 0).size + 1) hd = K.vint (dU L / 8) := by
          rw [← hl, hRl, ← en, ← eh]
          exact c3.2
        rw [p1, p2, p3, ← hR] at t
        have k1 : (d1 L).k = (K.num L 0).size := by rw [e1]
        rw [k1]
        conv => lhs; rw [← t]
        simp
      · simp at hc2
    · simp at hc2
  · simp at hc2
/-- What was written Decode takes. -/
theorem dec_enc {L R : List UInt8} {u v : Nat} (hu : okB u = true) (hv : 1 ≤ v ∧ v ≤ 16) (hR : R.length = u / 8) (hL : L = K.vint u ++ [UInt8.ofNat v] ++ (K.vint (u / 8) ++ R)) : K.doneE L (d4 L) = 0 ∧ dU L = u ∧ dV L = (v : Int) ∧ dR L = R := by
  have hu' := of_decide_eq_true hu
  have hlen : L.length = (K.vint u).length + 1 + ((K.vint (u / 8)).length + R.length) := by rw [hL]; simp only [List.length_append, List.length_cons, List.length_nil]
  have t1 : K.cut L 0 (K.vint u).length = K.vint u := by unfold K.cut; rw [hL]; simp
  have t2 : L.getD (K.vint u).length 0 = UInt8.ofNat v := by rw [hL]; simp [List.getD]
  have t3 : L.drop ((K.vint u).length + 1) = K.vint (u / 8) ++ R := by rw [hL, ← List.drop_drop]; simp
  have e1 : K.rUint L 65536 d0 = (u, ⟨(K.vint u).length, 0, 0⟩) := by
    have := K.at_uint (L := L) (s := d0) (u := u) (by omega) 65536 (by omega) rfl t1
    rw [this]
    simp [d0]
  have eU : dU L = u := by unfold dU; rw [e1]
  have eS1 : d1 L = ⟨(K.vint u).length, 0, 0⟩ := by unfold d1; rw [e1]
  have eS2 : d2 L = ⟨(K.vint u).length, 0, 0⟩ := by unfold d2; rw [eU, if_pos hu, eS1]
  have eB : K.rByte L (d2 L) = ((v : Int), ⟨(K.vint u).length + 1, 0, 0⟩) := by
    rw [eS2]
    unfold K.rByte
    rw [if_pos rfl, if_pos (by simp only; omega)]
    unfold K.at8
    simp only
    rw [t2, UInt8.toNat_ofNat']
    congr 1
    omega
  have eV : dV L = (v : Int) := by unfold dV; rw [eB]
  have eS2b : d2b L = ⟨(K.vint u).length + 1, 0, 0⟩ := by unfold d2b; rw [eB]
  have eS3 : d3 L = ⟨(K.vint u).length + 1, 0, 0⟩ := by unfold d3; rw [eV, if_pos (by unfold okP; exact decide_eq_true (by omega)), eS2b]
  have t4 : K.cut L ((K.vint u).length + 1) (K.vint (u / 8)).length = K.vint (u / 8) := by unfold K.cut; rw [t3]; simp
  have t5 : K.cut L ((K.vint u).length + 1 + (K.vint (u / 8)).length) (u / 8) = R := by unfold K.cut; rw [← List.drop_drop, t3]; simp [← hR]
  have eN := K.num_at (L := L) (k := (K.vint u).length + 1) (u / 8) (by omega) t4
  have eC : K.rCnt L 8192 (d3 L) = (some (u / 8, (K.vint (u / 8)).length), d3 L) := by
    rw [eS3]
    unfold K.rCnt
    simp only
    rw [eN, if_pos rfl, if_pos (by simp only; omega), if_pos (by simp only; omega)]
  have eRaw : K.rRaw L 8192 (d3 L) = (R, ⟨L.length, 0, 0⟩) := by
    unfold K.rRaw
    rw [eC]
    rw [eS3, if_pos rfl]
    simp only
    rw [t5]
    congr 2
    omega
  have eR : dR L = R := by unfold dR; rw [eRaw]
  have eS3b : d3b L = ⟨L.length, 0, 0⟩ := by unfold d3b; rw [eRaw]
  refine ⟨?_, eU, eV, eR⟩
  unfold d4
  rw [eR, eU, if_pos hR, eS3b]
  unfold K.doneE
  simp
end Go.Proofs.Ytdajeabhhkgibaa
