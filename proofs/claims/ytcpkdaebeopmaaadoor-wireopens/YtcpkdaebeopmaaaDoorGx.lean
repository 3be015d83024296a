import Derived.Test.YtcpkdaebeopmaaaDoorUi
namespace Go.Proofs.YtcpkdaebeopmaaaDoor
open Go.RowKit
set_option linter.unusedVariables false
set_option linter.unusedSimpArgs false

/-- A Writer, and a block beside it that is not its own. -/
def WAtG (w : World) (q base : Nat) (L : List UInt8) (g : Nat) (o : Option Obj) : Prop :=
  (∃ v, w.heap[q]? = some (.cells #[v, .int .i64 0] 57 (0, 0)) ∧ OwnB w base v L ∧ v.ownBlock ≠ some q ∧ v.ownBlock ≠ some g) ∧ g ≠ q ∧ g < w.heap.size ∧ w.heap[g]? = o
theorem WAtG.below {w w' : World} {q base g : Nat} {o : Option Obj} {L : List UInt8} (h : WAtG w q base L g o) (hb : Below w.heap.size w w') : WAtG w' q base L g o := by
  obtain ⟨⟨v, h1, h2, h3, h4⟩, h5, h6, h7⟩ := h
  have hz := hb.size
  exact ⟨⟨v, by rw [hb.block _ (Array.getElem?_eq_some_iff.1 h1).1]; exact h1, h2.below hb, h3, h4⟩, h5, by omega, by rw [hb.block _ h6]; exact h7⟩
theorem WAtG.at {w : World} {q base g : Nat} {o : Option Obj} {L : List UInt8} (h : WAtG w q base L g o) : WAt w q base L := by
  obtain ⟨⟨v, h1, h2, h3, h4⟩, h5, h6, h7⟩ := h
  exact ⟨v, h1, h2, h3⟩
theorem WAtG.lt {w : World} {q base g : Nat} {o : Option Obj} {L : List UInt8} (h : WAtG w q base L g o) : q < w.heap.size := h.at.lt
theorem WAt.beside {w : World} {q base : Nat} {L : List UInt8} (h : WAt w q base L) (ob : Obj) : WAtG (w.alloc ob) q base L w.heap.size (some ob) := by
  obtain ⟨v, h1, h2, h3⟩ := h
  have hlt : q < w.heap.size := (Array.getElem?_eq_some_iff.1 h1).1
  have hb : Below w.heap.size w (w.alloc ob) := (Below.refl _ _).alloc (Nat.le_refl _) _
  refine ⟨⟨v, by rw [hb.block _ hlt]; exact h1, h2.below hb, h3, ?_⟩, by omega, by simp, heap_alloc_new _ _⟩
  intro e
  have := (World.ownsRow.lt h2 _ e).2
  omega

set_option maxHeartbeats 2000000 in
theorem add_anyG (q base g : Nat) (o : Option Obj) (L M : List UInt8) (a : Option Addr) (len cap : Nat) (w : World) (hw : WAtG w q base L g o) (hlen : M.length = len) (hb : Byt w a M) (hsum : L.length + M.length ≤ 140737488355328) (hbq : base ≤ q) :
    Calls Tryd.prog 31 #[.pointer (some ⟨q, 0, none⟩), .slice a len cap] w fun e w' => e = .returned (.tuple #[]) ∧ WAtG w' q base (L ++ M) g o ∧ Below base w w' := by
  obtain ⟨⟨v, hq, own, hne, hng⟩, hgq, hgl, hgo⟩ := hw
  have zq : q < w.heap.size := (Array.getElem?_eq_some_iff.1 hq).1
  have c0 := (cell_of_row w q 0 _ _ _ hq).trans (show (#[v, .int .i64 0] : Array Value)[0]? = some v from rfl)
  have c1 := (cell_of_row w q 1 _ _ _ hq).trans (show (#[v, .int .i64 0] : Array Value)[1]? = some (.int .i64 0) from rfl)
  obtain ⟨av, cv, rfl, hcv, byv, hav⟩ := own.open
  have HO : Hid (OwnB w base (.slice av L.length cv) L) := own
  have HB : Hid (Byt w a M) := hb
  have HS : Hid (L.length + M.length ≤ 140737488355328) := hsum
  have HZ : Hid (base ≤ w.heap.size) := by show _ ≤ _; omega
  go_enter Tryd.func31, Tryd.ntmps31
  go_wp2_with (first | (at_builtin; refine wpList_app2 rfl (.tmp 17) (.tmp 18) rfl base (.slice av L.length cv) L rfl HO.out a len cap M rfl hlen HB.out HS.out HZ.out ?_) | fail)
  intro v' w1 own1 gr1 hblk
  have hq1 : w1.heap[q]? = some (.cells #[.slice av L.length cv, .int .i64 0] 57 (0, 0)) := by rw [gr1.block q zq (fun e => hne e.symm)]; exact hq
  have d0 := (cell_of_row w1 q 0 _ _ _ hq1).trans (show (#[.slice av L.length cv, .int .i64 0] : Array Value)[0]? = some (.slice av L.length cv) from rfl)
  have f0 := frozen_of_row w1 q 0 _ _ hq1
  have hne1 : v'.ownBlock ≠ some q := by
    rcases hblk with e | e
    · rw [e]; exact hne
    · rw [e]; intro h; simp at h; omega
  have hng1 : v'.ownBlock ≠ some g := by
    rcases hblk with e | e
    · rw [e]; exact hng
    · rw [e]; intro h; simp at h; omega
  have hg1 : w1.heap[g]? = o := by rw [gr1.block g hgl (fun e => hng e.symm)]; exact hgo
  have hsz1 : w.heap.size ≤ w1.heap.size := gr1.size
  have W1 : Hid (WAtG (w1.setCell ⟨q, 0, none⟩ v') q base (L ++ M) g o) := ⟨⟨v', by rw [heap_setCell_same w1 q 0 _ 57 _ hq1]; rfl, own_setCell own1 hne1, hne1, hng1⟩, hgq, by simp; omega, by rw [Below.heap_setCell _ _ _ _ hgq]; exact hg1⟩
  have B1 : Hid (Below base w (w1.setCell ⟨q, 0, none⟩ v')) := ((Below.refl _ _).grown gr1 (by omega) (fun k hk => (World.ownsRow.lt HO.out k hk).1)).setCell hbq _
  obtain ⟨av', cv', rfl, _⟩ := own1.open
  rw [List.length_append, hlen] at W1 B1
  clear own1 gr1 hblk hne1 hng1 hg1 hng hgo hsz1 HO HB HS HZ
  go_wp2
  go_end0
  exact ⟨rfl, W1.out, B1.out⟩

theorem add_oneG (q base g : Nat) (o : Option Obj) (L : List UInt8) (k : UInt8) (kv : Int) (hk : kv = (k.toNat : Int)) (w : World) (hw : WAtG w q base L g o) (hsum : L.length + 1 ≤ 140737488355328) (hbq : base ≤ q) :
    Calls Tryd.prog 31 #[.pointer (some ⟨q, 0, none⟩), .slice (some ⟨w.heap.size, 0, none⟩) 1 1] (w.alloc (.cells #[.int .u8 kv] 5)) fun e w' => e = .returned (.tuple #[]) ∧ WAtG w' q base (L ++ [k]) g o ∧ Below base w w' := by
  subst hk
  have be : Below w.heap.size w (w.alloc (.cells (bs [k]) 5)) := (Below.refl _ _).alloc (Nat.le_refl _) _
  have zq := hw.lt
  exact (add_anyG q base g o L [k] (some ⟨w.heap.size, 0, none⟩) 1 1 (w.alloc (.cells (bs [k]) 5)) (hw.below be) rfl (byt_lit w [k] 5) (by simpa using hsum) hbq).mono fun e w' ⟨h1, h2, h3⟩ => ⟨h1, h2, (be.mono (by omega)).trans h3⟩

set_option maxRecDepth 100000 in
set_option maxHeartbeats 1000000 in
theorem uint_anyG (q base g : Nat) (o : Option Obj) (L : List UInt8) (v : Nat) (hv : v < 18446744073709551616) (w : World) (hw : WAtG w q base L g o) (hsum : L.length + 64 ≤ 140737488355328) (hbq : base ≤ q) :
    Calls Tryd.prog 15 #[.pointer (some ⟨q, 0, none⟩), .int .u64 (v : Int)] w fun e w' => e = .returned (.tuple #[]) ∧ WAtG w' q base (L ++ vint v) g o ∧ Below base w w' := by
  have HV : Hid (v < 18446744073709551616) := hv
  have HS : Hid (L.length + 64 ≤ 140737488355328) := hsum
  clear hv hsum
  go_enter Tryd.func15, Tryd.ntmps15
  go_wp2_with fail
  go_loopw [1] (fun x wr => ∃ (n : Nat) (P : List UInt8), x = .int .u64 (n : Int) ∧ n ≤ v ∧ P ++ vint n = vint v ∧ P.length < 64 ∧ n * 128 ^ P.length ≤ v ∧ WAtG wr q base (L ++ P) g o ∧ Below base w wr) (fun x _ => (intOf x).toNat)
  case atStart => exact ⟨v, [], rfl, Nat.le_refl _, rfl, by simp, by simp, by simpa using hw, Below.refl _ _⟩
  case round =>
    obtain ⟨n, P, rfl, hn, hP, hPl, hPv, hwr, hbel⟩ := hrel
    have HW : Hid (WAtG wr q base (L ++ P) g o) := hwr
    have HQ : Hid (P ++ vint n = vint v ∧ n * 128 ^ P.length ≤ v ∧ n ≤ v) := ⟨hP, hPv, hn⟩
    clear hwr hP hPv hn
    have HPS : Hid ((L ++ P).length + 1 ≤ 140737488355328) := by show _ ≤ _; have := HS.out; rw [List.length_append]; omega
    by_cases hlt : n < 128
    · have hlt' : (n : Int) < 128 := by omega
      go_wp2_with fail
      refine (add_oneG q base g o (L ++ P) (UInt8.ofNat n) (n : Int) (by rw [UInt8.toNat_ofNat']; omega) wr HW.out HPS.out hbq).mono ?_
      rintro e w1 ⟨rfl, a1, b1⟩
      have hQ : L ++ P ++ [UInt8.ofNat n] = L ++ vint v := by rw [← HQ.out.1, vint_lt hlt, List.append_assoc]
      rw [hQ] at a1
      have A1 : Hid (WAtG w1 q base (L ++ vint v) g o) := a1
      have B1 := hbel.trans b1
      clear a1 b1 hbel hQ
      go_wp2
      go_end0
      exact ⟨rfl, A1.out, B1⟩
    · have hlt' : ¬ (n : Int) < 128 := by omega
      have hbt : bits .or .u8 ((n : Int) % 256) 128 = ((UInt8.ofNat (n % 128 + 128)).toNat : Int) := by
        have := or128N (n % 256) (by omega)
        rw [show (((n % 256 : Nat)) : Int) = (n : Int) % 256 by omega] at this
        rw [this, UInt8.toNat_ofNat']
        omega
      go_wp2_with fail
      refine (add_oneG q base g o (L ++ P) (UInt8.ofNat (n % 128 + 128)) _ (by rw [UInt8.toNat_ofNat']; omega) wr HW.out HPS.out hbq).mono ?_
      rintro e w1 ⟨rfl, a1, b1⟩
      have A1 : Hid (WAtG w1 q base (L ++ P ++ [UInt8.ofNat (n % 128 + 128)]) g o) := a1
      have B1 := hbel.trans b1
      clear a1 b1 hbel hbt
      go_wp2
      go_roundw
      case rel =>
        obtain ⟨q1, q2, q3⟩ := HQ.out
        have h128 : n / 128 * 128 ^ (P.length + 1) ≤ v := by
          rw [Nat.pow_succ, Nat.mul_comm (128 ^ P.length) 128, ← Nat.mul_assoc]
          exact Nat.le_trans (Nat.mul_le_mul_right _ (Nat.div_mul_le_self n 128)) q2
        have hlen : P.length + 1 < 64 := by
          have hv := HV.out
          have h1 : 1 * 128 ^ (P.length + 1) ≤ v := Nat.le_trans (Nat.mul_le_mul_right _ (by omega)) h128
          have h2 : 128 ^ (P.length + 1) < 128 ^ 64 := by
            have : (18446744073709551616 : Nat) < 128 ^ 64 := by decide
            omega
          exact (Nat.pow_lt_pow_iff_right (by decide)).1 h2
        refine ⟨n / 128, P ++ [UInt8.ofNat (n % 128 + 128)], by first | rfl | (congr 1; omega), by omega, ?_, by simpa using hlen, by simpa using h128, by rw [← List.append_assoc]; exact A1.out, B1⟩
        rw [← q1, vint_ge hlt]
        simp
      case measure => simp [intOf]; omega
end Go.Proofs.YtcpkdaebeopmaaaDoor
