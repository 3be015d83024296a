import Derived.Test.YtkinjcblngkeiaaDoorWb
namespace Go.Proofs.YtkinjcblngkeiaaDoor
open Go.RowKit
set_option linter.unusedVariables false
set_option linter.unusedSimpArgs false

variable {p : Nat} {g : Option Nat} {M : List UInt8} {e : Int}
set_option maxRecDepth 100000 in
set_option maxHeartbeats 1000000 in
theorem xbyte_any (k : UInt8) (kv : Int) (hk : kv = (k.toNat : Int)) (w : World) (hw : WS w 28 p g M e) (hsum : M.length + 1 ≤ 140737488355328) :
    Calls Tryd.prog 37 #[.pointer (some ⟨p, 0, none⟩), .int .u8 kv] w fun x w' => x = .returned (.tuple #[]) ∧ Wr w w' 28 p g (wA M e [k]) e := by
  subst hk
  have H := Hid.mk' (put_any k _ rfl w hw hsum)
  clear hw
  go_enter Tryd.func37, Tryd.ntmps37
  go_wp2_with fail
  refine H.out.mono ?_
  rintro x w1 ⟨rfl, ho⟩
  have HO := Hid.mk' ho
  clear ho
  go_wp2
  go_end0
  exact ⟨rfl, HO.out⟩
set_option maxRecDepth 100000 in
set_option maxHeartbeats 1000000 in
theorem xbool_any (b : Bool) (w : World) (hw : WS w 28 p g M e) (hsum : M.length + 1 ≤ 140737488355328) :
    Calls Tryd.prog 38 #[.pointer (some ⟨p, 0, none⟩), .bool b] w fun x w' => x = .returned (.tuple #[]) ∧ Wr w w' 28 p g (wA M e [if b = true then 1 else 0]) e := by
  have H0 := Hid.mk' (put_any 0 0 rfl w hw hsum)
  have H1 := Hid.mk' (put_any 1 1 rfl w hw hsum)
  clear hw
  cases b
  · go_enter Tryd.func38, Tryd.ntmps38
    go_wp2_with fail
    refine H0.out.mono ?_
    rintro x w1 ⟨rfl, ho⟩
    have HO := Hid.mk' ho
    clear ho
    go_wp2
    go_end0
    exact ⟨rfl, HO.out⟩
  · go_enter Tryd.func38, Tryd.ntmps38
    go_wp2_with fail
    refine H1.out.mono ?_
    rintro x w1 ⟨rfl, ho⟩
    have HO := Hid.mk' ho
    clear ho
    go_wp2
    exact bodyPost_ret (results_none Tryd.results38 _ _ _) rfl ⟨rfl, HO.out⟩
set_option maxRecDepth 100000 in
set_option maxHeartbeats 1000000 in
theorem xuint_any (v : Nat) (hv : v < 18446744073709551616) (w : World) (hw : WS w 28 p g M e) (hsum : M.length + 64 ≤ 140737488355328) :
    Calls Tryd.prog 43 #[.pointer (some ⟨p, 0, none⟩), .int .u64 (v : Int)] w fun x w' => x = .returned (.tuple #[]) ∧ Wr w w' 28 p g (wA M e (vint v)) e := by
  have HV : Hid ((vint v).length ≤ 10) := vint_10 v hv
  have HS : Hid (M.length + 64 ≤ 140737488355328) := hsum
  clear hsum
  go_enter Tryd.func43, Tryd.ntmps43
  go_wp2_with fail
  go_loopw [1] (fun x wr => ∃ (n : Nat) (P : List UInt8), x = .int .u64 (n : Int) ∧ n < 18446744073709551616 ∧ Hid (P ++ vint n = vint v) ∧ Hid (Wr w wr 28 p g (wA M e P) e)) (fun x _ => (intOf x).toNat)
  case atStart => exact ⟨v, [], rfl, hv, rfl, by show Wr _ _ _ _ _ _ _; rw [wA_nil]; exact hw.wr⟩
  case round =>
    clear hw
    obtain ⟨n, P, rfl, hn, HP, HW⟩ := hrel
    obtain ⟨g1, ws, fr, nw⟩ := HW.out
    have hPl : P.length ≤ 10 := by
      have h1 := HV.out
      rw [← HP.out, List.length_append] at h1
      omega
    have hwl : (wA M e P).length + 1 ≤ 140737488355328 := by have := wA_len M e P; have := HS.out; omega
    by_cases hlt : n < 128
    · have hlt' : (n : Int) < 128 := by omega
      have H := Hid.mk' ((put_any (UInt8.ofNat n) (n : Int) (by rw [UInt8.toNat_ofNat']; omega) wr ws hwl).mono fun x w' h => And.intro h.1 (Wr.step fr nw h.2))
      rw [wA_wA, show P ++ [UInt8.ofNat n] = vint v by rw [← HP.out, vint_lt hlt]] at H
      clear ws fr nw HW HP hwl
      go_wp2_with fail
      refine H.out.mono ?_
      rintro x w1 ⟨rfl, ho⟩
      have HO := Hid.mk' ho
      clear ho
      go_wp2
      go_end0
      exact ⟨rfl, HO.out⟩
    · have hlt' : ¬ (n : Int) < 128 := by omega
      have H : Hid (∀ kv : Int, kv = ((UInt8.ofNat (n % 128 + 128)).toNat : Int) → Calls Tryd.prog 71 #[.pointer (some ⟨p, 0, none⟩), .int .u8 kv] wr fun x w' => x = .returned (.tuple #[]) ∧ Wr w w' 28 p g (wA M e (P ++ [UInt8.ofNat (n % 128 + 128)])) e) := fun kv hk => (put_any (UInt8.ofNat (n % 128 + 128)) kv hk wr ws hwl).mono fun x w' h => by
        rw [wA_wA] at h
        exact And.intro h.1 (Wr.step fr nw h.2)
      clear ws fr nw HW hwl
      have hP2 : Hid (P ++ [UInt8.ofNat (n % 128 + 128)] ++ vint (n / 128) = vint v) := by
        show _ = _
        rw [← HP.out, vint_ge hlt]
        simp
      go_wp2_with fail
      refine (H.out _ (by first | rfl | (rw [UInt8.toNat_ofNat']; omega))).mono ?_
      rintro x w1 ⟨rfl, ho⟩
      have HO := Hid.mk' ho
      clear ho
      go_wp2
      exact ⟨⟨n / 128, P ++ [UInt8.ofNat (n % 128 + 128)], by first | rfl | (congr 1; omega), by omega, hP2, HO⟩, by simp [intOf]; omega⟩
set_option maxRecDepth 100000 in
set_option maxHeartbeats 1000000 in
theorem xfix_any (n : Nat) (hn : n < 4294967296) (w : World) (hw : WS w 28 p g M e) (hsum : M.length + 4 ≤ 140737488355328) :
    Calls Tryd.prog 73 #[.pointer (some ⟨p, 0, none⟩), .int .u32 (n : Int)] w fun x w' => x = .returned (.tuple #[]) ∧ Wr w w' 28 p g (wA M e (b4 n)) e := by
  have H : Hid (∀ (P : List UInt8) (k : UInt8) (kv : Int) (wx : World), P.length ≤ 3 → kv = (k.toNat : Int) → Wr w wx 28 p g (wA M e P) e → Calls Tryd.prog 71 #[.pointer (some ⟨p, 0, none⟩), .int .u8 kv] wx fun x w' => x = .returned (.tuple #[]) ∧ Wr w w' 28 p g (wA M e (P ++ [k])) e) := fun P k kv wx hP hk hx => by
    obtain ⟨g1, ws, fr, nw⟩ := hx
    refine (put_any k kv hk wx ws (by have := wA_len M e P; omega)).mono fun x w' h => ?_
    rw [wA_wA] at h
    exact And.intro h.1 (Wr.step fr nw h.2)
  have h0 : Hid (Wr w w 28 p g (wA M e []) e) := by show Wr _ _ _ _ _ _ _; rw [wA_nil]; exact hw.wr
  clear hw hsum
  go_enter Tryd.func73, Tryd.ntmps73
  go_wp2_with fail
  refine (H.out [] (UInt8.ofNat (n / 16777216)) _ _ (by decide) (by rw [UInt8.toNat_ofNat']; omega) h0.out).mono ?_
  rintro x w1 ⟨rfl, a1⟩
  have A1 := Hid.mk' a1
  clear a1
  go_wp2_with fail
  refine (H.out _ (UInt8.ofNat (n / 65536)) _ _ (by simp) (by rw [UInt8.toNat_ofNat']; omega) A1.out).mono ?_
  rintro x w2 ⟨rfl, a2⟩
  have A2 := Hid.mk' a2
  clear a2
  go_wp2_with fail
  refine (H.out _ (UInt8.ofNat (n / 256)) _ _ (by simp) (by rw [UInt8.toNat_ofNat']; omega) A2.out).mono ?_
  rintro x w3 ⟨rfl, a3⟩
  have A3 := Hid.mk' a3
  clear a3
  go_wp2_with fail
  refine (H.out _ (UInt8.ofNat n) _ _ (by simp) (by rw [UInt8.toNat_ofNat']; omega) A3.out).mono ?_
  rintro x w4 ⟨rfl, a4⟩
  have A4 := Hid.mk' a4
  clear a4
  go_wp2
  go_end0
  exact ⟨rfl, A4.out⟩
set_option maxRecDepth 100000 in
set_option maxHeartbeats 1000000 in
theorem xint_any (n : Int) (h0 : -9223372036854775808 ≤ n) (h1 : n < 9223372036854775808) (w : World) (hw : WS w 28 p g M e) (hsum : M.length + 64 ≤ 140737488355328) :
    Calls Tryd.prog 39 #[.pointer (some ⟨p, 0, none⟩), .int .i64 n] w fun x w' => x = .returned (.tuple #[]) ∧ Wr w w' 28 p g (wA M e (vint (zig n))) e := by
  have hz : zig n < 18446744073709551616 := by unfold zig; split <;> omega
  have H : Hid (∀ v : Int, v = (zig n : Int) → Calls Tryd.prog 43 #[.pointer (some ⟨p, 0, none⟩), .int .u64 v] w fun x w' => x = .returned (.tuple #[]) ∧ Wr w w' 28 p g (wA M e (vint (zig n))) e) := fun v hv => by rw [hv]; exact xuint_any (zig n) hz w hw hsum
  clear hw hsum
  by_cases hn : n < 0
  · have hn' : ¬ 0 ≤ n := by omega
    go_enter Tryd.func39, Tryd.ntmps39
    go_wp2_with fail
    refine (H.out _ ?_).mono ?_
    · unfold zig
      rw [if_pos (by omega)]
      first | omega | (rw [IntKind.wrap_u64]; omega) | (rw [IntKind.wrap_u64, IntKind.wrap_u64]; omega)
    rintro x w1 ⟨rfl, ho⟩
    have HO := Hid.mk' ho
    clear ho
    go_wp2
    go_end0
    exact ⟨rfl, HO.out⟩
  · have hn' : 0 ≤ n := by omega
    go_enter Tryd.func39, Tryd.ntmps39
    go_wp2_with fail
    refine (H.out _ ?_).mono ?_
    · unfold zig
      rw [if_neg (by omega)]
      first | omega | (rw [IntKind.wrap_u64]; omega)
    rintro x w1 ⟨rfl, ho⟩
    have HO := Hid.mk' ho
    clear ho
    go_wp2
    exact bodyPost_ret (results_none Tryd.results39 _ _ _) rfl ⟨rfl, HO.out⟩
set_option maxRecDepth 100000 in
set_option maxHeartbeats 1000000 in
theorem xfail_any (c : Int) (w : World) (hw : WS w 28 p g M e) :
    Calls Tryd.prog 36 #[.pointer (some ⟨p, 0, none⟩), .int .i64 c] w fun x w' => x = .returned (.tuple #[]) ∧ Wr w w' 28 p g M (if e = 0 then c else e) := by
  obtain ⟨v, hq, own, hg⟩ := hw.ex
  have c1 := (cell_of_row w p 1 _ _ _ hq).trans (show (#[v, .int .i64 e] : Array Value)[1]? = some (.int .i64 e) from rfl)
  have f1 := frozen_of_row w p 1 _ _ hq
  by_cases he : e = 0
  · subst he
    rw [if_pos rfl]
    have HW : Hid (Wr w (w.setCell ⟨p, 1, none⟩ (.int .i64 c)) 28 p g M c) := by
      refine ⟨g, ⟨⟨v, by rw [heap_setCell_same w p 1 _ 28 _ hq]; rfl, own_setCell own (by rw [hg]; exact hw.ne), hg⟩, hw.ne⟩, ⟨rfl, rfl, rfl, by simp [World.setCell], fun k hk hp hn => Below.heap_setCell _ _ _ _ hp⟩, .inl rfl⟩
    clear hw own hg hq
    go_enter Tryd.func36, Tryd.ntmps36
    go_wp2
    go_end0
    exact ⟨rfl, HW.out⟩
  · rw [if_neg he]
    have HW := Hid.mk' hw.wr
    clear hw own hg hq
    go_enter Tryd.func36, Tryd.ntmps36
    go_wp2
    go_end0
    exact ⟨rfl, HW.out⟩
end Go.Proofs.YtkinjcblngkeiaaDoor
