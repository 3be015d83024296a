import Derived.Test.YtphpaaajfcbafaaDoorPh
namespace Go.Proofs.YtphpaaajfcbafaaDoor.K
open Go.RowKit
set_option linter.unusedVariables false
set_option linter.unusedSimpArgs false

set_option maxHeartbeats 2000000 in
theorem sameN_any (a1 a2 : Option Addr) (l : List Nat) (n c1 c2 : Nat) (w : World) (hn : l.length = n) (h1 : Nums w a1 l) (h2 : Nums w a2 l) (hl : n ≤ 17592186044416) :
    Calls Tryd.prog 10 #[.slice a1 n c1, .slice a2 n c2] w fun e w' => e = .returned (.bool true) ∧ ∃ m, w' = w.drewN m := by
  subst hn
  go_enter Tryd.func10, Tryd.ntmps10
  go_wp2
  go_loopw [5] (fun i wr => ∃ k : Nat, k ≤ l.length ∧ i = .int .i64 k ∧ ∃ m, wr = w.drewN m) (fun i _ => l.length - (intOf i).toNat)
  case atStart => exact ⟨0, Nat.zero_le _, rfl, 0, rfl⟩
  case round =>
    obtain ⟨k, hk, rfl, m, rfl⟩ := hrel
    by_cases hlt : k < l.length
    · rcases h1 with rfl | ⟨b1, o1, rfl, d1⟩
      · simp at hlt
      rcases h2 with rfl | ⟨b2, o2, rfl, d2⟩
      · simp at hlt
      have e1 := d1 k hlt
      have e2 := d2 k hlt
      generalize l.getD k 0 = x at *
      go_wp2
      go_quiet (fail)
      go_wp2
      go_roundw
      case rel => exact ⟨k + 1, by omega, by go_num, _, rfl⟩
      case measure => simp [intOf]; omega
    · have hk2 : k = l.length := by omega
      subst hk2
      go_wp2
      go_ret
      exact ⟨rfl, m, rfl⟩
set_option maxHeartbeats 2000000 in
theorem sameS_any (a1 a2 : Option Addr) (l : List Int) (n c1 c2 : Nat) (w : World) (hn : l.length = n) (h1 : Sgn w a1 l) (h2 : Sgn w a2 l) (hl : n ≤ 17592186044416) :
    Calls Tryd.prog 11 #[.slice a1 n c1, .slice a2 n c2] w fun e w' => e = .returned (.bool true) ∧ ∃ m, w' = w.drewN m := by
  subst hn
  go_enter Tryd.func11, Tryd.ntmps11
  go_wp2
  go_loopw [5] (fun i wr => ∃ k : Nat, k ≤ l.length ∧ i = .int .i64 k ∧ ∃ m, wr = w.drewN m) (fun i _ => l.length - (intOf i).toNat)
  case atStart => exact ⟨0, Nat.zero_le _, rfl, 0, rfl⟩
  case round =>
    obtain ⟨k, hk, rfl, m, rfl⟩ := hrel
    by_cases hlt : k < l.length
    · rcases h1 with rfl | ⟨b1, o1, rfl, d1⟩
      · simp at hlt
      rcases h2 with rfl | ⟨b2, o2, rfl, d2⟩
      · simp at hlt
      have e1 := d1 k hlt
      have e2 := d2 k hlt
      generalize l.getD k 0 = x at *
      go_wp2
      go_quiet (fail)
      go_wp2
      go_roundw
      case rel => exact ⟨k + 1, by omega, by go_num, _, rfl⟩
      case measure => simp [intOf]; omega
    · have hk2 : k = l.length := by omega
      subst hk2
      go_wp2
      go_ret
      exact ⟨rfl, m, rfl⟩
theorem hu23 : Tryd.prog.underlying 28 = some (.slice (Tryd.prog.elem 28)) := by kernel_rfl
theorem he23 : Tryd.prog.elem 28 = 2 := by kernel_rfl
theorem to23 (b off n cap k : Nat) (h : k ≤ cap) (h0 : 0 < cap) (w : World) :
    (Instr.sliceAt 28 (.slice (some ⟨b, off, none⟩) n cap) none (some (.int .i64 (k : Int))) none).run Tryd.prog w = .ok (.slice (some ⟨b, off, none⟩) k cap) w := by
  obtain ⟨i, hi, _, hs, _⟩ := info_parts info2
  rw [run_sliceAt_slice w _ _ _ _ _ hu23, run_slice_h w _ _ _ _ hu23 .i64 _ (by omega) (by omega), he23]
  simp [sizeOf, typeInfo, hi, hs, sliced, Addr.add_mid]
/-- A row of the call's own that is not empty. -/
theorem OwnV.open1 {w : World} {base : Nat} {e : TypeId} {v : Value} {X : List Value} (h : OwnV w base e v X) (h0 : 0 < X.length) :
    ∃ g cap, v = .slice (some ⟨g, 0, none⟩) X.length cap ∧ X.length ≤ cap ∧ g < w.heap.size ∧ ∀ j u, X[j]? = some u → w.cell? ⟨g, j, none⟩ = some u := by
  obtain ⟨a, cap, e1, h1, h2, h3⟩ := h.open
  rcases h2 with rfl | ⟨b, off, rfl, hc⟩
  · simp at h0
  · rcases h.2 with ⟨rfl, hn⟩ | ⟨g, cap2, cur, e2, hbg, hg, rest⟩
    · omega
    · rw [e2] at e1
      simp only [Value.slice.injEq, Option.some.injEq, Addr.mk.injEq] at e1
      obtain ⟨⟨rfl, rfl, _⟩, _, rfl⟩ := e1
      exact ⟨g, cap2, e2, h1, (Array.getElem?_eq_some_iff.1 hg).1, fun j u hj => by have := hc j u hj; rwa [Nat.zero_add] at this⟩
/-- What was handed on: numbers, and one mark behind them. -/
structure Mk (W : World) (g cap : Nat) (X : List Value) (m : Value) : Prop where
  lt : g < W.heap.size
  room : X.length + 1 ≤ cap
  cells : ∀ j u, (X ++ [m])[j]? = some u → W.cell? ⟨g, j, none⟩ = some u
theorem Mk.below {W W' : World} {g cap : Nat} {X : List Value} {m : Value} (h : Mk W g cap X m) (hb : Below W.heap.size W W') : Mk W' g cap X m :=
  ⟨Nat.lt_of_lt_of_le h.lt hb.size, h.room, fun j u hj => (hb.cell (p := ⟨g, j, none⟩) h.lt).trans (h.cells j u hj)⟩
theorem Mk.vals {W : World} {g cap : Nat} {X : List Value} {m : Value} (h : Mk W g cap X m) : Vals W (some ⟨g, 0, none⟩) X :=
  .inr ⟨g, 0, rfl, fun j u hj => by
    rw [Nat.zero_add]
    exact h.cells j u (by rw [List.getElem?_append_left (List.getElem?_eq_some_iff.1 hj).1]; exact hj)⟩
theorem Mk.mark {W : World} {g cap : Nat} {X : List Value} {m : Value} (h : Mk W g cap X m) : W.cell? ⟨g, X.length, none⟩ = some m := h.cells _ _ (by simp)
theorem Mk.of {W : World} {base : Nat} {e : TypeId} {v : Value} {X : List Value} {m : Value} (h : OwnV W base e v (X ++ [m])) : ∃ g cap, v = .slice (some ⟨g, 0, none⟩) (X.length + 1) cap ∧ Mk W g cap X m := by
  obtain ⟨g, cap, e1, h1, h2, h3⟩ := h.open1 (by simp)
  refine ⟨g, cap, by rw [e1]; simp, ⟨h2, by simpa using h1, h3⟩⟩
end Go.Proofs.YtphpaaajfcbafaaDoor.K
