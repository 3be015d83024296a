import Derived.Test.YtldlljobofnmmabDoorRgb
import Derived.Laws.MakeOwn
namespace Go.Proofs.YtldlljobofnmmabDoor
open Go.RowKit
set_option linter.unusedVariables false
set_option linter.unusedSimpArgs false

theorem RowT.make0 {κ : Type} {R : RowT κ} (I : R.Is) (w : World) (base n : Nat) (hn : n * R.bytes ≤ 281474976710656) (hm : n ≤ 9000000000000000) (hb : base ≤ w.heap.size) :
    ∃ w', (Instr.makeSlice R.t (.int .i64 0) (.int .i64 (n : Int))).run Tryd.prog w = .ok (.slice (some ⟨w.heap.size, 0, none⟩) 0 n) w' ∧ R.Own w' base (.slice (some ⟨w.heap.size, 0, none⟩) 0 n) [] ∧ Below w.heap.size w w' := by
  obtain ⟨i, hi, hz, hs, hby⟩ := info_parts I.info
  obtain ⟨w', e, o, g⟩ := run_make_own (P := Tryd.prog) w base R.t R.e i _ R.k I.und hi hz hs .i64 .i64 n (by rw [hby, Nat.mul_comm]; exact hn) (by unfold maxLen; omega) hb
  exact ⟨w', e, o, grown_below g⟩
theorem exec_sl3 {w : World} {a : Act} {o : Oper} {t : TypeId} {x hi mx : Operand} {xv hv mv v : Value} (ho : o.op = .slice t x none (some hi) (some mx)) (hx : a.eval x = xv) (h2 : a.eval hi = hv) (h3 : a.eval mx = mv) (hl : (Instr.sliceAt t xv none (some hv) (some mv)).run Tryd.prog w = .ok v w) : (execOp a.eval o).run Tryd.prog w = .ok (.value v) w := exec_slice ho hx rfl (congrArg some h2) (congrArg some h3) hl
set_option maxRecDepth 100000 in
set_option maxHeartbeats 2000000 in
/-- The first m of a list, without room behind them. -/
theorem cut_any (a : Option Addr) {n c m : Nat} (hm : m ≤ c) (w : World) : Calls Tryd.prog 33 #[.slice a n c, .int .i64 (m : Int)] w fun e w' => e = .returned (.slice a m m) ∧ w' = w := by
  have HS := hidMk (RowT.sl_cut RN_is a (n := n) hm w)
  go_enter Tryd.func33, Tryd.ntmps33
  go_wp2_with (first
    | (refine wpList_val rfl (exec_sl3 (t := 44) (xv := .slice a n c) (hv := .int .i64 (m : Int)) (mv := .int .i64 (m : Int)) (v := .slice a m m) rfl rfl rfl rfl HS.out) ?_)
    | fail)
  go_ret
  exact ⟨rfl, rfl⟩
theorem bs_en0 (w : World) : (Instr.buildSlice 44 0 #[]).run Tryd.prog w = .ok (.slice (some ⟨w.heap.size, 0, none⟩) 0 0) (w.alloc (.cells #[] 65)) := by kernel_rfl
theorem eql_en0 (w : World) : (binOp .eql 44 (.slice none 0 0) (.slice none 0 0)).run Tryd.prog w = .ok (.bool true) w := by kernel_rfl
theorem eql_en1 (a : Addr) (n c : Nat) (w : World) : (binOp .eql 44 (.slice (some a) n c) (.slice none 0 0)).run Tryd.prog w = .ok (.bool false) w := by kernel_rfl
attribute [local go_sem] eql_en0 eql_en1
set_option maxRecDepth 100000 in
set_option maxHeartbeats 2000000 in
/-- slices.Clone. -/
theorem clone_any {w : World} {base : Nat} {v : Value} {L : List EnV} (h : RN.Lo w base v L) (ok : ∀ x ∈ L, x.ok) (hn : L.length ≤ 2500000000000) :
    Calls Tryd.prog 24 #[v] w fun e w' => ∃ v', e = .returned v' ∧ RN.Own w' w.heap.size v' L ∧ Below w.heap.size w w' := by
  obtain ⟨a, c, rfl, hat, hc, hcm, _⟩ := h.open RN_is ok
  have hnil : a = none → L = [] ∧ c = 0 := fun e => by
    rcases h with ⟨e1, e2⟩ | ⟨g, cap, cur, e1, _⟩
    · injection e1 with _ _ e3; exact ⟨e2, e3⟩
    · injection e1 with e3; rw [e] at e3; cases e3
  cases a with
  | none =>
    obtain ⟨rfl, rfl⟩ := hnil rfl
    go_enter Tryd.func24, Tryd.ntmps24
    go_wp2
    go_ret
    exact ⟨_, rfl, RowT.own_nil RN w w.heap.size, Below.refl _ _⟩
  | some ad =>
    have b1 : Below w.heap.size w (w.alloc (.cells #[] 65)) := (Below.refl _ _).alloc (Nat.le_refl _) _
    have o1 : RN.Own (w.alloc (.cells #[] 65)) w.heap.size (.slice (some ⟨w.heap.size, 0, none⟩) 0 0) [] := ⟨by simp [RowT.flat], .inr ⟨w.heap.size, 0, #[], rfl, Nat.le_refl _, heap_alloc_new _ _, Nat.le_refl _, by decide, by simp, by simp [RowT.flat]⟩⟩
    obtain ⟨v', w2, e2, o2, g2, q2⟩ := RowT.run_app RN_is _ w.heap.size _ [] (some ad) L c o1 (hat.below b1) ok (by simp; unfold maxLen; omega) (by show _ * 80 ≤ _; simp; omega) b1.size
    have E1 := hidMk (bs_en0 w)
    have B2 : Hid (Below w.heap.size w w2) := b1.grown g2 b1.size (fun k hk => (o1.cells hk).1)
    generalize w.alloc (.cells #[] 65) = w1 at *
    obtain ⟨n, hnn⟩ : ∃ n, L.length = n := ⟨_, rfl⟩
    rw [hnn] at e2 ⊢
    have E2 := hidMk e2
    have O2 := hidMk o2
    clear h hat hc hcm hnil b1 o1 e2 o2 g2 q2 hnn
    go_enter Tryd.func24, Tryd.ntmps24
    go_wp2_with (first
      | (refine wpList_run rfl (exec_bs0 (t := 44) (v := .slice (some ⟨w.heap.size, 0, none⟩) 0 0) (w2 := w1) rfl E1.out) ?_)
      | (refine wpList_run rfl (exec_append (xv := .slice (some ⟨w.heap.size, 0, none⟩) 0 0) (yv := .slice (some ad) n c) (v := v') (w2 := w2) rfl rfl rfl E2.out) ?_)
      | fail)
    go_ret
    exact ⟨_, rfl, by simpa using O2.out, B2.out⟩
end Go.Proofs.YtldlljobofnmmabDoor
