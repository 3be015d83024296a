import Derived.Test.YtnbjelpnpnppmaaDoorPieces
import Derived.Test.YtnbjelpnpnppmaaDoorFlM
import Derived.Deep.RegionHeld3
namespace Go.Proofs.YtnbjelpnpnppmaaDoor
open Go.RowKit
set_option linter.unusedVariables false
set_option linter.unusedSimpArgs false

/-- append onto an owned row, as one step of a region that draws. -/
theorem step_app {ops : Array Oper} {o : Oper} {a : Act} {w : World} {K : Act → World → Prop} {Q : Exit → Act → World → Prop} {E : Prop} (hgd : o.guard = none) (s x : Operand)
    (ho : o.op = .call { callee := .builtin .append, args := #[s, x], argTypes := #[23, 23] }) (base : Nat) (v : Value) (L : List UInt8) (hs : a.eval s = v) (hown : OwnB w base v L)
    (aa : Option Addr) (m c : Nat) (M : List UInt8) (hx : a.eval x = .slice aa m c) (hm : M.length = m) (hb : Byt w aa M) (hlen : (L.length + M.length) + (L.length + M.length) / 4 + 192 ≤ 281474976710656) (hbase : base ≤ w.heap.size)
    (h : ∀ v' w', OwnB w' base v' (L ++ M) → w.grownBy w' v.ownBlock → K (a.put o.dst v') w') : if Region.wanted o (yielded ops a.tmps) = true then Oper.wp Tryd.prog o a w K Q else E := by
  have hw : Region.wanted o (yielded ops a.tmps) = true := by simp [Region.wanted, hgd]
  rw [if_pos hw]
  subst hm
  obtain ⟨v', w', hr, h2, h3⟩ := run_appw w base o.type v L aa M c hown hb hlen hbase
  unfold Oper.wp execOp
  simp only [ho, resolve, invoke, builtin, Sem.run_bind, Sem.run_pure, Result.andThen_ok, List.map_toArray, List.map_cons, List.map_nil, hs, hx, hr]
  exact h v' w' h2 h3

/-- What 'turned' answers. -/
def TuOut (w w' : World) (F : List UInt8) (n : Nat) (e : Ending) : Prop :=
  ∃ v F' any, e = .returned (.tuple #[v, .bool any]) ∧ OwnB w' w.heap.size v F' ∧ Below w.heap.size w w' ∧
      (any = false ∧ F' = F ∨ any = true ∧ ∃ r x, r < n ∧ F' = F.set r x ∧ F.getD r 0 ≠ x)
set_option maxRecDepth 100000 in
set_option maxHeartbeats 2000000 in
theorem turned_any (g n cap : Nat) (F : List UInt8) (atv : Int) (mk : UInt8) (w : World) (hl : F.length = n) (hn : n ≤ 134217728) (hn0 : 0 < n) (hb : Byt w (some ⟨g, 0, none⟩) F) :
    Calls Tryd.prog 9 #[.slice (some ⟨g, 0, none⟩) n cap, .int .i64 atv, .int .u8 (mk.toNat : Int)] w fun e w' => TuOut w w' F n e := by
  have O0 : Hid (OwnB (w.alloc (.cells #[] 5)) w.heap.size (.slice (some ⟨w.heap.size, 0, none⟩) 0 0) []) := ⟨rfl, .inr ⟨w.heap.size, 0, #[], rfl, Nat.le_refl _, heap_alloc_new _ _, by simp, by simp [maxLen], rfl, rfl⟩⟩
  have be0 : Below w.heap.size w (w.alloc (.cells #[] 5)) := (Below.refl _ _).alloc (Nat.le_refl _) _
  have B0 : Hid (Byt (w.alloc (.cells #[] 5)) (some ⟨g, 0, none⟩) F) := byt_below hb be0
  have S0 : Hid (([] : List UInt8).length + F.length ≤ 140737488355328) := by show _ ≤ _; simp; omega
  have Z0 : Hid (w.heap.size ≤ (w.alloc (.cells #[] 5)).heap.size) := by show _ ≤ _; simp
  go_enter Tryd.func9, Tryd.ntmps9
  go_wp2_with (first | (at_builtin; refine wpList_app rfl (.tmp 9) (.tmp 10) rfl w.heap.size (.slice (some ⟨w.heap.size, 0, none⟩) 0 0) [] rfl O0.out (some ⟨g, 0, none⟩) n cap F rfl hl B0.out S0.out Z0.out ?_) | fail)
  intro v w1 own1 grow1
  have be1 : Below w.heap.size w w1 := be0.grown grow1 Z0.out (fun k hk => (World.ownsRow.lt O0.out k hk).1)
  have own2 : OwnB w1 w.heap.size v F := by simpa using own1
  clear own1 grow1 O0 B0 S0 Z0 be0
  obtain ⟨g1, c1, rfl, hcv, hcl, hg1, hg2⟩ := own2.open1 (by omega)
  rw [hl] at hcv ⊢
  rw [hl] at own2
  by_cases h0 : atv < 0
  · have OW : Hid (OwnB w1 w.heap.size (.slice (some ⟨g1, 0, none⟩) n c1) F) := own2
    clear hcl own2
    go_wp2
    go_ret2
    exact ⟨_, F, false, rfl, OW.out, be1, .inl ⟨rfl, rfl⟩⟩
  by_cases h1 : (n : Int) ≤ atv
  · have OW : Hid (OwnB w1 w.heap.size (.slice (some ⟨g1, 0, none⟩) n c1) F) := own2
    clear hcl own2
    go_wp2
    go_ret2
    exact ⟨_, F, false, rfl, OW.out, be1, .inl ⟨rfl, rfl⟩⟩
  by_cases hz : mk = 0
  · have OW : Hid (OwnB w1 w.heap.size (.slice (some ⟨g1, 0, none⟩) n c1) F) := own2
    subst hz
    clear hcl own2
    go_wp2
    go_ret2
    exact ⟨_, F, false, rfl, OW.out, be1, .inl ⟨rfl, rfl⟩⟩
  have hb0 : ¬ ((mk.toNat : Int) = 0) := fun e => hz (UInt8.toNat_inj.1 (by show mk.toNat = 0; omega))
  obtain ⟨r, rfl⟩ : ∃ r : Nat, atv = (r : Int) := ⟨atv.toNat, by omega⟩
  have hr : r < n := by omega
  obtain ⟨dc, df⟩ := own_cell own2 (r := r) (by omega)
  obtain ⟨x, hx⟩ : ∃ x, x = F.getD r 0 ^^^ mk := ⟨_, rfl⟩
  have hxor : bits .xor .u8 (at8 F r) (mk.toNat : Int) = (x.toNat : Int) := by rw [hx]; exact xor8 _ _
  have HX : Hid (x = F.getD r 0 ^^^ mk) := hx
  have OW : Hid (OwnB (w1.setCell ⟨g1, r, none⟩ (.int .u8 (x.toNat : Int))) w.heap.size (.slice (some ⟨g1, 0, none⟩) n c1) (F.set r x)) := own_set own2 x (by omega)
  have be2 : Below w.heap.size w (w1.setCell ⟨g1, r, none⟩ (.int .u8 (x.toNat : Int))) := be1.setCell hg1 _
  clear hx own2 hcl be1
  go_wp2
  go_ret2
  refine ⟨_, F.set r x, true, rfl, OW.out, be2, .inr ⟨rfl, r, x, hr, rfl, fun e => hz ?_⟩⟩
  rw [HX.out] at e
  have h4 : F.getD r 0 ^^^ (F.getD r 0 ^^^ mk) = F.getD r 0 ^^^ F.getD r 0 := by rw [← e]
  rw [← UInt8.xor_assoc, UInt8.xor_self, UInt8.zero_xor] at h4
  exact h4
end Go.Proofs.YtnbjelpnpnppmaaDoor
