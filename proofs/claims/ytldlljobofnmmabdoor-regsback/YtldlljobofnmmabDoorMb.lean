import Derived.Test.YtldlljobofnmmabDoorHl
import Derived.Test.YtldlljobofnmmabDoorMa
import Derived.DeepKeys3
namespace Go.Proofs.YtldlljobofnmmabDoor
open Go.RowKit
set_option linter.unusedVariables false
set_option linter.unusedSimpArgs false

/-- An Id. -/
structure IdK where
  h : List UInt8
  n : Int
  deriving DecidableEq
/-- An Id that can be. -/
structure IdK.ok (k : IdK) : Prop where
  l : k.h.length = 32
  lo : -9223372036854775808 ≤ k.n
  hi : k.n ≤ 9223372036854775807
def IdK.c (k : IdK) : List Value := hcs k.h ++ [.int .i64 k.n]
def IdK.v (k : IdK) : Value := .agg k.c.toArray
def zId : IdK := ⟨List.replicate 32 0, 0⟩
theorem zId_ok : zId.ok := ⟨by simp [zId], by simp [zId], by simp [zId]⟩
theorem IdK.len {k : IdK} (h : k.ok) : k.c.length = 33 := by simp [IdK.c, hcs_len, h.l]
theorem IdK.one (k : IdK) : ∀ v ∈ k.c, v.oneCell' = true := by
  intro v hv
  simp only [IdK.c, List.mem_append, List.mem_singleton] at hv
  rcases hv with h | rfl
  · exact hcs_one _ v h
  · rfl
theorem m_sub {xs A B C : List Value} {off n : Nat} (e : xs = A ++ (B ++ C)) (hA : A.length = off) (hB : B.length = n) : xs.toArray.extract off (off + n) = B.toArray := by
  subst e hA hB
  apply Array.toList_inj.1
  simp
theorem m_get {xs A C : List Value} {v : Value} {off : Nat} (e : xs = A ++ (v :: C)) (hA : A.length = off) : xs.toArray[off]? = some v := by
  subst e hA
  simp
section
variable {w : World}
theorem m_agg {t : TypeId} {xs : Array Value} {off n : Nat} {B : Array Value} (hu : (isAgg t).run Tryd.prog w = .ok true w) (hs : (sizeOf t).run Tryd.prog w = .ok n w) (e : xs.extract off (off + n) = B) : (Go.part t xs off).run Tryd.prog w = .ok (.agg B) w := by
  simp only [Go.part, Sem.run_bind, hu, Result.andThen_ok, if_true, hs, Sem.run_pure, e]
theorem m_one {t : TypeId} {xs : Array Value} {off : Nat} {v : Value} (hu : (isAgg t).run Tryd.prog w = .ok false w) (e : xs[off]? = some v) : (Go.part t xs off).run Tryd.prog w = .ok v w := by
  simp only [Go.part, Sem.run_bind, hu, Result.andThen_ok, Bool.false_eq_true, if_false, e, Sem.run_pure]
theorem m_eqF {d : Nat} {xs ys : Array Value} {f : Field} {fs : List Field} {a b : Value} {r r' : Bool} (hn : f.name ≠ "_") (h1 : (Go.part f.type xs f.offset).run Tryd.prog w = .ok a w) (h2 : (Go.part f.type ys f.offset).run Tryd.prog w = .ok b w)
    (h3 : (Op.equalIn d f.type a b).run Tryd.prog w = .ok r w) (h4 : (Op.eqFields d xs ys fs).run Tryd.prog w = .ok r' w) : (Op.eqFields d xs ys (f :: fs)).run Tryd.prog w = .ok (r && r') w := by
  unfold Op.eqFields
  rw [if_pos hn]
  simp only [Sem.run_bind, h1, h2, h3, Result.andThen_ok]
  cases r with
  | false => simp
  | true => simp [h4]
end
theorem m_sz {t n : Nat} (h : (Tryd.prog.info? t).map (·.size) = some n) (w : World) : (sizeOf t).run Tryd.prog w = .ok n w := by
  cases hq : Tryd.prog.info? t with
  | none => rw [hq] at h; simp at h
  | some i =>
    rw [hq] at h
    simp at h
    simp [sizeOf, typeInfo, hq, h]
theorem agHash (w : World) : (isAgg 30).run Tryd.prog w = .ok true w := by simp [isAgg, run_underlying Tryd.underlying30]
theorem szHash (w : World) : (sizeOf 30).run Tryd.prog w = .ok 32 w := m_sz (by kernel_rfl) w
theorem agInt (w : World) : (isAgg 3).run Tryd.prog w = .ok false w := by simp [isAgg, run_underlying Tryd.underlying3]
theorem flId : (Tryd.prog.fieldsOf 32).toList = [⟨"Hash", 30, 0, false, "", "", 0⟩, ⟨"N", 3, 32, false, "", "", 32⟩] := by simp [Program.fieldsOf, Tryd.underlying32]
theorem m_eqHash (d : Nat) (a b : List UInt8) (ha : a.length = 32) (hb : b.length = 32) (w : World) : (Op.equalIn (d + 2) 30 (.agg (hcs a).toArray) (.agg (hcs b).toArray)).run Tryd.prog w = .ok (decide (a = b)) w := by
  rw [hcs_arr, hcs_arr]
  obtain ⟨i, hi⟩ : ∃ i, Tryd.prog.info? 5 = some i := by
    cases h : Tryd.prog.info? 5 with
    | none => have : (Tryd.prog.info? 5).isSome = true := by kernel_rfl
              rw [h] at this; cases this
    | some i => exact ⟨i, rfl⟩
  exact eq_bytes d Tryd.underlying30 hi (by kernel_rfl) Tryd.underlying5 a b ha hb w
theorem eqId (d : Nat) (a b : IdK) (ha : a.ok) (hb : b.ok) (w : World) : (Op.equalIn (d + 3) 32 a.v b.v).run Tryd.prog w = .ok (decide (a = b)) w := by
  unfold IdK.v
  rw [run_equalIn_agg w (d + 2) 32 _ _ (by simp [Program.fieldsOf, Tryd.underlying32]) (by kernel_rfl), flId]
  have e : decide (a = b) = (decide (a.h = b.h) && (a.n == b.n && true)) := by
    rw [Bool.eq_iff_iff]
    obtain ⟨h1, n1⟩ := a
    obtain ⟨h2, n2⟩ := b
    simp
  rw [e]
  refine m_eqF (by decide) (m_agg (agHash w) (szHash w) (m_sub (A := []) (B := hcs a.h) (C := [.int .i64 a.n]) rfl rfl (by rw [hcs_len, ha.l]))) (m_agg (agHash w) (szHash w) (m_sub (A := []) (B := hcs b.h) (C := [.int .i64 b.n]) rfl rfl (by rw [hcs_len, hb.l]))) (m_eqHash d _ _ ha.l hb.l w) ?_
  refine m_eqF (by decide) (m_one (agInt w) (m_get (A := hcs a.h) (C := []) rfl (by simp [hcs_len, ha.l]))) (m_one (agInt w) (m_get (A := hcs b.h) (C := []) rfl (by simp [hcs_len, hb.l]))) (run_equalIn_int w (d + 1) 3 .i64 .i64 _ _ Tryd.underlying3) ?_
  simp [Op.eqFields]
theorem same_bits : ∀ (l : List Value), (∀ v ∈ l, ∃ q n, v = .int q n) → ((l.zip l).all fun x => Instr.sameBits 9999 x.1 x.2) = true := by
  intro l hl
  rw [List.all_eq_true]
  intro x hx
  obtain ⟨i, hi⟩ := List.getElem?_of_mem hx
  rw [List.getElem?_zip_eq_some] at hi
  have e : x.1 = x.2 := Option.some.inj (hi.1.symm.trans hi.2)
  obtain ⟨q, n, hv⟩ := hl x.1 (List.mem_of_getElem? hi.1)
  rw [← e, hv]
  simp [Instr.sameBits]
theorem hcs_int (h : List UInt8) : ∀ v ∈ hcs h, ∃ n : Nat, n < 256 ∧ v = .int .u8 (n : Int) := by
  intro v hv
  simp only [hcs, bs, List.mem_map, List.mem_toArray, Array.mem_toList_iff] at hv
  obtain ⟨b, _, rfl⟩ := hv
  exact ⟨b.toNat, b.toNat_lt, rfl⟩
theorem id_bits (k : IdK) : Instr.sameBits 10000 k.v k.v = true := by
  unfold IdK.v
  rw [Instr.sameBits]
  simp only [BEq.rfl, Bool.true_and]
  refine same_bits _ (fun v hv => ?_)
  simp only [IdK.c, List.mem_append, List.mem_singleton] at hv
  rcases hv with h | rfl
  · obtain ⟨n, _, e⟩ := hcs_int _ v h
    exact ⟨_, _, e⟩
  · exact ⟨_, _, rfl⟩
theorem mapM_some {α β : Type} (f : α → Option β) : ∀ (l : List α), (∀ x ∈ l, ∃ y, f x = some y) → ∃ ys, l.mapM f = some ys
  | [], _ => ⟨[], rfl⟩
  | a :: l, h => by
    obtain ⟨y, hy⟩ := h a (by simp)
    obtain ⟨ys, hys⟩ := mapM_some f l (fun x hx => h x (List.mem_cons_of_mem _ hx))
    exact ⟨y :: ys, by simp [List.mapM_cons, hy, hys]⟩
theorem hash_lits (D : Nat) (h : List UInt8) (hl : h.length = 32) : ∃ la, Tryd.prog.keyLits (D + 2) 30 (hcs h) = some la := by
  have hc : Tryd.prog.cellsOf 30 = 32 := by kernel_rfl
  have hc5 : Tryd.prog.cellsOf 5 = 1 := by kernel_rfl
  unfold Program.keyLits
  simp only [Tryd.underlying30]
  rw [if_pos (by rw [hcs_len, hl, hc])]
  obtain ⟨ys, hys⟩ := mapM_some (fun i => Tryd.prog.keyLits (D + 1) 5 (((hcs h).drop (i * Tryd.prog.cellsOf 5)).take (Tryd.prog.cellsOf 5))) (List.range 32) (fun i hi => by
    have hi' := List.mem_range.1 hi
    have hlen : i < (hcs h).length := by rw [hcs_len, hl]; exact hi'
    rw [hc5, Nat.mul_one, List.drop_eq_getElem_cons hlen, List.take_succ_cons, List.take_zero]
    obtain ⟨n, hn, e⟩ := hcs_int h _ (List.getElem_mem hlen)
    rw [e]
    unfold Program.keyLits
    simp only [Tryd.underlying5]
    rw [if_pos (by simp [Lit.wf, IntKind.min, IntKind.max, IntKind.bits, IntKind.signed]; omega)]
    exact ⟨_, rfl⟩)
  rw [hys]
  exact ⟨_, rfl⟩
theorem id_lits (D : Nat) (k : IdK) (hk : k.ok) : ∃ la, Tryd.prog.keyLits (D + 3) 32 k.c = some la := by
  have hc : Tryd.prog.cellsOf 32 = 33 := by kernel_rfl
  have hch : Tryd.prog.cellsOf 30 = 32 := by kernel_rfl
  have hc3 : Tryd.prog.cellsOf 3 = 1 := by kernel_rfl
  obtain ⟨la, hla⟩ := hash_lits D k.h hk.l
  have e1 : (k.c.drop 0).take 32 = hcs k.h := by
    rw [List.drop_zero, IdK.c, ← hk.l, ← hcs_len, List.take_left]
  have e2 : (k.c.drop 32).take 1 = [.int .i64 k.n] := by
    have hl : (hcs k.h).length = 32 := by rw [hcs_len, hk.l]
    rw [IdK.c, ← hl, List.drop_left]
    rfl
  have e3 : Tryd.prog.keyLits (D + 2) 3 [.int .i64 k.n] = some [.int .i64 k.n] := by
    unfold Program.keyLits
    simp only [Tryd.underlying3]
    have := hk.lo
    have := hk.hi
    rw [if_pos (by simp [Lit.wf, IntKind.min, IntKind.max, IntKind.bits, IntKind.signed]; omega)]
  unfold Program.keyLits
  simp only [Tryd.underlying32]
  rw [if_pos ⟨by rw [IdK.len hk, hc], by simp⟩]
  rw [List.drop_zero] at e1
  simp [hch, hc3, e1, e2, hla, e3]
theorem id_chk (b : Bool) (k : IdK) (w : World) (hk : k.ok) : (Instr.checkKey b 10000 32 k.v).run Tryd.prog w = .ok () w := by
  obtain ⟨la, h⟩ := id_lits 0 k hk
  have hf : k.v.formed Tryd.prog 32 = true := by
    unfold IdK.v Value.formed
    simp only [Tryd.underlying32]
    rw [List.size_toArray, IdK.len hk]
    kernel_rfl
  exact run_checkKey_deep b 9990 10 32 (by kernel_rfl) w 3 k.v la hf (by simpa [IdK.v, Value.cells] using h)
/-- Ids as a map's keys. -/
theorem idKey : M.KeyOk Tryd.prog 32 IdK.v IdK.ok := {
  chk := fun b k w hk => id_chk b k w hk
  eq := fun a b w ha hb => eqId 9997 a b ha hb w
  und := ⟨_, Tryd.underlying32, .inl fun a b => rfl⟩
  bits := id_bits }
end Go.Proofs.YtldlljobofnmmabDoor
