import Derived.Test.YtldlljobofnmmabDoorGl
import Derived.Test.YtldlljobofnmmabDoorRgp
namespace Go.Proofs.YtldlljobofnmmabDoor
open Go.RowKit
set_option linter.unusedVariables false
set_option linter.unusedSimpArgs false

/-- A value. -/
structure VaV where
  k : Int
  n : Int
  f : Nat
  s : ByteArray
  deriving DecidableEq
structure VaV.ok (x : VaV) : Prop where
  k0 : 0 ≤ x.k
  k1 : x.k ≤ 255
  lo : -9223372036854775808 ≤ x.n
  hi : x.n ≤ 9223372036854775807
  ff : x.f < 18446744073709551616
  ss : x.s.size ≤ maxLen
def VaV.c (x : VaV) : List Value := [.int .u8 x.k, .int .i64 x.n, .float .f64 x.f, .string x.s]
def VaV.v (x : VaV) : Value := .agg x.c.toArray
def zVa : VaV := ⟨0, 0, 0, ⟨#[]⟩⟩
theorem zVa_ok : zVa.ok := ⟨by decide, by decide, by decide, by decide, by decide, by decide⟩
theorem VaV.len (x : VaV) : x.c.length = 4 := rfl
theorem VaV.one (x : VaV) : ∀ v ∈ x.c, v.oneCell' = true := by
  intro v hv
  simp only [VaV.c, List.mem_cons, List.not_mem_nil, or_false] at hv
  rcases hv with rfl | rfl | rfl | rfl <;> rfl
/-- An entry. -/
structure EnV where
  id : IdK
  v : VaV
  deriving DecidableEq
structure EnV.ok (x : EnV) : Prop where
  i : x.id.ok
  w : x.v.ok
def EnV.c (x : EnV) : List Value := x.id.c ++ x.v.c
def EnV.a (x : EnV) : Value := .agg x.c.toArray
def zEn : EnV := ⟨zId, zVa⟩
theorem zEn_ok : zEn.ok := ⟨zId_ok, zVa_ok⟩
theorem EnV.len {x : EnV} (h : x.ok) : x.c.length = 37 := by simp [EnV.c, IdK.len h.i, VaV.len]
theorem EnV.one (x : EnV) : ∀ v ∈ x.c, v.oneCell' = true := by
  intro v hv
  rcases List.mem_append.1 hv with h | h
  · exact x.id.one v h
  · exact x.v.one v h
def RN : RowT EnV := ⟨EnV.c, EnV.ok, 37, 80, 65, 44, zEn⟩
theorem RN_is : RN.Is := ⟨zEn_ok, fun _ h => EnV.len h, EnV.one, Tryd.underlying44, by kernel_rfl, ⟨_, Tryd.underlying65, rfl⟩, by decide, by decide⟩
/-- An entry as it stood. -/
def sdC (x : Nat × EnV) : List Value := .int .i64 (x.1 : Int) :: x.2.c
def RD : RowT (Nat × EnV) := ⟨sdC, fun x => x.2.ok ∧ x.1 ≤ 9223372036854775807, 38, 88, 100, 83, (0, zEn)⟩
theorem RD_is : RD.Is := ⟨⟨zEn_ok, by decide⟩, fun x h => by show (sdC x).length = 38; simp [sdC, EnV.len h.1], fun x v hv => by
  rcases List.mem_cons.1 hv with rfl | hv
  · rfl
  · exact x.2.one v hv, Tryd.underlying83, by kernel_rfl, ⟨_, Tryd.underlying100, rfl⟩, by decide, by decide⟩
/-- A place. -/
structure PlK where
  o : IdK
  k : ByteArray
  a : IdK
  deriving DecidableEq
structure PlK.ok (x : PlK) : Prop where
  o : x.o.ok
  k : x.k.size ≤ maxLen
  a : x.a.ok
def PlK.c (x : PlK) : List Value := x.o.c ++ (.string x.k :: x.a.c)
def PlK.v (x : PlK) : Value := .agg x.c.toArray
def zPl : PlK := ⟨zId, ⟨#[]⟩, zId⟩
theorem zPl_ok : zPl.ok := ⟨zId_ok, by decide, zId_ok⟩
theorem PlK.len {x : PlK} (h : x.ok) : x.c.length = 67 := by simp [PlK.c, IdK.len h.o, IdK.len h.a]
theorem PlK.one (x : PlK) : ∀ v ∈ x.c, v.oneCell' = true := by
  intro v hv
  rcases List.mem_append.1 hv with h | h
  · exact x.o.one v h
  · rcases List.mem_cons.1 h with rfl | h
    · rfl
    · exact x.a.one v h
theorem agId (w : World) : (isAgg 32).run Tryd.prog w = .ok true w := by simp [isAgg, run_underlying Tryd.underlying32]
theorem agStr (w : World) : (isAgg 9).run Tryd.prog w = .ok false w := by simp [isAgg, run_underlying Tryd.underlying9]
theorem szIdS (w : World) : (sizeOf 32).run Tryd.prog w = .ok 33 w := m_sz (by kernel_rfl) w
theorem flPl : (Tryd.prog.fieldsOf 34).toList = [⟨"Obj", 32, 0, false, "", "", 0⟩, ⟨"Key", 9, 33, false, "", "", 40⟩, ⟨"At", 32, 34, false, "", "", 56⟩] := by simp [Program.fieldsOf, Tryd.underlying34]
theorem eqPl (d : Nat) (a b : PlK) (ha : a.ok) (hb : b.ok) (w : World) : (Op.equalIn (d + 4) 34 a.v b.v).run Tryd.prog w = .ok (decide (a = b)) w := by
  unfold PlK.v
  rw [run_equalIn_agg w (d + 3) 34 _ _ (by simp [Program.fieldsOf, Tryd.underlying34]) (by kernel_rfl), flPl]
  have e : decide (a = b) = (decide (a.o = b.o) && ((a.k.toList == b.k.toList) && (decide (a.a = b.a) && true))) := by
    rw [Bool.eq_iff_iff]
    obtain ⟨o1, k1, a1⟩ := a
    obtain ⟨o2, k2, a2⟩ := b
    simp only [decide_eq_true_eq, PlK.mk.injEq, Bool.and_eq_true, beq_iff_eq, Bool.and_true]
    constructor
    · rintro ⟨rfl, rfl, rfl⟩; exact ⟨rfl, rfl, rfl⟩
    · rintro ⟨rfl, h, rfl⟩
      refine ⟨rfl, ?_, rfl⟩
      rw [ByteArray.toList_eq, ByteArray.toList_eq] at h
      cases k1; cases k2
      congr 1
      exact Array.toList_inj.1 h
  rw [e]
  refine m_eqF (by decide) (m_agg (agId w) (szIdS w) (m_sub (A := []) (B := a.o.c) rfl rfl (IdK.len ha.o))) (m_agg (agId w) (szIdS w) (m_sub (A := []) (B := b.o.c) rfl rfl (IdK.len hb.o))) (eqId d a.o b.o ha.o hb.o w) ?_
  refine m_eqF (by decide) (m_one (agStr w) (m_get (A := a.o.c) rfl (IdK.len ha.o))) (m_one (agStr w) (m_get (A := b.o.c) rfl (IdK.len hb.o))) (run_equalIn_string w (d + 2) 9 _ _ Tryd.underlying9) ?_
  refine m_eqF (by decide) (m_agg (agId w) (szIdS w) (m_sub (A := a.o.c ++ [.string a.k]) (B := a.a.c) (C := []) (by simp [PlK.c]) (by simp [IdK.len ha.o]) (IdK.len ha.a))) (m_agg (agId w) (szIdS w) (m_sub (A := b.o.c ++ [.string b.k]) (B := b.a.c) (C := []) (by simp [PlK.c]) (by simp [IdK.len hb.o]) (IdK.len hb.a))) (eqId d a.a b.a ha.a hb.a w) ?_
  simp [Op.eqFields]
theorem same_bits2 : ∀ (l : List Value), (∀ v ∈ l, (∃ q n, v = .int q n) ∨ ∃ s, v = .string s) → ((l.zip l).all fun x => Instr.sameBits 9999 x.1 x.2) = true := by
  intro l hl
  rw [List.all_eq_true]
  intro x hx
  obtain ⟨i, hi⟩ := List.getElem?_of_mem hx
  rw [List.getElem?_zip_eq_some] at hi
  have e : x.1 = x.2 := Option.some.inj (hi.1.symm.trans hi.2)
  rcases hl x.1 (List.mem_of_getElem? hi.1) with ⟨q, n, hv⟩ | ⟨s, hv⟩
  · rw [← e, hv]; simp [Instr.sameBits]
  · rw [← e, hv]; simp only [Instr.sameBits]; exact (MapKept.bytes_beq s s).2 rfl
theorem id_ints (k : IdK) : ∀ v ∈ k.c, (∃ q n, v = .int q n) := by
  intro v hv
  simp only [IdK.c, List.mem_append, List.mem_singleton] at hv
  rcases hv with h | rfl
  · obtain ⟨n, _, e⟩ := hcs_int _ v h
    exact ⟨_, _, e⟩
  · exact ⟨_, _, rfl⟩
theorem pl_bits (k : PlK) : Instr.sameBits 10000 k.v k.v = true := by
  unfold PlK.v
  rw [Instr.sameBits]
  simp only [BEq.rfl, Bool.true_and]
  refine same_bits2 _ (fun v hv => ?_)
  rcases List.mem_append.1 hv with h | h
  · exact .inl (id_ints _ v h)
  · rcases List.mem_cons.1 h with rfl | h
    · exact .inr ⟨_, rfl⟩
    · exact .inl (id_ints _ v h)
theorem pl_lits (D : Nat) (k : PlK) (hk : k.ok) : ∃ la, Tryd.prog.keyLits (D + 4) 34 k.c = some la := by
  have hc : Tryd.prog.cellsOf 34 = 67 := by kernel_rfl
  have hci : Tryd.prog.cellsOf 32 = 33 := by kernel_rfl
  have hcs : Tryd.prog.cellsOf 9 = 1 := by kernel_rfl
  obtain ⟨l1, h1⟩ := id_lits D k.o hk.o
  obtain ⟨l2, h2⟩ := id_lits D k.a hk.a
  have lo := IdK.len hk.o
  have la := IdK.len hk.a
  have e1 : k.c.take 33 = k.o.c := by rw [PlK.c, ← lo, List.take_left]
  have e2 : (k.c.drop 33).take 1 = [.string k.k] := by rw [PlK.c, ← lo, List.drop_left]; rfl
  have e3 : (k.c.drop 34).take 33 = k.a.c := by
    rw [PlK.c, show k.o.c ++ (Value.string k.k :: k.a.c) = (k.o.c ++ [.string k.k]) ++ k.a.c by simp, show 34 = (k.o.c ++ [Value.string k.k]).length by simp [lo], List.drop_left, ← la, List.take_length]
  have e4 : Tryd.prog.keyLits (D + 3) 9 [.string k.k] = some [.string k.k.data.toList] := by
    unfold Program.keyLits
    simp only [Tryd.underlying9]
    rw [if_pos hk.k]
  unfold Program.keyLits
  simp only [Tryd.underlying34]
  rw [if_pos ⟨by rw [PlK.len hk, hc], by simp⟩]
  simp [hci, hcs, e1, e2, e3, h1, h2, e4]
theorem pl_chk (b : Bool) (k : PlK) (w : World) (hk : k.ok) : (Instr.checkKey b 10000 34 k.v).run Tryd.prog w = .ok () w := by
  obtain ⟨la, h⟩ := pl_lits 0 k hk
  have hf : k.v.formed Tryd.prog 34 = true := by
    unfold PlK.v Value.formed
    simp only [Tryd.underlying34]
    rw [List.size_toArray, PlK.len hk]
    kernel_rfl
  exact run_checkKey_deep b 9990 10 34 (by kernel_rfl) w 4 k.v la hf (by simpa [PlK.v, Value.cells] using h)
/-- Places as a map's keys. -/
theorem plKey : M.KeyOk Tryd.prog 34 PlK.v PlK.ok := {
  chk := fun b k w hk => pl_chk b k w hk
  eq := fun a b w ha hb => eqPl 9996 a b ha hb w
  und := ⟨_, Tryd.underlying34, .inl fun a b => rfl⟩
  bits := pl_bits }
theorem ba_inj {a b : ByteArray} (h : a.toList = b.toList) : a = b := by
  rw [ByteArray.toList_eq, ByteArray.toList_eq] at h
  cases a; cases b
  congr 1
  exact Array.toList_inj.1 h
/-- Texts as a map's keys. -/
def tx (s : ByteArray) : Value := .string s
theorem txKey : M.KeyOk Tryd.prog 9 tx (fun s => s.size ≤ maxLen) := {
  chk := fun b k w hk => MapKept.run_checkKey (d := .string) (k := .string k) Tryd.underlying9 trivial b 9999
  eq := fun a b w ha hb => by
    have : (Op.equal 9 (.string a) (.string b)).run Tryd.prog w = .ok (a.toList == b.toList) w := by
      unfold Op.equal Op.maxDepth
      exact run_equalIn_string w 9999 9 _ _ Tryd.underlying9
    have e : decide (a = b) = (a.toList == b.toList) := by
      rw [Bool.eq_iff_iff]
      simp only [decide_eq_true_eq, beq_iff_eq]
      constructor
      · rintro rfl; rfl
      · exact ba_inj
    rw [e]
    exact this
  und := ⟨_, Tryd.underlying9, .inr fun a b => by
    have e : (a == b) = decide (a = b) := by rw [Bool.eq_iff_iff, MapKept.bytes_beq, decide_eq_true_eq]
    rw [← e]
    rfl⟩
  bits := fun k => by
    simp only [tx, Instr.sameBits]
    exact (MapKept.bytes_beq k k).2 rfl }
end Go.Proofs.YtldlljobofnmmabDoor
