import Derived.Test.YthfbolmfkilkjaaHj
namespace Go.Proofs.Ythfbolmfkilkjaa
open Go.RowKit
set_option linter.unusedVariables false
set_option linter.unusedSimpArgs false

/-- An edit. -/
structure EdV where
  act : Int
  k1 : Int
  h1 : List UInt8
  n1 : Int
  k2 : Int
  h2 : List UInt8
  n2 : Int
  k3 : Int
  h3 : List UInt8
  n3 : Int
  key : List UInt8
  sides : Int
  vk : Int
  vn : Int
  vf : Nat
  vs : List UInt8
  n : Int
  who : Int
  deriving DecidableEq
def str (l : List UInt8) : ByteArray := ⟨l.toArray⟩
theorem str_list (l : List UInt8) : (str l).toList = l := by rw [ByteArray.toList_eq]; rfl
structure EdV.ok (x : EdV) : Prop where
  l1 : x.h1.length = 32
  l2 : x.h2.length = 32
  l3 : x.h3.length = 32
def refL (k : Int) (h : List UInt8) (n : Int) : List Value := .int .u8 k :: (hcs h ++ [.int .i64 n])
theorem refL_len (k : Int) (h : List UInt8) (n : Int) (hh : h.length = 32) : (refL k h n).length = 34 := by simp [refL, hcs_len, hh]
def EdV.v (x : EdV) : List Value := [.int .u8 x.vk, .int .i64 x.vn, .float .f64 x.vf, .string (str x.vs)]
def EdV.l (x : EdV) : List Value := [.int .u8 x.act] ++ (refL x.k1 x.h1 x.n1 ++ (refL x.k2 x.h2 x.n2 ++ (refL x.k3 x.h3 x.n3 ++ ([.string (str x.key), .int .i64 x.sides] ++ (x.v ++ [.int .i64 x.n, .int .i64 x.who])))))
def EdV.c (x : EdV) : Array Value := x.l.toArray
theorem EdV.len {x : EdV} (h : x.ok) : x.l.length = 111 := by simp [EdV.l, refL_len _ _ _ h.l1, refL_len _ _ _ h.l2, refL_len _ _ _ h.l3, EdV.v]
theorem EdV.size {x : EdV} (h : x.ok) : x.c.size = 111 := by rw [EdV.c, List.size_toArray, EdV.len h]
theorem EdV.one (x : EdV) : ∀ v ∈ x.l, v.oneCell' = true := by
  intro v hv
  simp only [EdV.l, EdV.v, refL, List.mem_append, List.mem_cons, List.not_mem_nil, or_false] at hv
  rcases hv with rfl | (rfl | h | rfl) | (rfl | h | rfl) | (rfl | h | rfl) | (rfl | rfl) | (rfl | rfl | rfl | rfl) | rfl | rfl
  all_goals first | rfl | exact hcs_one _ v h

theorem sub_at {xs A B C : List Value} {off n : Nat} (e : xs = A ++ (B ++ C)) (hA : A.length = off) (hB : B.length = n) : xs.toArray.extract off (off + n) = B.toArray := by
  subst e hA hB
  apply Array.toList_inj.1
  simp
theorem get_at {xs A C : List Value} {v : Value} {off : Nat} (e : xs = A ++ (v :: C)) (hA : A.length = off) : xs.toArray[off]? = some v := by
  subst e hA
  simp
section
variable {w : World}
theorem part_agg {t : TypeId} {d : TypeDesc} {xs : Array Value} {off n : Nat} {B : Array Value} (hu : (isAgg t).run Try.prog w = .ok true w) (hs : (sizeOf t).run Try.prog w = .ok n w) (e : xs.extract off (off + n) = B) : (Go.part t xs off).run Try.prog w = .ok (.agg B) w := by
  simp only [Go.part, Sem.run_bind, hu, Result.andThen_ok, if_true, hs, Sem.run_pure, e]
theorem part_one {t : TypeId} {xs : Array Value} {off : Nat} {v : Value} (hu : (isAgg t).run Try.prog w = .ok false w) (e : xs[off]? = some v) : (Go.part t xs off).run Try.prog w = .ok v w := by
  simp only [Go.part, Sem.run_bind, hu, Result.andThen_ok, Bool.false_eq_true, if_false, e, Sem.run_pure]
/-- One field. -/
theorem eqF {d : Nat} {xs ys : Array Value} {f : Field} {fs : List Field} {a b : Value} {r r' : Bool} (hn : f.name ≠ "_") (h1 : (Go.part f.type xs f.offset).run Try.prog w = .ok a w) (h2 : (Go.part f.type ys f.offset).run Try.prog w = .ok b w)
    (h3 : (Op.equalIn d f.type a b).run Try.prog w = .ok r w) (h4 : (Op.eqFields d xs ys fs).run Try.prog w = .ok r' w) : (Op.eqFields d xs ys (f :: fs)).run Try.prog w = .ok (r && r') w := by
  unfold Op.eqFields
  rw [if_pos hn]
  simp only [Sem.run_bind, h1, h2, h3, Result.andThen_ok]
  cases r with
  | false => simp
  | true => simp [h4]
end
theorem ag29 (w : World) : (isAgg 29).run Try.prog w = .ok true w := by simp [isAgg, run_underlying Try.underlying29]
theorem ag33 (w : World) : (isAgg 33).run Try.prog w = .ok true w := by simp [isAgg, run_underlying Try.underlying33]
theorem ag37 (w : World) : (isAgg 37).run Try.prog w = .ok true w := by simp [isAgg, run_underlying Try.underlying37]
theorem ag31 (w : World) : (isAgg 31).run Try.prog w = .ok false w := by simp [isAgg, run_underlying Try.underlying31]
theorem ag30 (w : World) : (isAgg 30).run Try.prog w = .ok false w := by simp [isAgg, run_underlying Try.underlying30]
theorem ag34 (w : World) : (isAgg 34).run Try.prog w = .ok false w := by simp [isAgg, run_underlying Try.underlying34]
theorem ag35 (w : World) : (isAgg 35).run Try.prog w = .ok false w := by simp [isAgg, run_underlying Try.underlying35]
theorem ag2 (w : World) : (isAgg 2).run Try.prog w = .ok false w := by simp [isAgg, run_underlying Try.underlying2]
theorem ag3 (w : World) : (isAgg 3).run Try.prog w = .ok false w := by simp [isAgg, run_underlying Try.underlying3]
theorem ag9 (w : World) : (isAgg 9).run Try.prog w = .ok false w := by simp [isAgg, run_underlying Try.underlying9]
theorem sz_of {t n : Nat} (h : (Try.prog.info? t).map (·.size) = some n) (w : World) : (sizeOf t).run Try.prog w = .ok n w := by
  cases hq : Try.prog.info? t with
  | none => rw [hq] at h; simp at h
  | some i =>
    rw [hq] at h
    simp at h
    simp [sizeOf, typeInfo, hq, h]
theorem sz29 (w : World) : (sizeOf 29).run Try.prog w = .ok 32 w := sz_of (by kernel_rfl) w
theorem sz33 (w : World) : (sizeOf 33).run Try.prog w = .ok 34 w := sz_of (by kernel_rfl) w
theorem sz37 (w : World) : (sizeOf 37).run Try.prog w = .ok 4 w := sz_of (by kernel_rfl) w
theorem fl33 : (Try.prog.fieldsOf 33).toList = [⟨"Kind", 31, 0, false, "", "", 0⟩, ⟨"Hash", 29, 1, false, "", "", 1⟩, ⟨"N", 3, 33, false, "", "", 40⟩] := by simp [Program.fieldsOf, Try.underlying33]
theorem fl37 : (Try.prog.fieldsOf 37).toList = [⟨"Kind", 34, 0, false, "", "", 0⟩, ⟨"N", 2, 1, false, "", "", 8⟩, ⟨"F", 35, 2, false, "", "", 16⟩, ⟨"S", 9, 3, false, "", "", 24⟩] := by simp [Program.fieldsOf, Try.underlying37]
theorem fl39 : (Try.prog.fieldsOf 39).toList = [⟨"Act", 30, 0, false, "", "", 0⟩, ⟨"Obj", 33, 1, false, "", "", 8⟩, ⟨"At", 33, 35, false, "", "", 56⟩, ⟨"To", 33, 69, false, "", "", 104⟩, ⟨"Key", 9, 103, false, "", "", 152⟩, ⟨"Sides", 3, 104, false, "", "", 168⟩, ⟨"Value", 37, 105, false, "", "", 176⟩, ⟨"N", 2, 109, false, "", "", 216⟩, ⟨"Who", 3, 110, false, "", "", 224⟩] := by simp [Program.fieldsOf, Try.underlying39]
theorem eqFl (d a b : Nat) (w : World) : (Op.equalIn (d + 1) 35 (.float .f64 a) (.float .f64 b)).run Try.prog w = .ok (Op.floatEq .f64 a b) w := by
  simp [Op.equalIn, run_underlying Try.underlying35]
theorem eqStr (d : Nat) (a b : List UInt8) (w : World) : (Op.equalIn (d + 1) 9 (.string (str a)) (.string (str b))).run Try.prog w = .ok (decide (a = b)) w := by
  rw [run_equalIn_string w d 9 _ _ Try.underlying9, str_list, str_list]
  congr 1
  rw [Bool.eq_iff_iff]
  simp
theorem eqHash (d : Nat) (a b : List UInt8) (ha : a.length = 32) (hb : b.length = 32) (w : World) : (Op.equalIn (d + 2) 29 (.agg (hcs a).toArray) (.agg (hcs b).toArray)).run Try.prog w = .ok (decide (a = b)) w := by
  rw [hcs_arr, hcs_arr]
  obtain ⟨i, hi⟩ : ∃ i, Try.prog.info? 5 = some i := by
    cases h : Try.prog.info? 5 with
    | none => have : (Try.prog.info? 5).isSome = true := by kernel_rfl
              rw [h] at this; cases this
    | some i => exact ⟨i, rfl⟩
  exact eq_bytes d Try.underlying29 hi (by kernel_rfl) Try.underlying5 a b ha hb w
theorem eqRef (d : Nat) (k : Int) (h : List UInt8) (n k' : Int) (h' : List UInt8) (n' : Int) (hh : h.length = 32) (hh' : h'.length = 32) (w : World) :
    (Op.equalIn (d + 3) 33 (.agg (refL k h n).toArray) (.agg (refL k' h' n').toArray)).run Try.prog w = .ok (k == k' && (decide (h = h') && (n == n' && true))) w := by
  rw [run_equalIn_agg w (d + 2) 33 _ _ (by simp [Program.fieldsOf, Try.underlying33]) (by kernel_rfl), fl33]
  refine eqF (by decide) (part_one (ag31 w) (get_at (A := []) rfl rfl)) (part_one (ag31 w) (get_at (A := []) rfl rfl)) (run_equalIn_int w (d + 1) 31 .u8 .u8 _ _ Try.underlying31) ?_
  refine eqF (by decide) (part_agg (d := .bool) (ag29 w) (sz29 w) (sub_at (A := [.int .u8 k]) (B := hcs h) (C := [.int .i64 n]) rfl rfl (by rw [hcs_len, hh]))) (part_agg (d := .bool) (ag29 w) (sz29 w) (sub_at (A := [.int .u8 k']) (B := hcs h') (C := [.int .i64 n']) rfl rfl (by rw [hcs_len, hh']))) (eqHash d h h' hh hh' w) ?_
  refine eqF (by decide) (part_one (ag3 w) (get_at (A := .int .u8 k :: hcs h) (C := []) rfl (by simp [hcs_len, hh]))) (part_one (ag3 w) (get_at (A := .int .u8 k' :: hcs h') (C := []) rfl (by simp [hcs_len, hh']))) (run_equalIn_int w (d + 1) 3 .i64 .i64 _ _ Try.underlying3) ?_
  simp [Op.eqFields]
theorem eqVal (d : Nat) (x y : EdV) (w : World) : (Op.equalIn (d + 2) 37 (.agg x.v.toArray) (.agg y.v.toArray)).run Try.prog w = .ok (x.vk == y.vk && (x.vn == y.vn && (Op.floatEq .f64 x.vf y.vf && (decide (x.vs = y.vs) && true)))) w := by
  rw [run_equalIn_agg w (d + 1) 37 _ _ (by simp [Program.fieldsOf, Try.underlying37]) (by kernel_rfl), fl37]
  refine eqF (by decide) (part_one (ag34 w) rfl) (part_one (ag34 w) rfl) (run_equalIn_int w d 34 .u8 .u8 _ _ Try.underlying34) ?_
  refine eqF (by decide) (part_one (ag2 w) rfl) (part_one (ag2 w) rfl) (run_equalIn_int w d 2 .i64 .i64 _ _ Try.underlying2) ?_
  refine eqF (by decide) (part_one (ag35 w) rfl) (part_one (ag35 w) rfl) (eqFl d _ _ w) ?_
  refine eqF (by decide) (part_one (ag9 w) rfl) (part_one (ag9 w) rfl) (eqStr d _ _ w) ?_
  simp [Op.eqFields]
theorem f00 : Op.floatEq .f64 0 0 = true := by decide +kernel

theorem EdV.at_of (x : EdV) (h : x.ok) : x.l = [.int .u8 x.act] ++ (refL x.k1 x.h1 x.n1 ++ (refL x.k2 x.h2 x.n2 ++ (refL x.k3 x.h3 x.n3 ++ ([.string (str x.key), .int .i64 x.sides] ++ (x.v ++ [.int .i64 x.n, .int .i64 x.who]))))) := rfl
theorem cut1 (x : EdV) : ∃ C, x.l = [.int .u8 x.act] ++ (refL x.k1 x.h1 x.n1 ++ C) := ⟨_, rfl⟩
theorem cut2 (x : EdV) (h : x.ok) : ∃ A C, x.l = A ++ (refL x.k2 x.h2 x.n2 ++ C) ∧ A.length = 35 := ⟨[.int .u8 x.act] ++ refL x.k1 x.h1 x.n1, _, by simp only [EdV.l, List.append_assoc]; rfl, by simp [refL_len _ _ _ h.l1]⟩
theorem cut3 (x : EdV) (h : x.ok) : ∃ A C, x.l = A ++ (refL x.k3 x.h3 x.n3 ++ C) ∧ A.length = 69 := ⟨[.int .u8 x.act] ++ refL x.k1 x.h1 x.n1 ++ refL x.k2 x.h2 x.n2, _, by simp only [EdV.l, List.append_assoc]; rfl, by simp [refL_len _ _ _ h.l1, refL_len _ _ _ h.l2]⟩
/-- The last eight cells. -/
theorem cut4 (x : EdV) (h : x.ok) : ∃ A, x.l = A ++ [.string (str x.key), .int .i64 x.sides, .int .u8 x.vk, .int .i64 x.vn, .float .f64 x.vf, .string (str x.vs), .int .i64 x.n, .int .i64 x.who] ∧ A.length = 103 ∧ A = [.int .u8 x.act] ++ refL x.k1 x.h1 x.n1 ++ refL x.k2 x.h2 x.n2 ++ refL x.k3 x.h3 x.n3 :=
  ⟨[.int .u8 x.act] ++ refL x.k1 x.h1 x.n1 ++ refL x.k2 x.h2 x.n2 ++ refL x.k3 x.h3 x.n3, by simp [EdV.l, EdV.v], by simp [refL_len _ _ _ h.l1, refL_len _ _ _ h.l2, refL_len _ _ _ h.l3], rfl⟩
theorem get_tail {A B : List Value} {off : Nat} (hA : A.length = off) (j : Nat) : (A ++ B).toArray[off + j]? = B[j]? := by
  subst hA
  rw [List.getElem?_toArray, List.getElem?_append_right (by omega)]
  congr 1
  omega
theorem EdV.tail (x : EdV) (h : x.ok) (j : Nat) : x.c[103 + j]? = [Value.string (str x.key), .int .i64 x.sides, .int .u8 x.vk, .int .i64 x.vn, .float .f64 x.vf, .string (str x.vs), .int .i64 x.n, .int .i64 x.who][j]? := by
  obtain ⟨A, e, hA, _⟩ := cut4 x h
  rw [EdV.c, e, get_tail hA]

/-- '==' of two edits whose floats are 0. -/
theorem eqEd (x y : EdV) (hx : x.ok) (hy : y.ok) (fx : x.vf = 0) (fy : y.vf = 0) (w : World) : (Op.equalIn 10000 39 (.agg x.c) (.agg y.c)).run Try.prog w = .ok (decide (x = y)) w := by
  rw [run_equalIn_agg w 9999 39 _ _ (by simp [Program.fieldsOf, Try.underlying39]) (by kernel_rfl), fl39]
  obtain ⟨C1, c1⟩ := cut1 x
  obtain ⟨D1, d1⟩ := cut1 y
  obtain ⟨A2, C2, c2, a2⟩ := cut2 x hx
  obtain ⟨B2, D2, d2, b2⟩ := cut2 y hy
  obtain ⟨A3, C3, c3, a3⟩ := cut3 x hx
  obtain ⟨B3, D3, d3, b3⟩ := cut3 y hy
  have tx := x.tail hx
  have ty := y.tail hy
  have vx : x.c.extract 105 (105 + 4) = x.v.toArray := by
    obtain ⟨A, e, hA, _⟩ := cut4 x hx
    exact sub_at (A := A ++ [.string (str x.key), .int .i64 x.sides]) (B := x.v) (C := [.int .i64 x.n, .int .i64 x.who]) (by rw [e]; simp [EdV.v]) (by simp [hA]) rfl
  have vy : y.c.extract 105 (105 + 4) = y.v.toArray := by
    obtain ⟨A, e, hA, _⟩ := cut4 y hy
    exact sub_at (A := A ++ [.string (str y.key), .int .i64 y.sides]) (B := y.v) (C := [.int .i64 y.n, .int .i64 y.who]) (by rw [e]; simp [EdV.v]) (by simp [hA]) rfl
  have key : ((Op.eqFields 9999 x.c y.c [⟨"Act", 30, 0, false, "", "", 0⟩, ⟨"Obj", 33, 1, false, "", "", 8⟩, ⟨"At", 33, 35, false, "", "", 56⟩, ⟨"To", 33, 69, false, "", "", 104⟩, ⟨"Key", 9, 103, false, "", "", 152⟩, ⟨"Sides", 3, 104, false, "", "", 168⟩, ⟨"Value", 37, 105, false, "", "", 176⟩, ⟨"N", 2, 109, false, "", "", 216⟩, ⟨"Who", 3, 110, false, "", "", 224⟩]).run Try.prog w) = .ok (x.act == y.act && ((x.k1 == y.k1 && (decide (x.h1 = y.h1) && (x.n1 == y.n1 && true))) && ((x.k2 == y.k2 && (decide (x.h2 = y.h2) && (x.n2 == y.n2 && true))) && ((x.k3 == y.k3 && (decide (x.h3 = y.h3) && (x.n3 == y.n3 && true))) &&
      (decide (x.key = y.key) && (x.sides == y.sides && ((x.vk == y.vk && (x.vn == y.vn && (Op.floatEq .f64 x.vf y.vf && (decide (x.vs = y.vs) && true)))) && (x.n == y.n && (x.who == y.who && true))))))))) w := by
    refine eqF (by decide) (part_one (ag30 w) (get_at (A := []) rfl rfl)) (part_one (ag30 w) (get_at (A := []) rfl rfl)) (run_equalIn_int w 9998 30 .u8 .u8 _ _ Try.underlying30) ?_
    refine eqF (by decide) (part_agg (d := .bool) (ag33 w) (sz33 w) (sub_at c1 rfl (refL_len _ _ _ hx.l1))) (part_agg (d := .bool) (ag33 w) (sz33 w) (sub_at d1 rfl (refL_len _ _ _ hy.l1))) (eqRef 9996 _ _ _ _ _ _ hx.l1 hy.l1 w) ?_
    refine eqF (by decide) (part_agg (d := .bool) (ag33 w) (sz33 w) (sub_at c2 a2 (refL_len _ _ _ hx.l2))) (part_agg (d := .bool) (ag33 w) (sz33 w) (sub_at d2 b2 (refL_len _ _ _ hy.l2))) (eqRef 9996 _ _ _ _ _ _ hx.l2 hy.l2 w) ?_
    refine eqF (by decide) (part_agg (d := .bool) (ag33 w) (sz33 w) (sub_at c3 a3 (refL_len _ _ _ hx.l3))) (part_agg (d := .bool) (ag33 w) (sz33 w) (sub_at d3 b3 (refL_len _ _ _ hy.l3))) (eqRef 9996 _ _ _ _ _ _ hx.l3 hy.l3 w) ?_
    refine eqF (by decide) (part_one (ag9 w) (tx 0)) (part_one (ag9 w) (ty 0)) (eqStr 9998 _ _ w) ?_
    refine eqF (by decide) (part_one (ag3 w) (tx 1)) (part_one (ag3 w) (ty 1)) (run_equalIn_int w 9998 3 .i64 .i64 _ _ Try.underlying3) ?_
    refine eqF (by decide) (part_agg (d := .bool) (ag37 w) (sz37 w) vx) (part_agg (d := .bool) (ag37 w) (sz37 w) vy) (eqVal 9997 x y w) ?_
    refine eqF (by decide) (part_one (ag2 w) (tx 6)) (part_one (ag2 w) (ty 6)) (run_equalIn_int w 9998 2 .i64 .i64 _ _ Try.underlying2) ?_
    refine eqF (by decide) (part_one (ag3 w) (tx 7)) (part_one (ag3 w) (ty 7)) (run_equalIn_int w 9998 3 .i64 .i64 _ _ Try.underlying3) ?_
    simp [Op.eqFields]
  rw [key, fx, fy, f00]
  congr 1
  rw [Bool.eq_iff_iff]
  simp only [Bool.and_eq_true, beq_iff_eq, decide_eq_true_eq, and_true]
  obtain ⟨⟩ := x
  obtain ⟨⟩ := y
  simp only [EdV.mk.injEq] at *
  subst fx fy
  simp only [true_and]
  constructor
  · rintro ⟨e0, ⟨e1, e2, e3⟩, ⟨e4, e5, e6⟩, ⟨e7, e8, e9⟩, e10, e11, ⟨e12, e13, e14⟩, e15, e16⟩
    exact ⟨e0, e1, e2, e3, e4, e5, e6, e7, e8, e9, e10, e11, e12, e13, e14, e15, e16⟩
  · rintro ⟨e0, e1, e2, e3, e4, e5, e6, e7, e8, e9, e10, e11, e12, e13, e14, e15, e16⟩
    exact ⟨e0, ⟨e1, e2, e3⟩, ⟨e4, e5, e6⟩, ⟨e7, e8, e9⟩, e10, e11, ⟨e12, e13, e14⟩, e15, e16⟩
end Go.Proofs.Ythfbolmfkilkjaa
