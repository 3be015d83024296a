import Derived.Test.YtpmdlhlojifoeaaDoorHb
import Derived.Test.YtpmdlhlojifoeaaDoorMem
namespace Go.Proofs.YtpmdlhlojifoeaaDoor
open Go.RowKit
set_option linter.unusedVariables false
set_option linter.unusedSimpArgs false

def pa (e : Option (Nat × List UInt8)) : Option Addr := e.map fun x => ⟨x.1, 0, none⟩
def pb (e : Option (Nat × Value × List UInt8)) : Option Addr := e.map fun x => ⟨x.1, 0, none⟩
theorem pl_eq (e : Option (Nat × List UInt8)) : pl e = .pointer (pa e) := rfl
theorem pm_eq (e : Option (Nat × Value × List UInt8)) : pm e = .pointer (pb e) := rfl
def cL (e : Option (Nat × List UInt8)) : Option (List UInt8) := e.map fun x => x.2
def cM (e : Option (Nat × Value × List UInt8)) : Option (List UInt8) := e.map fun x => x.2.2
def shaO : Option (List UInt8) → List UInt8
  | none => z32
  | some m => sha m
theorem shaO_len (c : Option (List UInt8)) : (shaO c).length = 32 := by
  cases c with
  | none => rfl
  | some m => exact sha_len m
def lenO : Option (List UInt8) → Nat
  | none => 0
  | some m => m.length
def Small (c : Option (List UInt8)) (n : Nat) : Prop := ∀ m, c = some m → m.length ≤ n

theorem HL.lt {B : Nat} {T : Nat → Nat} {w : World} {lv : Value} {E : List (Option (Nat × List UInt8))} (h : HL B T w lv E) (h1 : 1 ≤ E.length) : ∃ b cap, lv = .slice (some ⟨b, 0, none⟩) E.length cap ∧ E.length ≤ cap ∧ B ≤ b ∧ b < w.heap.size ∧ T b = 0 ∧
    ∀ j e, E[j]? = some e → w.cell? ⟨b, j, none⟩ = some (.pointer (pa e)) := by
  obtain ⟨hl, ⟨rfl, hn⟩ | ⟨g, cap, cur, rfl, hbg, hg, hnc, hcm, hcs', htake⟩⟩ := h.own
  · omega
  · refine ⟨g, cap, rfl, hnc, hbg, (Array.getElem?_eq_some_iff.1 hg).1, h.tag g rfl, fun j e hj => ?_⟩
    have hi := (List.getElem?_eq_some_iff.1 hj).1
    have h2 : (E.map pl)[j]? = some (.pointer (pa e)) := by rw [List.getElem?_map, hj]; rfl
    rw [cell_of_row w g _ cur _ (0, 0) hg, ← h2, ← htake, List.getElem?_take, if_pos (by omega)]
    simp
theorem HM.lt {B : Nat} {T : Nat → Nat} {w : World} {lv : Value} {E : List (Option (Nat × Value × List UInt8))} (h : HM B T w lv E) (h1 : 1 ≤ E.length) : ∃ b cap, lv = .slice (some ⟨b, 0, none⟩) E.length cap ∧ E.length ≤ cap ∧ B ≤ b ∧ b < w.heap.size ∧ T b = 1 ∧
    ∀ j e, E[j]? = some e → w.cell? ⟨b, j, none⟩ = some (.pointer (pb e)) := by
  obtain ⟨hl, ⟨rfl, hn⟩ | ⟨g, cap, cur, rfl, hbg, hg, hnc, hcm, hcs', htake⟩⟩ := h.own
  · omega
  · refine ⟨g, cap, rfl, hnc, hbg, (Array.getElem?_eq_some_iff.1 hg).1, h.tag g rfl, fun j e hj => ?_⟩
    have hi := (List.getElem?_eq_some_iff.1 hj).1
    have h2 : (E.map pm)[j]? = some (.pointer (pb e)) := by rw [List.getElem?_map, hj]; rfl
    rw [cell_of_row w g _ cur _ (0, 0) hg, ← h2, ← htake, List.getElem?_take, if_pos (by omega)]
    simp

section
variable {B : Nat} {T : Nat → Nat} {w : World} {lv mv : Value} {E : List (Option (Nat × List UInt8))} {F : List (Option (Nat × Value × List UInt8))} {j : Nat}
theorem HL.sum {e : Option (Nat × List UInt8)} (h : HL B T w lv E) (hj : E[j]? = some e) (hK : KeysAt w) (hm : Small (cL e) 1048576) :
    Calls Tryd.prog 27 #[.pointer (pa e)] w fun r w' => r = .returned (.agg (bs (shaO (cL e)))) ∧ Below w.heap.size w w' := by
  cases e with
  | none => exact hsum_nil w
  | some x =>
    obtain ⟨g, m⟩ := x
    have := hm m rfl
    exact hsum_any g m w (h.rep j g m hj).1 hK (by omega)
theorem HM.sum {e : Option (Nat × Value × List UInt8)} (h : HM B T w lv F) (hj : F[j]? = some e) (hK : RoundsAt w) (hR : RootsAt w) (h5 : 5 ≤ w.heap.size) (hm : Small (cM e) 1048576) :
    Calls Tryd.prog 28 #[.pointer (pb e)] w fun r w' => r = .returned (.agg (bs (shaO (cM e)))) ∧ Below w.heap.size w w' := by
  cases e with
  | none => exact rhsum_nil w
  | some x =>
    obtain ⟨g, v, m⟩ := x
    have := hm m rfl
    exact rhsum_any B g v m w (h.rep j g v m hj).1 (by omega) hK hR h5
theorem HL.len {e : Option (Nat × List UInt8)} (h : HL B T w lv E) (hj : E[j]? = some e) :
    Calls Tryd.prog 23 #[.pointer (pa e)] w fun r w' => r = .returned (.int .i64 (lenO (cL e))) ∧ w' = w := by
  cases e with
  | none => exact len_nil w
  | some x =>
    obtain ⟨g, m⟩ := x
    exact len_any g m w (h.rep j g m hj).1
theorem HM.len {e : Option (Nat × Value × List UInt8)} (h : HM B T w lv F) (hj : F[j]? = some e) :
    Calls Tryd.prog 24 #[.pointer (pb e)] w fun r w' => r = .returned (.int .i64 (lenO (cM e))) ∧ w' = w := by
  cases e with
  | none => exact rlen_nil w
  | some x =>
    obtain ⟨g, v, m⟩ := x
    exact rlen_any B g v m w (h.rep j g v m hj).1
def addL (l : List UInt8) (e : Option (Nat × List UInt8)) : Option (Nat × List UInt8) := e.map fun x => (x.1, x.2 ++ l)
theorem set_same {α : Type} (E : List α) (j : Nat) (e : α) (h : E[j]? = some e) : E.set j e = E := by
  apply List.ext_getElem?
  intro k
  rw [List.getElem?_set]
  by_cases hk : j = k
  · subst hk
    rw [if_pos rfl, if_pos (List.getElem?_eq_some_iff.1 h).1, h]
  · rw [if_neg hk]
theorem HL.write {e : Option (Nat × List UInt8)} (h : HL B T w lv E) (hj : E[j]? = some e) (hK : KeysAt w) (hm : Small (cL e) 1048576) (hB : 5 ≤ B) (l : List UInt8) (o cap : Nat) (hl : l.length ≤ 1048576) (hcap : l.length ≤ cap)
    (hb : Byt w (some ⟨o, 0, none⟩) l) (ho : T o = 2) :
    Calls Tryd.prog 21 #[.pointer (pa e), .slice (some ⟨o, 0, none⟩) l.length cap] w fun r w' => r = .returned (.tuple #[]) ∧ HL B (nw T w (2 * j + 4)) w' lv (E.set j (addL l e)) ∧ Fr B T (2 * j + 4) w w' := by
  cases e with
  | none =>
    refine (write_nil _ w).mono ?_
    rintro r w' ⟨rfl, rfl⟩
    have f : Fr B T (2 * j + 4) w' w' := Fr.of_below (Below.refl _ _)
    refine ⟨rfl, ?_, f⟩
    rw [show addL l none = none from rfl, set_same E j none hj]
    refine ⟨h.own, fun b hb => by rw [nw_old (World.ownsRow.lt h.own b hb).2]; exact h.tag b hb, fun k g m hk => ?_⟩
    obtain ⟨r, h1, h2⟩ := h.rep k g m hk
    exact ⟨r, h1, by rw [nw_old (rep_lt r)]; exact h2⟩
  | some x =>
    obtain ⟨g, m⟩ := x
    obtain ⟨r, h1, h2⟩ := h.rep j g m hj
    have hm' := hm m rfl
    refine (write_free g m l (some ⟨o, 0, none⟩) l.length cap w rfl r hb (fun _ b off e => by cases e; intro e; subst e; omega) hK (by omega) (by omega) (by omega) hcap).mono ?_
    rintro e w' ⟨rfl, r', bu⟩
    have f : Fr B T (2 * j + 4) w w' := Fr.of_but bu h1 h2
    exact ⟨rfl, h.set hj f r', f⟩
def addM (v : Value) (l : List UInt8) (e : Option (Nat × Value × List UInt8)) : Option (Nat × Value × List UInt8) := e.map fun x => (x.1, v, x.2.2 ++ l)
theorem HM.write {e : Option (Nat × Value × List UInt8)} (h : HM B T w mv F) (hj : F[j]? = some e) (hm : Small (cM e) 1048576) (l : List UInt8) (a : Option Addr) (cap : Nat) (hl : l.length ≤ 1048576) (hb : Byt w a l) (hB : B ≤ w.heap.size) :
    Calls Tryd.prog 22 #[.pointer (pb e), .slice a l.length cap] w fun r w' => r = .returned (.tuple #[]) ∧ ∃ v, HM B (nw T w (2 * j + 5)) w' mv (F.set j (addM v l e)) ∧ Fr B T (2 * j + 5) w w' := by
  cases e with
  | none =>
    refine (rwrite_nil _ w).mono ?_
    rintro r w' ⟨rfl, rfl⟩
    have f : Fr B T (2 * j + 5) w' w' := Fr.of_below (Below.refl _ _)
    refine ⟨rfl, .bool true, ?_, f⟩
    rw [show addM (.bool true) l none = none from rfl, set_same F j none hj]
    refine ⟨h.own, fun b hb => by rw [nw_old (World.ownsRow.lt h.own b hb).2]; exact h.tag b hb, fun k g v m hk => ?_⟩
    obtain ⟨r, h1, h2, h3⟩ := h.rep k g v m hk
    exact ⟨r, h1, by rw [nw_old r.lt]; exact h2, fun b hb => by rw [nw_old (World.ownsRow.lt r.2 b hb).2]; exact h3 b hb⟩
  | some x =>
    obtain ⟨g, v, m⟩ := x
    obtain ⟨r, h1, h2, h3⟩ := h.rep j g v m hj
    have hm' := hm m rfl
    refine (rwrite_any B g v m l a l.length cap w rfl r hb (by omega) hB).mono ?_
    rintro e w' ⟨rfl, v', r', at', tw⟩
    have f : Fr B T (2 * j + 5) w w' := tw.fr h1 h2 r h3
    exact ⟨rfl, v', h.set hj f r' at', f⟩
theorem HL.fork {e : Option (Nat × List UInt8)} (h : HL B T w lv E) (hj : E[j]? = some e) (hB : B ≤ w.heap.size) :
    Calls Tryd.prog 25 #[.pointer (pa e)] w fun r w' => ∃ x, r = .returned (.pointer (pa x)) ∧ cL x = cL e ∧ Below w.heap.size w w' ∧ ∀ g m, x = some (g, m) → Rep w' g m ∧ B ≤ g ∧ w.heap.size ≤ g := by
  cases e with
  | none =>
    refine (fork_nil w).mono ?_
    rintro r w' ⟨rfl, rfl⟩
    exact ⟨none, rfl, rfl, Below.refl _ _, fun g m e => by cases e⟩
  | some x =>
    obtain ⟨g, m⟩ := x
    refine (fork_any g m w (h.rep j g m hj).1).mono ?_
    rintro r w' ⟨rfl, r1, b1, z1⟩
    exact ⟨some (w.heap.size, m), rfl, rfl, b1, fun g m e => by cases e; exact ⟨r1, hB, Nat.le_refl _⟩⟩
theorem HM.fork {e : Option (Nat × Value × List UInt8)} (h : HM B T w mv F) (hj : F[j]? = some e) (hm : Small (cM e) 1048576) (hB : B ≤ w.heap.size) :
    Calls Tryd.prog 26 #[.pointer (pb e)] w fun r w' => ∃ x, r = .returned (.pointer (pb x)) ∧ cM x = cM e ∧ Below w.heap.size w w' ∧ ∀ g v m, x = some (g, v, m) → RR B w' g v m ∧ B ≤ g ∧ w.heap.size ≤ g ∧ ∀ b, v.ownBlock = some b → w.heap.size ≤ b := by
  cases e with
  | none =>
    refine (rfork_nil w).mono ?_
    rintro r w' ⟨rfl, rfl⟩
    exact ⟨none, rfl, rfl, Below.refl _ _, fun g v m e => by cases e⟩
  | some x =>
    obtain ⟨g, v, m⟩ := x
    have hm' := hm m rfl
    refine (rfork_any B g v m w (h.rep j g v m hj).1 (by omega) hB).mono ?_
    rintro r w' ⟨rfl, v', r1, a1, b1, z1⟩
    exact ⟨some (w.heap.size, v', m), rfl, rfl, b1, fun g v m e => by cases e; exact ⟨r1, hB, Nat.le_refl _, a1⟩⟩
end

/-! append of one pointer. -/
theorem info35' : ∃ i, Tryd.prog.info? 35 = some i ∧ i.zero = some (.pointer none) ∧ i.size = 1 ∧ i.bytes = 8 := by
  obtain ⟨i, h1, h2, h3, h4⟩ := info_parts (P := Tryd.prog) (e := 35) (z := .pointer none) (size := 1) (bytes := 8) (by kernel_rfl)
  exact ⟨i, h1, h2, h3, h4⟩
theorem info38' : ∃ i, Tryd.prog.info? 38 = some i ∧ i.zero = some (.pointer none) ∧ i.size = 1 ∧ i.bytes = 8 := by
  obtain ⟨i, h1, h2, h3, h4⟩ := info_parts (P := Tryd.prog) (e := 38) (z := .pointer none) (size := 1) (bytes := 8) (by kernel_rfl)
  exact ⟨i, h1, h2, h3, h4⟩
theorem wpList_appL {ops : Array Oper} {rest : List Oper} {o : Oper} {a : Act} {w : World} {Q : Exit → Act → World → Prop} (hgd : o.guard = none) (s x : Operand)
    (ho : o.op = .call { callee := .builtin .append, args := #[s, x], argTypes := #[37, 37] }) (B : Nat) (lv : Value) (n : Nat) (xs : List Value) (hs : a.eval s = lv) (hown : w.ownsRow B 35 1 lv n xs)
    (b c : Nat) (p : Option Addr) (hx : a.eval x = .slice (some ⟨b, 0, none⟩) 1 c) (hp : w.cell? ⟨b, 0, none⟩ = some (.pointer p)) (hn : n ≤ 1048577) (hbase : B ≤ w.heap.size)
    (h : ∀ v' w', w'.ownsRow B 35 1 v' (n + 1) (xs ++ [.pointer p]) → w.grownBy w' lv.ownBlock → (v'.ownBlock = lv.ownBlock ∨ v'.ownBlock = some w.heap.size) → wpList Tryd.prog ops Q rest (a.put o.dst v') w') : wpList Tryd.prog ops Q (o :: rest) a w := by
  obtain ⟨i, hi, hz, hs', hby⟩ := info35'
  refine wpList_append_own_at w hgd s x 37 ho B 35 i (.pointer none) 1 8 Tryd.underlying37 hi hz hs' hby rfl (by decide) lv n xs hs hown ⟨b, 0, none⟩ 1 c [.pointer p] hx rfl (fun k u hk => ?_) (fun u hu => by simp at hu; subst hu; rfl) (by unfold maxLen; omega) (by omega) hbase (fun v' w' h1 h2 _ h3 => h v' w' h1 h2 h3)
  match k, hk with
  | 0, hk =>
    simp at hk
    subst hk
    exact hp
theorem wpList_appM {ops : Array Oper} {rest : List Oper} {o : Oper} {a : Act} {w : World} {Q : Exit → Act → World → Prop} (hgd : o.guard = none) (s x : Operand)
    (ho : o.op = .call { callee := .builtin .append, args := #[s, x], argTypes := #[40, 40] }) (B : Nat) (lv : Value) (n : Nat) (xs : List Value) (hs : a.eval s = lv) (hown : w.ownsRow B 38 1 lv n xs)
    (b c : Nat) (p : Option Addr) (hx : a.eval x = .slice (some ⟨b, 0, none⟩) 1 c) (hp : w.cell? ⟨b, 0, none⟩ = some (.pointer p)) (hn : n ≤ 1048577) (hbase : B ≤ w.heap.size)
    (h : ∀ v' w', w'.ownsRow B 38 1 v' (n + 1) (xs ++ [.pointer p]) → w.grownBy w' lv.ownBlock → (v'.ownBlock = lv.ownBlock ∨ v'.ownBlock = some w.heap.size) → wpList Tryd.prog ops Q rest (a.put o.dst v') w') : wpList Tryd.prog ops Q (o :: rest) a w := by
  obtain ⟨i, hi, hz, hs', hby⟩ := info38'
  refine wpList_append_own_at w hgd s x 40 ho B 38 i (.pointer none) 1 8 Tryd.underlying40 hi hz hs' hby rfl (by decide) lv n xs hs hown ⟨b, 0, none⟩ 1 c [.pointer p] hx rfl (fun k u hk => ?_) (fun u hu => by simp at hu; subst hu; rfl) (by unfold maxLen; omega) (by omega) hbase (fun v' w' h1 h2 _ h3 => h v' w' h1 h2 h3)
  match k, hk with
  | 0, hk =>
    simp at hk
    subst hk
    exact hp

theorem which_any (n : Int) (all : Nat) (w : World) (h0 : 0 < all) (h1 : all ≤ 1048577) (hn : -9223372036854775808 ≤ n) (hn2 : n ≤ 9223372036854775807) :
    Calls Tryd.prog 20 #[.int .i64 n, .int .i64 (all : Int)] w fun e w' => (∃ i : Nat, i < all ∧ e = .returned (.int .i64 (i : Int))) ∧ w' = w := by
  have t1 : -(all : Int) < n.tmod all := by
    have := Int.lt_tmod_of_pos n (b := (all : Int)) (by omega)
    omega
  have t2 : n.tmod all < all := Int.tmod_lt_of_pos n (by omega)
  have hne : ¬ ((all : Int) = 0) := by omega
  obtain ⟨r, hr⟩ : ∃ r, r = n.tmod all := ⟨_, rfl⟩
  rw [← hr] at t1 t2
  by_cases hs : 0 ≤ r
  · obtain ⟨i, rfl⟩ : ∃ i : Nat, r = (i : Int) := ⟨r.toNat, by omega⟩
    go_enter Tryd.func20, Tryd.ntmps20
    go_wp2
    go_ret
    exact ⟨⟨i, by omega, ret_int (by omega)⟩, rfl⟩
  · obtain ⟨i, hi⟩ : ∃ i : Nat, r + all = (i : Int) := ⟨(r + all).toNat, by omega⟩
    go_enter Tryd.func20, Tryd.ntmps20
    go_wp2
    go_ret
    exact ⟨⟨i, by omega, ret_int (by omega)⟩, rfl⟩
end Go.Proofs.YtpmdlhlojifoeaaDoor
