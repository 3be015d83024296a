import Derived.Test.YtiehlodegpokcaaYa
import Derived.Deep.RegionHeld3
import Derived.Deep.Cut
namespace Go.Proofs.Ytiehlodegpokcaa
open Go.RowKit
set_option linter.unusedVariables false
set_option linter.unusedSimpArgs false

/-- The first of three numbers that is not 0. -/
def or3 (a b c : Int) : Int := if a = 0 then (if b = 0 then c else b) else a
def sel3 (a b c : Int) (k : Nat) : Int := if k = 0 then a else if k = 1 then b else c
set_option maxRecDepth 100000 in
set_option maxHeartbeats 1000000 in
theorem or_any (g : Nat) (a b c : Int) (w : World) (t : TypeId) (fr : Nat × Nat) (hg : w.heap[g]? = some (.cells #[.int .i64 a, .int .i64 b, .int .i64 c] t fr)) :
    Calls Try.prog 18 #[.slice (some ⟨g, 0, none⟩) 3 3] w fun e w' => e = .returned (.int .i64 (or3 a b c)) ∧ w' = w := by
  have HC : Hid (∀ k, k < 3 → w.cell? ⟨g, k, none⟩ = some (.int .i64 (sel3 a b c k))) := fun k hk => by
    rw [cell_of_row w g k _ _ _ hg]
    rcases (show k = 0 ∨ k = 1 ∨ k = 2 by omega) with rfl | rfl | rfl <;> rfl
  have HO : Hid (∀ k, k < 3 → (∀ j, j < k → sel3 a b c j = 0) → sel3 a b c k ≠ 0 → or3 a b c = sel3 a b c k) := fun k hk h1 h2 => by
    rcases (show k = 0 ∨ k = 1 ∨ k = 2 by omega) with rfl | rfl | rfl
    · simp only [sel3, if_true] at h2 ⊢; unfold or3; rw [if_neg h2]
    · have := h1 0 (by omega)
      simp [sel3] at h2 this
      simp [or3, sel3, this, h2]
    · have := h1 0 (by omega)
      have := h1 1 (by omega)
      simp_all [or3, sel3]
  have HZ : Hid ((∀ j, j < 3 → sel3 a b c j = 0) → or3 a b c = 0) := fun h => by
    have := h 0 (by omega)
    have := h 1 (by omega)
    have := h 2 (by omega)
    simp_all [or3, sel3]
  generalize or3 a b c = O at *
  clear hg
  go_enter Try.func18, Try.ntmps18
  go_wp2
  go_loopw [8] (fun i wr => ∃ k : Nat, k ≤ 3 ∧ i = .int .i64 k ∧ wr = w ∧ Hid (∀ j, j < k → sel3 a b c j = 0)) (fun i _ => 3 - (intOf i).toNat)
  case atStart => exact ⟨0, by omega, rfl, rfl, fun j hj => by omega⟩
  case round =>
    obtain ⟨k, hk, rfl, rfl, hj⟩ := hrel
    by_cases h1 : k < 3
    · have h1' : (k : Int) < 3 := by omega
      have cx := HC.out k h1
      by_cases h0 : sel3 a b c k = 0
      · have HN : Hid (∀ j, j < k + 1 → sel3 a b c j = 0) := fun j hj2 => by
          rcases Nat.lt_or_ge j k with h | h
          · exact hj.out j h
          · have : j = k := by omega
            subst this; exact h0
        generalize sel3 a b c k = X at cx h0
        subst h0
        go_wp2
        go_roundw
        case rel => exact ⟨k + 1, by omega, by go_num, by trivial, HN⟩
        case measure => simp [intOf]; omega
      · have eO : Hid (O = sel3 a b c k) := HO.out k h1 hj.out h0
        generalize sel3 a b c k = X at *
        go_wp2
        go_ret
        exact ⟨by rw [eO.out]; rfl, rfl⟩
    · have h1' : ¬ (k : Int) < 3 := by omega
      obtain rfl : k = 3 := by omega
      have eO : Hid (O = 0) := HZ.out hj.out
      clear HO HZ hj HC
      go_wp2
      go_ret
      exact ⟨by rw [eO.out]; rfl, rfl⟩
/-- A step: its kind, its key, its number. -/
structure St where
  k : Int
  s : ByteArray
  n : Int
def St.c (p : St) : Array Value := #[.int .u8 p.k, .string p.s, .int .i64 p.n]
/-- How two steps stand. -/
def cSt (p q : St) : Int := or3 (cI p.k q.k) (cS p.s q.s) (cI p.n q.n)
theorem to_cSt : TO cSt := by
  have h := to_cI.lex (to_cS.lex to_cI)
  exact ⟨fun a b => h.anti (a.k, a.s, a.n) (b.k, b.s, b.n), fun a b d => h.le (a.k, a.s, a.n) (b.k, b.s, b.n) (d.k, d.s, d.n), fun a b d => h.lt (a.k, a.s, a.n) (b.k, b.s, b.n) (d.k, d.s, d.n)⟩
theorem cI_bd (a b : Int) : -1 ≤ cI a b ∧ cI a b ≤ 1 := by unfold cI; repeat' split <;> omega
theorem cS_bd (a b : ByteArray) : -1 ≤ cS a b ∧ cS a b ≤ 1 := by rcases cS_val a b with ⟨_, e⟩ | ⟨_, e⟩ | ⟨_, e⟩ <;> rw [e] <;> omega
theorem cSt_bd (p q : St) : -1 ≤ cSt p q ∧ cSt p q ≤ 1 := by
  have := cI_bd p.k q.k
  have := cS_bd p.s q.s
  have := cI_bd p.n q.n
  unfold cSt or3
  repeat' split
  all_goals omega
theorem cI_zero {a b : Int} : cI a b = 0 ↔ a = b := by
  unfold cI
  constructor
  · intro h; split at h
    · omega
    · split at h <;> omega
  · rintro rfl; rw [if_neg (by omega), if_neg (by omega)]
theorem cS_zero {a b : ByteArray} : cS a b = 0 ↔ a = b := by
  have ext : a.toList = b.toList ↔ a = b := by
    rw [ByteArray.toList_eq, ByteArray.toList_eq]
    constructor
    · intro h
      obtain ⟨⟨x⟩⟩ := a
      obtain ⟨⟨y⟩⟩ := b
      simp at h
      subst h
      rfl
    · rintro rfl; rfl
  rw [← ext]
  rcases cS_val a b with ⟨p, e⟩ | ⟨p, e⟩ | ⟨p, e⟩ <;> rw [e]
  · constructor
    · intro h; omega
    · intro h; rw [h, bl_irrefl] at p; cases p
  · exact ⟨fun _ => p, fun _ => rfl⟩
  · constructor
    · intro h; omega
    · intro h; rw [h, bl_irrefl] at p; cases p
theorem cSt_zero {p q : St} : cSt p q = 0 ↔ p = q := by
  obtain ⟨k, s, n⟩ := p
  obtain ⟨k', s', n'⟩ := q
  have a := @cI_zero k k'
  have b := @cS_zero s s'
  have c := @cI_zero n n'
  simp only [cSt, or3, St.mk.injEq]
  rw [← a, ← b, ← c]
  constructor
  · intro h
    split at h
    · split at h
      · rename_i h1 h2; exact ⟨h1, h2, h⟩
      · omega
    · omega
  · rintro ⟨h1, h2, h3⟩
    rw [if_pos h1, if_pos h2, h3]
/-- How two ways stand. -/
def cL : List St → List St → Int
  | [], [] => 0
  | [], _ :: _ => -1
  | _ :: _, [] => 1
  | a :: x, b :: y => or2 (cSt a b) (cL x y)
theorem cL_bd : ∀ (x y : List St), -1 ≤ cL x y ∧ cL x y ≤ 1
  | [], [] => by simp [cL]
  | [], _ :: _ => by simp [cL]
  | _ :: _, [] => by simp [cL]
  | a :: x, b :: y => by
    have := cSt_bd a b
    have := cL_bd x y
    simp only [cL, or2]
    split <;> omega
theorem cL_zero : ∀ {x y : List St}, cL x y = 0 ↔ x = y
  | [], [] => by simp [cL]
  | [], _ :: _ => by simp [cL]
  | _ :: _, [] => by simp [cL]
  | a :: x, b :: y => by
    have h := @cSt_zero a b
    have ih := @cL_zero x y
    simp only [cL, or2, List.cons.injEq, ← h, ← ih]
    constructor
    · intro e
      split at e
      · rename_i h1; exact ⟨h1, e⟩
      · omega
    · rintro ⟨e1, e2⟩
      rw [if_pos e1, e2]
theorem cL_anti : ∀ (x y : List St), cL y x = - cL x y
  | [], [] => by simp [cL]
  | [], _ :: _ => by simp [cL]
  | _ :: _, [] => by simp [cL]
  | a :: x, b :: y => by
    have h := to_cSt.anti a b
    have ih := cL_anti x y
    simp only [cL, or2]
    split <;> split <;> omega
theorem cL_le : ∀ (x y z : List St), cL x y ≤ 0 → cL y z ≤ 0 → cL x z ≤ 0 ∧ ((cL x y < 0 ∨ cL y z < 0) → cL x z < 0)
  | [], [], [], _, _ => by simp [cL]
  | [], [], _ :: _, _, _ => by simp [cL]
  | [], _ :: _, [], _, h => by simp [cL] at h
  | [], _ :: _, _ :: _, _, _ => by simp [cL]
  | _ :: _, [], _, h, _ => by simp [cL] at h
  | _ :: _, _ :: _, [], _, h => by simp [cL] at h
  | a :: x, b :: y, d :: z, h1, h2 => by
    have := to_cSt.le a b d
    have := to_cSt.lt a b d
    have := @TO.zero _ _ to_cSt a b d
    have ih := cL_le x y z
    simp only [cL, or2] at *
    split at h1 <;> split at h2
    · rename_i e1 e2
      have e3 := ‹cSt a b = 0 → cSt b d = 0 → cSt a d = 0› e1 e2
      obtain ⟨i1, i2⟩ := ih h1 h2
      rw [if_pos e3]
      refine ⟨i1, fun h => i2 ?_⟩
      rw [if_pos e1, if_pos e2] at h
      exact h
    · rename_i e1 e2
      have : cSt a d < 0 := ‹cSt a b ≤ 0 → cSt b d ≤ 0 → cSt a b < 0 ∨ cSt b d < 0 → cSt a d < 0› (by omega) h2 (.inr (by omega))
      rw [if_neg (by omega)]
      exact ⟨by omega, fun _ => this⟩
    · rename_i e1 e2
      have : cSt a d < 0 := ‹cSt a b ≤ 0 → cSt b d ≤ 0 → cSt a b < 0 ∨ cSt b d < 0 → cSt a d < 0› h1 (by omega) (.inl (by omega))
      rw [if_neg (by omega)]
      exact ⟨by omega, fun _ => this⟩
    · rename_i e1 e2
      have : cSt a d < 0 := ‹cSt a b ≤ 0 → cSt b d ≤ 0 → cSt a b < 0 ∨ cSt b d < 0 → cSt a d < 0› h1 h2 (.inl (by omega))
      rw [if_neg (by omega)]
      exact ⟨by omega, fun _ => this⟩
theorem cL_pre : ∀ (x y : List St), cL x (x ++ y) ≤ 0
  | [], [] => by simp [cL]
  | [], _ :: _ => by simp [cL]
  | a :: x, y => by
    have e : cSt a a = 0 := cSt_zero.2 rfl
    simp only [List.cons_append, cL, or2, e, if_true]
    exact cL_pre x y
theorem bel_box2 (w : World) (c d : Array Value) (t u : TypeId) : Below w.heap.size w ((w.alloc (.cells c t)).alloc (.cells d u)) := ((Below.refl _ _).alloc (Nat.le_refl _) _).alloc (by simp) _
set_option maxRecDepth 100000 in
set_option maxHeartbeats 4000000 in
theorem csteps_any (p q : St) (w : World) : Calls Try.prog 15 #[.agg p.c, .agg q.c] w fun e w' => e = .returned (.int .i64 (cSt p q)) ∧ Below w.heap.size w w' := by
  obtain ⟨k, s, n⟩ := p
  obtain ⟨k', s', n'⟩ := q
  simp only [St.c]
  have bx := bel_box2 w #[.int .u8 k, .string s, .int .i64 n] #[.int .u8 k', .string s', .int .i64 n'] 28 28
  have zW : w.heap.size + 1 < ((w.alloc (.cells #[.int .u8 k, .string s, .int .i64 n] 28)).alloc (.cells #[.int .u8 k', .string s', .int .i64 n'] 28)).heap.size := by simp
  have g0 : ((w.alloc (.cells #[.int .u8 k, .string s, .int .i64 n] 28)).alloc (.cells #[.int .u8 k', .string s', .int .i64 n'] 28)).heap[w.heap.size]? = some (.cells #[.int .u8 k, .string s, .int .i64 n] 28 (0, 0)) := by
    rw [Below.heap_alloc _ _ _ (by simp)]; exact heap_alloc_new _ _
  have g1 : ((w.alloc (.cells #[.int .u8 k, .string s, .int .i64 n] 28)).alloc (.cells #[.int .u8 k', .string s', .int .i64 n'] 28)).heap[w.heap.size + 1]? = some (.cells #[.int .u8 k', .string s', .int .i64 n'] 28 (0, 0)) := by
    have := heap_alloc_new (w.alloc (.cells #[.int .u8 k, .string s, .int .i64 n] 28)) (.cells #[.int .u8 k', .string s', .int .i64 n'] 28)
    simpa using this
  have a0 := (cell_of_row _ _ 0 _ _ _ g0).trans (show (#[.int .u8 k, .string s, .int .i64 n] : Array Value)[0]? = some (.int .u8 k) from rfl)
  have a1 := (cell_of_row _ _ 1 _ _ _ g0).trans (show (#[.int .u8 k, .string s, .int .i64 n] : Array Value)[1]? = some (.string s) from rfl)
  have a2 := (cell_of_row _ _ 2 _ _ _ g0).trans (show (#[.int .u8 k, .string s, .int .i64 n] : Array Value)[2]? = some (.int .i64 n) from rfl)
  have e0 := (cell_of_row _ _ 0 _ _ _ g1).trans (show (#[.int .u8 k', .string s', .int .i64 n'] : Array Value)[0]? = some (.int .u8 k') from rfl)
  have e1 := (cell_of_row _ _ 1 _ _ _ g1).trans (show (#[.int .u8 k', .string s', .int .i64 n'] : Array Value)[1]? = some (.string s') from rfl)
  have e2 := (cell_of_row _ _ 2 _ _ _ g1).trans (show (#[.int .u8 k', .string s', .int .i64 n'] : Array Value)[2]? = some (.int .i64 n') from rfl)
  clear g0 g1
  have C1 : Hid (∀ wx, Calls Try.prog 19 #[.int .u8 k, .int .u8 k'] wx fun e w' => e = .returned (.int .i64 (cI k k')) ∧ w' = wx) := fun wx => cmpK k k' wx
  have C2 : Hid (∀ wx, Calls Try.prog 20 #[.string s, .string s'] wx fun e w' => e = .returned (.int .i64 (cS s s')) ∧ w' = wx) := fun wx => cmpS_any s s' wx
  have C3 : Hid (∀ wx, Calls Try.prog 21 #[.int .i64 n, .int .i64 n'] wx fun e w' => e = .returned (.int .i64 (cI n n')) ∧ w' = wx) := fun wx => cmpN n n' wx
  unfold cSt
  simp only []
  generalize hx1 : cI k k' = x1 at *
  generalize hx2 : cS s s' = x2 at *
  generalize hx3 : cI n n' = x3 at *
  clear hx1 hx2 hx3
  go_enter Try.func15, Try.ntmps15
  go_upto_region 1 with fail
  generalize ((w.alloc (.cells #[.int .u8 k, .string s, .int .i64 n] 28)).alloc (.cells #[.int .u8 k', .string s', .int .i64 n'] 28)) = W at *
  go_region_held3 (fun w' => w'.cell? ⟨w.heap.size, 0, none⟩ = some (.int .u8 k) ∧ w'.cell? ⟨w.heap.size, 1, none⟩ = some (.string s) ∧ w'.cell? ⟨w.heap.size, 2, none⟩ = some (.int .i64 n) ∧ w'.cell? ⟨w.heap.size + 1, 0, none⟩ = some (.int .u8 k') ∧ w'.cell? ⟨w.heap.size + 1, 1, none⟩ = some (.string s') ∧ w'.cell? ⟨w.heap.size + 1, 2, none⟩ = some (.int .i64 n')) (first | assumption | go_keep) (first
    | (go_at_call 19; refine (C1.out _).mono ?_; rintro e _ ⟨rfl, rfl⟩)
    | (go_at_call 20; refine (C2.out _).mono ?_; rintro e _ ⟨rfl, rfl⟩)
    | (go_at_call 21; refine (C3.out _).mono ?_; rintro e _ ⟨rfl, rfl⟩)
    | (go_at_call 18; refine (or_any _ x1 x2 x3 _ 3 (0, 0) (by exact heap_alloc_new _ _)).mono ?_; rintro e _ ⟨rfl, rfl⟩))
  go_wp2
  go_ret
  refine ⟨rfl, ?_⟩
  first | exact (bx.alloc (by omega) _).drew | exact bx.alloc (by omega) _ | exact below_drewN (bx.alloc (by omega) _) _ | exact ((below_drewN bx _).alloc (by simp; omega) _).drew
end Go.Proofs.Ytiehlodegpokcaa
