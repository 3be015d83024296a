namespace Go.Proofs.YtldlljobofnmmabDoor
set_option linter.unusedVariables false
set_option linter.unusedSimpArgs false

namespace Rg
section
variable {α : Type}
/-- Those that were seen, each with its number. -/
def hadI (sn : α → Bool) : Nat → List α → List (Nat × α)
  | _, [] => []
  | i, x :: L => if sn x then (i, x) :: hadI sn (i + 1) L else hadI sn (i + 1) L
theorem hadI_snoc (sn : α → Bool) (x : α) : ∀ (L : List α) (i : Nat), hadI sn i (L ++ [x]) = hadI sn i L ++ (if sn x then [(i + L.length, x)] else [])
  | [], i => by simp [hadI]
  | y :: L, i => by
    have ih := hadI_snoc sn x L (i + 1)
    rw [List.cons_append]
    unfold hadI
    rw [ih, show i + 1 + L.length = i + (y :: L).length by simp; omega]
    split <;> simp
theorem hadI_mem (sn : α → Bool) : ∀ {L : List α} {i : Nat} {t : Nat × α}, t ∈ hadI sn i L → i ≤ t.1 ∧ L[t.1 - i]? = some t.2 ∧ sn t.2 = true
  | [], i, t, h => by simp [hadI] at h
  | y :: L, i, t, h => by
    unfold hadI at h
    have rcc : t ∈ hadI sn (i + 1) L → i ≤ t.1 ∧ (y :: L)[t.1 - i]? = some t.2 ∧ sn t.2 = true := fun h => by
      obtain ⟨h1, h2, h3⟩ := hadI_mem sn h
      refine ⟨by omega, ?_, h3⟩
      rw [show t.1 - i = (t.1 - (i + 1)) + 1 by omega, List.getElem?_cons_succ]
      exact h2
    split at h
    · next hs =>
      rcases List.mem_cons.1 h with rfl | h
      · exact ⟨Nat.le_refl _, by simp, hs⟩
      · exact rcc h
    · exact rcc h
theorem hadI_len (sn : α → Bool) : ∀ (L : List α) (i : Nat), (hadI sn i L).length ≤ L.length
  | [], i => by simp [hadI]
  | y :: L, i => by
    have := hadI_len sn L (i + 1)
    unfold hadI
    split <;> simp <;> omega
theorem hadI_nil (sn : α → Bool) : ∀ {L : List α} {i : Nat}, hadI sn i L = [] → ∀ x ∈ L, sn x = false
  | [], i, h, x, hx => by cases hx
  | y :: L, i, h, x, hx => by
    unfold hadI at h
    split at h
    · cases h
    · next hs =>
      rcases List.mem_cons.1 hx with rfl | hx
      · simpa using hs
      · exact hadI_nil sn h x hx
/-- What was not seen. -/
def res (sn : α → Bool) (L : List α) : List α := L.filter (fun x => !sn x)
theorem res_len (sn : α → Bool) (L : List α) (i : Nat) : (res sn L).length + (hadI sn i L).length = L.length := by
  induction L generalizing i with
  | nil => simp [res, hadI]
  | cons y L ih =>
    have := ih (i + 1)
    unfold hadI
    unfold res at *
    by_cases h : sn y = true
    · rw [if_pos h, List.filter_cons_of_neg (by simp [h])]; simp only [List.length_cons]; omega
    · rw [if_neg h, List.filter_cons_of_pos (by simp [h])]; simp only [List.length_cons]; omega
theorem res_nil (sn : α → Bool) {L : List α} {i : Nat} (h : hadI sn i L = []) : res sn L = L := List.filter_eq_self.2 fun x hx => by rw [hadI_nil sn h x hx]; rfl
/-- A list less those taken: its state behind some of them. -/
def wo (L : List α) : List α → Nat → List (Nat × α) → List α
  | out, frm, [] => out ++ L.drop frm
  | out, frm, t :: T => wo L (out ++ (L.take t.1).drop frm) (t.1 + 1) T
theorem wo_had (sn : α → Bool) (C : List α) : ∀ (A B out : List α), wo (A ++ B ++ C) out A.length (hadI sn (A.length + B.length) C) = out ++ B ++ res sn C := by
  induction C with
  | nil =>
    intro A B out
    simp [hadI, wo, res]
  | cons y C ih =>
    intro A B out
    unfold hadI
    by_cases h : sn y = true
    · rw [if_pos h]
      unfold wo
      have e1 : ((A ++ B ++ y :: C).take (A.length + B.length)).drop A.length = B := by
        rw [show A.length + B.length = (A ++ B).length by simp, List.take_left, List.drop_left]
      have := ih (A ++ B ++ [y]) [] (out ++ B)
      rw [show A ++ B ++ [y] ++ [] ++ C = A ++ B ++ y :: C by simp, show (A ++ B ++ [y]).length = A.length + B.length + 1 by simp; omega, show A.length + B.length + 1 + ([] : List α).length = A.length + B.length + 1 by simp] at this
      rw [e1, this]
      unfold res
      rw [List.filter_cons_of_neg (by simp [h])]
      simp
    · rw [if_neg h]
      have := ih A (B ++ [y]) out
      rw [show A ++ (B ++ [y]) ++ C = A ++ B ++ y :: C by simp, show A.length + (B ++ [y]).length = A.length + B.length + 1 by simp; omega] at this
      rw [this]
      unfold res
      rw [List.filter_cons_of_pos (by simp [h])]
      simp
theorem wo_all (sn : α → Bool) (L : List α) : wo L [] 0 (hadI sn 0 L) = res sn L := by
  have := wo_had sn L [] [] []
  simpa using this
/-- The numbers of those taken, as without meets them. -/
def WoOk (n : Nat) : Nat → List (Nat × α) → Prop
  | f, [] => f ≤ n
  | f, t :: T => f ≤ t.1 ∧ t.1 < n ∧ WoOk n (t.1 + 1) T
theorem wo_ok (sn : α → Bool) (C : List α) : ∀ (f i : Nat), f ≤ i → WoOk (i + C.length) f (hadI sn i C) := by
  induction C with
  | nil => intro f i h; simpa [hadI, WoOk] using h
  | cons y C ih =>
    intro f i h
    unfold hadI
    have e : i + (y :: C).length = i + 1 + C.length := by simp; omega
    rw [e]
    by_cases hs : sn y = true
    · rw [if_pos hs]
      exact ⟨h, by show i < _; omega, ih (i + 1) (i + 1) (Nat.le_refl _)⟩
    · rw [if_neg hs]
      exact ih f (i + 1) (by omega)
theorem wo_ok_all (sn : α → Bool) (L : List α) : WoOk L.length 0 (hadI sn 0 L) := by
  have := wo_ok sn L 0 0 (Nat.le_refl _)
  simpa using this
/-- A list with those that were taken back where they stood: its state behind some of them. -/
def wi : List α → List α → List (Nat × α) → List α
  | l, rest, [] => l ++ rest
  | l, rest, t :: T => wi (l ++ rest.take (t.1 - l.length) ++ [t.2]) (rest.drop (t.1 - l.length)) T
theorem wi_had (sn : α → Bool) (C : List α) : ∀ (l B : List α), wi l (B ++ res sn C) (hadI sn (l.length + B.length) C) = l ++ B ++ C := by
  induction C with
  | nil => intro l B; simp [hadI, wi, res]
  | cons y C ih =>
    intro l B
    unfold hadI
    by_cases h : sn y = true
    · rw [if_pos h]
      unfold wi
      have e1 : l.length + B.length - l.length = B.length := by omega
      have e2 : res sn (y :: C) = res sn C := by unfold res; rw [List.filter_cons_of_neg (by simp [h])]
      have := ih (l ++ B ++ [y]) []
      rw [show (l ++ B ++ [y]).length + ([] : List α).length = l.length + B.length + 1 by simp; omega] at this
      rw [show ((l.length + B.length, y) : Nat × α).1 = l.length + B.length from rfl, e1, e2, List.take_left, List.drop_left]
      simpa using this
    · rw [if_neg h]
      have e2 : res sn (y :: C) = y :: res sn C := by unfold res; rw [List.filter_cons_of_pos (by simp [h])]
      have := ih l (B ++ [y])
      rw [show l.length + (B ++ [y]).length = l.length + B.length + 1 by simp; omega] at this
      rw [e2, show B ++ y :: res sn C = B ++ [y] ++ res sn C by simp, this]
      simp
theorem wi_all (sn : α → Bool) (L : List α) : wi [] (res sn L) (hadI sn 0 L) = L := by
  have := wi_had sn L [] []
  simpa using this
/-- The numbers of those taken, as with meets them: each within what is left. -/
inductive WiOk : List α → List α → List (Nat × α) → Prop
  | nil (l rest) : WiOk l rest []
  | cons {l rest : List α} {t : Nat × α} {T : List (Nat × α)} : l.length ≤ t.1 → t.1 - l.length ≤ rest.length → WiOk (l ++ rest.take (t.1 - l.length) ++ [t.2]) (rest.drop (t.1 - l.length)) T → WiOk l rest (t :: T)
theorem wi_ok (sn : α → Bool) (C : List α) : ∀ (l B : List α), WiOk l (B ++ res sn C) (hadI sn (l.length + B.length) C) := by
  induction C with
  | nil => intro l B; exact WiOk.nil _ _
  | cons y C ih =>
    intro l B
    unfold hadI
    by_cases h : sn y = true
    · rw [if_pos h]
      have e1 : l.length + B.length - l.length = B.length := by omega
      have e2 : res sn (y :: C) = res sn C := by unfold res; rw [List.filter_cons_of_neg (by simp [h])]
      refine WiOk.cons (by show l.length ≤ l.length + B.length; omega) (by show l.length + B.length - l.length ≤ _; rw [e1]; simp) ?_
      have := ih (l ++ B ++ [y]) []
      rw [show (l ++ B ++ [y]).length + ([] : List α).length = l.length + B.length + 1 by simp; omega] at this
      rw [show ((l.length + B.length, y) : Nat × α).1 = l.length + B.length from rfl, e1, e2, List.take_left, List.drop_left]
      simpa using this
    · rw [if_neg h]
      have e2 : res sn (y :: C) = y :: res sn C := by unfold res; rw [List.filter_cons_of_pos (by simp [h])]
      have := ih l (B ++ [y])
      rw [show l.length + (B ++ [y]).length = l.length + B.length + 1 by simp; omega] at this
      rw [e2, show B ++ y :: res sn C = B ++ [y] ++ res sn C by simp]
      exact this
theorem wi_ok_all (sn : α → Bool) (L : List α) : WiOk [] (res sn L) (hadI sn 0 L) := by
  have := wi_ok sn L [] []
  simpa using this
/-- A list in which some are changed: its state behind some of them. -/
def ch (g : α → α → α) : List α → List (Nat × α) → List α
  | l, [] => l
  | l, t :: T => ch g (match l[t.1]? with | some y => l.set t.1 (g y t.2) | none => l) T
theorem ch_had (sn : α → Bool) (g : α → α → α) (c : α → α) (C : List α) : ∀ (A : List α), ch g (A ++ C.map c) (hadI sn A.length C) = A ++ C.map (fun x => if sn x then g (c x) x else c x) := by
  induction C with
  | nil => intro A; simp [hadI, ch]
  | cons y C ih =>
    intro A
    unfold hadI
    have hA : (A ++ (y :: C).map c)[A.length]? = some (c y) := by simp
    by_cases h : sn y = true
    · rw [if_pos h]
      unfold ch
      rw [show ((A.length, y) : Nat × α).1 = A.length from rfl, hA]
      simp only
      have := ih (A ++ [g (c y) y])
      rw [show (A ++ [g (c y) y]).length = A.length + 1 by simp] at this
      rw [show (A ++ (y :: C).map c).set A.length (g (c y) y) = A ++ [g (c y) y] ++ C.map c by simp [List.set_append_right], this]
      simp [h]
    · rw [if_neg h]
      have := ih (A ++ [c y])
      rw [show (A ++ [c y]).length = A.length + 1 by simp] at this
      rw [show A ++ (y :: C).map c = A ++ [c y] ++ C.map c by simp, this]
      simp [h]
theorem ch_len (g : α → α → α) : ∀ (T : List (Nat × α)) (l : List α), (ch g l T).length = l.length
  | [], l => rfl
  | t :: T, l => by
    unfold ch
    rw [ch_len g T]
    split <;> simp
end
end Rg
end Go.Proofs.YtldlljobofnmmabDoor
