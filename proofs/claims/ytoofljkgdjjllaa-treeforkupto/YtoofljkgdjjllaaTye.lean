import Derived.Test.YtoofljkgdjjllaaTyd
import Derived.Test.YtoofljkgdjjllaaCm
import Derived.WalkKit
import Derived.WalkSpells
import Derived.WalkLawsBesides
import Derived.Lib.Bytealg
namespace Go.Proofs.Ytoofljkgdjjllaa
open Go.RowKit
set_option linter.unusedVariables false
set_option linter.unusedSimpArgs false

/-- How two numbers stand: -1, 0, 1. -/
def cI (a b : Int) : Int := if a < b then -1 else if b < a then 1 else 0
/-- How two texts stand. -/
def cS (a b : ByteArray) : Int := if Op.bytesLess a.toList b.toList = true then -1 else if (a.toList == b.toList) = true then 0 else 1
/-! ### texts by their bytes -/
theorem bl_irrefl : ∀ l : List UInt8, Op.bytesLess l l = false
  | [] => rfl
  | a :: x => by
    unfold Op.bytesLess
    simp [bl_irrefl x]
theorem bl_cons (a b : UInt8) (x y : List UInt8) : Op.bytesLess (a :: x) (b :: y) = true ↔ a.toNat < b.toNat ∨ (a = b ∧ Op.bytesLess x y = true) := by
  rw [Op.bytesLess]
  simp [UInt8.lt_iff_toNat_lt]
theorem bl_asymm : ∀ {a b : List UInt8}, Op.bytesLess a b = true → Op.bytesLess b a = false
  | [], [], h => by simp [Op.bytesLess] at h
  | [], _ :: _, _ => rfl
  | _ :: _, [], h => by simp [Op.bytesLess] at h
  | a :: x, b :: y, h => by
    cases hq : Op.bytesLess (b :: y) (a :: x) with
    | false => rfl
    | true =>
      rw [bl_cons] at h hq
      rcases h with h | ⟨rfl, h⟩
      · rcases hq with q | ⟨rfl, q⟩ <;> omega
      · rcases hq with q | ⟨_, q⟩
        · omega
        · rw [bl_asymm h] at q; cases q
theorem bl_total : ∀ {a b : List UInt8}, Op.bytesLess a b = false → Op.bytesLess b a = false → a = b
  | [], [], _, _ => rfl
  | [], _ :: _, h, _ => by simp [Op.bytesLess] at h
  | _ :: _, [], _, h => by simp [Op.bytesLess] at h
  | a :: x, b :: y, h1, h2 => by
    have e1 : ¬ (a.toNat < b.toNat ∨ (a = b ∧ Op.bytesLess x y = true)) := by rw [← bl_cons, h1]; simp
    have e2 : ¬ (b.toNat < a.toNat ∨ (b = a ∧ Op.bytesLess y x = true)) := by rw [← bl_cons, h2]; simp
    have e : a = b := UInt8.toNat_inj.1 (by omega)
    subst e
    have h3 : Op.bytesLess x y = false := by cases hq : Op.bytesLess x y with | false => rfl | true => exact absurd (.inr ⟨rfl, hq⟩) e1
    have h4 : Op.bytesLess y x = false := by cases hq : Op.bytesLess y x with | false => rfl | true => exact absurd (.inr ⟨rfl, hq⟩) e2
    rw [bl_total h3 h4]
theorem bl_trans : ∀ {a b c : List UInt8}, Op.bytesLess a b = true → Op.bytesLess b c = true → Op.bytesLess a c = true
  | _, [], _, h, _ => by cases ‹List UInt8› <;> simp [Op.bytesLess] at h
  | _, _ :: _, [], _, h => by simp [Op.bytesLess] at h
  | [], _ :: _, _ :: _, _, _ => rfl
  | a :: x, b :: y, c :: z, h1, h2 => by
    rw [bl_cons] at h1 h2 ⊢
    rcases h1 with h1 | ⟨rfl, h1⟩
    · rcases h2 with h2 | ⟨rfl, h2⟩ <;> exact .inl (by omega)
    · rcases h2 with h2 | ⟨rfl, h2⟩
      · exact .inl h2
      · exact .inr ⟨rfl, bl_trans h1 h2⟩

/-! ### orders, one behind the other -/
structure TO {α : Type} (c : α → α → Int) : Prop where
  anti : ∀ a b, c b a = - c a b
  le : ∀ a b d, c a b ≤ 0 → c b d ≤ 0 → c a d ≤ 0
  lt : ∀ a b d, c a b ≤ 0 → c b d ≤ 0 → (c a b < 0 ∨ c b d < 0) → c a d < 0
theorem TO.zero {α : Type} {c : α → α → Int} (h : TO c) {a b d : α} (h1 : c a b = 0) (h2 : c b d = 0) : c a d = 0 := by
  have e1 := h.le a b d (by omega) (by omega)
  have e2 := h.le d b a (by rw [h.anti]; omega) (by rw [h.anti]; omega)
  rw [h.anti] at e2
  omega
def or2 (a b : Int) : Int := if a = 0 then b else a
theorem TO.lex {α β : Type} {c : α → α → Int} {d : β → β → Int} (hc : TO c) (hd : TO d) : TO (fun (p q : α × β) => or2 (c p.1 q.1) (d p.2 q.2)) := by
  refine ⟨fun a b => ?_, fun a b e h1 h2 => ?_, fun a b e h1 h2 h3 => ?_⟩
  · simp only [or2]
    have := hc.anti a.1 b.1
    have := hd.anti a.2 b.2
    split <;> split <;> omega
  · simp only [or2] at *
    have := hc.le a.1 b.1 e.1
    have := hc.lt a.1 b.1 e.1
    have := @TO.zero _ _ hc a.1 b.1 e.1
    have := hd.le a.2 b.2 e.2
    split at h1 <;> split at h2 <;> split <;> omega
  · simp only [or2] at *
    have := hc.le a.1 b.1 e.1
    have := hc.lt a.1 b.1 e.1
    have := @TO.zero _ _ hc a.1 b.1 e.1
    have := hd.le a.2 b.2 e.2
    have := hd.lt a.2 b.2 e.2
    split at h1 <;> split at h2 <;> split <;> split at h3 <;> (try split at h3) <;> omega
theorem to_cI : TO cI := by
  refine ⟨fun a b => ?_, fun a b d => ?_, fun a b d => ?_⟩ <;> simp only [cI] <;> repeat' split
  all_goals omega
theorem cS_val (a b : ByteArray) : (Op.bytesLess a.toList b.toList = true ∧ cS a b = -1) ∨ (a.toList = b.toList ∧ cS a b = 0) ∨ (Op.bytesLess b.toList a.toList = true ∧ cS a b = 1) := by
  unfold cS
  cases h1 : Op.bytesLess a.toList b.toList with
  | true => exact .inl ⟨rfl, by simp⟩
  | false =>
    cases h2 : Op.bytesLess b.toList a.toList with
    | true =>
      have hne : ¬ a.toList = b.toList := fun e => by rw [e, bl_irrefl] at h2; cases h2
      exact .inr (.inr ⟨rfl, by simp [hne]⟩)
    | false =>
      have e := bl_total h1 h2
      exact .inr (.inl ⟨e, by simp [e]⟩)
theorem to_cS : TO cS := by
  refine ⟨fun a b => ?_, fun a b d h1 h2 => ?_, fun a b d h1 h2 h3 => ?_⟩
  · rcases cS_val a b with ⟨p, e⟩ | ⟨p, e⟩ | ⟨p, e⟩ <;> rcases cS_val b a with ⟨q, g⟩ | ⟨q, g⟩ | ⟨q, g⟩
    all_goals first
      | (rw [e, g]; done)
      | (rw [e, g]; rfl)
      | (exfalso; rw [bl_asymm p] at q; cases q; done)
      | (exfalso; rw [q, bl_irrefl] at p; cases p; done)
      | (exfalso; rw [p, bl_irrefl] at q; cases q; done)
  · rcases cS_val a b with ⟨p, e⟩ | ⟨p, e⟩ | ⟨p, e⟩ <;> rcases cS_val b d with ⟨q, g⟩ | ⟨q, g⟩ | ⟨q, g⟩ <;> rcases cS_val a d with ⟨r, i⟩ | ⟨r, i⟩ | ⟨r, i⟩ <;> (try omega)
    · have := bl_trans p q; rw [bl_asymm this] at r; cases r
    · rw [q] at p; rw [bl_asymm p] at r; cases r
    · rw [← p] at q; rw [bl_asymm q] at r; cases r
    · rw [p, q, bl_irrefl] at r; cases r
  · rcases cS_val a b with ⟨p, e⟩ | ⟨p, e⟩ | ⟨p, e⟩ <;> rcases cS_val b d with ⟨q, g⟩ | ⟨q, g⟩ | ⟨q, g⟩ <;> rcases cS_val a d with ⟨r, i⟩ | ⟨r, i⟩ | ⟨r, i⟩ <;> (try omega)
    · have := bl_trans p q; rw [r, bl_irrefl] at this; cases this
    · have := bl_trans p q; rw [bl_asymm this] at r; cases r
    · rw [q, ← r, bl_irrefl] at p; cases p
    · rw [q] at p; rw [bl_asymm p] at r; cases r
    · rw [← p, r, bl_irrefl] at q; cases q
    · rw [← p] at q; rw [bl_asymm q] at r; cases r
theorem cmpB : ∀ (x y : List UInt8), Lib.compareBytes x y = if Op.bytesLess x y = true then -1 else if (x == y) = true then 0 else 1
  | [], [] => by simp [Lib.compareBytes, Op.bytesLess]
  | [], _ :: _ => by simp [Lib.compareBytes, Op.bytesLess]
  | _ :: _, [] => by simp [Lib.compareBytes, Op.bytesLess]
  | a :: x, b :: y => by
    unfold Lib.compareBytes
    rw [cmpB x y]
    by_cases h1 : a < b
    · have : Op.bytesLess (a :: x) (b :: y) = true := (bl_cons a b x y).2 (.inl (UInt8.lt_iff_toNat_lt.1 h1))
      rw [if_pos h1, if_pos this]
    · rw [if_neg h1]
      have h1' : ¬ a.toNat < b.toNat := fun h => h1 (UInt8.lt_iff_toNat_lt.2 h)
      by_cases h2 : b < a
      · have h2' : b.toNat < a.toNat := UInt8.lt_iff_toNat_lt.1 h2
        have n1 : ¬ Op.bytesLess (a :: x) (b :: y) = true := by
          rw [bl_cons]
          rintro (h | ⟨rfl, _⟩) <;> omega
        have n2 : ¬ ((a :: x) == (b :: y)) = true := by
          intro h
          have : a = b := by simpa using (List.cons.inj (by simpa using h : a :: x = b :: y)).1
          subst this
          omega
        rw [if_pos h2, if_neg n1, if_neg n2]
      · have e : a = b := UInt8.toNat_inj.1 (by have : ¬ b.toNat < a.toNat := fun h => h2 (UInt8.lt_iff_toNat_lt.2 h); omega)
        subst e
        rw [if_neg h2]
        have q1 : (Op.bytesLess (a :: x) (a :: y) = true) ↔ (Op.bytesLess x y = true) := by rw [bl_cons]; simp
        have q2 : (((a :: x) == (a :: y)) = true) ↔ ((x == y) = true) := by simp
        simp only [q1, q2]
theorem cmpS (a b : ByteArray) : Lib.compareBytes a.data.toList b.data.toList = cS a b := by
  rw [cmpB]
  unfold cS
  simp only [ByteArray.toList_eq]
set_option maxRecDepth 100000 in
set_option maxHeartbeats 400000 in
theorem nanN (k : Int) (w : World) : Calls Try.prog 106 #[.int .i64 k] w fun e w' => e = .returned (.bool false) ∧ w' = w := by
  go_enter Try.func106, Try.ntmps106
  go_wp2
  go_ret
  exact ⟨by simp, rfl⟩
set_option maxRecDepth 100000 in
set_option maxHeartbeats 1000000 in
theorem cmpN (a b : Int) (w : World) : Calls Try.prog 92 #[.int .i64 a, .int .i64 b] w fun e w' => e = .returned (.int .i64 (cI a b)) ∧ w' = w := by
  have H : Hid (∀ k wx, Calls Try.prog 106 #[.int .i64 k] wx fun e w' => e = .returned (.bool false) ∧ w' = wx) := fun k wx => nanN k wx
  unfold cI
  by_cases h1 : a < b
  · rw [if_pos h1]
    go_enter Try.func92, Try.ntmps92
    go_wp2_with (first | (go_at_call 106; refine (H.out _ _).mono ?_; rintro e _ ⟨rfl, rfl⟩) | fail)
    go_ret
    exact ⟨rfl, rfl⟩
  · rw [if_neg h1]
    by_cases h2 : b < a
    · rw [if_pos h2]
      go_enter Try.func92, Try.ntmps92
      go_wp2_with (first | (go_at_call 106; refine (H.out _ _).mono ?_; rintro e _ ⟨rfl, rfl⟩) | fail)
      go_ret
      exact ⟨rfl, rfl⟩
    · rw [if_neg h2]
      go_enter Try.func92, Try.ntmps92
      go_wp2_with (first | (go_at_call 106; refine (H.out _ _).mono ?_; rintro e _ ⟨rfl, rfl⟩) | fail)
      go_ret
      exact ⟨rfl, rfl⟩
theorem ext_cs (a b : ByteArray) (w : World) : (callFunc 104 #[.string a, .string b]).run Try.prog w = .ok (.value (.int .i64 (cS a b))) w := by
  rw [run_callFunc_extern Try.func104 (by kernel_rfl) (by kernel_rfl) (by kernel_rfl) (e := Extern.BytealgCompare.compare) (by kernel_rfl)]
  rw [Lib.run_compareString, cmpS]
  rfl
set_option maxRecDepth 100000 in
set_option maxHeartbeats 1000000 in
theorem cmpB_any (a b : ByteArray) (w : World) : Calls Try.prog 90 #[.string a, .string b] w fun e w' => e = .returned (.int .i64 (cS a b)) ∧ w' = w := by
  have hx := ext_cs a b w
  go_enter Try.func90, Try.ntmps90
  go_wp2
  go_ret
  exact ⟨rfl, rfl⟩
set_option maxRecDepth 100000 in
set_option maxHeartbeats 1000000 in
theorem cmpS_any (a b : ByteArray) (w : World) : Calls Try.prog 84 #[.string a, .string b] w fun e w' => e = .returned (.int .i64 (cS a b)) ∧ w' = w := by
  have H := hidMk (cmpB_any a b w)
  go_enter Try.func84, Try.ntmps84
  go_wp2_with fail
  refine H.out.mono ?_
  rintro e w1 ⟨rfl, hw⟩
  subst hw
  go_wp2
  go_ret
  exact ⟨rfl, rfl⟩
end Go.Proofs.Ytoofljkgdjjllaa
