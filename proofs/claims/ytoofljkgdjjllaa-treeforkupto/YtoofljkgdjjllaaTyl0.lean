import Derived.Test.YtoofljkgdjjllaaTyk
namespace Go.Proofs.Ytoofljkgdjjllaa
open Go.RowKit
set_option linter.unusedVariables false
set_option linter.unusedSimpArgs false

theorem cmpL_anti : ∀ (a b : List UInt8), cmpL b a = - cmpL a b
  | [], [] => rfl
  | [], _ :: _ => rfl
  | _ :: _, [] => rfl
  | x :: a, y :: b => by
    have := cmpL_anti a b
    simp only [cmpL]
    split <;> split <;> omega
theorem cmpL_le : ∀ (a b c : List UInt8), a.length = b.length → b.length = c.length → cmpL a b ≤ 0 → cmpL b c ≤ 0 → cmpL a c ≤ 0 ∧ ((cmpL a b < 0 ∨ cmpL b c < 0) → cmpL a c < 0)
  | [], [], [], _, _, _, _ => by simp [cmpL]
  | x :: a, y :: b, z :: c, h1, h2, h3, h4 => by
    have ih := cmpL_le a b c (by simpa using h1) (by simpa using h2)
    simp only [cmpL] at *
    split at h3
    · split at h4
      · rw [if_pos (by omega)]; simp
      · split at h4
        · omega
        · rw [if_pos (by omega)]; simp
    · split at h3
      · omega
      · split at h4
        · rw [if_pos (by omega)]; simp
        · split at h4
          · omega
          · rw [if_neg (by omega), if_neg (by omega)]
            rw [if_neg (by omega), if_neg (by omega), if_neg (by omega), if_neg (by omega)]
            exact ih h3 h4
  | [], [], _ :: _, _, h, _, _ => by simp at h
  | [], _ :: _, _, h, _, _, _ => by simp at h
  | _ :: _, [], _, h, _, _, _ => by simp at h
  | _ :: _, _ :: _, [], _, h, _, _ => by simp at h
theorem cmpL_eq0 : ∀ (a b : List UInt8), a.length = b.length → cmpL a b = 0 → a = b
  | [], [], _, _ => rfl
  | x :: a, y :: b, h, h0 => by
    simp only [cmpL] at h0
    split at h0
    · omega
    · split at h0
      · omega
      · have e : x = y := UInt8.toNat_inj.1 (by omega)
        rw [e, cmpL_eq0 a b (by simpa using h) h0]
  | [], _ :: _, h, _ => by simp at h
  | _ :: _, [], h, _ => by simp at h
def H32 : Type := { h : List UInt8 // h.length = 32 }
theorem to_cmpL : TO (fun (a b : H32) => cmpL a.1 b.1) :=
  ⟨fun a b => cmpL_anti a.1 b.1, fun a b d h1 h2 => (cmpL_le a.1 b.1 d.1 (a.2.trans b.2.symm) (b.2.trans d.2.symm) h1 h2).1, fun a b d h1 h2 h3 => (cmpL_le a.1 b.1 d.1 (a.2.trans b.2.symm) (b.2.trans d.2.symm) h1 h2).2 h3⟩
theorem TO.comap {α β : Type} {c : α → α → Int} (h : TO c) (f : β → α) : TO (fun a b => c (f a) (f b)) := ⟨fun a b => h.anti _ _, fun a b d => h.le _ _ _, fun a b d => h.lt _ _ _⟩
theorem TO.refl {α : Type} {c : α → α → Int} (h : TO c) (a : α) : c a a = 0 := by have := h.anti a a; omega
/-- A kid that can be. -/
noncomputable def nrmK (x : KidV) : KidV := by
  classical
  exact if x.id.ok then x else zKid
theorem nrmK_ok (x : KidV) : (nrmK x).id.ok := by
  unfold nrmK
  split
  · assumption
  · exact zId_ok
theorem nrmK_id {x : KidV} (h : x.id.ok) : nrmK x = x := by
  unfold nrmK
  rw [if_pos h]
def kidP (x : KidV) (h : x.id.ok) : ByteArray × (H32 × Int) := (x.key, (⟨x.id.h, h.l⟩, x.id.n))
noncomputable def cfK (x y : KidV) : Int := cKid (nrmK x) (nrmK y)
theorem to_kidP : TO (fun (p q : ByteArray × (H32 × Int)) => or2 (cS p.1 q.1) (or2 (cmpL p.2.1.1 q.2.1.1) (cI p.2.2 q.2.2))) := TO.lex to_cS (TO.lex to_cmpL to_cI)
theorem to_cfK : TO cfK := TO.comap to_kidP (fun x => kidP (nrmK x) (nrmK_ok x))
/-- The order of kids, at those that can be. -/
theorem cKid_to {x y z : KidV} (hx : x.id.ok) (hy : y.id.ok) (hz : z.id.ok) (h1 : cKid x y ≤ 0) (h2 : cKid y z ≤ 0) : cKid x z ≤ 0 :=
  to_kidP.le (kidP x hx) (kidP y hy) (kidP z hz) h1 h2
theorem cKid_anti {x y : KidV} (hx : x.id.ok) (hy : y.id.ok) : cKid y x = - cKid x y := to_kidP.anti (kidP x hx) (kidP y hy)
theorem cKid_zero {x y : KidV} (hx : x.id.ok) (hy : y.id.ok) (h : cKid x y = 0) : x.id = y.id := by
  unfold cKid or2 at h
  split at h
  · unfold cId or2 at h
    split at h
    · next h1 =>
      have e := cmpL_eq0 _ _ (hx.l.trans hy.l.symm) h1
      unfold cI at h
      split at h
      · omega
      · split at h
        · omega
        · have e2 : x.id.n = y.id.n := by omega
          cases hxi : x.id
          cases hyi : y.id
          rw [hxi, hyi] at e e2
          simp at e e2
          rw [e, e2]
    · contradiction
  · contradiction
/-- No later one is ahead of an earlier one. -/
def SdK (L : List KidV) : Prop := L.Pairwise fun x y => ¬ cKid y x < 0
end Go.Proofs.Ytoofljkgdjjllaa
