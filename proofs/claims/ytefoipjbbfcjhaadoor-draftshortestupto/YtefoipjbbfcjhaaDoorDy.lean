import Derived.Test.YtefoipjbbfcjhaaDoorDq
import Derived.Test.YtefoipjbbfcjhaaDoorDp
import Derived.Test.YtefoipjbbfcjhaaDoorDd
import Derived.Test.YtefoipjbbfcjhaaDoorDm0
namespace Go.Proofs.YtefoipjbbfcjhaaDoor
open Go.RowKit
set_option linter.unusedVariables false
set_option linter.unusedSimpArgs false

theorem own_sl {w : World} {base e sz n : Nat} {v : Value} {xs : List Value} (h : w.ownsRow base e sz v n xs) : ∃ a c, v = .slice a n c := by
  rcases h.2 with ⟨rfl, rfl⟩ | ⟨g, cap, cur, rfl, _⟩
  · exact ⟨_, _, rfl⟩
  · exact ⟨_, _, rfl⟩
/-- The loop of the reference's Script. -/
structure RS (W wr : World) (q la lb : Nat) (A B : List Nat) (SC : List Pat) (i j : Nat) : Prop where
  ex : ∃ lv l op, PS wr W.heap.size q lv l j op ∧ LS A B SC l i j op
  bel : Below W.heap.size W wr
theorem RS.start (W : World) (A B : List Nat) (la lb : Nat) : RS W (W.alloc (.cells #[.slice none 0 0, .int .i64 0, .bool false] 46)) W.heap.size la lb A B (rest A B 0 0 0 0) 0 0 := by
  have g := heap_alloc_new W (.cells #[.slice none 0 0, .int .i64 0, .bool false] 46)
  refine ⟨⟨.slice none 0 0, [], false, ⟨(cell_of_row _ _ 0 _ _ _ g).trans rfl, (cell_of_row _ _ 1 _ _ _ g).trans rfl, (cell_of_row _ _ 2 _ _ _ g).trans rfl, ?_, World.ownsRow_nil _ _ _ _, by simp [Value.ownBlock], Nat.le_refl _⟩, LS.start A B⟩, (Below.refl _ _).alloc (Nat.le_refl _) _⟩
  intro i
  unfold World.frozen?
  dsimp only
  rw [g]
  simp
theorem RS.keep {W wr : World} {q la lb i j : Nat} {A B : List Nat} {SC : List Pat} (h : RS W wr q la lb A B SC i j) (hi : i < A.length) (hj : j < B.length) (hj2 : j ≤ 2000) (he : A.getD i 0 = B.getD j 0) :
    Calls Tryd.prog 19 #[.pointer (some ⟨q, 0, none⟩)] wr fun e w' => e = .returned (.tuple #[]) ∧ RS W w' q la lb A B SC (i + 1) (j + 1) := by
  obtain ⟨⟨lv, l, op, hp, hl⟩, hb⟩ := h
  refine (keep_any _ q wr lv l j op hp (by omega)).mono ?_
  rintro e w' ⟨rfl, b, ps⟩
  exact ⟨rfl, ⟨lv, l, false, ps, hl.same hi hj he⟩, hb.trans b⟩
theorem RS.away {W wr : World} {q la lb i j : Nat} {A B : List Nat} {SC : List Pat} (h : RS W wr q la lb A B SC i j) (hi : i < A.length) (hj : j ≤ B.length) (hA : A.length ≤ 2000) (hB : B.length ≤ 2000) (hc : j < B.length → ¬ A.getD i 0 = B.getD j 0 ∧ lc A B i (j + 1) ≤ lc A B (i + 1) j) :
    Calls Tryd.prog 20 #[.pointer (some ⟨q, 0, none⟩)] wr fun e w' => e = .returned (.tuple #[]) ∧ RS W w' q la lb A B SC (i + 1) j := by
  obtain ⟨⟨lv, l, op, hp, hl⟩, hb⟩ := h
  have hlen := hl.len
  obtain ⟨l0, p, ho, h1, h2, h3, h4⟩ := hl.opens (Nat.le_of_lt hi) hj
  refine (away_any _ q wr lv l l0 p j op hp (by omega) hl.pos ho (by omega)).mono ?_
  rintro e w' ⟨rfl, b, lv', ps⟩
  exact ⟨rfl, ⟨lv', _, true, ps, h3 hi hc⟩, hb.trans b⟩
theorem RS.into {W wr : World} {q la lb i j : Nat} {A B : List Nat} {SC : List Pat} (h : RS W wr q la lb A B SC i j) (hi : i ≤ A.length) (hj : j < B.length) (hA : A.length ≤ 2000) (hB : B.length ≤ 2000) (hc : i < A.length → ¬ A.getD i 0 = B.getD j 0 ∧ ¬ lc A B i (j + 1) ≤ lc A B (i + 1) j) :
    Calls Tryd.prog 21 #[.pointer (some ⟨q, 0, none⟩), .string (Utf8.encode ((B.getD j 0 : Nat) : Int))] wr fun e w' => e = .returned (.tuple #[]) ∧ RS W w' q la lb A B SC i (j + 1) := by
  obtain ⟨⟨lv, l, op, hp, hl⟩, hb⟩ := h
  have hlen := hl.len
  have hes := (encode_size ((B.getD j 0 : Nat) : Int)).2
  obtain ⟨l0, p, ho, h1, h2, h3, h4⟩ := hl.opens hi (Nat.le_of_lt hj)
  refine (in_any _ q wr lv l l0 p j op _ hp (by omega) hl.pos ho (by omega) (by omega)).mono ?_
  rintro e w' ⟨rfl, b, lv', ps⟩
  exact ⟨rfl, ⟨lv', _, true, ps, h4 hj hc⟩, hb.trans b⟩
theorem RS.drew {W wr : World} {q la lb i j : Nat} {A B : List Nat} {SC : List Pat} (h : RS W wr q la lb A B SC i j) (n : Nat) : RS W (wr.drewN n) q la lb A B SC i j := by
  obtain ⟨⟨lv, l, op, hp, hl⟩, hb⟩ := h
  exact ⟨⟨lv, l, op, ⟨hp.c0, hp.c1, hp.c2, hp.fz, hp.own, hp.sep, hp.bq⟩, hl⟩, below_drewN hb n⟩
theorem RS.fin {W wr : World} {q la lb i j : Nat} {A B : List Nat} {SC : List Pat} (h : RS W wr q la lb A B SC i j) (hi : i = A.length) (hj : j = B.length) : ∃ lv, wr.cell? ⟨q, 0, none⟩ = some lv ∧ wr.ownsRow W.heap.size 34 7 lv SC.length (pV SC) := by
  obtain ⟨⟨lv, l, op, hp, hl⟩, hb⟩ := h
  refine ⟨lv, hp.c0, ?_⟩
  rw [hl.fin hi hj]
  exact hp.own
end Go.Proofs.YtefoipjbbfcjhaaDoor
