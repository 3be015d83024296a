import Derived.Test.YtdajeabhhkgibaaP3
import Derived.Test.YtdajeabhhkgibaaHh
import Derived.Test.YtdajeabhhkgibaaHj
namespace Go.Proofs.Ytdajeabhhkgibaa
open Go.RowKit
set_option linter.unusedVariables false
set_option linter.unusedSimpArgs false

variable {N m fb fc gb gc ob : Nat} {w w1 w2 : World} {X : List (Option It)} {F G : List Value} {fv gv : Value}
/-- One more, apart from all others. -/
theorem Pl.push2 (h : Pl N w X F G fv gv) (t : It) (ht : ItAt N w t) (hf : ∀ k, blk t k → fv.ownBlock ≠ some k ∧ gv.ownBlock ≠ some k ∧ ∀ u, some u ∈ X → ¬ blk u k) : Pl N w (X ++ [some t]) F G fv gv := by
  refine ⟨h.nb, h.f, h.g, h.fg, ?_, ?_⟩
  · intro u hu
    rw [List.mem_append] at hu
    rcases hu with hu | hu
    · exact h.it u hu
    · simp at hu
      subst hu
      exact ⟨ht, fun k hk => ⟨(hf k hk).1, (hf k hk).2.1⟩⟩
  · have last : ∀ (a : Nat) (x : It), (X ++ [some t])[a]? = some (some x) → (a < X.length ∧ X[a]? = some (some x)) ∨ (a = X.length ∧ x = t) := fun a x ha => by
      rw [List.getElem?_append] at ha
      by_cases ea : a < X.length
      · rw [if_pos ea] at ha
        exact .inl ⟨ea, ha⟩
      · rw [if_neg ea] at ha
        have h1 := (List.getElem?_eq_some_iff.1 ha).1
        simp only [List.length_cons, List.length_nil] at h1
        have h0 : a - X.length = 0 := by omega
        rw [h0] at ha
        simp at ha
        exact .inr ⟨by omega, ha.symm⟩
    intro a b x y ha hb hab k hk1 hk2
    rcases last a x ha with ⟨la, xa⟩ | ⟨la, rfl⟩
    · rcases last b y hb with ⟨lb, xb⟩ | ⟨lb, rfl⟩
      · exact h.ap a b x y xa xb hab k hk1 hk2
      · exact (hf k hk2).2.2 x (List.mem_of_getElem? xa) hk1
    · rcases last b y hb with ⟨lb, xb⟩ | ⟨lb, rfl⟩
      · exact (hf k hk1).2.2 y (List.mem_of_getElem? xb) hk2
      · omega
/-- A filter of the program's that was made since. -/
structure Nf where
  q : Nat
  g : Nat
  bits : Nat
  p : Nat
  ws : Nat → Nat
def npt : Option Nf → Option Addr
  | none => none
  | some f => some ⟨f.q, 0, none⟩
structure NfAt (N : Nat) (w : World) (X : List (Option It)) (fv gv : Value) (f : Nf) : Prop where
  fw : FW w f.q f.g f.bits f.p f.ws
  wi : Within f.ws f.bits
  lt : ∀ i, f.ws i < 18446744073709551616
  ob : okB f.bits = true
  p1 : 1 ≤ f.p
  p2 : f.p ≤ 16
  lo : N ≤ f.q ∧ N ≤ f.g
  fr : ∀ k, k = f.q ∨ k = f.g → fv.ownBlock ≠ some k ∧ gv.ownBlock ≠ some k ∧ ∀ u, some u ∈ X → ¬ blk u k
def Mid (N : Nat) (w : World) (X : List (Option It)) (F G : List Value) (fv gv : Value) (y : Option Nf) : Prop := Pl N w X F G fv gv ∧ ∀ f, y = some f → NfAt N w X fv gv f
theorem Mid.below {y : Option Nf} (h : Mid N w X F G fv gv y) (hb : Below w.heap.size w w1) : Mid N w1 X F G fv gv y :=
  ⟨h.1.below hb, fun f hf => have a := h.2 f hf; ⟨a.fw.below hb, a.wi, a.lt, a.ob, a.p1, a.p2, a.lo, a.fr⟩⟩
theorem NfAt.size {f : Nf} (a : NfAt N w X fv gv f) {k : Nat} (hk : k = f.q ∨ k = f.g) : k < w.heap.size := by
  rcases hk with rfl | rfl
  · exact a.fw.fc.lt
  · exact a.fw.wr.lt
theorem Mid.appF {y : Option Nf} (h : Mid N w X F G fv gv y) {fv' : Value} {F' : List Value} (ho : K.OwnV w1 N 23 fv' F') (hg : w.grownBy w1 fv.ownBlock) (hb : fv'.ownBlock = fv.ownBlock ∨ fv'.ownBlock = some w.heap.size) : Mid N w1 X F' G fv' gv y := by
  refine ⟨h.1.appF ho hg hb, fun f hf => ?_⟩
  have a := h.2 f hf
  have k : ∀ k, k = f.q ∨ k = f.g → w1.heap[k]? = w.heap[k]? := fun k hk => hg.block k (a.size hk) (fun e => (a.fr k hk).1 e.symm)
  refine ⟨a.fw.of (k _ (.inl rfl)) (k _ (.inr rfl)), a.wi, a.lt, a.ob, a.p1, a.p2, a.lo, fun k hk => ⟨fun e => ?_, (a.fr k hk).2⟩⟩
  rcases hb with hb | hb
  · rw [hb] at e; exact (a.fr k hk).1 e
  · rw [hb] at e; cases e; have := a.size hk; omega
theorem mid_nil (h : Pl N w X F G fv gv) : Mid N w X F G fv gv none := ⟨h, fun f hf => by cases hf⟩
theorem mid_new (h : Pl N w X F G fv gv) (hb : Below w.heap.size w w1) (f : Nf) (fw : FW w1 f.q f.g f.bits f.p f.ws) (wi : Within f.ws f.bits) (lt : ∀ i, f.ws i < 18446744073709551616) (ob : okB f.bits = true) (p1 : 1 ≤ f.p) (p2 : f.p ≤ 16) (h1 : w.heap.size ≤ f.q) (h2 : w.heap.size ≤ f.g) : Mid N w1 X F G fv gv (some f) := by
  refine ⟨h.below hb, fun f' hf => ?_⟩
  cases hf
  have hn := h.nb
  refine ⟨fw, wi, lt, ob, p1, p2, ⟨by omega, by omega⟩, fun k hk => ?_⟩
  have hk2 : w.heap.size ≤ k := by omega
  exact ⟨fun e => by have := (World.ownsRow.lt h.f k e).2; omega, fun e => by have := (World.ownsRow.lt h.g k e).2; omega, fun u hu hb => by have := (h.it u hu).1.size k hb; omega⟩
theorem Mid.close {f : Nf} (h : Mid N w X F G fv gv (some f)) (hb : Below w.heap.size w w1) (q2 g2 : Nat) (hr : RW w1 q2 g2 f.bits f.p (bitAt f.ws)) (h3 : w.heap.size ≤ q2) (h4 : w.heap.size ≤ g2) : Pl N w1 (X ++ [some ⟨f.q, f.g, q2, g2, f.bits, f.p, f.ws⟩]) F G fv gv := by
  have a := h.2 f rfl
  have hn := h.1.nb
  have l1 := a.size (.inl rfl : f.q = f.q ∨ f.q = f.g)
  have l2 := a.size (.inr rfl : f.g = f.q ∨ f.g = f.g)
  refine (h.1.below hb).push2 _ ⟨a.fw.below hb, hr, a.wi, a.lt, a.ob, a.p1, a.p2, ?_, ⟨?_, ?_, ?_⟩⟩ ?_
  · rintro k (e | e | e | e) <;> (simp only at e; have := a.lo; omega)
  · show f.g ≠ q2; omega
  · show f.g ≠ g2; omega
  · show g2 ≠ f.q; omega
  · rintro k (e | e | e | e)
    · exact a.fr k (.inl e)
    · exact a.fr k (.inr e)
    all_goals
      simp only at e
      have hk2 : w.heap.size ≤ k := by omega
      exact ⟨fun e => by have := (World.ownsRow.lt h.1.f k e).2; omega, fun e => by have := (World.ownsRow.lt h.1.g k e).2; omega, fun u hu hb => by have := (h.1.it u hu).1.size k hb; omega⟩
/-- What a Fork of x is. -/
def Fk : Option It → Option Nf → Prop
  | none, none => True
  | some t, some f => f.bits = t.bits ∧ f.p = t.p ∧ f.ws = t.ws
  | _, _ => False
theorem fork_it (h : Pl N w X F G fv gv) (i : Nat) (x : Option It) (hi : X[i]? = some x) :
    ∃ px, fptr x = .pointer px ∧ Calls Try.prog 16 #[.pointer px] w fun e w1 => ∃ y, e = .returned (.pointer (npt y)) ∧ Mid N w1 X F G fv gv y ∧ Fk x y ∧ Below w.heap.size w w1 := by
  cases x with
  | none => exact ⟨none, rfl, (fork_nil w).mono fun e w' ⟨he, hw⟩ => ⟨none, he, by rw [hw]; exact mid_nil h, trivial, by rw [hw]; exact Below.refl _ _⟩⟩
  | some t =>
    have ht := (h.it t (List.mem_of_getElem? hi)).1
    obtain ⟨p0, p1, p2, p3⟩ := ht.pos
    refine ⟨_, rfl, (fork_any t.q t.g t.bits t.p t.ws w ht.fw p0 p1 ht.p2).mono fun e w' ⟨q, g, he, hf, hb, l1, l2⟩ => ⟨some ⟨q, g, t.bits, t.p, t.ws⟩, he, mid_new h hb ⟨q, g, t.bits, t.p, t.ws⟩ hf ht.wi ht.lt ht.ob ht.p1 ht.p2 l2 l1, ⟨rfl, rfl, rfl⟩, hb⟩⟩
theorem rfork_it {y : Option Nf} (h : Mid N w X F G fv gv y) (i : Nat) (x : Option It) (hi : X[i]? = some x) (hf : Fk x y) :
    ∃ py, gptr x = .pointer py ∧ Calls Try.prog 17 #[.pointer py] w fun e w1 => ∃ z p2, e = .returned (.pointer p2) ∧ gptr z = .pointer p2 ∧ fptr z = .pointer (npt y) ∧ Pl N w1 (X ++ [z]) F G fv gv ∧ Below w.heap.size w w1 := by
  cases x with
  | none =>
    cases y with
    | none => exact ⟨none, rfl, (rfork_nil w).mono fun e w' ⟨he, hw⟩ => ⟨none, none, he, rfl, rfl, by rw [hw]; exact h.1.pushNil, by rw [hw]; exact Below.refl _ _⟩⟩
    | some f => exact hf.elim
  | some t =>
    cases y with
    | none => exact hf.elim
    | some f =>
      have ht := (h.1.it t (List.mem_of_getElem? hi)).1
      obtain ⟨p0, p1, p2, p3⟩ := ht.pos
      obtain ⟨e1, e2, e3⟩ := hf
      refine ⟨_, rfl, (rfork_any t.q2 t.g2 t.bits t.p (bitAt t.ws) w ht.rw' p2 p1 p3 ht.p1 ht.p2).mono fun e w' ⟨q, g, he, hr, hb, l1, l2⟩ => ⟨_, _, he, rfl, rfl, h.close hb q g (by rw [e1, e2, e3]; exact hr) l2 l1, hb⟩⟩
/-- New on both sides. -/
theorem new_it (h : Pl N w X F G fv gv) (b p : Int) (hb : I64i b) (hp : I64i p) : ∃ r, ∃ P : Option Nf → Prop,
    (Calls Try.prog 18 #[.int .i64 b, .int .i64 p] w fun e w1 => ∃ y, e = .returned (.tuple #[.pointer (npt y), .int .i64 r]) ∧ Mid N w1 X F G fv gv y ∧ P y ∧ Below w.heap.size w w1) ∧
    ∀ W y, Mid N W X F G fv gv y → P y → Calls Try.prog 19 #[.int .i64 b, .int .i64 p] W fun e w1 => ∃ z p2, e = .returned (.tuple #[.pointer p2, .int .i64 r]) ∧ gptr z = .pointer p2 ∧ fptr z = .pointer (npt y) ∧ Pl N w1 (X ++ [z]) F G fv gv ∧ Below W.heap.size W w1 := by
  by_cases hk : okBi b = true ∧ okP p = true
  · have k1 := of_decide_eq_true hk.1
    have k2 := of_decide_eq_true hk.2
    obtain ⟨B, rfl⟩ : ∃ B : Nat, b = (B : Int) := ⟨b.toNat, by omega⟩
    obtain ⟨p', rfl⟩ : ∃ B : Nat, p = (B : Int) := ⟨p.toNat, by omega⟩
    have ok : okB B = true := decide_eq_true ⟨by omega, by omega, by omega⟩
    refine ⟨0, fun y => ∃ q g, y = some ⟨q, g, B, p', fun _ => 0⟩, (new_ok B p' w (by omega) (by omega) (by omega) (by omega) (by omega)).mono fun e w' ⟨he, h1, h2, h3, h4⟩ => ⟨some ⟨_, _, B, p', fun _ => 0⟩, he, mid_new h h3 ⟨w.heap.size + 1, w.heap.size, B, p', fun _ => 0⟩ ⟨h1, h2⟩ (within_zero _) (fun _ => by show 0 < _; omega) ok (by show 1 ≤ p'; omega) (by show p' ≤ 16; omega) (Nat.le_succ _) (Nat.le_refl _), ⟨_, _, rfl⟩, h3⟩, ?_⟩
    rintro W y hM ⟨q, g, rfl⟩
    refine (rnew_ok B p' W (by omega) (by omega) (by omega) (by omega) (by omega)).mono fun e w' ⟨he, h1, h2, h3⟩ => ⟨_, _, he, rfl, rfl, hM.close h2 (W.heap.size + 1) W.heap.size ?_ (Nat.le_succ _) (Nat.le_refl _), h2⟩
    have e0 : (fun _ => false) = bitAt (fun _ => 0) := funext fun n => (bit_zero n).symm
    rw [e0] at h1
    exact h1
  · refine ⟨2, fun y => y = none, (new_no b p w hb.1 hb.2 hp.1 hp.2 hk).mono fun e w' ⟨he, hw⟩ => ⟨none, he, by rw [hw]; exact mid_nil h, rfl, by rw [hw]; exact Below.refl _ _⟩, ?_⟩
    rintro W y hM rfl
    exact (rnew_noI b p W hb.1 hb.2 hp.1 hp.2 hk).mono fun e w' ⟨he, hw⟩ => ⟨none, none, he, rfl, rfl, by rw [hw]; exact hM.1.pushNil, by rw [hw]; exact Below.refl _ _⟩
/-- Of on both sides. -/
theorem of_it (h : Pl N w X F G fv gv) (a : Option Addr) (L : List (List UInt8)) (c : Nat) (hL : All32 L) (hn : L.length ≤ 4398046510976) (hl : Hl w a L) : ∃ P : Option Nf → Prop,
    (Calls Try.prog 9 #[.slice a L.length c] w fun e w1 => ∃ y, e = .returned (.pointer (npt y)) ∧ Mid N w1 X F G fv gv y ∧ P y ∧ Below w.heap.size w w1) ∧
    ∀ F' fv' W y a2 c2, Mid N W X F' G fv' gv y → P y → Hl W a2 L → Calls Try.prog 10 #[.slice a2 L.length c2] W fun e w1 => ∃ z p2, e = .returned (.pointer p2) ∧ gptr z = .pointer p2 ∧ fptr z = .pointer (npt y) ∧ Pl N w1 (X ++ [z]) F' G fv' gv ∧ Below W.heap.size W w1 := by
  obtain ⟨U, hU⟩ : ∃ U, (uMap L).length = U := ⟨_, rfl⟩
  refine ⟨fun y => ∃ q g, y = some ⟨q, g, ofB U, 7, addL _ (ofB_pos U) 7 (fun _ => 0) L⟩, (of_any a L c w hL (by omega) hl).mono fun e w' ⟨q, g, he, hf, hb⟩ => ?_, ?_⟩
  · rw [hU] at hf
    exact ⟨some ⟨q, g, _, _, _⟩, he, mid_new h hb ⟨q, g, _, _, _⟩ hf.fw (within_addL (ofB_pos U) 7 (within_zero _) L) (addL_lt (ofB_pos U) 7 (fun i => by omega) L) (okB_of U) (by show 1 ≤ 7; omega) (by show 7 ≤ 16; omega) hf.lq hf.lg, ⟨q, g, rfl⟩, hb⟩
  · rintro F' fv' W y a2 c2 hM ⟨q, g, rfl⟩ hl2
    have hr := rof_any a2 L c2 W hL hn hl2
    rw [hU] at hr
    exact hr.mono fun e w' ⟨q2, g2, he, h1, h2, l1, l2⟩ => ⟨_, _, he, rfl, rfl, hM.close h2 q2 g2 h1 l2 l1, h2⟩
/-- The last row grows: one more pair. -/
theorem Pl.done {z : Option It} {pf pg : Value} (h : Pl N w (X ++ [z]) (X.map fptr ++ [pf]) (X.map gptr ++ [pg]) fv gv) (e1 : fptr z = pf) (e2 : gptr z = pg) : Pl N w (X ++ [z]) ((X ++ [z]).map fptr) ((X ++ [z]).map gptr) fv gv := by
  rw [List.map_append, List.map_append]
  subst e1
  subst e2
  exact h
set_option maxRecDepth 100000 in
/-- Region 36 at whatever pair. -/
theorem plays36x (fb fc gb gc n i : Nat) (z : Option It) (a : Act) (w : World) (Q : Exit → Act → World → Prop) (hsz : a.tmps.size = 222)
    (t3 : a.tmps.getD 3 undef = .slice (some ⟨fb, 0, none⟩) n fc)
    (t4 : a.tmps.getD 4 undef = .slice (some ⟨gb, 0, none⟩) n gc)
    (t8 : a.tmps.getD 8 undef = .bool true)
    (t15 : a.tmps.getD 15 undef = .int .i64 (i : Int))
    (h0 : w.cell? ⟨fb, i, none⟩ = some (fptr z) ∧ w.cell? ⟨gb, i, none⟩ = some (gptr z)) (hi : i < n)
    (h : ∀ (p1 p2 : Option Addr) (bb : Bool) (a' : Act) (w' : World), w' = w.drew → a' = (((((((((((((((a).put (some 190) (.bool true)).put (some 191) (.bool false)).put (some 192) (.bool false)).put (some 193) (.slice (some ⟨fb, 0, none⟩) n fc)).put (some 194) (.int .i64 (i : Int))).put (some 195) (.pointer (some ⟨fb, i, none⟩))).put (some 196) (.pointer p1)).put (some 197) (.bool bb)).put (some 198) (.slice (some ⟨gb, 0, none⟩) n gc)).put (some 199) (.int .i64 (i : Int))).put (some 200) (.pointer (some ⟨gb, i, none⟩))).put (some 201) (.pointer p2)).put (some 202) (.bool bb)).put (some 203) (.bool false)).put (some 204) (.bool false) → Q .normal a' w') :
    (Code.region 36 plays36n_ops true).wp Try.prog Q a w := by
  cases z with
  | none => exact plays36n fb fc gb gc n i a w Q hsz t3 t4 t8 t15 h0 (fun W => index25 fb n fc i W hi) (fun W => index28 gb n gc i W hi) (fun a' w' => h none none true a' w')
  | some t => exact plays36s fb fc gb gc n i t.q t.q2 a w Q hsz t3 t4 t8 t15 h0 (fun W => index25 fb n fc i W hi) (fun W => index28 gb n gc i W hi) (fun a' w' => h _ _ false a' w')
end Go.Proofs.Ytdajeabhhkgibaa

namespace Go.Proofs.Ytdajeabhhkgibaa
open Go.RowKit
set_option linter.unusedVariables false
set_option linter.unusedSimpArgs false

variable {N m fb fc gb gc ob : Nat} {w0 w w1 w2 : World} {X : List (Option It)} {F G : List Value} {fv gv : Value}
theorem ownV_cell {e : TypeId} {b n c : Nat} {Y : List Value} (ho : K.OwnV w N e (.slice (some ⟨b, 0, none⟩) n c) Y) {i : Nat} {u : Value} (hu : Y[i]? = some u) : w.cell? ⟨b, i, none⟩ = some u := by
  rcases ho.2 with ⟨e1, h1⟩ | ⟨g, cap, cur, e1, hbg, hg, hnc, hcm, hcs, htake⟩
  · cases e1
  · simp only [Value.slice.injEq, Option.some.injEq, Addr.mk.injEq, and_true] at e1
    obtain ⟨rfl, _, rfl⟩ := e1
    rw [cell_of_row w _ i cur e (0, 0) hg]
    rw [← htake, List.getElem?_take] at hu
    split at hu
    · simpa using hu
    · cases hu
def LD (ob : Nat) (hh : List UInt8) (W : World) : Prop := (Instr.loadAt 30 (.pointer (some ⟨ob, 3, none⟩))).run Try.prog W = .ok (.agg (bs hh)) W
theorem ld_of {o : Opr} (h : OpB w ob o) (hl : o.hash.length = 32) : LD ob o.hash w := loadH w ob 3 o.hash hl h.hs
theorem OpB.st {o : Opr} (h : OpB w ob o) (s : St N fb gb ob w w1) : OpB w1 ob o := h.below (s.block ob (.inr (.inr (.inr rfl))))
theorem OpB.bel {o : Opr} (h : OpB w ob o) (s : Below w.heap.size w w1) (hl : ob < w.heap.size) : OpB w1 ob o := h.below (s.block ob hl)
theorem Cx.cells (h : Cx N m w X fb fc gb gc ob) {i : Nat} {x : Option It} (hi : X[i]? = some x) : w.cell? ⟨fb, i, none⟩ = some (fptr x) ∧ w.cell? ⟨gb, i, none⟩ = some (gptr x) :=
  ⟨ownV_cell h.pl.f (by rw [List.getElem?_map, hi]; rfl), ownV_cell h.pl.g (by rw [List.getElem?_map, hi]; rfl)⟩
/-- Add, as the two regions want it. -/
theorem add_pk (hb : Below N w0 w) (h : Cx N m w X fb fc gb gc ob) {o : Opr} (hO : OpB w ob o) (hl : o.hash.length = 32) (i : Nat) (x : Option It) (hi : X[i]? = some x) :
    ∃ px py, ∃ D : World → Prop, (w.drew.cell? ⟨fb, i, none⟩ = some (.pointer px) ∧ LD ob o.hash w.drew) ∧
      (Calls Try.prog 12 #[.pointer px, .agg (bs o.hash)] w.drew fun e w' => e = .returned (.tuple #[]) ∧ D w' ∧ (w'.cell? ⟨fb, i, none⟩ = some (.pointer px) ∧ LD ob o.hash w')) ∧
      ∀ W, D W → (W.drew.cell? ⟨gb, i, none⟩ = some (.pointer py) ∧ LD ob o.hash W.drew) ∧
        Calls Try.prog 13 #[.pointer py, .agg (bs o.hash)] W.drew fun e w' => e = .returned (.tuple #[]) ∧ (Again N m fb fc gb gc w' ∧ Below N w0 w') ∧ (w'.cell? ⟨gb, i, none⟩ = some (.pointer py) ∧ LD ob o.hash w') := by
  have bd : Below w.heap.size w w.drew := (Below.refl _ _).drew
  have h' := h.below bd
  have hO' := hO.bel bd h.obl
  obtain ⟨px, py, e1, e2, D1, CA, CB⟩ := add_it h' i x hi o.hash hl
  have cs := h'.cells hi
  rw [e1, e2] at cs
  refine ⟨px, py, fun W => D1 W ∧ St N fb gb ob w.drew W, ⟨cs.1, ld_of hO' hl⟩, CA.mono fun e w' ⟨he, hd, hs⟩ => ⟨he, ⟨hd, hs⟩, hs.cell (.inl rfl) cs.1, ld_of (hO'.st hs) hl⟩, fun W ⟨hd, hs⟩ => ?_⟩
  have bW : Below W.heap.size W W.drew := (Below.refl _ _).drew
  have zb := hs.size
  have zg := h'.fl
  have zo := h'.obl
  have c2 : W.drew.cell? ⟨gb, i, none⟩ = some (.pointer py) := (bW.cell (p := ⟨gb, i, none⟩) (by show gb < _; omega)).trans (hs.cell (.inr (.inl rfl)) cs.2)
  have o2 : OpB W.drew ob o := (hO'.st hs).bel bW (by omega)
  refine ⟨⟨c2, ld_of o2 hl⟩, (CB W W.drew hd bW).mono fun e w' ⟨he, ha, hs2⟩ => ⟨he, ⟨ha, ?_⟩, hs2.cell (.inr (.inl rfl)) c2, ld_of (o2.st hs2) hl⟩⟩
  exact hs2.toBelow ((hs.toBelow hb.drew).drew)
/-- Join, as its region wants it. -/
theorem join_pk (hb : Below N w0 w) (h : Cx N m w X fb fc gb gc ob) (i k : Nat) (x y : Option It) (hi : X[i]? = some x) (hk : X[k]? = some y) :
    ∃ px px2 py py2 r, ∃ D : World → Prop, (w.drew.cell? ⟨fb, i, none⟩ = some (.pointer px) ∧ w.drew.cell? ⟨fb, k, none⟩ = some (.pointer px2) ∧ w.drew.cell? ⟨gb, i, none⟩ = some (.pointer py) ∧ w.drew.cell? ⟨gb, k, none⟩ = some (.pointer py2)) ∧
      (Calls Try.prog 14 #[.pointer px, .pointer px2] w.drew fun e w' => e = .returned (.int .i64 r) ∧ D w' ∧ (w'.cell? ⟨fb, i, none⟩ = some (.pointer px) ∧ w'.cell? ⟨fb, k, none⟩ = some (.pointer px2) ∧ w'.cell? ⟨gb, i, none⟩ = some (.pointer py) ∧ w'.cell? ⟨gb, k, none⟩ = some (.pointer py2))) ∧
      ∀ W, D W → Calls Try.prog 15 #[.pointer py, .pointer py2] W fun e w' => e = .returned (.int .i64 r) ∧ (Again N m fb fc gb gc w' ∧ Below N w0 w') ∧ (w'.cell? ⟨fb, i, none⟩ = some (.pointer px) ∧ w'.cell? ⟨fb, k, none⟩ = some (.pointer px2) ∧ w'.cell? ⟨gb, i, none⟩ = some (.pointer py) ∧ w'.cell? ⟨gb, k, none⟩ = some (.pointer py2)) := by
  have bd : Below w.heap.size w w.drew := (Below.refl _ _).drew
  have h' := h.below bd
  obtain ⟨px, px2, py, py2, r, e1, e2, e3, e4, D1, CA, CB⟩ := join_it h' i k x y hi hk
  have c1 := h'.cells hi
  have c2 := h'.cells hk
  rw [e1, e2] at c1
  rw [e3, e4] at c2
  have key : ∀ W, St N fb gb ob w.drew W → W.cell? ⟨fb, i, none⟩ = some (.pointer px) ∧ W.cell? ⟨fb, k, none⟩ = some (.pointer px2) ∧ W.cell? ⟨gb, i, none⟩ = some (.pointer py) ∧ W.cell? ⟨gb, k, none⟩ = some (.pointer py2) := fun W s => ⟨s.cell (.inl rfl) c1.1, s.cell (.inl rfl) c2.1, s.cell (.inr (.inl rfl)) c1.2, s.cell (.inr (.inl rfl)) c2.2⟩
  exact ⟨px, px2, py, py2, r, fun W => D1 W ∧ St N fb gb ob w.drew W, ⟨c1.1, c2.1, c1.2, c2.2⟩, CA.mono fun e w' ⟨he, hd, hs⟩ => ⟨he, ⟨hd, hs⟩, key w' hs⟩, fun W ⟨hd, hs⟩ => (CB W hd).mono fun e w' ⟨he, ha, hs2⟩ => ⟨he, ⟨ha, (hs.trans hs2).toBelow hb.drew⟩, key w' (hs.trans hs2)⟩⟩
theorem info23x : (Try.prog.info? 23).map (fun i => (i.zero, i.size, i.bytes)) = some (some (.pointer none), 1, 8) := by kernel_rfl
theorem info26x : (Try.prog.info? 26).map (fun i => (i.zero, i.size, i.bytes)) = some (some (.pointer none), 1, 8) := by kernel_rfl
theorem own_shape {e : TypeId} {v : Value} {Y : List Value} (h : K.OwnV w N e v Y) (h0 : 0 < Y.length) : ∃ b c, v = .slice (some ⟨b, 0, none⟩) Y.length c := by
  rcases h.2 with ⟨e1, h1⟩ | ⟨g, cap, cur, e1, _⟩
  · omega
  · exact ⟨g, cap, e1⟩
/-- One more in the program's row. -/
theorem wpList_apF {ops : Array Oper} {rest : List Oper} {o : Oper} {a : Act} {w1 : World} {Q : Exit → Act → World → Prop} (hgd : o.guard = none) (s x : Operand) (ho : o.op = .call { callee := .builtin .append, args := #[s, x], argTypes := #[25, 25] }) (p : Option Addr)
    (hs : a.eval s = .slice (some ⟨fb, 0, none⟩) m fc) (hx : a.eval x = .slice (some ⟨w1.heap.size, 0, none⟩) 1 1) {y : Option Nf} (hM : Mid N w1 X F G (.slice (some ⟨fb, 0, none⟩) m fc) gv y) (hF : F.length = m) (hm : m ≤ 2000000000000)
    (h : ∀ fb' fc' w', Mid N w' X (F ++ [.pointer p]) G (.slice (some ⟨fb', 0, none⟩) (m + 1) fc') gv y → Below N w1 w' → Hid (w1.heap.size ≤ w'.heap.size ∧ (∀ k, k < w1.heap.size → k ≠ fb → w'.heap[k]? = w1.heap[k]?)) → wpList Try.prog ops Q rest (a.put o.dst (.slice (some ⟨fb', 0, none⟩) (m + 1) fc')) w') :
    wpList Try.prog ops Q (o :: rest) a (w1.alloc (.cells #[.pointer p] 23)) := by
  have be : Below w1.heap.size w1 (w1.alloc (.cells #[.pointer p] 23)) := (Below.refl _ _).alloc (Nat.le_refl _) _
  have hM1 := hM.below be
  refine K.wpList_appV hgd s x 25 23 (.pointer none) Try.underlying25 info23x rfl ho N _ F hs hM1.1.f (some ⟨w1.heap.size, 0, none⟩) 1 1 [.pointer p] hx rfl (K.vals_lit _ _ _) (by intro u hu; simp at hu; rw [hu]; rfl) (by simp; omega) hM1.1.nb ?_
  intro v' w' own gr hb
  obtain ⟨fb', fc', rfl⟩ := own_shape own (by simp)
  have hl : (F ++ [Value.pointer p]).length = m + 1 := by simp [hF]
  rw [hl] at own hb ⊢
  have k1 : ∀ k, k < w1.heap.size → k ≠ fb → w'.heap[k]? = w1.heap[k]? := fun k hk hn => (gr.block k (Nat.lt_of_lt_of_le hk be.size) (fun e => hn (by simpa [Value.ownBlock] using e))).trans (be.block k hk)
  have zz := Nat.le_trans be.size gr.size
  refine h fb' fc' w' (hM1.appF own gr hb) ⟨gr.os.trans be.os, gr.tape.trans be.tape, gr.output.trans be.output, zz, fun k hk => k1 k (by have := hM.1.nb; omega) (by have := (World.ownsRow.lt hM.1.f fb rfl).1; omega)⟩ ⟨zz, k1⟩
/-- One more in the document's. -/
theorem wpList_apG {ops : Array Oper} {rest : List Oper} {o : Oper} {a : Act} {w1 : World} {Q : Exit → Act → World → Prop} (hgd : o.guard = none) (s x : Operand) (ho : o.op = .call { callee := .builtin .append, args := #[s, x], argTypes := #[28, 28] }) (p : Option Addr)
    (hs : a.eval s = .slice (some ⟨gb, 0, none⟩) m gc) (hx : a.eval x = .slice (some ⟨w1.heap.size, 0, none⟩) 1 1) (hM : Pl N w1 X F G fv (.slice (some ⟨gb, 0, none⟩) m gc)) (hF : G.length = m) (hm : m ≤ 2000000000000)
    (h : ∀ gb' gc' w', Pl N w' X F (G ++ [.pointer p]) fv (.slice (some ⟨gb', 0, none⟩) (m + 1) gc') → Below N w1 w' → Hid (w1.heap.size ≤ w'.heap.size ∧ (∀ k, k < w1.heap.size → k ≠ gb → w'.heap[k]? = w1.heap[k]?)) → wpList Try.prog ops Q rest (a.put o.dst (.slice (some ⟨gb', 0, none⟩) (m + 1) gc')) w') :
    wpList Try.prog ops Q (o :: rest) a (w1.alloc (.cells #[.pointer p] 26)) := by
  have be : Below w1.heap.size w1 (w1.alloc (.cells #[.pointer p] 26)) := (Below.refl _ _).alloc (Nat.le_refl _) _
  have hM1 := hM.below be
  refine K.wpList_appV hgd s x 28 26 (.pointer none) Try.underlying28 info26x rfl ho N _ G hs hM1.g (some ⟨w1.heap.size, 0, none⟩) 1 1 [.pointer p] hx rfl (K.vals_lit _ _ _) (by intro u hu; simp at hu; rw [hu]; rfl) (by simp; omega) hM1.nb ?_
  intro v' w' own gr hb
  obtain ⟨fb', fc', rfl⟩ := own_shape own (by simp)
  have hl : (G ++ [Value.pointer p]).length = m + 1 := by simp [hF]
  rw [hl] at own hb ⊢
  have k1 : ∀ k, k < w1.heap.size → k ≠ gb → w'.heap[k]? = w1.heap[k]? := fun k hk hn => (gr.block k (Nat.lt_of_lt_of_le hk be.size) (fun e => hn (by simpa [Value.ownBlock] using e))).trans (be.block k hk)
  have zz := Nat.le_trans be.size gr.size
  refine h fb' fc' w' (hM1.appG own gr hb) ⟨gr.os.trans be.os, gr.tape.trans be.tape, gr.output.trans be.output, zz, fun k hk => k1 k (by have := hM.nb; omega) (by have := (World.ownsRow.lt hM.g gb rfl).1; omega)⟩ ⟨zz, k1⟩
set_option maxRecDepth 100000 in
theorem whichW_any (n : Int) (all : Nat) (w : World) (ha : 0 < all) (ha2 : all ≤ 1000000000000000000) :
    Calls Try.prog 11 #[.int .i64 n, .int .i64 (all : Int)] w fun e w' => e = .returned (.int .i64 (n % (all : Int))) ∧ w' = w := by
  have h1 := Int.emod_nonneg n (show (all : Int) ≠ 0 by omega)
  have h2 := Int.emod_lt_of_pos n (show 0 < (all : Int) by omega)
  have hz : ((all : Int) == 0) = false := by simp; omega
  have hz2 : ¬ (all : Int) = 0 := by omega
  have HR : Hid (n % (all : Int) = n % (all : Int)) := rfl
  rcases tmod_cases n (all : Int) (by omega) with ⟨c1, c2⟩ | ⟨c1, c2⟩
  · obtain ⟨R, hR⟩ : ∃ R, n % (all : Int) = R := ⟨_, rfl⟩
    rw [hR] at c2 h1 h2 ⊢
    clear hR HR
    rw [c2] at c1
    have c3 : ¬ R < 0 := by omega
    go_enter Try.func11, Try.ntmps11
    go_wp2
    go_ret
    exact ⟨rfl, rfl⟩
  · obtain ⟨R, hR⟩ : ∃ R, n % (all : Int) = R := ⟨_, rfl⟩
    rw [hR] at c2 h1 h2 ⊢
    clear hR HR
    go_enter Try.func11, Try.ntmps11
    go_wp2
    go_ret
    exact ⟨rfl, rfl⟩
end Go.Proofs.Ytdajeabhhkgibaa

namespace Go.Proofs.Ytdajeabhhkgibaa
open Go.RowKit
set_option linter.unusedVariables false
set_option linter.unusedSimpArgs false

set_option maxRecDepth 100000 in
set_option maxHeartbeats 1000000 in
theorem handH_any (a : Option Addr) (L : List (List UInt8)) (cap : Nat) (w : World) (hL : All32 L) (hn : L.length ≤ 4398046511104) (hl : Hl w a L) :
    Calls Try.prog 20 #[.slice a L.length cap] w fun e w' => e = .returned (.slice (some ⟨w.heap.size, 0, none⟩) L.length (L.length + 9)) ∧ Below w.heap.size w w' ∧ w.heap.size < w'.heap.size ∧
      Hs w' w.heap.size 0 (L ++ marks) ∧ w'.there w.heap.size 0 (32 * (L.length + 9)) := by
  obtain ⟨n, hnl⟩ : ∃ n, n = L.length := ⟨_, rfl⟩
  have hmk := make_hashes (n + 9) (by omega) w
  rw [show ((n + 9 : Nat) : Int) = (n : Int) + 9 by omega] at hmk
  have hP : (L ++ marks).length = n + 9 := by rw [List.length_append, marks_len, hnl]
  have hP32 : All32 (L ++ marks) := all32_app hL all32_marks
  have h0 : Hs (w.alloc (.cells (madeCells (bs z32) ((n + 9) * 32)) 30)) w.heap.size 0 (part (L ++ marks) (n + 9) 0) := by rw [part_zero]; exact hs_made w (n + 9) _
  have t0 := there_made w (n + 9) 30
  have HH0 : Hid (Hs (w.alloc (.cells (madeCells (bs z32) ((n + 9) * 32)) 30)) w.heap.size 0 (part (L ++ marks) (n + 9) 0)) := h0
  have HT0 : Hid ((w.alloc (.cells (madeCells (bs z32) ((n + 9) * 32)) 30)).there w.heap.size 0 (32 * (n + 9))) := t0
  clear h0 t0
  rw [← hnl] at hn ⊢
  have HN : Hid (n = L.length) := hnl
  have HPL : Hid ((L ++ marks).length = n + 9) := hP
  clear hnl hP
  go_enter Try.func20, Try.ntmps20
  go_wp2
  clear hmk
  go_loopw [4] (fun i wr => ∃ k : Nat, k ≤ n ∧ i = .int .i64 k ∧ Hid (Hs wr w.heap.size 0 (part (L ++ marks) (n + 9) k)) ∧ Hid (wr.there w.heap.size 0 (32 * (n + 9))) ∧ Below w.heap.size w wr ∧ w.heap.size < wr.heap.size) (fun i _ => n - (intOf i).toNat)
  case atStart => exact ⟨0, by omega, rfl, HH0, HT0, (Below.refl _ _).alloc (Nat.le_refl _) _, by simp⟩
  case round =>
    obtain ⟨k, hk, rfl, hs, ht, bel, hlt⟩ := hrel
    by_cases hkn : k < n
    · have hkL : k < L.length := by rw [← HN.out]; exact hkn
      obtain ⟨b, off, rfl, hsA⟩ := hl.at hkL
      obtain ⟨x, hx⟩ : ∃ x, L[k]? = some x := ⟨_, List.getElem?_eq_getElem hkL⟩
      have hx32 := hL.get hx
      have hbB : b < w.heap.size := hsA.lt hL (by omega)
      have HR : Hid (wr.rangeAt b (off + 32 * k) (hcs x)) := rangeAt_below (hsA k x hx) bel hbB
      have HX : Hid (Hs (wr.setCells w.heap.size (32 * k) (hcs x)) w.heap.size 0 (part (L ++ marks) (n + 9) (k + 1))) := by
        have := Hs.set hs.out (all32_part hP32 _ _) k x hx32 (by rw [part_len _ _ _ (by omega) HPL.out]; omega) (there_part ht.out (by omega))
        rw [Nat.zero_add] at this
        rwa [part_set _ _ _ (by omega) HPL.out x (by rw [List.getElem?_append_left hkL]; exact hx)] at this
      have ix1 := fun wx => indexH b off n cap k wx hkn
      have ix2 := fun wx => indexH w.heap.size 0 (n + 9) (n + 9) k wx (by omega)
      have HTH : Hid (wr.there w.heap.size (32 * k) 32) := (by have := there_part (m := 32) (i := 32 * k) ht.out (by omega); rwa [Nat.zero_add] at this : wr.there w.heap.size (32 * k) 32)
      clear hl hsA
      go_wp2_with (first
        | (refine wpList_load_mid rfl 30 _ rfl b (off + 32 * k) rfl (hcs x) _ HR.out Try.underlying30 rfl (by rw [hcs_len, hx32]; exact hsH) ?_; rw [hcs_arr])
        | (refine wpList_store_mid rfl 30 _ _ rfl w.heap.size (32 * k) (bs x) rfl rfl (by rw [bs_size, hx32]; exact HTH.out) (by rw [bs_size, hx32]; exact hsH) (bs_one _) ?_)
        | fail)
      go_roundw
      case rel => exact ⟨k + 1, by omega, by go_num, HX, World.there_setCells ht.out _ _ _, below_setCells bel (Nat.le_refl _) _ _, by rw [size_setCells]; exact hlt⟩
      case measure => simp [intOf]; omega
    · obtain rfl : k = n := by omega
      go_wp2
      go_loopw [5] (fun i wr => ∃ m : Nat, k ≤ m ∧ m ≤ k + 9 ∧ i = .int .i64 (m : Int) ∧ Hid (Hs wr w.heap.size 0 (part (L ++ marks) (k + 9) m)) ∧ Hid (wr.there w.heap.size 0 (32 * (k + 9))) ∧ Below w.heap.size w wr ∧ w.heap.size < wr.heap.size) (fun i _ => k + 9 - (intOf i).toNat)
      case atStart => exact ⟨k, by omega, by omega, rfl, hs, ht, bel, hlt⟩
      case round =>
        obtain ⟨m, hkm, hm9, rfl, hs, ht, bel, hlt⟩ := hrel
        by_cases hm : m < k + 9
        · obtain ⟨j, hj⟩ : ∃ j : Nat, m = k + j := ⟨m - k, by omega⟩
          have ej : (m : Int) - (k : Int) = (j : Int) := by omega
          have hj9 : j < 9 := by omega
          have HX : Hid (Hs (wr.setCells w.heap.size (32 * m) (hcs (mk j))) w.heap.size 0 (part (L ++ marks) (k + 9) (m + 1))) := by
            have := Hs.set hs.out (all32_part hP32 _ _) m (mk j) (mk_len j) (by rw [part_len _ _ _ (by omega) HPL.out]; omega) (there_part ht.out (by omega))
            rw [Nat.zero_add] at this
            rwa [part_set _ _ _ (by omega) HPL.out (mk j) (by rw [List.getElem?_append_right (by rw [← HN.out]; omega), ← HN.out, hj, Nat.add_sub_cancel_left]; exact marks_get j hj9)] at this
          have ix2 := fun wx => indexH w.heap.size 0 (k + 9) (k + 9) m wx hm
          have HTH : Hid (wr.there w.heap.size (32 * m) 32) := (by have := there_part (m := 32) (i := 32 * m) ht.out (by omega); rwa [Nat.zero_add] at this : wr.there w.heap.size (32 * m) 32)
          have hbu := built_mk j (by omega)
          have HMK : Hid ((mk j).length = 32) := mk_len j
          have HJ : Hid (m = k + j) := hj
          clear hj
          generalize mk j = x at *
          go_wp2_with (first
            | (refine wpList_build_is rfl 30 _ rfl [(0, .int .u8 160), (1, .int .u8 (j : Int))] (by first | kernel_rfl | simp) (bs x) hbu ?_)
            | (refine wpList_store_mid rfl 30 _ _ rfl w.heap.size (32 * m) (bs x) rfl rfl (by rw [bs_size, HMK.out]; exact HTH.out) (by rw [bs_size, HMK.out]; exact hsH) (bs_one _) ?_)
            | fail)
          go_roundw
          case rel => exact ⟨m + 1, by omega, by omega, by go_num, HX, World.there_setCells ht.out _ _ _, below_setCells bel (Nat.le_refl _) _ _, by rw [size_setCells]; exact hlt⟩
          case measure => simp [intOf]; omega
        · obtain rfl : m = k + 9 := by omega
          go_wp2
          go_ret
          refine ⟨rfl, bel, hlt, ?_, ht.out⟩
          have := hs.out
          rwa [part_all _ _ HPL.out] at this
end Go.Proofs.Ytdajeabhhkgibaa

namespace Go.Proofs.Ytdajeabhhkgibaa
open Go.RowKit
set_option linter.unusedVariables false
set_option linter.unusedSimpArgs false

theorem hs_app {w : World} {b off : Nat} {L M : List (List UInt8)} (h : Hs w b off (L ++ M)) : Hs w b off L := fun i x e => h i x (by rw [List.getElem?_append_left (List.getElem?_eq_some_iff.1 e).1]; exact e)

set_option maxRecDepth 100000 in
set_option maxHeartbeats 1000000 in
/-- What was handed in is as it was. -/
theorem keptH_any (g : Nat) (a2 : Option Addr) (L : List (List UInt8)) (c2 : Nat) (w : World) (hL : All32 L) (hb : L.length ≤ 4398046511104) (h1 : Hs w g 0 (L ++ marks)) (h2 : Hl w a2 L) :
    Calls Try.prog 21 #[.slice (some ⟨g, 0, none⟩) L.length (L.length + 9), .slice a2 L.length c2] w fun e w' => e = .returned (.bool true) ∧ ∃ m, w' = w.drewN m := by
  have HS0 := sameH_any (some ⟨g, 0, none⟩) a2 L L (L.length + 9) c2 w hL hL hb (.inr ⟨g, 0, rfl, hs_app h1⟩) h2
  simp only [decide_true] at HS0
  obtain ⟨n, hn⟩ : ∃ n, n = L.length := ⟨_, rfl⟩
  rw [← hn] at HS0 hb ⊢
  have HN : Hid (n = L.length) := hn
  have HS1 : Hid (Calls Try.prog 48 #[.slice (some ⟨g, 0, none⟩) n (n + 9), .slice a2 n c2] w fun e w' => e = .returned (.bool true) ∧ ∃ m, w' = w.drewN m) := HS0
  have H1 : Hid (Hs w g 0 (L ++ marks)) := h1
  clear hn HS0 h1
  go_enter Try.func21, Try.ntmps21
  go_wp2_with (go_at_call 48; refine HS1.out.mono ?_; rintro e w1 ⟨rfl, hw1⟩)
  have HW1 : Hid (∃ m, w1 = w.drewN m) := hw1
  clear hw1 HS1
  go_loopw [6] (fun i wr => ∃ m : Nat, n ≤ m ∧ m ≤ n + 9 ∧ i = .int .i64 m ∧ wr = w1) (fun i _ => n + 9 - (intOf i).toNat)
  case atStart => exact ⟨n, by omega, by omega, rfl, rfl⟩
  case round =>
    obtain ⟨m, hnm, hm9, rfl, rfl⟩ := hrel
    by_cases hm : m < n + 9
    · obtain ⟨j, hj⟩ : ∃ j : Nat, m = n + j := ⟨m - n, by omega⟩
      have ej : (m : Int) - (n : Int) = (j : Int) := by omega
      have hj9 : j < 9 := by omega
      have HR : Hid (wr.rangeAt g (32 * m) (hcs (mk j))) := (by
        obtain ⟨q, e⟩ := HW1.out
        rw [e]
        have := H1.out m (mk j) (by rw [List.getElem?_append_right (by rw [← HN.out]; omega), ← HN.out, hj, Nat.add_sub_cancel_left]; exact marks_get j hj9)
        rwa [Nat.zero_add] at this : wr.rangeAt g (32 * m) (hcs (mk j)))
      have ix := fun wx => indexH g 0 (n + 9) (n + 9) m wx hm
      have hbu := built_mk j (by omega)
      have HMK : Hid ((mk j).length = 32) := mk_len j
      have eqq := fun wx => eq23 (mk j) (mk j) (mk_len j) (mk_len j) wx
      simp only [decide_true] at eqq
      clear hj
      generalize mk j = x at *
      go_wp2_with (first
        | (refine wpList_build_is rfl 30 _ rfl [(0, .int .u8 160), (1, .int .u8 (j : Int))] (by first | kernel_rfl | simp) (bs x) hbu ?_)
        | (refine wpList_load_mid rfl 30 _ rfl g (32 * m) rfl (hcs x) _ HR.out Try.underlying30 rfl (by rw [hcs_len, HMK.out]; exact hsH) ?_; rw [hcs_arr])
        | fail)
      go_roundw
      case rel => exact ⟨m + 1, by omega, by omega, by go_num, by trivial⟩
      case measure => simp [intOf]; omega
    · obtain rfl : m = n + 9 := by omega
      go_wp2
      go_ret
      exact ⟨rfl, HW1.out⟩
end Go.Proofs.Ytdajeabhhkgibaa

namespace Go.Proofs.Ytdajeabhhkgibaa
open Go.RowKit
set_option linter.unusedVariables false
set_option linter.unusedSimpArgs false

theorem Hs.keep {w w' : World} {b off : Nat} {L : List (List UInt8)} (h : Hs w b off L) (e : w'.heap[b]? = w.heap[b]?) : Hs w' b off L := fun i x hx j v hj => (World.cell?_of_block (a := ⟨b, off + 32 * i + j, none⟩) e).trans (h i x hx j v hj)
theorem pl_cells {N m fb fc gb gc : Nat} {w : World} {X : List (Option It)} (h : Pl N w X (X.map fptr) (X.map gptr) (.slice (some ⟨fb, 0, none⟩) m fc) (.slice (some ⟨gb, 0, none⟩) m gc)) {i : Nat} {x : Option It} (hi : X[i]? = some x) : w.cell? ⟨fb, i, none⟩ = some (fptr x) ∧ w.cell? ⟨gb, i, none⟩ = some (gptr x) :=
  ⟨ownV_cell h.f (by rw [List.getElem?_map, hi]; rfl), ownV_cell h.g (by rw [List.getElem?_map, hi]; rfl)⟩
set_option maxRecDepth 100000 in
set_option maxHeartbeats 8000000 in
theorem plays_all (a : Option Addr) (O : List Opr) (n cap : Nat) (w : World) (hn : O.length = n) (hb : n ≤ 1466015503658) (hO : ∀ o ∈ O, OpOk w o) (hA : OpsAt w a O) :
    Calls Try.prog 3 #[.slice a n cap] w fun e w' => e = .returned (.bool true) ∧ Below w.heap.size w w' := by
  have C9 := Hid.mk' (of_any none [] 0 w (fun _ h => by cases h) (by simp) (hl_nil w none))
  have C10 : Hid (∀ W, Calls Try.prog 10 #[.slice none 0 0] W (ROf 0 [] W)) := fun W => rof_any none [] 0 W (fun _ h => by cases h) (by simp) (hl_nil W none)
  have HO := Hid.mk' hO
  have HA := Hid.mk' hA
  clear hO hA
  go_enter Try.func3, Try.ntmps3
  go_wp2_with (first
    | (go_at_call 9; refine C9.out.mono ?_)
    | fail)
  rintro e W1 ⟨q, g, rfl, f1, b1⟩
  have F1 := Hid.mk' f1
  have B1 := Hid.mk' b1
  clear f1 b1 C9
  go_wp2_with (first
    | (go_at_call 10; refine (C10.out _).mono ?_)
    | fail)
  rintro e W2 h2
  obtain ⟨q2, g2, rfl, r2, b2, l1, l2⟩ := h2
  obtain ⟨t, ht1, ht2, hp, hbe⟩ := pl_begin F1.out B1.out r2 b2 l1 l2
  obtain ⟨fb0, gb0, e1, e2, cells⟩ := hp.open (by simp) rfl
  simp only [Option.some.injEq, Addr.mk.injEq, and_true] at e1 e2
  have c0 := (cells 0 (some t) rfl).1
  rw [← e1] at c0
  simp only [fptr, ht1] at c0
  have HP := Hid.mk' hp
  have HB := Hid.mk' hbe
  clear hp hbe r2 b2 l1 l2 C10 F1 B1 ht1 ht2 cells e1 e2
  go_wp2
  generalize W2.alloc (.cells #[.pointer (some ⟨q2, 0, none⟩)] 26) = W3 at *
  generalize W1.heap.size = fb1 at *
  generalize W2.heap.size = gb1 at *
  go_loopw [3, 4, 27] (fun fv gv i wr => ∃ (k m : Nat) (X : List (Option It)) (fa : Option Addr) (fc : Nat) (ga : Option Addr) (gc : Nat), k ≤ n ∧ i = .int .i64 (k : Int) ∧ fv = .slice fa m fc ∧ gv = .slice ga m gc ∧ 0 < m ∧ m ≤ k + 1 ∧ Hid (X.length = m) ∧ Hid (Pl w.heap.size wr X (X.map fptr) (X.map gptr) (.slice fa m fc) (.slice ga m gc)) ∧ Hid (Below w.heap.size w wr)) (fun _ _ i _ => n - (intOf i).toNat)
  case atStart => exact ⟨0, 1, [some t], _, _, _, _, by omega, rfl, rfl, rfl, by omega, by omega, rfl, HP, HB⟩
  case round =>
    clear c0 HP HB
    obtain ⟨k, m, X, fa, fc, ga, gc, hk, rfl, rfl, rfl, hm0, hmk, HXL, HP, HB⟩ := hrel
    by_cases hkn : k < n
    · have hkn' : (k : Int) < (n : Int) := by omega
      obtain ⟨o, ho⟩ : ∃ o, O[k]? = some o := ⟨O[k]'(by omega), List.getElem?_eq_getElem _⟩
      have HOK := Hid.mk' (HO.out o (List.mem_of_getElem? ho))
      obtain ⟨b, off, rfl, hbw, hr⟩ : ∃ b off, a = some ⟨b, off, none⟩ ∧ b < w.heap.size ∧ ∀ i o, O[i]? = some o → w.rangeAt b (off + 38 * i) (opC o) := by
        rcases HA.out with e | h
        · rw [e] at ho; cases ho
        · exact h
      have HR := Hid.mk' (rangeAt_below (hr k o ho) HB.out hbw)
      have HL := Hid.mk' HOK.out.hl
      have ix := fun wx => index22 b off n cap k wx hkn
      obtain ⟨fb, gb, rfl, rfl, _⟩ := HP.out.open (by rw [HXL.out]; exact hm0) HXL.out
      obtain ⟨i, hi, him⟩ : ∃ i : Nat, o.which % (m : Int) = (i : Int) ∧ i < m := by
        have h1 := Int.emod_nonneg o.which (show (m : Int) ≠ 0 by omega)
        have h2 := Int.emod_lt_of_pos o.which (show 0 < (m : Int) by omega)
        exact ⟨(o.which % (m : Int)).toNat, by omega, by omega⟩
      obtain ⟨x, hx⟩ : ∃ x, X[i]? = some x := ⟨X[i]'(by rw [HXL.out]; exact him), List.getElem?_eq_getElem _⟩
      obtain ⟨Wb, hWb⟩ : ∃ Wb, wr.alloc (.cells (opC o).toArray 33) = Wb := ⟨_, rfl⟩
      have BX : Below wr.heap.size wr Wb := by rw [← hWb]; exact (Below.refl _ _).alloc (Nat.le_refl _) _
      have OB : OpB Wb wr.heap.size o := by rw [← hWb]; exact opB_new wr o HL.out
      have zb : wr.heap.size < Wb.heap.size := by rw [← hWb]; simp
      have HFW : Hid (fb < wr.heap.size ∧ gb < wr.heap.size) := ⟨(World.ownsRow.lt HP.out.f fb rfl).2, (World.ownsRow.lt HP.out.g gb rfl).2⟩
      have CX := Hid.mk' (show Cx w.heap.size m Wb X fb fc gb gc wr.heap.size from ⟨HP.out.below BX, HXL.out, zb, fun t ht kk hkk => Nat.ne_of_lt ((HP.out.it t ht).1.size kk hkk)⟩)
      have HBB : Hid (Below w.heap.size w Wb) := HB.out.trans (BX.mono HB.out.size)
      have HW : Hid (∀ W, Calls Try.prog 11 #[.int .i64 o.which, .int .i64 (m : Int)] W fun e w' => e = .returned (.int .i64 (i : Int)) ∧ w' = W) := fun W => by rw [← hi]; exact whichW_any o.which m W hm0 (by omega)
      have c1 := OB.c1
      have c0 := OB.c0
      have HOB := Hid.mk' OB
      have HWB := Hid.mk' hWb
      have HZB := Hid.mk' zb
      have HX := Hid.mk' hx
      clear OB BX hr ho hWb hi HB HP zb hx
      have HNO : Hid (fb ≠ wr.heap.size ∧ gb ≠ wr.heap.size) := ⟨Nat.ne_of_lt HFW.out.1, Nat.ne_of_lt HFW.out.2⟩
      have HBB0 : Hid (Below w.heap.size w Wb) := HBB
      by_cases k0 : o.kind = 0
      · rw [k0] at c0
        clear k0
        obtain ⟨px, py, D, h13, CA, CB⟩ := add_pk HBB.out CX.out HOB.out HL.out i x HX.out
        have H13 := Hid.mk' h13
        have HCA := Hid.mk' CA
        have HCB := Hid.mk' CB
        clear h13 CA CB
        go_upto_region 13 with (first
          | (with_reducible refine at_ld33 ?_; refine wpList_ld33 (.tmp 29) rfl rfl b (off + 38 * k) rfl o HL.out HR.out ?_)
          | (with_reducible refine at_al33 ?_; refine wpList_box33 (.tmp 30) 6 rfl rfl rfl rfl rfl rfl rfl o HL.out rfl rfl ?_; rw [HWB.out])
          | (go_at_call_of 11 (Value.int .i64 o.which); refine (HW.out _).mono ?_; rintro e W5 ⟨rfl, hw5⟩; rw [hw5]; clear hw5 W5)
          | fail)
        refine plays13 fb fc m i _ px o.hash D _ Wb _ rfl rfl rfl rfl H13.out (fun W => index25 fb m fc i W him) HCA.out ?_
        intro a6 W6 d6 hact
        subst hact
        obtain ⟨h14, CB6⟩ := HCB.out W6 d6
        have H14 := Hid.mk' h14
        have HCB6 := Hid.mk' CB6
        clear h14 CB6 d6 HCA HCB H13
        simp only [Act.put, List.setIfInBounds_toArray, List.set_cons_zero, List.set_cons_succ]
        go_upto_region 14 with fail
        refine plays14 gb gc m i _ py o.hash (fun W => Again w.heap.size m fb fc gb gc W ∧ Below w.heap.size w W) _ W6 _ rfl rfl rfl rfl H14.out (fun W => index28 gb m gc i W him) HCB6.out ?_
        rintro a7 W7 ⟨⟨X7, pl7, ln7⟩, bl7⟩ hact
        subst hact
        clear HCB6 H14
        simp only [Act.put, List.setIfInBounds_toArray, List.set_cons_zero, List.set_cons_succ]
        obtain ⟨M1, hM1⟩ : ∃ M1 : Nat, (m : Int) - 1 = (M1 : Int) := ⟨m - 1, by omega⟩
        obtain ⟨z9, hz9⟩ : ∃ z9, (X7)[M1]? = some z9 := ⟨(X7)[M1]'(by rw [ln7]; omega), List.getElem?_eq_getElem _⟩
        have cz := Hid.mk' (pl_cells pl7 hz9)
        have HP9 := Hid.mk' pl7
        have HB9 := Hid.mk' bl7
        have HL9 := Hid.mk' ln7
        clear pl7 hz9 bl7 ln7
        go_upto_region 36 with fail
        refine plays36x fb fc gb gc m M1 z9 _ W7 _ rfl rfl rfl rfl rfl cz.out (by omega) ?_
        intro p91 p92 bb9 a9 W9 hw9 hact
        subst hact
        have b9 : Below W7.heap.size W7 W9 := by rw [hw9]; exact (Below.refl _ _).drew
        have HP10 := Hid.mk' (HP9.out.below b9)
        have HB10 : Hid (Below w.heap.size w W9) := HB9.out.trans (b9.mono HB9.out.size)
        clear hw9 b9 cz HP9 HB9
        simp only [Act.put, List.setIfInBounds_toArray, List.set_cons_zero, List.set_cons_succ]
        go_wp2
        exact ⟨⟨k + 1, m, X7, _, _, _, _, by omega, by go_num, rfl, rfl, by omega, by omega, HL9, HP10, HB10⟩, by simp [intOf]; omega⟩
      by_cases k1 : o.kind = 1
      · rw [k1] at c0
        clear k0 k1
        obtain ⟨kk, hi2, hkm⟩ : ∃ i : Nat, o.other % (m : Int) = (i : Int) ∧ i < m := by
          have h1 := Int.emod_nonneg o.other (show (m : Int) ≠ 0 by omega)
          have h2 := Int.emod_lt_of_pos o.other (show 0 < (m : Int) by omega)
          exact ⟨(o.other % (m : Int)).toNat, by omega, by omega⟩
        have HW2 : Hid (∀ W, Calls Try.prog 11 #[.int .i64 o.other, .int .i64 (m : Int)] W fun e w' => e = .returned (.int .i64 (kk : Int)) ∧ w' = W) := fun W => by rw [← hi2]; exact whichW_any o.other m W hm0 (by omega)
        obtain ⟨y, hy⟩ : ∃ y, X[kk]? = some y := ⟨X[kk]'(by rw [HXL.out]; exact hkm), List.getElem?_eq_getElem _⟩
        obtain ⟨px, px2, py, py2, r, D, h17, CA, CB⟩ := join_pk HBB.out CX.out i kk x y HX.out hy
        have H17 := Hid.mk' h17
        have HCA := Hid.mk' CA
        have HCB := Hid.mk' CB
        have c2 := HOB.out.c2
        clear h17 CA CB hi2 hy
        go_upto_region 17 with (first
          | (with_reducible refine at_ld33 ?_; refine wpList_ld33 (.tmp 29) rfl rfl b (off + 38 * k) rfl o HL.out HR.out ?_)
          | (with_reducible refine at_al33 ?_; refine wpList_box33 (.tmp 30) 6 rfl rfl rfl rfl rfl rfl rfl o HL.out rfl rfl ?_; rw [HWB.out])
          | (go_at_call_of 11 (Value.int .i64 o.which); refine (HW.out _).mono ?_; rintro e W5 ⟨rfl, hw5⟩; rw [hw5]; clear hw5 W5)
          | (go_at_call_of 11 (Value.int .i64 o.other); refine (HW2.out _).mono ?_; rintro e W5 ⟨rfl, hw5⟩; rw [hw5]; clear hw5 W5)
          | fail)
        refine plays17 fb fc gb gc m i kk px px2 py py2 r D (fun W => Again w.heap.size m fb fc gb gc W ∧ Below w.heap.size w W) _ Wb _ rfl rfl rfl rfl rfl H17.out (fun W => index25 fb m fc i W him) (fun W => index25 fb m fc kk W hkm) (fun W => index28 gb m gc i W him) (fun W => index28 gb m gc kk W hkm) HCA.out HCB.out ?_
        rintro a7 W7 ⟨⟨X7, pl7, ln7⟩, bl7⟩ hact
        subst hact
        clear HCA HCB H17 HW2
        simp only [Act.put, List.setIfInBounds_toArray, List.set_cons_zero, List.set_cons_succ]
        obtain ⟨M1, hM1⟩ : ∃ M1 : Nat, (m : Int) - 1 = (M1 : Int) := ⟨m - 1, by omega⟩
        obtain ⟨z9, hz9⟩ : ∃ z9, (X7)[M1]? = some z9 := ⟨(X7)[M1]'(by rw [ln7]; omega), List.getElem?_eq_getElem _⟩
        have cz := Hid.mk' (pl_cells pl7 hz9)
        have HP9 := Hid.mk' pl7
        have HB9 := Hid.mk' bl7
        have HL9 := Hid.mk' ln7
        clear pl7 hz9 bl7 ln7
        go_upto_region 36 with fail
        refine plays36x fb fc gb gc m M1 z9 _ W7 _ rfl rfl rfl rfl rfl cz.out (by omega) ?_
        intro p91 p92 bb9 a9 W9 hw9 hact
        subst hact
        have b9 : Below W7.heap.size W7 W9 := by rw [hw9]; exact (Below.refl _ _).drew
        have HP10 := Hid.mk' (HP9.out.below b9)
        have HB10 : Hid (Below w.heap.size w W9) := HB9.out.trans (b9.mono HB9.out.size)
        clear hw9 b9 cz HP9 HB9
        simp only [Act.put, List.setIfInBounds_toArray, List.set_cons_zero, List.set_cons_succ]
        go_wp2
        exact ⟨⟨k + 1, m, X7, _, _, _, _, by omega, by go_num, rfl, rfl, by omega, by omega, HL9, HP10, HB10⟩, by simp [intOf]; omega⟩
      by_cases k2 : o.kind = 2
      · rw [k2] at c0
        clear k0 k1 k2
        obtain ⟨px, e1, CF⟩ := fork_it CX.out.pl i x HX.out
        have cF := (CX.out.cells HX.out).1
        rw [e1] at cF
        have HCF := Hid.mk' CF
        have ixf := fun wx => index25 fb m fc i wx him
        have ixg := fun wx => index28 gb m gc i wx him
        have hFl : Hid ((X.map fptr).length = m) := by show _ = _; rw [List.length_map]; exact HXL.out
        have hGl : Hid ((X.map gptr).length = m) := by show _ = _; rw [List.length_map]; exact HXL.out
        have hmb : m ≤ 2000000000000 := by omega
        clear CF e1
        go_wp2_with (first
          | (with_reducible refine at_ld33 ?_; refine wpList_ld33 (.tmp 29) rfl rfl b (off + 38 * k) rfl o HL.out HR.out ?_)
          | (with_reducible refine at_al33 ?_; refine wpList_box33 (.tmp 30) 6 rfl rfl rfl rfl rfl rfl rfl o HL.out rfl rfl ?_; rw [HWB.out])
          | (go_at_call_of 11 (Value.int .i64 o.which); refine (HW.out _).mono ?_; rintro e W5 ⟨rfl, hw5⟩; rw [hw5]; clear hw5 W5)
          | (go_at_call 16; refine HCF.out.mono ?_)
          | fail)
        rintro e W1 ⟨y, rfl, mid1, fk1, b1⟩
        have HM1 := Hid.mk' mid1
        have HF1 := Hid.mk' fk1
        have HB1 : Hid (Below w.heap.size w W1) := HBB.out.trans (b1.mono HBB.out.size)
        clear mid1 fk1 b1 HCF cF
        go_wp2_with (first
          | (at_builtin; refine wpList_apF rfl (.tmp 114) (.tmp 120) rfl (npt y) rfl rfl HM1.out hFl.out hmb ?_)
          | fail)
        intro fb1 fc1 W3 mid3 b3 _
        obtain ⟨py, e2, CR⟩ := rfork_it mid3 i x HX.out HF1.out
        have cG : W3.cell? ⟨gb, i, none⟩ = some (gptr x) := ownV_cell mid3.1.g (by rw [List.getElem?_map, HX.out]; rfl)
        rw [e2] at cG
        have HCR := Hid.mk' CR
        have HB3 : Hid (Below w.heap.size w W3) := HB1.out.trans b3
        clear CR e2 b3 mid3 HM1 HF1
        go_wp2_with (first
          | (go_at_call 17; refine HCR.out.mono ?_)
          | fail)
        rintro e W4 ⟨z, p2, rfl, ez1, ez2, pl4, b4⟩
        have HP4 := Hid.mk' pl4
        have HB4 : Hid (Below w.heap.size w W4) := HB3.out.trans (b4.mono HB3.out.size)
        have HE1 := Hid.mk' ez1
        have HE2 := Hid.mk' ez2
        clear pl4 b4 ez1 ez2 HCR cG
        go_wp2_with (first
          | (at_builtin; refine wpList_apG rfl (.tmp 122) (.tmp 128) rfl p2 rfl rfl HP4.out hGl.out hmb ?_)
          | fail)
        intro gb1 gc1 W6 pl6 b6 _
        have pl7 := pl6.done HE2.out HE1.out
        have bl7 : Below w.heap.size w W6 := HB4.out.trans b6
        clear pl6 b6 HE1 HE2 HP4 HB4 HB3 HB1
        have ln7 : (X ++ [z]).length = m + 1 := by rw [List.length_append, HXL.out]; rfl
        obtain ⟨z9, hz9⟩ : ∃ z9, (X ++ [z])[m]? = some z9 := ⟨(X ++ [z])[m]'(by rw [ln7]; omega), List.getElem?_eq_getElem _⟩
        have cz := Hid.mk' (pl_cells pl7 hz9)
        have HP9 := Hid.mk' pl7
        have HB9 := Hid.mk' bl7
        have HL9 := Hid.mk' ln7
        clear pl7 hz9 bl7 ln7
        go_upto_region 36 with fail
        refine plays36x fb1 fc1 gb1 gc1 (m + 1) m z9 _ W6 _ rfl rfl rfl rfl rfl cz.out (by omega) ?_
        intro p91 p92 bb9 a9 W9 hw9 hact
        subst hact
        have b9 : Below W6.heap.size W6 W9 := by rw [hw9]; exact (Below.refl _ _).drew
        have HP10 := Hid.mk' (HP9.out.below b9)
        have HB10 : Hid (Below w.heap.size w W9) := HB9.out.trans (b9.mono HB9.out.size)
        clear hw9 b9 cz HP9 HB9
        simp only [Act.put, List.setIfInBounds_toArray, List.set_cons_zero, List.set_cons_succ]
        go_wp2
        exact ⟨⟨k + 1, (m + 1), X ++ [z], _, _, _, _, by omega, by go_num, rfl, rfl, by omega, by omega, HL9, HP10, HB10⟩, by simp [intOf]; omega⟩
      by_cases k3 : o.kind = 3
      · rw [k3] at c0
        clear k0 k1 k2 k3
        obtain ⟨r, P, CF, CG⟩ := new_it CX.out.pl o.bits o.probes HOK.out.r3 HOK.out.r4
        have HCF := Hid.mk' CF
        have HCG := Hid.mk' CG
        have c35 := HOB.out.c35
        have c36 := HOB.out.c36
        have hFl : Hid ((X.map fptr).length = m) := by show _ = _; rw [List.length_map]; exact HXL.out
        have hGl : Hid ((X.map gptr).length = m) := by show _ = _; rw [List.length_map]; exact HXL.out
        have hmb : m ≤ 2000000000000 := by omega
        clear CF CG
        go_wp2_with (first
          | (with_reducible refine at_ld33 ?_; refine wpList_ld33 (.tmp 29) rfl rfl b (off + 38 * k) rfl o HL.out HR.out ?_)
          | (with_reducible refine at_al33 ?_; refine wpList_box33 (.tmp 30) 6 rfl rfl rfl rfl rfl rfl rfl o HL.out rfl rfl ?_; rw [HWB.out])
          | (go_at_call_of 11 (Value.int .i64 o.which); refine (HW.out _).mono ?_; rintro e W5 ⟨rfl, hw5⟩; rw [hw5]; clear hw5 W5)
          | (go_at_call 18; refine HCF.out.mono ?_)
          | fail)
        rintro e W1 ⟨y, rfl, mid1, py1, b1⟩
        have HCG1 := Hid.mk' (HCG.out W1 y mid1 py1)
        have HB1 : Hid (Below w.heap.size w W1) := HBB.out.trans (b1.mono HBB.out.size)
        have OB1 := HOB.out.bel b1 HZB.out
        replace c35 := OB1.c35
        replace c36 := OB1.c36
        clear mid1 py1 b1 HCF HCG OB1
        go_wp2_with (first
          | (go_at_call 19; refine HCG1.out.mono ?_)
          | fail)
        rintro e W2 ⟨z, p2, rfl, ez1, ez2, pl2, b2⟩
        have HM2 := Hid.mk' (mid_nil pl2)
        have HB2 : Hid (Below w.heap.size w W2) := HB1.out.trans (b2.mono HB1.out.size)
        have HE1 := Hid.mk' ez1
        have HE2 := Hid.mk' ez2
        clear pl2 b2 ez1 ez2 HCG1 c35 c36 HB1
        go_wp2_with (first
          | (at_builtin; refine wpList_apF rfl (.tmp 151) (.tmp 153) rfl (npt y) rfl rfl HM2.out hFl.out hmb ?_)
          | fail)
        intro fb1 fc1 W3 mid3 b3 _
        have HP3 := Hid.mk' mid3.1
        have HB3 : Hid (Below w.heap.size w W3) := HB2.out.trans b3
        clear mid3 b3 HM2 HB2
        go_wp2_with (first
          | (at_builtin; refine wpList_apG rfl (.tmp 155) (.tmp 157) rfl p2 rfl rfl HP3.out hGl.out hmb ?_)
          | fail)
        intro gb1 gc1 W6 pl6 b6 _
        have pl7 := pl6.done HE2.out HE1.out
        have bl7 : Below w.heap.size w W6 := HB3.out.trans b6
        clear pl6 b6 HE1 HE2 HP3 HB3
        have ln7 : (X ++ [z]).length = m + 1 := by rw [List.length_append, HXL.out]; rfl
        obtain ⟨z9, hz9⟩ : ∃ z9, (X ++ [z])[m]? = some z9 := ⟨(X ++ [z])[m]'(by rw [ln7]; omega), List.getElem?_eq_getElem _⟩
        have cz := Hid.mk' (pl_cells pl7 hz9)
        have HP9 := Hid.mk' pl7
        have HB9 := Hid.mk' bl7
        have HL9 := Hid.mk' ln7
        clear pl7 hz9 bl7 ln7
        go_upto_region 36 with fail
        refine plays36x fb1 fc1 gb1 gc1 (m + 1) m z9 _ W6 _ rfl rfl rfl rfl rfl cz.out (by omega) ?_
        intro p91 p92 bb9 a9 W9 hw9 hact
        subst hact
        have b9 : Below W6.heap.size W6 W9 := by rw [hw9]; exact (Below.refl _ _).drew
        have HP10 := Hid.mk' (HP9.out.below b9)
        have HB10 : Hid (Below w.heap.size w W9) := HB9.out.trans (b9.mono HB9.out.size)
        clear hw9 b9 cz HP9 HB9
        simp only [Act.put, List.setIfInBounds_toArray, List.set_cons_zero, List.set_cons_succ]
        go_wp2
        exact ⟨⟨k + 1, (m + 1), X ++ [z], _, _, _, _, by omega, by go_num, rfl, rfl, by omega, by omega, HL9, HP10, HB10⟩, by simp [intOf]; omega⟩
      by_cases k4 : o.kind = 4
      · rw [k4] at c0
        clear k0 k1 k2 k3 k4
        have hlb := HOK.out.at_.below HOK.out.all HBB0.out
        have HHH := Hid.mk' (handH_any o.la o.L o.lc Wb HOK.out.all (by have := HOK.out.few; omega) hlb)
        have c37 := HOB.out.c37
        have hFl : Hid ((X.map fptr).length = m) := by show _ = _; rw [List.length_map]; exact HXL.out
        have hGl : Hid ((X.map gptr).length = m) := by show _ = _; rw [List.length_map]; exact HXL.out
        have hmb : m ≤ 2000000000000 := by omega
        obtain ⟨nL, hnL⟩ : ∃ nL, o.L.length = nL := ⟨_, rfl⟩
        have HNL := Hid.mk' hnL
        rw [hnL] at c37 HHH
        clear hlb hnL
        go_wp2_with (first
          | (with_reducible refine at_ld33 ?_; refine wpList_ld33 (.tmp 29) rfl rfl b (off + 38 * k) rfl o HL.out HR.out ?_)
          | (with_reducible refine at_al33 ?_; refine wpList_box33 (.tmp 30) 6 rfl rfl rfl rfl rfl rfl rfl o HL.out rfl rfl ?_; rw [HWB.out])
          | (go_at_call_of 11 (Value.int .i64 o.which); refine (HW.out _).mono ?_; rintro e W5 ⟨rfl, hw5⟩; rw [hw5]; clear hw5 W5)
          | (go_at_call 20; refine HHH.out.mono ?_)
          | fail)
        rintro e W1 ⟨rfl, b1, z1, hs1, _⟩
        have pl1 := CX.out.pl.below b1
        obtain ⟨P, CF, CG⟩ := of_it pl1 (some ⟨Wb.heap.size, 0, none⟩) o.L (nL + 9) HOK.out.all HOK.out.few (.inr ⟨Wb.heap.size, 0, rfl, hs_app hs1⟩)
        have OB1 := HOB.out.bel b1 HZB.out
        have HCF := Hid.mk' CF
        have HCG := Hid.mk' CG
        rw [HNL.out] at HCF
        have HB1 : Hid (Below w.heap.size w W1) := HBB.out.trans (b1.mono HBB.out.size)
        have HS1 := Hid.mk' hs1
        have HO1 := Hid.mk' OB1
        have HZ1 := Hid.mk' z1
        have HFL := Hid.mk' CX.out.fl
        clear CF CG pl1 b1 z1 hs1 OB1 HHH c37
        go_wp2_with (first
          | (go_at_call 9; refine HCF.out.mono ?_)
          | fail)
        rintro e W2 ⟨y, rfl, mid2, py2, b2⟩
        have HM2 := Hid.mk' mid2
        have HP2 := Hid.mk' py2
        have HB2 : Hid (Below w.heap.size w W2) := HB1.out.trans (b2.mono HB1.out.size)
        have HS2 := Hid.mk' (HS1.out.below b2 HZ1.out)
        have HO2 := Hid.mk' (HO1.out.bel b2 (Nat.lt_trans HZB.out HZ1.out))
        have HZ2 : Hid (Wb.heap.size < W2.heap.size) := Nat.lt_of_lt_of_le HZ1.out b2.size
        clear mid2 py2 b2 HCF HS1 HO1 HZ1 HB1
        go_wp2_with (first
          | (at_builtin; refine wpList_apF rfl (.tmp 164) (.tmp 167) rfl (npt y) rfl rfl HM2.out hFl.out hmb ?_)
          | fail)
        intro fb1 fc1 W3 mid3 b3 hk3
        have HB3 : Hid (Below w.heap.size w W3) := HB2.out.trans b3
        have hl3 := HOK.out.at_.below HOK.out.all HB3.out
        have nfb : wr.heap.size ≠ fb := fun e => HNO.out.1 e.symm
        have ngb : wr.heap.size ≠ gb := fun e => HNO.out.2 e.symm
        have OB3 := HO2.out.below (hk3.out.2 _ (Nat.lt_trans HZB.out HZ2.out) nfb)
        have HS3 := Hid.mk' (HS2.out.keep (hk3.out.2 _ HZ2.out (fun e => by have := HFL.out.1; omega)))
        have HCG3 := Hid.mk' (HCG.out _ _ W3 y o.la o.lc mid3 HP2.out hl3)
        rw [HNL.out] at HCG3
        have c37 := OB3.c37
        rw [HNL.out] at c37
        have HO3 := Hid.mk' OB3
        have HZ3 : Hid (Wb.heap.size < W3.heap.size) := Nat.lt_of_lt_of_le HZ2.out hk3.out.1
        clear mid3 b3 hk3 HM2 HP2 HB2 HS2 HO2 HZ2 HCG OB3 hl3 nfb ngb
        go_wp2_with (first
          | (go_at_call 10; refine HCG3.out.mono ?_)
          | fail)
        rintro e W4 ⟨z, p2, rfl, ez1, ez2, pl4, b4⟩
        have HP4 := Hid.mk' pl4
        have HB4 : Hid (Below w.heap.size w W4) := HB3.out.trans (b4.mono HB3.out.size)
        have HE1 := Hid.mk' ez1
        have HE2 := Hid.mk' ez2
        have HS4 := Hid.mk' (HS3.out.below b4 HZ3.out)
        have HO4 := Hid.mk' (HO3.out.bel b4 (Nat.lt_trans HZB.out HZ3.out))
        have HZ4 : Hid (Wb.heap.size < W4.heap.size) := Nat.lt_of_lt_of_le HZ3.out b4.size
        clear pl4 b4 ez1 ez2 HCG3 c37 HS3 HO3 HZ3 HB3
        go_wp2_with (first
          | (at_builtin; refine wpList_apG rfl (.tmp 169) (.tmp 173) rfl p2 rfl rfl HP4.out hGl.out hmb ?_)
          | fail)
        intro gb1 gc1 W6 pl6 b6 hk6
        have pl6' := pl6.done HE2.out HE1.out
        have bl6 : Below w.heap.size w W6 := HB4.out.trans b6
        have hl6 := HOK.out.at_.below HOK.out.all bl6
        have OB6 := HO4.out.below (hk6.out.2 _ (Nat.lt_trans HZB.out HZ4.out) (fun e => HNO.out.2 e.symm))
        have HS6 := HS4.out.keep (hk6.out.2 _ HZ4.out (fun e => by have := HFL.out.2; omega))
        have HKP := Hid.mk' (keptH_any Wb.heap.size o.la o.L o.lc W6 HOK.out.all (by have := HOK.out.few; omega) HS6 hl6)
        rw [HNL.out] at HKP
        have c37 := OB6.c37
        rw [HNL.out] at c37
        have HPL6 := Hid.mk' pl6'
        have HBL6 := Hid.mk' bl6
        clear pl6 b6 HE1 HE2 HP4 HB4 hk6 pl6' bl6 hl6 OB6 HS6 HS4 HO4 HZ4
        go_wp2_with (first
          | (go_at_call 21; refine HKP.out.mono ?_)
          | fail)
        rintro e W7 ⟨rfl, n7, hw7⟩
        have b7 : Below W6.heap.size W6 W7 := by rw [hw7]; exact K.below_drewN (Below.refl _ _) n7
        have pl7 := HPL6.out.below b7
        have bl7 : Below w.heap.size w W7 := HBL6.out.trans (b7.mono HBL6.out.size)
        clear hw7 b7 HKP c37 HPL6 HBL6
        have ln7 : (X ++ [z]).length = m + 1 := by rw [List.length_append, HXL.out]; rfl
        obtain ⟨z9, hz9⟩ : ∃ z9, (X ++ [z])[m]? = some z9 := ⟨(X ++ [z])[m]'(by rw [ln7]; omega), List.getElem?_eq_getElem _⟩
        have cz := Hid.mk' (pl_cells pl7 hz9)
        have HP9 := Hid.mk' pl7
        have HB9 := Hid.mk' bl7
        have HL9 := Hid.mk' ln7
        clear pl7 hz9 bl7 ln7
        go_upto_region 36 with fail
        refine plays36x fb1 fc1 gb1 gc1 (m + 1) m z9 _ W7 _ rfl rfl rfl rfl rfl cz.out (by omega) ?_
        intro p91 p92 bb9 a9 W9 hw9 hact
        subst hact
        have b9 : Below W7.heap.size W7 W9 := by rw [hw9]; exact (Below.refl _ _).drew
        have HP10 := Hid.mk' (HP9.out.below b9)
        have HB10 : Hid (Below w.heap.size w W9) := HB9.out.trans (b9.mono HB9.out.size)
        clear hw9 b9 cz HP9 HB9
        simp only [Act.put, List.setIfInBounds_toArray, List.set_cons_zero, List.set_cons_succ]
        go_wp2
        exact ⟨⟨k + 1, (m + 1), X ++ [z], _, _, _, _, by omega, by go_num, rfl, rfl, by omega, by omega, HL9, HP10, HB10⟩, by simp [intOf]; omega⟩
      by_cases k5 : o.kind = 5
      · rw [k5] at c0
        clear k0 k1 k2 k3 k4 k5
        have HM2 := Hid.mk' (mid_nil CX.out.pl)
        have hFl : Hid ((X.map fptr).length = m) := by show _ = _; rw [List.length_map]; exact HXL.out
        have hGl : Hid ((X.map gptr).length = m) := by show _ = _; rw [List.length_map]; exact HXL.out
        have hmb : m ≤ 2000000000000 := by omega
        go_wp2_with (first
          | (with_reducible refine at_ld33 ?_; refine wpList_ld33 (.tmp 29) rfl rfl b (off + 38 * k) rfl o HL.out HR.out ?_)
          | (with_reducible refine at_al33 ?_; refine wpList_box33 (.tmp 30) 6 rfl rfl rfl rfl rfl rfl rfl o HL.out rfl rfl ?_; rw [HWB.out])
          | (go_at_call_of 11 (Value.int .i64 o.which); refine (HW.out _).mono ?_; rintro e W5 ⟨rfl, hw5⟩; rw [hw5]; clear hw5 W5)
          | (at_builtin; refine wpList_apF rfl (.tmp 181) (.tmp 182) rfl none rfl rfl HM2.out hFl.out hmb ?_)
          | fail)
        intro fb1 fc1 W3 mid3 b3 _
        have HP3 := Hid.mk' mid3.1.pushNil
        have HB3 : Hid (Below w.heap.size w W3) := HBB.out.trans b3
        clear mid3 b3 HM2
        go_wp2_with (first
          | (at_builtin; refine wpList_apG rfl (.tmp 184) (.tmp 185) rfl none rfl rfl HP3.out hGl.out hmb ?_)
          | fail)
        intro gb1 gc1 W6 pl6 b6 _
        have pl7 := pl6.done (z := none) rfl rfl
        have bl7 : Below w.heap.size w W6 := HB3.out.trans b6
        clear pl6 b6 HP3 HB3
        have ln7 : (X ++ [none]).length = m + 1 := by rw [List.length_append, HXL.out]; rfl
        obtain ⟨z9, hz9⟩ : ∃ z9, (X ++ [none])[m]? = some z9 := ⟨(X ++ [none])[m]'(by rw [ln7]; omega), List.getElem?_eq_getElem _⟩
        have cz := Hid.mk' (pl_cells pl7 hz9)
        have HP9 := Hid.mk' pl7
        have HB9 := Hid.mk' bl7
        have HL9 := Hid.mk' ln7
        clear pl7 hz9 bl7 ln7
        go_upto_region 36 with fail
        refine plays36x fb1 fc1 gb1 gc1 (m + 1) m z9 _ W6 _ rfl rfl rfl rfl rfl cz.out (by omega) ?_
        intro p91 p92 bb9 a9 W9 hw9 hact
        subst hact
        have b9 : Below W6.heap.size W6 W9 := by rw [hw9]; exact (Below.refl _ _).drew
        have HP10 := Hid.mk' (HP9.out.below b9)
        have HB10 : Hid (Below w.heap.size w W9) := HB9.out.trans (b9.mono HB9.out.size)
        clear hw9 b9 cz HP9 HB9
        simp only [Act.put, List.setIfInBounds_toArray, List.set_cons_zero, List.set_cons_succ]
        go_wp2
        exact ⟨⟨k + 1, (m + 1), X ++ [none], _, _, _, _, by omega, by go_num, rfl, rfl, by omega, by omega, HL9, HP10, HB10⟩, by simp [intOf]; omega⟩
      have q0 : (o.kind == 0) = false := by simpa using k0
      have q1 : (o.kind == 1) = false := by simpa using k1
      have q2 : (o.kind == 2) = false := by simpa using k2
      have q3 : (o.kind == 3) = false := by simpa using k3
      have q4 : (o.kind == 4) = false := by simpa using k4
      have q5 : (o.kind == 5) = false := by simpa using k5
      clear k0 k1 k2 k3 k4 k5
      obtain ⟨px, py, z, nS, lS, e1, e2, H22, H23, H25, H26, H24⟩ := has_it CX.out.pl i x HX.out o.hash HL.out
      have cs := CX.out.cells HX.out
      rw [e1, e2] at cs
      have L1 : Hid (∀ W, Below Wb.heap.size Wb W → W.cell? ⟨fb, i, none⟩ = some (.pointer px)) := fun W hW => (hW.cell (p := ⟨fb, i, none⟩) CX.out.fl.1).trans cs.1
      have L2 : Hid (∀ W, Below Wb.heap.size Wb W → W.cell? ⟨gb, i, none⟩ = some (.pointer py)) := fun W hW => (hW.cell (p := ⟨gb, i, none⟩) CX.out.fl.2).trans cs.2
      have L3 : Hid (∀ W, Below Wb.heap.size Wb W → LD wr.heap.size o.hash W) := fun W hW => ld_of (HOB.out.bel hW HZB.out) HL.out
      have K22 := Hid.mk' H22
      have K23 := Hid.mk' H23
      have K24 := Hid.mk' H24
      have K25 := Hid.mk' H25
      have K26 := Hid.mk' H26
      clear H22 H23 H24 H25 H26 cs e1 e2
      go_upto_region 11 with (first
        | (with_reducible refine at_ld33 ?_; refine wpList_ld33 (.tmp 29) rfl rfl b (off + 38 * k) rfl o HL.out HR.out ?_)
        | (with_reducible refine at_al33 ?_; refine wpList_box33 (.tmp 30) 6 rfl rfl rfl rfl rfl rfl rfl o HL.out rfl rfl ?_; rw [HWB.out])
        | (go_at_call_of 11 (Value.int .i64 o.which); refine (HW.out _).mono ?_; rintro e W5 ⟨rfl, hw5⟩; rw [hw5]; clear hw5 W5)
        | fail)
      refine plays11 Wb.heap.size Wb fb fc gb gc m i wr.heap.size nS px py z o.hash lS _ Wb _ rfl rfl rfl rfl rfl (Below.refl _ _).drew (fun W => index25 fb m fc i W him) (fun W => index28 gb m gc i W him) L1.out L2.out L3.out K22.out K23.out K25.out K26.out K24.out (fun W hW => hW.size) ?_
      intro s1 c1x s2 c2x a7 W7 b7 hact
      subst hact
      have pl7 := CX.out.pl.below b7
      have bl7 : Below w.heap.size w W7 := HBB.out.trans (b7.mono HBB.out.size)
      have ln7 := HXL.out
      clear L1 L2 L3 K22 K23 K24 K25 K26 b7
      simp only [Act.put, List.setIfInBounds_toArray, List.set_cons_zero, List.set_cons_succ]
      obtain ⟨M1, hM1⟩ : ∃ M1 : Nat, (m : Int) - 1 = (M1 : Int) := ⟨m - 1, by omega⟩
      obtain ⟨z9, hz9⟩ : ∃ z9, (X)[M1]? = some z9 := ⟨(X)[M1]'(by rw [ln7]; omega), List.getElem?_eq_getElem _⟩
      have cz := Hid.mk' (pl_cells pl7 hz9)
      have HP9 := Hid.mk' pl7
      have HB9 := Hid.mk' bl7
      have HL9 := Hid.mk' ln7
      clear pl7 hz9 bl7 ln7
      go_upto_region 36 with fail
      refine plays36x fb fc gb gc m M1 z9 _ W7 _ rfl rfl rfl rfl rfl cz.out (by omega) ?_
      intro p91 p92 bb9 a9 W9 hw9 hact
      subst hact
      have b9 : Below W7.heap.size W7 W9 := by rw [hw9]; exact (Below.refl _ _).drew
      have HP10 := Hid.mk' (HP9.out.below b9)
      have HB10 : Hid (Below w.heap.size w W9) := HB9.out.trans (b9.mono HB9.out.size)
      clear hw9 b9 cz HP9 HB9
      simp only [Act.put, List.setIfInBounds_toArray, List.set_cons_zero, List.set_cons_succ]
      go_wp2
      exact ⟨⟨k + 1, m, X, _, _, _, _, by omega, by go_num, rfl, rfl, by omega, by omega, HL9, HP10, HB10⟩, by simp [intOf]; omega⟩
    · have hkn' : ¬ (k : Int) < (n : Int) := by omega
      obtain ⟨fb, gb, rfl, rfl, cells⟩ := HP.out.open (by rw [HXL.out]; exact hm0) HXL.out
      have HC := Hid.mk' cells
      clear cells
      generalize hW : wr = W0 at *
      clear hW
      go_wp2
      go_loopw [16] (fun i wq => ∃ j : Nat, j ≤ m ∧ i = .int .i64 (j : Int) ∧ Hid (Below W0.heap.size W0 wq)) (fun i _ => m - (intOf i).toNat)
      case atStart => exact ⟨0, by omega, rfl, Below.refl _ _⟩
      case round =>
        obtain ⟨j, hj, rfl, HBj⟩ := hrel
        by_cases hjm : j < m
        · have hjm' : (j : Int) < (m : Int) := by omega
          obtain ⟨x, hx⟩ : ∃ x, X[j]? = some x := ⟨X[j]'(by rw [HXL.out]; exact hjm), List.getElem?_eq_getElem _⟩
          obtain ⟨px, py, e1, e2, ca⟩ := alike_it HP.out j x hx wr.drew HBj.out.drew
          have hcx := HC.out j x hx
          rw [e1, e2] at hcx
          have hcw : ∀ W, Below W0.heap.size W0 W → W.cell? ⟨fb, j, none⟩ = some (.pointer px) ∧ W.cell? ⟨gb, j, none⟩ = some (.pointer py) := fun W hW => ⟨(hW.cell (p := ⟨fb, j, none⟩) (World.block_lt_of_cell? _ _ hcx.1)).trans hcx.1, (hW.cell (p := ⟨gb, j, none⟩) (World.block_lt_of_cell? _ _ hcx.2)).trans hcx.2⟩
          have h0 := Hid.mk' (hcw wr.drew HBj.out.drew)
          have CA : Hid (Calls Try.prog 27 #[.pointer px, .pointer py] wr.drew fun e w' => e = .returned (.bool true) ∧ Below W0.heap.size W0 w' ∧ (w'.cell? ⟨fb, j, none⟩ = some (.pointer px) ∧ w'.cell? ⟨gb, j, none⟩ = some (.pointer py))) := ca.mono fun e w' ⟨he, hb⟩ => by
            have hbb : Below W0.heap.size W0 w' := HBj.out.drew.trans (hb.mono HBj.out.drew.size)
            exact ⟨he, hbb, hcw w' hbb⟩
          clear hcw hcx ca hx e1 e2 HC HP
          go_upto_region 42 with fail
          refine plays42 fb fc gb gc m j px py (fun W => Below W0.heap.size W0 W) _ wr _ rfl rfl rfl rfl h0.out (fun W => index25 fb m fc j W hjm) (fun W => index28 gb m gc j W hjm) CA.out ?_
          intro a' W5 b5 hact
          subst hact
          have B5 := Hid.mk' b5
          clear b5 CA h0
          simp only [Act.put, List.setIfInBounds_toArray, List.set_cons_zero, List.set_cons_succ]
          go_wp2
          exact ⟨⟨j + 1, by omega, by go_num, B5⟩, by simp [intOf]; omega⟩
        · have hjm' : ¬ (j : Int) < (m : Int) := by omega
          have HR : Hid (Below w.heap.size w wr) := HB.out.trans (HBj.out.mono HB.out.size)
          clear HBj HC
          go_wp2
          go_ret
          exact ⟨rfl, HR.out⟩
end Go.Proofs.Ytdajeabhhkgibaa

