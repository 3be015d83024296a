import Derived.Test.YtdajeabhhkgibaaP3
namespace Go.Proofs.Ytdajeabhhkgibaa
open Go.RowKit
set_option linter.unusedVariables false
set_option linter.unusedSimpArgs false

variable {N m fb fc gb gc ob : Nat} {w w1 w2 : World} {X : List (Option It)} {F G : List Value} {fv gv : Value}
/-- One more, apart from all others. -/
theorem Pl.push2 (h : Pl N w X F G fv gv) (t : It) (ht : ItAt N w t) (hf : ∀ k, blk t k → fv.ownBlock ≠ some k ∧ gv.ownBlock ≠ some k ∧ ∀ u, some u ∈ X → ¬ blk u k) : Pl N w (X ++ [some t]) F G fv gv := by
  refine ⟨h.nb, h.f, h.g, h.fg, ?_, ?_⟩
  · intro u hu
    rw [List.mem_append] at hu
    rcases hu with hu | hu
    · exact h.it u hu
    · simp at hu
      subst hu
      exact ⟨ht, fun k hk => ⟨(hf k hk).1, (hf k hk).2.1⟩⟩
  · have last : ∀ (a : Nat) (x : It), (X ++ [some t])[a]? = some (some x) → (a < X.length ∧ X[a]? = some (some x)) ∨ (a = X.length ∧ x = t) := fun a x ha => by
      rw [List.getElem?_append] at ha
      by_cases ea : a < X.length
      · rw [if_pos ea] at ha
        exact .inl ⟨ea, ha⟩
      · rw [if_neg ea] at ha
        have h1 := (List.getElem?_eq_some_iff.1 ha).1
        simp only [List.length_cons, List.length_nil] at h1
        have h0 : a - X.length = 0 := by omega
        rw [h0] at ha
        simp at ha
        exact .inr ⟨by omega, ha.symm⟩
    intro a b x y ha hb hab k hk1 hk2
    rcases last a x ha with ⟨la, xa⟩ | ⟨la, rfl⟩
    · rcases last b y hb with ⟨lb, xb⟩ | ⟨lb, rfl⟩
      · exact h.ap a b x y xa xb hab k hk1 hk2
      · exact (hf k hk2).2.2 x (List.mem_of_getElem? xa) hk1
    · rcases last b y hb with ⟨lb, xb⟩ | ⟨lb, rfl⟩
      · exact (hf k hk1).2.2 y (List.mem_of_getElem? xb) hk2
      · omega
/-- A filter of the program's that was made since. -/
structure Nf where
  q : Nat
  g : Nat
  bits : Nat
  p : Nat
  ws : Nat → Nat
def npt : Option Nf → Option Addr
  | none => none
  | some f => some ⟨f.q, 0, none⟩
structure NfAt (N : Nat) (w : World) (X : List (Option It)) (fv gv : Value) (f : Nf) : Prop where
  fw : FW w f.q f.g f.bits f.p f.ws
  wi : Within f.ws f.bits
  lt : ∀ i, f.ws i < 18446744073709551616
  ob : okB f.bits = true
  p1 : 1 ≤ f.p
  p2 : f.p ≤ 16
  lo : N ≤ f.q ∧ N ≤ f.g
  fr : ∀ k, k = f.q ∨ k = f.g → fv.ownBlock ≠ some k ∧ gv.ownBlock ≠ some k ∧ ∀ u, some u ∈ X → ¬ blk u k
def Mid (N : Nat) (w : World) (X : List (Option It)) (F G : List Value) (fv gv : Value) (y : Option Nf) : Prop := Pl N w X F G fv gv ∧ ∀ f, y = some f → NfAt N w X fv gv f
theorem Mid.below {y : Option Nf} (h : Mid N w X F G fv gv y) (hb : Below w.heap.size w w1) : Mid N w1 X F G fv gv y :=
  ⟨h.1.below hb, fun f hf => have a := h.2 f hf; ⟨a.fw.below hb, a.wi, a.lt, a.ob, a.p1, a.p2, a.lo, a.fr⟩⟩
theorem NfAt.size {f : Nf} (a : NfAt N w X fv gv f) {k : Nat} (hk : k = f.q ∨ k = f.g) : k < w.heap.size := by
  rcases hk with rfl | rfl
  · exact a.fw.fc.lt
  · exact a.fw.wr.lt
theorem Mid.appF {y : Option Nf} (h : Mid N w X F G fv gv y) {fv' : Value} {F' : List Value} (ho : K.OwnV w1 N 23 fv' F') (hg : w.grownBy w1 fv.ownBlock) (hb : fv'.ownBlock = fv.ownBlock ∨ fv'.ownBlock = some w.heap.size) : Mid N w1 X F' G fv' gv y := by
  refine ⟨h.1.appF ho hg hb, fun f hf => ?_⟩
  have a := h.2 f hf
  have k : ∀ k, k = f.q ∨ k = f.g → w1.heap[k]? = w.heap[k]? := fun k hk => hg.block k (a.size hk) (fun e => (a.fr k hk).1 e.symm)
  refine ⟨a.fw.of (k _ (.inl rfl)) (k _ (.inr rfl)), a.wi, a.lt, a.ob, a.p1, a.p2, a.lo, fun k hk => ⟨fun e => ?_, (a.fr k hk).2⟩⟩
  rcases hb with hb | hb
  · rw [hb] at e; exact (a.fr k hk).1 e
  · rw [hb] at e; cases e; have := a.size hk; omega
theorem mid_nil (h : Pl N w X F G fv gv) : Mid N w X F G fv gv none := ⟨h, fun f hf => by cases hf⟩
theorem mid_new (h : Pl N w X F G fv gv) (hb : Below w.heap.size w w1) (f : Nf) (fw : FW w1 f.q f.g f.bits f.p f.ws) (wi : Within f.ws f.bits) (lt : ∀ i, f.ws i < 18446744073709551616) (ob : okB f.bits = true) (p1 : 1 ≤ f.p) (p2 : f.p ≤ 16) (h1 : w.heap.size ≤ f.q) (h2 : w.heap.size ≤ f.g) : Mid N w1 X F G fv gv (some f) := by
  refine ⟨h.below hb, fun f' hf => ?_⟩
  cases hf
  have hn := h.nb
  refine ⟨fw, wi, lt, ob, p1, p2, ⟨by omega, by omega⟩, fun k hk => ?_⟩
  have hk2 : w.heap.size ≤ k := by omega
  exact ⟨fun e => by have := (World.ownsRow.lt h.f k e).2; omega, fun e => by have := (World.ownsRow.lt h.g k e).2; omega, fun u hu hb => by have := (h.it u hu).1.size k hb; omega⟩
theorem Mid.close {f : Nf} (h : Mid N w X F G fv gv (some f)) (hb : Below w.heap.size w w1) (q2 g2 : Nat) (hr : RW w1 q2 g2 f.bits f.p (bitAt f.ws)) (h3 : w.heap.size ≤ q2) (h4 : w.heap.size ≤ g2) : Pl N w1 (X ++ [some ⟨f.q, f.g, q2, g2, f.bits, f.p, f.ws⟩]) F G fv gv := by
  have a := h.2 f rfl
  have hn := h.1.nb
  have l1 := a.size (.inl rfl : f.q = f.q ∨ f.q = f.g)
  have l2 := a.size (.inr rfl : f.g = f.q ∨ f.g = f.g)
  refine (h.1.below hb).push2 _ ⟨a.fw.below hb, hr, a.wi, a.lt, a.ob, a.p1, a.p2, ?_, ⟨?_, ?_, ?_⟩⟩ ?_
  · rintro k (e | e | e | e) <;> (simp only at e; have := a.lo; omega)
  · show f.g ≠ q2; omega
  · show f.g ≠ g2; omega
  · show g2 ≠ f.q; omega
  · rintro k (e | e | e | e)
    · exact a.fr k (.inl e)
    · exact a.fr k (.inr e)
    all_goals
      simp only at e
      have hk2 : w.heap.size ≤ k := by omega
      exact ⟨fun e => by have := (World.ownsRow.lt h.1.f k e).2; omega, fun e => by have := (World.ownsRow.lt h.1.g k e).2; omega, fun u hu hb => by have := (h.1.it u hu).1.size k hb; omega⟩
/-- What a Fork of x is. -/
def Fk : Option It → Option Nf → Prop
  | none, none => True
  | some t, some f => f.bits = t.bits ∧ f.p = t.p ∧ f.ws = t.ws
  | _, _ => False
theorem fork_it (h : Pl N w X F G fv gv) (i : Nat) (x : Option It) (hi : X[i]? = some x) :
    ∃ px, fptr x = .pointer px ∧ Calls Try.prog 16 #[.pointer px] w fun e w1 => ∃ y, e = .returned (.pointer (npt y)) ∧ Mid N w1 X F G fv gv y ∧ Fk x y ∧ Below w.heap.size w w1 := by
  cases x with
  | none => exact ⟨none, rfl, (fork_nil w).mono fun e w' ⟨he, hw⟩ => ⟨none, he, by rw [hw]; exact mid_nil h, trivial, by rw [hw]; exact Below.refl _ _⟩⟩
  | some t =>
    have ht := (h.it t (List.mem_of_getElem? hi)).1
    obtain ⟨p0, p1, p2, p3⟩ := ht.pos
    refine ⟨_, rfl, (fork_any t.q t.g t.bits t.p t.ws w ht.fw p0 p1 ht.p2).mono fun e w' ⟨q, g, he, hf, hb, l1, l2⟩ => ⟨some ⟨q, g, t.bits, t.p, t.ws⟩, he, mid_new h hb ⟨q, g, t.bits, t.p, t.ws⟩ hf ht.wi ht.lt ht.ob ht.p1 ht.p2 l2 l1, ⟨rfl, rfl, rfl⟩, hb⟩⟩
theorem rfork_it {y : Option Nf} (h : Mid N w X F G fv gv y) (i : Nat) (x : Option It) (hi : X[i]? = some x) (hf : Fk x y) :
    ∃ py, gptr x = .pointer py ∧ Calls Try.prog 17 #[.pointer py] w fun e w1 => ∃ z p2, e = .returned (.pointer p2) ∧ gptr z = .pointer p2 ∧ fptr z = .pointer (npt y) ∧ Pl N w1 (X ++ [z]) F G fv gv ∧ Below w.heap.size w w1 := by
  cases x with
  | none =>
    cases y with
    | none => exact ⟨none, rfl, (rfork_nil w).mono fun e w' ⟨he, hw⟩ => ⟨none, none, he, rfl, rfl, by rw [hw]; exact h.1.pushNil, by rw [hw]; exact Below.refl _ _⟩⟩
    | some f => exact hf.elim
  | some t =>
    cases y with
    | none => exact hf.elim
    | some f =>
      have ht := (h.1.it t (List.mem_of_getElem? hi)).1
      obtain ⟨p0, p1, p2, p3⟩ := ht.pos
      obtain ⟨e1, e2, e3⟩ := hf
      refine ⟨_, rfl, (rfork_any t.q2 t.g2 t.bits t.p (bitAt t.ws) w ht.rw' p2 p1 p3 ht.p1 ht.p2).mono fun e w' ⟨q, g, he, hr, hb, l1, l2⟩ => ⟨_, _, he, rfl, rfl, h.close hb q g (by rw [e1, e2, e3]; exact hr) l2 l1, hb⟩⟩
/-- New on both sides. -/
theorem new_it (h : Pl N w X F G fv gv) (b p : Int) (hb : I64i b) (hp : I64i p) : ∃ r, ∃ P : Option Nf → Prop,
    (Calls Try.prog 18 #[.int .i64 b, .int .i64 p] w fun e w1 => ∃ y, e = .returned (.tuple #[.pointer (npt y), .int .i64 r]) ∧ Mid N w1 X F G fv gv y ∧ P y ∧ Below w.heap.size w w1) ∧
    ∀ W y, Mid N W X F G fv gv y → P y → Calls Try.prog 19 #[.int .i64 b, .int .i64 p] W fun e w1 => ∃ z p2, e = .returned (.tuple #[.pointer p2, .int .i64 r]) ∧ gptr z = .pointer p2 ∧ fptr z = .pointer (npt y) ∧ Pl N w1 (X ++ [z]) F G fv gv ∧ Below W.heap.size W w1 := by
  by_cases hk : okBi b = true ∧ okP p = true
  · have k1 := of_decide_eq_true hk.1
    have k2 := of_decide_eq_true hk.2
    obtain ⟨B, rfl⟩ : ∃ B : Nat, b = (B : Int) := ⟨b.toNat, by omega⟩
    obtain ⟨p', rfl⟩ : ∃ B : Nat, p = (B : Int) := ⟨p.toNat, by omega⟩
    have ok : okB B = true := decide_eq_true ⟨by omega, by omega, by omega⟩
    refine ⟨0, fun y => ∃ q g, y = some ⟨q, g, B, p', fun _ => 0⟩, (new_ok B p' w (by omega) (by omega) (by omega) (by omega) (by omega)).mono fun e w' ⟨he, h1, h2, h3, h4⟩ => ⟨some ⟨_, _, B, p', fun _ => 0⟩, he, mid_new h h3 ⟨w.heap.size + 1, w.heap.size, B, p', fun _ => 0⟩ ⟨h1, h2⟩ (within_zero _) (fun _ => by show 0 < _; omega) ok (by show 1 ≤ p'; omega) (by show p' ≤ 16; omega) (Nat.le_succ _) (Nat.le_refl _), ⟨_, _, rfl⟩, h3⟩, ?_⟩
    rintro W y hM ⟨q, g, rfl⟩
    refine (rnew_ok B p' W (by omega) (by omega) (by omega) (by omega) (by omega)).mono fun e w' ⟨he, h1, h2, h3⟩ => ⟨_, _, he, rfl, rfl, hM.close h2 (W.heap.size + 1) W.heap.size ?_ (Nat.le_succ _) (Nat.le_refl _), h2⟩
    have e0 : (fun _ => false) = bitAt (fun _ => 0) := funext fun n => (bit_zero n).symm
    rw [e0] at h1
    exact h1
  · refine ⟨2, fun y => y = none, (new_no b p w hb.1 hb.2 hp.1 hp.2 hk).mono fun e w' ⟨he, hw⟩ => ⟨none, he, by rw [hw]; exact mid_nil h, rfl, by rw [hw]; exact Below.refl _ _⟩, ?_⟩
    rintro W y hM rfl
    exact (rnew_noI b p W hb.1 hb.2 hp.1 hp.2 hk).mono fun e w' ⟨he, hw⟩ => ⟨none, none, he, rfl, rfl, by rw [hw]; exact hM.1.pushNil, by rw [hw]; exact Below.refl _ _⟩
/-- Of on both sides. -/
theorem of_it (h : Pl N w X F G fv gv) (a : Option Addr) (L : List (List UInt8)) (c : Nat) (hL : All32 L) (hn : L.length ≤ 4398046510976) (hl : Hl w a L) : ∃ P : Option Nf → Prop,
    (Calls Try.prog 9 #[.slice a L.length c] w fun e w1 => ∃ y, e = .returned (.pointer (npt y)) ∧ Mid N w1 X F G fv gv y ∧ P y ∧ Below w.heap.size w w1) ∧
    ∀ F' fv' W y a2 c2, Mid N W X F' G fv' gv y → P y → Hl W a2 L → Calls Try.prog 10 #[.slice a2 L.length c2] W fun e w1 => ∃ z p2, e = .returned (.pointer p2) ∧ gptr z = .pointer p2 ∧ fptr z = .pointer (npt y) ∧ Pl N w1 (X ++ [z]) F' G fv' gv ∧ Below W.heap.size W w1 := by
  obtain ⟨U, hU⟩ : ∃ U, (uMap L).length = U := ⟨_, rfl⟩
  refine ⟨fun y => ∃ q g, y = some ⟨q, g, ofB U, 7, addL _ (ofB_pos U) 7 (fun _ => 0) L⟩, (of_any a L c w hL (by omega) hl).mono fun e w' ⟨q, g, he, hf, hb⟩ => ?_, ?_⟩
  · rw [hU] at hf
    exact ⟨some ⟨q, g, _, _, _⟩, he, mid_new h hb ⟨q, g, _, _, _⟩ hf.fw (within_addL (ofB_pos U) 7 (within_zero _) L) (addL_lt (ofB_pos U) 7 (fun i => by omega) L) (okB_of U) (by show 1 ≤ 7; omega) (by show 7 ≤ 16; omega) hf.lq hf.lg, ⟨q, g, rfl⟩, hb⟩
  · rintro F' fv' W y a2 c2 hM ⟨q, g, rfl⟩ hl2
    have hr := rof_any a2 L c2 W hL hn hl2
    rw [hU] at hr
    exact hr.mono fun e w' ⟨q2, g2, he, h1, h2, l1, l2⟩ => ⟨_, _, he, rfl, rfl, hM.close h2 q2 g2 h1 l2 l1, h2⟩
/-- The last row grows: one more pair. -/
theorem Pl.done {z : Option It} {pf pg : Value} (h : Pl N w (X ++ [z]) (X.map fptr ++ [pf]) (X.map gptr ++ [pg]) fv gv) (e1 : fptr z = pf) (e2 : gptr z = pg) : Pl N w (X ++ [z]) ((X ++ [z]).map fptr) ((X ++ [z]).map gptr) fv gv := by
  rw [List.map_append, List.map_append]
  subst e1
  subst e2
  exact h
set_option maxRecDepth 100000 in
/-- Region 36 at whatever pair. -/
theorem plays36x (fb fc gb gc n i : Nat) (z : Option It) (a : Act) (w : World) (Q : Exit → Act → World → Prop) (hsz : a.tmps.size = 222)
    (t3 : a.tmps.getD 3 undef = .slice (some ⟨fb, 0, none⟩) n fc)
    (t4 : a.tmps.getD 4 undef = .slice (some ⟨gb, 0, none⟩) n gc)
    (t8 : a.tmps.getD 8 undef = .bool true)
    (t15 : a.tmps.getD 15 undef = .int .i64 (i : Int))
    (h0 : w.cell? ⟨fb, i, none⟩ = some (fptr z) ∧ w.cell? ⟨gb, i, none⟩ = some (gptr z)) (hi : i < n)
    (h : ∀ (p1 p2 : Option Addr) (bb : Bool) (a' : Act) (w' : World), w' = w.drew → a' = (((((((((((((((a).put (some 190) (.bool true)).put (some 191) (.bool false)).put (some 192) (.bool false)).put (some 193) (.slice (some ⟨fb, 0, none⟩) n fc)).put (some 194) (.int .i64 (i : Int))).put (some 195) (.pointer (some ⟨fb, i, none⟩))).put (some 196) (.pointer p1)).put (some 197) (.bool bb)).put (some 198) (.slice (some ⟨gb, 0, none⟩) n gc)).put (some 199) (.int .i64 (i : Int))).put (some 200) (.pointer (some ⟨gb, i, none⟩))).put (some 201) (.pointer p2)).put (some 202) (.bool bb)).put (some 203) (.bool false)).put (some 204) (.bool false) → Q .normal a' w') :
    (Code.region 36 plays36n_ops true).wp Try.prog Q a w := by
  cases z with
  | none => exact plays36n fb fc gb gc n i a w Q hsz t3 t4 t8 t15 h0 (fun W => index25 fb n fc i W hi) (fun W => index28 gb n gc i W hi) (fun a' w' => h none none true a' w')
  | some t => exact plays36s fb fc gb gc n i t.q t.q2 a w Q hsz t3 t4 t8 t15 h0 (fun W => index25 fb n fc i W hi) (fun W => index28 gb n gc i W hi) (fun a' w' => h _ _ false a' w')
end Go.Proofs.Ytdajeabhhkgibaa

namespace Go.Proofs.Ytdajeabhhkgibaa
open Go.RowKit B
set_option linter.unusedVariables false
set_option linter.unusedSimpArgs false

def upV (V : Nat → Lst) (k : Nat) (l : Lst) : Nat → Lst := fun i => if i = k then l else V i
def upL (L : Nat → List Value) (k : Nat) (l : List Value) : Nat → List Value := fun i => if i = k then l else L i
theorem up_rows (V : Nat → Lst) (k : Nat) (l : Lst) : (List.range (k + 1)).map (fun i => (upV V k l i).v) = (List.range k).map (fun i => (V i).v) ++ [l.v] := by
  rw [List.range_succ, List.map_append]
  congr 1
  · apply List.map_congr_left
    intro i hi
    have := List.mem_range.1 hi
    simp only [upV]
    rw [if_neg (by omega)]
  · simp [upV]
/-- What a Take of a list that was made since does to the lists. -/
theorem Lists.push {w w1 w2 : World} {q e k t : Nat} {V : Nat → Lst} {L : Nat → List Value} {all : Value} {C : Array Value} {rws : List Value} (h : Lists w q e k V L) (b1 : Below w.heap.size w w1) (hqs : q ≤ w.heap.size) (hq1 : w1.heap[q]? = some (.cells C 84 (0, 0))) (hr : w1.ownsRow q t 1 all k rws) (tk : Tk q all.ownBlock w1 w2) (he : (84 : Nat) ≠ e) (ht : t ≠ e)
    (l : Lst) (E : List Value) (ow : w1.ownsRow w.heap.size e 1 l.v l.n E) (few : l.n ≤ 4398046510976) : Lists w2 q e (k + 1) (upV V k l) (upL L k E) := by
  have h1 : Lists w1 q e k V L := h.keep (fun i hi b eb => b1.block b (World.ownsRow.lt (h.ow i hi) b eb).2)
  have kp : ∀ {v : Value} {n base : Nat} {xs : List Value}, w1.ownsRow base e 1 v n xs → w2.ownsRow base e 1 v n xs := fun {v n base xs} o => by
    refine ⟨o.1, ?_⟩
    rcases o.2 with hn | ⟨g, cap, cur, e1, hbg, hg, rest⟩
    · exact .inl hn
    · refine .inr ⟨g, cap, cur, e1, hbg, ?_, rest⟩
      rw [tk.block g (Array.getElem?_eq_some_iff.1 hg).1 (fun eq => ty_ne hq1 o he (by rw [e1, ← eq]; rfl)) (fun eq => by
        obtain ⟨C2, hC2⟩ := own_ty hr eq
        exact ty_ne hC2 o ht (by rw [e1]; rfl))]
      exact hg
  refine ⟨fun i hi => ?_, fun i hi => ?_, fun i j hi hj b e1 e2 => ?_⟩
  · unfold upV
    by_cases ei : i = k
    · rw [if_pos ei]; exact few
    · rw [if_neg ei]; exact h.few i (by omega)
  · unfold upV upL
    by_cases ei : i = k
    · rw [if_pos ei, if_pos ei]; exact own_mono (kp ow) hqs
    · rw [if_neg ei, if_neg ei]; exact kp (h1.ow i (by omega))
  · unfold upV at e1 e2
    have lt : ∀ i, i < k → ∀ b, (V i).v.ownBlock = some b → b < w.heap.size := fun i hi b eb => (World.ownsRow.lt (h.ow i hi) b eb).2
    have ge : ∀ b, l.v.ownBlock = some b → w.heap.size ≤ b := fun b eb => (World.ownsRow.lt ow b eb).1
    by_cases ei : i = k
    · rw [if_pos ei] at e1
      by_cases ej : j = k
      · omega
      · rw [if_neg ej] at e2
        have := ge b e1
        have := lt j (by omega) b e2
        omega
    · rw [if_neg ei] at e1
      by_cases ej : j = k
      · rw [if_pos ej] at e2
        have := ge b e2
        have := lt i (by omega) b e1
        omega
      · rw [if_neg ej] at e2
        exact h.sep i j (by omega) (by omega) b e1 e2
theorem Lists.tk {w1 w2 : World} {q e k kr t : Nat} {V : Nat → Lst} {L : Nat → List Value} {all : Value} {C : Array Value} {rws : List Value} (h : Lists w1 q e k V L) (hq1 : w1.heap[q]? = some (.cells C 84 (0, 0))) (hr : w1.ownsRow q t 1 all kr rws) (tk : Tk q all.ownBlock w1 w2) (he : (84 : Nat) ≠ e) (ht : t ≠ e) : Lists w2 q e k V L :=
  h.keep (fun i hi b eb => tk.block b (World.ownsRow.lt (h.ow i hi) b eb).2 (fun eq => ty_ne hq1 (h.ow i hi) he (by rw [eb, eq])) (fun eq => by
    obtain ⟨C2, hC2⟩ := own_ty hr eq
    exact ty_ne hC2 (h.ow i hi) ht eb))
/-- The state while the Book is filled. -/
structure OwK (w0 w : World) (N q kb ki hx : Nat) (hh : List UInt8) (bv iv : Value) (VB VI : Nat → Lst) (LB LI : Nat → List Value) (qf gf qw gw bits p : Nat) (ws : Nat → Nat) : Prop where
  hq : w.heap[q]? = some (.cells (bkC2 bv iv) 84 (0, 0))
  rb : w.ownsRow q 53 1 bv kb ((List.range kb).map fun i => (VB i).v)
  ri : w.ownsRow q 49 1 iv ki ((List.range ki).map fun i => (VI i).v)
  lb : Lists w q 5 kb VB LB
  li : Lists w q 3 ki VI LI
  fw : FW w qf gf bits p ws
  rw' : RW w qw gw bits p (bitAt ws)
  lo : qf < q ∧ gf < q ∧ qw < q ∧ gw < q ∧ hx < q ∧ N ≤ q
  hr : w.rangeAt hx 0 (hcs hh)
  be : Below N w0 w
section
variable {w0 w w1 w2 : World} {N q kb ki hx : Nat} {hh : List UInt8} {bv iv : Value} {VB VI : Nat → Lst} {LB LI : Nat → List Value} {qf gf qw gw bits p : Nat} {ws : Nat → Nat}
theorem OwK.zq (h : OwK w0 w N q kb ki hx hh bv iv VB VI LB LI qf gf qw gw bits p ws) : q < w.heap.size := (Array.getElem?_eq_some_iff.1 h.hq).1
theorem OwK.below (h : OwK w0 w N q kb ki hx hh bv iv VB VI LB LI qf gf qw gw bits p ws) (hb : Below w.heap.size w w1) : OwK w0 w1 N q kb ki hx hh bv iv VB VI LB LI qf gf qw gw bits p ws := by
  have z := h.zq
  have l := h.lo
  exact ⟨(hb.block q z).trans h.hq, own_below h.rb hb, own_below h.ri hb, h.lb.keep (fun i hi b e => hb.block b (World.ownsRow.lt (h.lb.ow i hi) b e).2), h.li.keep (fun i hi b e => hb.block b (World.ownsRow.lt (h.li.ow i hi) b e).2), h.fw.below hb, h.rw'.below hb, h.lo, rangeAt_below h.hr hb (by omega), h.be.trans (hb.mono (by omega))⟩
theorem OwK.takeB (h : OwK w0 w N q kb ki hx hh bv iv VB VI LB LI qf gf qw gw bits p ws) (b1 : Below w.heap.size w w1) (l : Lst) (E : List Value) (ow : w1.ownsRow w.heap.size 5 1 l.v l.n E) (few : l.n ≤ 4398046510976) (bv' : Value)
    (hq2 : w2.heap[q]? = some (.cells (bkC2 bv' iv) 84 (0, 0))) (rows : w2.ownsRow q 53 1 bv' (kb + 1) ((List.range kb).map (fun i => (VB i).v) ++ [l.v])) (tk : Tk q bv.ownBlock w1 w2) :
    OwK w0 w2 N q (kb + 1) ki hx hh bv' iv (upV VB kb l) VI (upL LB kb E) LI qf gf qw gw bits p ws := by
  have h1 := h.below b1
  have z := h.zq
  have z1 := h1.zq
  have lo := h.lo
  have nb : ∀ b, b < q → bv.ownBlock ≠ some b := fun b hb e => by have := (World.ownsRow.lt h.rb b e).1; omega
  have old : ∀ b, b < q → w2.heap[b]? = w1.heap[b]? := fun b hb => tk.block b (by omega) (by omega) (nb b hb)
  refine ⟨hq2, by rw [up_rows]; exact rows, ?_, h.lb.push b1 (by omega) h1.hq h1.rb tk (by decide) (by decide) l E ow few, h1.li.tk h1.hq h1.rb tk (by decide) (by decide), h1.fw.of (old _ lo.1) (old _ lo.2.1), h1.rw'.of (old _ lo.2.2.1) (old _ lo.2.2.2.1), lo, fun j v hj => (World.cell?_of_block (a := ⟨hx, 0 + j, none⟩) (old hx lo.2.2.2.2.1)).trans (h1.hr j v hj), h1.be.trans ⟨tk.os, tk.tape, tk.output, tk.size, fun k hk => old k (by omega)⟩⟩
  have o := h1.ri
  refine ⟨o.1, ?_⟩
  rcases o.2 with hn | ⟨g, cap, cur, e1, hbg, hg, rest⟩
  · exact .inl hn
  · refine .inr ⟨g, cap, cur, e1, hbg, ?_, rest⟩
    rw [tk.block g (Array.getElem?_eq_some_iff.1 hg).1 (fun eq => ty_ne h1.hq o (by decide) (by rw [e1, ← eq]; rfl)) (fun eq => by
      obtain ⟨C2, hC2⟩ := own_ty h1.rb eq
      exact ty_ne hC2 o (by decide) (by rw [e1]; rfl))]
    exact hg
theorem OwK.takeI (h : OwK w0 w N q kb ki hx hh bv iv VB VI LB LI qf gf qw gw bits p ws) (b1 : Below w.heap.size w w1) (l : Lst) (E : List Value) (ow : w1.ownsRow w.heap.size 3 1 l.v l.n E) (few : l.n ≤ 4398046510976) (iv' : Value)
    (hq2 : w2.heap[q]? = some (.cells (bkC2 bv iv') 84 (0, 0))) (rows : w2.ownsRow q 49 1 iv' (ki + 1) ((List.range ki).map (fun i => (VI i).v) ++ [l.v])) (tk : Tk q iv.ownBlock w1 w2) :
    OwK w0 w2 N q kb (ki + 1) hx hh bv iv' VB (upV VI ki l) LB (upL LI ki E) qf gf qw gw bits p ws := by
  have h1 := h.below b1
  have z := h.zq
  have z1 := h1.zq
  have lo := h.lo
  have nb : ∀ b, b < q → iv.ownBlock ≠ some b := fun b hb e => by have := (World.ownsRow.lt h.ri b e).1; omega
  have old : ∀ b, b < q → w2.heap[b]? = w1.heap[b]? := fun b hb => tk.block b (by omega) (by omega) (nb b hb)
  refine ⟨hq2, ?_, by rw [up_rows]; exact rows, h1.lb.tk h1.hq h1.ri tk (by decide) (by decide), h.li.push b1 (by omega) h1.hq h1.ri tk (by decide) (by decide) l E ow few, h1.fw.of (old _ lo.1) (old _ lo.2.1), h1.rw'.of (old _ lo.2.2.1) (old _ lo.2.2.2.1), lo, fun j v hj => (World.cell?_of_block (a := ⟨hx, 0 + j, none⟩) (old hx lo.2.2.2.2.1)).trans (h1.hr j v hj), h1.be.trans ⟨tk.os, tk.tape, tk.output, tk.size, fun k hk => old k (by omega)⟩⟩
  have o := h1.rb
  refine ⟨o.1, ?_⟩
  rcases o.2 with hn | ⟨g, cap, cur, e1, hbg, hg, rest⟩
  · exact .inl hn
  · refine .inr ⟨g, cap, cur, e1, hbg, ?_, rest⟩
    rw [tk.block g (Array.getElem?_eq_some_iff.1 hg).1 (fun eq => ty_ne h1.hq o (by decide) (by rw [e1, ← eq]; rfl)) (fun eq => by
      obtain ⟨C2, hC2⟩ := own_ty h1.ri eq
      exact ty_ne hC2 o (by decide) (by rw [e1]; rfl))]
    exact hg
end
end Go.Proofs.Ytdajeabhhkgibaa

namespace Go.Proofs.Ytdajeabhhkgibaa
open Go.RowKit B
set_option linter.unusedVariables false
set_option linter.unusedSimpArgs false

def AllU (F : List Value) : Prop := ∀ v ∈ F, ∃ z : Int, v = .int .u8 z
theorem allU_by (E : List UInt8) : AllU (K.byC E) := by
  intro v hv
  simp only [K.byC, List.mem_map] at hv
  obtain ⟨b, _, rfl⟩ := hv
  exact ⟨_, rfl⟩
theorem allU_set {F : List Value} (h : AllU F) (k : Nat) (z : Int) : AllU (F.set k (.int .u8 z)) := by
  intro v hv
  rcases List.mem_or_eq_of_mem_set hv with hv | rfl
  · exact h v hv
  · exact ⟨z, rfl⟩
theorem at_al84 {P : Program} {ops : Array Oper} {R : List Oper} {a : Act} {w : World} {Q : Exit → Act → World → Prop} {d : Option Tmp} {ty : TypeId} {pos : String} {af : _} {g : _} (h : wpList P ops Q (⟨d, .alloc 84, ty, pos, af, g⟩ :: R) a w) : wpList P ops Q (⟨d, .alloc 84, ty, pos, af, g⟩ :: R) a w := h
/-- What Encode gives. -/
def EncO (E : List UInt8) (n : Nat) (W : World) (e : Ending) (w' : World) : Prop := ∃ b cv, e = .returned (.slice (some ⟨b, 0, none⟩) n cv) ∧ w'.ownsRow W.heap.size 5 1 (.slice (some ⟨b, 0, none⟩) n cv) n (K.byC E) ∧ Below W.heap.size W w'
def TkPB (q k : Nat) (bv iv : Value) (rows : List Value) (l : Value) (w : World) (e : Ending) (w' : World) : Prop := e = .returned (.tuple #[]) ∧ (∃ v', w'.heap[q]? = some (.cells (bkC2 v' iv) 84 (0, 0)) ∧ w'.ownsRow q 53 1 v' (k + 1) (rows ++ [l])) ∧ Tk q bv.ownBlock w w'
def TkPI (q k : Nat) (bv iv : Value) (rows : List Value) (l : Value) (w : World) (e : Ending) (w' : World) : Prop := e = .returned (.tuple #[]) ∧ (∃ v', w'.heap[q]? = some (.cells (bkC2 bv v') 84 (0, 0)) ∧ w'.ownsRow q 49 1 v' (k + 1) (rows ++ [l])) ∧ Tk q iv.ownBlock w w'
def AlP (W : World) (e : Ending) (w' : World) : Prop := e = .returned (.bool true) ∧ Below W.heap.size W w'
def BkP (q N : Nat) (VB VI : Nat → Lst) (w : World) (e : Ending) (w' : World) : Prop := e = .returned (.bool true) ∧ Below q w w' ∧ ∀ k, k < w.heap.size → k ≠ q → (∀ i, i < N → (VB i).v.ownBlock ≠ some k) → (∀ i, i < N → (VI i).v.ownBlock ≠ some k) → w'.heap[k]? = w.heap[k]?
def noV : Nat → Lst := fun _ => ⟨none, 0, 0⟩
theorem lists_none (w : World) (q e : Nat) (V : Nat → Lst) (L : Nat → List Value) : Lists w q e 0 V L := ⟨fun i hi => by omega, fun i hi => by omega, fun i j hi => by omega⟩
set_option maxRecDepth 100000 in
set_option maxHeartbeats 8000000 in
theorem own_all (a : Option Addr) (L : List (List UInt8)) (n c : Nat) (h : List UInt8) (w : World) (hln : L.length = n) (hL : All32 L) (hn : n ≤ 4398046510976) (hl : Hl w a L) (hh : h.length = 32) :
    Calls Try.prog 8 #[.slice a n c, .agg (bs h)] w fun e w' => e = .returned (.bool true) ∧ Below w.heap.size w w' := by
  obtain ⟨W0, hW0⟩ : ∃ W0, w.alloc (.cells (bs h) 30) = W0 := ⟨_, rfl⟩
  have b0 : Below w.heap.size w W0 := by rw [← hW0]; exact (Below.refl _ _).alloc (Nat.le_refl _) _
  have z0 : w.heap.size < W0.heap.size := by rw [← hW0]; simp
  have r0 : W0.rangeAt w.heap.size 0 (hcs h) := by rw [← hW0]; exact range_box w h 30
  have O9 := of_any a L c W0 hL (by omega) (hl.below hL b0)
  have O10 : ∀ W, Below w.heap.size w W → Calls Try.prog 10 #[.slice a L.length c] W (ROf (uMap L).length L W) := fun W hW => rof_any a L c W hL (by omega) (hl.below hL hW)
  obtain ⟨U, hU⟩ : ∃ U, (uMap L).length = U := ⟨_, rfl⟩
  rw [hU, hln] at O9
  simp only [hU, hln] at O10
  have HWI : Hid (Within (addL _ (ofB_pos U) 7 (fun _ => 0) L) (ofB U)) := within_addL (ofB_pos U) 7 (within_zero _) L
  have HLT : Hid (∀ i, addL _ (ofB_pos U) 7 (fun _ => 0) L i < 18446744073709551616) := addL_lt (ofB_pos U) 7 (fun i => by omega) L
  have hok := okB_of U
  have H10 : Hid (∀ W, Below w.heap.size w W → Calls Try.prog 10 #[.slice a n c] W fun e w' => ∃ q g, e = .returned (.pointer (some ⟨q, 0, none⟩)) ∧ RW w' q g (ofB U) 7 (bitAt (addL _ (ofB_pos U) 7 (fun _ => 0) L)) ∧ Below W.heap.size W w' ∧ W.heap.size ≤ g ∧ W.heap.size ≤ q) := O10
  have H9 := Hid.mk' O9
  have hbp := ofB_pos U
  clear O9 O10 hU
  generalize addL (ofB U) (ofB_pos U) 7 (fun _ => 0) L = ws at *
  generalize ofB U = bits at *
  have hob := of_decide_eq_true hok
  have hEl := encF_len bits 7 ws (by omega)
  obtain ⟨nE, hnE⟩ : ∃ nE, (encF bits 7 ws).length = nE := ⟨_, rfl⟩
  have HEN : Hid (∀ W qf gf, FW W qf gf bits 7 ws → Calls Try.prog 34 #[.pointer (some ⟨qf, 0, none⟩)] W (EncO (encF bits 7 ws) nE W)) := fun W qf gf hf => (enc_any qf gf bits 7 ws W hf HLT.out hob.1 hob.2.1 (by omega)).mono fun e w' ⟨b, cv, he, ow, be⟩ => by
    rw [hnE] at he ow
    unfold K.OwnB at ow
    rw [hnE] at ow
    exact ⟨b, cv, he, ow, be⟩
  have HSP : Hid (∀ W qf gf, FW W qf gf bits 7 ws → Calls Try.prog 25 #[.pointer (some ⟨qf, 0, none⟩), .agg (bs h)] W (SpOwn 7 ((spotL h bits hbp 7).map spV) W)) := fun W qf gf hf => spots_own qf gf bits 7 ws h W hh hbp hob.2.1 (by omega) hf
  have HDC : Hid (∀ W pb pc, K.Byt W (some ⟨pb, 0, none⟩) (encF bits 7 ws) → Calls Try.prog 29 #[.slice (some ⟨pb, 0, none⟩) (encF bits 7 ws).length pc] W (OkPost bits 7 ws W)) := fun W pb pc hy => dec_back pb pc bits 7 ws W hy hok (by omega) HWI.out HLT.out
  have HAL : Hid (∀ W qf gf qw gw, FW W qf gf bits 7 ws → RW W qw gw bits 7 (bitAt ws) → Calls Try.prog 27 #[.pointer (some ⟨qf, 0, none⟩), .pointer (some ⟨qw, 0, none⟩)] W (AlP W)) := fun W qf gf qw gw hf hr => alike_ok qf gf qw gw bits 7 ws W hf hr HWI.out HLT.out hok (by omega)
  generalize (spotL h bits hbp 7).map spV = lS at *
  rw [hnE] at hEl
  have HDC2 := HDC
  rw [hnE] at HDC2
  clear HDC
  have HDC := HDC2
  clear HDC2
  have HNE := Hid.mk' hnE
  generalize encF bits 7 ws = EN at *
  have hnb : nE ≤ 10000 := by omega
  have HB0 := Hid.mk' b0
  have HZ0 := Hid.mk' z0
  have HR0 := Hid.mk' r0
  have HW0 := Hid.mk' hW0
  have HH := Hid.mk' hh
  clear b0 z0 r0 hW0 hh hl hL hln hok hEl hnE HWI HLT
  go_enter Try.func8, Try.ntmps8
  go_wp2_with (first
    | (go_at_call 9; rw [HW0.out]; refine H9.out.mono ?_)
    | fail)
  rintro e W1 ⟨qf, gf, rfl, f1, b1⟩
  have F1 := Hid.mk' f1
  have HB1 := Hid.mk' b1
  have HBw1 : Hid (Below w.heap.size w W1) := HB0.out.trans (b1.mono HB0.out.size)
  clear f1 b1 H9
  go_wp2_with (first
    | (go_at_call 10; refine (H10.out _ HBw1.out).mono ?_)
    | fail)
  rintro e W2 ⟨qw, gw, rfl, r2, b2, l1, l2⟩
  obtain ⟨W3, hW3⟩ : ∃ W3, W2.alloc (.cells (bkC2 (.slice none 0 0) (.slice none 0 0)) 84) = W3 := ⟨_, rfl⟩
  have b3 : Below W2.heap.size W2 W3 := by rw [← hW3]; exact (Below.refl _ _).alloc (Nat.le_refl _) _
  have b13 : Below W1.heap.size W1 W3 := b2.trans (b3.mono b2.size)
  have b03 : Below W0.heap.size W0 W3 := HB1.out.trans (b13.mono HB1.out.size)
  have OK0 : Hid (∃ bv iv VB VI LB LI, OwK w W3 w.heap.size W2.heap.size 0 0 w.heap.size h bv iv VB VI LB LI qf gf qw gw bits 7 ws) := by
    have s1 := F1.out.fw.fc.lt
    have s2 := F1.out.fw.wr.lt
    have s3 := r2.rc.lt
    have s4 := r2.rb.lt
    have s5 := b2.size
    have s6 := HB1.out.size
    have s7 := HZ0.out
    refine ⟨.slice none 0 0, .slice none 0 0, noV, noV, fun _ => [], fun _ => [], ⟨by rw [← hW3]; exact heap_alloc_new _ _, World.ownsRow_nil _ _ _ _, World.ownsRow_nil _ _ _ _, lists_none _ _ _ _ _, lists_none _ _ _ _ _, F1.out.fw.below b13, r2.below b3, ⟨by omega, by omega, by omega, by omega, by omega, by omega⟩, rangeAt_below HR0.out b03 HZ0.out, HB0.out.trans (b03.mono (by omega))⟩⟩
  have HW3 := Hid.mk' hW3
  clear hW3 b3 b13 b03 r2 b2 l1 l2 HBw1 H10 F1 HB1 HR0 HB0
  generalize hhx : w.heap.size = hx at *
  have HHX := Hid.mk' hhx
  clear hhx
  go_wp2_with (first
    | (with_reducible refine at_al84 ?_; refine wpList_alloc_row rfl 84 rfl (bkC2 (.slice none 0 0) (.slice none 0 0)) (zBk _) ?_; rw [HW3.out])
    | fail)
  clear HW3
  generalize W2.heap.size = q at *
  go_loopw [8] (fun i wr => ∃ k : Nat, k ≤ 3 ∧ i = .int .i64 (k : Int) ∧ Hid (∃ bv iv VB VI LB LI, OwK w wr hx q k k hx h bv iv VB VI LB LI qf gf qw gw bits 7 ws)) (fun i _ => 3 - (intOf i).toNat)
  case atStart => exact ⟨0, by omega, rfl, OK0⟩
  case round =>
    clear OK0
    obtain ⟨k, hk, rfl, HK⟩ := hrel
    obtain ⟨bv, iv, VB, VI, LB, LI, ok⟩ := HK.out
    clear HK
    by_cases hk3 : k < 3
    · have hk3' : (k : Int) < 3 := by omega
      have C34 := Hid.mk' (HEN.out wr qf gf ok.fw)
      have OK := Hid.mk' ok
      clear ok
      go_wp2_with (first
        | (go_at_call 34; refine C34.out.mono ?_)
        | fail)
      rintro e X1 ⟨b, cv, rfl, ow, be⟩
      have ok1 := OK.out.below be
      have hlr : ((List.range k).map fun i => (VB i).v).length = k := by simp
      have T36 := takeB q bv iv ((List.range k).map fun i => (VB i).v) (some ⟨b, 0, none⟩) nE cv X1 ok1.hq (by rw [hlr]; exact ok1.rb) (by rw [hlr]; omega)
      rw [hlr] at T36
      have H36 : Hid (Calls Try.prog 36 #[.pointer (some ⟨q, 0, none⟩), .slice (some ⟨b, 0, none⟩) nE cv] X1 (TkPB q k bv iv ((List.range k).map fun i => (VB i).v) (.slice (some ⟨b, 0, none⟩) nE cv) X1)) := T36
      have OW := Hid.mk' ow
      have BE := Hid.mk' be
      clear T36 ow be ok1 hlr C34
      go_wp2_with (first
        | (go_at_call 36; refine H36.out.mono ?_)
        | fail)
      rintro e X2 ⟨rfl, ⟨bv', hq2, rows2⟩, tk2⟩
      have ok2 := OK.out.takeB BE.out ⟨some ⟨b, 0, none⟩, nE, cv⟩ (K.byC EN) OW.out (by show nE ≤ _; omega) bv' hq2 rows2 tk2
      have C25 := Hid.mk' (HSP.out X2 qf gf ok2.fw)
      have HR := Hid.mk' ok2.hr
      have OK2 := Hid.mk' ok2
      clear hq2 rows2 tk2 ok2 OK OW BE H36
      go_wp2_with (first
        | (with_reducible refine at_ld ?_; refine wpList_ld (.tmp 3) rfl rfl hx 0 rfl h HH.out HR.out ?_)
        | (go_at_call 25; refine C25.out.mono ?_)
        | fail)
      rintro e X3 ⟨v, rfl, ow, be⟩
      obtain ⟨sa, sc, rfl⟩ := own_slice ow
      have ok3 := OK2.out.below be
      have hlr : ((List.range k).map fun i => (VI i).v).length = k := by simp
      have T37 := takeI q bv' iv ((List.range k).map fun i => (VI i).v) sa 7 sc X3 ok3.hq (by rw [hlr]; exact ok3.ri) (by rw [hlr]; omega)
      rw [hlr] at T37
      have H37 : Hid (Calls Try.prog 37 #[.pointer (some ⟨q, 0, none⟩), .slice sa 7 sc] X3 (TkPI q k bv' iv ((List.range k).map fun i => (VI i).v) (.slice sa 7 sc) X3)) := T37
      have OW := Hid.mk' ow
      have BE := Hid.mk' be
      clear T37 ow be ok3 hlr C25 HR
      go_wp2_with (first
        | (go_at_call 37; refine H37.out.mono ?_)
        | fail)
      rintro e X4 ⟨rfl, ⟨iv', hq4, rows4⟩, tk4⟩
      have NX : Hid (∃ bv iv VB VI LB LI, OwK w X4 hx q (k + 1) (k + 1) hx h bv iv VB VI LB LI qf gf qw gw bits 7 ws) := ⟨_, _, _, _, _, _, OK2.out.takeI BE.out ⟨sa, 7, sc⟩ lS OW.out (by show 7 ≤ _; omega) iv' hq4 rows4 tk4⟩
      clear hq4 rows4 tk4 OK2 OW BE H37
      go_wp2
      exact ⟨⟨k + 1, by omega, by go_num, NX⟩, by simp [intOf]; omega⟩
    · have hk3' : ¬ (k : Int) < 3 := by omega
      obtain rfl : k = 3 := by omega
      have OK := Hid.mk' ok
      have C34 := Hid.mk' (HEN.out wr qf gf ok.fw)
      clear ok
      go_wp2_with (first
        | (go_at_call 34; refine C34.out.mono ?_)
        | fail)
      rintro e X1 ⟨pb, cv, rfl, ow, be⟩
      have hby : K.Byt X1 (some ⟨pb, 0, none⟩) EN := by
        have ow5 : K.OwnB X1 wr.heap.size (.slice (some ⟨pb, 0, none⟩) EN.length cv) EN := by unfold K.OwnB; rw [HNE.out]; exact ow
        obtain ⟨a5, c5, e5, _, hb5, _⟩ := ow5.open
        simp only [Value.slice.injEq] at e5
        rw [e5.1]
        exact hb5
      have hpb : wr.heap.size ≤ pb ∧ pb < X1.heap.size := World.ownsRow.lt ow pb rfl
      have C29 := Hid.mk' (HDC.out X1 pb cv hby)
      have OW := Hid.mk' ow
      have BE := Hid.mk' be
      have HPB := Hid.mk' hpb
      clear ow be hby hpb C34
      go_wp2_with (first
        | (go_at_call 29; refine C29.out.mono ?_)
        | fail)
      rintro e X2 ⟨qg, gg, rfl, f2, b2⟩
      have HI : Hid (∃ F, X2.ownsRow wr.heap.size 5 1 (.slice (some ⟨pb, 0, none⟩) nE cv) nE F ∧ AllU F) := ⟨_, own_below OW.out b2, allU_by EN⟩
      have HBX : Hid (Below wr.heap.size wr X2) := BE.out.trans (b2.mono BE.out.size)
      have HFG : Hid (FW X2 qg gg bits 7 ws) := f2.fw
      have HGE : Hid (X1.heap.size ≤ qg ∧ X1.heap.size ≤ gg) := ⟨f2.lq, f2.lg⟩
      clear f2 b2 OW C29
      go_wp2
      go_loopw [13] (fun i wq => ∃ j : Nat, j ≤ nE ∧ i = .int .i64 (j : Int) ∧ Hid (∃ F, wq.ownsRow wr.heap.size 5 1 (.slice (some ⟨pb, 0, none⟩) nE cv) nE F ∧ AllU F) ∧ Hid (Below wr.heap.size wr wq) ∧ Hid (FW wq qg gg bits 7 ws)) (fun i _ => nE - (intOf i).toNat)
      case atStart => exact ⟨0, by omega, rfl, HI, HBX, HFG⟩
      case round =>
        clear HI HBX HFG
        obtain ⟨j, hj, rfl, HI, HBX, HFG⟩ := hrel
        by_cases hjn : j < nE
        · have hjn' : (j : Int) < (nE : Int) := by omega
          obtain ⟨F, oF, aF⟩ := HI.out
          have lF : F.length = nE := by have := oF.1; omega
          obtain ⟨z, hz⟩ := aF _ (List.getElem_mem (show j < F.length by omega))
          have e0 : F[j]? = some (.int .u8 z) := by rw [List.getElem?_eq_getElem (by omega), hz]
          obtain ⟨cj, fj⟩ := own_at oF e0
          have NX : Hid (∀ y : Int, ∃ F, (wr.setCell ⟨pb, j, none⟩ (.int .u8 y)).ownsRow _ 5 1 (.slice (some ⟨pb, 0, none⟩) nE cv) nE F ∧ AllU F) := fun y => ⟨_, own_put oF (.int .u8 y) (by omega), allU_set aF j y⟩
          have NB : Hid (∀ y : Int, Below _ _ (wr.setCell ⟨pb, j, none⟩ (.int .u8 y))) := fun y => HBX.out.setCell (p := ⟨pb, j, none⟩) HPB.out.1 _
          have NF : Hid (∀ y : Int, FW (wr.setCell ⟨pb, j, none⟩ (.int .u8 y)) qg gg bits 7 ws) := fun y => by
            have g1 := HGE.out
            have g2 := HPB.out
            exact HFG.out.of (Below.heap_setCell _ _ _ _ (by show qg ≠ pb; omega)) (Below.heap_setCell _ _ _ _ (by show gg ≠ pb; omega))
          clear oF aF lF hz e0 HI HBX HFG
          go_wp2
          exact ⟨⟨j + 1, by omega, by go_num, NX.out _, NB.out _, NF.out _⟩, by simp [intOf]; omega⟩
        · have hjn' : ¬ (j : Int) < (nE : Int) := by omega
          have ok9 := OK.out.below HBX.out
          have H38 : Hid (Calls Try.prog 38 #[.pointer (some ⟨q, 0, none⟩)] wr (BkP q 3 VB VI wr)) := book2_any q 3 bv iv VB VI LB LI wr (by omega) (by omega) ok9.hq ok9.rb ok9.ri ok9.lb ok9.li
          have HFIN : Hid (∀ X, Below q wr X → (∀ k, k < wr.heap.size → k ≠ q → (∀ i, i < 3 → (VB i).v.ownBlock ≠ some k) → (∀ i, i < 3 → (VI i).v.ownBlock ≠ some k) → X.heap[k]? = wr.heap[k]?) → FW X qf gf bits 7 ws ∧ RW X qw gw bits 7 (bitAt ws) ∧ FW X qg gg bits 7 ws ∧ Below hx w X) := fun X bX fX => by
            have lo := ok9.lo
            have zq := OK.out.zq
            have ge := HGE.out
            have zx := BE.out.size
            have big : ∀ k, X1.heap.size ≤ k → k < wr.heap.size → X.heap[k]? = wr.heap[k]? := fun k h1 h2 => fX k h2 (by omega) (fun i hi e => by have := (World.ownsRow.lt (OK.out.lb.ow i hi) k e).2; omega) (fun i hi e => by have := (World.ownsRow.lt (OK.out.li.ow i hi) k e).2; omega)
            exact ⟨ok9.fw.of (bX.block _ lo.1) (bX.block _ lo.2.1), ok9.rw'.of (bX.block _ lo.2.2.1) (bX.block _ lo.2.2.2.1), HFG.out.of (big _ ge.1 HFG.out.fc.lt) (big _ ge.2 HFG.out.wr.lt), ok9.be.trans (bX.mono lo.2.2.2.2.2)⟩
          clear HI ok9 OK HBX HFG HPB HGE BE
          go_wp2_with (first
            | (go_at_call 38; refine H38.out.mono ?_)
            | fail)
          rintro e X9 ⟨rfl, b9, fr9⟩
          obtain ⟨f9, r9, g9, be9⟩ := HFIN.out X9 b9 fr9
          have A1 := Hid.mk' (HAL.out X9 qf gf qw gw f9 r9)
          have G9 := Hid.mk' g9
          have R9 := Hid.mk' r9
          have HB9 := Hid.mk' be9
          clear b9 fr9 f9 r9 g9 be9 HFIN H38
          go_wp2_with (first
            | (go_at_call 27; refine A1.out.mono ?_)
            | fail)
          rintro e Y1 ⟨rfl, y1⟩
          have A2 := Hid.mk' (HAL.out Y1 qg gg qw gw (G9.out.below y1) (R9.out.below y1))
          have HB10 : Hid (Below hx w Y1) := HB9.out.trans (y1.mono (by have := HB9.out.size; have := HHX.out; omega))
          clear y1 A1 G9 R9 HB9
          go_wp2_with (first
            | (go_at_call 27; refine A2.out.mono ?_)
            | fail)
          rintro e Y2 ⟨rfl, y2⟩
          have HB11 : Hid (Below hx w Y2) := HB10.out.trans (y2.mono (by have := HB10.out.size; have := HHX.out; omega))
          clear y2 A2 HB10
          go_wp2
          go_ret
          refine ⟨rfl, ?_⟩
          have b11 := HB11.out
          rw [← HHX.out] at b11
          exact b11
end Go.Proofs.Ytdajeabhhkgibaa

