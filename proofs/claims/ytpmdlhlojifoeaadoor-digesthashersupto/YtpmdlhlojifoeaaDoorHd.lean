import Derived.Test.YtpmdlhlojifoeaaDoorHf
import Derived.Deep.Cut
namespace Go.Proofs.YtpmdlhlojifoeaaDoor
open Go.RowKit
set_option linter.unusedVariables false
set_option linter.unusedSimpArgs false

theorem eq24' (a : List UInt8) (ha : a.length = 32) (w : World) :
    (Op.equalIn 10000 24 (.agg (bs a)) (.agg (bs a))).run Tryd.prog w = .ok true w := by
  obtain ⟨i, hi, _⟩ := info5'
  have := eq_bytes 9998 Tryd.underlying24 hi (by kernel_rfl) Tryd.underlying5 a a ha ha w
  simpa using this
/-- How many bytes the first k pieces have. -/
def tot (P : Nat → List UInt8) : Nat → Nat
  | 0 => 0
  | k + 1 => tot P k + (P k).length
/-- A script that came in. -/
structure Scr (w : World) (b off n : Nat) (K W : Nat → Int) (P : Nat → List UInt8) (A : Nat → Option Addr) (C : Nat → Nat) : Prop where
  kind : ∀ r, r < n → w.cell? ⟨b, off + r * 3, none⟩ = some (.int .i64 (K r))
  which : ∀ r, r < n → w.cell? ⟨b, off + r * 3 + 1, none⟩ = some (.int .i64 (W r))
  bytes : ∀ r, r < n → w.cell? ⟨b, off + r * 3 + 2, none⟩ = some (.slice (A r) (P r).length (C r))
  lo : ∀ r, r < n → -9223372036854775808 ≤ W r
  hi : ∀ r, r < n → W r ≤ 9223372036854775807
  cap : ∀ r, r < n → (P r).length ≤ C r
  byt : ∀ r, r < n → Byt w (A r) (P r)

/-- Where the loop stands. -/
def Inv (B : Nat) (w wr : World) (q k : Nat) (lv mv : Value) : Prop := ∃ T E F, HL B T wr lv E ∧ HM B T wr mv F ∧ E.map cL = F.map cM ∧ 1 ≤ E.length ∧ E.length ≤ k + 1 ∧ (∀ e, e ∈ E → Small (cL e) q) ∧ Below B w wr ∧ B ≤ wr.heap.size
theorem Inv.mono {B : Nat} {w wr : World} {q q' k k' : Nat} {lv mv : Value} (h : Inv B w wr q k lv mv) (hq : q ≤ q') (hk : k ≤ k') : Inv B w wr q' k' lv mv := by
  obtain ⟨T, E, F, h1, h2, h3, h4, h5, h6, h7, h8⟩ := h
  exact ⟨T, E, F, h1, h2, h3, h4, by omega, fun e he m hm => Nat.le_trans (h6 e he m hm) hq, h7, h8⟩

theorem own_lit (w : World) (B : Nat) (t : TypeId) (x : Value) (hB : B ≤ w.heap.size) : (w.alloc (.cells #[x] t)).ownsRow B t 1 (.slice (some ⟨w.heap.size, 0, none⟩) 1 1) 1 [x] :=
  ⟨rfl, .inr ⟨w.heap.size, 1, #[x], rfl, hB, heap_alloc_new _ _, Nat.le_refl _, by unfold maxLen; omega, rfl, rfl⟩⟩

theorem inv_start (w W : World) (s : Nat) (hs : s = w.heap.size) (q : Nat) (r : Rep W s []) (o1 : W.ownsRow s 35 1 (.slice (some ⟨s + 1, 0, none⟩) 1 1) 1 [.pointer (some ⟨s, 0, none⟩)]) (n3 : RR s W (s + 2) (.slice none 0 0) [])
    (o2 : W.ownsRow s 38 1 (.slice (some ⟨s + 3, 0, none⟩) 1 1) 1 [.pointer (some ⟨s + 2, 0, none⟩)]) (hb : Below s w W) (hz : s ≤ W.heap.size) : Inv s w W q 0 (.slice (some ⟨s + 1, 0, none⟩) 1 1) (.slice (some ⟨s + 3, 0, none⟩) 1 1) := by
  refine ⟨fun y => if y = s then 4 else if y = s + 1 then 0 else if y = s + 2 then 5 else 1, [some (s, [])], [some (s + 2, .slice none 0 0, [])], ⟨o1, fun b hb => ?_, fun j g m hj => ?_⟩, ⟨o2, fun b hb => ?_, fun j g v m hj => ?_⟩, rfl, Nat.le_refl _, Nat.le_refl _, fun e he m hm => ?_, hb, hz⟩
  · simp [Value.ownBlock] at hb; subst hb; simp
  · match j, hj with
    | 0, hj => simp at hj; obtain ⟨rfl, rfl⟩ := hj; exact ⟨r, Nat.le_refl _, by simp⟩
  · simp [Value.ownBlock] at hb; subst hb; simp
  · match j, hj with
    | 0, hj => simp at hj; obtain ⟨rfl, rfl, rfl⟩ := hj; exact ⟨n3, by omega, by simp, fun b hb => by simp [Value.ownBlock] at hb⟩
  · simp at he
    subst he
    simp [cL] at hm
    subst hm
    simp

/-- A block of some bytes, whatever they are. -/
def ByR (w : World) (g n : Nat) : Prop := ∃ cs : Array Value, w.heap[g]? = some (.cells cs 5 (0, 0)) ∧ cs.size = n ∧ ∀ j, j < n → ∃ x : Int, cs[j]? = some (.int .u8 x)
theorem byR_of {w : World} {g n : Nat} {l : List UInt8} (h : w.heap[g]? = some (.cells (bs l) 5 (0, 0))) (hl : l.length = n) : ByR w g n :=
  ⟨bs l, h, by rw [bs_size]; exact hl, fun j hj => ⟨_, bs_get l j (by omega)⟩⟩
theorem ByR.at {w : World} {g n : Nat} (h : ByR w g n) (j : Nat) (hj : j < n) : ∃ x : Int, w.cell? ⟨g, j, none⟩ = some (.int .u8 x) ∧ w.frozen? ⟨g, j, none⟩ = false ∧ ∀ y : Int, ByR (w.setCell ⟨g, j, none⟩ (.int .u8 y)) g n := by
  obtain ⟨cs, h1, h2, h3⟩ := h
  obtain ⟨x, hx⟩ := h3 j hj
  refine ⟨x, (cell_of_row w g j _ _ _ h1).trans hx, frozen_of_row w g j _ _ h1, fun y => ⟨_, heap_setCell_same w g j _ 5 _ h1, by simp [h2], fun i hi => ?_⟩⟩
  by_cases e : j = i
  · subst e
    exact ⟨y, by simp [h2, hj]⟩
  · obtain ⟨z, hz⟩ := h3 i hi
    exact ⟨z, by rw [Array.getElem?_setIfInBounds_ne e]; exact hz⟩
theorem add_alike {e : Option (Nat × List UInt8)} {f : Option (Nat × Value × List UInt8)} (h : cL e = cM f) (v : Value) (l : List UInt8) : cL (addL l e) = cM (addM v l f) := by
  cases e <;> cases f <;> simp_all [cL, cM, addL, addM]
theorem add_small {E : List (Option (Nat × List UInt8))} {q i : Nat} {ei : Option (Nat × List UInt8)} {l : List UInt8} (h : ∀ e, e ∈ E → Small (cL e) q) (hi : E[i]? = some ei) : ∀ e, e ∈ E.set i (addL l ei) → Small (cL e) (q + l.length) := fun e he m hm => by
  rcases List.mem_or_eq_of_mem_set he with he | rfl
  · exact Nat.le_trans (h e he m hm) (by omega)
  · have h1 := h _ (List.mem_of_getElem? hi)
    cases ei with
    | none => cases hm
    | some x =>
      simp [cL, addL] at hm
      subst hm
      have := h1 x.2 rfl
      simp
      omega

set_option maxRecDepth 100000 in
set_option maxHeartbeats 4000000 in
theorem hashers_any (a : Option Addr) (n cap : Nat) (K W : Nat → Int) (P : Nat → List UInt8) (A : Nat → Option Addr) (C : Nat → Nat) (w : World) (hp : 0 < n → ∃ b off, a = some ⟨b, off, none⟩ ∧ Scr w b off n K W P A C)
    (hn : n ≤ 1048576) (htot : ∀ k, k ≤ n → tot P k ≤ 1048576) (hK : KeysAt w) (hF : FirstAt w) (hR : RoundsAt w) (hO : RootsAt w) (h5 : 5 ≤ w.heap.size) :
    Calls Tryd.prog 6 #[.slice a n cap] w fun e w' => e = .returned (.bool true) ∧ Below w.heap.size w w' := by
  go_enter Tryd.func6, Tryd.ntmps6
  go_wp2_with fail
  refine (new_any w hF).mono ?_
  rintro e w1 ⟨rfl, rfl⟩
  have r1 := rep_new w
  have be1 : Below w.heap.size w (w.alloc (.cells (hc first z64 0) 62)) := (Below.refl _ _).alloc (Nat.le_refl _) _
  have z1 : (w.alloc (.cells (hc first z64 0) 62)).heap.size = w.heap.size + 1 := by simp
  generalize (w.alloc (.cells (hc first z64 0) 62)) = W1 at *
  go_wp2_with fail
  have o1 := own_lit W1 w.heap.size 35 (.pointer (some ⟨w.heap.size, 0, none⟩)) (by omega)
  have be2 : Below W1.heap.size W1 (W1.alloc (.cells #[.pointer (some ⟨w.heap.size, 0, none⟩)] 35)) := (Below.refl _ _).alloc (Nat.le_refl _) _
  have z2 : (W1.alloc (.cells #[.pointer (some ⟨w.heap.size, 0, none⟩)] 35)).heap.size = w.heap.size + 2 := by simp; omega
  have r2 := rep_below r1 be2
  generalize (W1.alloc (.cells #[.pointer (some ⟨w.heap.size, 0, none⟩)] 35)) = W2 at *
  refine (rnew_any w.heap.size W2).mono ?_
  rintro e w3 ⟨rfl, rfl⟩
  have be3 : Below W2.heap.size W2 (W2.alloc (.cells #[.slice none 0 0] 64)) := (Below.refl _ _).alloc (Nat.le_refl _) _
  have n3 := rr_new w.heap.size W2
  have z3 : (W2.alloc (.cells #[.slice none 0 0] 64)).heap.size = w.heap.size + 3 := by simp; omega
  generalize (W2.alloc (.cells #[.slice none 0 0] 64)) = W3 at *
  have be4 : Below W3.heap.size W3 (W3.alloc (.cells #[.pointer (some ⟨W2.heap.size, 0, none⟩)] 38)) := (Below.refl _ _).alloc (Nat.le_refl _) _
  have o2 := own_lit W3 w.heap.size 38 (.pointer (some ⟨W2.heap.size, 0, none⟩)) (by omega)
  have z4 : (W3.alloc (.cells #[.pointer (some ⟨W2.heap.size, 0, none⟩)] 38)).heap.size = w.heap.size + 4 := by simp; omega
  have be24 : Below W2.heap.size W2 (W3.alloc (.cells #[.pointer (some ⟨W2.heap.size, 0, none⟩)] 38)) := be3.trans (be4.mono (by omega))
  have r4 := rep_below r2 be24
  have o4 := ownsRow_keep o1 fun g hg => be24.block g (by simp [Value.ownBlock] at hg; omega)
  have n4 : RR w.heap.size (W3.alloc (.cells #[.pointer (some ⟨W2.heap.size, 0, none⟩)] 38)) W2.heap.size (.slice none 0 0) [] := n3.keep (be4.block _ (by omega)) fun b hb => by simp [Value.ownBlock] at hb
  have bel4 : Below w.heap.size w (W3.alloc (.cells #[.pointer (some ⟨W2.heap.size, 0, none⟩)] 38)) := (be1.trans (be2.mono (by omega))).trans (be24.mono (by omega))
  have c4 : (W3.alloc (.cells #[.pointer (some ⟨W2.heap.size, 0, none⟩)] 38)).cell? ⟨w.heap.size + 1, 0, none⟩ = some (.pointer (some ⟨w.heap.size, 0, none⟩)) := by
    obtain ⟨_, ⟨h, _⟩ | ⟨g, c, cur, e, _, hg, hnc, _, hcs, htk⟩⟩ := o4
    · cases h
    · simp at e
      obtain ⟨rfl, rfl⟩ := e
      rw [← z1, cell_of_row _ _ 0 _ _ _ hg]
      have := congrArg (fun l => l[0]?) htk
      simpa using this
  simp only [z1, z2, z3] at o4 n4 o2 c4 bel4 r4 z4
  clear be1 be2 be3 be4 be24 r1 r2 n3 o1
  have IN := inv_start w _ w.heap.size rfl 0 r4 o4 n4 o2 bel4 (by omega)
  clear r4 o4 n4 o2 bel4 z4
  go_wp2
  generalize (W3.alloc (.cells #[.pointer (some ⟨w.heap.size + 2, 0, none⟩)] 38)) = W4 at *
  clear c4 z1 z2 z3
  have HI : Hid (Inv w.heap.size w W4 0 0 (.slice (some ⟨w.heap.size + 1, 0, none⟩) 1 1) (.slice (some ⟨w.heap.size + 3, 0, none⟩) 1 1)) := IN
  clear IN
  go_loopw [3, 4, 6, 7, 8, 9, 10, 22] (fun lv mv _ _ _ _ _ i wr => ∃ k : Nat, k ≤ n ∧ i = .int .i64 k ∧ Inv w.heap.size w wr (tot P k) k lv mv) (fun _ _ _ _ _ _ _ i _ => n - (intOf i).toNat)
  case atStart => exact ⟨0, Nat.zero_le _, rfl, HI.out⟩
  case round =>
    clear HI
    obtain ⟨k, hk, rfl, IN⟩ := hrel
    by_cases h1 : k < n
    · obtain ⟨T, E, F, hL, hM, hC, hE1, hEk, hS, hbw, hz⟩ := IN
      obtain ⟨b, off, rfl, hSc⟩ := hp (by omega)
      have hbl : b < w.heap.size := block_lt_of_cell (hSc.kind k h1)
      have c0 := (hbw.cell (p := ⟨b, off + k * 3, none⟩) hbl).trans (hSc.kind k h1)
      have c1 := (hbw.cell (p := ⟨b, off + k * 3 + 1, none⟩) hbl).trans (hSc.which k h1)
      have c2 := (hbw.cell (p := ⟨b, off + k * 3 + 2, none⟩) hbl).trans (hSc.bytes k h1)
      have cap := hSc.cap k h1
      have byt0 := hSc.byt k h1
      have byt := byt_below byt0 hbw
      have wlo := hSc.lo k h1
      have whi := hSc.hi k h1
      have hFE : F.length = E.length := by have := congrArg List.length hC; simpa using this.symm
      have ht1 := htot (k + 1) (by omega)
      have HT : Hid (tot P (k + 1) = tot P k + (P k).length) := rfl
      rw [HT.out] at ht1
      clear hp hSc htot
      generalize K k = kd at *
      generalize W k = wh at *
      generalize P k = pk at *
      generalize A k = ak at *
      generalize C k = ck at *
      obtain ⟨lb, lc, rfl, hlc, hlB, hlz, hlT, hlcell⟩ := hL.lt hE1
      obtain ⟨mb, mc, rfl, hmc, hmB, hmz, hmT, hmcell⟩ := hM.lt (by omega)
      go_wp2_with fail
      refine (which_any wh E.length _ (by omega) (by omega) wlo whi).mono ?_
      rintro e w5 ⟨⟨i, hi, rfl⟩, rfl⟩
      have S5 : St w.heap.size (nw T wr 2) w (wr.alloc (.cells #[.int .i64 kd, .int .i64 wh, .slice ak pk.length ck] 42)) wr.heap.size #[.int .i64 kd, .int .i64 wh, .slice ak pk.length ck] (.slice (some ⟨lb, 0, none⟩) E.length lc) (.slice (some ⟨mb, 0, none⟩) F.length mc) E F :=
        ⟨hL.below ((Below.refl _ _).alloc (Nat.le_refl _) _) 2, hM.below ((Below.refl _ _).alloc (Nat.le_refl _) _) 2, heap_alloc_new _ _, hz, nw_new (Nat.le_refl _), hbw.alloc hz _, by simp; omega⟩
      have byt5 := byt_below byt ((Below.refl wr.heap.size wr).alloc (Nat.le_refl _) (.cells #[.int .i64 kd, .int .i64 wh, .slice ak pk.length ck] 42))
      generalize (wr.alloc (.cells #[.int .i64 kd, .int .i64 wh, .slice ak pk.length ck] 42)) = W5 at *
      generalize nw T wr 2 = T5 at *
      generalize wr.heap.size = g5 at *
      clear hL hM hbw hz hlcell hmcell hlz hmz hlB hmB hlT hmT c0 c1 c2 byt wlo whi
      have hg5 := S5.gl
      have HE : Hid (E.length ≤ 1048577) := by show _ ≤ _; omega
      have q5 := cells_at S5.o
      obtain ⟨q50, q51, q52⟩ := q5
      by_cases k0 : kd = 0
      · subst k0
        go_wp2_with fail
        refine (new_any W5 (firstAt_below hF S5.b)).mono ?_
        rintro e w6 ⟨rfl, rfl⟩
        have r6 := rep_new W5
        have S6 := S5.below ((Below.refl _ _).alloc (Nat.le_refl _) (.cells (hc first z64 0) 62)) (2 * E.length + 4)
        have t6 : nw T5 W5 (2 * E.length + 4) W5.heap.size = 2 * E.length + 4 := nw_new (Nat.le_refl _)
        have z6 := S5.z
        obtain ⟨x, hpx, hcx, hx6⟩ : ∃ x, some ⟨W5.heap.size, 0, none⟩ = pa x ∧ cL x = some [] ∧ ∀ g m, x = some (g, m) → Rep (W5.alloc (.cells (hc first z64 0) 62)) g m ∧ w.heap.size ≤ g ∧ nw T5 W5 (2 * E.length + 4) g = 2 * E.length + 4 :=
          ⟨some (W5.heap.size, []), rfl, rfl, fun g m e => by cases e; exact ⟨r6, z6, t6⟩⟩
        rw [hpx]
        generalize (W5.alloc (.cells (hc first z64 0) 62)) = W6 at *
        generalize nw T5 W5 (2 * E.length + 4) = T6 at *
        clear S5 r6 t6 z6 hpx q50 q51 q52
        have SA := S6.below ((Below.refl _ _).alloc (Nat.le_refl _) (.cells #[.pointer (pa x)] 35)) 2
        have hxa : ∀ g m, x = some (g, m) → Rep (W6.alloc (.cells #[.pointer (pa x)] 35)) g m ∧ w.heap.size ≤ g ∧ nw T6 W6 2 g = 2 * E.length + 4 := fun g m e => by
          obtain ⟨h1, h2, h3⟩ := hx6 g m e
          exact ⟨rep_below h1 ((Below.refl _ _).alloc (Nat.le_refl _) _), h2, by rw [nw_old (rep_lt h1)]; exact h3⟩
        have pA : (W6.alloc (.cells #[.pointer (pa x)] 35)).cell? ⟨W6.heap.size, 0, none⟩ = some (.pointer (pa x)) := cell_of_row _ _ 0 _ _ _ (heap_alloc_new _ _)
        have HO : Hid ((W6.alloc (.cells #[.pointer (pa x)] 35)).ownsRow w.heap.size 35 1 (.slice (some ⟨lb, 0, none⟩) E.length lc) E.length (E.map pl)) := by
          have := SA.l.own
          exact this
        have HZ : Hid (w.heap.size ≤ (W6.alloc (.cells #[.pointer (pa x)] 35)).heap.size) := SA.z
        go_wp2_with (first | (at_builtin; refine wpList_appL rfl (.tmp 41) (.tmp 43) rfl w.heap.size (.slice (some ⟨lb, 0, none⟩) E.length lc) E.length (E.map pl) rfl HO.out W6.heap.size 1 (pa x) rfl pA HE.out HZ.out ?_) | fail)
        intro lv7 w7 ownA grA atA
        have S7 := SA.appL x hxa ownA grA (by simpa using atA)
        clear HO HZ SA ownA grA atA pA S6 hxa hx6
        generalize nw (nw T6 W6 2) (W6.alloc (.cells #[.pointer (pa x)] 35)) 0 = T7 at *
        go_wp2_with fail
        refine (rnew_any w.heap.size w7).mono ?_
        rintro e w8 ⟨rfl, rfl⟩
        have r8 := rr_new w.heap.size w7
        have S8 := S7.below ((Below.refl _ _).alloc (Nat.le_refl _) (.cells #[.slice none 0 0] 64)) (2 * F.length + 5)
        have t8 : nw T7 w7 (2 * F.length + 5) w7.heap.size = 2 * F.length + 5 := nw_new (Nat.le_refl _)
        have z8 := S7.z
        obtain ⟨y, hpy, hcy, hy8⟩ : ∃ y, some ⟨w7.heap.size, 0, none⟩ = pb y ∧ cM y = some [] ∧ ∀ g v m, y = some (g, v, m) → RR w.heap.size (w7.alloc (.cells #[.slice none 0 0] 64)) g v m ∧ w.heap.size ≤ g ∧ nw T7 w7 (2 * F.length + 5) g = 2 * F.length + 5 ∧ ∀ b, v.ownBlock = some b → nw T7 w7 (2 * F.length + 5) b = 2 * F.length + 5 :=
          ⟨some (w7.heap.size, .slice none 0 0, []), rfl, rfl, fun g v m e => by cases e; exact ⟨r8, z8, t8, fun b hb => by simp [Value.ownBlock] at hb⟩⟩
        rw [hpy]
        generalize (w7.alloc (.cells #[.slice none 0 0] 64)) = W8 at *
        generalize nw T7 w7 (2 * F.length + 5) = T8 at *
        clear S7 r8 t8 z8 hpy
        have SA := S8.below ((Below.refl _ _).alloc (Nat.le_refl _) (.cells #[.pointer (pb y)] 38)) 2
        have hxa : ∀ g v m, y = some (g, v, m) → RR w.heap.size (W8.alloc (.cells #[.pointer (pb y)] 38)) g v m ∧ w.heap.size ≤ g ∧ nw T8 W8 2 g = 2 * F.length + 5 ∧ ∀ b, v.ownBlock = some b → nw T8 W8 2 b = 2 * F.length + 5 := fun g v m e => by
          obtain ⟨h1, h2, h3, h4⟩ := hy8 g v m e
          have bb := (Below.refl W8.heap.size W8).alloc (Nat.le_refl _) (.cells #[.pointer (pb y)] 38)
          exact ⟨h1.keep (bb.block g h1.lt) fun b hb => bb.block b (World.ownsRow.lt h1.2 b hb).2, h2, by rw [nw_old h1.lt]; exact h3, fun b hb => by rw [nw_old (World.ownsRow.lt h1.2 b hb).2]; exact h4 b hb⟩
        have pA : (W8.alloc (.cells #[.pointer (pb y)] 38)).cell? ⟨W8.heap.size, 0, none⟩ = some (.pointer (pb y)) := cell_of_row _ _ 0 _ _ _ (heap_alloc_new _ _)
        have HO : Hid ((W8.alloc (.cells #[.pointer (pb y)] 38)).ownsRow w.heap.size 38 1 (.slice (some ⟨mb, 0, none⟩) E.length mc) E.length (F.map pm)) := by
          have := SA.m.own
          rw [hFE] at this
          exact this
        have HZ : Hid (w.heap.size ≤ (W8.alloc (.cells #[.pointer (pb y)] 38)).heap.size) := SA.z
        go_wp2_with (first | (at_builtin; refine wpList_appM rfl (.tmp 45) (.tmp 47) rfl w.heap.size (.slice (some ⟨mb, 0, none⟩) E.length mc) E.length (F.map pm) rfl HO.out W8.heap.size 1 (pb y) rfl pA HE.out HZ.out ?_) | fail)
        intro mv9 w9 ownA grA atA
        have S9 := SA.appM y hxa (by rw [hFE]; exact ownA) (by rw [hFE]; exact grA) (by rw [hFE]; simpa using atA)
        clear HO HZ SA ownA grA atA pA S8 hxa hy8
        obtain ⟨TN, EN, FN, SN, hCN, hN1, hN2, hN3⟩ : ∃ TN EN FN, St w.heap.size TN w w9 g5 #[.int .i64 0, .int .i64 wh, .slice ak pk.length ck] lv7 mv9 EN FN ∧ EN.map cL = FN.map cM ∧ 1 ≤ EN.length ∧ EN.length ≤ k + 2 ∧ (∀ e, e ∈ EN → Small (cL e) (tot P k + pk.length)) :=
          ⟨_, _, _, S9, by simp [hC, hcx, hcy], by simp, by simp; omega, fun e he => by
            rcases List.mem_append.1 he with he | he
            · exact fun m hm => Nat.le_trans (hS e he m hm) (by omega)
            · simp at he; subst he; exact fun m hm => by rw [hcx] at hm; cases hm; simp⟩
        clear S9 hS hC
        have hFN : FN.length = EN.length := by have := congrArg List.length hCN; simpa using this.symm
        obtain ⟨lb', lc', hlv', hlc', hlB', hlz', hlT', hlcell'⟩ := SN.l.lt hN1
        obtain ⟨mb', mc', hmv', hmc', hmB', hmz', hmT', hmcell'⟩ := SN.m.lt (by omega)
        rw [hFN] at hmv'
        subst hlv' hmv'
        obtain ⟨q0, q1, q2⟩ := cells_at SN.o
        obtain ⟨jj, hjj⟩ : ∃ jj, EN.length = jj + 1 := ⟨EN.length - 1, by omega⟩
        obtain ⟨e', he'⟩ : ∃ e, EN[jj]? = some e := ⟨_, List.getElem?_eq_getElem (by omega)⟩
        obtain ⟨f', hf'⟩ : ∃ f, FN[jj]? = some f := ⟨_, List.getElem?_eq_getElem (by omega)⟩
        have cl := hlcell' _ e' he'
        have cm := hmcell' _ f' hf'
        have AL := nil_alike (map_at hCN he' hf')
        have HJ : Hid (EN.length = jj + 1) := hjj
        clear hlcell' hmcell' hlB' hlz' hlT' hmB' hmz' hmT' q1 q2 he' hf' hjj
        go_upto_region 32 with fail
        refine skip32 _ _ g5 0 _ rfl rfl q0 (by decide) ?_
        intro a' ha'
        subst ha'
        simp only [Act.put, List.setIfInBounds_toArray, List.set_cons_zero, List.set_cons_succ]
        have BN := (Below.refl w9.heap.size w9).drew
        generalize w9.drew = W10 at *
        have SN2 := SN.below BN 2
        have cl2 := (BN.cell (p := ⟨lb', jj, none⟩) (block_lt_of_cell cl)).trans cl
        have cm2 := (BN.cell (p := ⟨mb', jj, none⟩) (block_lt_of_cell cm)).trans cm
        clear cl cm SN q0 BN
        rcases AL with ⟨e1, e2⟩ | ⟨x1, x2, e1, e2⟩
        · rw [e1] at cl2
          rw [e2] at cm2
          clear e1 e2
          go_upto_region 35 with fail
          have hjj := HJ.out
          refine last_nil lb' lc' mb' mc' EN.length jj _ _ _ rfl rfl rfl (by show Value.int _ _ = _; congr 1; omega) (by omega) (by omega) (by omega) cl2 cm2 ?_
          clear hjj
          intro a' w' hw' ha'
          subst hw' ha'
          simp only [Act.put, List.setIfInBounds_toArray, List.set_cons_zero, List.set_cons_succ]
          have SN3 := SN2.below ((Below.refl _ _).drew) 2
          generalize W10.drew = W11 at *
          clear SN2 cl2 cm2
          have HI : Hid (Inv w.heap.size w W11 (tot P k + pk.length) (k + 1) (.slice (some ⟨lb', 0, none⟩) EN.length lc') (.slice (some ⟨mb', 0, none⟩) EN.length mc')) := by
            have := SN3.inv hCN hN1 hN2 hN3
            exact this
          clear SN3 hCN hN1 hN2 hN3
          go_wp2
          go_roundw
          case rel => exact ⟨k + 1, by omega, by go_num, by rw [HT.out]; exact HI.out⟩
          case measure => simp [intOf]; omega
        · rw [e1] at cl2
          rw [e2] at cm2
          clear e1 e2
          go_upto_region 35 with fail
          have hjj := HJ.out
          refine last_some lb' lc' mb' mc' EN.length jj x1 x2 _ _ _ rfl rfl rfl (by show Value.int _ _ = _; congr 1; omega) (by omega) (by omega) (by omega) cl2 cm2 ?_
          clear hjj
          intro a' w' hw' ha'
          subst hw' ha'
          simp only [Act.put, List.setIfInBounds_toArray, List.set_cons_zero, List.set_cons_succ]
          have SN3 := SN2.below ((Below.refl _ _).drew) 2
          generalize W10.drew = W11 at *
          clear SN2 cl2 cm2
          have HI : Hid (Inv w.heap.size w W11 (tot P k + pk.length) (k + 1) (.slice (some ⟨lb', 0, none⟩) EN.length lc') (.slice (some ⟨mb', 0, none⟩) EN.length mc')) := by
            have := SN3.inv hCN hN1 hN2 hN3
            exact this
          clear SN3 hCN hN1 hN2 hN3
          go_wp2
          go_roundw
          case rel => exact ⟨k + 1, by omega, by go_num, by rw [HT.out]; exact HI.out⟩
          case measure => simp [intOf]; omega
      by_cases k1 : kd = 1
      · subst k1
        obtain ⟨ei, hei⟩ : ∃ e, E[i]? = some e := ⟨_, List.getElem?_eq_getElem hi⟩
        obtain ⟨fi, hfi⟩ : ∃ f, F[i]? = some f := ⟨_, List.getElem?_eq_getElem (by omega)⟩
        have hsm : Small (cL ei) 1048576 := fun m hm => Nat.le_trans (hS _ (List.mem_of_getElem? hei) m hm) (by omega)
        have hcc := map_at hC hei hfi
        obtain ⟨b1, c1, hv1, _, _, _, _, cells1⟩ := S5.l.lt hE1
        simp only [Value.slice.injEq, Option.some.injEq, Addr.mk.injEq, and_true] at hv1
        obtain ⟨rfl, _, rfl⟩ := hv1
        have cl5 := cells1 i ei hei
        obtain ⟨b2, c2, hv2, _, _, _, _, cells2⟩ := S5.m.lt (by omega)
        simp only [Value.slice.injEq, Option.some.injEq, Addr.mk.injEq, and_true] at hv2
        obtain ⟨rfl, _, rfl⟩ := hv2
        have cm5 := cells2 i fi hfi
        clear cells1 cells2
        go_wp2_with fail
        refine (hand_any ak pk ck W5 byt5 (by omega)).mono ?_
        rintro e w6 ⟨rfl, hg6, b6⟩
        have S6 := S5.below b6 2
        have t6 : nw T5 W5 2 W5.heap.size = 2 := nw_new (Nat.le_refl _)
        have z6 := S5.z
        have own6 : Byt w6 (some ⟨W5.heap.size, 0, none⟩) pk := .inr ⟨_, 0, rfl, fun j hj => by
          rw [Nat.zero_add, ← own_at pk j hj]
          exact (cell_of_row w6 W5.heap.size j _ _ _ hg6).trans (bs_get _ j (by simp [marks]; omega))⟩
        have cl6 := (b6.cell (p := ⟨lb, i, none⟩) (block_lt_of_cell cl5)).trans cl5
        have g56 : g5 ≠ W5.heap.size := by have := S5.gl; omega
        generalize nw T5 W5 2 = T6 at *
        generalize W5.heap.size = g6 at *
        clear S5 b6 cl5 cm5 q50 q51 q52 byt5
        go_wp2_with fail
        refine (S6.l.write hei (keysAt_below hK S6.b) hsm h5 pk g6 (pk.length + 9) (by omega) (by omega) own6 t6).mono ?_
        rintro e w7 ⟨rfl, hL7, f7⟩
        have S7 := S6.setL hL7 f7
        have hg6l : g6 < w6.heap.size := (Array.getElem?_eq_some_iff.1 hg6).1
        have hg7 := (f7.block g6 hg6l (.inr (by rw [t6]; omega))).trans hg6
        have t7 : nw T6 w6 (2 * i + 4) g6 = 2 := by rw [nw_old hg6l]; exact t6
        have byt7 := byt_below byt0 S7.b
        obtain ⟨q70, q71, q72⟩ := cells_at S7.o
        generalize nw T6 w6 (2 * i + 4) = T7 at *
        clear S6 hL7 f7 hg6 t6 own6 cl6 hg6l
        go_wp2_with fail
        refine (kept_any g6 ak pk ck w7 hg7 byt7 (by omega)).mono ?_
        rintro e w8 ⟨rfl, mm, rfl⟩
        have b8 : Below w7.heap.size w7 (w7.drewN mm) := below_drewN (Below.refl _ _) mm
        have S8 := S7.below b8 2
        have hg7l : g6 < w7.heap.size := (Array.getElem?_eq_some_iff.1 hg7).1
        have R8 : ByR (w7.drewN mm) g6 (pk.length + 9) := byR_of ((b8.block g6 hg7l).trans hg7) (by simp [marks])
        have t8 : nw T7 w7 2 g6 = 2 := by rw [nw_old hg7l]; exact t7
        generalize (w7.drewN mm) = W8 at *
        generalize nw T7 w7 2 = T8 at *
        clear S7 b8 hg7 hg7l t7 byt7 q70 q71 q72
        have HS8 : Hid (St w.heap.size T8 w W8 g5 #[.int .i64 1, .int .i64 wh, .slice ak pk.length ck] (.slice (some ⟨lb, 0, none⟩) E.length lc) (.slice (some ⟨mb, 0, none⟩) F.length mc) (E.set i (addL pk ei)) F) := S8
        have HR8 : Hid (ByR W8 g6 (pk.length + 9)) := R8
        clear S8 R8
        go_wp2
        go_loopw [9] (fun kk wr2 => ∃ t : Nat, t ≤ pk.length ∧ kk = .int .i64 t ∧ But g6 W8 wr2 ∧ ByR wr2 g6 (pk.length + 9)) (fun kk _ => pk.length - (intOf kk).toNat)
        case atStart => exact ⟨0, Nat.zero_le _, rfl, But.refl _ _, HR8.out⟩
        case round =>
          clear HR8
          obtain ⟨t, ht, rfl, bu, br⟩ := hrel
          by_cases h2 : t < pk.length
          · obtain ⟨xx, cx, fx, nx⟩ := br.at t (by omega)
            have NX : Hid (∀ y : Int, ByR (wr.setCell ⟨g6, t, none⟩ (.int .u8 y)) g6 (pk.length + 9)) := nx
            have BU : Hid (But g6 W8 wr) := bu
            clear nx bu br
            go_wp2
            go_roundw
            case rel => exact ⟨t + 1, by omega, by go_num, BU.out.setCell t _, NX.out _⟩
            case measure => simp [intOf]; omega
          · obtain rfl : t = pk.length := by omega
            clear h2 ht br
            have S9 := HS8.out.other bu z6 t8 g56
            clear HS8 bu t8
            generalize nw T8 W8 2 = T9 at *
            have S9d := S9.below ((Below.refl _ _).drew) 2
            generalize nw T9 wr 2 = TD at *
            obtain ⟨b2, c2, hv2, _, _, _, hmt2, cells2⟩ := S9d.m.lt (by omega)
            simp only [Value.slice.injEq, Option.some.injEq, Addr.mk.injEq, and_true] at hv2
            obtain ⟨rfl, _, rfl⟩ := hv2
            have cm9 : wr.cell? ⟨mb, i, none⟩ = some (.pointer (pb fi)) := cells2 i fi hfi
            obtain ⟨q90, q91, q92⟩ := cells_at S9.o
            have cd1 : wr.drew.cell? ⟨mb, i, none⟩ = some (.pointer (pb fi)) := cm9
            have cd2 : wr.drew.cell? ⟨g5, 2, none⟩ = some (.slice ak pk.length ck) := q92
            have C1 : Hid (Calls Tryd.prog 22 #[.pointer (pb fi), .slice ak pk.length ck] wr.drew fun e w' => e = .returned (.tuple #[]) ∧ (w'.cell? ⟨mb, i, none⟩ = some (.pointer (pb fi)) ∧ w'.cell? ⟨g5, 2, none⟩ = some (.slice ak pk.length ck)) ∧
                ∃ v, St w.heap.size (nw TD wr.drew (2 * i + 5)) w w' g5 #[.int .i64 1, .int .i64 wh, .slice ak pk.length ck] (.slice (some ⟨lb, 0, none⟩) E.length lc) (.slice (some ⟨mb, 0, none⟩) F.length mc) (E.set i (addL pk ei)) (F.set i (addM v pk fi))) :=
              (S9d.m.write hfi (by rw [← hcc]; exact hsm) pk ak ck (by omega) (byt_below byt0 S9d.b) S9d.z).mono fun e w' ⟨h1, v, hM, f⟩ =>
                ⟨h1, ⟨(World.cell?_of_block (a := ⟨mb, i, none⟩) (f.block mb (block_lt_of_cell cd1) (.inr (by rw [hmt2]; omega)))).trans cd1, (World.cell?_of_block (a := ⟨g5, 2, none⟩) (f.block g5 S9d.gl (.inr (by rw [S9d.ot]; omega)))).trans cd2⟩, v, S9d.setM hM f⟩
            clear S9 S9d cells2 cd1 cd2 q90 q91
            go_upto_region 24 with fail
            refine write24 mb mc E.length i g5 pk.length ck (pb fi) ak _ _ _ _ rfl rfl rfl rfl hi (by omega) (by omega) cm9 q92 C1.out ?_
            intro a' w10 S10x ha'
            obtain ⟨v, S10⟩ := S10x
            subst ha'
            simp only [Act.put, List.setIfInBounds_toArray, List.set_cons_zero, List.set_cons_succ]
            clear C1 cm9 q92
            obtain ⟨TN, EN, FN, SN, hCN, hN1, hN2, hN3⟩ : ∃ TN EN FN, St w.heap.size TN w w10 g5 #[.int .i64 1, .int .i64 wh, .slice ak pk.length ck] (.slice (some ⟨lb, 0, none⟩) E.length lc) (.slice (some ⟨mb, 0, none⟩) F.length mc) EN FN ∧ EN.map cL = FN.map cM ∧ 1 ≤ EN.length ∧ EN.length ≤ k + 2 ∧ (∀ e, e ∈ EN → Small (cL e) (tot P k + pk.length)) :=
              ⟨_, _, _, S10, by rw [List.map_set, List.map_set, hC, add_alike hcc v pk], by simpa using hE1, by simp; omega, add_small hS hei⟩
            clear S10 hS hC
            have hFN : FN.length = EN.length := by have := congrArg List.length hCN; simpa using this.symm
            obtain ⟨lb', lc', hlv', hlc', hlB', hlz', hlT', hlcell'⟩ := SN.l.lt hN1
            obtain ⟨mb', mc', hmv', hmc', hmB', hmz', hmT', hmcell'⟩ := SN.m.lt (by omega)
            rw [hFN] at hmv'
            simp only [Value.slice.injEq, Option.some.injEq, Addr.mk.injEq, and_true] at hlv' hmv'
            obtain ⟨rfl, hLn, rfl⟩ := hlv'
            obtain ⟨rfl, hMn, rfl⟩ := hmv'
            have HLn : Hid (E.length = EN.length) := hLn
            clear hMn hLn
            obtain ⟨q0, q1, q2⟩ := cells_at SN.o
            obtain ⟨jj, hjj⟩ : ∃ jj, EN.length = jj + 1 := ⟨EN.length - 1, by omega⟩
            obtain ⟨e', he'⟩ : ∃ e, EN[jj]? = some e := ⟨_, List.getElem?_eq_getElem (by omega)⟩
            obtain ⟨f', hf'⟩ : ∃ f, FN[jj]? = some f := ⟨_, List.getElem?_eq_getElem (by omega)⟩
            have cl := hlcell' _ e' he'
            have cm := hmcell' _ f' hf'
            have AL := nil_alike (map_at hCN he' hf')
            have HJ : Hid (EN.length = jj + 1) := hjj
            clear hlcell' hmcell' hlB' hlz' hlT' hmB' hmz' hmT' q1 q2 he' hf' hjj
            go_upto_region 32 with fail
            refine skip32 _ _ g5 1 _ rfl rfl q0 (by decide) ?_
            intro a' ha'
            subst ha'
            simp only [Act.put, List.setIfInBounds_toArray, List.set_cons_zero, List.set_cons_succ]
            have BN := (Below.refl w10.heap.size w10).drew
            generalize w10.drew = W10 at *
            have SN2 := SN.below BN 2
            have cl2 := (BN.cell (p := ⟨lb, jj, none⟩) (block_lt_of_cell cl)).trans cl
            have cm2 := (BN.cell (p := ⟨mb, jj, none⟩) (block_lt_of_cell cm)).trans cm
            clear cl cm SN q0 BN
            rcases AL with ⟨e1, e2⟩ | ⟨x1, x2, e1, e2⟩
            · rw [e1] at cl2
              rw [e2] at cm2
              clear e1 e2
              go_upto_region 35 with fail
              have hjj := HJ.out
              have hLn := HLn.out
              refine last_nil lb lc mb mc E.length jj _ _ _ rfl rfl rfl (by show Value.int _ _ = _; congr 1; omega) (by omega) (by omega) (by omega) cl2 cm2 ?_
              clear hjj hLn
              intro a' w' hw' ha'
              subst hw' ha'
              simp only [Act.put, List.setIfInBounds_toArray, List.set_cons_zero, List.set_cons_succ]
              have SN3 := SN2.below ((Below.refl _ _).drew) 2
              generalize W10.drew = W11 at *
              clear SN2 cl2 cm2
              have HI : Hid (Inv w.heap.size w W11 (tot P k + pk.length) (k + 1) (.slice (some ⟨lb, 0, none⟩) E.length lc) (.slice (some ⟨mb, 0, none⟩) E.length mc)) := by
                have := SN3.inv hCN hN1 hN2 hN3
                rw [hFE] at this
                exact this
              clear SN3 hCN hN1 hN2 hN3
              go_wp2
              go_roundw
              case rel => exact ⟨k + 1, by omega, by go_num, by rw [HT.out]; exact HI.out⟩
              case measure => simp [intOf]; omega
            · rw [e1] at cl2
              rw [e2] at cm2
              clear e1 e2
              go_upto_region 35 with fail
              have hjj := HJ.out
              have hLn := HLn.out
              refine last_some lb lc mb mc E.length jj x1 x2 _ _ _ rfl rfl rfl (by show Value.int _ _ = _; congr 1; omega) (by omega) (by omega) (by omega) cl2 cm2 ?_
              clear hjj hLn
              intro a' w' hw' ha'
              subst hw' ha'
              simp only [Act.put, List.setIfInBounds_toArray, List.set_cons_zero, List.set_cons_succ]
              have SN3 := SN2.below ((Below.refl _ _).drew) 2
              generalize W10.drew = W11 at *
              clear SN2 cl2 cm2
              have HI : Hid (Inv w.heap.size w W11 (tot P k + pk.length) (k + 1) (.slice (some ⟨lb, 0, none⟩) E.length lc) (.slice (some ⟨mb, 0, none⟩) E.length mc)) := by
                have := SN3.inv hCN hN1 hN2 hN3
                rw [hFE] at this
                exact this
              clear SN3 hCN hN1 hN2 hN3
              go_wp2
              go_roundw
              case rel => exact ⟨k + 1, by omega, by go_num, by rw [HT.out]; exact HI.out⟩
              case measure => simp [intOf]; omega
      by_cases k2 : kd = 2
      · subst k2
        obtain ⟨ei, hei⟩ : ∃ e, E[i]? = some e := ⟨_, List.getElem?_eq_getElem hi⟩
        obtain ⟨fi, hfi⟩ : ∃ f, F[i]? = some f := ⟨_, List.getElem?_eq_getElem (by omega)⟩
        have hsm : Small (cL ei) 1048576 := fun m hm => Nat.le_trans (hS _ (List.mem_of_getElem? hei) m hm) (by omega)
        have hcc := map_at hC hei hfi
        obtain ⟨b1, c1, hv1, _, _, _, _, cells1⟩ := S5.l.lt hE1
        simp only [Value.slice.injEq, Option.some.injEq, Addr.mk.injEq, and_true] at hv1
        obtain ⟨rfl, _, rfl⟩ := hv1
        have cl5 := cells1 i ei hei
        obtain ⟨b2, c2, hv2, _, _, _, _, cells2⟩ := S5.m.lt (by omega)
        simp only [Value.slice.injEq, Option.some.injEq, Addr.mk.injEq, and_true] at hv2
        obtain ⟨rfl, _, rfl⟩ := hv2
        have cm5 := cells2 i fi hfi
        clear cells1 cells2
        have CL : ∀ wx, Below W5.heap.size W5 wx → wx.cell? ⟨lb, i, none⟩ = some (.pointer (pa ei)) ∧ wx.cell? ⟨mb, i, none⟩ = some (.pointer (pb fi)) := fun wx hx =>
          ⟨(hx.cell (p := ⟨lb, i, none⟩) (block_lt_of_cell cl5)).trans cl5, (hx.cell (p := ⟨mb, i, none⟩) (block_lt_of_cell cm5)).trans cm5⟩
        have C1 : Hid (∀ wx, Below W5.heap.size W5 wx → Calls Tryd.prog 27 #[.pointer (pa ei)] wx fun e w' => e = .returned (.agg (bs (shaO (cL ei)))) ∧ Below W5.heap.size W5 w') := fun wx hx => ((S5.below hx 2).l.sum hei (keysAt_below hK (S5.below hx 2).b) hsm).mono fun e w' h => ⟨h.1, hx.trans (h.2.mono hx.size)⟩
        have C2 : Hid (∀ wx, Below W5.heap.size W5 wx → Calls Tryd.prog 28 #[.pointer (pb fi)] wx fun e w' => e = .returned (.agg (bs (shaO (cL ei)))) ∧ Below W5.heap.size W5 w') := fun wx hx => ((S5.below hx 2).m.sum hfi (roundsAt_below hR h5 (S5.below hx 2).b) (rootsAt_below hO h5 (S5.below hx 2).b) (Nat.le_trans h5 (S5.below hx 2).z) (by rw [← hcc]; exact hsm)).mono fun e w' h => ⟨by rw [h.1, hcc], hx.trans (h.2.mono hx.size)⟩
        have CH : Hid (∀ wx, Below W5.heap.size W5 wx → wx.cell? ⟨lb, i, none⟩ = some (.pointer (pa ei)) ∧ wx.cell? ⟨mb, i, none⟩ = some (.pointer (pb fi))) := CL
        have C0 : Hid (∀ wx, Below W5.heap.size W5 wx → wx.cell? ⟨g5, 0, none⟩ = some (.int .i64 2)) := fun wx hx => (hx.cell (p := ⟨g5, 0, none⟩) (block_lt_of_cell q50)).trans q50
        have HQ : Hid (∀ wx, (Op.equalIn 10000 24 (.agg (bs (shaO (cL ei)))) (.agg (bs (shaO (cL ei))))).run Tryd.prog wx = .ok true wx) := fun wx => eq24' _ (shaO_len _) wx
        clear CL cl5 cm5 q50 q51 q52 hei hfi
        obtain ⟨TN, EN, FN, SN, hCN, hN1, hN2, hN3⟩ : ∃ TN EN FN, St w.heap.size TN w W5 g5 #[.int .i64 2, .int .i64 wh, .slice ak pk.length ck] (.slice (some ⟨lb, 0, none⟩) E.length lc) (.slice (some ⟨mb, 0, none⟩) F.length mc) EN FN ∧ EN.map cL = FN.map cM ∧ 1 ≤ EN.length ∧ EN.length ≤ k + 2 ∧ (∀ e, e ∈ EN → Small (cL e) (tot P k + pk.length)) :=
          ⟨_, _, _, S5, hC, hE1, by omega, fun e he m hm => Nat.le_trans (hS e he m hm) (by omega)⟩
        clear S5 hS hC
        have hFN : FN.length = EN.length := by have := congrArg List.length hCN; simpa using this.symm
        obtain ⟨lb', lc', hlv', hlc', hlB', hlz', hlT', hlcell'⟩ := SN.l.lt hN1
        obtain ⟨mb', mc', hmv', hmc', hmB', hmz', hmT', hmcell'⟩ := SN.m.lt (by omega)
        rw [hFN] at hmv'
        simp only [Value.slice.injEq, Option.some.injEq, Addr.mk.injEq, and_true] at hlv' hmv'
        obtain ⟨rfl, hLn, rfl⟩ := hlv'
        obtain ⟨rfl, hMn, rfl⟩ := hmv'
        have HLn : Hid (E.length = EN.length) := hLn
        clear hMn hLn
        obtain ⟨q0, q1, q2⟩ := cells_at SN.o
        obtain ⟨jj, hjj⟩ : ∃ jj, EN.length = jj + 1 := ⟨EN.length - 1, by omega⟩
        obtain ⟨e', he'⟩ : ∃ e, EN[jj]? = some e := ⟨_, List.getElem?_eq_getElem (by omega)⟩
        obtain ⟨f', hf'⟩ : ∃ f, FN[jj]? = some f := ⟨_, List.getElem?_eq_getElem (by omega)⟩
        have cl := hlcell' _ e' he'
        have cm := hmcell' _ f' hf'
        have AL := nil_alike (map_at hCN he' hf')
        have HJ : Hid (EN.length = jj + 1) := hjj
        clear hlcell' hmcell' hlB' hlz' hlT' hmB' hmz' hmT' q1 q2 he' hf' hjj
        go_upto_region 32 with fail
        refine sums32 lb lc mb mc E.length i (pa ei) (pb fi) g5 (shaO (cL ei)) _ _ _ rfl rfl rfl rfl rfl hi (by omega) (by omega) CH.out C0.out HQ.out C1.out C2.out ?_
        intro a' W10 BN ha'
        subst ha'
        simp only [Act.put, List.setIfInBounds_toArray, List.set_cons_zero, List.set_cons_succ]
        clear C0 C1 C2 CH HQ
        have SN2 := SN.below BN 2
        have cl2 := (BN.cell (p := ⟨lb, jj, none⟩) (block_lt_of_cell cl)).trans cl
        have cm2 := (BN.cell (p := ⟨mb, jj, none⟩) (block_lt_of_cell cm)).trans cm
        clear cl cm SN q0 BN
        rcases AL with ⟨e1, e2⟩ | ⟨x1, x2, e1, e2⟩
        · rw [e1] at cl2
          rw [e2] at cm2
          clear e1 e2
          go_upto_region 35 with fail
          have hjj := HJ.out
          have hLn := HLn.out
          refine last_nil lb lc mb mc E.length jj _ _ _ rfl rfl rfl (by show Value.int _ _ = _; congr 1; omega) (by omega) (by omega) (by omega) cl2 cm2 ?_
          clear hjj hLn
          intro a' w' hw' ha'
          subst hw' ha'
          simp only [Act.put, List.setIfInBounds_toArray, List.set_cons_zero, List.set_cons_succ]
          have SN3 := SN2.below ((Below.refl _ _).drew) 2
          generalize W10.drew = W11 at *
          clear SN2 cl2 cm2
          have HI : Hid (Inv w.heap.size w W11 (tot P k + pk.length) (k + 1) (.slice (some ⟨lb, 0, none⟩) E.length lc) (.slice (some ⟨mb, 0, none⟩) E.length mc)) := by
            have := SN3.inv hCN hN1 hN2 hN3
            rw [hFE] at this
            exact this
          clear SN3 hCN hN1 hN2 hN3
          go_wp2
          go_roundw
          case rel => exact ⟨k + 1, by omega, by go_num, by rw [HT.out]; exact HI.out⟩
          case measure => simp [intOf]; omega
        · rw [e1] at cl2
          rw [e2] at cm2
          clear e1 e2
          go_upto_region 35 with fail
          have hjj := HJ.out
          have hLn := HLn.out
          refine last_some lb lc mb mc E.length jj x1 x2 _ _ _ rfl rfl rfl (by show Value.int _ _ = _; congr 1; omega) (by omega) (by omega) (by omega) cl2 cm2 ?_
          clear hjj hLn
          intro a' w' hw' ha'
          subst hw' ha'
          simp only [Act.put, List.setIfInBounds_toArray, List.set_cons_zero, List.set_cons_succ]
          have SN3 := SN2.below ((Below.refl _ _).drew) 2
          generalize W10.drew = W11 at *
          clear SN2 cl2 cm2
          have HI : Hid (Inv w.heap.size w W11 (tot P k + pk.length) (k + 1) (.slice (some ⟨lb, 0, none⟩) E.length lc) (.slice (some ⟨mb, 0, none⟩) E.length mc)) := by
            have := SN3.inv hCN hN1 hN2 hN3
            rw [hFE] at this
            exact this
          clear SN3 hCN hN1 hN2 hN3
          go_wp2
          go_roundw
          case rel => exact ⟨k + 1, by omega, by go_num, by rw [HT.out]; exact HI.out⟩
          case measure => simp [intOf]; omega
      by_cases k3 : kd = 3
      · subst k3
        obtain ⟨ei, hei⟩ : ∃ e, E[i]? = some e := ⟨_, List.getElem?_eq_getElem hi⟩
        obtain ⟨fi, hfi⟩ : ∃ f, F[i]? = some f := ⟨_, List.getElem?_eq_getElem (by omega)⟩
        have hsm : Small (cL ei) 1048576 := fun m hm => Nat.le_trans (hS _ (List.mem_of_getElem? hei) m hm) (by omega)
        have hcc := map_at hC hei hfi
        obtain ⟨b1, c1, hv1, _, _, _, _, cells1⟩ := S5.l.lt hE1
        simp only [Value.slice.injEq, Option.some.injEq, Addr.mk.injEq, and_true] at hv1
        obtain ⟨rfl, _, rfl⟩ := hv1
        have cl5 := cells1 i ei hei
        obtain ⟨b2, c2, hv2, _, _, _, _, cells2⟩ := S5.m.lt (by omega)
        simp only [Value.slice.injEq, Option.some.injEq, Addr.mk.injEq, and_true] at hv2
        obtain ⟨rfl, _, rfl⟩ := hv2
        have cm5 := cells2 i fi hfi
        clear cells1 cells2
        have CL : ∀ wx, Below W5.heap.size W5 wx → wx.cell? ⟨lb, i, none⟩ = some (.pointer (pa ei)) ∧ wx.cell? ⟨mb, i, none⟩ = some (.pointer (pb fi)) := fun wx hx =>
          ⟨(hx.cell (p := ⟨lb, i, none⟩) (block_lt_of_cell cl5)).trans cl5, (hx.cell (p := ⟨mb, i, none⟩) (block_lt_of_cell cm5)).trans cm5⟩
        have C1 : ∀ wx, Below W5.heap.size W5 wx → Calls Tryd.prog 23 #[.pointer (pa ei)] wx fun e w' => e = .returned (.int .i64 (lenO (cL ei))) ∧ Below W5.heap.size W5 w' := fun wx hx => ((S5.below hx 2).l.len hei).mono fun e w' h => ⟨h.1, by rw [h.2]; exact hx⟩
        have C2 : ∀ wx, Below W5.heap.size W5 wx → Calls Tryd.prog 24 #[.pointer (pb fi)] wx fun e w' => e = .returned (.int .i64 (lenO (cL ei))) ∧ Below W5.heap.size W5 w' := fun wx hx => ((S5.below hx 2).m.len hfi).mono fun e w' h => ⟨by rw [h.1, hcc], by rw [h.2]; exact hx⟩
        go_upto_region 27 with fail
        refine lens27 lb lc mb mc E.length i (pa ei) (pb fi) (lenO (cL ei)) _ _ _ rfl rfl rfl rfl hi (by omega) (by omega) CL C1 C2 ?_
        intro a' w6 hb6 ha'
        subst ha'
        simp only [Act.put, List.setIfInBounds_toArray, List.set_cons_zero, List.set_cons_succ]
        have S6 := S5.below hb6 2
        clear S5 C1 C2 CL cl5 cm5 hb6 q50 q51 q52 hei hfi
        obtain ⟨TN, EN, FN, SN, hCN, hN1, hN2, hN3⟩ : ∃ TN EN FN, St w.heap.size TN w w6 g5 #[.int .i64 3, .int .i64 wh, .slice ak pk.length ck] (.slice (some ⟨lb, 0, none⟩) E.length lc) (.slice (some ⟨mb, 0, none⟩) F.length mc) EN FN ∧ EN.map cL = FN.map cM ∧ 1 ≤ EN.length ∧ EN.length ≤ k + 2 ∧ (∀ e, e ∈ EN → Small (cL e) (tot P k + pk.length)) :=
          ⟨_, _, _, S6, hC, hE1, by omega, fun e he m hm => Nat.le_trans (hS e he m hm) (by omega)⟩
        clear S6 hS hC
        have hFN : FN.length = EN.length := by have := congrArg List.length hCN; simpa using this.symm
        obtain ⟨lb', lc', hlv', hlc', hlB', hlz', hlT', hlcell'⟩ := SN.l.lt hN1
        obtain ⟨mb', mc', hmv', hmc', hmB', hmz', hmT', hmcell'⟩ := SN.m.lt (by omega)
        rw [hFN] at hmv'
        simp only [Value.slice.injEq, Option.some.injEq, Addr.mk.injEq, and_true] at hlv' hmv'
        obtain ⟨rfl, hLn, rfl⟩ := hlv'
        obtain ⟨rfl, hMn, rfl⟩ := hmv'
        have HLn : Hid (E.length = EN.length) := hLn
        clear hMn hLn
        obtain ⟨q0, q1, q2⟩ := cells_at SN.o
        obtain ⟨jj, hjj⟩ : ∃ jj, EN.length = jj + 1 := ⟨EN.length - 1, by omega⟩
        obtain ⟨e', he'⟩ : ∃ e, EN[jj]? = some e := ⟨_, List.getElem?_eq_getElem (by omega)⟩
        obtain ⟨f', hf'⟩ : ∃ f, FN[jj]? = some f := ⟨_, List.getElem?_eq_getElem (by omega)⟩
        have cl := hlcell' _ e' he'
        have cm := hmcell' _ f' hf'
        have AL := nil_alike (map_at hCN he' hf')
        have HJ : Hid (EN.length = jj + 1) := hjj
        clear hlcell' hmcell' hlB' hlz' hlT' hmB' hmz' hmT' q1 q2 he' hf' hjj
        go_upto_region 32 with fail
        refine skip32 _ _ g5 3 _ rfl rfl q0 (by decide) ?_
        intro a' ha'
        subst ha'
        simp only [Act.put, List.setIfInBounds_toArray, List.set_cons_zero, List.set_cons_succ]
        have BN := (Below.refl w6.heap.size w6).drew
        generalize w6.drew = W10 at *
        have SN2 := SN.below BN 2
        have cl2 := (BN.cell (p := ⟨lb, jj, none⟩) (block_lt_of_cell cl)).trans cl
        have cm2 := (BN.cell (p := ⟨mb, jj, none⟩) (block_lt_of_cell cm)).trans cm
        clear cl cm SN q0 BN
        rcases AL with ⟨e1, e2⟩ | ⟨x1, x2, e1, e2⟩
        · rw [e1] at cl2
          rw [e2] at cm2
          clear e1 e2
          go_upto_region 35 with fail
          have hjj := HJ.out
          have hLn := HLn.out
          refine last_nil lb lc mb mc E.length jj _ _ _ rfl rfl rfl (by show Value.int _ _ = _; congr 1; omega) (by omega) (by omega) (by omega) cl2 cm2 ?_
          clear hjj hLn
          intro a' w' hw' ha'
          subst hw' ha'
          simp only [Act.put, List.setIfInBounds_toArray, List.set_cons_zero, List.set_cons_succ]
          have SN3 := SN2.below ((Below.refl _ _).drew) 2
          generalize W10.drew = W11 at *
          clear SN2 cl2 cm2
          have HI : Hid (Inv w.heap.size w W11 (tot P k + pk.length) (k + 1) (.slice (some ⟨lb, 0, none⟩) E.length lc) (.slice (some ⟨mb, 0, none⟩) E.length mc)) := by
            have := SN3.inv hCN hN1 hN2 hN3
            rw [hFE] at this
            exact this
          clear SN3 hCN hN1 hN2 hN3
          go_wp2
          go_roundw
          case rel => exact ⟨k + 1, by omega, by go_num, by rw [HT.out]; exact HI.out⟩
          case measure => simp [intOf]; omega
        · rw [e1] at cl2
          rw [e2] at cm2
          clear e1 e2
          go_upto_region 35 with fail
          have hjj := HJ.out
          have hLn := HLn.out
          refine last_some lb lc mb mc E.length jj x1 x2 _ _ _ rfl rfl rfl (by show Value.int _ _ = _; congr 1; omega) (by omega) (by omega) (by omega) cl2 cm2 ?_
          clear hjj hLn
          intro a' w' hw' ha'
          subst hw' ha'
          simp only [Act.put, List.setIfInBounds_toArray, List.set_cons_zero, List.set_cons_succ]
          have SN3 := SN2.below ((Below.refl _ _).drew) 2
          generalize W10.drew = W11 at *
          clear SN2 cl2 cm2
          have HI : Hid (Inv w.heap.size w W11 (tot P k + pk.length) (k + 1) (.slice (some ⟨lb, 0, none⟩) E.length lc) (.slice (some ⟨mb, 0, none⟩) E.length mc)) := by
            have := SN3.inv hCN hN1 hN2 hN3
            rw [hFE] at this
            exact this
          clear SN3 hCN hN1 hN2 hN3
          go_wp2
          go_roundw
          case rel => exact ⟨k + 1, by omega, by go_num, by rw [HT.out]; exact HI.out⟩
          case measure => simp [intOf]; omega
      by_cases k4 : kd = 4
      · subst k4
        obtain ⟨ei, hei⟩ : ∃ e, E[i]? = some e := ⟨_, List.getElem?_eq_getElem hi⟩
        obtain ⟨fi, hfi⟩ : ∃ f, F[i]? = some f := ⟨_, List.getElem?_eq_getElem (by omega)⟩
        have hsm : Small (cL ei) (tot P k) := hS _ (List.mem_of_getElem? hei)
        have hcc := map_at hC hei hfi
        obtain ⟨b1, c1, hv1, _, _, _, _, cells1⟩ := S5.l.lt hE1
        simp only [Value.slice.injEq, Option.some.injEq, Addr.mk.injEq, and_true] at hv1
        obtain ⟨rfl, _, rfl⟩ := hv1
        have cl5 := cells1 i ei hei
        clear cells1
        go_wp2_with fail
        refine (S5.l.fork hei S5.z).mono ?_
        rintro e w6 ⟨x, rfl, hcx, b6, hx⟩
        have S6 := S5.below b6 (2 * E.length + 4)
        have hx6 : ∀ g m, x = some (g, m) → Rep w6 g m ∧ w.heap.size ≤ g ∧ nw T5 W5 (2 * E.length + 4) g = 2 * E.length + 4 := fun g m e => by
          obtain ⟨h1, h2, h3⟩ := hx g m e
          exact ⟨h1, h2, nw_new h3⟩
        generalize nw T5 W5 (2 * E.length + 4) = T6 at *
        clear S5 b6 hx cl5 q50 q51 q52
        have SA := S6.below ((Below.refl _ _).alloc (Nat.le_refl _) (.cells #[.pointer (pa x)] 35)) 2
        have hxa : ∀ g m, x = some (g, m) → Rep (w6.alloc (.cells #[.pointer (pa x)] 35)) g m ∧ w.heap.size ≤ g ∧ nw T6 w6 2 g = 2 * E.length + 4 := fun g m e => by
          obtain ⟨h1, h2, h3⟩ := hx6 g m e
          exact ⟨rep_below h1 ((Below.refl _ _).alloc (Nat.le_refl _) _), h2, by rw [nw_old (rep_lt h1)]; exact h3⟩
        have pA : (w6.alloc (.cells #[.pointer (pa x)] 35)).cell? ⟨w6.heap.size, 0, none⟩ = some (.pointer (pa x)) := cell_of_row _ _ 0 _ _ _ (heap_alloc_new _ _)
        have HO : Hid ((w6.alloc (.cells #[.pointer (pa x)] 35)).ownsRow w.heap.size 35 1 (.slice (some ⟨lb, 0, none⟩) E.length lc) E.length (E.map pl)) := by
          have := SA.l.own
          exact this
        have HZ : Hid (w.heap.size ≤ (w6.alloc (.cells #[.pointer (pa x)] 35)).heap.size) := SA.z
        go_wp2_with (first | (at_builtin; refine wpList_appL rfl (.tmp 101) (.tmp 107) rfl w.heap.size (.slice (some ⟨lb, 0, none⟩) E.length lc) E.length (E.map pl) rfl HO.out w6.heap.size 1 (pa x) rfl pA HE.out HZ.out ?_) | fail)
        intro lv7 w7 ownA grA atA
        have S7 := SA.appL x hxa ownA grA (by simpa using atA)
        clear HO HZ SA ownA grA atA pA S6 hxa hx6
        generalize nw (nw T6 w6 2) (w6.alloc (.cells #[.pointer (pa x)] 35)) 0 = T7 at *
        obtain ⟨b2, c2, hv2, _, _, _, _, cells2⟩ := S7.m.lt (by omega)
        rw [hFE] at hv2
        simp only [Value.slice.injEq, Option.some.injEq, Addr.mk.injEq, and_true] at hv2
        obtain ⟨rfl, _, rfl⟩ := hv2
        have cm7 := cells2 i fi hfi
        clear cells2
        go_wp2_with fail
        refine (S7.m.fork hfi (by rw [← hcc]; exact fun m hm => Nat.le_trans (hsm m hm) (by omega)) S7.z).mono ?_
        rintro e w8 ⟨y, rfl, hcy, b8, hy⟩
        have S8 := S7.below b8 (2 * F.length + 5)
        have hy8 : ∀ g v m, y = some (g, v, m) → RR w.heap.size w8 g v m ∧ w.heap.size ≤ g ∧ nw T7 w7 (2 * F.length + 5) g = 2 * F.length + 5 ∧ ∀ b, v.ownBlock = some b → nw T7 w7 (2 * F.length + 5) b = 2 * F.length + 5 := fun g v m e => by
          obtain ⟨h1, h2, h3, h4⟩ := hy g v m e
          exact ⟨h1, h2, nw_new h3, fun b hb => nw_new (h4 b hb)⟩
        generalize nw T7 w7 (2 * F.length + 5) = T8 at *
        clear S7 b8 hy cm7
        have SA := S8.below ((Below.refl _ _).alloc (Nat.le_refl _) (.cells #[.pointer (pb y)] 38)) 2
        have hxa : ∀ g v m, y = some (g, v, m) → RR w.heap.size (w8.alloc (.cells #[.pointer (pb y)] 38)) g v m ∧ w.heap.size ≤ g ∧ nw T8 w8 2 g = 2 * F.length + 5 ∧ ∀ b, v.ownBlock = some b → nw T8 w8 2 b = 2 * F.length + 5 := fun g v m e => by
          obtain ⟨h1, h2, h3, h4⟩ := hy8 g v m e
          have bb := (Below.refl w8.heap.size w8).alloc (Nat.le_refl _) (.cells #[.pointer (pb y)] 38)
          exact ⟨h1.keep (bb.block g h1.lt) fun b hb => bb.block b (World.ownsRow.lt h1.2 b hb).2, h2, by rw [nw_old h1.lt]; exact h3, fun b hb => by rw [nw_old (World.ownsRow.lt h1.2 b hb).2]; exact h4 b hb⟩
        have pA : (w8.alloc (.cells #[.pointer (pb y)] 38)).cell? ⟨w8.heap.size, 0, none⟩ = some (.pointer (pb y)) := cell_of_row _ _ 0 _ _ _ (heap_alloc_new _ _)
        have HO : Hid ((w8.alloc (.cells #[.pointer (pb y)] 38)).ownsRow w.heap.size 38 1 (.slice (some ⟨mb, 0, none⟩) E.length mc) E.length (F.map pm)) := by
          have := SA.m.own
          rw [hFE] at this
          exact this
        have HZ : Hid (w.heap.size ≤ (w8.alloc (.cells #[.pointer (pb y)] 38)).heap.size) := SA.z
        go_wp2_with (first | (at_builtin; refine wpList_appM rfl (.tmp 109) (.tmp 115) rfl w.heap.size (.slice (some ⟨mb, 0, none⟩) E.length mc) E.length (F.map pm) rfl HO.out w8.heap.size 1 (pb y) rfl pA HE.out HZ.out ?_) | fail)
        intro mv9 w9 ownA grA atA
        have S9 := SA.appM y hxa (by rw [hFE]; exact ownA) (by rw [hFE]; exact grA) (by rw [hFE]; simpa using atA)
        clear HO HZ SA ownA grA atA pA S8 hxa hy8
        obtain ⟨TN, EN, FN, SN, hCN, hN1, hN2, hN3⟩ : ∃ TN EN FN, St w.heap.size TN w w9 g5 #[.int .i64 4, .int .i64 wh, .slice ak pk.length ck] lv7 mv9 EN FN ∧ EN.map cL = FN.map cM ∧ 1 ≤ EN.length ∧ EN.length ≤ k + 2 ∧ (∀ e, e ∈ EN → Small (cL e) (tot P k + pk.length)) :=
          ⟨_, _, _, S9, by simp [hC, hcx, hcy, hcc], by simp, by simp; omega, fun e he => by
            rcases List.mem_append.1 he with he | he
            · exact fun m hm => Nat.le_trans (hS e he m hm) (by omega)
            · simp at he; subst he; exact fun m hm => Nat.le_trans (hsm m (by rw [← hcx]; exact hm)) (by omega)⟩
        clear S9 hS hC
        have hFN : FN.length = EN.length := by have := congrArg List.length hCN; simpa using this.symm
        obtain ⟨lb', lc', hlv', hlc', hlB', hlz', hlT', hlcell'⟩ := SN.l.lt hN1
        obtain ⟨mb', mc', hmv', hmc', hmB', hmz', hmT', hmcell'⟩ := SN.m.lt (by omega)
        rw [hFN] at hmv'
        subst hlv' hmv'
        obtain ⟨q0, q1, q2⟩ := cells_at SN.o
        obtain ⟨jj, hjj⟩ : ∃ jj, EN.length = jj + 1 := ⟨EN.length - 1, by omega⟩
        obtain ⟨e', he'⟩ : ∃ e, EN[jj]? = some e := ⟨_, List.getElem?_eq_getElem (by omega)⟩
        obtain ⟨f', hf'⟩ : ∃ f, FN[jj]? = some f := ⟨_, List.getElem?_eq_getElem (by omega)⟩
        have cl := hlcell' _ e' he'
        have cm := hmcell' _ f' hf'
        have AL := nil_alike (map_at hCN he' hf')
        have HJ : Hid (EN.length = jj + 1) := hjj
        clear hlcell' hmcell' hlB' hlz' hlT' hmB' hmz' hmT' q1 q2 he' hf' hjj
        go_upto_region 32 with fail
        refine skip32 _ _ g5 4 _ rfl rfl q0 (by decide) ?_
        intro a' ha'
        subst ha'
        simp only [Act.put, List.setIfInBounds_toArray, List.set_cons_zero, List.set_cons_succ]
        have BN := (Below.refl w9.heap.size w9).drew
        generalize w9.drew = W10 at *
        have SN2 := SN.below BN 2
        have cl2 := (BN.cell (p := ⟨lb', jj, none⟩) (block_lt_of_cell cl)).trans cl
        have cm2 := (BN.cell (p := ⟨mb', jj, none⟩) (block_lt_of_cell cm)).trans cm
        clear cl cm SN q0 BN
        rcases AL with ⟨e1, e2⟩ | ⟨x1, x2, e1, e2⟩
        · rw [e1] at cl2
          rw [e2] at cm2
          clear e1 e2
          go_upto_region 35 with fail
          have hjj := HJ.out
          refine last_nil lb' lc' mb' mc' EN.length jj _ _ _ rfl rfl rfl (by show Value.int _ _ = _; congr 1; omega) (by omega) (by omega) (by omega) cl2 cm2 ?_
          clear hjj
          intro a' w' hw' ha'
          subst hw' ha'
          simp only [Act.put, List.setIfInBounds_toArray, List.set_cons_zero, List.set_cons_succ]
          have SN3 := SN2.below ((Below.refl _ _).drew) 2
          generalize W10.drew = W11 at *
          clear SN2 cl2 cm2
          have HI : Hid (Inv w.heap.size w W11 (tot P k + pk.length) (k + 1) (.slice (some ⟨lb', 0, none⟩) EN.length lc') (.slice (some ⟨mb', 0, none⟩) EN.length mc')) := by
            have := SN3.inv hCN hN1 hN2 hN3
            exact this
          clear SN3 hCN hN1 hN2 hN3
          go_wp2
          go_roundw
          case rel => exact ⟨k + 1, by omega, by go_num, by rw [HT.out]; exact HI.out⟩
          case measure => simp [intOf]; omega
        · rw [e1] at cl2
          rw [e2] at cm2
          clear e1 e2
          go_upto_region 35 with fail
          have hjj := HJ.out
          refine last_some lb' lc' mb' mc' EN.length jj x1 x2 _ _ _ rfl rfl rfl (by show Value.int _ _ = _; congr 1; omega) (by omega) (by omega) (by omega) cl2 cm2 ?_
          clear hjj
          intro a' w' hw' ha'
          subst hw' ha'
          simp only [Act.put, List.setIfInBounds_toArray, List.set_cons_zero, List.set_cons_succ]
          have SN3 := SN2.below ((Below.refl _ _).drew) 2
          generalize W10.drew = W11 at *
          clear SN2 cl2 cm2
          have HI : Hid (Inv w.heap.size w W11 (tot P k + pk.length) (k + 1) (.slice (some ⟨lb', 0, none⟩) EN.length lc') (.slice (some ⟨mb', 0, none⟩) EN.length mc')) := by
            have := SN3.inv hCN hN1 hN2 hN3
            exact this
          clear SN3 hCN hN1 hN2 hN3
          go_wp2
          go_roundw
          case rel => exact ⟨k + 1, by omega, by go_num, by rw [HT.out]; exact HI.out⟩
          case measure => simp [intOf]; omega
      have SA := S5.below ((Below.refl _ _).alloc (Nat.le_refl _) (.cells #[.pointer (none)] 35)) 2
      have pA : (W5.alloc (.cells #[.pointer (none)] 35)).cell? ⟨W5.heap.size, 0, none⟩ = some (.pointer (none)) := cell_of_row _ _ 0 _ _ _ (heap_alloc_new _ _)
      have HO : Hid ((W5.alloc (.cells #[.pointer (none)] 35)).ownsRow w.heap.size 35 1 (.slice (some ⟨lb, 0, none⟩) E.length lc) E.length (E.map pl)) := by
        have := SA.l.own
        exact this
      have HZ : Hid (w.heap.size ≤ (W5.alloc (.cells #[.pointer (none)] 35)).heap.size) := SA.z
      go_wp2_with (first | (at_builtin; refine wpList_appL rfl (.tmp 33) (.tmp 34) rfl w.heap.size (.slice (some ⟨lb, 0, none⟩) E.length lc) E.length (E.map pl) rfl HO.out W5.heap.size 1 (none) rfl pA HE.out HZ.out ?_) | fail)
      intro lv7 w7 ownA grA atA
      have S7 := SA.appL none (fun g m e => by cases e) ownA grA (by simpa using atA)
      clear HO HZ SA ownA grA atA pA S5
      have SA := S7.below ((Below.refl _ _).alloc (Nat.le_refl _) (.cells #[.pointer (none)] 38)) 2
      have pA : (w7.alloc (.cells #[.pointer (none)] 38)).cell? ⟨w7.heap.size, 0, none⟩ = some (.pointer (none)) := cell_of_row _ _ 0 _ _ _ (heap_alloc_new _ _)
      have HO : Hid ((w7.alloc (.cells #[.pointer (none)] 38)).ownsRow w.heap.size 38 1 (.slice (some ⟨mb, 0, none⟩) E.length mc) E.length (F.map pm)) := by
        have := SA.m.own
        rw [hFE] at this
        exact this
      have HZ : Hid (w.heap.size ≤ (w7.alloc (.cells #[.pointer (none)] 38)).heap.size) := SA.z
      go_wp2_with (first | (at_builtin; refine wpList_appM rfl (.tmp 36) (.tmp 37) rfl w.heap.size (.slice (some ⟨mb, 0, none⟩) E.length mc) E.length (F.map pm) rfl HO.out w7.heap.size 1 (none) rfl pA HE.out HZ.out ?_) | fail)
      intro mv9 w9 ownA grA atA
      have S9 := SA.appM none (fun g v m e => by cases e) (by rw [hFE]; exact ownA) (by rw [hFE]; exact grA) (by rw [hFE]; simpa using atA)
      clear HO HZ SA ownA grA atA pA S7
      clear q50 q51 q52
      obtain ⟨TN, EN, FN, SN, hCN, hN1, hN2, hN3⟩ : ∃ TN EN FN, St w.heap.size TN w w9 g5 #[.int .i64 kd, .int .i64 wh, .slice ak pk.length ck] lv7 mv9 EN FN ∧ EN.map cL = FN.map cM ∧ 1 ≤ EN.length ∧ EN.length ≤ k + 2 ∧ (∀ e, e ∈ EN → Small (cL e) (tot P k + pk.length)) :=
        ⟨_, _, _, S9, by simp [hC, cL, cM], by simp, by simp; omega, fun e he => by
          rcases List.mem_append.1 he with he | he
          · exact fun m hm => Nat.le_trans (hS e he m hm) (by omega)
          · simp at he; subst he; exact fun m hm => by cases hm⟩
      clear S9 hS hC
      have hFN : FN.length = EN.length := by have := congrArg List.length hCN; simpa using this.symm
      obtain ⟨lb', lc', hlv', hlc', hlB', hlz', hlT', hlcell'⟩ := SN.l.lt hN1
      obtain ⟨mb', mc', hmv', hmc', hmB', hmz', hmT', hmcell'⟩ := SN.m.lt (by omega)
      rw [hFN] at hmv'
      subst hlv' hmv'
      obtain ⟨q0, q1, q2⟩ := cells_at SN.o
      obtain ⟨jj, hjj⟩ : ∃ jj, EN.length = jj + 1 := ⟨EN.length - 1, by omega⟩
      obtain ⟨e', he'⟩ : ∃ e, EN[jj]? = some e := ⟨_, List.getElem?_eq_getElem (by omega)⟩
      obtain ⟨f', hf'⟩ : ∃ f, FN[jj]? = some f := ⟨_, List.getElem?_eq_getElem (by omega)⟩
      have cl := hlcell' _ e' he'
      have cm := hmcell' _ f' hf'
      have AL := nil_alike (map_at hCN he' hf')
      have HJ : Hid (EN.length = jj + 1) := hjj
      clear hlcell' hmcell' hlB' hlz' hlT' hmB' hmz' hmT' q1 q2 he' hf' hjj
      go_upto_region 32 with fail
      refine skip32 _ _ g5 kd _ rfl rfl q0 k2 ?_
      intro a' ha'
      subst ha'
      simp only [Act.put, List.setIfInBounds_toArray, List.set_cons_zero, List.set_cons_succ]
      have BN := (Below.refl w9.heap.size w9).drew
      generalize w9.drew = W10 at *
      have SN2 := SN.below BN 2
      have cl2 := (BN.cell (p := ⟨lb', jj, none⟩) (block_lt_of_cell cl)).trans cl
      have cm2 := (BN.cell (p := ⟨mb', jj, none⟩) (block_lt_of_cell cm)).trans cm
      clear cl cm SN q0 BN
      rcases AL with ⟨e1, e2⟩ | ⟨x1, x2, e1, e2⟩
      · rw [e1] at cl2
        rw [e2] at cm2
        clear e1 e2
        go_upto_region 35 with fail
        have hjj := HJ.out
        refine last_nil lb' lc' mb' mc' EN.length jj _ _ _ rfl rfl rfl (by show Value.int _ _ = _; congr 1; omega) (by omega) (by omega) (by omega) cl2 cm2 ?_
        clear hjj
        intro a' w' hw' ha'
        subst hw' ha'
        simp only [Act.put, List.setIfInBounds_toArray, List.set_cons_zero, List.set_cons_succ]
        have SN3 := SN2.below ((Below.refl _ _).drew) 2
        generalize W10.drew = W11 at *
        clear SN2 cl2 cm2
        have HI : Hid (Inv w.heap.size w W11 (tot P k + pk.length) (k + 1) (.slice (some ⟨lb', 0, none⟩) EN.length lc') (.slice (some ⟨mb', 0, none⟩) EN.length mc')) := by
          have := SN3.inv hCN hN1 hN2 hN3
          exact this
        clear SN3 hCN hN1 hN2 hN3
        go_wp2
        go_roundw
        case rel => exact ⟨k + 1, by omega, by go_num, by rw [HT.out]; exact HI.out⟩
        case measure => simp [intOf]; omega
      · rw [e1] at cl2
        rw [e2] at cm2
        clear e1 e2
        go_upto_region 35 with fail
        have hjj := HJ.out
        refine last_some lb' lc' mb' mc' EN.length jj x1 x2 _ _ _ rfl rfl rfl (by show Value.int _ _ = _; congr 1; omega) (by omega) (by omega) (by omega) cl2 cm2 ?_
        clear hjj
        intro a' w' hw' ha'
        subst hw' ha'
        simp only [Act.put, List.setIfInBounds_toArray, List.set_cons_zero, List.set_cons_succ]
        have SN3 := SN2.below ((Below.refl _ _).drew) 2
        generalize W10.drew = W11 at *
        clear SN2 cl2 cm2
        have HI : Hid (Inv w.heap.size w W11 (tot P k + pk.length) (k + 1) (.slice (some ⟨lb', 0, none⟩) EN.length lc') (.slice (some ⟨mb', 0, none⟩) EN.length mc')) := by
          have := SN3.inv hCN hN1 hN2 hN3
          exact this
        clear SN3 hCN hN1 hN2 hN3
        go_wp2
        go_roundw
        case rel => exact ⟨k + 1, by omega, by go_num, by rw [HT.out]; exact HI.out⟩
        case measure => simp [intOf]; omega
    · obtain rfl : k = n := by omega
      obtain ⟨T, E, F, hL, hM, hC, hE1, hEk, hS, hbw, hz⟩ := IN
      have htn := htot k hk
      have hFE : F.length = E.length := by have := congrArg List.length hC; simpa using this.symm
      obtain ⟨lb, lc, rfl, hlc, hlB, hlz, hlT, hlcell⟩ := hL.lt hE1
      obtain ⟨mb, mc, hmv, hmc, hmB, hmz, hmT, hmcell⟩ := hM.lt (by omega)
      rw [hFE] at hmv
      subst hmv
      clear hp htot hlB hmB hlT hmT h1
      go_wp2
      go_loopw [11] (fun ii wr2 => ∃ t : Nat, t ≤ E.length ∧ ii = .int .i64 t ∧ Below wr.heap.size wr wr2) (fun ii _ => E.length - (intOf ii).toNat)
      case atStart => exact ⟨0, Nat.zero_le _, rfl, Below.refl _ _⟩
      case round =>
        obtain ⟨t, ht, rfl, bb⟩ := hrel
        by_cases h2 : t < E.length
        · obtain ⟨ei, hei⟩ : ∃ e, E[t]? = some e := ⟨_, List.getElem?_eq_getElem h2⟩
          obtain ⟨fi, hfi⟩ : ∃ f, F[t]? = some f := ⟨_, List.getElem?_eq_getElem (by omega)⟩
          have hsm : Small (cL ei) 1048576 := fun m hm => Nat.le_trans (hS _ (List.mem_of_getElem? hei) m hm) htn
          have hcc := map_at hC hei hfi
          have cl := (bb.cell (p := ⟨lb, t, none⟩) hlz).trans (hlcell t ei hei)
          have cm := (bb.cell (p := ⟨mb, t, none⟩) hmz).trans (hmcell t fi hfi)
          have hL2 := hL.below bb 2
          have hM2 := hM.below bb 2
          have hbw2 := hbw.trans (bb.mono hz)
          have hz2 := Nat.le_trans hz bb.size
          have CL : Hid (∀ wx, Below wr.heap.size wr wx → wx.cell? ⟨lb, t, none⟩ = some (.pointer (pa ei)) ∧ wx.cell? ⟨mb, t, none⟩ = some (.pointer (pb fi))) := fun wx hx =>
            ⟨(hx.cell (p := ⟨lb, t, none⟩) (block_lt_of_cell cl)).trans cl, (hx.cell (p := ⟨mb, t, none⟩) (block_lt_of_cell cm)).trans cm⟩
          have C1 : Hid (∀ wx, Below wr.heap.size wr wx → Calls Tryd.prog 27 #[.pointer (pa ei)] wx fun e w' => e = .returned (.agg (bs (shaO (cL ei)))) ∧ Below wr.heap.size wr w') := fun wx hx => ((hL2.below hx 2).sum hei (keysAt_below hK (hbw2.trans (hx.mono hz2))) hsm).mono fun e w' h => ⟨h.1, hx.trans (h.2.mono hx.size)⟩
          have C2 : Hid (∀ wx, Below wr.heap.size wr wx → Calls Tryd.prog 28 #[.pointer (pb fi)] wx fun e w' => e = .returned (.agg (bs (shaO (cL ei)))) ∧ Below wr.heap.size wr w') := fun wx hx => ((hM2.below hx 2).sum hfi (roundsAt_below hR h5 (hbw2.trans (hx.mono hz2))) (rootsAt_below hO h5 (hbw2.trans (hx.mono hz2))) (Nat.le_trans h5 (Nat.le_trans hz2 hx.size)) (by rw [← hcc]; exact hsm)).mono fun e w' h => ⟨by rw [h.1, hcc], hx.trans (h.2.mono hx.size)⟩
          have C3 : Hid (∀ wx, Below wr.heap.size wr wx → Calls Tryd.prog 23 #[.pointer (pa ei)] wx fun e w' => e = .returned (.int .i64 (lenO (cL ei))) ∧ Below wr.heap.size wr w') := fun wx hx => ((hL2.below hx 2).len hei).mono fun e w' h => ⟨h.1, by rw [h.2]; exact hx⟩
          have C4 : Hid (∀ wx, Below wr.heap.size wr wx → Calls Tryd.prog 24 #[.pointer (pb fi)] wx fun e w' => e = .returned (.int .i64 (lenO (cL ei))) ∧ Below wr.heap.size wr w') := fun wx hx => ((hM2.below hx 2).len hfi).mono fun e w' h => ⟨by rw [h.1, hcc], by rw [h.2]; exact hx⟩
          have HQ : Hid (∀ wx, (Op.equalIn 10000 24 (.agg (bs (shaO (cL ei)))) (.agg (bs (shaO (cL ei))))).run Tryd.prog wx = .ok true wx) := fun wx => eq24' _ (shaO_len _) wx
          clear hL2 hM2 hbw2 hz2 cl cm hlcell hmcell hL hM
          go_upto_region 41 with fail
          refine both41 lb lc mb mc E.length t (pa ei) (pb fi) (lenO (cL ei)) (shaO (cL ei)) _ _ _ rfl rfl rfl rfl h2 (by omega) (by omega) CL.out HQ.out C1.out C2.out C3.out C4.out ?_
          intro a' w' hb' ha'
          subst ha'
          simp only [Act.put, List.setIfInBounds_toArray, List.set_cons_zero, List.set_cons_succ]
          clear CL C1 C2 C3 C4 HQ
          go_wp2
          go_roundw
          case rel => exact ⟨t + 1, by omega, by go_num, bb.trans (hb'.mono bb.size)⟩
          case measure => simp [intOf]; omega
        · have FIN := hbw.trans (bb.mono hz)
          clear hlcell hmcell hL hM
          go_wp2
          go_ret
          exact ⟨rfl, FIN⟩
end Go.Proofs.YtpmdlhlojifoeaaDoor
