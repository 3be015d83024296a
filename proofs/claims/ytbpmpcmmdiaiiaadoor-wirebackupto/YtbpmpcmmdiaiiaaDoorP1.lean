import Derived.Test.YtbpmpcmmdiaiiaaDoorP0
import Derived.Lib.BufferMore
namespace Go.Proofs.YtbpmpcmmdiaiiaaDoor.K
open Go.RowKit
set_option linter.unusedVariables false
set_option linter.unusedSimpArgs false

theorem made_bs (n : Nat) : madeCells #[.int .u8 0] n = bs (List.replicate n 0) := by
  apply Array.ext
  · simp [madeCells, bs]
  · intro i h1 h2
    simp [madeCells, bs, Nat.mod_one]
set_option maxHeartbeats 2000000 in
/-- The same bytes at two places. -/
theorem same_any (a1 a2 : Option Addr) (l : List UInt8) (n c1 c2 : Nat) (w : World) (hn : l.length = n) (h1 : Byt w a1 l) (h2 : Byt w a2 l) (hl : n ≤ 140737488351232) :
    Calls Tryd.prog 19 #[.slice a1 n c1, .slice a2 n c2] w fun e w' => e = .returned (.bool true) ∧ ∃ m, w' = w.drewN m := by
  subst hn
  go_enter Tryd.func19, Tryd.ntmps19
  go_wp2
  go_loopw [5] (fun i wr => ∃ k : Nat, k ≤ l.length ∧ i = .int .i64 k ∧ ∃ m, wr = w.drewN m) (fun i _ => l.length - (intOf i).toNat)
  case atStart => exact ⟨0, Nat.zero_le _, rfl, 0, rfl⟩
  case round =>
    obtain ⟨k, hk, rfl, m, rfl⟩ := hrel
    by_cases hlt : k < l.length
    · rcases h1 with rfl | ⟨b1, o1, rfl, d1⟩
      · simp at hlt
      rcases h2 with rfl | ⟨b2, o2, rfl, d2⟩
      · simp at hlt
      have e1 := d1 k hlt
      have e2 := d2 k hlt
      go_wp2
      go_quiet (fail)
      go_wp2
      go_roundw
      case rel => exact ⟨k + 1, by omega, by go_num, _, rfl⟩
      case measure => simp [intOf]; omega
    · have hk2 : k = l.length := by omega
      subst hk2
      go_wp2
      go_ret
      exact ⟨rfl, m, rfl⟩

/-- The marks behind what is handed in. -/
def marks : List UInt8 := [160, 161, 162, 163, 164, 165, 166, 167, 168]
/-- What is handed in, with its marks, as far as place k. -/
def handTo (l : List UInt8) (k : Nat) : List UInt8 := (l ++ marks).take k ++ List.replicate (l.length + 9 - k) 0
theorem handTo_len (l : List UInt8) (k : Nat) (h : k ≤ l.length + 9) : (handTo l k).length = l.length + 9 := by
  simp [handTo, marks]; omega
theorem handTo_zero (l : List UInt8) : handTo l 0 = List.replicate (l.length + 9) 0 := by simp [handTo]
theorem handTo_all (l : List UInt8) : handTo l (l.length + 9) = l ++ marks := by
  unfold handTo
  rw [List.take_of_length_le (by simp [marks])]
  simp
theorem handTo_succ (l : List UInt8) (k : Nat) (v : UInt8) (h : k < l.length + 9) (hv : (l ++ marks).getD k 0 = v) : (handTo l k).set k v = handTo l (k + 1) := by
  have hL : k < (l ++ marks).length := by simp [marks]; omega
  unfold handTo
  have e : l.length + 9 - k = (l.length + 9 - (k + 1)) + 1 := by omega
  have e1 : ((l ++ marks).take k).length = k := by rw [List.length_take]; omega
  rw [e, List.replicate_succ, List.set_append_right _ _ (by omega), e1, Nat.sub_self, List.take_succ_eq_append_getElem hL]
  have e2 : (l ++ marks)[k] = v := by rw [← hv]; simp [List.getElem?_eq_getElem hL]
  rw [e2]
  simp
theorem mark_at (l : List UInt8) (k : Nat) (h : k < 9) : at8 (l ++ marks) (l.length + k) = 160 + (k : Int) := by
  have e : (l ++ marks).getD (l.length + k) 0 = marks.getD k 0 := by
    simp [List.getElem?_append_right]
  unfold at8
  rw [e]
  have : ∀ k : Fin 9, (((marks.getD k.val 0).toNat : Nat) : Int) = 160 + (k.val : Int) := by decide
  exact this ⟨k, h⟩
theorem own_at (l : List UInt8) (k : Nat) (h : k < l.length) : at8 (l ++ marks) k = at8 l k := by
  simp [at8, List.getElem?_append_left h]

set_option maxHeartbeats 2000000 in
theorem hand_any (a : Option Addr) (l : List UInt8) (cap : Nat) (w : World) (hb : Byt w a l) (hl : l.length ≤ 140737488351232) :
    Calls Tryd.prog 31 #[.slice a l.length cap] w fun e w' => e = .returned (.slice (some ⟨w.heap.size, 0, none⟩) l.length (l.length + 9)) ∧ w'.heap[w.heap.size]? = some (.cells (bs (l ++ marks)) 5 (0, 0)) ∧ Below w.heap.size w w' := by
  have hmk := fun wx => run_make_row' (P := Tryd.prog) 29 5 (.int .u8 0) 1 Tryd.underlying29 info5k rfl .i64 .i64 (l.length + 9) (by omega) (by omega) wx
  rw [made_bs] at hmk
  have hc1 : ((l.length + 9 : Nat) : Int) = (l.length : Int) + 9 := by omega
  rw [hc1] at hmk
  go_enter Tryd.func31, Tryd.ntmps31
  go_wp2
  clear hmk
  go_loopw [4] (fun i wr => ∃ k : Nat, k ≤ l.length ∧ i = .int .i64 k ∧ wr.heap[w.heap.size]? = some (.cells (bs (handTo l k)) 5 (0, 0)) ∧ Below w.heap.size w wr) (fun i _ => l.length - (intOf i).toNat)
  case atStart => exact ⟨0, Nat.zero_le _, rfl, by rw [handTo_zero]; exact heap_alloc_new _ _, (Below.refl _ _).alloc (Nat.le_refl _) _⟩
  case round =>
    obtain ⟨k, hk, rfl, hg, hbel⟩ := hrel
    have hlt : w.heap.size < wr.heap.size := (Array.getElem?_eq_some_iff.1 hg).1
    by_cases h1 : k < l.length
    · have hc := (cell_of_row wr w.heap.size k _ _ _ hg).trans (bs_get _ k (by rw [handTo_len _ _ (by omega)]; omega))
      have hf := frozen_of_row wr w.heap.size k _ _ hg
      rcases hb with rfl | ⟨b, off, rfl, hcc⟩
      · simp at h1
      · have d1 := (hbel.cell (p := ⟨b, off + k, none⟩) (block_lt_of_cell (hcc k h1))).trans (hcc k h1)
        go_wp2
        go_roundw
        case rel =>
          refine ⟨k + 1, by omega, by go_num, ?_, ?_⟩
          · show (wr.setCell _ _).heap[_]? = _
            rw [heap_setCell_same wr w.heap.size k _ 5 _ hg]
            unfold at8
            rw [bs_set, handTo_succ _ _ _ (by omega) (by simp [List.getElem?_append_left h1])]
          · exact (hbel.setCell (by simp) _)
        case measure => simp [intOf]; omega
    · have hk2 : k = l.length := by omega
      subst hk2
      clear h1 hk
      go_wp2
      go_loopw [5] (fun i wq => ∃ k : Nat, k ≤ 9 ∧ i = .int .i64 ((l.length : Int) + k) ∧ wq.heap[w.heap.size]? = some (.cells (bs (handTo l (l.length + k))) 5 (0, 0)) ∧ Below w.heap.size w wq) (fun i _ => l.length + 9 - (intOf i).toNat)
      case atStart => exact ⟨0, by omega, by simp, hg, hbel⟩
      case round =>
        clear hg hbel hlt
        obtain ⟨k, hk, rfl, hg, hbel⟩ := hrel
        have hlt : w.heap.size < wr.heap.size := (Array.getElem?_eq_some_iff.1 hg).1
        by_cases h1 : k < 9
        · have hc := (cell_of_row wr w.heap.size (l.length + k) _ _ _ hg).trans (bs_get _ (l.length + k) (by rw [handTo_len _ _ (by omega)]; omega))
          have hf := frozen_of_row wr w.heap.size (l.length + k) _ _ hg
          have hm := mark_at l k h1
          have ht : ((l.length : Int) + (k : Int)).toNat = l.length + k := by omega
          have hw1 : IntKind.u8.wrap (160 + ((l.length : Int) + (k : Int)) - (l.length : Int)) = at8 (l ++ marks) (l.length + k) := by
            rw [hm, IntKind.wrap_u8']; omega
          go_wp2
          go_roundw
          case rel =>
            refine ⟨k + 1, by omega, by go_num, ?_, ?_⟩
            · show (wr.setCell _ _).heap[_]? = _
              rw [heap_setCell_same wr w.heap.size (l.length + k) _ 5 _ hg]
              rw [← hm]
              unfold at8
              rw [bs_set, handTo_succ _ _ _ (by omega) rfl]
              rfl
            · exact (hbel.setCell (by simp) _)
          case measure => simp [intOf]; omega
        · have hk2 : k = 9 := by omega
          subst hk2
          rw [handTo_all] at hg
          go_wp2
          go_ret
          exact ⟨rfl, hg, hbel⟩

set_option maxHeartbeats 2000000 in
theorem kept_any (g : Nat) (a : Option Addr) (l : List UInt8) (cap : Nat) (w : World) (hg : w.heap[g]? = some (.cells (bs (l ++ marks)) 5 (0, 0))) (hb : Byt w a l) (hl : l.length ≤ 140737488351232) :
    Calls Tryd.prog 33 #[.slice (some ⟨g, 0, none⟩) l.length (l.length + 9), .slice a l.length cap] w fun e w' => e = .returned (.bool true) ∧ ∃ m, w' = w.drewN m := by
  have hL : (l ++ marks).length = l.length + 9 := by simp [marks]
  have hq : Byt w (some ⟨g, 0, none⟩) l := .inr ⟨g, 0, rfl, fun j hj => by
    rw [Nat.zero_add, ← own_at l j hj]
    exact (cell_of_row w g j _ _ _ hg).trans (bs_get _ j (by omega))⟩
  go_enter Tryd.func33, Tryd.ntmps33
  go_wp2_with fail
  refine (same_any _ _ l l.length _ _ w rfl hq hb hl).mono ?_
  rintro e w' ⟨rfl, m, rfl⟩
  go_wp2
  go_loopw [6] (fun i wr => ∃ k : Nat, k ≤ 9 ∧ i = .int .i64 ((l.length : Int) + k) ∧ wr = w.drewN m) (fun i _ => l.length + 9 - (intOf i).toNat)
  case atStart => exact ⟨0, by omega, by simp, rfl⟩
  case round =>
    obtain ⟨k, hk, rfl, rfl⟩ := hrel
    by_cases h1 : k < 9
    · have hc := (cell_of_row w g (l.length + k) _ _ _ hg).trans (bs_get _ (l.length + k) (by omega))
      have hm := mark_at l k h1
      rw [hm] at hc
      have ht : ((l.length : Int) + (k : Int)).toNat = l.length + k := by omega
      have hw1 : IntKind.u8.wrap (160 + ((l.length : Int) + (k : Int)) - (l.length : Int)) = 160 + (k : Int) := by
        rw [IntKind.wrap_u8']; omega
      go_wp2
      go_roundw
      case rel => exact ⟨k + 1, by omega, by go_num, trivial⟩
      case measure => simp [intOf]; omega
    · have hk2 : k = 9 := by omega
      subst hk2
      go_wp2
      go_ret
      exact ⟨rfl, m, rfl⟩
end Go.Proofs.YtbpmpcmmdiaiiaaDoor.K

namespace Go.Proofs.YtbpmpcmmdiaiiaaDoor.K
open Go.RowKit
set_option linter.unusedVariables false
set_option linter.unusedSimpArgs false

theorem hu27 : Tryd.prog.underlying 29 = some (.slice (Tryd.prog.elem 29)) := by kernel_rfl
theorem he27 : Tryd.prog.elem 29 = 5 := by kernel_rfl
theorem slice_from (b off n cap k : Nat) (h : k ≤ n) (hc : n ≤ cap) (hk : k < cap) (w : World) :
    (Instr.sliceAt 29 (.slice (some ⟨b, off, none⟩) n cap) (some (.int .i64 (k : Int))) none none).run Tryd.prog w = .ok (.slice (some ⟨b, off + k, none⟩) (n - k) (cap - k)) w := by
  obtain ⟨i, hi, _, hs, _⟩ := info5'
  rw [run_sliceAt_slice w _ _ _ _ _ hu27, run_slice_l w _ _ _ _ hu27 .i64 _ (by omega) (by omega), he27]
  have hne : ¬ (cap = k) := by omega
  simp [sizeOf, typeInfo, hi, hs, sliced, hne, Addr.add_mid]
theorem slice_to (b off n cap k : Nat) (h : k ≤ n) (hc : n ≤ cap) (h0 : 0 < cap) (w : World) :
    (Instr.sliceAt 29 (.slice (some ⟨b, off, none⟩) n cap) none (some (.int .i64 (k : Int))) none).run Tryd.prog w = .ok (.slice (some ⟨b, off, none⟩) k cap) w := by
  obtain ⟨i, hi, _, hs, _⟩ := info5'
  rw [run_sliceAt_slice w _ _ _ _ _ hu27, run_slice_h w _ _ _ _ hu27 .i64 _ (by omega) (by omega), he27]
  simp [sizeOf, typeInfo, hi, hs, sliced, Addr.add_mid]
theorem slice_mid (b off n cap j k : Nat) (hj : j ≤ k) (h : k ≤ n) (hc : n ≤ cap) (hk : j < cap) (w : World) :
    (Instr.sliceAt 29 (.slice (some ⟨b, off, none⟩) n cap) (some (.int .i64 (j : Int))) (some (.int .i64 (k : Int))) none).run Tryd.prog w = .ok (.slice (some ⟨b, off + j, none⟩) (k - j) (cap - j)) w := by
  obtain ⟨i, hi, _, hs, _⟩ := info5'
  rw [run_sliceAt_slice w _ _ _ _ _ hu27, run_slice_lh w _ _ _ _ hu27 .i64 .i64 _ _ (by omega) (by omega) (by omega), he27]
  have hne : ¬ (cap = j) := by omega
  simp [sizeOf, typeInfo, hi, hs, sliced, hne, Addr.add_mid]
theorem at8_drop (l : List UInt8) (c j : Nat) : at8 (l.drop c) j = at8 l (c + j) := by simp [at8]
theorem at8_take (l : List UInt8) (n j : Nat) (h : j < n) : at8 (l.take n) j = at8 l j := by simp [at8, List.getElem?_take, h]
set_option maxHeartbeats 2000000 in
theorem clone_any (b off n cap : Nat) (l : List UInt8) (w : World) (hl : l.length = n) (hn : n ≤ 140737488355328) (hb : Byt w (some ⟨b, off, none⟩) l) :
    Calls Tryd.prog 39 #[.slice (some ⟨b, off, none⟩) n cap] w fun e w' => ∃ v, e = .returned v ∧ OwnB w' w.heap.size v l ∧ Below w.heap.size w w' := by
  have hnil : ∀ W, (binOp .eql 29 (.slice (some ⟨b, off, none⟩) n cap) (.slice none 0 0)).run Tryd.prog W = .ok (.bool false) W := fun W => Lib.run_eql_slice_some_nil W _ _ _ Tryd.underlying29
  have O0 : Hid (OwnB (w.alloc (.cells #[] 5)) w.heap.size (.slice (some ⟨w.heap.size, 0, none⟩) 0 0) []) := ⟨rfl, .inr ⟨w.heap.size, 0, #[], rfl, Nat.le_refl _, heap_alloc_new _ _, by simp, by simp [maxLen], rfl, rfl⟩⟩
  have be0 : Below w.heap.size w (w.alloc (.cells #[] 5)) := (Below.refl _ _).alloc (Nat.le_refl _) _
  have B0 : Hid (Byt (w.alloc (.cells #[] 5)) (some ⟨b, off, none⟩) l) := byt_below hb be0
  have S0 : Hid (([] : List UInt8).length + l.length ≤ 140737488355328) := by show _ ≤ _; simp; omega
  have Z0 : Hid (w.heap.size ≤ (w.alloc (.cells #[] 5)).heap.size) := by show _ ≤ _; simp
  go_enter Tryd.func39, Tryd.ntmps39
  go_wp2_with (first | (at_builtin; refine wpList_app rfl (.tmp 5) (.tmp 6) rfl w.heap.size (.slice (some ⟨w.heap.size, 0, none⟩) 0 0) [] rfl O0.out (some ⟨b, off, none⟩) n cap l rfl hl B0.out S0.out Z0.out ?_) | fail)
  intro v w1 own1 grow1
  have be1 : Below w.heap.size w w1 := be0.grown grow1 Z0.out (fun k hk => (World.ownsRow.lt O0.out k hk).1)
  have OW : Hid (OwnB w1 w.heap.size v l) := by show OwnB _ _ _ _; simpa using own1
  clear own1 grow1 O0 B0 S0 Z0
  go_wp2
  go_ret
  exact ⟨v, rfl, OW.out, be1⟩
end Go.Proofs.YtbpmpcmmdiaiiaaDoor.K

namespace Go.Proofs.YtbpmpcmmdiaiiaaDoor.K
open Go.RowKit
set_option linter.unusedVariables false
set_option linter.unusedSimpArgs false

/-- Where a Reader stands: the place, the fault, the fault's place. -/
structure St where
  k : Nat
  bad : Int
  wh : Int

/-- A fault, if it is the first one. -/
def St.fl (s : St) (e p : Int) : St := if s.bad = 0 then (if e = 0 then s else ⟨s.k, e, p⟩) else s
def St.go (s : St) (n : Nat) : St := ⟨s.k + n, s.bad, s.wh⟩

theorem St.fl_bad (s : St) (e p : Int) (h : s.bad ≠ 0) : s.fl e p = s := by simp [St.fl, h]
theorem St.fl_ok (s : St) (p : Int) : s.fl 0 p = s := by simp [St.fl]
theorem St.fl_new (s : St) (e p : Int) (h : s.bad = 0) (he : e ≠ 0) : s.fl e p = ⟨s.k, e, p⟩ := by simp [St.fl, h, he]
theorem St.fl_k (s : St) (e p : Int) : (s.fl e p).k = s.k := by
  unfold St.fl
  split
  · split <;> rfl
  · rfl

/-- A number: value, size, error, place. -/
structure Num where
  v : Nat
  size : Nat
  why : Int
  place : Int

def numL (len k : Nat) : List UInt8 → Nat → Nat → Num
  | [], _, v => ⟨v, 0, 20, len⟩
  | b :: t, i, v =>
    if (i = 9 ∧ 1 < b.toNat) ∨ (0 < i ∧ b.toNat = 0) then ⟨v, 0, 21, k + i⟩
    else if b.toNat < 128 then ⟨v + b.toNat * 2 ^ (7 * i), i + 1, 0, len⟩
    else numL len k t (i + 1) (v + (b.toNat - 128) * 2 ^ (7 * i))
def num (L : List UInt8) (k : Nat) : Num := numL L.length k (L.drop k) 0 0

theorem drop_cons (L : List UInt8) (j : Nat) (h : j < L.length) : L.drop j = L.getD j 0 :: L.drop (j + 1) := by
  rw [List.drop_eq_getElem_cons h]
  simp [List.getElem?_eq_getElem h]
theorem num_end (L : List UInt8) (k i v : Nat) (h : ¬ k + i < L.length) : numL L.length k (L.drop (k + i)) i v = ⟨v, 0, 20, L.length⟩ := by
  rw [List.drop_of_length_le (by omega)]
  rfl
theorem num_step (L : List UInt8) (k i v b : Nat) (h : k + i < L.length) (hb : at8 L (k + i) = (b : Int)) :
    numL L.length k (L.drop (k + i)) i v = if (i = 9 ∧ 1 < b) ∨ (0 < i ∧ b = 0) then ⟨v, 0, 21, k + i⟩
      else if b < 128 then ⟨v + b * 2 ^ (7 * i), i + 1, 0, L.length⟩
      else numL L.length k (L.drop (k + (i + 1))) (i + 1) (v + (b - 128) * 2 ^ (7 * i)) := by
  have e : (L.getD (k + i) 0).toNat = b := by unfold at8 at hb; omega
  rw [drop_cons L (k + i) h]
  show (if _ then _ else if _ then _ else _) = _
  rw [e]
  rfl
theorem numL_ok (len k : Nat) : ∀ (l : List UInt8) (i v : Nat), i ≤ 9 → v < 2 ^ (7 * i) → ((numL len k l i v).why = 0 → 0 < (numL len k l i v).size ∧ (numL len k l i v).size ≤ i + l.length ∧ (numL len k l i v).v < 18446744073709551616) ∧ ((numL len k l i v).why = 0 ∨ (numL len k l i v).why = 20 ∨ (numL len k l i v).why = 21)
  | [], i, v, _, _ => ⟨fun h => by simp [numL] at h, .inr (.inl rfl)⟩
  | b :: t, i, v, hi, hv => by
    unfold numL
    split
    · exact ⟨fun h => by simp at h, .inr (.inr rfl)⟩
    · rename_i h1
      have hp : (0 : Nat) < 2 ^ (7 * i) := Nat.two_pow_pos _
      split
      · rename_i h2
        refine ⟨fun _ => ⟨by simp, by simp, ?_⟩, .inl rfl⟩
        show v + b.toNat * 2 ^ (7 * i) < _
        by_cases h9 : i = 9
        · subst h9
          have : b.toNat ≤ 1 := by omega
          have : b.toNat * 2 ^ (7 * 9) ≤ 1 * 2 ^ (7 * 9) := Nat.mul_le_mul_right _ this
          omega
        · have h8 : 2 ^ (7 * i) ≤ 2 ^ 56 := Nat.pow_le_pow_right (by omega) (by omega)
          have : b.toNat * 2 ^ (7 * i) ≤ 127 * 2 ^ (7 * i) := Nat.mul_le_mul_right _ (by omega)
          omega
      · rename_i h2
        have hb := b.toNat_lt
        have h9 : i ≠ 9 := fun h => h1 (.inl ⟨h, by omega⟩)
        have hn : v + (b.toNat - 128) * 2 ^ (7 * i) < 2 ^ (7 * (i + 1)) := by
          have : (b.toNat - 128) * 2 ^ (7 * i) ≤ 127 * 2 ^ (7 * i) := Nat.mul_le_mul_right _ (by omega)
          have : 2 ^ (7 * (i + 1)) = 128 * 2 ^ (7 * i) := by rw [Nat.mul_add, Nat.pow_add]; omega
          omega
        have := numL_ok len k t (i + 1) (v + (b.toNat - 128) * 2 ^ (7 * i)) (by omega) hn
        refine ⟨fun h => ?_, this.2⟩
        obtain ⟨q1, q2, q3⟩ := this.1 h
        refine ⟨q1, by simp; omega, q3⟩
theorem num_ok (L : List UInt8) (k : Nat) (hk : k ≤ L.length) : ((num L k).why = 0 → 0 < (num L k).size ∧ k + (num L k).size ≤ L.length ∧ (num L k).v < 18446744073709551616) ∧ ((num L k).why = 0 ∨ (num L k).why = 20 ∨ (num L k).why = 21) := by
  have := numL_ok L.length k (L.drop k) 0 0 (by omega) (by omega)
  refine ⟨fun h => ?_, this.2⟩
  obtain ⟨h1, h2, h3⟩ := this.1 h
  rw [List.length_drop] at h2
  exact ⟨h1, by unfold num; omega, h3⟩
end Go.Proofs.YtbpmpcmmdiaiiaaDoor.K

namespace Go.Proofs.YtbpmpcmmdiaiiaaDoor.K
open Go.RowKit
set_option linter.unusedVariables false
set_option linter.unusedSimpArgs false

/-- An address within a row, or none. -/
def Plain (a : Option Addr) (r : Nat) : Prop := ∀ ad, a = some ad → ad.spot = none ∧ ad.block ≠ r
def from23 (a : Option Addr) (cap k : Nat) : Option Addr := if cap = k then a else a.map (·.add k)
theorem sl_from (a : Option Addr) (n cap k : Nat) (kk : Int) (hkk : kk = (k : Int)) (h : k ≤ n) (w : World) :
    (Instr.sliceAt 29 (.slice a n cap) (some (.int .i64 kk)) none none).run Tryd.prog w = .ok (.slice (from23 a cap k) (n - k) (cap - k)) w := by
  subst hkk
  obtain ⟨i, hi, _, hs, _⟩ := info5'
  rw [run_sliceAt_slice w _ _ _ _ _ hu27, run_slice_l w _ _ _ _ hu27 .i64 _ (by omega) (by omega), he27]
  simp [sizeOf, typeInfo, hi, hs, sliced, from23]
theorem sl_from' (a : Option Addr) (n cap k : Nat) (kk : Int) (hkk : kk = (k : Int)) (h : k ≤ n) (w : World) :
    (Instr.slice 29 (.slice a n cap) (some (.int .i64 kk)) none none).run Tryd.prog w = .ok (.slice (from23 a cap k) (n - k) (cap - k)) w :=
  (run_sliceAt_slice w _ _ _ _ _ hu27).symm.trans (sl_from a n cap k kk hkk h w)
theorem sl_mid (a : Option Addr) (n cap j k : Nat) (jj kk : Int) (hjj : jj = (j : Int)) (hkk : kk = (k : Int)) (hj : j ≤ k) (h : k ≤ cap) (w : World) :
    (Instr.sliceAt 29 (.slice a n cap) (some (.int .i64 jj)) (some (.int .i64 kk)) none).run Tryd.prog w = .ok (.slice (from23 a cap j) (k - j) (cap - j)) w := by
  subst hjj hkk
  obtain ⟨i, hi, _, hs, _⟩ := info5'
  rw [run_sliceAt_slice w _ _ _ _ _ hu27, run_slice_lh w _ _ _ _ hu27 .i64 .i64 _ _ (by omega) (by omega) (by omega), he27]
  simp [sizeOf, typeInfo, hi, hs, sliced, from23]
theorem sl_mid' (a : Option Addr) (n cap j k : Nat) (jj kk : Int) (hjj : jj = (j : Int)) (hkk : kk = (k : Int)) (hj : j ≤ k) (h : k ≤ cap) (w : World) :
    (Instr.slice 29 (.slice a n cap) (some (.int .i64 jj)) (some (.int .i64 kk)) none).run Tryd.prog w = .ok (.slice (from23 a cap j) (k - j) (cap - j)) w :=
  (run_sliceAt_slice w _ _ _ _ _ hu27).symm.trans (sl_mid a n cap j k jj kk hjj hkk hj h w)
theorem byt_from {w : World} {a : Option Addr} {l : List UInt8} (h : Byt w a l) (cap k : Nat) (hc : l.length ≤ cap) : Byt w (from23 a cap k) (l.drop k) := by
  by_cases hk : k < l.length
  · rcases h with rfl | ⟨b, off, rfl, hcell⟩
    · simp at hk
    · refine .inr ⟨b, off + k, ?_, fun j hj => ?_⟩
      · unfold from23
        rw [if_neg (by omega)]
        simp [Addr.add_mid]
      · rw [at8_drop, Nat.add_assoc]
        rw [List.length_drop] at hj
        exact hcell (k + j) (by omega)
  · exact .inl (List.drop_of_length_le (by omega))
theorem byt_take {w : World} {a : Option Addr} {l : List UInt8} (h : Byt w a l) (n : Nat) : Byt w a (l.take n) := by
  rcases h with rfl | ⟨b, off, rfl, hcell⟩
  · exact .inl (by simp)
  · refine .inr ⟨b, off, rfl, fun j hj => ?_⟩
    rw [List.length_take] at hj
    rw [at8_take _ _ _ (by omega)]
    exact hcell j (by omega)
theorem plain_from {a : Option Addr} {r : Nat} (h : Plain a r) (cap k : Nat) : Plain (from23 a cap k) r := by
  intro ad e
  unfold from23 at e
  split at e
  · exact h ad e
  · cases a with
    | none => cases e
    | some x =>
      obtain ⟨h1, h2⟩ := h x rfl
      obtain ⟨b, off, p⟩ := x
      simp only at h1 h2
      subst h1
      simp [Addr.add_mid] at e
      subst e
      exact ⟨rfl, h2⟩

/-- All but one block is as it was; new ones may have come. -/
structure Fr (r : Nat) (w w' : World) : Prop where
  os : w'.os = w.os
  tape : w'.tape = w.tape
  output : w'.output = w.output
  size : w.heap.size ≤ w'.heap.size
  block : ∀ k, k < w.heap.size → k ≠ r → w'.heap[k]? = w.heap[k]?
theorem Fr.refl (r : Nat) (w : World) : Fr r w w := ⟨rfl, rfl, rfl, Nat.le_refl _, fun _ _ _ => rfl⟩
theorem Fr.trans {r : Nat} {a b c : World} (h : Fr r a b) (k : Fr r b c) : Fr r a c :=
  ⟨k.os.trans h.os, k.tape.trans h.tape, k.output.trans h.output, Nat.le_trans h.size k.size, fun i hi hr => (k.block i (by have := h.size; omega) hr).trans (h.block i hi hr)⟩
theorem Fr.drew (r : Nat) (w : World) (m : Nat) : Fr r w (w.drewN m) := by
  have := below_drewN (Below.refl w.heap.size w) m
  exact ⟨this.os, this.tape, this.output, this.size, fun i hi _ => this.block i hi⟩
theorem Fr.of_below {r : Nat} {w w' : World} (h : Below w.heap.size w w') : Fr r w w' := ⟨h.os, h.tape, h.output, h.size, fun i hi _ => h.block i hi⟩
theorem Fr.set (r : Nat) (w : World) (p : Addr) (hp : p.block = r) (v : Value) : Fr r w (w.setCell p v) := by
  have := (Below.refl 0 w).setCell (p := p) (Nat.zero_le _) v
  exact ⟨this.os, this.tape, this.output, this.size, fun i hi hr => Below.heap_setCell _ _ _ _ (by omega)⟩
theorem Fr.below {r : Nat} {w w' : World} (h : Fr r w w') (B : Nat) (hB : B ≤ r) (hw : B ≤ w.heap.size) : Below B w w' :=
  ⟨h.os, h.tape, h.output, h.size, fun k hk => h.block k (by omega) (by omega)⟩
theorem Fr.cell {r : Nat} {w w' : World} (h : Fr r w w') {p : Addr} {v : Value} (hp : p.block ≠ r) (hc : w.cell? p = some v) : w'.cell? p = some v := by
  have hlt := block_lt_of_cell hc
  have := h.block p.block hlt hp
  have e : w'.cell? p = w.cell? p := by unfold World.cell?; rw [this]
  rw [e, hc]
theorem Fr.byt {r : Nat} {w w' : World} (h : Fr r w w') {a : Option Addr} {l : List UInt8} (hp : Plain a r) (hb : Byt w a l) : Byt w' a l := by
  rcases hb with rfl | ⟨b, off, rfl, hc⟩
  · exact .inl rfl
  · exact .inr ⟨b, off, rfl, fun j hj => h.cell (p := ⟨b, off + j, none⟩) (hp _ rfl).2 (hc j hj)⟩

/-- A Reader (of either side): its four cells. -/
structure RD (w : World) (T : TypeId) (r : Nat) (a : Option Addr) (cap : Nat) (L : List UInt8) (s : St) : Prop where
  row : w.heap[r]? = some (.cells #[.slice a L.length cap, .int .i64 (s.k : Int), .int .i64 s.bad, .int .i64 s.wh] T (0, 0))
  room : L.length ≤ cap
  byt : Byt w a L
  plain : Plain a r
  at_le : s.k ≤ L.length
  few : L.length ≤ 140737488351232
theorem RD.c0 {w : World} {T : TypeId} {r cap : Nat} {a : Option Addr} {L : List UInt8} {s : St} (h : RD w T r a cap L s) : w.cell? ⟨r, 0, none⟩ = some (.slice a L.length cap) := (cell_of_row w r 0 _ _ _ h.row).trans rfl
theorem RD.c1 {w : World} {T : TypeId} {r cap : Nat} {a : Option Addr} {L : List UInt8} {s : St} (h : RD w T r a cap L s) : w.cell? ⟨r, 1, none⟩ = some (.int .i64 (s.k : Int)) := (cell_of_row w r 1 _ _ _ h.row).trans rfl
theorem RD.c2 {w : World} {T : TypeId} {r cap : Nat} {a : Option Addr} {L : List UInt8} {s : St} (h : RD w T r a cap L s) : w.cell? ⟨r, 2, none⟩ = some (.int .i64 s.bad) := (cell_of_row w r 2 _ _ _ h.row).trans rfl
theorem RD.c3 {w : World} {T : TypeId} {r cap : Nat} {a : Option Addr} {L : List UInt8} {s : St} (h : RD w T r a cap L s) : w.cell? ⟨r, 3, none⟩ = some (.int .i64 s.wh) := (cell_of_row w r 3 _ _ _ h.row).trans rfl
theorem RD.fz {w : World} {T : TypeId} {r cap : Nat} {a : Option Addr} {L : List UInt8} {s : St} (h : RD w T r a cap L s) (k : Nat) : w.frozen? ⟨r, k, none⟩ = false := frozen_of_row w r k _ _ h.row
theorem RD.lt {w : World} {T : TypeId} {r cap : Nat} {a : Option Addr} {L : List UInt8} {s : St} (h : RD w T r a cap L s) : r < w.heap.size := (Array.getElem?_eq_some_iff.1 h.row).1
theorem RD.drew {w : World} {T : TypeId} {r cap : Nat} {a : Option Addr} {L : List UInt8} {s : St} (h : RD w T r a cap L s) (m : Nat) : RD (w.drewN m) T r a cap L s := ⟨h.row, h.room, h.byt, h.plain, h.at_le, h.few⟩
theorem RD.set1 {w : World} {T : TypeId} {r cap : Nat} {a : Option Addr} {L : List UInt8} {s : St} (h : RD w T r a cap L s) (k' : Nat) (kk : Int) (hkk : kk = (k' : Int)) (hk : k' ≤ L.length) : RD (w.setCell ⟨r, 1, none⟩ (.int .i64 kk)) T r a cap L ⟨k', s.bad, s.wh⟩ := by
  subst hkk
  exact ⟨by rw [heap_setCell_same w r 1 _ T _ h.row]; rfl, h.room, (Fr.set r w ⟨r, 1, none⟩ rfl _).byt h.plain h.byt, h.plain, hk, h.few⟩
theorem RD.set23 {w : World} {T : TypeId} {r cap : Nat} {a : Option Addr} {L : List UInt8} {s : St} (h : RD w T r a cap L s) (e p : Int) : RD ((w.setCell ⟨r, 2, none⟩ (.int .i64 e)).setCell ⟨r, 3, none⟩ (.int .i64 p)) T r a cap L ⟨s.k, e, p⟩ := by
  have h1 : (w.setCell ⟨r, 2, none⟩ (.int .i64 e)).heap[r]? = some (.cells #[.slice a L.length cap, .int .i64 (s.k : Int), .int .i64 e, .int .i64 s.wh] T (0, 0)) := by rw [heap_setCell_same w r 2 _ T _ h.row]; rfl
  exact ⟨by rw [heap_setCell_same _ r 3 _ T _ h1]; rfl, h.room, (Fr.set r _ ⟨r, 3, none⟩ rfl _).byt h.plain ((Fr.set r w ⟨r, 2, none⟩ rfl _).byt h.plain h.byt), h.plain, h.at_le, h.few⟩
theorem RD.fr {w w' : World} {T : TypeId} {r q cap : Nat} {a : Option Addr} {L : List UInt8} {s : St} (h : RD w T r a cap L s) (f : Fr q w w') (hq : r ≠ q) (hp : Plain a q) : RD w' T r a cap L s :=
  ⟨by rw [f.block r h.lt hq]; exact h.row, h.room, f.byt hp h.byt, h.plain, h.at_le, h.few⟩
/-- The Reader has gone on to another state, and nothing else has changed. -/
def On (w w' : World) (T : TypeId) (r : Nat) (a : Option Addr) (cap : Nat) (L : List UInt8) (s' : St) : Prop := RD w' T r a cap L s' ∧ Fr r w w'
theorem On.trans {w w1 w2 : World} {T : TypeId} {r cap : Nat} {a : Option Addr} {L : List UInt8} {s1 s2 : St} (h : On w w1 T r a cap L s1) (k : On w1 w2 T r a cap L s2) : On w w2 T r a cap L s2 := ⟨k.1, h.2.trans k.2⟩
theorem RD.on {w : World} {T : TypeId} {r cap : Nat} {a : Option Addr} {L : List UInt8} {s : St} (h : RD w T r a cap L s) : On w w T r a cap L s := ⟨h, Fr.refl _ _⟩
theorem On.drew {w w1 : World} {T : TypeId} {r cap : Nat} {a : Option Addr} {L : List UInt8} {s : St} (h : On w w1 T r a cap L s) (m : Nat) : On w (w1.drewN m) T r a cap L s := ⟨h.1.drew m, h.2.trans (Fr.drew r w1 m)⟩
theorem On.set1 {w w1 : World} {T : TypeId} {r cap : Nat} {a : Option Addr} {L : List UInt8} {s : St} (h : On w w1 T r a cap L s) (k' : Nat) (kk : Int) (hkk : kk = (k' : Int)) (hk : k' ≤ L.length) : On w (w1.setCell ⟨r, 1, none⟩ (.int .i64 kk)) T r a cap L ⟨k', s.bad, s.wh⟩ := ⟨h.1.set1 k' kk hkk hk, h.2.trans (Fr.set r w1 _ rfl _)⟩
theorem On.set23 {w w1 : World} {T : TypeId} {r cap : Nat} {a : Option Addr} {L : List UInt8} {s : St} (h : On w w1 T r a cap L s) (e p : Int) : On w ((w1.setCell ⟨r, 2, none⟩ (.int .i64 e)).setCell ⟨r, 3, none⟩ (.int .i64 p)) T r a cap L ⟨s.k, e, p⟩ := ⟨h.1.set23 e p, (h.2.trans (Fr.set r w1 ⟨r, 2, none⟩ rfl _)).trans (Fr.set r _ ⟨r, 3, none⟩ rfl _)⟩
end Go.Proofs.YtbpmpcmmdiaiiaaDoor.K

namespace Go.Proofs.YtbpmpcmmdiaiiaaDoor.K
open Go.RowKit
set_option linter.unusedVariables false
set_option linter.unusedSimpArgs false

variable {T : TypeId} {r cap : Nat} {a : Option Addr} {L : List UInt8} {s : St}

set_option maxRecDepth 100000 in
set_option maxHeartbeats 400000 in
theorem cat_any (w : World) (h : RD w T r a cap L s) :
    Calls Tryd.prog 49 #[.pointer (some ⟨r, 0, none⟩)] w fun e w' => e = .returned (.int .i64 (s.k : Int)) ∧ w' = w := by
  have c1 := h.c1
  clear h
  go_enter Tryd.func49, Tryd.ntmps49
  go_wp2
  go_ret
  exact ⟨rfl, rfl⟩
set_option maxRecDepth 100000 in
set_option maxHeartbeats 400000 in
theorem cleft_any (w : World) (h : RD w T r a cap L s) :
    Calls Tryd.prog 50 #[.pointer (some ⟨r, 0, none⟩)] w fun e w' => e = .returned (.int .i64 ((L.length : Int) - (s.k : Int))) ∧ ∃ m, w' = w.drewN m := by
  have c0 := h.c0
  have c1 := h.c1
  have h1 := h.at_le
  have h2 := h.few
  clear h
  go_enter Tryd.func50, Tryd.ntmps50
  go_wp2
  go_quiet (fail)
  go_wp2
  go_ret
  exact ⟨rfl, _, rfl⟩
set_option maxRecDepth 100000 in
set_option maxHeartbeats 400000 in
theorem keep_any (e p : Int) (w : World) (h : RD w T r a cap L s) :
    Calls Tryd.prog 60 #[.pointer (some ⟨r, 0, none⟩), .int .i64 e, .int .i64 p] w fun x w' => x = .returned (.bool (decide ((s.fl e p).bad = 0))) ∧ On w w' T r a cap L (s.fl e p) := by
  by_cases hb : s.bad = 0
  · by_cases he : e = 0
    · subst he
      rw [St.fl_ok, hb]
      have HR : Hid (On w w T r a cap L s) := h.on
      have c2 := h.c2
      rw [hb] at c2
      clear h
      go_enter Tryd.func60, Tryd.ntmps60
      go_wp2
      go_ret
      exact ⟨rfl, HR.out⟩
    · rw [St.fl_new s e p hb he]
      have HR : Hid (On w (((w.setCell ⟨r, 2, none⟩ (.int .i64 e)).setCell ⟨r, 3, none⟩ (.int .i64 p))) T r a cap L ⟨s.k, e, p⟩) := h.on.set23 e p
      have c2 := h.c2
      rw [hb] at c2
      have f2 := h.fz 2
      have f3 := h.fz 3
      have hlt := h.lt
      have c3 := h.c3
      clear h
      go_enter Tryd.func60, Tryd.ntmps60
      go_wp2
      go_ret
      exact ⟨by simp [he], HR.out⟩
  · rw [St.fl_bad s e p hb]
    have HR : Hid (On w w T r a cap L s) := h.on
    have c2 := h.c2
    clear h
    go_enter Tryd.func60, Tryd.ntmps60
    go_wp2
    go_ret
    exact ⟨by simp [hb], HR.out⟩
set_option maxRecDepth 100000 in
set_option maxHeartbeats 400000 in
theorem stopped_any (w : World) (h : RD w T r a cap L s) :
    Calls Tryd.prog 58 #[.pointer (some ⟨r, 0, none⟩)] w fun e w' => e = .returned (.bool (decide (s.bad ≠ 0))) ∧ w' = w := by
  have c2 := h.c2
  clear h
  go_enter Tryd.func58, Tryd.ntmps58
  go_wp2
  go_ret
  refine ⟨?_, rfl⟩
  by_cases hb : s.bad = 0 <;> simp [hb]
set_option maxRecDepth 100000 in
set_option maxHeartbeats 400000 in
theorem rat_any (w : World) (h : RD w T r a cap L s) :
    Calls Tryd.prog 14 #[.pointer (some ⟨r, 0, none⟩)] w fun e w' => e = .returned (.int .i64 (s.k : Int)) ∧ w' = w := by
  have H : Hid (Calls Tryd.prog 49 #[.pointer (some ⟨r, 0, none⟩)] w fun e w' => e = .returned (.int .i64 (s.k : Int)) ∧ w' = w) := cat_any w h
  clear h
  go_enter Tryd.func14, Tryd.ntmps14
  go_wp2_with fail
  refine H.out.mono ?_
  rintro e w1 ⟨rfl, hw1⟩
  subst hw1
  go_wp2
  go_ret
  exact ⟨rfl, rfl⟩
set_option maxRecDepth 100000 in
set_option maxHeartbeats 400000 in
theorem rleft_any (w : World) (h : RD w T r a cap L s) :
    Calls Tryd.prog 15 #[.pointer (some ⟨r, 0, none⟩)] w fun e w' => e = .returned (.int .i64 ((L.length : Int) - (s.k : Int))) ∧ ∃ m, w' = w.drewN m := by
  have H : Hid (Calls Tryd.prog 50 #[.pointer (some ⟨r, 0, none⟩)] w fun e w' => e = .returned (.int .i64 ((L.length : Int) - (s.k : Int))) ∧ ∃ m, w' = w.drewN m) := cleft_any w h
  clear h
  go_enter Tryd.func15, Tryd.ntmps15
  go_wp2_with fail
  refine H.out.mono ?_
  rintro e w1 ⟨rfl, m, rfl⟩
  go_wp2
  go_ret
  exact ⟨rfl, _, rfl⟩
set_option maxRecDepth 100000 in
set_option maxHeartbeats 400000 in
theorem fault_any (w : World) (h : RD w T r a cap L s) :
    Calls Tryd.prog 12 #[.pointer (some ⟨r, 0, none⟩)] w fun e w' => e = .returned (.tuple #[.int .i64 s.bad, .int .i64 s.wh]) ∧ ∃ m, w' = w.drewN m := by
  have c2 := h.c2
  have c3 := h.c3
  clear h
  go_enter Tryd.func12, Tryd.ntmps12
  go_wp2
  go_quiet (fail)
  go_wp2
  go_ret2
  exact ⟨rfl, _, rfl⟩
set_option maxRecDepth 100000 in
set_option maxHeartbeats 400000 in
theorem rfail_any (e p : Int) (w : World) (h : RD w T r a cap L s) :
    Calls Tryd.prog 48 #[.pointer (some ⟨r, 0, none⟩), .int .i64 e, .int .i64 p] w fun x w' => x = .returned (.tuple #[]) ∧ On w w' T r a cap L (s.fl e p) := by
  have H : Hid (Calls Tryd.prog 60 #[.pointer (some ⟨r, 0, none⟩), .int .i64 e, .int .i64 p] w fun x w' => x = .returned (.bool (decide ((s.fl e p).bad = 0))) ∧ On w w' T r a cap L (s.fl e p)) := keep_any e p w h
  clear h
  go_enter Tryd.func48, Tryd.ntmps48
  go_wp2_with fail
  refine H.out.mono ?_
  rintro x w1 ⟨rfl, ho⟩
  have HO : Hid (On w w1 T r a cap L (s.fl e p)) := ho
  clear ho
  go_wp2
  go_end0
  exact ⟨rfl, HO.out⟩
/-- What Done tells. -/
def doneE (L : List UInt8) (s : St) : Int := if s.bad = 0 then (if s.k < L.length then 22 else 0) else s.bad
def doneP (L : List UInt8) (s : St) : Int := if s.bad = 0 then (if s.k < L.length then (s.k : Int) else 0) else s.wh
set_option maxRecDepth 100000 in
set_option maxHeartbeats 400000 in
theorem rdone_any (w : World) (h : RD w T r a cap L s) :
    Calls Tryd.prog 13 #[.pointer (some ⟨r, 0, none⟩)] w fun e w' => e = .returned (.tuple #[.int .i64 (doneE L s), .int .i64 (doneP L s)]) ∧ ∃ m, w' = w.drewN m := by
  have HF : Hid (Calls Tryd.prog 12 #[.pointer (some ⟨r, 0, none⟩)] w fun e w' => e = .returned (.tuple #[.int .i64 s.bad, .int .i64 s.wh]) ∧ ∃ m, w' = w.drewN m) := fault_any w h
  have HL : Hid (∀ m, Calls Tryd.prog 15 #[.pointer (some ⟨r, 0, none⟩)] (w.drewN m) fun e w' => e = .returned (.int .i64 ((L.length : Int) - (s.k : Int))) ∧ ∃ m', w' = w.drewN m') := fun m => (rleft_any (w.drewN m) (h.drew m)).mono fun e w' ⟨h1, m', h2⟩ => ⟨h1, m + m', by rw [h2, World.drewN_drewN]⟩
  have HA : Hid (∀ m, Calls Tryd.prog 14 #[.pointer (some ⟨r, 0, none⟩)] (w.drewN m) fun e w' => e = .returned (.int .i64 (s.k : Int)) ∧ w' = w.drewN m) := fun m => rat_any (w.drewN m) (h.drew m)
  have hk := h.at_le
  clear h
  by_cases hb : s.bad = 0
  · rw [hb] at HF
    by_cases hl : s.k < L.length
    · have e1 : doneE L s = 22 := by simp [doneE, hb, hl]
      have e2 : doneP L s = (s.k : Int) := by simp [doneP, hb, hl]
      rw [e1, e2]
      have hpos : (0 : Int) < (L.length : Int) - (s.k : Int) := by omega
      go_enter Tryd.func13, Tryd.ntmps13
      go_wp2_with fail
      refine HF.out.mono ?_
      rintro e w1 ⟨rfl, m, rfl⟩
      go_wp2_with fail
      refine (HL.out m).mono ?_
      rintro e w2 ⟨rfl, m2, rfl⟩
      go_wp2_with fail
      refine (HA.out m2).mono ?_
      rintro e w3 ⟨rfl, hw3⟩
      subst hw3
      go_wp2
      go_ret2
      exact ⟨rfl, _, rfl⟩
    · have e1 : doneE L s = 0 := by simp [doneE, hb, hl]
      have e2 : doneP L s = 0 := by simp [doneP, hb, hl]
      rw [e1, e2]
      have hpos : ¬ (0 : Int) < (L.length : Int) - (s.k : Int) := by omega
      go_enter Tryd.func13, Tryd.ntmps13
      go_wp2_with fail
      refine HF.out.mono ?_
      rintro e w1 ⟨rfl, m, rfl⟩
      go_wp2_with fail
      refine (HL.out m).mono ?_
      rintro e w2 ⟨rfl, m2, rfl⟩
      go_wp2
      go_ret2
      exact ⟨rfl, _, rfl⟩
  · have e1 : doneE L s = s.bad := by simp [doneE, hb]
    have e2 : doneP L s = s.wh := by simp [doneP, hb]
    rw [e1, e2]
    go_enter Tryd.func13, Tryd.ntmps13
    go_wp2_with fail
    refine HF.out.mono ?_
    rintro e w1 ⟨rfl, m, rfl⟩
    go_wp2
    go_ret2
    exact ⟨rfl, _, rfl⟩
set_option maxRecDepth 100000 in
set_option maxHeartbeats 400000 in
/-- next, where there are enough. -/
theorem next_ok (n : Nat) (w : World) (h : RD w T r a cap L s) (hn : s.k + n ≤ L.length) :
    Calls Tryd.prog 63 #[.pointer (some ⟨r, 0, none⟩), .int .i64 (n : Int)] w fun e w' => e = .returned (.tuple #[.slice (from23 a cap s.k) n (cap - s.k), .bool true]) ∧ ∃ m, w' = w.drewN m := by
  have H2 : Hid (Calls Tryd.prog 50 #[.pointer (some ⟨r, 0, none⟩)] w fun e w' => e = .returned (.int .i64 ((L.length : Int) - (s.k : Int))) ∧ ∃ m, w' = w.drewN m) := cleft_any w h
  have hr := h.room
  have s1 := sl_mid a L.length cap s.k (s.k + n) (s.k : Int) ((s.k : Int) + (n : Int)) rfl (by omega) (by omega) (by omega)
  have s2 := sl_mid' a L.length cap s.k (s.k + n) (s.k : Int) ((s.k : Int) + (n : Int)) rfl (by omega) (by omega) (by omega)
  rw [Nat.add_sub_cancel_left] at s1 s2
  have c0 := h.c0
  have c1 := h.c1
  have hf := h.few
  have hlt : ¬ (L.length : Int) - (s.k : Int) < (n : Int) := by omega
  clear h
  generalize cap - s.k = c4 at *
  generalize from23 a cap s.k = a4 at *
  go_enter Tryd.func63, Tryd.ntmps63
  go_wp2_with fail
  refine H2.out.mono ?_
  rintro e w1 ⟨rfl, m, rfl⟩
  go_wp2
  go_quiet (fail)
  go_wp2
  go_ret2
  exact ⟨rfl, _, by first | rfl | exact World.drewN_drewN ..⟩
set_option maxRecDepth 100000 in
set_option maxHeartbeats 400000 in
/-- next, where there are too few. -/
theorem next_no (n : Nat) (w : World) (h : RD w T r a cap L s) (hb : s.bad = 0) (hn : ¬ s.k + n ≤ L.length) (hn2 : n < 1000) :
    Calls Tryd.prog 63 #[.pointer (some ⟨r, 0, none⟩), .int .i64 (n : Int)] w fun e w' => e = .returned (.tuple #[.slice none 0 0, .bool false]) ∧ On w w' T r a cap L ⟨s.k, 20, L.length⟩ := by
  have H2 : Hid (Calls Tryd.prog 50 #[.pointer (some ⟨r, 0, none⟩)] w fun e w' => e = .returned (.int .i64 ((L.length : Int) - (s.k : Int))) ∧ ∃ m, w' = w.drewN m) := cleft_any w h
  have e0 : s.fl 20 (L.length : Int) = ⟨s.k, 20, L.length⟩ := St.fl_new s _ _ hb (by decide)
  have HK : Hid (∀ m, Calls Tryd.prog 60 #[.pointer (some ⟨r, 0, none⟩), .int .i64 20, .int .i64 (L.length : Int)] (w.drewN m) fun x w' => x = .returned (.bool false) ∧ On w w' T r a cap L ⟨s.k, 20, L.length⟩) := fun m => (keep_any 20 (L.length : Int) (w.drewN m) (h.drew m)).mono fun x w' hx => by
    rw [e0] at hx
    exact ⟨hx.1, hx.2.1, (Fr.drew r w m).trans hx.2.2⟩
  have c0 := h.c0
  have c1 := h.c1
  have hk := h.at_le
  have hf := h.few
  have hlt : (L.length : Int) - (s.k : Int) < (n : Int) := by omega
  clear h
  go_enter Tryd.func63, Tryd.ntmps63
  go_wp2_with fail
  refine H2.out.mono ?_
  rintro e w1 ⟨rfl, m, rfl⟩
  go_wp2_with fail
  refine (HK.out m).mono ?_
  rintro e w2 ⟨rfl, ho⟩
  have HO : Hid (On w w2 T r a cap L ⟨s.k, 20, L.length⟩) := ho
  clear ho
  go_wp2
  go_ret2
  exact ⟨rfl, HO.out⟩
end Go.Proofs.YtbpmpcmmdiaiiaaDoor.K

namespace Go.Proofs.YtbpmpcmmdiaiiaaDoor.K
open Go.RowKit
set_option linter.unusedVariables false
set_option linter.unusedSimpArgs false

theorem Hid.mk' {p : Prop} (h : p) : Hid p := h
theorem or64_nat (a b : Nat) (ha : a < 18446744073709551616) (hb : b < 18446744073709551616) : bits .or .u64 (a : Int) (b : Int) = ((a ||| b : Nat) : Int) := by
  have hx : a ||| b < 2 ^ 64 := Nat.or_lt_two_pow (by omega) (by omega)
  have o : ∀ x : Nat, x < 18446744073709551616 → (BitVec.ofInt 64 (x : Int)).toNat = x := fun x h => by
    rw [BitVec.toNat_ofInt]; omega
  show IntKind.u64.wrap ((BitVec.ofInt 64 (a : Int) ||| BitVec.ofInt 64 (b : Int)).toNat : Int) = _
  rw [BitVec.toNat_or, o a ha, o b hb, IntKind.wrap_u64]
  omega
theorem or_num (vv b i : Nat) (hv : vv < 2 ^ (7 * i)) (hb : vv + b * 2 ^ (7 * i) < 18446744073709551616) :
    bits .or .u64 (vv : Int) (IntKind.u64.wrap ((b : Int) * 2 ^ (7 * (i : Int)).toNat)) = ((vv + b * 2 ^ (7 * i) : Nat) : Int) := by
  have e1 : (7 * (i : Int)).toNat = 7 * i := by omega
  have e2 : (b : Int) * 2 ^ (7 * i) = ((b * 2 ^ (7 * i) : Nat) : Int) := by push_cast; rfl
  rw [e1, e2, IntKind.wrap_u64, show ((b * 2 ^ (7 * i) : Nat) : Int) % 18446744073709551616 = ((b * 2 ^ (7 * i) : Nat) : Int) by omega, or64_nat _ _ (by omega) (by omega)]
  congr 1
  rw [Nat.or_comm, ← Nat.shiftLeft_eq, ← Nat.shiftLeft_add_eq_or_of_lt hv, Nat.shiftLeft_eq]
  omega
theorem pow7 (i : Nat) (h : i ≤ 8) : 128 * 2 ^ (7 * i) ≤ 9223372036854775808 := by
  have : 2 ^ (7 * i) ≤ 2 ^ 56 := Nat.pow_le_pow_right (by omega) (by omega)
  omega
theorem pow7s (i : Nat) : 2 ^ (7 * (i + 1)) = 128 * 2 ^ (7 * i) := by rw [Nat.mul_add, Nat.pow_add]; omega

theorem or_j (vv b j : Nat) (hv : vv < 2 ^ (7 * j)) (hj : j ≤ 8) (hb : b < 128) : bits .or .u64 (vv : Int) (IntKind.u64.wrap ((b : Int) * 2 ^ (7 * j))) = ((vv + b * 2 ^ (7 * j) : Nat) : Int) := by
  have := or_num vv b j hv (by
    have := pow7 j hj
    have : b * 2 ^ (7 * j) ≤ 127 * 2 ^ (7 * j) := Nat.mul_le_mul_right _ (by omega)
    omega)
  rwa [show (7 * (j : Int)).toNat = 7 * j by omega] at this
theorem or_9 (vv b : Nat) (hv : vv < 2 ^ (7 * 9)) (hb : b ≤ 1) : bits .or .u64 (vv : Int) ((b : Int) * 9223372036854775808) = ((vv + b * 2 ^ (7 * 9) : Nat) : Int) := by
  have := or_num vv b 9 hv (by omega)
  rw [show (7 * ((9 : Nat) : Int)).toNat = 63 by decide, IntKind.wrap_u64] at this
  rw [← this]
  congr 1
  omega
theorem or_0 (vv b : Nat) (hv : vv < 2 ^ (7 * 0)) (hb : b < 128) : bits .or .u64 (vv : Int) (b : Int) = ((vv + b * 2 ^ (7 * 0) : Nat) : Int) := by
  have := or_num vv b 0 hv (by omega)
  rw [show (7 * ((0 : Nat) : Int)).toNat = 0 by decide, IntKind.wrap_u64] at this
  rw [← this]
  congr 1
  omega
theorem tup3 {a b : Int} {c d : Value} {e f : Value} (h : a = b) (h2 : c = d) (h3 : e = f) : Ending.returned (.tuple #[.int .u64 a, c, e]) = .returned (.tuple #[.int .u64 b, d, f]) := by rw [h, h2, h3]

variable {T : TypeId} {r cap : Nat} {a : Option Addr} {L : List UInt8} {s : St}
/-- The bytes from a place on, as cells. -/
theorem RD.cells {w : World} (h : RD w T r a cap L s) : L.length = s.k ∨ ∃ b off, from23 a cap s.k = some ⟨b, off, none⟩ ∧ s.k < L.length ∧ b ≠ r ∧ ∀ j, s.k + j < L.length → w.cell? ⟨b, off + j, none⟩ = some (.int .u8 (at8 L (s.k + j))) := by
  by_cases hk : s.k < L.length
  · right
    rcases byt_from h.byt cap s.k h.room with e | ⟨b, off, e, hc⟩
    · have := congrArg List.length e
      simp at this
      omega
    · refine ⟨b, off, e, hk, (plain_from h.plain cap s.k _ e).2, fun j hj => ?_⟩
      have := hc j (by rw [List.length_drop]; omega)
      rw [at8_drop] at this
      exact this
  · left
    have := h.at_le
    omega

set_option maxRecDepth 100000 in
set_option maxHeartbeats 1000000 in
theorem number_any (w : World) (h : RD w T r a cap L s) (hb : s.bad = 0) :
    Calls Tryd.prog 59 #[.pointer (some ⟨r, 0, none⟩)] w fun e w' => e = .returned (.tuple #[.int .u64 ((num L s.k).v : Int), .int .i64 ((num L s.k).size : Int), .bool (decide ((num L s.k).why = 0))]) ∧ On w w' T r a cap L (s.fl (num L s.k).why (num L s.k).place) := by
  obtain ⟨N, hN⟩ : ∃ N, num L s.k = N := ⟨_, rfl⟩
  rw [hN]
  have HN : Hid (numL L.length s.k (L.drop (s.k + 0)) 0 0 = N) := hN
  have HR : Hid (∀ m e p, Calls Tryd.prog 60 #[.pointer (some ⟨r, 0, none⟩), .int .i64 e, .int .i64 p] (w.drewN m) fun x w' => x = .returned (.bool (decide (e = 0))) ∧ On w w' T r a cap L (s.fl e p)) := fun m e p => (keep_any e p (w.drewN m) (h.drew m)).mono fun x w' hx => by
    refine ⟨?_, hx.2.1, (Fr.drew r w m).trans hx.2.2⟩
    rw [hx.1]
    congr 2
    by_cases he : e = 0
    · subst he; simp [St.fl_ok, hb]
    · rw [St.fl_new s e p hb he]
  have HA : Hid (∀ m, Calls Tryd.prog 49 #[.pointer (some ⟨r, 0, none⟩)] (w.drewN m) fun e w' => e = .returned (.int .i64 (s.k : Int)) ∧ w' = w.drewN m) := fun m => cat_any (w.drewN m) (h.drew m)
  clear hN
  have hk := h.at_le
  have hf := h.few
  have c0 := h.c0
  have c1 := h.c1
  have s1 := sl_from a L.length cap s.k (s.k : Int) rfl hk
  have s2 := sl_from' a L.length cap s.k (s.k : Int) rfl hk
  rcases h.cells with hz | ⟨b, off, eA, hlt, hbr, hc⟩
  · clear h
    have hz2 : L.length - s.k = 0 := by omega
    rw [hz2] at s1 s2
    have eN : N = ⟨0, 0, 20, L.length⟩ := by rw [← HN.out]; exact num_end L s.k 0 0 (by omega)
    subst eN
    clear HN hz hz2
    generalize from23 a cap s.k = a4 at *
    generalize cap - s.k = c4 at *
    go_enter Tryd.func59, Tryd.ntmps59
    go_wp2
    go_step3
    go_wp2
    go_quiet (fail)
    go_wp2
    go_step3
    go_wp2
    go_quiet (fail)
    go_wp2
    go_loopw [5, 6, 7, 8, 29] (fun v sz y p i wr => v = .int .u64 0 ∧ sz = .int .i64 0 ∧ y = .int .i64 20 ∧ p = .int .i64 (L.length : Int) ∧ i = .int .i64 0 ∧ ∃ m, wr = w.drewN m) (fun _ _ _ _ _ _ => 0)
    case atStart => exact ⟨rfl, rfl, rfl, rfl, rfl, _, World.drewN_drewN ..⟩
    case round =>
      obtain ⟨rfl, rfl, rfl, rfl, rfl, m, rfl⟩ := hrel
      go_wp2_with fail
      refine (HR.out m 20 (L.length : Int)).mono ?_
      rintro e w1 ⟨rfl, ho⟩
      have HO : Hid (On w w1 T r a cap L (s.fl 20 (L.length : Int))) := ho
      clear ho
      go_wp2
      simp only [Exit.noGoto]
      go_ret3
      exact ⟨rfl, HO.out⟩
  · clear h
    rw [eA] at s1 s2
    clear eA
    generalize cap - s.k = c4 at *
    have hn1 : ((L.length - s.k : Nat) : Int) = (L.length : Int) - (s.k : Int) := by omega
    generalize hD : L.length - s.k = D at *
    go_enter Tryd.func59, Tryd.ntmps59
    go_wp2
    go_step3
    go_wp2
    go_quiet (fail)
    go_wp2
    go_step3
    go_wp2
    go_quiet (fail)
    go_wp2
    go_loopw [5, 6, 7, 8, 29] (fun v sz y p i wr => ∃ j vv : Nat, v = .int .u64 (vv : Int) ∧ sz = .int .i64 0 ∧ y = .int .i64 20 ∧ p = .int .i64 (L.length : Int) ∧ i = .int .i64 (j : Int) ∧ j ≤ 9 ∧ Hid (vv < 2 ^ (7 * j)) ∧ Hid (numL L.length s.k (L.drop (s.k + j)) j vv = N) ∧ ∃ m, wr = w.drewN m) (fun _ _ _ _ i _ => 10 - (intOf i).toNat)
    case atStart => exact ⟨0, 0, rfl, rfl, rfl, rfl, rfl, by omega, by show 0 < 2 ^ (7 * 0); decide, HN, _, World.drewN_drewN ..⟩
    case round =>
      clear HN
      obtain ⟨j, vv, rfl, rfl, rfl, rfl, rfl, hj, HV, HN, m, rfl⟩ := hrel
      by_cases hend : (j : Int) < (D : Int)
      · have cc := hc j (by omega)
        obtain ⟨bn, hbn⟩ : ∃ bn : Nat, at8 L (s.k + j) = (bn : Int) := ⟨_, rfl⟩
        have hb255 : bn ≤ 255 := by have := at8_hi L (s.k + j); omega
        rw [hbn] at cc
        have hst := num_step L s.k j vv bn (by omega) hbn
        rw [HN.out] at hst
        clear hbn HN
        by_cases hbad : (j = 9 ∧ 1 < bn) ∨ (0 < j ∧ bn = 0)
        · rw [if_pos hbad] at hst
          subst hst
          rcases hbad with ⟨h9, h1⟩ | ⟨h9, h1⟩
          · subst h9
            have h1' : (1 : Int) < (bn : Int) := by omega
            go_wp2_with (first | (go_at_call 49; refine (HA.out m).mono ?_; rintro e w1 ⟨rfl, hw1⟩; subst hw1) | fail)
            refine (HR.out m 21 _).mono ?_
            rintro e w1 ⟨rfl, ho⟩
            have HO := Hid.mk' ho
            clear ho
            go_wp2
            simp only [Exit.noGoto]
            go_ret3
            exact ⟨rfl, HO.out⟩
          · subst h1
            have h9' : (0 : Int) < (j : Int) := by omega
            by_cases h99 : j = 9
            · subst h99
              go_wp2_with (first | (go_at_call 49; refine (HA.out m).mono ?_; rintro e w1 ⟨rfl, hw1⟩; subst hw1) | fail)
              refine (HR.out m 21 _).mono ?_
              rintro e w1 ⟨rfl, ho⟩
              have HO := Hid.mk' ho
              clear ho
              go_wp2
              simp only [Exit.noGoto]
              go_ret3
              exact ⟨rfl, HO.out⟩
            · have h99' : ¬ (j : Int) = 9 := by omega
              go_wp2_with (first | (go_at_call 49; refine (HA.out m).mono ?_; rintro e w1 ⟨rfl, hw1⟩; subst hw1) | fail)
              refine (HR.out m 21 _).mono ?_
              rintro e w1 ⟨rfl, ho⟩
              have HO := Hid.mk' ho
              clear ho
              go_wp2
              simp only [Exit.noGoto]
              go_ret3
              exact ⟨rfl, HO.out⟩
        · rw [if_neg hbad] at hst
          by_cases hsm : bn < 128
          · rw [if_pos hsm] at hst
            have hsm' : (bn : Int) < 128 := by omega
            by_cases h99 : j = 9
            · subst h99
              have hb1 : ¬ (1 : Int) < (bn : Int) := by omega
              have hb0 : ¬ (bn : Int) = 0 := by omega
              have OR := Hid.mk' (or_9 vv bn HV.out (by omega))
              subst hst
              clear hbad
              go_wp2_with fail
              refine (HR.out m 0 _).mono ?_
              rintro e w1 ⟨rfl, ho⟩
              have HO := Hid.mk' ho
              clear ho
              go_wp2
              simp only [Exit.noGoto]
              go_ret3
              exact ⟨tup3 OR.out rfl rfl, HO.out⟩
            · have h99' : ¬ (j : Int) = 9 := by omega
              by_cases h00 : j = 0
              · subst h00
                have OR := Hid.mk' (or_0 vv bn HV.out (by omega))
                rw [Nat.add_zero] at cc
                subst hst
                clear hbad
                go_wp2_with fail
                refine (HR.out m 0 _).mono ?_
                rintro e w1 ⟨rfl, ho⟩
                have HO := Hid.mk' ho
                clear ho
                go_wp2
                simp only [Exit.noGoto]
                go_ret3
                exact ⟨tup3 OR.out rfl rfl, HO.out⟩
              · have h00' : (0 : Int) < (j : Int) := by omega
                have hb0 : ¬ (bn : Int) = 0 := by omega
                have OR := Hid.mk' (or_j vv bn j HV.out (by omega) hsm)
                have h7 : (7 : Int) * (j : Int) ≤ 64 := by omega
                subst hst
                clear hbad
                go_wp2_with fail
                refine (HR.out m 0 _).mono ?_
                rintro e w1 ⟨rfl, ho⟩
                have HO := Hid.mk' ho
                clear ho
                go_wp2
                simp only [Exit.noGoto]
                go_ret3
                exact ⟨tup3 OR.out rfl rfl, HO.out⟩
          · rw [if_neg hsm] at hst
            have hsm' : ¬ (bn : Int) < 128 := by omega
            have hb0 : ¬ (bn : Int) = 0 := by omega
            have h99 : j ≠ 9 := fun h => hbad (.inl ⟨h, by omega⟩)
            have h99' : ¬ (j : Int) = 9 := by omega
            have HST := Hid.mk' hst.symm
            have hV2 : Hid (vv + (bn - 128) * 2 ^ (7 * j) < 2 ^ (7 * (j + 1))) := by
              show _ < _
              have hV := HV.out
              rw [pow7s]
              have : (bn - 128) * 2 ^ (7 * j) ≤ 127 * 2 ^ (7 * j) := Nat.mul_le_mul_right _ (by omega)
              omega
            have hsub : ((bn : Int) - 128) = ((bn - 128 : Nat) : Int) := by omega
            have OR := Hid.mk' (or_j vv (bn - 128) j HV.out (by omega) (by omega))
            clear hst hbad
            by_cases h00 : j = 0
            · subst h00
              rw [Nat.add_zero] at cc
              have OR0 := Hid.mk' (or_0 vv (bn - 128) HV.out (by omega))
              go_wp2_with fail
              exact ⟨⟨0 + 1, vv + (bn - 128) * 2 ^ (7 * 0), congrArg _ OR0.out, rfl, rfl, rfl, rfl, by omega, hV2, HST, m, rfl⟩, by simp [intOf]⟩
            · have h00' : (0 : Int) < (j : Int) := by omega
              have h7 : (7 : Int) * (j : Int) ≤ 64 := by omega
              go_wp2_with fail
              exact ⟨⟨j + 1, vv + (bn - 128) * 2 ^ (7 * j), congrArg _ OR.out, rfl, rfl, rfl, by go_num, by omega, hV2, HST, m, rfl⟩, by simp [intOf]; omega⟩
      · have eN : N = ⟨vv, 0, 20, L.length⟩ := by rw [← HN.out]; exact num_end L s.k j vv (by omega)
        subst eN
        clear HN
        go_wp2_with fail
        refine (HR.out m 20 _).mono ?_
        rintro e w1 ⟨rfl, ho⟩
        have HO := Hid.mk' ho
        clear ho
        go_wp2
        simp only [Exit.noGoto]
        go_ret3
        exact ⟨rfl, HO.out⟩
end Go.Proofs.YtbpmpcmmdiaiiaaDoor.K

