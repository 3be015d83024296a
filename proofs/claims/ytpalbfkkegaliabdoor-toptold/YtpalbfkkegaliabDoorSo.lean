import Derived.Test.YtpalbfkkegaliabDoorMat
import Derived.Test.YtpalbfkkegaliabDoorHl
import Derived.Test.YtpalbfkkegaliabDoorSl
import Derived.Shelf.SlSortCmp.WholeK
import Derived.Shelf.SlSortCmp.NoneTotal
namespace Go.Proofs.YtpalbfkkegaliabDoor
open Go.RowKit Go.Shelf
open Go.Sort hiding Below
set_option linter.unusedVariables false
set_option linter.unusedSimpArgs false

def pad (x : List UInt8) : List UInt8 := (x ++ List.replicate 32 0).take 32
theorem pad_len (x : List UInt8) : (pad x).length = 32 := by simp [pad]
theorem pad_id {x : List UInt8} (h : x.length = 32) : pad x = x := by
  unfold pad
  rw [List.take_append_of_le_length (by omega), ← h, List.take_length]
def encH (x : List UInt8) : List Value := hcs (pad x)
theorem encH_len (x : List UInt8) : (encH x).length = 32 := by rw [encH, hcs_len, pad_len]
theorem encH_id {x : List UInt8} (h : x.length = 32) : encH x = hcs x := by rw [encH, pad_id h]
def cfH (x y : List UInt8) : Int := cmpL (pad x) (pad y)
theorem ltOf_cfH (x y : List UInt8) : ltOf cfH x y = decide (cmpL (pad x) (pad y) < 0) := rfl
theorem swoH : Go.Sort.SWO (ltOf cfH) := {
  irrefl := fun x => by rw [ltOf_cfH, cmpL_same]; rfl
  trans := fun x y z h1 h2 => by
    rw [ltOf_cfH, decide_eq_true_eq] at *
    exact lt_trans (pad_len x) (pad_len y) (pad_len z) h1 h2
  ntrans := fun x y z h1 h2 => by
    rw [ltOf_cfH, decide_eq_false_iff_not] at *
    intro h3
    have e1 := cmpL_neg (pad_len x) (pad_len y)
    by_cases h : cmpL (pad y) (pad x) < 0
    · exact h2 (lt_trans (pad_len y) (pad_len x) (pad_len z) h h3)
    · have h0 : cmpL (pad x) (pad y) = 0 := by omega
      rw [cmpL_zero (pad_len x) (pad_len y)] at h0
      rw [h0] at h3
      exact h2 h3 }
theorem alloc_grow (w : World) (a b : Obj) (m : Nat) : ((w.alloc a).alloc b).drewN m = Go.Sort.grow (w.drewN m) #[a, b] := by
  rw [Go.Sort.alloc_eq_grow, Go.Sort.alloc_eq_grow, Go.Sort.grow_grow]
  rfl
theorem cmpLaysH (blk off size : Nat) (w : World) : CmpLays Tryd.prog 61 #[] encH 32 cfH blk off size w :=
  fun m os dk hdk x y => by
    have h := cmp_grow (pad x) (pad y) (pad_len x) (pad_len y) (sortWorldK encH 32 w blk off m dk os)
    have e1 : (encH x).toArray = bs (pad x) := by rw [encH, hcs_arr]
    have e2 : (encH y).toArray = bs (pad y) := by rw [encH, hcs_arr]
    rw [e1, e2]
    exact h.mono fun e w' ⟨he, q, hw⟩ => ⟨he, q, #[.cells (bs (pad x)) 36, .cells (bs (pad y)) 36], by rw [hw, alloc_grow]⟩
theorem holdsK_of {w : World} {g : Nat} {L : List (List UInt8)} (hL : All32 L) (h : Hs w g 0 L) (ht : w.there g 0 (32 * L.length)) : HoldsK encH 32 w g 0 L.toArray := fun j hj => by
  rw [size_flatK] at hj
  simp only [List.size_toArray] at hj
  have hi : j / 32 < L.length := by omega
  have hx : L[j / 32]? = some L[j / 32] := List.getElem?_eq_getElem hi
  have h32 := hL.get hx
  rw [get_flatK _ _ _ _ (by simpa using hj)]
  have hc := h (j / 32) _ hx (j % 32) ((hcs L[j / 32])[j % 32]'(by rw [hcs_len, h32]; omega)) (List.getElem?_eq_getElem _)
  rw [show 0 + 32 * (j / 32) + j % 32 = 0 + j by omega] at hc
  refine ⟨?_, (ht j (by omega)).2⟩
  rw [hc]
  have e : L.toArray[j / 32]! = L[j / 32] := by simp [hi]
  rw [e, encH_id h32]
  simp only [id_eq]
  rw [getElem!_pos]
theorem hs_of_holdsK {w : World} {g : Nat} {L : List (List UInt8)} (hL : All32 L) (h : HoldsK encH 32 w g 0 L.toArray) : Hs w g 0 L ∧ w.there g 0 (32 * L.length) := by
  constructor
  · intro i x hx j v hv
    have hi := (List.getElem?_eq_some_iff.1 hx).1
    have h32 := hL.get hx
    have hj : j < 32 := by have := (List.getElem?_eq_some_iff.1 hv).1; rwa [hcs_len, h32] at this
    have hc := (HoldsK.cell h (i := i) (c := j) (by simpa using hi) hj).1
    rw [show 0 + 32 * i + j = 0 + i * 32 + j by omega, hc]
    have e : L.toArray[i]! = x := by
      rw [List.getElem?_eq_getElem hi] at hx
      have := Option.some.inj hx
      simp [hi, this]
    rw [e, encH_id h32]
    obtain ⟨hl, hv'⟩ := List.getElem?_eq_some_iff.1 hv
    rw [getElem!_pos (hcs x) j hl, hv']
  · intro j hj
    have hc := HoldsK.cell h (i := j / 32) (c := j % 32) (by simp; omega) (by omega)
    rw [show 0 + j / 32 * 32 + j % 32 = 0 + j by omega] at hc
    exact ⟨by rw [hc.1]; rfl, hc.2⟩
theorem sortW_below {w : World} {g n : Nat} {os : Array Obj} (d : Array (List UInt8)) (B : Nat) (hB : B ≤ g) (hg : g < w.heap.size) : Go.RowKit.Below B w (sortWorldK encH 32 w g 0 n d os) := by
  refine ⟨rfl, rfl, rfl, by simp [sortWorldK, Go.Sort.grow, putRowK, Go.Sort.putRow, Go.Sort.mapBlock, Go.Sort.ahead], fun k hk => ?_⟩
  have hne : g ≠ k := by omega
  have hk2 : k < w.heap.size := by omega
  simp [sortWorldK, Go.Sort.grow, putRowK, Go.Sort.putRow, Go.Sort.mapBlock, Go.Sort.ahead, Array.getElem?_append, Array.getElem?_modify, Array.getElem_modify, hk2, hne]
/-- No later one is less than an earlier one. -/
def Rises (L : List (List UInt8)) : Prop := ∀ (i j : Nat) (x y : List UInt8), L[i]? = some x → L[j]? = some y → i < j → ¬ cmpL y x < 0
theorem sortW_holds {w : World} {g n : Nat} {os : Array Obj} (d d' : Array (List UInt8)) (h : HoldsK encH 32 w g 0 d) (hs : d'.size = d.size) (hg : g < w.heap.size) : HoldsK encH 32 (sortWorldK encH 32 w g 0 n d' os) g 0 d' :=
  holdsK_grow _ _ _ _ _ _ _ (by simpa [putRowK, Go.Sort.ahead] using hg) (holdsK_putRowK _ _ _ _ _ d d' (holdsK_ahead _ _ _ _ _ _ _ h) hs)

set_option maxHeartbeats 1000000 in
/-- slices.SortFunc by digest.Compare. -/
theorem sortH_any (g : Nat) (L : List (List UInt8)) (cap : Nat) (w : World) (hL : All32 L) (hn : L.length ≤ 4398046511104) (hg : g < w.heap.size) (hs : Hs w g 0 L) (ht : w.there g 0 (32 * L.length)) :
    Calls Tryd.prog 60 #[.slice (some ⟨g, 0, none⟩) L.length cap, .func (.func 61) #[] #[]] w fun e w' => e = .returned (.tuple #[]) ∧
      ∃ L' : List (List UInt8), L'.Perm L ∧ Rises L' ∧ Hs w' g 0 L' ∧ w'.there g 0 (32 * L.length) ∧ ∀ B, B ≤ g → Go.RowKit.Below B w w' := by
  have eg : ∀ args w, (callFunc 61 args).run Tryd.prog w = .ok (.enter 61 args) w := enters_of Tryd.func61 (by kernel_rfl) rfl
  have hH := holdsK_of hL hs ht
  have h := AnyQ.slices_SortFunc sortLays 32 Tryd.isAgg36 Tryd.sizeOf36 encH encH_len (fun x v hv => hcs_one (pad x) v hv) cfH swoH 61 #[] g 0 cap L.toArray w eg (cmpLaysH g 0 _ w) hH hg (by simp; omega)
  change Calls Tryd.prog 60 _ _ _ at h
  simp only [List.size_toArray] at h
  refine h.mono ?_
  rintro e w' ⟨he, d', n, os, hp, hsrt, rfl⟩
  have hsz : d'.size = L.length := by simpa using hp.1
  have hperm : d'.toList.Perm L := by
    have := hp.2.2
    rw [← hsz, Array.extract_size] at this
    have e2 : L.toArray.extract 0 d'.size = L.toArray := by rw [hsz]; simp
    rw [e2] at this
    simpa using this
  have hL' : All32 d'.toList := fun x hx => hL x (hperm.mem_iff.1 hx)
  have hh := sortW_holds (n := n) (os := os) L.toArray d' hH (by simpa using hsz) hg
  have hh2 := hs_of_holdsK hL' (by simpa using hh)
  refine ⟨he, d'.toList, hperm, ?_, hh2.1, ?_, fun B hB => sortW_below _ B hB hg⟩
  · intro i j x y hx hy hij
    have hi := (List.getElem?_eq_some_iff.1 hx).1
    have hj := (List.getElem?_eq_some_iff.1 hy).1
    have hlt := hsrt i j (by omega) hij (by rw [← hsz]; simpa using hj)
    have e1 : d'[i]! = x := by
      have h2 := (List.getElem?_eq_some_iff.1 hx).2
      rw [getElem!_pos d' i (by simpa using hi)]
      simpa using h2
    have e2 : d'[j]! = y := by
      have h2 := (List.getElem?_eq_some_iff.1 hy).2
      rw [getElem!_pos d' j (by simpa using hj)]
      simpa using h2
    rw [e1, e2, ltOf_cfH, decide_eq_false_iff_not, pad_id (hL'.get hx), pad_id (hL'.get hy)] at hlt
    exact hlt
  · have := hh2.2
    rw [show d'.toList.length = L.length by simpa using hsz] at this
    exact this
end Go.Proofs.YtpalbfkkegaliabDoor
