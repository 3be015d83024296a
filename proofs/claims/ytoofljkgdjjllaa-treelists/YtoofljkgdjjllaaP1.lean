import Derived.Test.YtoofljkgdjjllaaP0
import Derived.Test.YtoofljkgdjjllaaRg
import Derived.Great.BuildSlice
import Derived.Deep.DeepAppendWide
import Derived.Maps.AppendAt
import Derived.OwnWalk
import Derived.Deep.RegionLaw
namespace Go.Proofs.Ytoofljkgdjjllaa
open Go.RowKit
set_option linter.unusedVariables false
set_option linter.unusedSimpArgs false

def pairs (L : List OpV) : List IdK := L.flatMap fun o => [o.id, o.under]
def namedL (L : List OpV) : List IdK := zId :: pairs L
theorem pairs_app (L M : List OpV) : pairs (L ++ M) = pairs L ++ pairs M := by simp [pairs]
theorem pairs_len : ∀ L : List OpV, (pairs L).length = 2 * L.length
  | [] => rfl
  | x :: L => by
    have := pairs_len L
    simp only [pairs, List.flatMap_cons, List.length_append, List.length_cons, List.length_nil] at this ⊢
    omega
theorem namedL_ok {L : List OpV} (h : ∀ x ∈ L, x.ok) : ∀ y ∈ namedL L, y.ok := by
  intro y hy
  rcases List.mem_cons.1 hy with rfl | hy
  · exact zId_ok
  · obtain ⟨o, ho, hm⟩ := List.mem_flatMap.1 hy
    simp at hm
    rcases hm with rfl | rfl
    · exact (h o ho).id
    · exact (h o ho).under
theorem own_lit1 (w : World) (x : IdK) (hx : x.ok) : OwnI (w.alloc (.cells x.c.toArray 37)) w.heap.size (.slice (some ⟨w.heap.size, 0, none⟩) 1 1) [x] := by
  have l := IdK.len hx
  refine ⟨by simp [flatI, l], Or.inr ⟨w.heap.size, 1, x.c.toArray, rfl, Nat.le_refl _, heap_alloc_new _ _, by simp, by unfold maxLen; omega, by simp [l], ?_⟩⟩
  rw [List.length_cons, List.length_nil, List.toList_toArray, List.take_of_length_le (by omega)]
  simp [flatI]
theorem below_grown {w w' : World} {B : Nat} {v : Value} {L : List IdK} (own : OwnI w B v L) (hB : B ≤ w.heap.size) (g : w.grownBy w' v.ownBlock) : Below B w w' :=
  ⟨g.os, g.tape, g.output, g.size, fun j hj => g.block j (Nat.lt_of_lt_of_le hj hB) (fun e => by have := (own.ge j e.symm).1; omega)⟩
set_option maxRecDepth 100000 in
set_option maxHeartbeats 2000000 in
theorem named_any (a : Option Addr) (c : Nat) (L : List OpV) (w : World) (hL : RowAt 69 OpV.c w a L) (ok : ∀ x ∈ L, x.ok) (hn : L.length ≤ 1256584717422) :
    Calls Try.prog 14 #[.slice a L.length c] w fun e w' => ∃ v, e = .returned v ∧ OwnI w' w.heap.size v (namedL L) ∧ Below w.heap.size w w' := by
  obtain ⟨n, hnn⟩ : ∃ n, L.length = n := ⟨_, rfl⟩
  have HNn := hidMk hnn
  have HLn := hidMk hn
  rw [hnn]
  clear hnn hn
  go_enter Try.func14, Try.ntmps14
  have ebs : Hid ((Instr.buildSlice 41 1 #[(0, zId.v)]).run Try.prog w = .ok (.slice (some ⟨w.heap.size, 0, none⟩) 1 1) (w.alloc (.cells zId.c.toArray 37))) := run_bsI zId zId_ok w
  have own1 := own_lit1 w zId zId_ok
  have bel1 : Below w.heap.size w (w.alloc (.cells zId.c.toArray 37)) := (Below.refl _ _).alloc (Nat.le_refl _) _
  go_wp2_with (first
    | (refine wpList_val rfl (exec_build0 rfl (build_id _)) ?_)
    | (refine wpList_run rfl (exec_buildSlice (t := 41) (n := 1) (xv := zId.v) (v := .slice (some ⟨w.heap.size, 0, none⟩) 1 1) rfl rfl ebs.out) ?_)
    | fail)
  generalize w.alloc (.cells zId.c.toArray 37) = w1 at *
  generalize Value.slice (some ⟨w.heap.size, 0, none⟩) 1 1 = v1 at *
  go_loopw [3, 4] (fun v3 v4 wr => ∃ i : Nat, v4 = .int .i64 (i : Int) ∧ i ≤ n ∧ OwnI wr w.heap.size v3 (namedL (L.take i)) ∧ Below w.heap.size w wr) (fun v3 v4 wr => n - (match v4 with | .int _ i => i.toNat | _ => 0))
  case atStart => exact ⟨0, rfl, Nat.zero_le _, own1, bel1⟩
  case round =>
    clear own1 bel1 ebs
    obtain ⟨i, rfl, hin, own, bel⟩ := hrel
    have hLn := HNn.out
    by_cases hi : i < n
    · have hxi : L[i]? = some L[i] := List.getElem?_eq_getElem (by omega)
      generalize L[i] = x at hxi
      have hxo : x.ok := ok x (List.mem_of_getElem? hxi)
      obtain ⟨b, o, rfl, lb, hr⟩ : ∃ b o, a = some ⟨b, o, none⟩ ∧ b < w.heap.size ∧ w.rangeAt b (o + i * 69) x.c := by
        rcases hL with rfl | ⟨b, o, e, h1, h2⟩
        · simp at hxi
        · exact ⟨b, o, e, h1, h2 i x hxi⟩
      have hbig := HLn.out
      have HR := hidMk (fun (W : World) (bb : Below w.heap.size w W) => rangeAt_keep hr (bb.block _ lb))
      obtain ⟨u, wu, eu, ⟨au, cu, rfl, iu⟩, lu⟩ := bs2_id x.id x.under hxo.id hxo.under wr.drew
      have beld : Below w.heap.size w wr.drew := bel.drew
      have belu : Below w.heap.size w wu := beld.trans (lu.mono beld.size)
      have ownd : OwnI wr.drew w.heap.size u3 (namedL (L.take i)) := own
      have ownu := ownd.below lu
      have htl : (L.take i).length = i := by simp; omega
      have hnl : (namedL (L.take i)).length = 1 + 2 * i := by rw [namedL, List.length_cons, pairs_len, htl]; omega
      obtain ⟨v3', wv, eap, own3, g3, _⟩ := run_appI wu w.heap.size u3 (namedL (L.take i)) au [x.id, x.under] cu ownu iu (by
        intro y hy
        simp at hy
        rcases hy with rfl | rfl
        · exact hxo.id
        · exact hxo.under) (by rw [hnl]; simp; omega) belu.size
      have belv : Below w.heap.size w wv := belu.trans (below_grown ownu belu.size g3)
      have hnext : namedL (L.take i) ++ [x.id, x.under] = namedL (L.take (i + 1)) := by
        rw [List.take_add_one, hxi]
        show zId :: (pairs (L.take i) ++ [x.id, x.under]) = zId :: pairs (L.take i ++ [x])
        rw [pairs_app]
        rfl
      rw [hnext] at own3
      have HO := hidMk own3
      clear own3 hnext hnl htl hxi own ownd ownu g3
      go_upto_region 5 with fail
      refine named5 b o n c i u3 x.id.v x.under.v (.slice au 2 cu) v3' wu wv (fun wx => Below w.heap.size w wx) _ wr _ rfl rfl rfl rfl beld belu belv eu eap ?_ ?_ ?_ ?_
      · exact fun W => ix_op hi (by omega) W
      · exact fun W hw => op_id hxo (HR.out W hw)
      · exact fun W hw => op_under hxo (HR.out W hw)
      intro a' w' hw' ha
      subst hw' ha
      simp only [Act.put, List.setIfInBounds_toArray, List.set_cons_zero, List.set_cons_succ]
      go_wp2
      rw [show ((i : Int) + 1) = ((i + 1 : Nat) : Int) by omega]
      refine ⟨⟨i + 1, rfl, hi, HO.out, belv⟩, ?_⟩
      show n - ((i + 1 : Nat) : Int).toNat < n - (i : Int).toNat
      omega
    · obtain rfl : i = n := by omega
      rw [List.take_of_length_le (by omega)] at own
      have HO := hidMk own
      clear own hLn hin hi
      go_wp2
      go_ret
      exact ⟨_, rfl, HO.out, bel⟩
end Go.Proofs.Ytoofljkgdjjllaa

namespace Go.Proofs.Ytoofljkgdjjllaa
open Go.RowKit
set_option linter.unusedVariables false
set_option linter.unusedSimpArgs false

structure Tells (w0 : World) (tv : Value) (f : Fn) (D : List IdK) (cl cw ck cu ci cd : Nat) : Prop where
  len : ∀ W, Below w0.heap.size w0 W → Calls Try.prog cl #[tv] W fun e w' => e = .returned (.int .i64 (D.length : Int)) ∧ Below W.heap.size W w'
  walk : ∀ W, Below w0.heap.size w0 W → Calls Try.prog cw #[tv] W fun e w' => ∃ v L, e = .returned v ∧ IdsIs L w' v ∧ IsWalk f L ∧ Below W.heap.size W w'
  kids : ∀ k : IdK, k.ok → ∀ W, Below w0.heap.size w0 W → Calls Try.prog ck #[tv, k.v] W fun e w' => ∃ v L, e = .returned v ∧ IdsIs L w' v ∧ IsKids f k L ∧ Below W.heap.size W w'
  under : ∀ k : IdK, k.ok → ∀ W, Below w0.heap.size w0 W → Calls Try.prog cu #[tv, k.v] W fun e w' => e = .returned (.tuple #[(nd f k).u.v, .string (nd f k).key, .bool ((f k).isSome && !(nd f k).pr)]) ∧ Below W.heap.size W w'
  live : ∀ k : IdK, k.ok → ∀ W, Below w0.heap.size w0 W → Calls Try.prog ci #[tv, k.v] W fun e w' => ∃ b, e = .returned (.bool b) ∧ LiveIs f k b ∧ Below W.heap.size W w'
  deep : ∀ k : IdK, k.ok → ∀ W, Below w0.heap.size w0 W → Calls Try.prog cd #[tv, k.v] W fun e w' => ∃ d, e = .returned (.int .i64 d) ∧ DeepIs f k d ∧ Below W.heap.size W w'
theorem own_is {w : World} {base : Nat} {v : Value} {L : List IdK} (h : OwnI w base v L) (ok : ∀ x ∈ L, x.ok) : IdsIs L w v := by
  obtain ⟨a, c, e, h2, _⟩ := h.open ok
  exact ⟨a, c, e, h2⟩
theorem walk_ok {f : Fn} {D L : List IdK} (hD : Dom f D) (h : IsWalk f L) : ∀ x ∈ L, x.ok := fun x hx => hD.ok x ((hD.mem x).2 (h.there x hx))
theorem tells_own {B : Nat} {w : World} {s : Tr} {H : List Rec} {f : Fn} (h : Own B w s H f) {D : List IdK} (hD : Dom f D) (hl : D.length ≤ 1300000000000) :
    Tells w (.pointer (some ⟨s.t, 0, none⟩)) f D 21 23 24 37 39 29 := {
  len := fun W b => len_own (h.below b) hD
  walk := fun W b => (walk_own (h.below b) hD hl).mono fun e w' ⟨v, L, h1, h2, h3, h4⟩ => ⟨v, L, h1, own_is h2 (walk_ok hD h3), h3, h4⟩
  kids := fun k hk W b => (kids_own (h.below b) hD hl k hk).mono fun e w' ⟨v, L, h1, h2, h3, h4⟩ => ⟨v, L, h1, own_is h2 h3.ok, h3, h4⟩
  under := fun k hk W b => under_own (h.below b) k hk
  live := fun k hk W b => live_own (h.below b) hD hl k hk
  deep := fun k hk W b => deep_own (h.below b) hD hl k hk }
end Go.Proofs.Ytoofljkgdjjllaa

namespace Go.Proofs.Ytoofljkgdjjllaa
open Go.RowKit
set_option linter.unusedVariables false
set_option linter.unusedSimpArgs false

def rnC (p : IdK × NodeV) : List Value := p.1.c ++ (p.2.u.c ++ [.string p.2.key, .bool p.2.pr])
structure RnOk (p : IdK × NodeV) : Prop where
  k : p.1.ok
  u : p.2.u.ok
theorem rn_len {p : IdK × NodeV} (h : RnOk p) : (rnC p).length = 68 := by
  have h1 := IdK.len h.k
  have h2 := IdK.len h.u
  simp [rnC, h1, h2]
structure RefAt (w : World) (d : Nat) (NL : List (IdK × NodeV)) (pv : Value) : Prop where
  cell : ∃ a c, w.heap[d]? = some (.cells #[.slice a NL.length c, pv] 86 (0, 0)) ∧ RowAt 68 rnC w a NL
  ok : ∀ p ∈ NL, RnOk p
  nd : (NL.map (·.1)).Nodup
theorem RefAt.lt {w : World} {d : Nat} {NL : List (IdK × NodeV)} {pv : Value} (h : RefAt w d NL pv) : d < w.heap.size := by
  obtain ⟨a, c, h1, _⟩ := h.cell
  exact (Array.getElem?_eq_some_iff.1 h1).1
theorem RefAt.below {w w' : World} {d : Nat} {NL : List (IdK × NodeV)} {pv : Value} (h : RefAt w d NL pv) (b : Below w.heap.size w w') : RefAt w' d NL pv := by
  have hl := h.lt
  obtain ⟨a, c, h1, h2⟩ := h.cell
  exact ⟨⟨a, c, (b.block _ hl).trans h1, h2.below b⟩, h.ok, h.nd⟩
def fPos (NL : List (IdK × NodeV)) (k : IdK) : Int := match M.fnd NL k 0 with | some (j, _) => (j : Int) | none => -1
theorem fnd_first {NL : List (IdK × NodeV)} {k : IdK} : ∀ {j : Nat} {n : NodeV}, NL[j]? = some (k, n) → (∀ i, i < j → ∀ p, NL[i]? = some p → p.1 ≠ k) → M.fnd NL k 0 = some (j, n) := by
  induction NL with
  | nil => intro j n h; simp at h
  | cons p NL ih =>
    intro j n h hb
    unfold M.fnd
    cases j with
    | zero =>
      simp at h
      subst h
      rw [if_pos rfl]
    | succ j =>
      have h0 := hb 0 (by omega) p rfl
      rw [if_neg (fun e => h0 e.symm), M.fnd_shift]
      have := ih (j := j) (n := n) (by simpa using h) (fun i hi q hq => hb (i + 1) (by omega) q (by simpa using hq))
      rw [this]
      simp
theorem fnd_no {NL : List (IdK × NodeV)} {k : IdK} (h : ∀ p ∈ NL, p.1 ≠ k) : M.fnd NL k 0 = none := by
  cases hf : M.fnd NL k 0 with
  | none => rfl
  | some q =>
    obtain ⟨j, n⟩ := q
    exact absurd rfl (h _ (List.mem_of_getElem? (M.fnd_some hf).1))
theorem ix_rn {b o n c i : Nat} (h : i < n) (hn : n ≤ 9223372036854775807) (w : World) : (Instr.indexAt 83 (.slice (some ⟨b, o, none⟩) n c) (.int .i64 (i : Int))).run Try.prog w = .ok (.pointer (some ⟨b, o + i * 68, none⟩)) w := by go_simp
section
variable {w : World} {b o : Nat} {p : IdK × NodeV}
theorem rn_id (hp : RnOk p) (h : w.rangeAt b o (rnC p)) : (Instr.loadAt 37 (.pointer (some ⟨b, o + 0, none⟩))).run Try.prog w = .ok p.1.v w := by
  refine load_id_at hp.k (fun j v hv => ?_)
  have hl := (List.getElem?_eq_some_iff.1 hv).1
  rw [Nat.add_zero]
  exact h j v (by rw [rnC, List.getElem?_append_left hl]; exact hv)
theorem rn_under (hp : RnOk p) (h : w.rangeAt b o (rnC p)) : (Instr.loadAt 37 (.pointer (some ⟨b, o + 33, none⟩))).run Try.prog w = .ok p.2.u.v w := by
  refine load_id_at hp.u (fun j v hv => ?_)
  have hl := (List.getElem?_eq_some_iff.1 hv).1
  have l1 := IdK.len hp.k
  have := h (33 + j) v (by rw [rnC, List.getElem?_append_right (by omega), l1, show 33 + j - 33 = j by omega, List.getElem?_append_left hl]; exact hv)
  rwa [← Nat.add_assoc] at this
theorem rn_key (hp : RnOk p) (h : w.rangeAt b o (rnC p)) : (Instr.loadAt 9 (.pointer (some ⟨b, o + 66, none⟩))).run Try.prog w = .ok (.string p.2.key) w := by
  have l1 := IdK.len hp.k
  have l2 := IdK.len hp.u
  have hc : w.cell? ⟨b, o + 66, none⟩ = some (.string p.2.key) := h 66 _ (by
    rw [rnC, List.getElem?_append_right (by omega), l1, List.getElem?_append_right (by omega), l2]
    rfl)
  go_simp
theorem rn_pr (hp : RnOk p) (h : w.rangeAt b o (rnC p)) : (Instr.loadAt 4 (.pointer (some ⟨b, o + 67, none⟩))).run Try.prog w = .ok (.bool p.2.pr) w := by
  have l1 := IdK.len hp.k
  have l2 := IdK.len hp.u
  have hc : w.cell? ⟨b, o + 67, none⟩ = some (.bool p.2.pr) := h 67 _ (by
    rw [rnC, List.getElem?_append_right (by omega), l1, List.getElem?_append_right (by omega), l2]
    rfl)
  go_simp
end
theorem load_ns {w : World} {b o : Nat} {v : Value} (h : w.cell? ⟨b, o, none⟩ = some v) : (Instr.loadAt 83 (.pointer (some ⟨b, o, none⟩))).run Try.prog w = .ok v w := by go_simp
set_option maxRecDepth 100000 in
set_option maxHeartbeats 2000000 in
theorem find_any (d : Nat) (NL : List (IdK × NodeV)) (pv : Value) (k : IdK) (w : World) (h : RefAt w d NL pv) (hk : k.ok) (hn : NL.length ≤ 1300000000000) :
    Calls Try.prog 77 #[.pointer (some ⟨d, 0, none⟩), k.v] w fun e w' => e = .returned (.int .i64 (fPos NL k)) ∧ Below w.heap.size w w' := by
  have lt := h.lt
  obtain ⟨a, c, hc, hrow⟩ := h.cell
  obtain ⟨n, hnn⟩ : ∃ n, NL.length = n := ⟨_, rfl⟩
  have HNn := hidMk hnn
  have HLn := hidMk hn
  rw [hnn] at hc
  have C0 : w.cell? ⟨d, 0, none⟩ = some (.slice a n c) := by rw [cell_of_row _ _ 0 _ _ _ hc]; rfl
  have HC := hidMk (fun (W : World) (b : Below w.heap.size w W) => (b.cell (p := ⟨d, 0, none⟩) lt).trans C0)
  clear hnn hn hc C0
  unfold IdK.v
  go_enter Try.func77, Try.ntmps77
  obtain ⟨hx, bx, zx⟩ := box_id w k
  have ZX := hidMk zx
  clear zx
  go_upto_region 1 with fail
  generalize w.alloc (.cells k.c.toArray 37) = W at *
  have HX := hidMk (fun (V : World) (b : Below W.heap.size W V) => load_id hk ((b.block _ (by have := ZX.out; omega)).trans hx))
  go_wp2
  go_loopw [5] (fun v5 wr => ∃ i : Nat, v5 = .int .i64 (i : Int) ∧ i ≤ n ∧ (∀ j, j < i → ∀ p, NL[j]? = some p → p.1 ≠ k) ∧ Below W.heap.size W wr) (fun v5 wr => n - (match v5 with | .int _ i => i.toNat | _ => 0))
  case atStart => exact ⟨0, rfl, Nat.zero_le _, fun j hj => (by omega), Below.refl _ _⟩
  case round =>
    obtain ⟨i, rfl, hin, hbf, belW⟩ := hrel
    have bel : Below w.heap.size w wr := bx.trans (belW.mono bx.size)
    have hLn := HNn.out
    have hbig := HLn.out
    have c0 := HC.out wr bel
    by_cases hi : i < n
    · have hxi : NL[i]? = some NL[i] := List.getElem?_eq_getElem (by omega)
      generalize NL[i] = p at hxi
      have hpo := h.ok p (List.mem_of_getElem? hxi)
      obtain ⟨b, o, rfl, lb, hr⟩ : ∃ b o, a = some ⟨b, o, none⟩ ∧ b < w.heap.size ∧ w.rangeAt b (o + i * 68) (rnC p) := by
        rcases hrow with e | ⟨b, o, e, h1, h2⟩
        · rw [e] at hxi; simp at hxi
        · exact ⟨b, o, e, h1, h2 i p hxi⟩
      have HXI := hidMk hxi
      have HB := hidMk hbf
      clear hxi hbf
      go_upto_region 4 with fail
      clear c0
      have beldW : Below W.heap.size W wr.drew := belW.drew
      have bw : ∀ V, Below W.heap.size W V → Below w.heap.size w V := fun V b => bx.trans (b.mono bx.size)
      refine find4 d w.heap.size b o n c i p.1.v k.v (decide (p.1 = k)) (fun V => Below W.heap.size W V) _ wr _ rfl rfl rfl rfl beldW ?_ ?_ ?_ ?_ ?_ ?_ ?_
      · exact fun V hV => load_ns (HC.out V (bw V hV))
      · exact fun V => ix_rn hi (by omega) V
      · exact fun V hV => rn_id hpo (rangeAt_keep hr ((bw V hV).block _ lb))
      · exact fun V hV => HX.out V hV
      · exact fun V => guard_id _ _ p.1 k V _
      · exact fun V hV => eql_id p.1 k hpo.k hk V
      intro a' w' hw' ha
      subst ha
      simp only [Act.put, List.setIfInBounds_toArray, List.set_cons_zero, List.set_cons_succ]
      by_cases e : p.1 = k
      · rw [decide_eq_true e]
        go_wp2
        go_ret
        refine ⟨?_, bw _ hw'⟩
        have hp : p = (k, p.2) := by rw [← e]
        have hx2 := HXI.out
        rw [hp] at hx2
        have := fnd_first hx2 HB.out
        unfold fPos
        rw [this]
        rfl
      · rw [decide_eq_false e]
        go_wp2
        rw [show ((i : Int) + 1) = ((i + 1 : Nat) : Int) by omega]
        refine ⟨⟨i + 1, rfl, hi, fun j hj q hq => ?_, hw'⟩, ?_⟩
        · by_cases ej : j = i
          · subst ej
            rw [HXI.out] at hq
            cases hq
            exact e
          · exact HB.out j (by omega) q hq
        · show n - ((i + 1 : Nat) : Int).toNat < n - (i : Int).toNat
          omega
    · obtain rfl : i = n := by omega
      have hno : M.fnd NL k 0 = none := fnd_no (fun p hp => by
        obtain ⟨j, hj⟩ := List.getElem?_of_mem hp
        exact hbf j (by have := (List.getElem?_eq_some_iff.1 hj).1; omega) p hj)
      have HNO := hidMk hno
      clear hno hbf hLn hin hi
      go_wp2
      go_ret
      exact ⟨by unfold fPos; rw [HNO.out]; rfl, bel⟩
end Go.Proofs.Ytoofljkgdjjllaa

namespace Go.Proofs.Ytoofljkgdjjllaa
open Go.RowKit
set_option linter.unusedVariables false
set_option linter.unusedSimpArgs false

theorem fPos_none {NL : List (IdK × NodeV)} {k : IdK} (h : lookN NL k = none) : fPos NL k = -1 := by
  unfold fPos
  cases hf : M.fnd NL k 0 with
  | none => rfl
  | some q => unfold lookN M.look at h; rw [hf] at h; cases h
theorem fPos_some {NL : List (IdK × NodeV)} {k : IdK} {n : NodeV} (h : lookN NL k = some n) : ∃ j : Nat, fPos NL k = (j : Int) ∧ NL[j]? = some (k, n) ∧ j < NL.length := by
  unfold fPos
  unfold lookN M.look at h
  cases hf : M.fnd NL k 0 with
  | none => rw [hf] at h; cases h
  | some q =>
    obtain ⟨j, m⟩ := q
    rw [hf] at h
    cases h
    have := M.fnd_some hf
    exact ⟨j, rfl, this.1, this.2⟩
section
variable (d : Nat) (NL : List (IdK × NodeV)) (pv : Value)
set_option maxRecDepth 100000 in
set_option maxHeartbeats 2000000 in
theorem rlen_any (w : World) (h : RefAt w d NL pv) : Calls Try.prog 34 #[.pointer (some ⟨d, 0, none⟩)] w fun e w' => e = .returned (.int .i64 (NL.length : Int)) ∧ Below w.heap.size w w' := by
  obtain ⟨a, c, hc, _⟩ := h.cell
  have C0 : w.cell? ⟨d, 0, none⟩ = some (.slice a NL.length c) := by rw [cell_of_row _ _ 0 _ _ _ hc]; rfl
  clear hc
  generalize NL.length = n at *
  go_enter Try.func34, Try.ntmps34
  go_wp2
  go_ret
  exact ⟨rfl, Below.refl _ _⟩
set_option maxRecDepth 100000 in
set_option maxHeartbeats 2000000 in
theorem rhas_any (k : IdK) (w : World) (h : RefAt w d NL pv) (hk : k.ok) (hn : NL.length ≤ 1300000000000) :
    Calls Try.prog 74 #[.pointer (some ⟨d, 0, none⟩), k.v] w fun e w' => e = .returned (.bool (lookN NL k).isSome) ∧ Below w.heap.size w w' := by
  have HF := hidMk (fun (W : World) (b : Below w.heap.size w W) => find_any d NL pv k W (h.below b) hk hn)
  have hq : (0 ≤ fPos NL k) ↔ (lookN NL k).isSome = true := by
    cases hl : lookN NL k with
    | none => rw [fPos_none hl]; simp
    | some n => obtain ⟨j, e, _⟩ := fPos_some hl; rw [e]; simp
  generalize fPos NL k = z at *
  have hz : decide (0 ≤ z) = (lookN NL k).isSome := by rw [Bool.eq_iff_iff, decide_eq_true_eq]; exact hq
  generalize (lookN NL k).isSome = r at *
  clear hq
  unfold IdK.v
  go_enter Try.func74, Try.ntmps74
  obtain ⟨hx, bx, zx⟩ := box_id w k
  have ZX := hidMk zx
  have HZ := hidMk hz
  clear zx hz
  go_upto_region 1 with fail
  generalize w.alloc (.cells k.c.toArray 37) = W at *
  have HL := hidMk (load_id hk hx)
  go_wp2_with (first
    | (refine wpList_val rfl (exec_load (t := 37) (u := .pointer (some ⟨w.heap.size, 0, none⟩)) rfl rfl HL.out) ?_)
    | (go_at_call 77; refine (HF.out _ bx).mono ?_; rintro e w1 ⟨rfl, b1⟩)
    | fail)
  go_ret
  refine ⟨?_, bx.trans (b1.mono bx.size)⟩
  rw [← HZ.out]
  simp
set_option maxRecDepth 100000 in
set_option maxHeartbeats 2000000 in
theorem runder_in (k : IdK) (nd0 : NodeV) (w : World) (h : RefAt w d NL pv) (hk : k.ok) (hn : NL.length ≤ 1300000000000) (hl : lookN NL k = some nd0) (hp : nd0.pr = false) :
    Calls Try.prog 38 #[.pointer (some ⟨d, 0, none⟩), k.v] w fun e w' => e = .returned (.tuple #[nd0.u.v, .string nd0.key, .bool true]) ∧ Below w.heap.size w w' := by
  have lt := h.lt
  obtain ⟨j, hj, hji, hjl⟩ := fPos_some hl
  have hpo := h.ok _ (List.mem_of_getElem? hji)
  obtain ⟨a, c, hc, hrow⟩ := h.cell
  obtain ⟨b, o, rfl, lb, hr⟩ : ∃ b o, a = some ⟨b, o, none⟩ ∧ b < w.heap.size ∧ w.rangeAt b (o + j * 68) (rnC (k, nd0)) := by
    rcases hrow with e | ⟨b, o, e, h1, h2⟩
    · rw [e] at hji; simp at hji
    · exact ⟨b, o, e, h1, h2 j _ hji⟩
  obtain ⟨n, hnn⟩ : ∃ n, NL.length = n := ⟨_, rfl⟩
  have HF : Hid (∀ (W : World) (b : Below w.heap.size w W), Calls Try.prog 77 #[.pointer (some ⟨d, 0, none⟩), k.v] W fun e w' => e = .returned (.int .i64 (j : Int)) ∧ Below W.heap.size W w') := fun W b => by rw [← hj]; exact find_any d NL pv k W (h.below b) hk hn
  rw [hnn] at hc hjl
  have C0 : w.cell? ⟨d, 0, none⟩ = some (.slice (some ⟨b, o, none⟩) n c) := by rw [cell_of_row _ _ 0 _ _ _ hc]; rfl
  have HC := hidMk (fun (W : World) (b : Below w.heap.size w W) => (b.cell (p := ⟨d, 0, none⟩) lt).trans C0)
  have HR := hidMk (fun (W : World) (bb : Below w.heap.size w W) => rangeAt_keep hr (bb.block _ lb))
  have HP := hidMk hp
  have hbig : n ≤ 1300000000000 := by omega
  clear hc hnn hn hj hji hrow C0 hr hl hp
  unfold IdK.v
  go_enter Try.func38, Try.ntmps38
  obtain ⟨hx, hrb, bx, zx⟩ := two_boxes w k zId
  have ZX := hidMk zx
  clear zx
  go_upto_region 1 with (first
    | (refine wpList_run rfl (exec_alloc (t := 37) rfl (id_zero _)) ?_)
    | fail)
  generalize (w.alloc (.cells k.c.toArray 37)).alloc (.cells zId.c.toArray 37) = W at *
  have HLD := hidMk (load_id hk hx)
  go_upto_region 2 with (first
    | (refine wpList_val rfl (exec_load (t := 37) (u := .pointer (some ⟨w.heap.size, 0, none⟩)) rfl rfl HLD.out) ?_)
    | (go_at_call 77; refine (HF.out _ bx).mono ?_; rintro e w1 ⟨rfl, b1⟩)
    | fail)
  have hz := ZX.out
  have bel1 : Below w.heap.size w w1 := bx.trans (b1.mono bx.size)
  have hr1 : IdAt w1 (w.heap.size + 1) zId := (b1.block _ (by omega)).trans hrb
  have c0 := HC.out w1 bel1
  have hcp : w1.cell? ⟨b, o + j * 68 + 67, none⟩ = some (.bool false) := by
    have l1 : k.c.length = 33 := IdK.len hpo.k
    have l2 : nd0.u.c.length = 33 := IdK.len hpo.u
    have := HR.out w1 bel1 67 (.bool nd0.pr) (by
      rw [rnC, List.getElem?_append_right (by simp only; omega), l1, List.getElem?_append_right (by simp only; omega), l2]
      rfl)
    rwa [HP.out] at this
  have s1 : W.heap.size ≤ w1.heap.size := b1.size
  clear HLD HF hx hrb b1 bx
  go_upto_region 4 with fail
  clear c0 hcp
  have hr2 : IdAt w1.drew (w.heap.size + 1) zId := hr1
  have bel2 : Below w.heap.size w w1.drew := bel1.drew
  have hno : nd0.u.ok := hpo.u
  have bel3 : Below w.heap.size w (w1.drew.setRow (w.heap.size + 1) nd0.u.c.toArray) := bel2.trans ((setRow_tch w1.drew (w.heap.size + 1) nd0.u.c.toArray).below bel2.size (fun j e => by simp at e; omega))
  refine runder4 d (w.heap.size + 1) b o n c j nd0.u.v nd0.key (w1.drew.setRow (w.heap.size + 1) nd0.u.c.toArray) (fun V => Below w.heap.size w V) _ w1 _ rfl rfl rfl rfl bel2 bel3 (store_id zId_ok hno hr2) ?_ ?_ ?_ ?_ ?_
  · exact fun V hV => load_ns (HC.out V hV)
  · exact fun V => ix_rn hjl (by omega) V
  · exact fun V hV => rn_under hpo (HR.out V hV)
  · exact fun V hV => rn_key hpo (HR.out V hV)
  intro a' w' hw' ha
  subst hw' ha
  simp only [Act.put, List.setIfInBounds_toArray, List.set_cons_zero, List.set_cons_succ]
  have hr4 := hr2.set nd0.u
  generalize w1.drew.setRow (w.heap.size + 1) nd0.u.c.toArray = y3 at *
  go_wp2
  refine bodyPost_ret (results_c3 rfl rfl (loadVar_id hno hr4)) rfl ?_
  exact ⟨rfl, bel3⟩
set_option maxRecDepth 100000 in
set_option maxHeartbeats 2000000 in
theorem runder_out (k : IdK) (w : World) (h : RefAt w d NL pv) (hk : k.ok) (hn : NL.length ≤ 1300000000000) (hl : lookN NL k = none ∨ ∃ m, lookN NL k = some m ∧ m.pr = true) :
    Calls Try.prog 38 #[.pointer (some ⟨d, 0, none⟩), k.v] w fun e w' => e = .returned (.tuple #[zId.v, .string ⟨#[]⟩, .bool false]) ∧ Below w.heap.size w w' := by
  have lt := h.lt
  have HF := hidMk (fun (W : World) (b : Below w.heap.size w W) => find_any d NL pv k W (h.below b) hk hn)
  obtain ⟨z, hz⟩ : ∃ z, fPos NL k = z := ⟨_, rfl⟩
  rw [hz] at HF
  have main : ∀ (z : Int) (Pr : World → Prop), (∀ W, Below w.heap.size w W → Pr W) → ((z = -1 ∧ True) ∨ ∃ (j n c b o : Nat), z = (j : Int) ∧ j < n ∧ n ≤ 1300000000000 ∧ ∀ W, Pr W → W.cell? ⟨d, 0, none⟩ = some (.slice (some ⟨b, o, none⟩) n c) ∧ W.cell? ⟨b, o + j * 68 + 67, none⟩ = some (.bool true)) →
      Hid (∀ (W : World) (b : Below w.heap.size w W), Calls Try.prog 77 #[.pointer (some ⟨d, 0, none⟩), k.v] W fun e w' => e = .returned (.int .i64 z) ∧ Below W.heap.size W w') →
      Calls Try.prog 38 #[.pointer (some ⟨d, 0, none⟩), k.v] w fun e w' => e = .returned (.tuple #[zId.v, .string ⟨#[]⟩, .bool false]) ∧ Below w.heap.size w w' := by
    clear hz HF z hl hn h
    intro z Pr HPr hcase HF
    unfold IdK.v
    go_enter Try.func38, Try.ntmps38
    obtain ⟨hx, hrb, bx, zx⟩ := two_boxes w k zId
    have ZX := hidMk zx
    clear zx
    go_upto_region 1 with (first
      | (refine wpList_run rfl (exec_alloc (t := 37) rfl (id_zero _)) ?_)
      | fail)
    generalize (w.alloc (.cells k.c.toArray 37)).alloc (.cells zId.c.toArray 37) = W at *
    have HLD := hidMk (load_id hk hx)
    go_upto_region 2 with (first
      | (refine wpList_val rfl (exec_load (t := 37) (u := .pointer (some ⟨w.heap.size, 0, none⟩)) rfl rfl HLD.out) ?_)
      | (go_at_call 77; refine (HF.out _ bx).mono ?_; rintro e w1 ⟨rfl, b1⟩)
      | fail)
    have hz := ZX.out
    have bel1 : Below w.heap.size w w1 := bx.trans (b1.mono bx.size)
    have hr1 : IdAt w1 (w.heap.size + 1) zId := (b1.block _ (by omega)).trans hrb
    have st1 := hidMk (store_id zId_ok zId_ok hr1)
    have hr2 := hr1.set zId
    have bel2 : Below w.heap.size w (w1.setRow (w.heap.size + 1) zId.c.toArray) := bel1.trans ((setRow_tch w1 (w.heap.size + 1) zId.c.toArray).below bel1.size (fun j e => by simp at e; omega))
    have HP1 := HPr w1 bel1
    clear HLD HF hx hrb b1 bx hz
    rcases hcase with ⟨rfl, _⟩ | ⟨j, n, c, b, o, rfl, hjl, hbig, hcs⟩
    · clear HP1
      go_wp2_with (first
        | (refine wpList_val rfl (exec_build0 rfl (build_id _)) ?_)
        | (refine wpList_skip rfl rfl (exec_store (t := 37) (xv := .pointer (some ⟨w.heap.size + 1, 0, none⟩)) (yv := zId.v) rfl rfl rfl st1.out) ?_)
        | fail)
      refine bodyPost_ret (results_c3 rfl rfl (loadVar_id zId_ok hr2)) rfl ?_
      exact ⟨rfl, bel2⟩
    · obtain ⟨c0, c1⟩ := hcs w1 HP1
      go_wp2_with (first
        | (refine wpList_val rfl (exec_build0 rfl (build_id _)) ?_)
        | (refine wpList_skip rfl rfl (exec_store (t := 37) (xv := .pointer (some ⟨w.heap.size + 1, 0, none⟩)) (yv := zId.v) rfl rfl rfl st1.out) ?_)
        | fail)
      refine bodyPost_ret (results_c3 rfl rfl (loadVar_id zId_ok hr2)) rfl ?_
      exact ⟨rfl, bel2⟩
  refine main z (fun W => Below w.heap.size w W) (fun W b => b) ?_ HF
  rcases hl with hl | ⟨m, hl, hp⟩
  · exact Or.inl ⟨by rw [← hz, fPos_none hl], trivial⟩
  · obtain ⟨j, hj, hji, hjl⟩ := fPos_some hl
    have hpo := h.ok _ (List.mem_of_getElem? hji)
    obtain ⟨a, c, hc, hrow⟩ := h.cell
    obtain ⟨b, o, rfl, lb, hr⟩ : ∃ b o, a = some ⟨b, o, none⟩ ∧ b < w.heap.size ∧ w.rangeAt b (o + j * 68) (rnC (k, m)) := by
      rcases hrow with e | ⟨b, o, e, h1, h2⟩
      · rw [e] at hji; simp at hji
      · exact ⟨b, o, e, h1, h2 j _ hji⟩
    refine Or.inr ⟨j, NL.length, c, b, o, by rw [← hz, hj], hjl, hn, fun W bb => ⟨(bb.cell (p := ⟨d, 0, none⟩) lt).trans (by rw [cell_of_row _ _ 0 _ _ _ hc]; rfl), ?_⟩⟩
    have l1 : k.c.length = 33 := IdK.len hpo.k
    have l2 : m.u.c.length = 33 := IdK.len hpo.u
    have := rangeAt_keep hr (bb.block _ lb) 67 (.bool m.pr) (by
      rw [rnC, List.getElem?_append_right (by simp only; omega), l1, List.getElem?_append_right (by simp only; omega), l2]
      rfl)
    rwa [hp] at this
theorem runder_any (k : IdK) (w : World) (h : RefAt w d NL pv) (hk : k.ok) (hn : NL.length ≤ 1300000000000) (hf : Forest (lookN NL)) :
    Calls Try.prog 38 #[.pointer (some ⟨d, 0, none⟩), k.v] w fun e w' => e = .returned (.tuple #[(nd (lookN NL) k).u.v, .string (nd (lookN NL) k).key, .bool ((lookN NL k).isSome && !(nd (lookN NL) k).pr)]) ∧ Below w.heap.size w w' := by
  unfold nd
  cases hl : lookN NL k with
  | none => exact runder_out d NL pv k w h hk hn (Or.inl hl)
  | some m =>
    cases hp : m.pr with
    | false =>
      have := runder_in d NL pv k m w h hk hn hl hp
      simpa [hp] using this
    | true =>
      have := runder_out d NL pv k w h hk hn (Or.inr ⟨m, hl, hp⟩)
      obtain ⟨h1, h2⟩ := hf.bare k m hl hp
      simpa [hp, h1, h2] using this
end
end Go.Proofs.Ytoofljkgdjjllaa

namespace Go.Proofs.Ytoofljkgdjjllaa
open Go.RowKit
set_option linter.unusedVariables false
set_option linter.unusedSimpArgs false

def UpIs (f : Fn) (k : IdK) (l : List IdK) (b : Bool) : Prop := (f k = none ∧ l = [] ∧ b = false) ∨ ((f k).isSome = true ∧ ∃ p, Climb f k l p ∧ b = !p)
theorem climb_cons {f : Fn} {k : IdK} {l : List IdK} {p : Bool} (h : Climb f k l p) (hp : (nd f k).pr = false) (hz : (nd f k).u ≠ zId) : ∃ l2, l = (nd f k).u :: l2 ∧ Climb f (nd f k).u l2 p := by
  cases h with
  | top q => rcases q with q | q
             · rw [hp] at q; cases q
             · exact absurd q hz
  | up _ _ h3 => exact ⟨_, rfl, h3⟩
theorem climb_top {f : Fn} {k : IdK} {l : List IdK} {p : Bool} (h : Climb f k l p) (hq : (nd f k).pr = true ∨ (nd f k).u = zId) : l = [] ∧ p = (nd f k).pr := by
  obtain ⟨h1, h2⟩ := h.same (Climb.top hq)
  exact ⟨h1, h2⟩
section
variable (d : Nat) (NL : List (IdK × NodeV)) (pv : Value)
set_option maxRecDepth 100000 in
set_option maxHeartbeats 4000000 in
theorem rup_any (k : IdK) (w : World) (h : RefAt w d NL pv) (hk : k.ok) (hn : NL.length ≤ 1300000000000) (hf : Forest (lookN NL)) :
    Calls Try.prog 79 #[.pointer (some ⟨d, 0, none⟩), k.v] w fun e w' => ∃ v l b, e = .returned (.tuple #[v, .bool b]) ∧ OwnI w' w.heap.size v l ∧ UpIs (lookN NL) k l b ∧ (∀ x ∈ l, x.ok) ∧ Below w.heap.size w w' := by
  have lt := h.lt
  have hD : ∀ x, (lookN NL x).isSome = true → x ∈ NL.map (·.1) := fun x hx => by
    obtain ⟨v, hv⟩ := Option.isSome_iff_exists.1 hx
    exact List.mem_map.2 ⟨_, M.look_mem hv, rfl⟩
  have hOK : ∀ x, (lookN NL x).isSome = true → x.ok := fun x hx => by
    obtain ⟨p, hp, rfl⟩ := List.mem_map.1 (hD x hx)
    exact (h.ok p hp).k
  obtain ⟨l0, p0, hc0⟩ := hf.ends k
  have hl0 : l0.length ≤ NL.length := by
    have := nodup_le (b := NL.map (·.1)) hc0.nodup (fun x hx => hD x (hc0.there hf x hx))
    simpa using this
  have HF := hidMk (fun (x : IdK) (hx : x.ok) (W : World) (b : RefAt W d NL pv) => find_any d NL pv x W b hx hn)
  obtain ⟨a, c, hc, hrow⟩ := h.cell
  obtain ⟨n, hnn⟩ : ∃ n, NL.length = n := ⟨_, rfl⟩
  have C0 : w.cell? ⟨d, 0, none⟩ = some (.slice a n c) := by rw [← hnn, cell_of_row _ _ 0 _ _ _ hc]; rfl
  have HC := hidMk (fun (W : World) (b : Below w.heap.size w W) => (b.cell (p := ⟨d, 0, none⟩) lt).trans C0)
  have HH := hidMk (fun (W : World) (b : Below w.heap.size w W) => h.below b)
  have HROW := hidMk hrow
  have HNn := hidMk hnn
  have hbig : n ≤ 1300000000000 := by omega
  have HL0 := hidMk hl0
  clear hc C0 hn hnn hl0 hrow
  unfold IdK.v
  go_enter Try.func79, Try.ntmps79
  obtain ⟨hx, bx, zx⟩ := box_id w k
  have ZX := hidMk zx
  clear zx
  go_upto_region 1 with fail
  generalize w.alloc (.cells k.c.toArray 37) = W at *
  have own0 : OwnI W w.heap.size (.slice none 0 0) [] := ⟨rfl, Or.inl ⟨rfl, rfl⟩⟩
  go_wp2
  go_loopw [6, 7] (fun v6 v7 wr => ∃ (y : IdK) (Lo l2 : List IdK), v7 = .int .i64 (Lo.length : Int) ∧ OwnI wr w.heap.size v6 Lo ∧ IdAt wr w.heap.size y ∧ y.ok ∧ Climb (lookN NL) y l2 p0 ∧ Lo ++ l2 = l0 ∧ (Lo = [] ∧ y = k ∨ (lookN NL y).isSome = true ∧ (lookN NL k).isSome = true) ∧ (∀ x ∈ Lo, x.ok) ∧ v6.ownBlock ≠ some w.heap.size ∧ Below w.heap.size w wr) (fun v6 v7 wr => n + 1 - (match v7 with | .int _ i => i.toNat | _ => 0))
  case atStart => exact ⟨k, [], l0, rfl, own0, hx, hk, hc0, rfl, Or.inl ⟨rfl, rfl⟩, fun x hx => (by cases hx), by simp [Value.ownBlock], bx⟩
  case round =>
    clear own0 hx
    obtain ⟨y, Lo, l2, rfl, own, hy, hyo, hcl, hsum, hst, hokL, hap, bel⟩ := hrel
    have hlen := congrArg List.length hsum
    rw [List.length_append] at hlen
    have hl0 := HL0.out
    have hN := HNn.out
    obtain ⟨m, hm⟩ : ∃ m, Lo.length = m := ⟨_, rfl⟩
    have hmn : m ≤ n := by omega
    rw [hm]
    have HMm := hidMk hm
    have HS := hidMk hsum
    have HCL := hidMk hcl
    have HST := hidMk hst
    have HOL := hidMk hokL
    have c0 := HC.out wr bel
    have LY := hidMk (load_id hyo hy)
    have FY := hidMk (HF.out y hyo wr (HH.out wr bel))
    have HOW := hidMk own
    clear hlen hl0 hN hm hsum hcl hst hokL own
    cases hl : lookN NL y with
    | none =>
      rw [fPos_none hl] at FY
      go_wp2_with (first
        | (refine wpList_val rfl (exec_load (t := 37) (u := .pointer (some ⟨w.heap.size, 0, none⟩)) rfl rfl LY.out) ?_)
        | (go_at_call 77; refine FY.out.mono ?_; rintro e w1 ⟨rfl, b1⟩)
        | fail)
      go_ret2
      refine ⟨_, _, _, rfl, HOW.out.below b1, ?_, HOL.out, bel.trans (b1.mono bel.size)⟩
      rcases HST.out with ⟨e1, e2⟩ | ⟨e1, e2⟩
      · subst e1 e2; exact Or.inl ⟨hl, rfl, rfl⟩
      · rw [hl] at e1; cases e1
    | some nd0 =>
      obtain ⟨j, hj, hji, hjl⟩ := fPos_some hl
      rw [hj] at FY
      have hpo := h.ok _ (List.mem_of_getElem? hji)
      have hkS : (lookN NL k).isSome = true := by
        rcases HST.out with ⟨_, e2⟩ | ⟨_, e2⟩
        · subst e2; rw [hl]; rfl
        · exact e2
      have hndy : nd (lookN NL) y = nd0 := by unfold nd; rw [hl]; rfl
      obtain ⟨b, o, rfl, lb, hr⟩ : ∃ b o, a = some ⟨b, o, none⟩ ∧ b < w.heap.size ∧ w.rangeAt b (o + j * 68) (rnC (y, nd0)) := by
        rcases HROW.out with e | ⟨b, o, e, h1, h2⟩
        · rw [e] at hji; simp at hji
        · exact ⟨b, o, e, h1, h2 j _ hji⟩
      rw [HNn.out] at hjl
      have HR := hidMk (fun (V : World) (bb : Below w.heap.size w V) => rangeAt_keep hr (bb.block _ lb))
      have hcp : ∀ V, Below w.heap.size w V → V.cell? ⟨b, o + j * 68 + 67, none⟩ = some (.bool nd0.pr) := fun V bb => by
        have l1 : y.c.length = 33 := IdK.len hpo.k
        have l2 : nd0.u.c.length = 33 := IdK.len hpo.u
        exact HR.out V bb 67 (.bool nd0.pr) (by
          rw [rnC, List.getElem?_append_right (by simp only; omega), l1, List.getElem?_append_right (by simp only; omega), l2]
          rfl)
      have hj0 : decide ((j : Int) < 0) = false := decide_eq_false (by omega)
      have HNDY := hidMk hndy
      have HHL := hidMk hl
      clear hji hj hr hndy hl
      cases hp : nd0.pr with
      | true =>
        rw [hp] at hcp
        have HCP := hidMk hcp
        clear hcp
        go_wp2_with (first
          | (refine wpList_val rfl (exec_load (t := 37) (u := .pointer (some ⟨w.heap.size, 0, none⟩)) rfl rfl LY.out) ?_)
          | (go_at_call 77; refine FY.out.mono ?_; rintro e w1 ⟨rfl, b1⟩; have bel1 : Below w.heap.size w w1 := bel.trans (b1.mono bel.size); have c01 := HC.out w1 bel1; have c02 := HCP.out w1 bel1; clear c0)
          | fail)
        go_ret2
        refine ⟨_, _, _, rfl, HOW.out.below b1, ?_, HOL.out, bel1⟩
        obtain ⟨e1, e2⟩ := climb_top HCL.out (Or.inl (by rw [HNDY.out]; exact hp))
        have hs := HS.out
        rw [e1, List.append_nil] at hs
        rw [HNDY.out, hp] at e2
        exact Or.inr ⟨hkS, true, by rw [hs, ← e2]; exact hc0, rfl⟩
      | false =>
        rw [hp] at hcp
        have HCP := hidMk hcp
        clear hcp
        have huo : nd0.u.ok := hpo.u
        go_upto_region 9 with (first
          | (refine wpList_val rfl (exec_load (t := 37) (u := .pointer (some ⟨w.heap.size, 0, none⟩)) rfl rfl LY.out) ?_)
          | (go_at_call 77; refine FY.out.mono ?_; rintro e w1 ⟨rfl, b1⟩; have bel1 : Below w.heap.size w w1 := bel.trans (b1.mono bel.size); have c01 := HC.out w1 bel1; have c02 := HCP.out w1 bel1; have LU := hidMk (rn_under hpo (HR.out w1 bel1)); have hy1 : IdAt w1 w.heap.size y := (b1.block _ (Array.getElem?_eq_some_iff.1 hy).1).trans hy; have ST := hidMk (store_id hyo huo hy1); clear c0)
          | (refine wpList_val rfl (exec_load (t := 37) (u := .pointer (some ⟨b, o + j * 68 + 33, none⟩)) rfl rfl LU.out) ?_)
          | (refine wpList_skip rfl rfl (exec_store (t := 37) (xv := .pointer (some ⟨w.heap.size, 0, none⟩)) (yv := nd0.u.v) rfl rfl rfl ST.out) ?_)
          | fail)
        clear c01 c02
        have hy2 := hy1.set nd0.u
        have t2 := setRow_tch w1 w.heap.size nd0.u.c.toArray
        have bel2 : Below w.heap.size w (w1.setRow w.heap.size nd0.u.c.toArray) := bel1.trans (t2.below bel1.size (fun j e => by simp at e; omega))
        have own2 : OwnI (w1.setRow w.heap.size nd0.u.c.toArray) w.heap.size u6 Lo := (HOW.out.below b1).keep (fun j hj => t2.block j (by obtain ⟨_, q, hq⟩ := (HOW.out.below b1).ge j hj; exact (Array.getElem?_eq_some_iff.1 hq).1) (fun e => by simp at e; subst e; exact hap hj))
        generalize w1.setRow w.heap.size nd0.u.c.toArray = w2 at *
        have LY2 := hidMk (load_id huo hy2)
        have HOW2 := hidMk own2
        clear LU ST LY FY HOW own2 hy1 t2 HCP
        by_cases hz : nd0.u = zId
        · have hq : ∀ V : World, (binOp .eql 37 nd0.u.v zId.v).run Try.prog V = .ok (.bool true) V := fun V => by rw [eql_id nd0.u zId huo zId_ok, decide_eq_true hz]
          go_wp2_with (first
            | (refine wpList_val rfl (exec_load (t := 37) (u := .pointer (some ⟨w.heap.size, 0, none⟩)) rfl rfl LY2.out) ?_)
            | (refine wpList_val rfl (exec_build0 rfl (build_id _)) ?_)
            | (refine wpList_val rfl (exec_binOp (xv := nd0.u.v) (yv := zId.v) rfl rfl rfl (guard_id _ _ nd0.u zId _ _) (hq _)) ?_)
            | fail)
          go_ret2
          refine ⟨_, _, _, rfl, HOW2.out, ?_, HOL.out, bel2⟩
          obtain ⟨e1, e2⟩ := climb_top HCL.out (Or.inr (by rw [HNDY.out]; exact hz))
          have hs := HS.out
          rw [e1, List.append_nil] at hs
          rw [HNDY.out, hp] at e2
          exact Or.inr ⟨hkS, false, by rw [hs, ← e2]; exact hc0, rfl⟩
        · have hq : ∀ V : World, (binOp .eql 37 nd0.u.v zId.v).run Try.prog V = .ok (.bool false) V := fun V => by rw [eql_id nd0.u zId huo zId_ok, decide_eq_false hz]
          obtain ⟨l3, hl3, hcl3⟩ := climb_cons HCL.out (by rw [HNDY.out]; exact hp) (by rw [HNDY.out]; exact hz)
          rw [HNDY.out] at hl3 hcl3
          have hsum2 : (Lo ++ [nd0.u]) ++ l3 = l0 := by rw [List.append_assoc, List.singleton_append, ← hl3]; exact HS.out
          have hlen2 := congrArg List.length hsum2
          simp only [List.length_append, List.length_cons, List.length_nil] at hlen2
          have hl0' := HL0.out
          have hNn' := HNn.out
          have hMm' := HMm.out
          have ebs : Hid ((Instr.buildSlice 41 1 #[(0, nd0.u.v)]).run Try.prog w2 = .ok (.slice (some ⟨w2.heap.size, 0, none⟩) 1 1) (w2.alloc (.cells nd0.u.c.toArray 37))) := run_bsI nd0.u huo w2
          have hlit := ids_lit w2 nd0.u 37
          have bb : Below w2.heap.size w2 (w2.alloc (.cells nd0.u.c.toArray 37)) := (Below.refl _ _).alloc (Nat.le_refl _) _
          generalize w2.alloc (.cells nd0.u.c.toArray 37) = w3 at *
          have own3 := HOW2.out.below bb
          have bel3 : Below w.heap.size w w3 := bel2.trans (bb.mono bel2.size)
          obtain ⟨v6', w4, eap, own4, g4, ob4⟩ := run_appI w3 w.heap.size u6 Lo (some ⟨w2.heap.size, 0, none⟩) [nd0.u] 1 own3 hlit (by simpa using huo) (by simp only [List.length_cons, List.length_nil]; omega) bel3.size
          have EAP : Hid ((Builtin.append_ #[41, 41] 41 #[u6, .slice (some ⟨w2.heap.size, 0, none⟩) 1 1]).run Try.prog w3 = .ok v6' w4) := eap
          have bel4 : Below w.heap.size w w4 := bel3.trans (below_grown own3 bel3.size g4)
          have lw : w.heap.size < w2.heap.size := (Array.getElem?_eq_some_iff.1 hy2).1
          have hy4 : IdAt w4 w.heap.size nd0.u := (g4.block _ (by have := bb.size; omega) (fun e => hap e.symm)).trans ((bb.block _ lw).trans hy2)
          have hap4 : v6'.ownBlock ≠ some w.heap.size := fun e => by
            rcases ob4 with q | q
            · rw [q] at e; exact hap e
            · rw [q] at e
              have h1 : w3.heap.size = w.heap.size := by simpa using e
              have := bb.size
              omega
          have hS2 : (lookN NL nd0.u).isSome = true := hf.under y nd0 HHL.out hp hz
          have HO4 := hidMk own4
          have HS2 := hidMk hsum2
          have HC3 := hidMk hcl3
          have hm1 : m + 1 ≤ n := by omega
          clear eap hlit own3 own4 hsum2 hlen2 hl3 hcl3 g4 ob4 hl0' hNn' hMm'
          go_wp2_with (first
            | (refine wpList_val rfl (exec_load (t := 37) (u := .pointer (some ⟨w.heap.size, 0, none⟩)) rfl rfl LY2.out) ?_)
            | (refine wpList_val rfl (exec_build0 rfl (build_id _)) ?_)
            | (refine wpList_val rfl (exec_binOp (xv := nd0.u.v) (yv := zId.v) rfl rfl rfl (guard_id _ _ nd0.u zId _ _) (hq _)) ?_)
            | (refine wpList_run rfl (exec_buildSlice (t := 41) (n := 1) (xv := nd0.u.v) (v := .slice (some ⟨w2.heap.size, 0, none⟩) 1 1) rfl rfl ebs.out) ?_)
            | (refine wpList_run rfl (exec_append (xv := u6) (yv := .slice (some ⟨w2.heap.size, 0, none⟩) 1 1) (v := v6') rfl rfl rfl EAP.out) ?_)
            | fail)
          rw [show ((m : Int) + 1) = ((m + 1 : Nat) : Int) by omega]
          refine ⟨⟨nd0.u, Lo ++ [nd0.u], l3, by rw [List.length_append, HMm.out]; rfl, HO4.out, hy4, huo, HC3.out, HS2.out, Or.inr ⟨hS2, hkS⟩, fun x hx => ?_, hap4, bel4⟩, ?_⟩
          · rcases List.mem_append.1 hx with hx | hx
            · exact HOL.out x hx
            · simp at hx; subst hx; exact huo
          · show n + 1 - ((m + 1 : Nat) : Int).toNat < n + 1 - (m : Int).toNat
            omega
end
end Go.Proofs.Ytoofljkgdjjllaa

namespace Go.Proofs.Ytoofljkgdjjllaa
open Go.RowKit
set_option linter.unusedVariables false
set_option linter.unusedSimpArgs false

def rlies5_o0 : Oper := ⟨some 22, .move (.tmp 7), 41, "ref.go:100", #[], none⟩
def rlies5_o1 : Oper := ⟨some 23, .move (.tmp 9), 3, "ref.go:100", #[], none⟩
def rlies5_o2 : Oper := ⟨some 24, .indexAddr 41 (.tmp 22) (.tmp 23), 0, "ref.go:100", #[⟨0, .data⟩, ⟨1, .data⟩], none⟩
def rlies5_o3 : Oper := ⟨some 25, .load 37 (.tmp 24), 37, "ref.go:100", #[⟨2, .data⟩], none⟩
def rlies5_o4 : Oper := ⟨some 26, .load 37 (.tmp 5), 37, "ref.go:100", #[], none⟩
def rlies5_o5 : Oper := ⟨some 27, .binOp BinOp.eql 37 (.tmp 25) (.tmp 26) 37, 4, "ref.go:100", #[⟨3, .data⟩, ⟨4, .data⟩], none⟩
def rlies5_ops : Array Oper := #[rlies5_o0, rlies5_o1, rlies5_o2, rlies5_o3, rlies5_o4, rlies5_o5]
set_option maxRecDepth 100000 in
set_option maxHeartbeats 4000000 in
theorem rlies5 (b p bu : Nat) (lv iv xv uv : Value) (eb : Bool) (a : Act) (w : World) (Q : Exit → Act → World → Prop) (hsz : a.tmps.size = 28)
    (t7 : a.tmps.getD 7 undef = lv)
    (t9 : a.tmps.getD 9 undef = iv)
    (t5 : a.tmps.getD 5 undef = .pointer (some ⟨bu, 0, none⟩))
    (G1 : ∀ W, (Instr.indexAt 41 (lv) (iv)).run Try.prog W = .ok (.pointer (some ⟨b, p, none⟩)) W)
    (G2 : ∀ W, W = w.drew → (Instr.loadAt 37 (.pointer (some ⟨b, p, none⟩))).run Try.prog W = .ok (xv) W)
    (G3 : ∀ W, W = w.drew → (Instr.loadAt 37 (.pointer (some ⟨bu, 0, none⟩))).run Try.prog W = .ok (uv) W)
    (G4 : ∀ W, (eqGuard BinOp.eql 37 (Operand.tmp 25) (Operand.tmp 26) (xv) (uv)).run Try.prog W = .ok () W)
    (G5 : ∀ W, W = w.drew → (binOp BinOp.eql 37 (xv) (uv)).run Try.prog W = .ok (.bool eb) W)
    (h : ∀ (a' : Act) (w' : World), w' = w.drew → a' = ((((((a).put (some 22) (lv)).put (some 23) (iv)).put (some 24) (.pointer (some ⟨b, p, none⟩))).put (some 25) (xv)).put (some 26) (uv)).put (some 27) (.bool eb) → Q .normal a' w') :
    (Code.region 5 rlies5_ops true).wp Try.prog Q a w := by
  refine wp_region_noPanic ?_
  refine wp_region_held_drew (S := fun w' => w' = w.drew) (by kernel_rfl) (rfl) (fun hHeld => ?_)
  refine tk 0 rlies5_o0 (lv) (by rfl) (fun w1 hw => exec_move rfl t7) hHeld (fun a1 e1 => ?_)
  rw [← e1] at h
  have z1 := pz e1 hsz
  clear t7
  replace t9 := pk e1 t9
  replace t5 := pk e1 t5
  have t22 := pq e1 hsz
  clear e1 hsz
  refine tk 1 rlies5_o1 (iv) (by rfl) (fun w1 hw => exec_move rfl t9) hHeld (fun a2 e2 => ?_)
  rw [← e2] at h
  have z2 := pz e2 z1
  clear t9
  replace t5 := pk e2 t5
  replace t22 := pk e2 t22
  have t23 := pq e2 z1
  clear e2 z1
  refine tk 2 rlies5_o2 (.pointer (some ⟨b, p, none⟩)) (by rfl) (fun w1 hw => exec_indexAt rfl t22 t23 (G1 _)) hHeld (fun a3 e3 => ?_)
  rw [← e3] at h
  have z3 := pz e3 z2
  replace t5 := pk e3 t5
  clear t22
  clear t23
  have t24 := pq e3 z2
  clear e3 z2
  refine tk 3 rlies5_o3 (xv) (by rfl) (fun w1 hw => exec_load rfl t24 (G2 _ hw)) hHeld (fun a4 e4 => ?_)
  rw [← e4] at h
  have z4 := pz e4 z3
  replace t5 := pk e4 t5
  clear t24
  have t25 := pq e4 z3
  clear e4 z3
  refine tk 4 rlies5_o4 (uv) (by rfl) (fun w1 hw => exec_load rfl t5 (G3 _ hw)) hHeld (fun a5 e5 => ?_)
  rw [← e5] at h
  have z5 := pz e5 z4
  clear t5
  replace t25 := pk e5 t25
  have t26 := pq e5 z4
  clear e5 z4
  refine tk 5 rlies5_o5 (.bool eb) (by rfl) (fun w1 hw => exec_binOp rfl t25 t26 (G4 _) (G5 _ hw)) hHeld (fun a6 e6 => ?_)
  rw [← e6] at h
  have z6 := pz e6 z5
  clear t25
  clear t26
  clear e6 z5
  exact wpAnyH_done (by kernel_rfl) (NoPanic.normal (h _ _ (hHeld) rfl)) _
end Go.Proofs.Ytoofljkgdjjllaa

namespace Go.Proofs.Ytoofljkgdjjllaa
open Go.RowKit
set_option linter.unusedVariables false
set_option linter.unusedSimpArgs false

section
variable (d : Nat) (NL : List (IdK × NodeV)) (pv : Value)
set_option maxRecDepth 100000 in
set_option maxHeartbeats 2000000 in
theorem rlive_any (k : IdK) (w : World) (h : RefAt w d NL pv) (hk : k.ok) (hn : NL.length ≤ 1300000000000) (hf : Forest (lookN NL)) :
    Calls Try.prog 40 #[.pointer (some ⟨d, 0, none⟩), k.v] w fun e w' => ∃ b, e = .returned (.bool b) ∧ LiveIs (lookN NL) k b ∧ Below w.heap.size w w' := by
  have HH := hidMk (fun (W : World) (b : Below w.heap.size w W) => rhas_any d NL pv k W (h.below b) hk hn)
  have HU := hidMk (fun (W : World) (b : Below w.heap.size w W) => rup_any d NL pv k W (h.below b) hk hn hf)
  cases hs : (lookN NL k).isSome with
  | false =>
    rw [hs] at HH
    unfold IdK.v
    go_enter Try.func40, Try.ntmps40
    obtain ⟨hx, bx, zx⟩ := box_id w k
    have ZX := hidMk zx
    have HSS := hidMk hs
    clear zx hs
    go_upto_region 1 with fail
    generalize w.alloc (.cells k.c.toArray 37) = W at *
    have HL := hidMk (load_id hk hx)
    go_wp2_with (first
      | (refine wpList_val rfl (exec_load (t := 37) (u := .pointer (some ⟨w.heap.size, 0, none⟩)) rfl rfl HL.out) ?_)
      | (go_at_call 74; refine (HH.out _ bx).mono ?_; rintro e w1 ⟨rfl, b1⟩)
      | fail)
    go_ret
    exact ⟨_, rfl, Or.inl ⟨HSS.out, rfl⟩, bx.trans (b1.mono bx.size)⟩
  | true =>
    rw [hs] at HH
    unfold IdK.v
    go_enter Try.func40, Try.ntmps40
    obtain ⟨hx, bx, zx⟩ := box_id w k
    have ZX := hidMk zx
    have HSS := hidMk hs
    clear zx hs
    go_upto_region 1 with fail
    generalize w.alloc (.cells k.c.toArray 37) = W at *
    have HL := hidMk (fun (V : World) (b : Below W.heap.size W V) => load_id hk ((b.block _ (by have := ZX.out; omega)).trans hx))
    go_wp2_with (first
      | (refine wpList_val rfl (exec_load (t := 37) (u := .pointer (some ⟨w.heap.size, 0, none⟩)) rfl rfl (HL.out _ (Below.refl _ _))) ?_)
      | (go_at_call 74; refine (HH.out _ bx).mono ?_; rintro e w1 ⟨rfl, b1⟩; have bel1 : Below w.heap.size w w1 := bx.trans (b1.mono bx.size))
      | (refine wpList_val rfl (exec_load (t := 37) (u := .pointer (some ⟨w.heap.size, 0, none⟩)) rfl rfl (HL.out _ b1)) ?_)
      | (go_at_call 79; refine (HU.out _ bel1).mono ?_; rintro e w2 ⟨v, l, q, rfl, own, hu, hol, b2⟩; have HUp := hidMk hu; clear hu own)
      | fail)
    go_ret
    refine ⟨_, rfl, ?_, bel1.trans (b2.mono bel1.size)⟩
    rcases HUp.out with ⟨e, _⟩ | ⟨e, p, hc, rfl⟩
    · have := HSS.out; rw [e] at this; cases this
    · exact Or.inr ⟨e, l, p, hc, rfl⟩
set_option maxRecDepth 100000 in
set_option maxHeartbeats 2000000 in
theorem rdeep_any (k : IdK) (w : World) (h : RefAt w d NL pv) (hk : k.ok) (hn : NL.length ≤ 1300000000000) (hf : Forest (lookN NL)) :
    Calls Try.prog 41 #[.pointer (some ⟨d, 0, none⟩), k.v] w fun e w' => ∃ z, e = .returned (.int .i64 z) ∧ DeepIs (lookN NL) k z ∧ Below w.heap.size w w' := by
  have HH := hidMk (fun (W : World) (b : Below w.heap.size w W) => rhas_any d NL pv k W (h.below b) hk hn)
  have HU := hidMk (fun (W : World) (b : Below w.heap.size w W) => rup_any d NL pv k W (h.below b) hk hn hf)
  cases hs : (lookN NL k).isSome with
  | false =>
    rw [hs] at HH
    unfold IdK.v
    go_enter Try.func41, Try.ntmps41
    obtain ⟨hx, bx, zx⟩ := box_id w k
    have ZX := hidMk zx
    have HSS := hidMk hs
    clear zx hs
    go_upto_region 1 with fail
    generalize w.alloc (.cells k.c.toArray 37) = W at *
    have HL := hidMk (load_id hk hx)
    go_wp2_with (first
      | (refine wpList_val rfl (exec_load (t := 37) (u := .pointer (some ⟨w.heap.size, 0, none⟩)) rfl rfl HL.out) ?_)
      | (go_at_call 74; refine (HH.out _ bx).mono ?_; rintro e w1 ⟨rfl, b1⟩)
      | fail)
    go_ret
    exact ⟨_, rfl, Or.inl ⟨HSS.out, rfl⟩, bx.trans (b1.mono bx.size)⟩
  | true =>
    rw [hs] at HH
    unfold IdK.v
    go_enter Try.func41, Try.ntmps41
    obtain ⟨hx, bx, zx⟩ := box_id w k
    have ZX := hidMk zx
    have HSS := hidMk hs
    clear zx hs
    go_upto_region 1 with fail
    generalize w.alloc (.cells k.c.toArray 37) = W at *
    have HL := hidMk (fun (V : World) (b : Below W.heap.size W V) => load_id hk ((b.block _ (by have := ZX.out; omega)).trans hx))
    go_wp2_with (first
      | (refine wpList_val rfl (exec_load (t := 37) (u := .pointer (some ⟨w.heap.size, 0, none⟩)) rfl rfl (HL.out _ (Below.refl _ _))) ?_)
      | (go_at_call 74; refine (HH.out _ bx).mono ?_; rintro e w1 ⟨rfl, b1⟩; have bel1 : Below w.heap.size w w1 := bx.trans (b1.mono bx.size))
      | (refine wpList_val rfl (exec_load (t := 37) (u := .pointer (some ⟨w.heap.size, 0, none⟩)) rfl rfl (HL.out _ b1)) ?_)
      | (go_at_call 79; refine (HU.out _ bel1).mono ?_; rintro e w2 ⟨v, l, q, rfl, own, hu, hol, b2⟩; have HUp := hidMk hu; obtain ⟨a5, c5, rfl, _⟩ := own.open hol; obtain ⟨n5, hn5⟩ : ∃ n5, l.length = n5 := ⟨_, rfl⟩; have HN5 := hidMk hn5; rw [hn5]; clear hu own hn5)
      | fail)
    go_ret
    refine ⟨_, rfl, ?_, bel1.trans (b2.mono bel1.size)⟩
    rcases HUp.out with ⟨e, _⟩ | ⟨e, p, hc, rfl⟩
    · have := HSS.out; rw [e] at this; cases this
    · exact Or.inr ⟨e, l, p, hc, by rw [HN5.out]⟩
end
end Go.Proofs.Ytoofljkgdjjllaa

namespace Go.Proofs.Ytoofljkgdjjllaa
open Go.RowKit
set_option linter.unusedVariables false
set_option linter.unusedSimpArgs false

abbrev RN := IdK × NodeV
def zRn : RN := (zId, zNode)
theorem zRn_ok : RnOk zRn := ⟨zId_ok, zId_ok⟩
theorem rn_one (p : RN) : ∀ v ∈ rnC p, v.oneCell' = true := by
  intro v hv
  simp only [rnC, List.mem_append, List.mem_cons, List.not_mem_nil, or_false] at hv
  rcases hv with h | h | rfl | rfl
  · exact IdK.one _ v h
  · exact IdK.one _ v h
  · rfl
  · rfl
def RnsAt (w : World) (a : Option Addr) (L : List RN) : Prop := L = [] ∨ ∃ b off, a = some ⟨b, off, none⟩ ∧ b < w.heap.size ∧ ∀ i h, L[i]? = some h → w.rangeAt b (off + 68 * i) (rnC h)
theorem RnsAt.below {w w' : World} {a : Option Addr} {L : List RN} (h : RnsAt w a L) (hb : Below w.heap.size w w') : RnsAt w' a L := by
  rcases h with h | ⟨b, off, e, hl, hr⟩
  · exact .inl h
  · exact .inr ⟨b, off, e, Nat.lt_of_lt_of_le hl hb.size, fun i x hx => rangeAt_keep (hr i x hx) (hb.block b hl)⟩
def flatN (L : List RN) : List Value := L.flatMap rnC
theorem flatN_len : ∀ {L : List RN}, (∀ h ∈ L, RnOk h) → (flatN L).length = 68 * L.length
  | [], _ => rfl
  | x :: L, ok => by
    have := flatN_len (L := L) (fun h hh => ok h (by simp [hh]))
    simp only [flatN, List.flatMap_cons, List.length_append, rn_len (ok x (by simp)), List.length_cons] at this ⊢
    omega
theorem flatN_get : ∀ {L : List RN}, (∀ h ∈ L, RnOk h) → ∀ {i : Nat} {h : RN}, L[i]? = some h → ∀ {j : Nat} {v : Value}, (rnC h)[j]? = some v → (flatN L)[68 * i + j]? = some v
  | x :: L, ok, 0, h, hi, j, v, hj => by
    simp only [List.getElem?_cons_zero, Option.some.injEq] at hi
    subst hi
    have hl := (List.getElem?_eq_some_iff.1 hj).1
    rw [Nat.mul_zero, Nat.zero_add, flatN, List.flatMap_cons, List.getElem?_append_left hl]
    exact hj
  | x :: L, ok, i + 1, h, hi, j, v, hj => by
    simp only [List.getElem?_cons_succ] at hi
    have := flatN_get (L := L) (fun h hh => ok h (by simp [hh])) hi hj
    have l := rn_len (ok x (by simp))
    rw [flatN, List.flatMap_cons, List.getElem?_append_right (by omega), l, show 68 * (i + 1) + j - 68 = 68 * i + j by omega]
    exact this
  | [], _, i, h, hi, _, _, _ => by simp at hi
theorem flatN_inv : ∀ {L : List RN}, (∀ h ∈ L, RnOk h) → ∀ {p : Nat} {u : Value}, (flatN L)[p]? = some u → ∃ i h j, p = 68 * i + j ∧ L[i]? = some h ∧ (rnC h)[j]? = some u
  | [], _, p, u, hp => by simp [flatN] at hp
  | x :: L, ok, p, u, hp => by
    have l := rn_len (ok x (by simp))
    rw [flatN, List.flatMap_cons, List.getElem?_append] at hp
    by_cases h : p < (rnC x).length
    · rw [if_pos h] at hp
      exact ⟨0, x, p, by omega, rfl, hp⟩
    · rw [if_neg h] at hp
      obtain ⟨i, y, j, e, hi, hj⟩ := flatN_inv (L := L) (fun h hh => ok h (by simp [hh])) hp
      exact ⟨i + 1, y, j, by omega, hi, hj⟩
theorem flatN_one (L : List RN) : ∀ u ∈ flatN L, u.oneCell' = true := by
  intro u hu
  simp only [flatN, List.mem_flatMap] at hu
  obtain ⟨h, _, hv⟩ := hu
  exact rn_one h u hv
theorem flatN_app (L M : List RN) : flatN (L ++ M) = flatN L ++ flatN M := by simp [flatN]
def OwnN (w : World) (base : Nat) (v : Value) (L : List RN) : Prop := w.ownsRow base 114 68 v L.length (flatN L)
theorem OwnN.below {w w' : World} {base : Nat} {v : Value} {L : List RN} (h : OwnN w base v L) (hb : Below w.heap.size w w') : OwnN w' base v L := by
  refine ⟨h.1, ?_⟩
  rcases h.2 with hn | ⟨g, cap, cur, rfl, hbg, hg, rest⟩
  · exact .inl hn
  · exact .inr ⟨g, cap, cur, rfl, hbg, by rw [hb.block g (Array.getElem?_eq_some_iff.1 hg).1]; exact hg, rest⟩
theorem OwnN.keep {w w' : World} {base : Nat} {v : Value} {L : List RN} (h : OwnN w base v L) (hk : ∀ k, v.ownBlock = some k → w'.heap[k]? = w.heap[k]?) : OwnN w' base v L := by
  refine ⟨h.1, ?_⟩
  rcases h.2 with hn | ⟨g, cap, cur, rfl, hbg, hg, rest⟩
  · exact .inl hn
  · exact .inr ⟨g, cap, cur, rfl, hbg, by rw [hk g rfl]; exact hg, rest⟩
theorem OwnN.open {w : World} {base : Nat} {v : Value} {L : List RN} (h : OwnN w base v L) (ok : ∀ h ∈ L, RnOk h) : ∃ a c, v = .slice a L.length c ∧ RnsAt w a L ∧ L.length ≤ c := by
  rcases h.2 with ⟨rfl, hn⟩ | ⟨g, cap, cur, rfl, hbg, hg, hnc, hcm, hcs, htake⟩
  · obtain rfl : L = [] := List.eq_nil_of_length_eq_zero hn
    exact ⟨none, 0, rfl, .inl rfl, Nat.le_refl _⟩
  · refine ⟨some ⟨g, 0, none⟩, cap, rfl, .inr ⟨g, 0, rfl, (Array.getElem?_eq_some_iff.1 hg).1, fun i x hx j u hj => ?_⟩, hnc⟩
    have e := flatN_get ok hx hj
    rw [Nat.zero_add, cell_of_row w g _ cur 114 (0, 0) hg]
    rw [← htake, List.getElem?_take] at e
    split at e
    · simpa using e
    · cases e
theorem infoN : (Try.prog.info? 114).map (fun i => (i.zero, i.size, i.bytes)) = some (some (.agg (rnC zRn).toArray), 68, 104) := by kernel_rfl
theorem zcellsN : (Value.agg (rnC zRn).toArray).cells.size = 68 := by
  show (rnC zRn).toArray.size = 68
  rw [List.size_toArray, rn_len zRn_ok]
theorem run_appN (w : World) (base : Nat) (v : Value) (L : List RN) (a : Option Addr) (M : List RN) (c : Nat) (hown : OwnN w base v L) (hb : RnsAt w a M) (ok : ∀ h ∈ M, RnOk h) (h : L.length + M.length ≤ 2000000000000) (hbase : base ≤ w.heap.size) :
    ∃ v' w', (Builtin.append_ #[83, 83] 83 #[v, .slice a M.length c]).run Try.prog w = .ok v' w' ∧ OwnN w' base v' (L ++ M) ∧ w.grownBy w' v.ownBlock ∧ (v'.ownBlock = v.ownBlock ∨ v'.ownBlock = some w.heap.size) := by
  obtain ⟨i, hi, hz, hs, hby⟩ := info_parts infoN
  cases a with
  | some ad =>
    have hnews : ∀ j u, (flatN M)[j]? = some u → w.cell? (ad.add j) = some u := fun j u hj => by
      rcases hb with rfl | ⟨b, off, e, _, hc⟩
      · simp [flatN] at hj
      · cases e
        obtain ⟨k, x, r, rfl, hx, hr⟩ := flatN_inv ok hj
        rw [Addr.add_mid, ← Nat.add_assoc]
        exact hc k x hx r u hr
    obtain ⟨v', w', hr, h2, h3, h5⟩ := app_at (P := Try.prog) w base 83 83 114 i _ 68 104 Try.underlying83 hi hz hs hby zcellsN (by decide) v L.length (flatN L) hown ad M.length c (flatN M) (by rw [flatN_len ok, Nat.mul_comm]) hnews (flatN_one M) (by unfold maxLen; omega) (by omega) hbase
    refine ⟨v', w', hr, ?_, h3, h5⟩
    unfold OwnN
    rw [List.length_append, flatN_app]
    exact h2
  | none =>
    obtain rfl : M = [] := by
      rcases hb with rfl | ⟨b, off, e, _⟩
      · rfl
      · cases e
    rcases hown.2 with ⟨rfl, hn⟩ | ⟨g, cap, cur, rfl, hbg, hg, hnc, rest⟩
    · refine ⟨.slice none 0 0, w, ?_, by rw [List.append_nil]; exact hown, ⟨rfl, rfl, rfl, Nat.le_refl _, fun _ _ _ => rfl⟩, .inl rfl⟩
      simp [Builtin.append_, run_underlying Try.underlying83, sizeOf, typeInfo, hi, Builtin.lenOf, Builtin.firstCells, loadCells, loadCellsFrom]
    · refine ⟨.slice (some ⟨g, 0, none⟩) L.length cap, w, ?_, by rw [List.append_nil]; exact hown, ⟨rfl, rfl, rfl, Nat.le_refl _, fun _ _ _ => rfl⟩, .inl rfl⟩
      simp [Builtin.append_, run_underlying Try.underlying83, sizeOf, typeInfo, hi, Builtin.lenOf, Builtin.firstCells, hnc, storeCells]
theorem rns_lit (w : World) (h : RN) (t : TypeId) : RnsAt (w.alloc (.cells (rnC h).toArray t)) (some ⟨w.heap.size, 0, none⟩) [h] :=
  .inr ⟨w.heap.size, 0, rfl, by simp, fun i x hx j v hj => by
    have hl := (List.getElem?_eq_some_iff.1 hx).1
    obtain rfl : i = 0 := by simp at hl; omega
    simp at hx
    subst hx
    rw [Nat.mul_zero, Nat.add_zero, Nat.zero_add]
    exact cell_new w (rnC h) t j v hj⟩
theorem run_bsN (h : RN) (ok : RnOk h) (w : World) : (Instr.buildSlice 83 1 #[(0, .agg (rnC h).toArray)]).run Try.prog w = .ok (.slice (some ⟨w.heap.size, 0, none⟩) 1 1) (w.alloc (.cells (rnC h).toArray 114)) := by
  obtain ⟨ie, hi, hz, hs, hby⟩ := info_parts infoN
  refine run_buildSlice w 83 114 1 _ (rnC h).toArray ie _ Try.underlying83 hi hz (by rw [hs]; decide) (by rw [hs]; decide) ?_
  rw [hs]
  have := Go.Great.fill_whole (s := 68) (by decide) [.agg (rnC h).toArray] ((Array.range (1 * 68)).map ((Value.agg (rnC zRn).toArray).cells[· % (Value.agg (rnC zRn).toArray).cells.size]!)) (by intro v hv; simp at hv; subst hv; show (rnC h).toArray.size = 68; rw [List.size_toArray, rn_len ok]) (by simp)
  simpa [Value.cells] using this
section
variable {ops : Array Oper} {rest : List Oper} {o : Oper} {a : Act} {w : World} {Q : Exit → Act → World → Prop} {K : Act → World → Prop} {E : Prop}
end
theorem szRn : (Try.prog.info? 114).map (·.size) = some 68 := by kernel_rfl
theorem OwnN.ge {w : World} {base : Nat} {v : Value} {L : List RN} (h : OwnN w base v L) : ∀ j, v.ownBlock = some j → base ≤ j ∧ ∃ c, w.heap[j]? = some (.cells c 114 (0, 0)) := by
  intro j hj
  rcases h.2 with ⟨rfl, hn⟩ | ⟨g, cap, cur, rfl, hbg, hg, rest⟩
  · cases hj
  · obtain rfl : g = j := by simpa [Value.ownBlock] using hj
    exact ⟨hbg, _, hg⟩
theorem flatN_cons (x : RN) (L : List RN) : flatN (x :: L) = rnC x ++ flatN L := rfl
theorem own_setN {w : World} {base : Nat} {v : Value} {L : List RN} (own : OwnN w base v L) (ok : ∀ x ∈ L, RnOk x) {i : Nat} (hi : i < L.length) {x : RN} (hx : RnOk x) :
    ∃ g cap, v = .slice (some ⟨g, 0, none⟩) L.length cap ∧ g < w.heap.size ∧ ∃ w', (Instr.storeAt 114 (.pointer (some ⟨g, i * 68, none⟩)) (.agg (rnC x).toArray)).run Try.prog w = .ok () w' ∧ OwnN w' base v (L.set i x) ∧ Tch (fun j => v.ownBlock = some j) w w' ∧ w'.heap.size = w.heap.size := by
  rcases own.2 with ⟨rfl, hn⟩ | ⟨g, cap, cur, rfl, hbg, hg, hnc, hcm, hcs, htake⟩
  · omega
  · rw [Nat.mul_comm i 68]
    refine ⟨g, cap, rfl, (Array.getElem?_eq_some_iff.1 hg).1, w.setRow g (cur.toList.take (68 * i) ++ rnC x ++ cur.toList.drop (68 * i + (rnC x).length)).toArray, ?_, ?_, setRow_tch w g _, by simp [World.setRow]⟩
    · have hlen := rn_len hx
      have hb : 68 * i + 68 ≤ cur.size := by rw [hcs]; omega
      have h := run_storeCells_at Try.prog g (68 * i) 114 (rnC x) 0 cur w hg (by rw [hlen]; omega) (fun v hv => rn_one x v hv)
      rw [Nat.add_zero] at h
      have hs := szRn
      cases hq : Try.prog.info? 114 with
      | none => rw [hq] at hs; simp at hs
      | some ii =>
        rw [hq] at hs
        simp at hs
        have hcz : (rnC x).toArray.size = ii.size := by simp [hlen, hs]
        simp only [Instr.storeAt, Instr.sureAddr, Sem.run_bind, Sem.run_pure, Result.andThen_ok, storeVar, sizeOf, typeInfo, hq, Value.cells]
        simp [typeInfo, hq, hlen, hs, h]
    · have hA : ∃ A y B, L = A ++ y :: B ∧ A.length = i := ⟨L.take i, L[i], L.drop (i + 1), by rw [← List.drop_eq_getElem_cons hi, List.take_append_drop], by simp; omega⟩
      obtain ⟨A, y, B, rfl, hA⟩ := hA
      have okA : ∀ x ∈ A, RnOk x := fun x hx => ok x (by simp [hx])
      have okB : ∀ x ∈ B, RnOk x := fun x hx => ok x (by simp [hx])
      have oky : RnOk y := ok y (by simp)
      have hset : (A ++ y :: B).set i x = A ++ x :: B := by rw [← hA, List.set_append_right _ _ (Nat.le_refl _)]; simp
      rw [hset]
      have hfl : flatN (A ++ x :: B) = flatN A ++ rnC x ++ flatN B := by rw [flatN_app, flatN_cons]; simp
      have hfl' : flatN (A ++ y :: B) = flatN A ++ rnC y ++ flatN B := by rw [flatN_app, flatN_cons]; simp
      rw [hfl'] at htake
      have hlA := flatN_len okA
      have hlB := flatN_len okB
      have l1 := rn_len oky
      have l2 := rn_len hx
      have hlenx : (A ++ x :: B).length = (A ++ y :: B).length := by simp
      refine ⟨?_, Or.inr ⟨g, cap, _, by rw [hlenx], hbg, setRow_heap w g cur _ 114 (0, 0) hg, by rw [hlenx]; exact hnc, hcm, ?_, ?_⟩⟩
      · rw [hfl]; simp only [List.length_append, List.length_cons]; omega
      · rw [← hcs]
        simp only [List.length_append, List.length_cons] at hnc
        have : cur.toList.length = cur.size := by simp
        simp only [List.size_toArray, List.length_append, List.length_take, List.length_drop]
        omega
      · rw [List.toList_toArray, hfl, hlenx]
        refine take_seg htake ?_ (by omega) (by omega)
        simp only [List.length_append, List.length_cons]
        omega
end Go.Proofs.Ytoofljkgdjjllaa

namespace Go.Proofs.Ytoofljkgdjjllaa
open Go.RowKit
set_option linter.unusedVariables false
set_option linter.unusedSimpArgs false

set_option maxHeartbeats 1000000 in
theorem rcmp_any (a b : List UInt8) (ha : a.length = 32) (hb : b.length = 32) (w : World) :
    Calls Try.prog 93 #[.agg (bs a), .agg (bs b)] w fun e w' => e = .returned (.int .i64 (cmpL a b)) ∧ Below w.heap.size w w' := by
  have be0 : Below w.heap.size w ((w.alloc (.cells (bs a) 35)).alloc (.cells (bs b) 35)) := ((Below.refl _ _).alloc (Nat.le_refl _) _).alloc (by simp) _
  have g0 : ((w.alloc (.cells (bs a) 35)).alloc (.cells (bs b) 35)).heap[w.heap.size]? = some (.cells (bs a) 35 (0, 0)) := heap_alloc2_old _ _ _
  have g1 : ((w.alloc (.cells (bs a) 35)).alloc (.cells (bs b) 35)).heap[w.heap.size + 1]? = some (.cells (bs b) 35 (0, 0)) := heap_alloc2_new _ _ _
  go_enter Try.func93, Try.ntmps93
  go_wp2
  generalize ((w.alloc (.cells (bs a) 35)).alloc (.cells (bs b) 35)) = W0 at *
  go_loopw [5] (fun i wr => ∃ k : Nat, k ≤ 32 ∧ i = .int .i64 k ∧ Hid (∀ j, j < k → at8 a j = at8 b j) ∧ ∃ m, wr = W0.drewN m) (fun i _ => 32 - (intOf i).toNat)
  case atStart => exact ⟨0, by omega, rfl, (fun j hj => by omega : ∀ j, j < 0 → at8 a j = at8 b j), 0, rfl⟩
  case round =>
    obtain ⟨k, hk, rfl, hsame, m, rfl⟩ := hrel
    by_cases hlt : k < 32
    · have ca := (cell_of_row W0 w.heap.size k _ _ _ g0).trans (bs_get a k (by omega))
      have cb := (cell_of_row W0 (w.heap.size + 1) k _ _ _ g1).trans (bs_get b k (by omega))
      have HL := cmpL_at a b k (by omega) (by omega) hsame.out
      have HL1 : Hid ((at8 a k < at8 b k → cmpL a b = -1) ∧ (at8 b k < at8 a k → cmpL a b = 1)) := HL
      clear HL
      have hlt' : (k : Int) < 32 := by omega
      by_cases h1 : at8 a k < at8 b k
      · go_wp2
        go_quiet (fail)
        go_wp2
        go_ret
        exact ⟨ret_int (HL1.out.1 h1).symm, below_drewN (below_drewN be0 _) _⟩
      · by_cases h2 : at8 b k < at8 a k
        · go_wp2
          go_quiet (fail)
          go_wp2
          go_quiet (fail)
          go_wp2
          go_ret
          exact ⟨ret_int (HL1.out.2 h2).symm, below_drewN (below_drewN (below_drewN be0 _) _) _⟩
        · go_wp2
          go_quiet (fail)
          go_wp2
          go_quiet (fail)
          go_wp2
          refine ⟨⟨k + 1, by omega, by go_num, ?_, _, rfl⟩, by simp [intOf]; omega⟩
          show ∀ j, j < k + 1 → at8 a j = at8 b j
          intro j hj
          by_cases e : j = k
          · subst e; omega
          · exact hsame.out j (by omega)
    · have hk2 : k = 32 := by omega
      subst hk2
      have HE : Hid (cmpL a b = 0) := by
        show cmpL a b = 0
        rw [at8_ext 32 ha hb hsame.out]
        exact cmpL_same b
      go_wp2
      go_ret
      exact ⟨ret_int HE.out.symm, below_drewN be0 _⟩

/-! ### A hash put in its place -/
theorem lt_cId (x y : IdK) : (cId x y < 0) ↔ (cmpL x.h y.h < 0 ∨ cmpL x.h y.h = 0 ∧ x.n < y.n) := by
  unfold cId or2 cI
  split
  · next h => rw [h]; split
              · simp_all
              · split <;> simp_all
  · next h => simp [h]
set_option maxRecDepth 100000 in
set_option maxHeartbeats 2000000 in
theorem lower_any (x y : IdK) (w : World) (hx : x.ok) (hy : y.ok) : Calls Try.prog 87 #[x.v, y.v] w fun e w' => e = .returned (.bool (decide (cId x y < 0))) ∧ Below w.heap.size w w' := by
  have HC := hidMk (fun W => rcmp_any x.h y.h hx.l hy.l W)
  have hd : decide (cId x y < 0) = decide (cmpL x.h y.h < 0 ∨ cmpL x.h y.h = 0 ∧ x.n < y.n) := by rw [decide_eq_decide]; exact lt_cId x y
  rw [hd]
  clear hd
  obtain ⟨c, hc⟩ : ∃ c, cmpL x.h y.h = c := ⟨_, rfl⟩
  rw [hc] at HC
  rw [hc]
  clear hc
  unfold IdK.v
  go_enter Try.func87, Try.ntmps87
  go_upto_region 1 with fail
  obtain ⟨hxb, hyb, bx, zx⟩ := two_boxes w x y
  have ZX := hidMk zx
  clear zx
  generalize (w.alloc (.cells x.c.toArray 37)).alloc (.cells y.c.toArray 37) = W at *
  have z1 : w.heap.size + 2 ≤ W.heap.size := Nat.le_of_eq ZX.out.symm
  have n1 := cell_n hx hxb
  have n2 := cell_n hy hyb
  go_upto_region 2 with (first
    | (refine wpList_val rfl (exec_load (t := 35) (u := .pointer (some ⟨w.heap.size, 0, none⟩)) rfl rfl (load_hash hx hxb)) ?_)
    | (refine wpList_val rfl (exec_load (t := 35) (u := .pointer (some ⟨w.heap.size + 1, 0, none⟩)) rfl rfl (load_hash hy hyb)) ?_)
    | (go_at_call 93; refine (HC.out _).mono ?_; rintro e w1 ⟨rfl, b1⟩; replace n1 := (b1.cell (by show w.heap.size < _; omega)).trans n1; replace n2 := (b1.cell (by show w.heap.size + 1 < _; omega)).trans n2; replace bx : Below w.heap.size w w1 := bx.trans (b1.mono (by omega)); clear b1)
    | fail)
  by_cases h1 : c < 0
  · have hd : decide (c < 0) = true := decide_eq_true h1
    have HQ := hidMk (show decide (c < 0 ∨ c = 0 ∧ x.n < y.n) = true from decide_eq_true (Or.inl h1))
    go_wp2
    go_ret
    exact ⟨by rw [HQ.out]; rfl, bx⟩
  · by_cases h2 : c = 0
    · subst h2
      clear h1
      have HQ := hidMk (show decide ((0 : Int) < 0 ∨ (0 : Int) = 0 ∧ x.n < y.n) = decide (x.n < y.n) by simp)
      go_wp2
      go_ret
      exact ⟨by first | rfl | (rw [HQ.out]; rfl) | simp, bx⟩
    · have hd : decide (c < 0) = false := decide_eq_false h1
      have he : (c == 0) = false := by simpa using h2
      have HQ := hidMk (show decide (c < 0 ∨ c = 0 ∧ x.n < y.n) = false from decide_eq_false (fun q => q.elim h1 (fun r => h2 r.1)))
      clear h1 h2
      go_wp2
      go_ret
      exact ⟨by rw [HQ.out]; rfl, bx⟩
theorem lt_cKid (x y : KidV) : (cKid x y < 0) ↔ (Op.bytesLess x.key.toList y.key.toList = true ∨ x.key.toList = y.key.toList ∧ cId x.id y.id < 0) := by
  unfold cKid or2
  rcases cS_val x.key y.key with ⟨p, e⟩ | ⟨p, e⟩ | ⟨p, e⟩
  · rw [e]; simp [p]
  · rw [e]
    have : Op.bytesLess x.key.toList y.key.toList = false := by rw [p]; exact bl_irrefl _
    simp [this, p, bl_irrefl]
  · rw [e]
    have h1 := bl_asymm p
    have h2 : x.key.toList ≠ y.key.toList := fun q => by rw [q, bl_irrefl] at p; cases p
    simp [h1, h2]
def kOf (p : RN) : KidV := ⟨p.1, p.2.key⟩
def RnAt (w : World) (b : Nat) (p : RN) : Prop := w.heap[b]? = some (.cells (rnC p).toArray 114 (0, 0))
theorem two_rns (w : World) (k u : RN) : RnAt ((w.alloc (.cells (rnC k).toArray 114)).alloc (.cells (rnC u).toArray 114)) w.heap.size k ∧ RnAt ((w.alloc (.cells (rnC k).toArray 114)).alloc (.cells (rnC u).toArray 114)) (w.heap.size + 1) u ∧
    Below w.heap.size w ((w.alloc (.cells (rnC k).toArray 114)).alloc (.cells (rnC u).toArray 114)) ∧ ((w.alloc (.cells (rnC k).toArray 114)).alloc (.cells (rnC u).toArray 114)).heap.size = w.heap.size + 2 := by
  have z : (w.alloc (.cells (rnC k).toArray 114)).heap.size = w.heap.size + 1 := by simp
  refine ⟨?_, ?_, ((Below.refl _ _).alloc (Nat.le_refl _) _).alloc (by simp) _, by simp⟩
  · unfold RnAt
    rw [Below.heap_alloc _ _ _ (by rw [z]; omega)]
    exact heap_alloc_new _ _
  · have := heap_alloc_new (w.alloc (.cells (rnC k).toArray 114)) (.cells (rnC u).toArray 114)
    rw [z] at this
    exact this
theorem RnAt.range {w : World} {b : Nat} {p : RN} (h : RnAt w b p) : w.rangeAt b 0 (rnC p) := cells_range h
theorem rn_idc {w : World} {b : Nat} {p : RN} (hp : RnOk p) (h : RnAt w b p) : (Instr.loadAt 37 (.pointer (some ⟨b, 0, none⟩))).run Try.prog w = .ok p.1.v w := by
  have := rn_id hp h.range
  simpa using this
theorem rn_keyc {w : World} {b : Nat} {p : RN} (hp : RnOk p) (h : RnAt w b p) : w.cell? ⟨b, 66, none⟩ = some (.string p.2.key) := by
  have l1 := IdK.len hp.k
  have l2 := IdK.len hp.u
  have := h.range 66 (.string p.2.key) (by
    rw [rnC, List.getElem?_append_right (by omega), l1, List.getElem?_append_right (by omega), l2]
    rfl)
  simpa using this
set_option maxRecDepth 100000 in
set_option maxHeartbeats 2000000 in
theorem ahead_any (x y : RN) (w : World) (hx : RnOk x) (hy : RnOk y) : Calls Try.prog 78 #[.agg (rnC x).toArray, .agg (rnC y).toArray] w fun e w' => e = .returned (.bool (decide (cKid (kOf x) (kOf y) < 0))) ∧ Below w.heap.size w w' := by
  have HC := hidMk (fun W => lower_any x.1 y.1 W hx.k hy.k)
  have hd := lt_cKid (kOf x) (kOf y)
  have HD := hidMk hd
  clear hd
  go_enter Try.func78, Try.ntmps78
  go_upto_region 1 with fail
  obtain ⟨hxb, hyb, bx, zx⟩ := two_rns w x y
  have ZX := hidMk zx
  clear zx
  generalize (w.alloc (.cells (rnC x).toArray 114)).alloc (.cells (rnC y).toArray 114) = W at *
  have n1 := rn_keyc hx hxb
  have n2 := rn_keyc hy hyb
  have L1 := hidMk (rn_idc hx hxb)
  have L2 := hidMk (rn_idc hy hyb)
  obtain ⟨kx, hkx⟩ : ∃ kx, x.2.key = kx := ⟨_, rfl⟩
  obtain ⟨ky, hky⟩ : ∃ ky, y.2.key = ky := ⟨_, rfl⟩
  rw [hkx] at n1
  rw [hky] at n2
  have HK := hidMk (And.intro hkx hky)
  clear hkx hky hxb hyb
  have hv : cKid (kOf x) (kOf y) < 0 ↔ (Op.bytesLess kx.toList ky.toList = true ∨ kx.toList = ky.toList ∧ cId x.1 y.1 < 0) := by rw [← HK.out.1, ← HK.out.2]; exact HD.out
  have HV := hidMk hv
  clear hv
  cases h1 : Op.bytesLess kx.toList ky.toList with
  | true =>
    have HQ := hidMk (show decide (cKid (kOf x) (kOf y) < 0) = true from decide_eq_true (HV.out.2 (Or.inl h1)))
    go_wp2
    go_ret
    exact ⟨by rw [HQ.out]; rfl, bx⟩
  | false =>
    cases h2 : (kx.toList == ky.toList) with
    | true =>
      have e2 : kx.toList = ky.toList := by simpa using h2
      have HQ := hidMk (show decide (cKid (kOf x) (kOf y) < 0) = decide (cId x.1 y.1 < 0) by rw [decide_eq_decide, HV.out, h1]; simp [e2])
      clear e2
      go_wp2_with (first
        | (refine wpList_val rfl (exec_load (t := 37) (u := .pointer (some ⟨w.heap.size, 0, none⟩)) rfl rfl L1.out) ?_)
        | (refine wpList_val rfl (exec_load (t := 37) (u := .pointer (some ⟨w.heap.size + 1, 0, none⟩)) rfl rfl L2.out) ?_)
        | (go_at_call 87; refine (HC.out _).mono ?_; rintro e w1 ⟨rfl, b1⟩)
        | fail)
      go_ret
      exact ⟨by rw [HQ.out]; rfl, bx.trans (b1.mono bx.size)⟩
    | false =>
      have e2 : ¬ kx.toList = ky.toList := by simpa using h2
      have HQ := hidMk (show decide (cKid (kOf x) (kOf y) < 0) = false from decide_eq_false (by rw [HV.out, h1]; simp [e2]))
      clear e2
      go_wp2
      go_ret
      exact ⟨by rw [HQ.out]; rfl, bx⟩
end Go.Proofs.Ytoofljkgdjjllaa

namespace Go.Proofs.Ytoofljkgdjjllaa
open Go.RowKit
set_option linter.unusedVariables false
set_option linter.unusedSimpArgs false

def rkids7p_o0 : Oper := ⟨some 33, .move (.tmp 0), 27, "ref.go:187", #[], none⟩
def rkids7p_o1 : Oper := ⟨some 34, .nilCheck (.tmp 33), 0, "ref.go:187", #[⟨0, .data⟩], none⟩
def rkids7p_o2 : Oper := ⟨some 35, .fieldAddr 86 (.tmp 34) 0, 0, "ref.go:187", #[⟨1, .data⟩], none⟩
def rkids7p_o3 : Oper := ⟨some 36, .load 83 (.tmp 35), 83, "ref.go:187", #[⟨2, .data⟩], none⟩
def rkids7p_o4 : Oper := ⟨some 37, .move (.tmp 6), 3, "ref.go:187", #[], none⟩
def rkids7p_o5 : Oper := ⟨some 38, .indexAddr 83 (.tmp 36) (.tmp 37), 0, "ref.go:187", #[⟨3, .data⟩, ⟨4, .data⟩], none⟩
def rkids7p_o6 : Oper := ⟨some 39, .fieldAddr 114 (.tmp 38) 3, 0, "ref.go:187", #[⟨5, .data⟩], none⟩
def rkids7p_o7 : Oper := ⟨some 40, .load 4 (.tmp 39), 4, "ref.go:187", #[⟨6, .data⟩], none⟩
def rkids7p_o8 : Oper := ⟨some 41, .move (.tmp 40), 4, "ref.go:187", #[⟨7, .data⟩], none⟩
def rkids7p_o9 : Oper := ⟨some 42, .move (.tmp 0), 27, "ref.go:187", #[⟨8, .guard⟩], some (8, false)⟩
def rkids7p_o10 : Oper := ⟨some 43, .nilCheck (.tmp 42), 0, "ref.go:187", #[⟨9, .data⟩, ⟨8, .guard⟩], some (8, false)⟩
def rkids7p_o11 : Oper := ⟨some 44, .fieldAddr 86 (.tmp 43) 0, 0, "ref.go:187", #[⟨10, .data⟩, ⟨8, .guard⟩], some (8, false)⟩
def rkids7p_o12 : Oper := ⟨some 45, .load 83 (.tmp 44), 83, "ref.go:187", #[⟨11, .data⟩, ⟨8, .guard⟩], some (8, false)⟩
def rkids7p_o13 : Oper := ⟨some 46, .move (.tmp 6), 3, "ref.go:187", #[⟨8, .guard⟩], some (8, false)⟩
def rkids7p_o14 : Oper := ⟨some 47, .indexAddr 83 (.tmp 45) (.tmp 46), 0, "ref.go:187", #[⟨12, .data⟩, ⟨13, .data⟩, ⟨8, .guard⟩], some (8, false)⟩
def rkids7p_o15 : Oper := ⟨some 48, .fieldAddr 114 (.tmp 47) 1, 0, "ref.go:187", #[⟨14, .data⟩, ⟨8, .guard⟩], some (8, false)⟩
def rkids7p_o16 : Oper := ⟨some 49, .load 37 (.tmp 48), 37, "ref.go:187", #[⟨15, .data⟩, ⟨8, .guard⟩], some (8, false)⟩
def rkids7p_o17 : Oper := ⟨some 50, .load 37 (.tmp 3), 37, "ref.go:187", #[⟨8, .guard⟩], some (8, false)⟩
def rkids7p_o18 : Oper := ⟨some 51, .binOp BinOp.neq 37 (.tmp 49) (.tmp 50) 37, 4, "ref.go:187", #[⟨16, .data⟩, ⟨17, .data⟩, ⟨8, .guard⟩], some (8, false)⟩
def rkids7p_o19 : Oper := ⟨some 52, .pick (.tmp 41) (Operand.const (Value.bool true)) (.tmp 51), 4, "ref.go:187", #[⟨8, .data⟩, ⟨18, .data⟩], none⟩
def rkids7p_ops : Array Oper := #[rkids7p_o0, rkids7p_o1, rkids7p_o2, rkids7p_o3, rkids7p_o4, rkids7p_o5, rkids7p_o6, rkids7p_o7, rkids7p_o8, rkids7p_o9, rkids7p_o10, rkids7p_o11, rkids7p_o12, rkids7p_o13, rkids7p_o14, rkids7p_o15, rkids7p_o16, rkids7p_o17, rkids7p_o18, rkids7p_o19]
set_option maxRecDepth 100000 in
set_option maxHeartbeats 4000000 in
theorem rkids7p (d bi nb no n c i : Nat) (S : World → Prop) (a : Act) (w : World) (Q : Exit → Act → World → Prop) (hsz : a.tmps.size = 114)
    (t0 : a.tmps.getD 0 undef = .pointer (some ⟨d, 0, none⟩))
    (t3 : a.tmps.getD 3 undef = .pointer (some ⟨bi, 0, none⟩))
    (t6 : a.tmps.getD 6 undef = .int .i64 (i : Int))
    (h0 : S w.drew)
    (G1 : ∀ W, S W → (Instr.loadAt 83 (.pointer (some ⟨d, 0 + 0, none⟩))).run Try.prog W = .ok (.slice (some ⟨nb, no, none⟩) n c) W)
    (G2 : ∀ W, (Instr.indexAt 83 (.slice (some ⟨nb, no, none⟩) n c) (.int .i64 (i : Int))).run Try.prog W = .ok (.pointer (some ⟨nb, no + i * 68, none⟩)) W)
    (G3 : ∀ W, S W → (Instr.loadAt 4 (.pointer (some ⟨nb, no + i * 68 + 67, none⟩))).run Try.prog W = .ok (.bool true) W)
    (h : ∀ (a' : Act) (w' : World), S w' → a' = ((((((((((((((((((((a).put (some 33) (.pointer (some ⟨d, 0, none⟩))).put (some 34) (.pointer (some ⟨d, 0, none⟩))).put (some 35) (.pointer (some ⟨d, 0 + 0, none⟩))).put (some 36) (.slice (some ⟨nb, no, none⟩) n c)).put (some 37) (.int .i64 (i : Int))).put (some 38) (.pointer (some ⟨nb, no + i * 68, none⟩))).put (some 39) (.pointer (some ⟨nb, no + i * 68 + 67, none⟩))).put (some 40) (.bool true)).put (some 41) (.bool true)).put (some 42) (undef)).put (some 43) (undef)).put (some 44) (undef)).put (some 45) (undef)).put (some 46) (undef)).put (some 47) (undef)).put (some 48) (undef)).put (some 49) (undef)).put (some 50) (undef)).put (some 51) (undef)).put (some 52) (.bool true) → Q .normal a' w') :
    (Code.region 7 rkids7p_ops true).wp Try.prog Q a w := by
  refine wp_region_noPanic ?_
  refine wp_region_held_drew (S := fun w' => S w') (by kernel_rfl) (h0) (fun hHeld => ?_)
  refine tk 0 rkids7p_o0 (.pointer (some ⟨d, 0, none⟩)) (by rfl) (fun w1 hw => exec_move rfl t0) hHeld (fun a1 e1 => ?_)
  rw [← e1] at h
  have z1 := pz e1 hsz
  replace t0 := pk e1 t0
  replace t3 := pk e1 t3
  replace t6 := pk e1 t6
  have t33 := pq e1 hsz
  clear e1 hsz
  refine tk 1 rkids7p_o1 (.pointer (some ⟨d, 0, none⟩)) (by rfl) (fun w1 hw => exec_nilCheck rfl t33) hHeld (fun a2 e2 => ?_)
  rw [← e2] at h
  have z2 := pz e2 z1
  replace t0 := pk e2 t0
  replace t3 := pk e2 t3
  replace t6 := pk e2 t6
  clear t33
  have t34 := pq e2 z1
  clear e2 z1
  refine tk 2 rkids7p_o2 (.pointer (some ⟨d, 0 + 0, none⟩)) (by rfl) (fun w1 hw => exec_fieldAt rfl t34 (fg_86_0 _ _ _)) hHeld (fun a3 e3 => ?_)
  rw [← e3] at h
  have z3 := pz e3 z2
  replace t0 := pk e3 t0
  replace t3 := pk e3 t3
  replace t6 := pk e3 t6
  clear t34
  have t35 := pq e3 z2
  clear e3 z2
  refine tk 3 rkids7p_o3 (.slice (some ⟨nb, no, none⟩) n c) (by rfl) (fun w1 hw => exec_load rfl t35 (G1 _ hw)) hHeld (fun a4 e4 => ?_)
  rw [← e4] at h
  have z4 := pz e4 z3
  replace t0 := pk e4 t0
  replace t3 := pk e4 t3
  replace t6 := pk e4 t6
  clear t35
  have t36 := pq e4 z3
  clear e4 z3
  refine tk 4 rkids7p_o4 (.int .i64 (i : Int)) (by rfl) (fun w1 hw => exec_move rfl t6) hHeld (fun a5 e5 => ?_)
  rw [← e5] at h
  have z5 := pz e5 z4
  replace t0 := pk e5 t0
  replace t3 := pk e5 t3
  replace t6 := pk e5 t6
  replace t36 := pk e5 t36
  have t37 := pq e5 z4
  clear e5 z4
  refine tk 5 rkids7p_o5 (.pointer (some ⟨nb, no + i * 68, none⟩)) (by rfl) (fun w1 hw => exec_indexAt rfl t36 t37 (G2 _)) hHeld (fun a6 e6 => ?_)
  rw [← e6] at h
  have z6 := pz e6 z5
  replace t0 := pk e6 t0
  replace t3 := pk e6 t3
  replace t6 := pk e6 t6
  clear t36
  clear t37
  have t38 := pq e6 z5
  clear e6 z5
  refine tk 6 rkids7p_o6 (.pointer (some ⟨nb, no + i * 68 + 67, none⟩)) (by rfl) (fun w1 hw => exec_fieldAt rfl t38 (fg_114_3 _ _ _)) hHeld (fun a7 e7 => ?_)
  rw [← e7] at h
  have z7 := pz e7 z6
  replace t0 := pk e7 t0
  replace t3 := pk e7 t3
  replace t6 := pk e7 t6
  clear t38
  have t39 := pq e7 z6
  clear e7 z6
  refine tk 7 rkids7p_o7 (.bool true) (by rfl) (fun w1 hw => exec_load rfl t39 (G3 _ hw)) hHeld (fun a8 e8 => ?_)
  rw [← e8] at h
  have z8 := pz e8 z7
  replace t0 := pk e8 t0
  replace t3 := pk e8 t3
  replace t6 := pk e8 t6
  clear t39
  have t40 := pq e8 z7
  clear e8 z7
  refine tk 8 rkids7p_o8 (.bool true) (by rfl) (fun w1 hw => exec_move rfl t40) hHeld (fun a9 e9 => ?_)
  rw [← e9] at h
  have z9 := pz e9 z8
  replace t0 := pk e9 t0
  replace t3 := pk e9 t3
  replace t6 := pk e9 t6
  clear t40
  have t41 := pq e9 z8
  clear e9 z8
  refine wpAnyH_take (i := 9) (oi := rkids7p_o9) (v := undef) rfl (by kernel_rfl) (by kernel_rfl) (by kernel_rfl) (fun _ _ _ h => h) (Or.inr ⟨by simp [Region.wanted, yielded, rkids7p_o9, rkids7p_o8, rkids7p_ops, tget z9 (by decide) t41], rfl⟩) hHeld ?_
  change wpAnyH _ _ _ _ _ _ _ (a9.put (some 42) (undef)) _
  obtain ⟨a10, e10⟩ : ∃ act, act = a9.put (some 42) (undef) := ⟨_, rfl⟩
  rw [← e10] at h ⊢
  have z10 := pz e10 z9
  clear t0
  replace t3 := pk e10 t3
  replace t6 := pk e10 t6
  replace t41 := pk e10 t41
  have t42 := pq e10 z9
  clear e10 z9
  refine wpAnyH_take (i := 10) (oi := rkids7p_o10) (v := undef) rfl (by kernel_rfl) (by kernel_rfl) (by kernel_rfl) (fun _ _ _ h => h) (Or.inr ⟨by simp [Region.wanted, yielded, rkids7p_o10, rkids7p_o8, rkids7p_ops, tget z10 (by decide) t41], rfl⟩) hHeld ?_
  change wpAnyH _ _ _ _ _ _ _ (a10.put (some 43) (undef)) _
  obtain ⟨a11, e11⟩ : ∃ act, act = a10.put (some 43) (undef) := ⟨_, rfl⟩
  rw [← e11] at h ⊢
  have z11 := pz e11 z10
  replace t3 := pk e11 t3
  replace t6 := pk e11 t6
  replace t41 := pk e11 t41
  clear t42
  have t43 := pq e11 z10
  clear e11 z10
  refine wpAnyH_take (i := 11) (oi := rkids7p_o11) (v := undef) rfl (by kernel_rfl) (by kernel_rfl) (by kernel_rfl) (fun _ _ _ h => h) (Or.inr ⟨by simp [Region.wanted, yielded, rkids7p_o11, rkids7p_o8, rkids7p_ops, tget z11 (by decide) t41], rfl⟩) hHeld ?_
  change wpAnyH _ _ _ _ _ _ _ (a11.put (some 44) (undef)) _
  obtain ⟨a12, e12⟩ : ∃ act, act = a11.put (some 44) (undef) := ⟨_, rfl⟩
  rw [← e12] at h ⊢
  have z12 := pz e12 z11
  replace t3 := pk e12 t3
  replace t6 := pk e12 t6
  replace t41 := pk e12 t41
  clear t43
  have t44 := pq e12 z11
  clear e12 z11
  refine wpAnyH_take (i := 12) (oi := rkids7p_o12) (v := undef) rfl (by kernel_rfl) (by kernel_rfl) (by kernel_rfl) (fun _ _ _ h => h) (Or.inr ⟨by simp [Region.wanted, yielded, rkids7p_o12, rkids7p_o8, rkids7p_ops, tget z12 (by decide) t41], rfl⟩) hHeld ?_
  change wpAnyH _ _ _ _ _ _ _ (a12.put (some 45) (undef)) _
  obtain ⟨a13, e13⟩ : ∃ act, act = a12.put (some 45) (undef) := ⟨_, rfl⟩
  rw [← e13] at h ⊢
  have z13 := pz e13 z12
  replace t3 := pk e13 t3
  replace t6 := pk e13 t6
  replace t41 := pk e13 t41
  clear t44
  have t45 := pq e13 z12
  clear e13 z12
  refine wpAnyH_take (i := 13) (oi := rkids7p_o13) (v := undef) rfl (by kernel_rfl) (by kernel_rfl) (by kernel_rfl) (fun _ _ _ h => h) (Or.inr ⟨by simp [Region.wanted, yielded, rkids7p_o13, rkids7p_o8, rkids7p_ops, tget z13 (by decide) t41], rfl⟩) hHeld ?_
  change wpAnyH _ _ _ _ _ _ _ (a13.put (some 46) (undef)) _
  obtain ⟨a14, e14⟩ : ∃ act, act = a13.put (some 46) (undef) := ⟨_, rfl⟩
  rw [← e14] at h ⊢
  have z14 := pz e14 z13
  replace t3 := pk e14 t3
  clear t6
  replace t41 := pk e14 t41
  replace t45 := pk e14 t45
  have t46 := pq e14 z13
  clear e14 z13
  refine wpAnyH_take (i := 14) (oi := rkids7p_o14) (v := undef) rfl (by kernel_rfl) (by kernel_rfl) (by kernel_rfl) (fun _ _ _ h => h) (Or.inr ⟨by simp [Region.wanted, yielded, rkids7p_o14, rkids7p_o8, rkids7p_ops, tget z14 (by decide) t41], rfl⟩) hHeld ?_
  change wpAnyH _ _ _ _ _ _ _ (a14.put (some 47) (undef)) _
  obtain ⟨a15, e15⟩ : ∃ act, act = a14.put (some 47) (undef) := ⟨_, rfl⟩
  rw [← e15] at h ⊢
  have z15 := pz e15 z14
  replace t3 := pk e15 t3
  replace t41 := pk e15 t41
  clear t45
  clear t46
  have t47 := pq e15 z14
  clear e15 z14
  refine wpAnyH_take (i := 15) (oi := rkids7p_o15) (v := undef) rfl (by kernel_rfl) (by kernel_rfl) (by kernel_rfl) (fun _ _ _ h => h) (Or.inr ⟨by simp [Region.wanted, yielded, rkids7p_o15, rkids7p_o8, rkids7p_ops, tget z15 (by decide) t41], rfl⟩) hHeld ?_
  change wpAnyH _ _ _ _ _ _ _ (a15.put (some 48) (undef)) _
  obtain ⟨a16, e16⟩ : ∃ act, act = a15.put (some 48) (undef) := ⟨_, rfl⟩
  rw [← e16] at h ⊢
  have z16 := pz e16 z15
  replace t3 := pk e16 t3
  replace t41 := pk e16 t41
  clear t47
  have t48 := pq e16 z15
  clear e16 z15
  refine wpAnyH_take (i := 16) (oi := rkids7p_o16) (v := undef) rfl (by kernel_rfl) (by kernel_rfl) (by kernel_rfl) (fun _ _ _ h => h) (Or.inr ⟨by simp [Region.wanted, yielded, rkids7p_o16, rkids7p_o8, rkids7p_ops, tget z16 (by decide) t41], rfl⟩) hHeld ?_
  change wpAnyH _ _ _ _ _ _ _ (a16.put (some 49) (undef)) _
  obtain ⟨a17, e17⟩ : ∃ act, act = a16.put (some 49) (undef) := ⟨_, rfl⟩
  rw [← e17] at h ⊢
  have z17 := pz e17 z16
  replace t3 := pk e17 t3
  replace t41 := pk e17 t41
  clear t48
  have t49 := pq e17 z16
  clear e17 z16
  refine wpAnyH_take (i := 17) (oi := rkids7p_o17) (v := undef) rfl (by kernel_rfl) (by kernel_rfl) (by kernel_rfl) (fun _ _ _ h => h) (Or.inr ⟨by simp [Region.wanted, yielded, rkids7p_o17, rkids7p_o8, rkids7p_ops, tget z17 (by decide) t41], rfl⟩) hHeld ?_
  change wpAnyH _ _ _ _ _ _ _ (a17.put (some 50) (undef)) _
  obtain ⟨a18, e18⟩ : ∃ act, act = a17.put (some 50) (undef) := ⟨_, rfl⟩
  rw [← e18] at h ⊢
  have z18 := pz e18 z17
  clear t3
  replace t41 := pk e18 t41
  replace t49 := pk e18 t49
  have t50 := pq e18 z17
  clear e18 z17
  refine wpAnyH_take (i := 18) (oi := rkids7p_o18) (v := undef) rfl (by kernel_rfl) (by kernel_rfl) (by kernel_rfl) (fun _ _ _ h => h) (Or.inr ⟨by simp [Region.wanted, yielded, rkids7p_o18, rkids7p_o8, rkids7p_ops, tget z18 (by decide) t41], rfl⟩) hHeld ?_
  change wpAnyH _ _ _ _ _ _ _ (a18.put (some 51) (undef)) _
  obtain ⟨a19, e19⟩ : ∃ act, act = a18.put (some 51) (undef) := ⟨_, rfl⟩
  rw [← e19] at h ⊢
  have z19 := pz e19 z18
  replace t41 := pk e19 t41
  clear t49
  clear t50
  have t51 := pq e19 z18
  clear e19 z18
  refine tk 19 rkids7p_o19 (.bool true) (by rfl) (fun w1 hw => by unfold rkids7p_o19; go_simp) hHeld (fun a20 e20 => ?_)
  rw [← e20] at h
  have z20 := pz e20 z19
  clear t41
  clear t51
  clear e20 z19
  exact wpAnyH_done (by kernel_rfl) (NoPanic.normal (h _ _ (hHeld) rfl)) _
def rkids7u_o0 : Oper := ⟨some 33, .move (.tmp 0), 27, "ref.go:187", #[], none⟩
def rkids7u_o1 : Oper := ⟨some 34, .nilCheck (.tmp 33), 0, "ref.go:187", #[⟨0, .data⟩], none⟩
def rkids7u_o2 : Oper := ⟨some 35, .fieldAddr 86 (.tmp 34) 0, 0, "ref.go:187", #[⟨1, .data⟩], none⟩
def rkids7u_o3 : Oper := ⟨some 36, .load 83 (.tmp 35), 83, "ref.go:187", #[⟨2, .data⟩], none⟩
def rkids7u_o4 : Oper := ⟨some 37, .move (.tmp 6), 3, "ref.go:187", #[], none⟩
def rkids7u_o5 : Oper := ⟨some 38, .indexAddr 83 (.tmp 36) (.tmp 37), 0, "ref.go:187", #[⟨3, .data⟩, ⟨4, .data⟩], none⟩
def rkids7u_o6 : Oper := ⟨some 39, .fieldAddr 114 (.tmp 38) 3, 0, "ref.go:187", #[⟨5, .data⟩], none⟩
def rkids7u_o7 : Oper := ⟨some 40, .load 4 (.tmp 39), 4, "ref.go:187", #[⟨6, .data⟩], none⟩
def rkids7u_o8 : Oper := ⟨some 41, .move (.tmp 40), 4, "ref.go:187", #[⟨7, .data⟩], none⟩
def rkids7u_o9 : Oper := ⟨some 42, .move (.tmp 0), 27, "ref.go:187", #[⟨8, .guard⟩], some (8, false)⟩
def rkids7u_o10 : Oper := ⟨some 43, .nilCheck (.tmp 42), 0, "ref.go:187", #[⟨9, .data⟩, ⟨8, .guard⟩], some (8, false)⟩
def rkids7u_o11 : Oper := ⟨some 44, .fieldAddr 86 (.tmp 43) 0, 0, "ref.go:187", #[⟨10, .data⟩, ⟨8, .guard⟩], some (8, false)⟩
def rkids7u_o12 : Oper := ⟨some 45, .load 83 (.tmp 44), 83, "ref.go:187", #[⟨11, .data⟩, ⟨8, .guard⟩], some (8, false)⟩
def rkids7u_o13 : Oper := ⟨some 46, .move (.tmp 6), 3, "ref.go:187", #[⟨8, .guard⟩], some (8, false)⟩
def rkids7u_o14 : Oper := ⟨some 47, .indexAddr 83 (.tmp 45) (.tmp 46), 0, "ref.go:187", #[⟨12, .data⟩, ⟨13, .data⟩, ⟨8, .guard⟩], some (8, false)⟩
def rkids7u_o15 : Oper := ⟨some 48, .fieldAddr 114 (.tmp 47) 1, 0, "ref.go:187", #[⟨14, .data⟩, ⟨8, .guard⟩], some (8, false)⟩
def rkids7u_o16 : Oper := ⟨some 49, .load 37 (.tmp 48), 37, "ref.go:187", #[⟨15, .data⟩, ⟨8, .guard⟩], some (8, false)⟩
def rkids7u_o17 : Oper := ⟨some 50, .load 37 (.tmp 3), 37, "ref.go:187", #[⟨8, .guard⟩], some (8, false)⟩
def rkids7u_o18 : Oper := ⟨some 51, .binOp BinOp.neq 37 (.tmp 49) (.tmp 50) 37, 4, "ref.go:187", #[⟨16, .data⟩, ⟨17, .data⟩, ⟨8, .guard⟩], some (8, false)⟩
def rkids7u_o19 : Oper := ⟨some 52, .pick (.tmp 41) (Operand.const (Value.bool true)) (.tmp 51), 4, "ref.go:187", #[⟨8, .data⟩, ⟨18, .data⟩], none⟩
def rkids7u_ops : Array Oper := #[rkids7u_o0, rkids7u_o1, rkids7u_o2, rkids7u_o3, rkids7u_o4, rkids7u_o5, rkids7u_o6, rkids7u_o7, rkids7u_o8, rkids7u_o9, rkids7u_o10, rkids7u_o11, rkids7u_o12, rkids7u_o13, rkids7u_o14, rkids7u_o15, rkids7u_o16, rkids7u_o17, rkids7u_o18, rkids7u_o19]
set_option maxRecDepth 100000 in
set_option maxHeartbeats 4000000 in
theorem rkids7u (d bi nb no n c i : Nat) (S : World → Prop) (uv kv : Value) (q : Bool) (a : Act) (w : World) (Q : Exit → Act → World → Prop) (hsz : a.tmps.size = 114)
    (t0 : a.tmps.getD 0 undef = .pointer (some ⟨d, 0, none⟩))
    (t3 : a.tmps.getD 3 undef = .pointer (some ⟨bi, 0, none⟩))
    (t6 : a.tmps.getD 6 undef = .int .i64 (i : Int))
    (h0 : S w.drew)
    (G1 : ∀ W, S W → (Instr.loadAt 83 (.pointer (some ⟨d, 0 + 0, none⟩))).run Try.prog W = .ok (.slice (some ⟨nb, no, none⟩) n c) W)
    (G2 : ∀ W, (Instr.indexAt 83 (.slice (some ⟨nb, no, none⟩) n c) (.int .i64 (i : Int))).run Try.prog W = .ok (.pointer (some ⟨nb, no + i * 68, none⟩)) W)
    (G3 : ∀ W, S W → (Instr.loadAt 4 (.pointer (some ⟨nb, no + i * 68 + 67, none⟩))).run Try.prog W = .ok (.bool false) W)
    (G4 : ∀ W, S W → (Instr.loadAt 37 (.pointer (some ⟨nb, no + i * 68 + 33, none⟩))).run Try.prog W = .ok (uv) W)
    (G5 : ∀ W, S W → (Instr.loadAt 37 (.pointer (some ⟨bi, 0, none⟩))).run Try.prog W = .ok (kv) W)
    (G6 : ∀ W, (eqGuard BinOp.neq 37 (Operand.tmp 49) (Operand.tmp 50) (uv) (kv)).run Try.prog W = .ok () W)
    (G7 : ∀ W, S W → (binOp BinOp.neq 37 (uv) (kv)).run Try.prog W = .ok (.bool q) W)
    (h : ∀ (a' : Act) (w' : World), S w' → a' = ((((((((((((((((((((a).put (some 33) (.pointer (some ⟨d, 0, none⟩))).put (some 34) (.pointer (some ⟨d, 0, none⟩))).put (some 35) (.pointer (some ⟨d, 0 + 0, none⟩))).put (some 36) (.slice (some ⟨nb, no, none⟩) n c)).put (some 37) (.int .i64 (i : Int))).put (some 38) (.pointer (some ⟨nb, no + i * 68, none⟩))).put (some 39) (.pointer (some ⟨nb, no + i * 68 + 67, none⟩))).put (some 40) (.bool false)).put (some 41) (.bool false)).put (some 42) (.pointer (some ⟨d, 0, none⟩))).put (some 43) (.pointer (some ⟨d, 0, none⟩))).put (some 44) (.pointer (some ⟨d, 0 + 0, none⟩))).put (some 45) (.slice (some ⟨nb, no, none⟩) n c)).put (some 46) (.int .i64 (i : Int))).put (some 47) (.pointer (some ⟨nb, no + i * 68, none⟩))).put (some 48) (.pointer (some ⟨nb, no + i * 68 + 33, none⟩))).put (some 49) (uv)).put (some 50) (kv)).put (some 51) (.bool q)).put (some 52) (.bool q) → Q .normal a' w') :
    (Code.region 7 rkids7u_ops true).wp Try.prog Q a w := by
  refine wp_region_noPanic ?_
  refine wp_region_held_drew (S := fun w' => S w') (by kernel_rfl) (h0) (fun hHeld => ?_)
  refine tk 0 rkids7u_o0 (.pointer (some ⟨d, 0, none⟩)) (by rfl) (fun w1 hw => exec_move rfl t0) hHeld (fun a1 e1 => ?_)
  rw [← e1] at h
  have z1 := pz e1 hsz
  replace t0 := pk e1 t0
  replace t3 := pk e1 t3
  replace t6 := pk e1 t6
  have t33 := pq e1 hsz
  clear e1 hsz
  refine tk 1 rkids7u_o1 (.pointer (some ⟨d, 0, none⟩)) (by rfl) (fun w1 hw => exec_nilCheck rfl t33) hHeld (fun a2 e2 => ?_)
  rw [← e2] at h
  have z2 := pz e2 z1
  replace t0 := pk e2 t0
  replace t3 := pk e2 t3
  replace t6 := pk e2 t6
  clear t33
  have t34 := pq e2 z1
  clear e2 z1
  refine tk 2 rkids7u_o2 (.pointer (some ⟨d, 0 + 0, none⟩)) (by rfl) (fun w1 hw => exec_fieldAt rfl t34 (fg_86_0 _ _ _)) hHeld (fun a3 e3 => ?_)
  rw [← e3] at h
  have z3 := pz e3 z2
  replace t0 := pk e3 t0
  replace t3 := pk e3 t3
  replace t6 := pk e3 t6
  clear t34
  have t35 := pq e3 z2
  clear e3 z2
  refine tk 3 rkids7u_o3 (.slice (some ⟨nb, no, none⟩) n c) (by rfl) (fun w1 hw => exec_load rfl t35 (G1 _ hw)) hHeld (fun a4 e4 => ?_)
  rw [← e4] at h
  have z4 := pz e4 z3
  replace t0 := pk e4 t0
  replace t3 := pk e4 t3
  replace t6 := pk e4 t6
  clear t35
  have t36 := pq e4 z3
  clear e4 z3
  refine tk 4 rkids7u_o4 (.int .i64 (i : Int)) (by rfl) (fun w1 hw => exec_move rfl t6) hHeld (fun a5 e5 => ?_)
  rw [← e5] at h
  have z5 := pz e5 z4
  replace t0 := pk e5 t0
  replace t3 := pk e5 t3
  replace t6 := pk e5 t6
  replace t36 := pk e5 t36
  have t37 := pq e5 z4
  clear e5 z4
  refine tk 5 rkids7u_o5 (.pointer (some ⟨nb, no + i * 68, none⟩)) (by rfl) (fun w1 hw => exec_indexAt rfl t36 t37 (G2 _)) hHeld (fun a6 e6 => ?_)
  rw [← e6] at h
  have z6 := pz e6 z5
  replace t0 := pk e6 t0
  replace t3 := pk e6 t3
  replace t6 := pk e6 t6
  clear t36
  clear t37
  have t38 := pq e6 z5
  clear e6 z5
  refine tk 6 rkids7u_o6 (.pointer (some ⟨nb, no + i * 68 + 67, none⟩)) (by rfl) (fun w1 hw => exec_fieldAt rfl t38 (fg_114_3 _ _ _)) hHeld (fun a7 e7 => ?_)
  rw [← e7] at h
  have z7 := pz e7 z6
  replace t0 := pk e7 t0
  replace t3 := pk e7 t3
  replace t6 := pk e7 t6
  clear t38
  have t39 := pq e7 z6
  clear e7 z6
  refine tk 7 rkids7u_o7 (.bool false) (by rfl) (fun w1 hw => exec_load rfl t39 (G3 _ hw)) hHeld (fun a8 e8 => ?_)
  rw [← e8] at h
  have z8 := pz e8 z7
  replace t0 := pk e8 t0
  replace t3 := pk e8 t3
  replace t6 := pk e8 t6
  clear t39
  have t40 := pq e8 z7
  clear e8 z7
  refine tk 8 rkids7u_o8 (.bool false) (by rfl) (fun w1 hw => exec_move rfl t40) hHeld (fun a9 e9 => ?_)
  rw [← e9] at h
  have z9 := pz e9 z8
  replace t0 := pk e9 t0
  replace t3 := pk e9 t3
  replace t6 := pk e9 t6
  clear t40
  have t41 := pq e9 z8
  clear e9 z8
  refine tk 9 rkids7u_o9 (.pointer (some ⟨d, 0, none⟩)) (by simp [Region.wanted, yielded, rkids7u_o9, rkids7u_o8, rkids7u_ops, tget z9 (by decide) t41]) (fun w1 hw => exec_move rfl t0) hHeld (fun a10 e10 => ?_)
  rw [← e10] at h
  have z10 := pz e10 z9
  clear t0
  replace t3 := pk e10 t3
  replace t6 := pk e10 t6
  replace t41 := pk e10 t41
  have t42 := pq e10 z9
  clear e10 z9
  refine tk 10 rkids7u_o10 (.pointer (some ⟨d, 0, none⟩)) (by simp [Region.wanted, yielded, rkids7u_o10, rkids7u_o8, rkids7u_ops, tget z10 (by decide) t41]) (fun w1 hw => exec_nilCheck rfl t42) hHeld (fun a11 e11 => ?_)
  rw [← e11] at h
  have z11 := pz e11 z10
  replace t3 := pk e11 t3
  replace t6 := pk e11 t6
  replace t41 := pk e11 t41
  clear t42
  have t43 := pq e11 z10
  clear e11 z10
  refine tk 11 rkids7u_o11 (.pointer (some ⟨d, 0 + 0, none⟩)) (by simp [Region.wanted, yielded, rkids7u_o11, rkids7u_o8, rkids7u_ops, tget z11 (by decide) t41]) (fun w1 hw => exec_fieldAt rfl t43 (fg_86_0 _ _ _)) hHeld (fun a12 e12 => ?_)
  rw [← e12] at h
  have z12 := pz e12 z11
  replace t3 := pk e12 t3
  replace t6 := pk e12 t6
  replace t41 := pk e12 t41
  clear t43
  have t44 := pq e12 z11
  clear e12 z11
  refine tk 12 rkids7u_o12 (.slice (some ⟨nb, no, none⟩) n c) (by simp [Region.wanted, yielded, rkids7u_o12, rkids7u_o8, rkids7u_ops, tget z12 (by decide) t41]) (fun w1 hw => exec_load rfl t44 (G1 _ hw)) hHeld (fun a13 e13 => ?_)
  rw [← e13] at h
  have z13 := pz e13 z12
  replace t3 := pk e13 t3
  replace t6 := pk e13 t6
  replace t41 := pk e13 t41
  clear t44
  have t45 := pq e13 z12
  clear e13 z12
  refine tk 13 rkids7u_o13 (.int .i64 (i : Int)) (by simp [Region.wanted, yielded, rkids7u_o13, rkids7u_o8, rkids7u_ops, tget z13 (by decide) t41]) (fun w1 hw => exec_move rfl t6) hHeld (fun a14 e14 => ?_)
  rw [← e14] at h
  have z14 := pz e14 z13
  replace t3 := pk e14 t3
  clear t6
  replace t41 := pk e14 t41
  replace t45 := pk e14 t45
  have t46 := pq e14 z13
  clear e14 z13
  refine tk 14 rkids7u_o14 (.pointer (some ⟨nb, no + i * 68, none⟩)) (by simp [Region.wanted, yielded, rkids7u_o14, rkids7u_o8, rkids7u_ops, tget z14 (by decide) t41]) (fun w1 hw => exec_indexAt rfl t45 t46 (G2 _)) hHeld (fun a15 e15 => ?_)
  rw [← e15] at h
  have z15 := pz e15 z14
  replace t3 := pk e15 t3
  replace t41 := pk e15 t41
  clear t45
  clear t46
  have t47 := pq e15 z14
  clear e15 z14
  refine tk 15 rkids7u_o15 (.pointer (some ⟨nb, no + i * 68 + 33, none⟩)) (by simp [Region.wanted, yielded, rkids7u_o15, rkids7u_o8, rkids7u_ops, tget z15 (by decide) t41]) (fun w1 hw => exec_fieldAt rfl t47 (fg_114_1 _ _ _)) hHeld (fun a16 e16 => ?_)
  rw [← e16] at h
  have z16 := pz e16 z15
  replace t3 := pk e16 t3
  replace t41 := pk e16 t41
  clear t47
  have t48 := pq e16 z15
  clear e16 z15
  refine tk 16 rkids7u_o16 (uv) (by simp [Region.wanted, yielded, rkids7u_o16, rkids7u_o8, rkids7u_ops, tget z16 (by decide) t41]) (fun w1 hw => exec_load rfl t48 (G4 _ hw)) hHeld (fun a17 e17 => ?_)
  rw [← e17] at h
  have z17 := pz e17 z16
  replace t3 := pk e17 t3
  replace t41 := pk e17 t41
  clear t48
  have t49 := pq e17 z16
  clear e17 z16
  refine tk 17 rkids7u_o17 (kv) (by simp [Region.wanted, yielded, rkids7u_o17, rkids7u_o8, rkids7u_ops, tget z17 (by decide) t41]) (fun w1 hw => exec_load rfl t3 (G5 _ hw)) hHeld (fun a18 e18 => ?_)
  rw [← e18] at h
  have z18 := pz e18 z17
  clear t3
  replace t41 := pk e18 t41
  replace t49 := pk e18 t49
  have t50 := pq e18 z17
  clear e18 z17
  refine tk 18 rkids7u_o18 (.bool q) (by simp [Region.wanted, yielded, rkids7u_o18, rkids7u_o8, rkids7u_ops, tget z18 (by decide) t41]) (fun w1 hw => exec_binOp rfl t49 t50 (G6 _) (G7 _ hw)) hHeld (fun a19 e19 => ?_)
  rw [← e19] at h
  have z19 := pz e19 z18
  replace t41 := pk e19 t41
  clear t49
  clear t50
  have t51 := pq e19 z18
  clear e19 z18
  refine tk 19 rkids7u_o19 (.bool q) (by rfl) (fun w1 hw => by unfold rkids7u_o19; go_simp) hHeld (fun a20 e20 => ?_)
  rw [← e20] at h
  have z20 := pz e20 z19
  clear t41
  clear t51
  clear e20 z19
  exact wpAnyH_done (by kernel_rfl) (NoPanic.normal (h _ _ (hHeld) rfl)) _
def rkids10_o0 : Oper := ⟨some 66, .move (.tmp 7), 3, "ref.go:191", #[], none⟩
def rkids10_o1 : Oper := ⟨some 67, .binOp BinOp.gtr 3 (.tmp 66) (Operand.const (Value.int IntKind.i64 0)) 3, 4, "ref.go:191", #[⟨0, .data⟩], none⟩
def rkids10_o2 : Oper := ⟨some 68, .move (.tmp 67), 4, "ref.go:191", #[⟨1, .data⟩], none⟩
def rkids10_o3 : Oper := ⟨some 69, .move (.tmp 5), 83, "ref.go:191", #[⟨2, .guard⟩], some (2, true)⟩
def rkids10_o4 : Oper := ⟨some 70, .move (.tmp 7), 3, "ref.go:191", #[⟨2, .guard⟩], some (2, true)⟩
def rkids10_o5 : Oper := ⟨some 71, .indexAddr 83 (.tmp 69) (.tmp 70), 0, "ref.go:191", #[⟨3, .data⟩, ⟨4, .data⟩, ⟨2, .guard⟩], some (2, true)⟩
def rkids10_o6 : Oper := ⟨some 72, .load 114 (.tmp 71), 114, "ref.go:191", #[⟨5, .data⟩, ⟨2, .guard⟩], some (2, true)⟩
def rkids10_o7 : Oper := ⟨some 73, .move (.tmp 5), 83, "ref.go:191", #[⟨2, .guard⟩], some (2, true)⟩
def rkids10_o8 : Oper := ⟨some 74, .move (.tmp 7), 3, "ref.go:191", #[⟨2, .guard⟩], some (2, true)⟩
def rkids10_o9 : Oper := ⟨some 75, .binOp BinOp.sub 3 (.tmp 74) (Operand.const (Value.int IntKind.i64 1)) 3, 3, "ref.go:191", #[⟨8, .data⟩, ⟨2, .guard⟩], some (2, true)⟩
def rkids10_o10 : Oper := ⟨some 76, .indexAddr 83 (.tmp 73) (.tmp 75), 0, "ref.go:191", #[⟨7, .data⟩, ⟨9, .data⟩, ⟨2, .guard⟩], some (2, true)⟩
def rkids10_o11 : Oper := ⟨some 77, .load 114 (.tmp 76), 114, "ref.go:191", #[⟨10, .data⟩, ⟨2, .guard⟩], some (2, true)⟩
def rkids10_o12 : Oper := ⟨some 78, .call { callee := Callee.value (Operand.func 78), args := #[.tmp 72, .tmp 77], argTypes := #[114, 114] }, 4, "ref.go:191", #[⟨6, .data⟩, ⟨11, .data⟩, ⟨2, .chain⟩, ⟨2, .guard⟩], some (2, true)⟩
def rkids10_o13 : Oper := ⟨some 79, .pick (.tmp 68) (.tmp 78) (Operand.const (Value.bool false)), 4, "ref.go:191", #[⟨2, .data⟩, ⟨12, .data⟩], none⟩
def rkids10_ops : Array Oper := #[rkids10_o0, rkids10_o1, rkids10_o2, rkids10_o3, rkids10_o4, rkids10_o5, rkids10_o6, rkids10_o7, rkids10_o8, rkids10_o9, rkids10_o10, rkids10_o11, rkids10_o12, rkids10_o13]
set_option maxRecDepth 100000 in
set_option maxHeartbeats 4000000 in
theorem rkids10 (lb ln lc k m : Nat) (xv yv : Value) (q : Bool) (S : World → Prop) (a : Act) (w : World) (Q : Exit → Act → World → Prop) (hsz : a.tmps.size = 114)
    (t5 : a.tmps.getD 5 undef = .slice (some ⟨lb, 0, none⟩) ln lc)
    (t7 : a.tmps.getD 7 undef = .int .i64 (k : Int))
    (h0 : S w.drew) (HSK : ∀ W W', S W → Below W.heap.size W W' → S W') (CA : ∀ W, S W → Calls Try.prog 78 #[xv, yv] W fun e w' => e = .returned (.bool q) ∧ Below W.heap.size W w')
    (G1 : ∀ W, (eqGuard BinOp.gtr 3 (Operand.tmp 66) (Operand.const (Value.int IntKind.i64 0)) (.int .i64 (k : Int)) (.int .i64 0)).run Try.prog W = .ok () W)
    (G2 : ∀ W, S W → (binOp BinOp.gtr 3 (.int .i64 (k : Int)) (.int .i64 0)).run Try.prog W = .ok (.bool true) W)
    (G3 : ∀ W, (Instr.indexAt 83 (.slice (some ⟨lb, 0, none⟩) ln lc) (.int .i64 (k : Int))).run Try.prog W = .ok (.pointer (some ⟨lb, k * 68, none⟩)) W)
    (G4 : ∀ W, S W → (Instr.loadAt 114 (.pointer (some ⟨lb, k * 68, none⟩))).run Try.prog W = .ok (xv) W)
    (G5 : ∀ W, (eqGuard BinOp.sub 3 (Operand.tmp 74) (Operand.const (Value.int IntKind.i64 1)) (.int .i64 (k : Int)) (.int .i64 1)).run Try.prog W = .ok () W)
    (G6 : ∀ W, S W → (binOp BinOp.sub 3 (.int .i64 (k : Int)) (.int .i64 1)).run Try.prog W = .ok (.int .i64 (m : Int)) W)
    (G7 : ∀ W, (Instr.indexAt 83 (.slice (some ⟨lb, 0, none⟩) ln lc) (.int .i64 (m : Int))).run Try.prog W = .ok (.pointer (some ⟨lb, m * 68, none⟩)) W)
    (G8 : ∀ W, S W → (Instr.loadAt 114 (.pointer (some ⟨lb, m * 68, none⟩))).run Try.prog W = .ok (yv) W)
    (h : ∀ (a' : Act) (w' : World), S w' → a' = ((((((((((((((a).put (some 66) (.int .i64 (k : Int))).put (some 67) (.bool true)).put (some 68) (.bool true)).put (some 69) (.slice (some ⟨lb, 0, none⟩) ln lc)).put (some 70) (.int .i64 (k : Int))).put (some 71) (.pointer (some ⟨lb, k * 68, none⟩))).put (some 72) (xv)).put (some 73) (.slice (some ⟨lb, 0, none⟩) ln lc)).put (some 74) (.int .i64 (k : Int))).put (some 75) (.int .i64 (m : Int))).put (some 76) (.pointer (some ⟨lb, m * 68, none⟩))).put (some 77) (yv)).put (some 78) (.bool q)).put (some 79) (.bool q) → Q .normal a' w') :
    (Code.region 10 rkids10_ops true).wp Try.prog Q a w := by
  refine wp_region_noPanic ?_
  refine wp_region_held_drew (S := fun w' => S w') (by kernel_rfl) (h0) (fun hHeld => ?_)
  refine tk 0 rkids10_o0 (.int .i64 (k : Int)) (by rfl) (fun w1 hw => exec_move rfl t7) hHeld (fun a1 e1 => ?_)
  rw [← e1] at h
  have z1 := pz e1 hsz
  replace t5 := pk e1 t5
  replace t7 := pk e1 t7
  have t66 := pq e1 hsz
  clear e1 hsz
  refine tk 1 rkids10_o1 (.bool true) (by rfl) (fun w1 hw => exec_binOp rfl t66 rfl (G1 _) (G2 _ hw)) hHeld (fun a2 e2 => ?_)
  rw [← e2] at h
  have z2 := pz e2 z1
  replace t5 := pk e2 t5
  replace t7 := pk e2 t7
  clear t66
  have t67 := pq e2 z1
  clear e2 z1
  refine tk 2 rkids10_o2 (.bool true) (by rfl) (fun w1 hw => exec_move rfl t67) hHeld (fun a3 e3 => ?_)
  rw [← e3] at h
  have z3 := pz e3 z2
  replace t5 := pk e3 t5
  replace t7 := pk e3 t7
  clear t67
  have t68 := pq e3 z2
  clear e3 z2
  refine tk 3 rkids10_o3 (.slice (some ⟨lb, 0, none⟩) ln lc) (by simp [Region.wanted, yielded, rkids10_o3, rkids10_o2, rkids10_ops, tget z3 (by decide) t68]) (fun w1 hw => exec_move rfl t5) hHeld (fun a4 e4 => ?_)
  rw [← e4] at h
  have z4 := pz e4 z3
  replace t5 := pk e4 t5
  replace t7 := pk e4 t7
  replace t68 := pk e4 t68
  have t69 := pq e4 z3
  clear e4 z3
  refine tk 4 rkids10_o4 (.int .i64 (k : Int)) (by simp [Region.wanted, yielded, rkids10_o4, rkids10_o2, rkids10_ops, tget z4 (by decide) t68]) (fun w1 hw => exec_move rfl t7) hHeld (fun a5 e5 => ?_)
  rw [← e5] at h
  have z5 := pz e5 z4
  replace t5 := pk e5 t5
  replace t7 := pk e5 t7
  replace t68 := pk e5 t68
  replace t69 := pk e5 t69
  have t70 := pq e5 z4
  clear e5 z4
  refine tk 5 rkids10_o5 (.pointer (some ⟨lb, k * 68, none⟩)) (by simp [Region.wanted, yielded, rkids10_o5, rkids10_o2, rkids10_ops, tget z5 (by decide) t68]) (fun w1 hw => exec_indexAt rfl t69 t70 (G3 _)) hHeld (fun a6 e6 => ?_)
  rw [← e6] at h
  have z6 := pz e6 z5
  replace t5 := pk e6 t5
  replace t7 := pk e6 t7
  replace t68 := pk e6 t68
  clear t69
  clear t70
  have t71 := pq e6 z5
  clear e6 z5
  refine tk 6 rkids10_o6 (xv) (by simp [Region.wanted, yielded, rkids10_o6, rkids10_o2, rkids10_ops, tget z6 (by decide) t68]) (fun w1 hw => exec_load rfl t71 (G4 _ hw)) hHeld (fun a7 e7 => ?_)
  rw [← e7] at h
  have z7 := pz e7 z6
  replace t5 := pk e7 t5
  replace t7 := pk e7 t7
  replace t68 := pk e7 t68
  clear t71
  have t72 := pq e7 z6
  clear e7 z6
  refine tk 7 rkids10_o7 (.slice (some ⟨lb, 0, none⟩) ln lc) (by simp [Region.wanted, yielded, rkids10_o7, rkids10_o2, rkids10_ops, tget z7 (by decide) t68]) (fun w1 hw => exec_move rfl t5) hHeld (fun a8 e8 => ?_)
  rw [← e8] at h
  have z8 := pz e8 z7
  clear t5
  replace t7 := pk e8 t7
  replace t68 := pk e8 t68
  replace t72 := pk e8 t72
  have t73 := pq e8 z7
  clear e8 z7
  refine tk 8 rkids10_o8 (.int .i64 (k : Int)) (by simp [Region.wanted, yielded, rkids10_o8, rkids10_o2, rkids10_ops, tget z8 (by decide) t68]) (fun w1 hw => exec_move rfl t7) hHeld (fun a9 e9 => ?_)
  rw [← e9] at h
  have z9 := pz e9 z8
  clear t7
  replace t68 := pk e9 t68
  replace t72 := pk e9 t72
  replace t73 := pk e9 t73
  have t74 := pq e9 z8
  clear e9 z8
  refine tk 9 rkids10_o9 (.int .i64 (m : Int)) (by simp [Region.wanted, yielded, rkids10_o9, rkids10_o2, rkids10_ops, tget z9 (by decide) t68]) (fun w1 hw => exec_binOp rfl t74 rfl (G5 _) (G6 _ hw)) hHeld (fun a10 e10 => ?_)
  rw [← e10] at h
  have z10 := pz e10 z9
  replace t68 := pk e10 t68
  replace t72 := pk e10 t72
  replace t73 := pk e10 t73
  clear t74
  have t75 := pq e10 z9
  clear e10 z9
  refine tk 10 rkids10_o10 (.pointer (some ⟨lb, m * 68, none⟩)) (by simp [Region.wanted, yielded, rkids10_o10, rkids10_o2, rkids10_ops, tget z10 (by decide) t68]) (fun w1 hw => exec_indexAt rfl t73 t75 (G7 _)) hHeld (fun a11 e11 => ?_)
  rw [← e11] at h
  have z11 := pz e11 z10
  replace t68 := pk e11 t68
  replace t72 := pk e11 t72
  clear t73
  clear t75
  have t76 := pq e11 z10
  clear e11 z10
  refine tk 11 rkids10_o11 (yv) (by simp [Region.wanted, yielded, rkids10_o11, rkids10_o2, rkids10_ops, tget z11 (by decide) t68]) (fun w1 hw => exec_load rfl t76 (G8 _ hw)) hHeld (fun a12 e12 => ?_)
  rw [← e12] at h
  have z12 := pz e12 z11
  replace t68 := pk e12 t68
  replace t72 := pk e12 t72
  clear t76
  have t77 := pq e12 z11
  clear e12 z11
  refine wpAnyH_ready (rs := [12]) (by kernel_rfl) (by simp) ?_
  refine AllReadyH.cons (o := rkids10_o12) rfl (fun K hK => ?_) AllReadyH.nil
  rw [if_pos (by simp [Region.wanted, yielded, rkids10_o12, rkids10_o2, rkids10_ops, tget z12 (by decide) t68])]
  unfold rkids10_o12 at hK ⊢
  go_simp
  refine (CA _ hHeld).mono ?_
  rintro e x13 ⟨rfl, l1⟩
  try go_wp2_with fail
  skip
  refine hK.out _ _ (HSK _ _ hHeld l1) (fun hHeld => ?_)
  clear hK K
  change wpAnyH _ _ _ _ _ _ _ (a12.put (some 78) (.bool q)) _
  obtain ⟨a13, e13⟩ : ∃ act, act = a12.put (some 78) (.bool q) := ⟨_, rfl⟩
  rw [← e13] at h ⊢
  have z13 := pz e13 z12
  replace t68 := pk e13 t68
  clear t72
  clear t77
  have t78 := pq e13 z12
  clear e13 z12
  refine tk 13 rkids10_o13 (.bool q) (by rfl) (fun w1 hw => by unfold rkids10_o13; go_simp) hHeld (fun a14 e14 => ?_)
  rw [← e14] at h
  have z14 := pz e14 z13
  clear t68
  clear t78
  clear e14 z13
  exact wpAnyH_done (by kernel_rfl) (NoPanic.normal (h _ _ (hHeld) rfl)) _
def rkids10z_o0 : Oper := ⟨some 66, .move (.tmp 7), 3, "ref.go:191", #[], none⟩
def rkids10z_o1 : Oper := ⟨some 67, .binOp BinOp.gtr 3 (.tmp 66) (Operand.const (Value.int IntKind.i64 0)) 3, 4, "ref.go:191", #[⟨0, .data⟩], none⟩
def rkids10z_o2 : Oper := ⟨some 68, .move (.tmp 67), 4, "ref.go:191", #[⟨1, .data⟩], none⟩
def rkids10z_o3 : Oper := ⟨some 69, .move (.tmp 5), 83, "ref.go:191", #[⟨2, .guard⟩], some (2, true)⟩
def rkids10z_o4 : Oper := ⟨some 70, .move (.tmp 7), 3, "ref.go:191", #[⟨2, .guard⟩], some (2, true)⟩
def rkids10z_o5 : Oper := ⟨some 71, .indexAddr 83 (.tmp 69) (.tmp 70), 0, "ref.go:191", #[⟨3, .data⟩, ⟨4, .data⟩, ⟨2, .guard⟩], some (2, true)⟩
def rkids10z_o6 : Oper := ⟨some 72, .load 114 (.tmp 71), 114, "ref.go:191", #[⟨5, .data⟩, ⟨2, .guard⟩], some (2, true)⟩
def rkids10z_o7 : Oper := ⟨some 73, .move (.tmp 5), 83, "ref.go:191", #[⟨2, .guard⟩], some (2, true)⟩
def rkids10z_o8 : Oper := ⟨some 74, .move (.tmp 7), 3, "ref.go:191", #[⟨2, .guard⟩], some (2, true)⟩
def rkids10z_o9 : Oper := ⟨some 75, .binOp BinOp.sub 3 (.tmp 74) (Operand.const (Value.int IntKind.i64 1)) 3, 3, "ref.go:191", #[⟨8, .data⟩, ⟨2, .guard⟩], some (2, true)⟩
def rkids10z_o10 : Oper := ⟨some 76, .indexAddr 83 (.tmp 73) (.tmp 75), 0, "ref.go:191", #[⟨7, .data⟩, ⟨9, .data⟩, ⟨2, .guard⟩], some (2, true)⟩
def rkids10z_o11 : Oper := ⟨some 77, .load 114 (.tmp 76), 114, "ref.go:191", #[⟨10, .data⟩, ⟨2, .guard⟩], some (2, true)⟩
def rkids10z_o12 : Oper := ⟨some 78, .call { callee := Callee.value (Operand.func 78), args := #[.tmp 72, .tmp 77], argTypes := #[114, 114] }, 4, "ref.go:191", #[⟨6, .data⟩, ⟨11, .data⟩, ⟨2, .chain⟩, ⟨2, .guard⟩], some (2, true)⟩
def rkids10z_o13 : Oper := ⟨some 79, .pick (.tmp 68) (.tmp 78) (Operand.const (Value.bool false)), 4, "ref.go:191", #[⟨2, .data⟩, ⟨12, .data⟩], none⟩
def rkids10z_ops : Array Oper := #[rkids10z_o0, rkids10z_o1, rkids10z_o2, rkids10z_o3, rkids10z_o4, rkids10z_o5, rkids10z_o6, rkids10z_o7, rkids10z_o8, rkids10z_o9, rkids10z_o10, rkids10z_o11, rkids10z_o12, rkids10z_o13]
set_option maxRecDepth 100000 in
set_option maxHeartbeats 4000000 in
theorem rkids10z (lv : Value) (S : World → Prop) (a : Act) (w : World) (Q : Exit → Act → World → Prop) (hsz : a.tmps.size = 114)
    (t5 : a.tmps.getD 5 undef = lv)
    (t7 : a.tmps.getD 7 undef = .int .i64 0)
    (h0 : S w.drew)
    (G1 : ∀ W, (eqGuard BinOp.gtr 3 (Operand.tmp 66) (Operand.const (Value.int IntKind.i64 0)) (.int .i64 0) (.int .i64 0)).run Try.prog W = .ok () W)
    (G2 : ∀ W, S W → (binOp BinOp.gtr 3 (.int .i64 0) (.int .i64 0)).run Try.prog W = .ok (.bool false) W)
    (h : ∀ (a' : Act) (w' : World), S w' → a' = ((((((((((((((a).put (some 66) (.int .i64 0)).put (some 67) (.bool false)).put (some 68) (.bool false)).put (some 69) (undef)).put (some 70) (undef)).put (some 71) (undef)).put (some 72) (undef)).put (some 73) (undef)).put (some 74) (undef)).put (some 75) (undef)).put (some 76) (undef)).put (some 77) (undef)).put (some 78) (undef)).put (some 79) (.bool false) → Q .normal a' w') :
    (Code.region 10 rkids10z_ops true).wp Try.prog Q a w := by
  refine wp_region_noPanic ?_
  refine wp_region_held_drew (S := fun w' => S w') (by kernel_rfl) (h0) (fun hHeld => ?_)
  refine tk 0 rkids10z_o0 (.int .i64 0) (by rfl) (fun w1 hw => exec_move rfl t7) hHeld (fun a1 e1 => ?_)
  rw [← e1] at h
  have z1 := pz e1 hsz
  replace t5 := pk e1 t5
  replace t7 := pk e1 t7
  have t66 := pq e1 hsz
  clear e1 hsz
  refine tk 1 rkids10z_o1 (.bool false) (by rfl) (fun w1 hw => exec_binOp rfl t66 rfl (G1 _) (G2 _ hw)) hHeld (fun a2 e2 => ?_)
  rw [← e2] at h
  have z2 := pz e2 z1
  replace t5 := pk e2 t5
  replace t7 := pk e2 t7
  clear t66
  have t67 := pq e2 z1
  clear e2 z1
  refine tk 2 rkids10z_o2 (.bool false) (by rfl) (fun w1 hw => exec_move rfl t67) hHeld (fun a3 e3 => ?_)
  rw [← e3] at h
  have z3 := pz e3 z2
  replace t5 := pk e3 t5
  replace t7 := pk e3 t7
  clear t67
  have t68 := pq e3 z2
  clear e3 z2
  refine wpAnyH_take (i := 3) (oi := rkids10z_o3) (v := undef) rfl (by kernel_rfl) (by kernel_rfl) (by kernel_rfl) (fun _ _ _ h => h) (Or.inr ⟨by simp [Region.wanted, yielded, rkids10z_o3, rkids10z_o2, rkids10z_ops, tget z3 (by decide) t68], rfl⟩) hHeld ?_
  change wpAnyH _ _ _ _ _ _ _ (a3.put (some 69) (undef)) _
  obtain ⟨a4, e4⟩ : ∃ act, act = a3.put (some 69) (undef) := ⟨_, rfl⟩
  rw [← e4] at h ⊢
  have z4 := pz e4 z3
  replace t5 := pk e4 t5
  replace t7 := pk e4 t7
  replace t68 := pk e4 t68
  have t69 := pq e4 z3
  clear e4 z3
  refine wpAnyH_take (i := 4) (oi := rkids10z_o4) (v := undef) rfl (by kernel_rfl) (by kernel_rfl) (by kernel_rfl) (fun _ _ _ h => h) (Or.inr ⟨by simp [Region.wanted, yielded, rkids10z_o4, rkids10z_o2, rkids10z_ops, tget z4 (by decide) t68], rfl⟩) hHeld ?_
  change wpAnyH _ _ _ _ _ _ _ (a4.put (some 70) (undef)) _
  obtain ⟨a5, e5⟩ : ∃ act, act = a4.put (some 70) (undef) := ⟨_, rfl⟩
  rw [← e5] at h ⊢
  have z5 := pz e5 z4
  replace t5 := pk e5 t5
  replace t7 := pk e5 t7
  replace t68 := pk e5 t68
  replace t69 := pk e5 t69
  have t70 := pq e5 z4
  clear e5 z4
  refine wpAnyH_take (i := 5) (oi := rkids10z_o5) (v := undef) rfl (by kernel_rfl) (by kernel_rfl) (by kernel_rfl) (fun _ _ _ h => h) (Or.inr ⟨by simp [Region.wanted, yielded, rkids10z_o5, rkids10z_o2, rkids10z_ops, tget z5 (by decide) t68], rfl⟩) hHeld ?_
  change wpAnyH _ _ _ _ _ _ _ (a5.put (some 71) (undef)) _
  obtain ⟨a6, e6⟩ : ∃ act, act = a5.put (some 71) (undef) := ⟨_, rfl⟩
  rw [← e6] at h ⊢
  have z6 := pz e6 z5
  replace t5 := pk e6 t5
  replace t7 := pk e6 t7
  replace t68 := pk e6 t68
  clear t69
  clear t70
  have t71 := pq e6 z5
  clear e6 z5
  refine wpAnyH_take (i := 6) (oi := rkids10z_o6) (v := undef) rfl (by kernel_rfl) (by kernel_rfl) (by kernel_rfl) (fun _ _ _ h => h) (Or.inr ⟨by simp [Region.wanted, yielded, rkids10z_o6, rkids10z_o2, rkids10z_ops, tget z6 (by decide) t68], rfl⟩) hHeld ?_
  change wpAnyH _ _ _ _ _ _ _ (a6.put (some 72) (undef)) _
  obtain ⟨a7, e7⟩ : ∃ act, act = a6.put (some 72) (undef) := ⟨_, rfl⟩
  rw [← e7] at h ⊢
  have z7 := pz e7 z6
  replace t5 := pk e7 t5
  replace t7 := pk e7 t7
  replace t68 := pk e7 t68
  clear t71
  have t72 := pq e7 z6
  clear e7 z6
  refine wpAnyH_take (i := 7) (oi := rkids10z_o7) (v := undef) rfl (by kernel_rfl) (by kernel_rfl) (by kernel_rfl) (fun _ _ _ h => h) (Or.inr ⟨by simp [Region.wanted, yielded, rkids10z_o7, rkids10z_o2, rkids10z_ops, tget z7 (by decide) t68], rfl⟩) hHeld ?_
  change wpAnyH _ _ _ _ _ _ _ (a7.put (some 73) (undef)) _
  obtain ⟨a8, e8⟩ : ∃ act, act = a7.put (some 73) (undef) := ⟨_, rfl⟩
  rw [← e8] at h ⊢
  have z8 := pz e8 z7
  clear t5
  replace t7 := pk e8 t7
  replace t68 := pk e8 t68
  replace t72 := pk e8 t72
  have t73 := pq e8 z7
  clear e8 z7
  refine wpAnyH_take (i := 8) (oi := rkids10z_o8) (v := undef) rfl (by kernel_rfl) (by kernel_rfl) (by kernel_rfl) (fun _ _ _ h => h) (Or.inr ⟨by simp [Region.wanted, yielded, rkids10z_o8, rkids10z_o2, rkids10z_ops, tget z8 (by decide) t68], rfl⟩) hHeld ?_
  change wpAnyH _ _ _ _ _ _ _ (a8.put (some 74) (undef)) _
  obtain ⟨a9, e9⟩ : ∃ act, act = a8.put (some 74) (undef) := ⟨_, rfl⟩
  rw [← e9] at h ⊢
  have z9 := pz e9 z8
  clear t7
  replace t68 := pk e9 t68
  replace t72 := pk e9 t72
  replace t73 := pk e9 t73
  have t74 := pq e9 z8
  clear e9 z8
  refine wpAnyH_take (i := 9) (oi := rkids10z_o9) (v := undef) rfl (by kernel_rfl) (by kernel_rfl) (by kernel_rfl) (fun _ _ _ h => h) (Or.inr ⟨by simp [Region.wanted, yielded, rkids10z_o9, rkids10z_o2, rkids10z_ops, tget z9 (by decide) t68], rfl⟩) hHeld ?_
  change wpAnyH _ _ _ _ _ _ _ (a9.put (some 75) (undef)) _
  obtain ⟨a10, e10⟩ : ∃ act, act = a9.put (some 75) (undef) := ⟨_, rfl⟩
  rw [← e10] at h ⊢
  have z10 := pz e10 z9
  replace t68 := pk e10 t68
  replace t72 := pk e10 t72
  replace t73 := pk e10 t73
  clear t74
  have t75 := pq e10 z9
  clear e10 z9
  refine wpAnyH_take (i := 10) (oi := rkids10z_o10) (v := undef) rfl (by kernel_rfl) (by kernel_rfl) (by kernel_rfl) (fun _ _ _ h => h) (Or.inr ⟨by simp [Region.wanted, yielded, rkids10z_o10, rkids10z_o2, rkids10z_ops, tget z10 (by decide) t68], rfl⟩) hHeld ?_
  change wpAnyH _ _ _ _ _ _ _ (a10.put (some 76) (undef)) _
  obtain ⟨a11, e11⟩ : ∃ act, act = a10.put (some 76) (undef) := ⟨_, rfl⟩
  rw [← e11] at h ⊢
  have z11 := pz e11 z10
  replace t68 := pk e11 t68
  replace t72 := pk e11 t72
  clear t73
  clear t75
  have t76 := pq e11 z10
  clear e11 z10
  refine wpAnyH_take (i := 11) (oi := rkids10z_o11) (v := undef) rfl (by kernel_rfl) (by kernel_rfl) (by kernel_rfl) (fun _ _ _ h => h) (Or.inr ⟨by simp [Region.wanted, yielded, rkids10z_o11, rkids10z_o2, rkids10z_ops, tget z11 (by decide) t68], rfl⟩) hHeld ?_
  change wpAnyH _ _ _ _ _ _ _ (a11.put (some 77) (undef)) _
  obtain ⟨a12, e12⟩ : ∃ act, act = a11.put (some 77) (undef) := ⟨_, rfl⟩
  rw [← e12] at h ⊢
  have z12 := pz e12 z11
  replace t68 := pk e12 t68
  replace t72 := pk e12 t72
  clear t76
  have t77 := pq e12 z11
  clear e12 z11
  refine wpAnyH_take (i := 12) (oi := rkids10z_o12) (v := undef) rfl (by kernel_rfl) (by kernel_rfl) (by kernel_rfl) (fun _ _ _ h => h) (Or.inr ⟨by simp [Region.wanted, yielded, rkids10z_o12, rkids10z_o2, rkids10z_ops, tget z12 (by decide) t68], rfl⟩) hHeld ?_
  change wpAnyH _ _ _ _ _ _ _ (a12.put (some 78) (undef)) _
  obtain ⟨a13, e13⟩ : ∃ act, act = a12.put (some 78) (undef) := ⟨_, rfl⟩
  rw [← e13] at h ⊢
  have z13 := pz e13 z12
  replace t68 := pk e13 t68
  clear t72
  clear t77
  have t78 := pq e13 z12
  clear e13 z12
  refine tk 13 rkids10z_o13 (.bool false) (by rfl) (fun w1 hw => by unfold rkids10z_o13; go_simp) hHeld (fun a14 e14 => ?_)
  rw [← e14] at h
  have z14 := pz e14 z13
  clear t68
  clear t78
  clear e14 z13
  exact wpAnyH_done (by kernel_rfl) (NoPanic.normal (h _ _ (hHeld) rfl)) _
end Go.Proofs.Ytoofljkgdjjllaa

namespace Go.Proofs.Ytoofljkgdjjllaa
open Go.RowKit
set_option linter.unusedVariables false
set_option linter.unusedSimpArgs false

def ltN (x y : RN) : Prop := cKid (kOf x) (kOf y) < 0
def Srt (L : List RN) : Prop := L.Pairwise ltN
theorem ltN_trans {x y z : RN} (hx : RnOk x) (hy : RnOk y) (hz : RnOk z) (h1 : ltN x y) (h2 : ltN y z) : ltN x z := by
  unfold ltN at *
  exact to_kidP.lt (kidP (kOf x) hx.k) (kidP (kOf y) hy.k) (kidP (kOf z) hz.k) (by show cKid (kOf x) (kOf y) ≤ 0; omega) (by show cKid (kOf y) (kOf z) ≤ 0; omega) (Or.inl h1)
theorem ltN_of_not {x z : RN} (hx : RnOk x) (hz : RnOk z) (hne : z.1 ≠ x.1) (h : ¬ ltN x z) : ltN z x := by
  unfold ltN at *
  have h1 := cKid_anti (x := kOf x) (y := kOf z) hx.k hz.k
  have h2 : cKid (kOf z) (kOf x) ≠ 0 := fun e => hne (cKid_zero (x := kOf z) (y := kOf x) hz.k hx.k e)
  omega
theorem ins_sorted {A B : List RN} {x : RN} (ok : ∀ y ∈ A ++ B, RnOk y) (hx : RnOk x) (hs : Srt (A ++ B)) (hB : ∀ b ∈ B, ltN x b) (hne : ∀ a ∈ A, a.1 ≠ x.1) (hA : A = [] ∨ ∃ A' z, A = A' ++ [z] ∧ ¬ ltN x z) : Srt (A ++ x :: B) := by
  unfold Srt at *
  rw [List.pairwise_append] at hs
  rw [List.pairwise_append, List.pairwise_cons]
  have hax : ∀ a ∈ A, ltN a x := by
    rcases hA with rfl | ⟨A', z, rfl, hz⟩
    · intro a ha; cases ha
    · have hzo : RnOk z := ok z (by simp)
      have hzx := ltN_of_not hx hzo (hne z (by simp)) hz
      intro a ha
      rcases List.mem_append.1 ha with ha | ha
      · have h1 := (List.pairwise_append.1 hs.1).2.2 a ha z (by simp)
        exact ltN_trans (ok a (by simp [ha])) hzo hx h1 hzx
      · simp at ha; subst ha; exact hzx
  refine ⟨hs.1, ⟨hB, hs.2.1⟩, fun a ha b hb => ?_⟩
  rcases List.mem_cons.1 hb with rfl | hb
  · exact hax a ha
  · exact hs.2.2 a ha b hb
def selN (k : IdK) (L : List RN) : List RN := L.filter fun p => !p.2.pr && decide (p.2.u = k)
theorem sel_next {NL : List RN} {i : Nat} {p : RN} (k : IdK) (h : NL[i]? = some p) : selN k (NL.take (i + 1)) = selN k (NL.take i) ++ selN k [p] := by
  rw [List.take_add_one, h]
  unfold selN
  rw [List.filter_append]
  rfl
theorem kids_sel {NL : List RN} (hn : (NL.map (·.1)).Nodup) (ok : ∀ p ∈ NL, RnOk p) {k : IdK} {L : List RN} (hp : L.Perm (selN k NL)) (hs : Srt L) : IsKids (lookN NL) k (L.map (·.1)) := by
  have hmem : ∀ p, p ∈ L ↔ p ∈ NL ∧ p.2.pr = false ∧ p.2.u = k := fun p => by
    rw [hp.mem_iff, selN, List.mem_filter]
    simp
  have hlook : ∀ p ∈ L, lookN NL p.1 = some p.2 := fun p hp' => M.look_of_mem hn ((hmem p).1 hp').1
  refine ⟨fun x => ⟨fun hx => ?_, fun hx => ?_⟩, ?_, fun x hx => ?_⟩
  · obtain ⟨p, hp', rfl⟩ := List.mem_map.1 hx
    have h1 := (hmem p).1 hp'
    exact ⟨p.2, hlook p hp', h1.2.1, h1.2.2⟩
  · obtain ⟨n, h1, h2, h3⟩ := hx
    exact List.mem_map.2 ⟨(x, n), (hmem _).2 ⟨M.look_mem h1, h2, h3⟩, rfl⟩
  · rw [List.pairwise_map]
    refine List.Pairwise.imp_of_mem (fun {a b} ha hb hlt => ?_) hs
    have e1 : kidF (lookN NL) a.1 = kOf a := by unfold kidF nd kOf; rw [hlook a ha]; rfl
    have e2 : kidF (lookN NL) b.1 = kOf b := by unfold kidF nd kOf; rw [hlook b hb]; rfl
    rw [e1, e2]
    exact hlt
  · obtain ⟨p, hp', rfl⟩ := List.mem_map.1 hx
    exact (ok p ((hmem p).1 hp').1).k
theorem load_rn_at {w : World} {b o : Nat} {p : RN} (hp : RnOk p) (h : w.rangeAt b o (rnC p)) : (Instr.loadAt 114 (.pointer (some ⟨b, o, none⟩))).run Try.prog w = .ok (.agg (rnC p).toArray) w :=
  run_loadAt_mid (P := Try.prog) w b o 114 (rnC p) _ h Try.underlying114 rfl (by rw [rn_len hp]; exact szRn)
theorem zeroRn (w : World) : (zeroValue 114).run Try.prog w = .ok (.agg (rnC zRn).toArray) w := by kernel_rfl
theorem rn_new (w : World) (x : RN) (hx : RnOk x) : ∃ w1, (Instr.alloc 114 true (.tuple #[])).run Try.prog w = .ok (.pointer (some ⟨w.heap.size, 0, none⟩)) w1 ∧ (Instr.storeAt 114 (.pointer (some ⟨w.heap.size, 0, none⟩)) (.agg (rnC x).toArray)).run Try.prog w1 = .ok () (w.alloc (.cells (rnC x).toArray 114)) := by
  have e1 : (Instr.alloc 114 true (.tuple #[])).run Try.prog w = .ok (.pointer (some ⟨w.heap.size, 0, none⟩)) (w.alloc (.cells (rnC zRn).toArray 114)) := by
    simp only [Instr.alloc, newVar, newRow, newObj, Sem.run_bind, zeroRn, Result.andThen_ok, Value.cells]
    rfl
  have e2 := run_storeVar_row (P := Try.prog) (w.alloc (.cells (rnC zRn).toArray 114)) w.heap.size 114 114 (rnC zRn).toArray (rnC x).toArray (heap_alloc_new _ _) (by rw [List.size_toArray, rn_len hx]; exact szRn)
    (by rw [List.size_toArray, List.size_toArray, rn_len hx, rn_len zRn_ok]) (by rw [List.all_toArray, List.all_eq_true]; exact rn_one x)
  rw [World.setRow_alloc_new] at e2
  refine ⟨_, e1, ?_⟩
  simp only [Instr.storeAt, Instr.sureAddr, Sem.run_bind, Sem.run_pure, Result.andThen_ok, e2]
theorem ix_rn0 {b n c i : Nat} (h : i < n) (hn : n ≤ 9223372036854775807) (w : World) : (Instr.indexAt 83 (.slice (some ⟨b, 0, none⟩) n c) (.int .i64 (i : Int))).run Try.prog w = .ok (.pointer (some ⟨b, i * 68, none⟩)) w := by go_simp
theorem gtr0 {kk : Nat} (h : 0 < kk) (w : World) : (binOp .gtr 3 (.int .i64 (kk : Int)) (.int .i64 0)).run Try.prog w = .ok (.bool true) w := by
  have h1 : (0 : Int) < (kk : Int) := by omega
  go_simp
theorem sub1 {kk m : Nat} (h : wrap64 ((kk : Int) - 1) = (m : Int)) (w : World) : (binOp .sub 3 (.int .i64 (kk : Int)) (.int .i64 1)).run Try.prog w = .ok (.int .i64 (m : Int)) w := by
  have h1 : IntKind.i64.wrap ((kk : Int) - 1) = (m : Int) := by rw [← h, IntKind.wrap_i64]; unfold wrap64; omega
  go_simp
theorem set_swap {A B : List RN} {z p : RN} {m : Nat} (hm : A.length = m) : ((A.concat z ++ p :: B).set (m + 1) z).set m p = A ++ p :: (z :: B) := by
  have e : A.concat z ++ p :: B = A ++ (z :: p :: B) := by simp
  rw [e, ← hm, List.set_append_right _ _ (by omega), show A.length + 1 - A.length = 1 by omega, List.set_append_right _ _ (by omega), Nat.sub_self]
  rfl
theorem OwnI.base {w : World} {b b' : Nat} {v : Value} {L : List IdK} (h : OwnI w b v L) (hb : b' ≤ b) : OwnI w b' v L := by
  refine ⟨h.1, ?_⟩
  rcases h.2 with q | ⟨g, cap, cur, e, hbg, rest⟩
  · exact .inl q
  · exact .inr ⟨g, cap, cur, e, Nat.le_trans hb hbg, rest⟩
theorem own_getN {w : World} {base g n cap : Nat} {L : List RN} (own : OwnN w base (.slice (some ⟨g, 0, none⟩) n cap) L) (ok : ∀ x ∈ L, RnOk x) : L.length = n ∧ ∀ i x, L[i]? = some x → w.rangeAt g (i * 68) (rnC x) := by
  obtain ⟨a, c, e, h2, _⟩ := own.open ok
  simp only [Value.slice.injEq] at e
  obtain ⟨rfl, rfl, _⟩ := e
  refine ⟨rfl, fun i x hx => ?_⟩
  rcases h2 with rfl | ⟨b, off, e, _, h3⟩
  · simp at hx
  · simp only [Option.some.injEq, Addr.mk.injEq] at e
    obtain ⟨rfl, rfl, _⟩ := e
    have := h3 i x hx
    rwa [Nat.zero_add, Nat.mul_comm] at this
section
variable (d : Nat) (NL : List RN) (pv : Value)
set_option maxRecDepth 100000 in
set_option maxHeartbeats 4000000 in
theorem rkids_any (k : IdK) (w : World) (h : RefAt w d NL pv) (hk : k.ok) (hn : NL.length ≤ 1300000000000) (hf : Forest (lookN NL)) :
    Calls Try.prog 36 #[.pointer (some ⟨d, 0, none⟩), k.v] w fun e w' => ∃ v L, e = .returned v ∧ OwnI w' w.heap.size v L ∧ IsKids (lookN NL) k L ∧ Below w.heap.size w w' := by
  have lt := h.lt
  have HH := hidMk (fun (W : World) (b : Below w.heap.size w W) => rhas_any d NL pv k W (h.below b) hk hn)
  obtain ⟨a, c, hc, hrow⟩ := h.cell
  obtain ⟨n, hnn⟩ : ∃ n, NL.length = n := ⟨_, rfl⟩
  have C0 : w.cell? ⟨d, 0, none⟩ = some (.slice a n c) := by rw [← hnn, cell_of_row _ _ 0 _ _ _ hc]; rfl
  have HC := hidMk (fun (W : World) (b : Below w.heap.size w W) => (b.cell (p := ⟨d, 0, none⟩) lt).trans C0)
  have HROW := hidMk hrow
  have HNn := hidMk hnn
  have hbig : n ≤ 1300000000000 := by omega
  clear hc C0 hn hnn hrow
  unfold IdK.v
  go_enter Try.func36, Try.ntmps36
  obtain ⟨hx, bx, zx⟩ := box_id w k
  have ZX := hidMk zx
  clear zx
  go_upto_region 1 with fail
  generalize w.alloc (.cells k.c.toArray 37) = W at *
  have HL := hidMk (fun (V : World) (b : Below W.heap.size W V) => load_id hk ((b.block _ (by have := ZX.out; omega)).trans hx))
  by_cases hout : k ≠ zId ∧ (lookN NL k).isSome = false
  · have hq : ∀ V : World, (binOp .neq 37 k.v zId.v).run Try.prog V = .ok (.bool true) V := fun V => by rw [neq_id k zId hk zId_ok, decide_eq_false hout.1]; rfl
    have HO := hidMk hout
    rw [hout.2] at HH
    clear hout
    go_wp2_with (first
      | (refine wpList_val rfl (exec_load (t := 37) (u := .pointer (some ⟨w.heap.size, 0, none⟩)) rfl rfl (HL.out _ (Below.refl _ _))) ?_)
      | (refine wpList_val rfl (exec_build0 rfl (build_id _)) ?_)
      | (refine wpList_val rfl (exec_binOp (xv := k.v) (yv := zId.v) rfl rfl rfl (guard_id _ _ k zId _ _) (hq _)) ?_)
      | (go_at_call 74; refine (HH.out _ bx).mono ?_; rintro e w1 ⟨rfl, b1⟩)
      | fail)
    go_ret
    refine ⟨_, [], rfl, ⟨rfl, Or.inl ⟨rfl, rfl⟩⟩, kids_no (fun y hy => ?_), bx.trans (b1.mono bx.size)⟩
    obtain ⟨m, h1, h2, h3⟩ := hy
    have := hf.under y m h1 h2 (by rw [h3]; exact HO.out.1)
    rw [h3, HO.out.2] at this
    cases this
  · have hin : k = zId ∨ (lookN NL k).isSome = true := by
      by_cases e : k = zId
      · exact Or.inl e
      · refine Or.inr ?_
        cases q : (lookN NL k).isSome with
        | true => rfl
        | false => exact absurd ⟨e, q⟩ hout
    clear hout
    have own0 : ∀ V : World, OwnN V W.heap.size (.slice none 0 0) [] := fun V => ⟨rfl, Or.inl ⟨rfl, rfl⟩⟩
    rcases hin with hin | hin
    · have hq : ∀ V : World, (binOp .neq 37 k.v zId.v).run Try.prog V = .ok (.bool false) V := fun V => by rw [neq_id k zId hk zId_ok, decide_eq_true hin]; rfl
      clear hin
      go_upto_region 4 with (first
        | (refine wpList_val rfl (exec_load (t := 37) (u := .pointer (some ⟨w.heap.size, 0, none⟩)) rfl rfl (HL.out _ (Below.refl _ _))) ?_)
        | (refine wpList_val rfl (exec_build0 rfl (build_id _)) ?_)
        | (refine wpList_val rfl (exec_binOp (xv := k.v) (yv := zId.v) rfl rfl rfl (guard_id _ _ k zId _ _) (hq _)) ?_)
        | fail)
      have b1 := Below.refl W.heap.size W
      clear hq
      go_wp2
      go_loopw [5, 6] (fun v5 v6 wr => ∃ (i : Nat) (L : List RN), v6 = .int .i64 (i : Int) ∧ i ≤ n ∧ OwnN wr W.heap.size v5 L ∧ L.Perm (selN k (NL.take i)) ∧ Srt L ∧ Below W.heap.size W wr) (fun v5 v6 wr => n - (match v6 with | .int _ i => i.toNat | _ => 0))
      case atStart => exact ⟨0, [], rfl, Nat.zero_le _, own0 _, List.Perm.refl _, List.Pairwise.nil, b1⟩
      case round =>
        clear b1
        obtain ⟨i, L, rfl, hin, own, hper, hsrt, belW⟩ := hrel
        have bw : ∀ V, Below W.heap.size W V → Below w.heap.size w V := fun V b => bx.trans (b.mono bx.size)
        have c0 := HC.out wr (bw _ belW)
        have hN := HNn.out
        have hmemL : ∀ y ∈ L, y ∈ NL.take i := fun y hy => by have := hper.mem_iff.1 hy; unfold selN at this; exact (List.mem_filter.1 this).1
        have hokL : ∀ y ∈ L, RnOk y := fun y hy => h.ok y (List.mem_of_mem_take (hmemL y hy))
        have hLl : L.length ≤ n := by
          have h1 := hper.length_eq
          have h2 : (selN k (NL.take i)).length ≤ (NL.take i).length := List.length_filter_le _ _
          rw [List.length_take] at h2
          omega
        by_cases hi : i < n
        · have hxi : NL[i]? = some NL[i] := List.getElem?_eq_getElem (by omega)
          generalize NL[i] = p at hxi
          have hpo := h.ok p (List.mem_of_getElem? hxi)
          obtain ⟨b, o, rfl, lb, hr⟩ : ∃ b o, a = some ⟨b, o, none⟩ ∧ b < w.heap.size ∧ w.rangeAt b (o + i * 68) (rnC p) := by
            rcases HROW.out with e | ⟨b, o, e, h1, h2⟩
            · rw [e] at hxi; simp at hxi
            · exact ⟨b, o, e, h1, h2 i p hxi⟩
          have HR := hidMk (fun (V : World) (bb : Below W.heap.size W V) => rangeAt_keep hr ((bw V bb).block _ lb))
          have hnx := sel_next k hxi
          have HXI := hidMk hxi
          have HOW := hidMk own
          have HPE := hidMk hper
          have HSR := hidMk hsrt
          have HML := hidMk hmemL
          clear hxi own hper hsrt hmemL hr hN
          go_upto_region 7 with fail
          clear c0
          have beld : Below wr.heap.size wr wr.drew := (Below.refl _ _).drew
          have bwr : ∀ V, Below wr.heap.size wr V → Below W.heap.size W V := fun V b => belW.trans (b.mono belW.size)
          cases hp : p.2.pr with
          | true =>
            have hnx2 : selN k (NL.take (i + 1)) = selN k (NL.take i) := by rw [hnx]; simp [selN, hp]
            have HNX := hidMk hnx2
            clear hnx hnx2
            refine rkids7p d w.heap.size b o n c i (fun V => Below wr.heap.size wr V) _ wr _ rfl rfl rfl rfl beld (fun V hV => load_ns (HC.out V (bw V (bwr V hV)))) (fun V => ix_rn hi (by omega) V) (fun V hV => by rw [← hp]; exact rn_pr hpo (HR.out V (bwr V hV))) ?_
            intro a' w' hw' ha
            subst ha
            simp only [Act.put, List.setIfInBounds_toArray, List.set_cons_zero, List.set_cons_succ]
            have own' : Hid (OwnN w' W.heap.size u5 L) := HOW.out.below hw'
            have bel' := bwr _ hw'
            go_wp2
            rw [show ((i : Int) + 1) = ((i + 1 : Nat) : Int) by omega]
            refine ⟨⟨i + 1, L, rfl, hi, own'.out, by rw [HNX.out]; exact HPE.out, HSR.out, bel'⟩, ?_⟩
            show n - ((i + 1 : Nat) : Int).toNat < n - (i : Int).toNat
            omega
          | false =>
            refine rkids7u d w.heap.size b o n c i (fun V => Below wr.heap.size wr V) p.2.u.v k.v (!decide (p.2.u = k)) _ wr _ rfl rfl rfl rfl beld (fun V hV => load_ns (HC.out V (bw V (bwr V hV)))) (fun V => ix_rn hi (by omega) V) (fun V hV => by rw [← hp]; exact rn_pr hpo (HR.out V (bwr V hV))) (fun V hV => rn_under hpo (HR.out V (bwr V hV))) (fun V hV => HL.out V (bwr V hV)) (fun V => guard_id _ _ p.2.u k V _) (fun V hV => neq_id p.2.u k hpo.u hk V) ?_
            intro a' w' hw' ha
            subst ha
            simp only [Act.put, List.setIfInBounds_toArray, List.set_cons_zero, List.set_cons_succ]
            have own' : Hid (OwnN w' W.heap.size u5 L) := HOW.out.below hw'
            have bel' := bwr _ hw'
            by_cases hu : p.2.u = k
            · have hnx2 : selN k (NL.take (i + 1)) = selN k (NL.take i) ++ [p] := by rw [hnx]; simp [selN, hp, hu]
              have HNX := hidMk hnx2
              rw [decide_eq_true hu]
              simp only [Bool.not_true]
              have hneL : ∀ y ∈ L, y.1 ≠ p.1 := fun y hy e => by
                have h1 := HML.out y hy
                have hnd := h.nd
                obtain ⟨j, hj⟩ := List.getElem?_of_mem h1
                have hjl : j < i := by have := (List.getElem?_eq_some_iff.1 hj).1; rw [List.length_take] at this; omega
                rw [List.getElem?_take, if_pos hjl] at hj
                have e1 : (NL.map (·.1))[j]? = some y.1 := by rw [List.getElem?_map, hj]; rfl
                have e2 : (NL.map (·.1))[i]? = some p.1 := by rw [List.getElem?_map, HXI.out]; rfl
                have l2 : i < (NL.map (·.1)).length := by simp; have := HNn.out; omega
                have l1 : j < (NL.map (·.1)).length := by omega
                rw [List.getElem?_eq_getElem l1] at e1
                rw [List.getElem?_eq_getElem l2] at e2
                exact (List.pairwise_iff_getElem.1 hnd j i l1 l2 hjl) (by rw [Option.some.inj e1, Option.some.inj e2, e])
              have HNE := hidMk hneL
              clear hnx hnx2 hneL
              have cN := HC.out w' (bw _ bel')
              have LP := hidMk (load_rn_at hpo (HR.out w' bel'))
              have EBS : Hid ((Instr.buildSlice 83 1 #[(0, .agg (rnC p).toArray)]).run Try.prog w' = .ok (.slice (some ⟨w'.heap.size, 0, none⟩) 1 1) (w'.alloc (.cells (rnC p).toArray 114))) := run_bsN p hpo w'
              have hlit := rns_lit w' p 114
              have bb : Below w'.heap.size w' (w'.alloc (.cells (rnC p).toArray 114)) := (Below.refl _ _).alloc (Nat.le_refl _) _
              generalize w'.alloc (.cells (rnC p).toArray 114) = w3 at *
              have own3 := own'.out.below bb
              have bel3 : Below W.heap.size W w3 := bel'.trans (bb.mono bel'.size)
              obtain ⟨v5', w4, eap, own4, g4, _⟩ := run_appN w3 W.heap.size u5 L (some ⟨w'.heap.size, 0, none⟩) [p] 1 own3 hlit (by simpa using hpo) (by simp only [List.length_cons, List.length_nil]; omega) bel3.size
              have EAP : Hid ((Builtin.append_ #[83, 83] 83 #[u5, .slice (some ⟨w'.heap.size, 0, none⟩) 1 1]).run Try.prog w3 = .ok v5' w4) := eap
              have bel4 : Below W.heap.size W w4 := bel3.trans ⟨g4.os, g4.tape, g4.output, g4.size, fun j hj => g4.block j (Nat.lt_of_lt_of_le hj bel3.size) (fun e => by have := (own3.ge j e.symm).1; omega)⟩
              obtain ⟨ln, hln⟩ : ∃ ln, L.length = ln := ⟨_, rfl⟩
              obtain ⟨g, cap, rfl⟩ : ∃ g cap, v5' = .slice (some ⟨g, 0, none⟩) (ln + 1) cap := by
                rcases own4.2 with ⟨_, e⟩ | ⟨g', cap', cur, e, _⟩
                · simp at e
                · exact ⟨g', cap', by rw [e]; simp [hln]⟩
              have HLN := hidMk hln
              have hlnn : ln ≤ n := by omega
              have HOW4 := hidMk own4
              obtain ⟨ln1, hln1⟩ : ∃ ln1, ln + 1 = ln1 := ⟨_, rfl⟩
              rw [hln1] at HOW4 EAP
              have hsubL : wrap64 ((ln1 : Int) - 1) = (ln : Int) := by unfold wrap64; omega
              have HLN1 := hidMk hln1
              have hl1n : ln < ln1 ∧ ln1 ≤ 1300000000001 := by omega
              clear eap own4 g4 own3 hlit hln hln1 bb
              go_upto_region 9 with (first
                | (refine wpList_val rfl (exec_load (t := 114) (u := .pointer (some ⟨b, o + i * 68, none⟩)) rfl rfl LP.out) ?_)
                | (refine wpList_run rfl (exec_buildSlice (t := 83) (n := 1) (xv := .agg (rnC p).toArray) (v := .slice (some ⟨w'.heap.size, 0, none⟩) 1 1) rfl rfl EBS.out) ?_)
                | (refine wpList_run rfl (exec_append (xv := u5) (yv := .slice (some ⟨w'.heap.size, 0, none⟩) 1 1) (v := .slice (some ⟨g, 0, none⟩) ln1 cap) rfl rfl rfl EAP.out) ?_)
                | fail)
              go_wp2
              have lg4 : g < w4.heap.size ∧ W.heap.size ≤ g := by
                obtain ⟨h1, q, hq⟩ := HOW4.out.ge g rfl
                exact ⟨(Array.getElem?_eq_some_iff.1 hq).1, h1⟩
              go_loopw [7] (fun v7 wq => ∃ (A B : List RN), v7 = .int .i64 (A.length : Int) ∧ OwnN wq W.heap.size (.slice (some ⟨g, 0, none⟩) ln1 cap) (A ++ p :: B) ∧ A ++ B = L ∧ (∀ y ∈ B, ltN p y) ∧ Below W.heap.size W wq) (fun v7 wq => match v7 with | .int _ z => z.toNat | _ => 0)
              case atStart =>
                refine ⟨L, [], by rw [HLN.out]; congr 1; have := HLN1.out; omega, HOW4.out, by simp, fun y hy => (by cases hy), bel4⟩
              case round =>
                clear EBS EAP LP cN lg4
                obtain ⟨A, B, rfl, ownq, hAB, hB, belq⟩ := hrel
                have hokAB : ∀ y ∈ A ++ B, RnOk y := fun y hy => hokL y (by rw [← hAB]; exact hy)
                have hokM : ∀ y ∈ A ++ p :: B, RnOk y := fun y hy => by
                  rcases List.mem_append.1 hy with hy | hy
                  · exact hokAB y (by simp [hy])
                  · rcases List.mem_cons.1 hy with rfl | hy
                    · exact hpo
                    · exact hokAB y (by simp [hy])
                obtain ⟨hlenM, hrngM⟩ := own_getN ownq hokM
                have HRM := hidMk hrngM
                have HLM := hidMk hlenM
                have HAB := hidMk hAB
                have HOQ := hidMk ownq
                have hneA : ∀ y ∈ A, y.1 ≠ p.1 := fun y hy => HNE.out y (by rw [← hAB]; simp [hy])
                have fin : ∀ (A' : List RN), A' = A → (A = [] ∨ ∃ A'' z, A = A'' ++ [z] ∧ ¬ ltN p z) → ∀ V, OwnN V W.heap.size (.slice (some ⟨g, 0, none⟩) ln1 cap) (A ++ p :: B) → Below W.heap.size W V →
                    ∃ (i' : Nat) (L' : List RN), Value.int IntKind.i64 ((i + 1 : Nat) : Int) = .int .i64 (i' : Int) ∧ i' ≤ n ∧ OwnN V W.heap.size (.slice (some ⟨g, 0, none⟩) ln1 cap) L' ∧ L'.Perm (selN k (NL.take i')) ∧ Srt L' ∧ Below W.heap.size W V := fun A' _ hcase V hV bV => by
                  refine ⟨i + 1, A ++ p :: B, rfl, hi, hV, ?_, ?_, bV⟩
                  · rw [HNX.out]
                    refine List.perm_middle.trans ?_
                    rw [HAB.out]
                    refine (List.Perm.cons p HPE.out).trans ?_
                    exact (List.perm_append_singleton p _).symm
                  · exact ins_sorted hokAB hpo (by rw [HAB.out]; exact HSR.out) hB hneA hcase
                have HFIN := hidMk (fin A rfl)
                clear fin hrngM hlenM hAB ownq
                have beldq : Below wr.heap.size wr wr.drew := (Below.refl _ _).drew
                have bwq : ∀ V, Below wr.heap.size wr V → Below W.heap.size W V := fun V b => belq.trans (b.mono belq.size)
                go_upto_region 10 with fail
                rcases List.eq_nil_or_concat A with rfl | ⟨A2, z, hA2⟩
                · refine rkids10z (.slice (some ⟨g, 0, none⟩) ln1 cap) (fun V => Below wr.heap.size wr V) _ wr _ rfl rfl rfl beldq (fun V => by go_simp) (fun V hV => by go_simp) ?_
                  intro a' w5 hw5 ha
                  subst ha
                  simp only [Act.put, List.setIfInBounds_toArray, List.set_cons_zero, List.set_cons_succ]
                  have bel5 := bwq _ hw5
                  have own5 := hidMk (HFIN.out (Or.inl rfl) w5 (HOQ.out.below hw5) bel5)
                  go_wp2
                  rw [show ((i : Int) + 1) = ((i + 1 : Nat) : Int) by omega]
                  refine ⟨own5.out, ?_⟩
                  show n - ((i + 1 : Nat) : Int).toNat < n - (i : Int).toNat
                  omega
                · subst hA2
                  obtain ⟨m, hm⟩ : ∃ m, A2.length = m := ⟨_, rfl⟩
                  obtain ⟨kk, hkk⟩ : ∃ kk, (A2.concat z).length = kk := ⟨_, rfl⟩
                  have hkm : kk = m + 1 := by rw [← hkk, List.length_concat, hm]
                  rw [hkk]
                  have HKK0 := hidMk hkk
                  have hcat : A2.concat z = A2 ++ [z] := by simp
                  have hzo : RnOk z := hokAB z (by simp)
                  have hl := HLM.out
                  rw [List.length_append, hkk, List.length_cons] at hl
                  have hxk : (A2.concat z ++ p :: B)[kk]? = some p := by rw [List.getElem?_append_right (by omega), hkk]; simp
                  have hzk : (A2.concat z ++ p :: B)[m]? = some z := by rw [List.getElem?_append_left (by omega), hcat, List.getElem?_append_right (by omega), hm]; simp
                  have rk := HRM.out kk p hxk
                  have rm := HRM.out m z hzk
                  have lg : g < wr.heap.size := by obtain ⟨_, q, hq⟩ := HOQ.out.ge g rfl; exact (Array.getElem?_eq_some_iff.1 hq).1
                  have HKK := hidMk (And.intro hkk (And.intro hkm hm))
                  have hk1 : kk < ln1 ∧ m < ln1 ∧ 0 < kk := by omega
                  have hsubk : wrap64 ((kk : Int) - 1) = (m : Int) := by unfold wrap64; omega
                  clear hxk hzk hl hkk hkm hm hcat
                  refine rkids10 g ln1 cap kk m (.agg (rnC p).toArray) (.agg (rnC z).toArray) (decide (cKid (kOf p) (kOf z) < 0)) (fun V => Below wr.heap.size wr V) _ wr _ rfl rfl rfl beldq (fun V V' h1 h2 => h1.trans (h2.mono h1.size)) (fun V hV => ahead_any p z V hpo hzo) ?_ ?_ ?_ ?_ ?_ ?_ ?_ ?_ ?_
                  · exact fun V => by go_simp
                  · exact fun V hV => gtr0 hk1.2.2 V
                  · exact fun V => ix_rn0 hk1.1 (by omega) V
                  · exact fun V hV => load_rn_at hpo (rangeAt_keep rk (hV.block _ lg))
                  · exact fun V => by go_simp
                  · exact fun V hV => sub1 hsubk V
                  · exact fun V => ix_rn0 hk1.2.1 (by omega) V
                  · exact fun V hV => load_rn_at hzo (rangeAt_keep rm (hV.block _ lg))
                  intro a' w5 hw5 ha
                  subst ha
                  simp only [Act.put, List.setIfInBounds_toArray, List.set_cons_zero, List.set_cons_succ]
                  have bel5 := bwq _ hw5
                  have ownw5 := HOQ.out.below hw5
                  by_cases hlt : cKid (kOf p) (kOf z) < 0
                  · rw [decide_eq_true hlt]
                    obtain ⟨x6, ea6, es6⟩ := rn_new w5 p hpo
                    have c6 : Below w5.heap.size w5 (w5.alloc (.cells (rnC p).toArray 114)) := (Below.refl _ _).alloc (Nat.le_refl _) _
                    have hb6 : RnAt (w5.alloc (.cells (rnC p).toArray 114)) w5.heap.size p := heap_alloc_new _ _
                    generalize w5.alloc (.cells (rnC p).toArray 114) = w6 at *
                    have own6 := ownw5.below c6
                    have hl := HLM.out
                    have hkk := HKK.out
                    obtain ⟨g7, cap7, e7, _, w7, est7, own7, t7, z7⟩ := own_setN own6 hokM (i := kk) (by rw [hl]; exact hk1.1) hzo
                    simp only [Value.slice.injEq, Option.some.injEq, Addr.mk.injEq] at e7
                    obtain ⟨⟨rfl, e71⟩, e72⟩ := e7
                    clear e71 e72
                    have hok7 : ∀ y ∈ (A2.concat z ++ p :: B).set kk z, RnOk y := fun y hy => by
                      rcases List.mem_or_eq_of_mem_set hy with hy | rfl
                      · exact hokM y hy
                      · exact hzo
                    obtain ⟨g8, cap8, e8, _, w8, est8, own8, t8, z8⟩ := own_setN own7 hok7 (i := m) (by rw [List.length_set, hl]; exact hk1.2.1) hpo
                    simp only [Value.slice.injEq, Option.some.injEq, Addr.mk.injEq] at e8
                    obtain ⟨⟨rfl, e81⟩, e82⟩ := e8
                    clear e81 e82
                    rw [hkk.2.1, set_swap hkk.2.2] at own8
                    have lg5 : g < w5.heap.size := Nat.lt_of_lt_of_le lg hw5.size
                    have bel6 := bel5.trans (c6.mono bel5.size)
                    have bel7 : Below W.heap.size W w7 := bel6.trans (t7.below bel6.size (fun j hj => (own6.ge j hj).1))
                    have bel8 : Below W.heap.size W w8 := bel7.trans (t8.below bel7.size (fun j hj => (own7.ge j hj).1))
                    have hb7 : RnAt w7 w5.heap.size p := (t7.block _ (Array.getElem?_eq_some_iff.1 hb6).1 (fun e => by simp [Value.ownBlock] at e; omega)).trans hb6
                    have LK := hidMk (load_rn_at hpo (rangeAt_keep rk (hw5.block _ lg)))
                    have LM := hidMk (load_rn_at hzo (rangeAt_keep rm ((hw5.trans (c6.mono hw5.size)).block _ lg)))
                    have LB := hidMk (load_rn_at hpo hb7.range)
                    have EA6 := hidMk ea6
                    have ES6 := hidMk es6
                    have EST7 := hidMk est7
                    have hm1 : m = kk - 1 := by omega
                    have EST8 : Hid ((Instr.storeAt 114 (.pointer (some ⟨g, (kk - 1) * 68, none⟩)) (.agg (rnC p).toArray)).run Try.prog w7 = .ok () w8) := by rw [← hm1]; exact est8
                    rw [hm1] at LM
                    clear hm1
                    have HO8 := hidMk own8
                    have hB8 : ∀ y ∈ z :: B, ltN p y := fun y hy => by
                      rcases List.mem_cons.1 hy with rfl | hy
                      · exact hlt
                      · exact hB y hy
                    have hA8 : A2 ++ z :: B = L := by rw [← HAB.out]; simp
                    have HA8 := hidMk hA8
                    have HKM := hidMk hkk.2.2
                    have HKM1 := hidMk hkk.2.1
                    have hkl := hk1
                    clear ea6 es6 est7 est8 own8 own7 own6 t7 t8 z7 z8 hl hkk hA8 hok7 ownw5 c6 rk rm HRM HLM HOQ HFIN
                    go_wp2_with (first
                      | (refine wpList_val rfl (exec_load (t := 114) (u := .pointer (some ⟨g, kk * 68, none⟩)) rfl rfl LK.out) ?_)
                      | (refine wpList_run rfl (exec_alloc (t := 114) rfl EA6.out) ?_)
                      | (refine wpList_skip rfl rfl (exec_store (t := 114) (xv := .pointer (some ⟨w5.heap.size, 0, none⟩)) (yv := .agg (rnC p).toArray) rfl rfl rfl ES6.out) ?_)
                      | (refine wpList_val rfl (exec_load (t := 114) (u := .pointer (some ⟨g, (kk - 1) * 68, none⟩)) rfl rfl LM.out) ?_)
                      | (refine wpList_skip rfl rfl (exec_store (t := 114) (xv := .pointer (some ⟨g, kk * 68, none⟩)) (yv := .agg (rnC z).toArray) rfl rfl rfl EST7.out) ?_)
                      | (refine wpList_val rfl (exec_load (t := 114) (u := .pointer (some ⟨w5.heap.size, 0, none⟩)) rfl rfl LB.out) ?_)
                      | (refine wpList_skip rfl rfl (exec_store (t := 114) (xv := .pointer (some ⟨g, (kk - 1) * 68, none⟩)) (yv := .agg (rnC p).toArray) rfl rfl rfl EST8.out) ?_)
                      | fail)
                    refine ⟨⟨A2, z :: B, by rw [HKM.out]; congr 1; have := HKM1.out; omega, HO8.out, HA8.out, hB8, bel8⟩, ?_⟩
                    have hkm1 := HKM1.out
                    have hkk0 := HKK0.out
                    simp only []
                    rw [hkk0]
                    omega
                  · rw [decide_eq_false hlt]
                    have own5 := hidMk (HFIN.out (Or.inr ⟨A2, z, by simp, hlt⟩) w5 ownw5 bel5)
                    clear ownw5 HFIN
                    go_wp2
                    rw [show ((i : Int) + 1) = ((i + 1 : Nat) : Int) by omega]
                    refine ⟨own5.out, ?_⟩
                    show n - ((i + 1 : Nat) : Int).toNat < n - (i : Int).toNat
                    omega
            · have hnx2 : selN k (NL.take (i + 1)) = selN k (NL.take i) := by rw [hnx]; simp [selN, hp, hu]
              have HNX := hidMk hnx2
              rw [decide_eq_false hu]
              simp only [Bool.not_false]
              clear hnx hnx2
              go_wp2
              rw [show ((i : Int) + 1) = ((i + 1 : Nat) : Int) by omega]
              refine ⟨⟨i + 1, L, rfl, hi, own'.out, by rw [HNX.out]; exact HPE.out, HSR.out, bel'⟩, ?_⟩
              show n - ((i + 1 : Nat) : Int).toNat < n - (i : Int).toNat
              omega
        · obtain rfl : i = n := by omega
          rw [List.take_of_length_le (by omega)] at hper
          obtain ⟨a5, c5, rfl, hra, _⟩ := own.open hokL
          have HKI := hidMk (kids_sel h.nd h.ok hper hsrt)
          obtain ⟨ln, hln⟩ : ∃ ln, L.length = ln := ⟨_, rfl⟩
          rw [hln]
          have HLN := hidMk hln
          have hlb : ln ≤ 1300000000000 := by omega
          have bel0 := bw _ belW
          have own9 : OwnI wr wr.heap.size (.slice none 0 0) [] := ⟨rfl, Or.inl ⟨rfl, rfl⟩⟩
          clear own hper hsrt hmemL hLl hln hN
          generalize wr = wx at *
          go_wp2
          clear c0
          go_loopw [9, 10] (fun v9 v10 wq => ∃ j : Nat, v10 = .int .i64 (j : Int) ∧ j ≤ ln ∧ OwnI wq wx.heap.size v9 ((L.take j).map (·.1)) ∧ Below wx.heap.size wx wq) (fun v9 v10 wq => ln - (match v10 with | .int _ z => z.toNat | _ => 0))
          case atStart => exact ⟨0, rfl, Nat.zero_le _, own9, Below.refl _ _⟩
          case round =>
            clear own9
            obtain ⟨j, rfl, hjn, own, belx⟩ := hrel
            have hLn := HLN.out
            by_cases hj : j < ln
            · have hxj : L[j]? = some L[j] := List.getElem?_eq_getElem (by omega)
              generalize L[j] = q at hxj
              have hqo := hokL q (List.mem_of_getElem? hxj)
              obtain ⟨gb, go, rfl, lgb, hrq⟩ : ∃ gb go, a5 = some ⟨gb, go, none⟩ ∧ gb < wx.heap.size ∧ wx.rangeAt gb (go + j * 68) (rnC q) := by
                rcases hra with e | ⟨b, o, e, h1, h2⟩
                · rw [e] at hxj; simp at hxj
                · exact ⟨b, o, e, h1, by rw [Nat.mul_comm]; exact h2 j q hxj⟩
              have LQ0 := rn_id hqo (rangeAt_keep hrq (belx.block _ lgb))
              rw [Nat.add_zero] at LQ0
              have LQ := hidMk LQ0
              have EBS : Hid ((Instr.buildSlice 41 1 #[(0, q.1.v)]).run Try.prog wr = .ok (.slice (some ⟨wr.heap.size, 0, none⟩) 1 1) (wr.alloc (.cells q.1.c.toArray 37))) := run_bsI q.1 hqo.k wr
              have hlit := ids_lit wr q.1 37
              have bb : Below wr.heap.size wr (wr.alloc (.cells q.1.c.toArray 37)) := (Below.refl _ _).alloc (Nat.le_refl _) _
              generalize wr.alloc (.cells q.1.c.toArray 37) = w3 at *
              have own3 := own.below bb
              have bel3 : Below wx.heap.size wx w3 := belx.trans (bb.mono belx.size)
              have htl : ((L.take j).map (·.1)).length = j := by simp; omega
              obtain ⟨v9', w4, eap, own4, g4, _⟩ := run_appI w3 wx.heap.size u9 ((L.take j).map (·.1)) (some ⟨wr.heap.size, 0, none⟩) [q.1] 1 own3 hlit (by simpa using hqo.k) (by rw [htl]; simp only [List.length_cons, List.length_nil]; omega) bel3.size
              have EAP : Hid ((Builtin.append_ #[41, 41] 41 #[u9, .slice (some ⟨wr.heap.size, 0, none⟩) 1 1]).run Try.prog w3 = .ok v9' w4) := eap
              have bel4 : Below wx.heap.size wx w4 := bel3.trans (below_grown own3 bel3.size g4)
              have hnext : (L.take j).map (·.1) ++ [q.1] = (L.take (j + 1)).map (·.1) := by rw [List.take_add_one, hxj]; simp
              rw [hnext] at own4
              have HO4 := hidMk own4
              clear eap own4 g4 own3 hlit hnext htl hxj hrq LQ0 own hLn bb
              go_wp2_with (first
                | (refine wpList_val rfl (exec_load (t := 37) (u := .pointer (some ⟨gb, go + j * 68, none⟩)) rfl rfl LQ.out) ?_)
                | (refine wpList_run rfl (exec_buildSlice (t := 41) (n := 1) (xv := q.1.v) (v := .slice (some ⟨wr.heap.size, 0, none⟩) 1 1) rfl rfl EBS.out) ?_)
                | (refine wpList_run rfl (exec_append (xv := u9) (yv := .slice (some ⟨wr.heap.size, 0, none⟩) 1 1) (v := v9') rfl rfl rfl EAP.out) ?_)
                | fail)
              rw [show ((j : Int) + 1) = ((j + 1 : Nat) : Int) by omega]
              refine ⟨⟨j + 1, rfl, hj, HO4.out, bel4⟩, ?_⟩
              show ln - ((j + 1 : Nat) : Int).toNat < ln - (j : Int).toNat
              omega
            · obtain rfl : j = ln := by omega
              rw [List.take_of_length_le (by omega)] at own
              have HO := hidMk own
              clear own hLn hjn hj
              go_wp2
              go_ret
              exact ⟨_, _, rfl, HO.out.base (Nat.le_trans bel0.size (Nat.le_refl _)), HKI.out, bel0.trans (belx.mono bel0.size)⟩
    · by_cases hz : k = zId
      · exact absurd (by rw [hz] at hin; rw [hf.zero] at hin; exact hin : (none : Option NodeV).isSome = true) (by simp)
      · have hq : ∀ V : World, (binOp .neq 37 k.v zId.v).run Try.prog V = .ok (.bool true) V := fun V => by rw [neq_id k zId hk zId_ok, decide_eq_false hz]; rfl
        rw [hin] at HH
        clear hin hz
        go_upto_region 4 with (first
          | (refine wpList_val rfl (exec_load (t := 37) (u := .pointer (some ⟨w.heap.size, 0, none⟩)) rfl rfl (HL.out _ (Below.refl _ _))) ?_)
          | (refine wpList_val rfl (exec_build0 rfl (build_id _)) ?_)
          | (refine wpList_val rfl (exec_binOp (xv := k.v) (yv := zId.v) rfl rfl rfl (guard_id _ _ k zId _ _) (hq _)) ?_)
          | (go_at_call 74; refine (HH.out _ bx).mono ?_; rintro e w1 ⟨rfl, b1⟩)
          | fail)
        clear hq
        go_wp2
        go_loopw [5, 6] (fun v5 v6 wr => ∃ (i : Nat) (L : List RN), v6 = .int .i64 (i : Int) ∧ i ≤ n ∧ OwnN wr W.heap.size v5 L ∧ L.Perm (selN k (NL.take i)) ∧ Srt L ∧ Below W.heap.size W wr) (fun v5 v6 wr => n - (match v6 with | .int _ i => i.toNat | _ => 0))
        case atStart => exact ⟨0, [], rfl, Nat.zero_le _, own0 _, List.Perm.refl _, List.Pairwise.nil, b1⟩
        case round =>
          clear b1
          obtain ⟨i, L, rfl, hin, own, hper, hsrt, belW⟩ := hrel
          have bw : ∀ V, Below W.heap.size W V → Below w.heap.size w V := fun V b => bx.trans (b.mono bx.size)
          have c0 := HC.out wr (bw _ belW)
          have hN := HNn.out
          have hmemL : ∀ y ∈ L, y ∈ NL.take i := fun y hy => by have := hper.mem_iff.1 hy; unfold selN at this; exact (List.mem_filter.1 this).1
          have hokL : ∀ y ∈ L, RnOk y := fun y hy => h.ok y (List.mem_of_mem_take (hmemL y hy))
          have hLl : L.length ≤ n := by
            have h1 := hper.length_eq
            have h2 : (selN k (NL.take i)).length ≤ (NL.take i).length := List.length_filter_le _ _
            rw [List.length_take] at h2
            omega
          by_cases hi : i < n
          · have hxi : NL[i]? = some NL[i] := List.getElem?_eq_getElem (by omega)
            generalize NL[i] = p at hxi
            have hpo := h.ok p (List.mem_of_getElem? hxi)
            obtain ⟨b, o, rfl, lb, hr⟩ : ∃ b o, a = some ⟨b, o, none⟩ ∧ b < w.heap.size ∧ w.rangeAt b (o + i * 68) (rnC p) := by
              rcases HROW.out with e | ⟨b, o, e, h1, h2⟩
              · rw [e] at hxi; simp at hxi
              · exact ⟨b, o, e, h1, h2 i p hxi⟩
            have HR := hidMk (fun (V : World) (bb : Below W.heap.size W V) => rangeAt_keep hr ((bw V bb).block _ lb))
            have hnx := sel_next k hxi
            have HXI := hidMk hxi
            have HOW := hidMk own
            have HPE := hidMk hper
            have HSR := hidMk hsrt
            have HML := hidMk hmemL
            clear hxi own hper hsrt hmemL hr hN
            go_upto_region 7 with fail
            clear c0
            have beld : Below wr.heap.size wr wr.drew := (Below.refl _ _).drew
            have bwr : ∀ V, Below wr.heap.size wr V → Below W.heap.size W V := fun V b => belW.trans (b.mono belW.size)
            cases hp : p.2.pr with
            | true =>
              have hnx2 : selN k (NL.take (i + 1)) = selN k (NL.take i) := by rw [hnx]; simp [selN, hp]
              have HNX := hidMk hnx2
              clear hnx hnx2
              refine rkids7p d w.heap.size b o n c i (fun V => Below wr.heap.size wr V) _ wr _ rfl rfl rfl rfl beld (fun V hV => load_ns (HC.out V (bw V (bwr V hV)))) (fun V => ix_rn hi (by omega) V) (fun V hV => by rw [← hp]; exact rn_pr hpo (HR.out V (bwr V hV))) ?_
              intro a' w' hw' ha
              subst ha
              simp only [Act.put, List.setIfInBounds_toArray, List.set_cons_zero, List.set_cons_succ]
              have own' : Hid (OwnN w' W.heap.size u5 L) := HOW.out.below hw'
              have bel' := bwr _ hw'
              go_wp2
              rw [show ((i : Int) + 1) = ((i + 1 : Nat) : Int) by omega]
              refine ⟨⟨i + 1, L, rfl, hi, own'.out, by rw [HNX.out]; exact HPE.out, HSR.out, bel'⟩, ?_⟩
              show n - ((i + 1 : Nat) : Int).toNat < n - (i : Int).toNat
              omega
            | false =>
              refine rkids7u d w.heap.size b o n c i (fun V => Below wr.heap.size wr V) p.2.u.v k.v (!decide (p.2.u = k)) _ wr _ rfl rfl rfl rfl beld (fun V hV => load_ns (HC.out V (bw V (bwr V hV)))) (fun V => ix_rn hi (by omega) V) (fun V hV => by rw [← hp]; exact rn_pr hpo (HR.out V (bwr V hV))) (fun V hV => rn_under hpo (HR.out V (bwr V hV))) (fun V hV => HL.out V (bwr V hV)) (fun V => guard_id _ _ p.2.u k V _) (fun V hV => neq_id p.2.u k hpo.u hk V) ?_
              intro a' w' hw' ha
              subst ha
              simp only [Act.put, List.setIfInBounds_toArray, List.set_cons_zero, List.set_cons_succ]
              have own' : Hid (OwnN w' W.heap.size u5 L) := HOW.out.below hw'
              have bel' := bwr _ hw'
              by_cases hu : p.2.u = k
              · have hnx2 : selN k (NL.take (i + 1)) = selN k (NL.take i) ++ [p] := by rw [hnx]; simp [selN, hp, hu]
                have HNX := hidMk hnx2
                rw [decide_eq_true hu]
                simp only [Bool.not_true]
                have hneL : ∀ y ∈ L, y.1 ≠ p.1 := fun y hy e => by
                  have h1 := HML.out y hy
                  have hnd := h.nd
                  obtain ⟨j, hj⟩ := List.getElem?_of_mem h1
                  have hjl : j < i := by have := (List.getElem?_eq_some_iff.1 hj).1; rw [List.length_take] at this; omega
                  rw [List.getElem?_take, if_pos hjl] at hj
                  have e1 : (NL.map (·.1))[j]? = some y.1 := by rw [List.getElem?_map, hj]; rfl
                  have e2 : (NL.map (·.1))[i]? = some p.1 := by rw [List.getElem?_map, HXI.out]; rfl
                  have l2 : i < (NL.map (·.1)).length := by simp; have := HNn.out; omega
                  have l1 : j < (NL.map (·.1)).length := by omega
                  rw [List.getElem?_eq_getElem l1] at e1
                  rw [List.getElem?_eq_getElem l2] at e2
                  exact (List.pairwise_iff_getElem.1 hnd j i l1 l2 hjl) (by rw [Option.some.inj e1, Option.some.inj e2, e])
                have HNE := hidMk hneL
                clear hnx hnx2 hneL
                have cN := HC.out w' (bw _ bel')
                have LP := hidMk (load_rn_at hpo (HR.out w' bel'))
                have EBS : Hid ((Instr.buildSlice 83 1 #[(0, .agg (rnC p).toArray)]).run Try.prog w' = .ok (.slice (some ⟨w'.heap.size, 0, none⟩) 1 1) (w'.alloc (.cells (rnC p).toArray 114))) := run_bsN p hpo w'
                have hlit := rns_lit w' p 114
                have bb : Below w'.heap.size w' (w'.alloc (.cells (rnC p).toArray 114)) := (Below.refl _ _).alloc (Nat.le_refl _) _
                generalize w'.alloc (.cells (rnC p).toArray 114) = w3 at *
                have own3 := own'.out.below bb
                have bel3 : Below W.heap.size W w3 := bel'.trans (bb.mono bel'.size)
                obtain ⟨v5', w4, eap, own4, g4, _⟩ := run_appN w3 W.heap.size u5 L (some ⟨w'.heap.size, 0, none⟩) [p] 1 own3 hlit (by simpa using hpo) (by simp only [List.length_cons, List.length_nil]; omega) bel3.size
                have EAP : Hid ((Builtin.append_ #[83, 83] 83 #[u5, .slice (some ⟨w'.heap.size, 0, none⟩) 1 1]).run Try.prog w3 = .ok v5' w4) := eap
                have bel4 : Below W.heap.size W w4 := bel3.trans ⟨g4.os, g4.tape, g4.output, g4.size, fun j hj => g4.block j (Nat.lt_of_lt_of_le hj bel3.size) (fun e => by have := (own3.ge j e.symm).1; omega)⟩
                obtain ⟨ln, hln⟩ : ∃ ln, L.length = ln := ⟨_, rfl⟩
                obtain ⟨g, cap, rfl⟩ : ∃ g cap, v5' = .slice (some ⟨g, 0, none⟩) (ln + 1) cap := by
                  rcases own4.2 with ⟨_, e⟩ | ⟨g', cap', cur, e, _⟩
                  · simp at e
                  · exact ⟨g', cap', by rw [e]; simp [hln]⟩
                have HLN := hidMk hln
                have hlnn : ln ≤ n := by omega
                have HOW4 := hidMk own4
                obtain ⟨ln1, hln1⟩ : ∃ ln1, ln + 1 = ln1 := ⟨_, rfl⟩
                rw [hln1] at HOW4 EAP
                have hsubL : wrap64 ((ln1 : Int) - 1) = (ln : Int) := by unfold wrap64; omega
                have HLN1 := hidMk hln1
                have hl1n : ln < ln1 ∧ ln1 ≤ 1300000000001 := by omega
                clear eap own4 g4 own3 hlit hln hln1 bb
                go_upto_region 9 with (first
                  | (refine wpList_val rfl (exec_load (t := 114) (u := .pointer (some ⟨b, o + i * 68, none⟩)) rfl rfl LP.out) ?_)
                  | (refine wpList_run rfl (exec_buildSlice (t := 83) (n := 1) (xv := .agg (rnC p).toArray) (v := .slice (some ⟨w'.heap.size, 0, none⟩) 1 1) rfl rfl EBS.out) ?_)
                  | (refine wpList_run rfl (exec_append (xv := u5) (yv := .slice (some ⟨w'.heap.size, 0, none⟩) 1 1) (v := .slice (some ⟨g, 0, none⟩) ln1 cap) rfl rfl rfl EAP.out) ?_)
                  | fail)
                go_wp2
                have lg4 : g < w4.heap.size ∧ W.heap.size ≤ g := by
                  obtain ⟨h1, q, hq⟩ := HOW4.out.ge g rfl
                  exact ⟨(Array.getElem?_eq_some_iff.1 hq).1, h1⟩
                go_loopw [7] (fun v7 wq => ∃ (A B : List RN), v7 = .int .i64 (A.length : Int) ∧ OwnN wq W.heap.size (.slice (some ⟨g, 0, none⟩) ln1 cap) (A ++ p :: B) ∧ A ++ B = L ∧ (∀ y ∈ B, ltN p y) ∧ Below W.heap.size W wq) (fun v7 wq => match v7 with | .int _ z => z.toNat | _ => 0)
                case atStart =>
                  refine ⟨L, [], by rw [HLN.out]; congr 1; have := HLN1.out; omega, HOW4.out, by simp, fun y hy => (by cases hy), bel4⟩
                case round =>
                  clear EBS EAP LP cN lg4
                  obtain ⟨A, B, rfl, ownq, hAB, hB, belq⟩ := hrel
                  have hokAB : ∀ y ∈ A ++ B, RnOk y := fun y hy => hokL y (by rw [← hAB]; exact hy)
                  have hokM : ∀ y ∈ A ++ p :: B, RnOk y := fun y hy => by
                    rcases List.mem_append.1 hy with hy | hy
                    · exact hokAB y (by simp [hy])
                    · rcases List.mem_cons.1 hy with rfl | hy
                      · exact hpo
                      · exact hokAB y (by simp [hy])
                  obtain ⟨hlenM, hrngM⟩ := own_getN ownq hokM
                  have HRM := hidMk hrngM
                  have HLM := hidMk hlenM
                  have HAB := hidMk hAB
                  have HOQ := hidMk ownq
                  have hneA : ∀ y ∈ A, y.1 ≠ p.1 := fun y hy => HNE.out y (by rw [← hAB]; simp [hy])
                  have fin : ∀ (A' : List RN), A' = A → (A = [] ∨ ∃ A'' z, A = A'' ++ [z] ∧ ¬ ltN p z) → ∀ V, OwnN V W.heap.size (.slice (some ⟨g, 0, none⟩) ln1 cap) (A ++ p :: B) → Below W.heap.size W V →
                      ∃ (i' : Nat) (L' : List RN), Value.int IntKind.i64 ((i + 1 : Nat) : Int) = .int .i64 (i' : Int) ∧ i' ≤ n ∧ OwnN V W.heap.size (.slice (some ⟨g, 0, none⟩) ln1 cap) L' ∧ L'.Perm (selN k (NL.take i')) ∧ Srt L' ∧ Below W.heap.size W V := fun A' _ hcase V hV bV => by
                    refine ⟨i + 1, A ++ p :: B, rfl, hi, hV, ?_, ?_, bV⟩
                    · rw [HNX.out]
                      refine List.perm_middle.trans ?_
                      rw [HAB.out]
                      refine (List.Perm.cons p HPE.out).trans ?_
                      exact (List.perm_append_singleton p _).symm
                    · exact ins_sorted hokAB hpo (by rw [HAB.out]; exact HSR.out) hB hneA hcase
                  have HFIN := hidMk (fin A rfl)
                  clear fin hrngM hlenM hAB ownq
                  have beldq : Below wr.heap.size wr wr.drew := (Below.refl _ _).drew
                  have bwq : ∀ V, Below wr.heap.size wr V → Below W.heap.size W V := fun V b => belq.trans (b.mono belq.size)
                  go_upto_region 10 with fail
                  rcases List.eq_nil_or_concat A with rfl | ⟨A2, z, hA2⟩
                  · refine rkids10z (.slice (some ⟨g, 0, none⟩) ln1 cap) (fun V => Below wr.heap.size wr V) _ wr _ rfl rfl rfl beldq (fun V => by go_simp) (fun V hV => by go_simp) ?_
                    intro a' w5 hw5 ha
                    subst ha
                    simp only [Act.put, List.setIfInBounds_toArray, List.set_cons_zero, List.set_cons_succ]
                    have bel5 := bwq _ hw5
                    have own5 := hidMk (HFIN.out (Or.inl rfl) w5 (HOQ.out.below hw5) bel5)
                    go_wp2
                    rw [show ((i : Int) + 1) = ((i + 1 : Nat) : Int) by omega]
                    refine ⟨own5.out, ?_⟩
                    show n - ((i + 1 : Nat) : Int).toNat < n - (i : Int).toNat
                    omega
                  · subst hA2
                    obtain ⟨m, hm⟩ : ∃ m, A2.length = m := ⟨_, rfl⟩
                    obtain ⟨kk, hkk⟩ : ∃ kk, (A2.concat z).length = kk := ⟨_, rfl⟩
                    have hkm : kk = m + 1 := by rw [← hkk, List.length_concat, hm]
                    rw [hkk]
                    have HKK0 := hidMk hkk
                    have hcat : A2.concat z = A2 ++ [z] := by simp
                    have hzo : RnOk z := hokAB z (by simp)
                    have hl := HLM.out
                    rw [List.length_append, hkk, List.length_cons] at hl
                    have hxk : (A2.concat z ++ p :: B)[kk]? = some p := by rw [List.getElem?_append_right (by omega), hkk]; simp
                    have hzk : (A2.concat z ++ p :: B)[m]? = some z := by rw [List.getElem?_append_left (by omega), hcat, List.getElem?_append_right (by omega), hm]; simp
                    have rk := HRM.out kk p hxk
                    have rm := HRM.out m z hzk
                    have lg : g < wr.heap.size := by obtain ⟨_, q, hq⟩ := HOQ.out.ge g rfl; exact (Array.getElem?_eq_some_iff.1 hq).1
                    have HKK := hidMk (And.intro hkk (And.intro hkm hm))
                    have hk1 : kk < ln1 ∧ m < ln1 ∧ 0 < kk := by omega
                    have hsubk : wrap64 ((kk : Int) - 1) = (m : Int) := by unfold wrap64; omega
                    clear hxk hzk hl hkk hkm hm hcat
                    refine rkids10 g ln1 cap kk m (.agg (rnC p).toArray) (.agg (rnC z).toArray) (decide (cKid (kOf p) (kOf z) < 0)) (fun V => Below wr.heap.size wr V) _ wr _ rfl rfl rfl beldq (fun V V' h1 h2 => h1.trans (h2.mono h1.size)) (fun V hV => ahead_any p z V hpo hzo) ?_ ?_ ?_ ?_ ?_ ?_ ?_ ?_ ?_
                    · exact fun V => by go_simp
                    · exact fun V hV => gtr0 hk1.2.2 V
                    · exact fun V => ix_rn0 hk1.1 (by omega) V
                    · exact fun V hV => load_rn_at hpo (rangeAt_keep rk (hV.block _ lg))
                    · exact fun V => by go_simp
                    · exact fun V hV => sub1 hsubk V
                    · exact fun V => ix_rn0 hk1.2.1 (by omega) V
                    · exact fun V hV => load_rn_at hzo (rangeAt_keep rm (hV.block _ lg))
                    intro a' w5 hw5 ha
                    subst ha
                    simp only [Act.put, List.setIfInBounds_toArray, List.set_cons_zero, List.set_cons_succ]
                    have bel5 := bwq _ hw5
                    have ownw5 := HOQ.out.below hw5
                    by_cases hlt : cKid (kOf p) (kOf z) < 0
                    · rw [decide_eq_true hlt]
                      obtain ⟨x6, ea6, es6⟩ := rn_new w5 p hpo
                      have c6 : Below w5.heap.size w5 (w5.alloc (.cells (rnC p).toArray 114)) := (Below.refl _ _).alloc (Nat.le_refl _) _
                      have hb6 : RnAt (w5.alloc (.cells (rnC p).toArray 114)) w5.heap.size p := heap_alloc_new _ _
                      generalize w5.alloc (.cells (rnC p).toArray 114) = w6 at *
                      have own6 := ownw5.below c6
                      have hl := HLM.out
                      have hkk := HKK.out
                      obtain ⟨g7, cap7, e7, _, w7, est7, own7, t7, z7⟩ := own_setN own6 hokM (i := kk) (by rw [hl]; exact hk1.1) hzo
                      simp only [Value.slice.injEq, Option.some.injEq, Addr.mk.injEq] at e7
                      obtain ⟨⟨rfl, e71⟩, e72⟩ := e7
                      clear e71 e72
                      have hok7 : ∀ y ∈ (A2.concat z ++ p :: B).set kk z, RnOk y := fun y hy => by
                        rcases List.mem_or_eq_of_mem_set hy with hy | rfl
                        · exact hokM y hy
                        · exact hzo
                      obtain ⟨g8, cap8, e8, _, w8, est8, own8, t8, z8⟩ := own_setN own7 hok7 (i := m) (by rw [List.length_set, hl]; exact hk1.2.1) hpo
                      simp only [Value.slice.injEq, Option.some.injEq, Addr.mk.injEq] at e8
                      obtain ⟨⟨rfl, e81⟩, e82⟩ := e8
                      clear e81 e82
                      rw [hkk.2.1, set_swap hkk.2.2] at own8
                      have lg5 : g < w5.heap.size := Nat.lt_of_lt_of_le lg hw5.size
                      have bel6 := bel5.trans (c6.mono bel5.size)
                      have bel7 : Below W.heap.size W w7 := bel6.trans (t7.below bel6.size (fun j hj => (own6.ge j hj).1))
                      have bel8 : Below W.heap.size W w8 := bel7.trans (t8.below bel7.size (fun j hj => (own7.ge j hj).1))
                      have hb7 : RnAt w7 w5.heap.size p := (t7.block _ (Array.getElem?_eq_some_iff.1 hb6).1 (fun e => by simp [Value.ownBlock] at e; omega)).trans hb6
                      have LK := hidMk (load_rn_at hpo (rangeAt_keep rk (hw5.block _ lg)))
                      have LM := hidMk (load_rn_at hzo (rangeAt_keep rm ((hw5.trans (c6.mono hw5.size)).block _ lg)))
                      have LB := hidMk (load_rn_at hpo hb7.range)
                      have EA6 := hidMk ea6
                      have ES6 := hidMk es6
                      have EST7 := hidMk est7
                      have hm1 : m = kk - 1 := by omega
                      have EST8 : Hid ((Instr.storeAt 114 (.pointer (some ⟨g, (kk - 1) * 68, none⟩)) (.agg (rnC p).toArray)).run Try.prog w7 = .ok () w8) := by rw [← hm1]; exact est8
                      rw [hm1] at LM
                      clear hm1
                      have HO8 := hidMk own8
                      have hB8 : ∀ y ∈ z :: B, ltN p y := fun y hy => by
                        rcases List.mem_cons.1 hy with rfl | hy
                        · exact hlt
                        · exact hB y hy
                      have hA8 : A2 ++ z :: B = L := by rw [← HAB.out]; simp
                      have HA8 := hidMk hA8
                      have HKM := hidMk hkk.2.2
                      have HKM1 := hidMk hkk.2.1
                      have hkl := hk1
                      clear ea6 es6 est7 est8 own8 own7 own6 t7 t8 z7 z8 hl hkk hA8 hok7 ownw5 c6 rk rm HRM HLM HOQ HFIN
                      go_wp2_with (first
                        | (refine wpList_val rfl (exec_load (t := 114) (u := .pointer (some ⟨g, kk * 68, none⟩)) rfl rfl LK.out) ?_)
                        | (refine wpList_run rfl (exec_alloc (t := 114) rfl EA6.out) ?_)
                        | (refine wpList_skip rfl rfl (exec_store (t := 114) (xv := .pointer (some ⟨w5.heap.size, 0, none⟩)) (yv := .agg (rnC p).toArray) rfl rfl rfl ES6.out) ?_)
                        | (refine wpList_val rfl (exec_load (t := 114) (u := .pointer (some ⟨g, (kk - 1) * 68, none⟩)) rfl rfl LM.out) ?_)
                        | (refine wpList_skip rfl rfl (exec_store (t := 114) (xv := .pointer (some ⟨g, kk * 68, none⟩)) (yv := .agg (rnC z).toArray) rfl rfl rfl EST7.out) ?_)
                        | (refine wpList_val rfl (exec_load (t := 114) (u := .pointer (some ⟨w5.heap.size, 0, none⟩)) rfl rfl LB.out) ?_)
                        | (refine wpList_skip rfl rfl (exec_store (t := 114) (xv := .pointer (some ⟨g, (kk - 1) * 68, none⟩)) (yv := .agg (rnC p).toArray) rfl rfl rfl EST8.out) ?_)
                        | fail)
                      refine ⟨⟨A2, z :: B, by rw [HKM.out]; congr 1; have := HKM1.out; omega, HO8.out, HA8.out, hB8, bel8⟩, ?_⟩
                      have hkm1 := HKM1.out
                      have hkk0 := HKK0.out
                      simp only []
                      rw [hkk0]
                      omega
                    · rw [decide_eq_false hlt]
                      have own5 := hidMk (HFIN.out (Or.inr ⟨A2, z, by simp, hlt⟩) w5 ownw5 bel5)
                      clear ownw5 HFIN
                      go_wp2
                      rw [show ((i : Int) + 1) = ((i + 1 : Nat) : Int) by omega]
                      refine ⟨own5.out, ?_⟩
                      show n - ((i + 1 : Nat) : Int).toNat < n - (i : Int).toNat
                      omega
              · have hnx2 : selN k (NL.take (i + 1)) = selN k (NL.take i) := by rw [hnx]; simp [selN, hp, hu]
                have HNX := hidMk hnx2
                rw [decide_eq_false hu]
                simp only [Bool.not_false]
                clear hnx hnx2
                go_wp2
                rw [show ((i : Int) + 1) = ((i + 1 : Nat) : Int) by omega]
                refine ⟨⟨i + 1, L, rfl, hi, own'.out, by rw [HNX.out]; exact HPE.out, HSR.out, bel'⟩, ?_⟩
                show n - ((i + 1 : Nat) : Int).toNat < n - (i : Int).toNat
                omega
          · obtain rfl : i = n := by omega
            rw [List.take_of_length_le (by omega)] at hper
            obtain ⟨a5, c5, rfl, hra, _⟩ := own.open hokL
            have HKI := hidMk (kids_sel h.nd h.ok hper hsrt)
            obtain ⟨ln, hln⟩ : ∃ ln, L.length = ln := ⟨_, rfl⟩
            rw [hln]
            have HLN := hidMk hln
            have hlb : ln ≤ 1300000000000 := by omega
            have bel0 := bw _ belW
            have own9 : OwnI wr wr.heap.size (.slice none 0 0) [] := ⟨rfl, Or.inl ⟨rfl, rfl⟩⟩
            clear own hper hsrt hmemL hLl hln hN
            generalize wr = wx at *
            go_wp2
            clear c0
            go_loopw [9, 10] (fun v9 v10 wq => ∃ j : Nat, v10 = .int .i64 (j : Int) ∧ j ≤ ln ∧ OwnI wq wx.heap.size v9 ((L.take j).map (·.1)) ∧ Below wx.heap.size wx wq) (fun v9 v10 wq => ln - (match v10 with | .int _ z => z.toNat | _ => 0))
            case atStart => exact ⟨0, rfl, Nat.zero_le _, own9, Below.refl _ _⟩
            case round =>
              clear own9
              obtain ⟨j, rfl, hjn, own, belx⟩ := hrel
              have hLn := HLN.out
              by_cases hj : j < ln
              · have hxj : L[j]? = some L[j] := List.getElem?_eq_getElem (by omega)
                generalize L[j] = q at hxj
                have hqo := hokL q (List.mem_of_getElem? hxj)
                obtain ⟨gb, go, rfl, lgb, hrq⟩ : ∃ gb go, a5 = some ⟨gb, go, none⟩ ∧ gb < wx.heap.size ∧ wx.rangeAt gb (go + j * 68) (rnC q) := by
                  rcases hra with e | ⟨b, o, e, h1, h2⟩
                  · rw [e] at hxj; simp at hxj
                  · exact ⟨b, o, e, h1, by rw [Nat.mul_comm]; exact h2 j q hxj⟩
                have LQ0 := rn_id hqo (rangeAt_keep hrq (belx.block _ lgb))
                rw [Nat.add_zero] at LQ0
                have LQ := hidMk LQ0
                have EBS : Hid ((Instr.buildSlice 41 1 #[(0, q.1.v)]).run Try.prog wr = .ok (.slice (some ⟨wr.heap.size, 0, none⟩) 1 1) (wr.alloc (.cells q.1.c.toArray 37))) := run_bsI q.1 hqo.k wr
                have hlit := ids_lit wr q.1 37
                have bb : Below wr.heap.size wr (wr.alloc (.cells q.1.c.toArray 37)) := (Below.refl _ _).alloc (Nat.le_refl _) _
                generalize wr.alloc (.cells q.1.c.toArray 37) = w3 at *
                have own3 := own.below bb
                have bel3 : Below wx.heap.size wx w3 := belx.trans (bb.mono belx.size)
                have htl : ((L.take j).map (·.1)).length = j := by simp; omega
                obtain ⟨v9', w4, eap, own4, g4, _⟩ := run_appI w3 wx.heap.size u9 ((L.take j).map (·.1)) (some ⟨wr.heap.size, 0, none⟩) [q.1] 1 own3 hlit (by simpa using hqo.k) (by rw [htl]; simp only [List.length_cons, List.length_nil]; omega) bel3.size
                have EAP : Hid ((Builtin.append_ #[41, 41] 41 #[u9, .slice (some ⟨wr.heap.size, 0, none⟩) 1 1]).run Try.prog w3 = .ok v9' w4) := eap
                have bel4 : Below wx.heap.size wx w4 := bel3.trans (below_grown own3 bel3.size g4)
                have hnext : (L.take j).map (·.1) ++ [q.1] = (L.take (j + 1)).map (·.1) := by rw [List.take_add_one, hxj]; simp
                rw [hnext] at own4
                have HO4 := hidMk own4
                clear eap own4 g4 own3 hlit hnext htl hxj hrq LQ0 own hLn bb
                go_wp2_with (first
                  | (refine wpList_val rfl (exec_load (t := 37) (u := .pointer (some ⟨gb, go + j * 68, none⟩)) rfl rfl LQ.out) ?_)
                  | (refine wpList_run rfl (exec_buildSlice (t := 41) (n := 1) (xv := q.1.v) (v := .slice (some ⟨wr.heap.size, 0, none⟩) 1 1) rfl rfl EBS.out) ?_)
                  | (refine wpList_run rfl (exec_append (xv := u9) (yv := .slice (some ⟨wr.heap.size, 0, none⟩) 1 1) (v := v9') rfl rfl rfl EAP.out) ?_)
                  | fail)
                rw [show ((j : Int) + 1) = ((j + 1 : Nat) : Int) by omega]
                refine ⟨⟨j + 1, rfl, hj, HO4.out, bel4⟩, ?_⟩
                show ln - ((j + 1 : Nat) : Int).toNat < ln - (j : Int).toNat
                omega
              · obtain rfl : j = ln := by omega
                rw [List.take_of_length_le (by omega)] at own
                have HO := hidMk own
                clear own hLn hjn hj
                go_wp2
                go_ret
                exact ⟨_, _, rfl, HO.out.base (Nat.le_trans bel0.size (Nat.le_refl _)), HKI.out, bel0.trans (belx.mono bel0.size)⟩
end
end Go.Proofs.Ytoofljkgdjjllaa
