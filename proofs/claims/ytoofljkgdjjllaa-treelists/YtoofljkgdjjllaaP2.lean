import Derived.Test.YtoofljkgdjjllaaP1
import Derived.Test.YtoofljkgdjjllaaRg
namespace Go.Proofs.Ytoofljkgdjjllaa
open Go.RowKit
set_option linter.unusedVariables false
set_option linter.unusedSimpArgs false

def slLen : Value → Nat
  | .slice _ n _ => n
  | _ => 0
theorem ids_tail {w : World} {a : Option Addr} {x : IdK} {L : List IdK} (h : IdsAt w a (x :: L)) : ∃ b off, a = some ⟨b, off, none⟩ ∧ b < w.heap.size ∧ w.rangeAt b off x.c ∧ IdsAt w (some ⟨b, off + 33, none⟩) L := by
  rcases h with h | ⟨b, off, e, hl, hr⟩
  · cases h
  · refine ⟨b, off, e, hl, by have := hr 0 x rfl; simpa using this, Or.inr ⟨b, off + 33, rfl, hl, fun i y hy => ?_⟩⟩
    have := hr (i + 1) y (by simpa using hy)
    rwa [show off + 33 * (i + 1) = off + 33 + 33 * i by omega] at this
theorem IdsAt.keepT {w w' : World} {a : Option Addr} {L : List IdK} (h : IdsAt w a L) (hb : ∀ b off, a = some ⟨b, off, none⟩ → b < w.heap.size → w'.heap[b]? = w.heap[b]?) (hs : w.heap.size ≤ w'.heap.size) : IdsAt w' a L := by
  rcases h with h | ⟨b, off, e, hl, hr⟩
  · exact .inl h
  · exact .inr ⟨b, off, e, Nat.lt_of_lt_of_le hl hs, fun i x hx => rangeAt_keep (hr i x hx) (hb b off e hl)⟩
section
variable (d : Nat) (NL : List RN) (pv : Value)
theorem ref_dom {w : World} (h : RefAt w d NL pv) : Dom (lookN NL) (NL.map (·.1)) := by
  refine ⟨fun x => ⟨fun hx => ?_, fun hx => ?_⟩, h.nd, fun x hx => ?_⟩
  · obtain ⟨p, hp, rfl⟩ := List.mem_map.1 hx
    unfold lookN
    rw [M.look_of_mem h.nd hp]; rfl
  · obtain ⟨v, hv⟩ := Option.isSome_iff_exists.1 hx
    exact List.mem_map.2 ⟨_, M.look_mem hv, rfl⟩
  · obtain ⟨p, hp, rfl⟩ := List.mem_map.1 hx
    exact (h.ok p hp).k
set_option maxRecDepth 100000 in
set_option maxHeartbeats 4000000 in
theorem rwalk_any (w : World) (h : RefAt w d NL pv) (hn : NL.length ≤ 1300000000000) (hf : Forest (lookN NL)) :
    Calls Try.prog 35 #[.pointer (some ⟨d, 0, none⟩)] w fun e w' => ∃ v L, e = .returned v ∧ OwnI w' w.heap.size v L ∧ IsWalk (lookN NL) L ∧ Below w.heap.size w w' := by
  have lt := h.lt
  have hD := ref_dom d NL pv h
  obtain ⟨Wk, hWk⟩ := walk_exist hf hD
  have hWl := hWk.le hf hD
  rw [List.length_map] at hWl
  have HK := hidMk (fun (k : IdK) (hk : k.ok) (W : World) (bb : Below w.heap.size w W) => rkids_any d NL pv k W (h.below bb) hk hn hf)
  have hWk' := hWk
  obtain ⟨K0, hK0, hF0⟩ := hWk
  have hle0 : K0.length ≤ NL.length := by have := hF0.sub.length_le; omega
  have HD := hidMk hD
  go_enter Try.func35, Try.ntmps35
  go_upto_region 4 with fail
  go_wp2_with (first
    | (refine wpList_val rfl (exec_build0 rfl (build_id _)) ?_)
    | (go_at_call 36; refine (HK.out zId zId_ok _ (Below.refl _ _)).mono ?_; rintro e w1 ⟨v, L, rfl, own, hik, b1⟩; obtain rfl := hik.unique hK0; have HO := hidMk own; clear own)
    | fail)
  go_loopw [3, 4] (fun v3 v4 wr => ∃ (Lo A out : List IdK), OwnI wr w.heap.size v3 Lo ∧ (∃ a c, v4 = .slice a A.length c ∧ IdsAt wr a A ∧ A.length ≤ c) ∧ Flat (lookN NL) A out ∧ Lo ++ out = Wk ∧ (∀ a l c, v4 = .slice (some a) l c → v3.ownBlock ≠ some a.block) ∧ (∀ x ∈ A, x.ok) ∧ (∀ x ∈ Lo, x.ok) ∧ Below w.heap.size w wr) (fun v3 v4 wr => Wk.length - slLen v3)
  case atStart =>
    exact ⟨[], L, Wk, ⟨rfl, Or.inl ⟨rfl, rfl⟩⟩, HO.out.open hK0.ok, hF0, rfl, fun a l c e => (by simp [Value.ownBlock]), hK0.ok, fun x hx => (by cases hx), b1⟩
  case round =>
    clear HO b1 hF0 hle0 hK0
    obtain ⟨Lo, A, out, own3, is4, hF, hW, hap, hokA, hokL, bel⟩ := hrel
    obtain ⟨a4, c4, rfl, ia4, hlc4⟩ := is4
    have HOL := hidMk hokL
    have HU3 : Hid (∃ a c, u3 = .slice a Lo.length c) := by obtain ⟨a, c, e, _⟩ := own3.open hokL; exact ⟨a, c, e⟩
    clear hokL
    cases hF with
    | nil =>
      have HO3 := hidMk own3
      have HWk := hidMk hWk'
      rw [List.append_nil] at hW
      subst hW
      clear own3 ia4 hap hokA hWk'
      simp only [List.length_nil]
      go_wp2
      go_ret
      exact ⟨_, _, rfl, HO3.out, HWk.out, bel⟩
    | @cons x K rest out1 hK hF1 =>
      have hxo : x.ok := hokA x (by simp)
      have hokR : ∀ y ∈ rest, y.ok := fun y hy => hokA y (List.mem_cons_of_mem _ hy)
      have hWl2 := congrArg List.length hW
      rw [List.length_append, List.length_cons] at hWl2
      have hsub1 := hF1.sub.length_le
      rw [List.length_append] at hsub1
      obtain ⟨b, o, rfl, lb, hr0, ia4r⟩ := ids_tail ia4
      have hap4 := hap _ _ _ rfl
      obtain ⟨m, hm⟩ : ∃ m, rest.length = m := ⟨_, rfl⟩
      obtain ⟨n4, hn4⟩ : ∃ n4, (x :: rest).length = n4 := ⟨_, rfl⟩
      have hn4m : n4 = m + 1 := by rw [← hn4, List.length_cons, hm]
      rw [hn4]
      have hn0 : 0 < n4 := by omega
      have hn1 : 1 ≤ n4 := by omega
      have HL1 := hidMk (load_id_at hxo hr0)
      obtain ⟨wz, ea, es⟩ := id_new wr x hxo
      obtain ⟨wa, hwa⟩ : ∃ wa, wr.alloc (.cells x.c.toArray 37) = wa := ⟨_, rfl⟩
      have ba : Below wr.heap.size wr wa := by rw [← hwa]; exact (Below.refl _ _).alloc (Nat.le_refl _) _
      have za : wa.heap.size = wr.heap.size + 1 := by rw [← hwa]; simp
      have hxa : IdAt wa wr.heap.size x := by rw [← hwa]; exact heap_alloc_new _ _
      rw [hwa] at es
      have HL2 := hidMk (load_id hxo hxa)
      have ebs := run_bsI x hxo wa
      obtain ⟨wb, hwb⟩ : ∃ wb, wa.alloc (.cells x.c.toArray 37) = wb := ⟨_, rfl⟩
      have bb : Below wa.heap.size wa wb := by rw [← hwb]; exact (Below.refl _ _).alloc (Nat.le_refl _) _
      have zb : wb.heap.size = wa.heap.size + 1 := by rw [← hwb]; simp
      have hlit := ids_lit wa x 37
      rw [hwb] at ebs hlit
      have own3b := (own3.below ba).below bb
      have hl3 : ∀ j, u3.ownBlock = some j → j < wr.heap.size := fun j hj => by obtain ⟨_, c, hc⟩ := own3.ge j hj; exact (Array.getElem?_eq_some_iff.1 hc).1
      have belb : Below w.heap.size w wb := (bel.trans (ba.mono bel.size)).trans (bb.mono (by have := bel.size; omega))
      have hlo : Lo.length + 1 ≤ 5600000000000 := by omega
      obtain ⟨v3', wc, eap, own3c, gc, ob3⟩ := run_appI wb w.heap.size u3 Lo (some ⟨wa.heap.size, 0, none⟩) [x] 1 own3b hlit (by simpa using hxo) hlo belb.size
      have belc : Below w.heap.size w wc := belb.trans (below_grown own3b belb.size gc)
      have hkeep : ∀ j, j < wr.heap.size → u3.ownBlock ≠ some j → wc.heap[j]? = wr.heap[j]? := fun j hj hne => (gc.block j (by omega) (fun e => hne e.symm)).trans ((bb.block j (by omega)).trans (ba.block j hj))
      have hxc : IdAt wc wr.heap.size x := (gc.block _ (by omega) (fun e => by have := hl3 _ e.symm; omega)).trans ((bb.block _ (by omega)).trans hxa)
      have hsc : wr.heap.size ≤ wc.heap.size := by have := gc.size; omega
      have ia4c : IdsAt wc (some ⟨b, o + 33, none⟩) rest := ia4r.keepT (fun b' o' e hl => by
        simp only [Option.some.injEq, Addr.mk.injEq] at e
        obtain ⟨rfl, _⟩ := e
        exact hkeep b hl hap4) hsc
      have HL3 := hidMk (load_id hxo hxc)
      have HK2 := hidMk (HK.out x hxo wc belc)
      have HBS : Hid ((Instr.buildSlice 41 1 #[(0, x.v)]).run Try.prog wa = .ok (.slice (some ⟨wa.heap.size, 0, none⟩) 1 1) wb) := ebs
      have HAP : Hid ((Builtin.append_ #[41, 41] 41 #[u3, .slice (some ⟨wa.heap.size, 0, none⟩) 1 1]).run Try.prog wb = .ok v3' wc) := eap
      have HEA := hidMk ea
      have HES := hidMk es
      have HW := hidMk hW
      have HLR := hidMk (And.intro hm hn4m)
      have hK0 := hK
      have HWL2 := hidMk hWl2
      have HZ := hidMk (And.intro za zb)
      have hkle : K.length + rest.length ≤ 5600000000000 := by omega
      have hmn : m + 1 ≤ 5600000000000 := by omega
      have lb' : b < wc.heap.size := by omega
      clear hW hm hn4 hWl2 za zb ebs eap ea es hwa hwb hlit own3b own3 hxa hxc hsub1 hWk' hWl ia4 ia4r hr0 hap hn
      go_upto_region 7 with (first
        | (refine wpList_val rfl (exec_load (t := 37) (u := .pointer (some ⟨b, o, none⟩)) rfl rfl HL1.out) ?_)
        | (refine wpList_run rfl (exec_alloc (t := 37) rfl HEA.out) ?_)
        | (refine wpList_skip rfl rfl (exec_store (t := 37) rfl rfl rfl HES.out) ?_)
        | fail)
      simp only [Act.put, List.setIfInBounds_toArray, List.set_cons_zero, List.set_cons_succ]
      clear HL1 HEA HES
      go_upto_region 9 with (first
        | (refine wpList_val rfl (exec_load (t := 37) (u := .pointer (some ⟨wr.heap.size, 0, none⟩)) rfl rfl HL2.out) ?_)
        | (refine wpList_run rfl (exec_buildSlice (t := 41) (n := 1) (xv := x.v) (v := .slice (some ⟨wa.heap.size, 0, none⟩) 1 1) rfl rfl HBS.out) ?_)
        | (refine wpList_run rfl (exec_append (xv := u3) (yv := .slice (some ⟨wa.heap.size, 0, none⟩) 1 1) (v := v3') rfl rfl rfl HAP.out) ?_)
        | (refine wpList_val rfl (exec_load (t := 37) (u := .pointer (some ⟨wr.heap.size, 0, none⟩)) rfl rfl HL3.out) ?_)
        | (go_at_call 36; refine HK2.out.mono ?_; rintro e wd ⟨v6, K', rfl, own6, hik, bd⟩; obtain rfl := hik.unique hK0; have HO6 := hidMk own6; clear own6)
        | fail)
      clear HL2 HL3 HK2 HBS HAP
      have ia4d := ia4c.below bd
      have beld : Below w.heap.size w wd := belc.trans (bd.mono belc.size)
      have hsd := bd.size
      have HM := HLR.out.1
      have hcl : m + 1 ≤ c4 := by rw [List.length_cons, HM] at hlc4; exact hlc4
      obtain ⟨ay, cy, iay, hform⟩ : ∃ ay cy, IdsAt wd ay rest ∧ ((c4 = 1 ∧ m = 0 ∧ ay = some ⟨b, o, none⟩ ∧ cy = 0) ∨ (∃ cc, c4 = cc + 2 ∧ ay = some ⟨b, o + 33, none⟩ ∧ cy = cc + 1)) := by
        by_cases e : c4 = 1
        · have hr : rest = [] := List.eq_nil_of_length_eq_zero (by omega)
          exact ⟨some ⟨b, o, none⟩, 0, Or.inl hr, Or.inl ⟨e, by omega, rfl, rfl⟩⟩
        · exact ⟨some ⟨b, o + 33, none⟩, c4 - 1, ia4d, Or.inr ⟨c4 - 2, by omega, rfl, by omega⟩⟩
      obtain ⟨v4', w9, eap9, own9, g9, _⟩ := run_appI wd wc.heap.size v6 K' ay rest cy HO6.out iay hokR hkle hsd
      have bel9c : Below wc.heap.size wd w9 := below_grown HO6.out hsd g9
      have bel9 : Below w.heap.size w w9 := beld.trans (bel9c.mono belc.size)
      have own3d := own3c.below bd
      have l3c : ∀ j, v3'.ownBlock = some j → j < wc.heap.size := fun j hj => by obtain ⟨_, c, hc⟩ := own3c.ge j hj; exact (Array.getElem?_eq_some_iff.1 hc).1
      have own39 := own3d.keep (w' := w9) (fun j hj => bel9c.block j (l3c j hj))
      have hok' : ∀ y ∈ K' ++ rest, y.ok := fun y hy => by
        rcases List.mem_append.1 hy with hy | hy
        · exact hK0.ok y hy
        · exact hokR y hy
      have his := own9.open hok'
      have hap9 : ∀ a l c, v4' = .slice (some a) l c → v3'.ownBlock ≠ some a.block := fun a l c e q => by
        have h1 := (own9.ge a.block (by rw [e]; rfl)).1
        have h2 := l3c _ q
        omega
      have EAP9 : Hid ((Builtin.append_ #[41, 41] 41 #[v6, .slice ay m cy]).run Try.prog wd = .ok v4' w9) := by rw [← HM]; exact eap9
      have HF := hidMk own39
      have HG := hidMk his
      have HFM := hidMk HM
      have fin : (∃ (Lo' A' out' : List IdK), OwnI w9 w.heap.size v3' Lo' ∧ (∃ a c, v4' = .slice a A'.length c ∧ IdsAt w9 a A' ∧ A'.length ≤ c) ∧ Flat (lookN NL) A' out' ∧ Lo' ++ out' = Wk ∧ (∀ a l c, v4' = .slice (some a) l c → v3'.ownBlock ≠ some a.block) ∧ (∀ x ∈ A', x.ok) ∧ (∀ x ∈ Lo', x.ok) ∧ Below w.heap.size w w9) ∧
          Wk.length - slLen v3' < Wk.length - slLen u3 := by
        have hokLo : ∀ y ∈ Lo ++ [x], y.ok := fun y hy => by
          rcases List.mem_append.1 hy with hy | hy
          · exact HOL.out y hy
          · simp at hy; subst hy; exact hxo
        refine ⟨⟨Lo ++ [x], K' ++ rest, out1, HF.out, HG.out, hF1, by rw [List.append_assoc]; exact HW.out, hap9, hok', hokLo, bel9⟩, ?_⟩
        obtain ⟨a3, c3, e3, _⟩ := HF.out.open hokLo
        obtain ⟨a9, c9, e9⟩ := HU3.out
        rw [e3, e9]
        have := HWL2.out
        simp only [slLen, List.length_append, List.length_cons, List.length_nil]
        omega
      have FIN := hidMk fin
      clear fin own39 his own9 own3d own3c eap9 g9 ia4d ia4c HO6 HM hn4m hap9 hlc4 iay
      rcases hform with ⟨rfl, rfl, rfl, rfl⟩ | ⟨cc, rfl, rfl, rfl⟩
      · go_wp2_with (first
          | (refine wpList_run rfl (exec_append (xv := v6) (yv := .slice (some ⟨b, o, none⟩) 0 0) (v := v4') rfl rfl rfl EAP9.out) ?_)
          | fail)
        exact FIN.out
      · go_wp2_with (first
          | (refine wpList_run rfl (exec_append (xv := v6) (yv := .slice (some ⟨b, o + 33, none⟩) m (cc + 1)) (v := v4') rfl rfl rfl EAP9.out) ?_)
          | fail)
        exact FIN.out
theorem tells_ref {w : World} (h : RefAt w d NL pv) (hf : Forest (lookN NL)) (hn : NL.length ≤ 1300000000000) :
    Tells w (.pointer (some ⟨d, 0, none⟩)) (lookN NL) (NL.map (·.1)) 34 35 36 38 40 41 := {
  len := fun W b => by rw [List.length_map]; exact rlen_any d NL pv W (h.below b)
  walk := fun W b => (rwalk_any d NL pv W (h.below b) hn hf).mono fun e w' ⟨v, L, h1, h2, h3, h4⟩ => ⟨v, L, h1, own_is h2 (walk_ok (ref_dom d NL pv h) h3), h3, h4⟩
  kids := fun k hk W b => (rkids_any d NL pv k W (h.below b) hk hn hf).mono fun e w' ⟨v, L, h1, h2, h3, h4⟩ => ⟨v, L, h1, own_is h2 h3.ok, h3, h4⟩
  under := fun k hk W b => runder_any d NL pv k W (h.below b) hk hn hf
  live := fun k hk W b => rlive_any d NL pv k W (h.below b) hk hn hf
  deep := fun k hk W b => rdeep_any d NL pv k W (h.below b) hk hn hf }
end
end Go.Proofs.Ytoofljkgdjjllaa

namespace Go.Proofs.Ytoofljkgdjjllaa
open Go.RowKit
set_option linter.unusedVariables false
set_option linter.unusedSimpArgs false

def alike9_o0 : Oper := ⟨some 62, .load 37 (.tmp 9), 37, "law.go:106", #[], none⟩
def alike9_o1 : Oper := ⟨some 63, .load 37 (.tmp 12), 37, "law.go:106", #[], none⟩
def alike9_o2 : Oper := ⟨some 64, .binOp BinOp.neq 37 (.tmp 62) (.tmp 63) 37, 4, "law.go:106", #[⟨0, .data⟩, ⟨1, .data⟩], none⟩
def alike9_o3 : Oper := ⟨some 65, .move (.tmp 64), 4, "law.go:106", #[⟨2, .data⟩], none⟩
def alike9_o4 : Oper := ⟨some 66, .move (.tmp 10), 9, "law.go:106", #[⟨3, .guard⟩], some (3, false)⟩
def alike9_o5 : Oper := ⟨some 67, .move (.tmp 13), 9, "law.go:106", #[⟨3, .guard⟩], some (3, false)⟩
def alike9_o6 : Oper := ⟨some 68, .binOp BinOp.neq 9 (.tmp 66) (.tmp 67) 9, 4, "law.go:106", #[⟨4, .data⟩, ⟨5, .data⟩, ⟨3, .guard⟩], some (3, false)⟩
def alike9_o7 : Oper := ⟨some 69, .pick (.tmp 65) (Operand.const (Value.bool true)) (.tmp 68), 4, "law.go:106", #[⟨3, .data⟩, ⟨6, .data⟩], none⟩
def alike9_o8 : Oper := ⟨some 70, .move (.tmp 69), 4, "law.go:106", #[⟨7, .data⟩, ⟨3, .chain⟩], none⟩
def alike9_o9 : Oper := ⟨some 71, .move (.tmp 11), 4, "law.go:106", #[⟨8, .guard⟩], some (8, false)⟩
def alike9_o10 : Oper := ⟨some 72, .move (.tmp 14), 4, "law.go:106", #[⟨8, .guard⟩], some (8, false)⟩
def alike9_o11 : Oper := ⟨some 73, .binOp BinOp.neq 4 (.tmp 71) (.tmp 72) 4, 4, "law.go:106", #[⟨9, .data⟩, ⟨10, .data⟩, ⟨8, .guard⟩], some (8, false)⟩
def alike9_o12 : Oper := ⟨some 74, .pick (.tmp 70) (Operand.const (Value.bool true)) (.tmp 73), 4, "law.go:106", #[⟨8, .data⟩, ⟨11, .data⟩], none⟩
def alike9_o13 : Oper := ⟨some 75, .move (.tmp 74), 4, "law.go:106", #[⟨12, .data⟩, ⟨8, .chain⟩], none⟩
def alike9_o14 : Oper := ⟨some 76, .move (.tmp 0), 25, "law.go:106", #[⟨13, .guard⟩], some (13, false)⟩
def alike9_o15 : Oper := ⟨some 77, .load 37 (.tmp 8), 37, "law.go:106", #[⟨13, .guard⟩], some (13, false)⟩
def alike9_o16 : Oper := ⟨some 78, .call { callee := Callee.value (Operand.func 39), args := #[.tmp 76, .tmp 77], argTypes := #[25, 37] }, 4, "law.go:106", #[⟨14, .data⟩, ⟨15, .data⟩, ⟨13, .chain⟩, ⟨13, .guard⟩], some (13, false)⟩
def alike9_o17 : Oper := ⟨some 79, .move (.tmp 1), 27, "law.go:106", #[⟨13, .guard⟩], some (13, false)⟩
def alike9_o18 : Oper := ⟨some 80, .load 37 (.tmp 8), 37, "law.go:106", #[⟨13, .guard⟩], some (13, false)⟩
def alike9_o19 : Oper := ⟨some 81, .call { callee := Callee.value (Operand.func 40), args := #[.tmp 79, .tmp 80], argTypes := #[27, 37] }, 4, "law.go:106", #[⟨17, .data⟩, ⟨18, .data⟩, ⟨16, .chain⟩, ⟨13, .guard⟩], some (13, false)⟩
def alike9_o20 : Oper := ⟨some 82, .binOp BinOp.neq 4 (.tmp 78) (.tmp 81) 4, 4, "law.go:106", #[⟨16, .data⟩, ⟨19, .data⟩, ⟨13, .guard⟩], some (13, false)⟩
def alike9_o21 : Oper := ⟨some 83, .pick (.tmp 75) (Operand.const (Value.bool true)) (.tmp 82), 4, "law.go:106", #[⟨13, .data⟩, ⟨20, .data⟩], none⟩
def alike9_o22 : Oper := ⟨some 84, .move (.tmp 83), 4, "law.go:106", #[⟨21, .data⟩, ⟨19, .chain⟩], none⟩
def alike9_o23 : Oper := ⟨some 85, .move (.tmp 0), 25, "law.go:106", #[⟨22, .guard⟩], some (22, false)⟩
def alike9_o24 : Oper := ⟨some 86, .load 37 (.tmp 8), 37, "law.go:106", #[⟨22, .guard⟩], some (22, false)⟩
def alike9_o25 : Oper := ⟨some 87, .call { callee := Callee.value (Operand.func 29), args := #[.tmp 85, .tmp 86], argTypes := #[25, 37] }, 3, "law.go:106", #[⟨23, .data⟩, ⟨24, .data⟩, ⟨22, .chain⟩, ⟨22, .guard⟩], some (22, false)⟩
def alike9_o26 : Oper := ⟨some 88, .move (.tmp 1), 27, "law.go:106", #[⟨22, .guard⟩], some (22, false)⟩
def alike9_o27 : Oper := ⟨some 89, .load 37 (.tmp 8), 37, "law.go:106", #[⟨22, .guard⟩], some (22, false)⟩
def alike9_o28 : Oper := ⟨some 90, .call { callee := Callee.value (Operand.func 41), args := #[.tmp 88, .tmp 89], argTypes := #[27, 37] }, 3, "law.go:106", #[⟨26, .data⟩, ⟨27, .data⟩, ⟨25, .chain⟩, ⟨22, .guard⟩], some (22, false)⟩
def alike9_o29 : Oper := ⟨some 91, .binOp BinOp.neq 3 (.tmp 87) (.tmp 90) 3, 4, "law.go:106", #[⟨25, .data⟩, ⟨28, .data⟩, ⟨22, .guard⟩], some (22, false)⟩
def alike9_o30 : Oper := ⟨some 92, .pick (.tmp 84) (Operand.const (Value.bool true)) (.tmp 91), 4, "law.go:106", #[⟨22, .data⟩, ⟨29, .data⟩], none⟩
def alike9_o31 : Oper := ⟨some 93, .move (.tmp 92), 4, "law.go:106", #[⟨30, .data⟩, ⟨28, .chain⟩], none⟩
def alike9_o32 : Oper := ⟨some 94, .move (.tmp 0), 25, "law.go:106", #[⟨31, .guard⟩], some (31, false)⟩
def alike9_o33 : Oper := ⟨some 95, .load 37 (.tmp 8), 37, "law.go:106", #[⟨31, .guard⟩], some (31, false)⟩
def alike9_o34 : Oper := ⟨some 96, .call { callee := Callee.value (Operand.func 24), args := #[.tmp 94, .tmp 95], argTypes := #[25, 37] }, 41, "law.go:106", #[⟨32, .data⟩, ⟨33, .data⟩, ⟨31, .chain⟩, ⟨31, .guard⟩], some (31, false)⟩
def alike9_o35 : Oper := ⟨some 97, .move (.tmp 1), 27, "law.go:106", #[⟨31, .guard⟩], some (31, false)⟩
def alike9_o36 : Oper := ⟨some 98, .load 37 (.tmp 8), 37, "law.go:106", #[⟨31, .guard⟩], some (31, false)⟩
def alike9_o37 : Oper := ⟨some 99, .call { callee := Callee.value (Operand.func 36), args := #[.tmp 97, .tmp 98], argTypes := #[27, 37] }, 41, "law.go:106", #[⟨35, .data⟩, ⟨36, .data⟩, ⟨34, .chain⟩, ⟨31, .guard⟩], some (31, false)⟩
def alike9_o38 : Oper := ⟨some 100, .call { callee := Callee.value (Operand.func 28), args := #[.tmp 96, .tmp 99], argTypes := #[41, 41] }, 4, "law.go:106", #[⟨34, .data⟩, ⟨37, .data⟩, ⟨37, .chain⟩, ⟨31, .guard⟩], some (31, false)⟩
def alike9_o39 : Oper := ⟨some 101, .unOp UnOp.not 4 (.tmp 100), 4, "law.go:106", #[⟨38, .data⟩, ⟨31, .guard⟩], some (31, false)⟩
def alike9_o40 : Oper := ⟨some 102, .pick (.tmp 93) (Operand.const (Value.bool true)) (.tmp 101), 4, "law.go:106", #[⟨31, .data⟩, ⟨39, .data⟩], none⟩
def alike9_ops : Array Oper := #[alike9_o0, alike9_o1, alike9_o2, alike9_o3, alike9_o4, alike9_o5, alike9_o6, alike9_o7, alike9_o8, alike9_o9, alike9_o10, alike9_o11, alike9_o12, alike9_o13, alike9_o14, alike9_o15, alike9_o16, alike9_o17, alike9_o18, alike9_o19, alike9_o20, alike9_o21, alike9_o22, alike9_o23, alike9_o24, alike9_o25, alike9_o26, alike9_o27, alike9_o28, alike9_o29, alike9_o30, alike9_o31, alike9_o32, alike9_o33, alike9_o34, alike9_o35, alike9_o36, alike9_o37, alike9_o38, alike9_o39, alike9_o40]
set_option maxRecDepth 100000 in
set_option maxHeartbeats 4000000 in
theorem alike9 (B : Nat) (w0 : World) (bi bu bv : Nat) (tv dv kv uv : Value) (ks : ByteArray) (pb lb : Bool) (dd : Int) (IK : World → Value → Prop) (a : Act) (w : World) (Q : Exit → Act → World → Prop) (hsz : a.tmps.size = 103)
    (t0 : a.tmps.getD 0 undef = tv)
    (t1 : a.tmps.getD 1 undef = dv)
    (t8 : a.tmps.getD 8 undef = .pointer (some ⟨bi, 0, none⟩))
    (t9 : a.tmps.getD 9 undef = .pointer (some ⟨bu, 0, none⟩))
    (t10 : a.tmps.getD 10 undef = .string ks)
    (t11 : a.tmps.getD 11 undef = .bool pb)
    (t12 : a.tmps.getD 12 undef = .pointer (some ⟨bv, 0, none⟩))
    (t13 : a.tmps.getD 13 undef = .string ks)
    (t14 : a.tmps.getD 14 undef = .bool pb)
    (h0 : Below B w0 w.drew)
    (hN : ∀ W, Below B w0 W → B ≤ W.heap.size)
    (KI : ∀ W W' v, IK W v → Below W.heap.size W W' → IK W' v)
    (CLT : ∀ W, Below B w0 W → Calls Try.prog 39 #[tv, kv] W fun e w' => e = .returned (.bool lb) ∧ Below W.heap.size W w')
    (CLD : ∀ W, Below B w0 W → Calls Try.prog 40 #[dv, kv] W fun e w' => e = .returned (.bool lb) ∧ Below W.heap.size W w')
    (CDT : ∀ W, Below B w0 W → Calls Try.prog 29 #[tv, kv] W fun e w' => e = .returned (.int .i64 dd) ∧ Below W.heap.size W w')
    (CDD : ∀ W, Below B w0 W → Calls Try.prog 41 #[dv, kv] W fun e w' => e = .returned (.int .i64 dd) ∧ Below W.heap.size W w')
    (CKT : ∀ W, Below B w0 W → Calls Try.prog 24 #[tv, kv] W fun e w' => ∃ v, e = .returned v ∧ IK w' v ∧ Below W.heap.size W w')
    (CKD : ∀ W, Below B w0 W → Calls Try.prog 36 #[dv, kv] W fun e w' => ∃ v, e = .returned v ∧ IK w' v ∧ Below W.heap.size W w')
    (CS : ∀ W v u, Below B w0 W → IK W v → IK W u → Calls Try.prog 28 #[v, u] W fun e w' => e = .returned (.bool true) ∧ Below W.heap.size W w')
    (G1 : ∀ W, Below B w0 W → (Instr.loadAt 37 (.pointer (some ⟨bu, 0, none⟩))).run Try.prog W = .ok (uv) W)
    (G2 : ∀ W, Below B w0 W → (Instr.loadAt 37 (.pointer (some ⟨bv, 0, none⟩))).run Try.prog W = .ok (uv) W)
    (G3 : ∀ W, (eqGuard BinOp.neq 37 (Operand.tmp 62) (Operand.tmp 63) (uv) (uv)).run Try.prog W = .ok () W)
    (G4 : ∀ W, Below B w0 W → (binOp BinOp.neq 37 (uv) (uv)).run Try.prog W = .ok (.bool false) W)
    (G5 : ∀ W, (eqGuard BinOp.neq 9 (Operand.tmp 66) (Operand.tmp 67) (.string ks) (.string ks)).run Try.prog W = .ok () W)
    (G6 : ∀ W, Below B w0 W → (binOp BinOp.neq 9 (.string ks) (.string ks)).run Try.prog W = .ok (.bool false) W)
    (G7 : ∀ W, (eqGuard BinOp.neq 4 (Operand.tmp 71) (Operand.tmp 72) (.bool pb) (.bool pb)).run Try.prog W = .ok () W)
    (G8 : ∀ W, Below B w0 W → (binOp BinOp.neq 4 (.bool pb) (.bool pb)).run Try.prog W = .ok (.bool false) W)
    (G9 : ∀ W, Below B w0 W → (Instr.loadAt 37 (.pointer (some ⟨bi, 0, none⟩))).run Try.prog W = .ok (kv) W)
    (G10 : ∀ W, (eqGuard BinOp.neq 4 (Operand.tmp 78) (Operand.tmp 81) (.bool lb) (.bool lb)).run Try.prog W = .ok () W)
    (G11 : ∀ W, Below B w0 W → (binOp BinOp.neq 4 (.bool lb) (.bool lb)).run Try.prog W = .ok (.bool false) W)
    (G12 : ∀ W, (eqGuard BinOp.neq 3 (Operand.tmp 87) (Operand.tmp 90) (.int .i64 dd) (.int .i64 dd)).run Try.prog W = .ok () W)
    (G13 : ∀ W, Below B w0 W → (binOp BinOp.neq 3 (.int .i64 dd) (.int .i64 dd)).run Try.prog W = .ok (.bool false) W)
    (h : ∀ (v u : Value) (a' : Act) (w' : World), Below B w0 w' → a' = (((((((((((((((((((((((((((((((((((((((((a).put (some 62) (uv)).put (some 63) (uv)).put (some 64) (.bool false)).put (some 65) (.bool false)).put (some 66) (.string ks)).put (some 67) (.string ks)).put (some 68) (.bool false)).put (some 69) (.bool false)).put (some 70) (.bool false)).put (some 71) (.bool pb)).put (some 72) (.bool pb)).put (some 73) (.bool false)).put (some 74) (.bool false)).put (some 75) (.bool false)).put (some 76) (tv)).put (some 77) (kv)).put (some 79) (dv)).put (some 80) (kv)).put (some 78) (.bool lb)).put (some 81) (.bool lb)).put (some 82) (.bool false)).put (some 83) (.bool false)).put (some 84) (.bool false)).put (some 85) (tv)).put (some 86) (kv)).put (some 88) (dv)).put (some 89) (kv)).put (some 87) (.int .i64 dd)).put (some 90) (.int .i64 dd)).put (some 91) (.bool false)).put (some 92) (.bool false)).put (some 93) (.bool false)).put (some 94) (tv)).put (some 95) (kv)).put (some 97) (dv)).put (some 98) (kv)).put (some 96) (v)).put (some 99) (u)).put (some 100) (.bool true)).put (some 101) (.bool false)).put (some 102) (.bool false) → Q .normal a' w') :
    (Code.region 9 alike9_ops true).wp Try.prog Q a w := by
  refine wp_region_noPanic ?_
  refine wp_region_held_drew (S := fun w' => Below B w0 w') (by kernel_rfl) (h0) (fun hHeld => ?_)
  refine tk 0 alike9_o0 (uv) (by rfl) (fun w1 hw => exec_load rfl t9 (G1 _ hw)) hHeld (fun a1 e1 => ?_)
  rw [← e1] at h
  have z1 := pz e1 hsz
  replace t0 := pk e1 t0
  replace t1 := pk e1 t1
  replace t8 := pk e1 t8
  clear t9
  replace t10 := pk e1 t10
  replace t11 := pk e1 t11
  replace t12 := pk e1 t12
  replace t13 := pk e1 t13
  replace t14 := pk e1 t14
  have t62 := pq e1 hsz
  clear e1 hsz
  refine tk 1 alike9_o1 (uv) (by rfl) (fun w1 hw => exec_load rfl t12 (G2 _ hw)) hHeld (fun a2 e2 => ?_)
  rw [← e2] at h
  have z2 := pz e2 z1
  replace t0 := pk e2 t0
  replace t1 := pk e2 t1
  replace t8 := pk e2 t8
  replace t10 := pk e2 t10
  replace t11 := pk e2 t11
  clear t12
  replace t13 := pk e2 t13
  replace t14 := pk e2 t14
  replace t62 := pk e2 t62
  have t63 := pq e2 z1
  clear e2 z1
  refine tk 2 alike9_o2 (.bool false) (by rfl) (fun w1 hw => exec_binOp rfl t62 t63 (G3 _) (G4 _ hw)) hHeld (fun a3 e3 => ?_)
  rw [← e3] at h
  have z3 := pz e3 z2
  replace t0 := pk e3 t0
  replace t1 := pk e3 t1
  replace t8 := pk e3 t8
  replace t10 := pk e3 t10
  replace t11 := pk e3 t11
  replace t13 := pk e3 t13
  replace t14 := pk e3 t14
  clear t62
  clear t63
  have t64 := pq e3 z2
  clear e3 z2
  refine tk 3 alike9_o3 (.bool false) (by rfl) (fun w1 hw => exec_move rfl t64) hHeld (fun a4 e4 => ?_)
  rw [← e4] at h
  have z4 := pz e4 z3
  replace t0 := pk e4 t0
  replace t1 := pk e4 t1
  replace t8 := pk e4 t8
  replace t10 := pk e4 t10
  replace t11 := pk e4 t11
  replace t13 := pk e4 t13
  replace t14 := pk e4 t14
  clear t64
  have t65 := pq e4 z3
  clear e4 z3
  refine tk 4 alike9_o4 (.string ks) (by simp [Region.wanted, yielded, alike9_o4, alike9_o3, alike9_ops, tget z4 (by decide) t65]) (fun w1 hw => exec_move rfl t10) hHeld (fun a5 e5 => ?_)
  rw [← e5] at h
  have z5 := pz e5 z4
  replace t0 := pk e5 t0
  replace t1 := pk e5 t1
  replace t8 := pk e5 t8
  clear t10
  replace t11 := pk e5 t11
  replace t13 := pk e5 t13
  replace t14 := pk e5 t14
  replace t65 := pk e5 t65
  have t66 := pq e5 z4
  clear e5 z4
  refine tk 5 alike9_o5 (.string ks) (by simp [Region.wanted, yielded, alike9_o5, alike9_o3, alike9_ops, tget z5 (by decide) t65]) (fun w1 hw => exec_move rfl t13) hHeld (fun a6 e6 => ?_)
  rw [← e6] at h
  have z6 := pz e6 z5
  replace t0 := pk e6 t0
  replace t1 := pk e6 t1
  replace t8 := pk e6 t8
  replace t11 := pk e6 t11
  clear t13
  replace t14 := pk e6 t14
  replace t65 := pk e6 t65
  replace t66 := pk e6 t66
  have t67 := pq e6 z5
  clear e6 z5
  refine tk 6 alike9_o6 (.bool false) (by simp [Region.wanted, yielded, alike9_o6, alike9_o3, alike9_ops, tget z6 (by decide) t65]) (fun w1 hw => exec_binOp rfl t66 t67 (G5 _) (G6 _ hw)) hHeld (fun a7 e7 => ?_)
  rw [← e7] at h
  have z7 := pz e7 z6
  replace t0 := pk e7 t0
  replace t1 := pk e7 t1
  replace t8 := pk e7 t8
  replace t11 := pk e7 t11
  replace t14 := pk e7 t14
  replace t65 := pk e7 t65
  clear t66
  clear t67
  have t68 := pq e7 z6
  clear e7 z6
  refine tk 7 alike9_o7 (.bool false) (by rfl) (fun w1 hw => by unfold alike9_o7; go_simp) hHeld (fun a8 e8 => ?_)
  rw [← e8] at h
  have z8 := pz e8 z7
  replace t0 := pk e8 t0
  replace t1 := pk e8 t1
  replace t8 := pk e8 t8
  replace t11 := pk e8 t11
  replace t14 := pk e8 t14
  clear t65
  clear t68
  have t69 := pq e8 z7
  clear e8 z7
  refine tk 8 alike9_o8 (.bool false) (by rfl) (fun w1 hw => exec_move rfl t69) hHeld (fun a9 e9 => ?_)
  rw [← e9] at h
  have z9 := pz e9 z8
  replace t0 := pk e9 t0
  replace t1 := pk e9 t1
  replace t8 := pk e9 t8
  replace t11 := pk e9 t11
  replace t14 := pk e9 t14
  clear t69
  have t70 := pq e9 z8
  clear e9 z8
  refine tk 9 alike9_o9 (.bool pb) (by simp [Region.wanted, yielded, alike9_o9, alike9_o8, alike9_ops, tget z9 (by decide) t70]) (fun w1 hw => exec_move rfl t11) hHeld (fun a10 e10 => ?_)
  rw [← e10] at h
  have z10 := pz e10 z9
  replace t0 := pk e10 t0
  replace t1 := pk e10 t1
  replace t8 := pk e10 t8
  clear t11
  replace t14 := pk e10 t14
  replace t70 := pk e10 t70
  have t71 := pq e10 z9
  clear e10 z9
  refine tk 10 alike9_o10 (.bool pb) (by simp [Region.wanted, yielded, alike9_o10, alike9_o8, alike9_ops, tget z10 (by decide) t70]) (fun w1 hw => exec_move rfl t14) hHeld (fun a11 e11 => ?_)
  rw [← e11] at h
  have z11 := pz e11 z10
  replace t0 := pk e11 t0
  replace t1 := pk e11 t1
  replace t8 := pk e11 t8
  clear t14
  replace t70 := pk e11 t70
  replace t71 := pk e11 t71
  have t72 := pq e11 z10
  clear e11 z10
  refine tk 11 alike9_o11 (.bool false) (by simp [Region.wanted, yielded, alike9_o11, alike9_o8, alike9_ops, tget z11 (by decide) t70]) (fun w1 hw => exec_binOp rfl t71 t72 (G7 _) (G8 _ hw)) hHeld (fun a12 e12 => ?_)
  rw [← e12] at h
  have z12 := pz e12 z11
  replace t0 := pk e12 t0
  replace t1 := pk e12 t1
  replace t8 := pk e12 t8
  replace t70 := pk e12 t70
  clear t71
  clear t72
  have t73 := pq e12 z11
  clear e12 z11
  refine tk 12 alike9_o12 (.bool false) (by rfl) (fun w1 hw => by unfold alike9_o12; go_simp) hHeld (fun a13 e13 => ?_)
  rw [← e13] at h
  have z13 := pz e13 z12
  replace t0 := pk e13 t0
  replace t1 := pk e13 t1
  replace t8 := pk e13 t8
  clear t70
  clear t73
  have t74 := pq e13 z12
  clear e13 z12
  refine tk 13 alike9_o13 (.bool false) (by rfl) (fun w1 hw => exec_move rfl t74) hHeld (fun a14 e14 => ?_)
  rw [← e14] at h
  have z14 := pz e14 z13
  replace t0 := pk e14 t0
  replace t1 := pk e14 t1
  replace t8 := pk e14 t8
  clear t74
  have t75 := pq e14 z13
  clear e14 z13
  refine tk 14 alike9_o14 (tv) (by simp [Region.wanted, yielded, alike9_o14, alike9_o13, alike9_ops, tget z14 (by decide) t75]) (fun w1 hw => exec_move rfl t0) hHeld (fun a15 e15 => ?_)
  rw [← e15] at h
  have z15 := pz e15 z14
  replace t0 := pk e15 t0
  replace t1 := pk e15 t1
  replace t8 := pk e15 t8
  replace t75 := pk e15 t75
  have t76 := pq e15 z14
  clear e15 z14
  refine tk 15 alike9_o15 (kv) (by simp [Region.wanted, yielded, alike9_o15, alike9_o13, alike9_ops, tget z15 (by decide) t75]) (fun w1 hw => exec_load rfl t8 (G9 _ hw)) hHeld (fun a16 e16 => ?_)
  rw [← e16] at h
  have z16 := pz e16 z15
  replace t0 := pk e16 t0
  replace t1 := pk e16 t1
  replace t8 := pk e16 t8
  replace t75 := pk e16 t75
  replace t76 := pk e16 t76
  have t77 := pq e16 z15
  clear e16 z15
  refine tk 17 alike9_o17 (dv) (by simp [Region.wanted, yielded, alike9_o17, alike9_o13, alike9_ops, tget z16 (by decide) t75]) (fun w1 hw => exec_move rfl t1) hHeld (fun a17 e17 => ?_)
  rw [← e17] at h
  have z17 := pz e17 z16
  replace t0 := pk e17 t0
  replace t1 := pk e17 t1
  replace t8 := pk e17 t8
  replace t75 := pk e17 t75
  replace t76 := pk e17 t76
  replace t77 := pk e17 t77
  have t79 := pq e17 z16
  clear e17 z16
  refine tk 18 alike9_o18 (kv) (by simp [Region.wanted, yielded, alike9_o18, alike9_o13, alike9_ops, tget z17 (by decide) t75]) (fun w1 hw => exec_load rfl t8 (G9 _ hw)) hHeld (fun a18 e18 => ?_)
  rw [← e18] at h
  have z18 := pz e18 z17
  replace t0 := pk e18 t0
  replace t1 := pk e18 t1
  replace t8 := pk e18 t8
  replace t75 := pk e18 t75
  replace t76 := pk e18 t76
  replace t77 := pk e18 t77
  replace t79 := pk e18 t79
  have t80 := pq e18 z17
  clear e18 z17
  refine wpAnyH_ready (rs := [16]) (by kernel_rfl) (by simp) ?_
  refine AllReadyH.cons (o := alike9_o16) rfl (fun K hK => ?_) AllReadyH.nil
  rw [if_pos (by simp [Region.wanted, yielded, alike9_o16, alike9_o13, alike9_ops, tget z18 (by decide) t75])]
  unfold alike9_o16 at hK ⊢
  go_simp
  refine (CLT _ hHeld).mono ?_
  rintro e x19 ⟨rfl, l1⟩
  try go_wp2_with fail
  skip
  refine hK.out _ _ (hHeld.trans (l1.mono (hN _ hHeld))) (fun hHeld => ?_)
  clear hK K
  change wpAnyH _ _ _ _ _ _ _ (a18.put (some 78) (.bool lb)) _
  obtain ⟨a19, e19⟩ : ∃ act, act = a18.put (some 78) (.bool lb) := ⟨_, rfl⟩
  rw [← e19] at h ⊢
  have z19 := pz e19 z18
  replace t0 := pk e19 t0
  replace t1 := pk e19 t1
  replace t8 := pk e19 t8
  replace t75 := pk e19 t75
  clear t76
  clear t77
  replace t79 := pk e19 t79
  replace t80 := pk e19 t80
  have t78 := pq e19 z18
  clear e19 z18
  refine wpAnyH_ready (rs := [19]) (by kernel_rfl) (by simp) ?_
  refine AllReadyH.cons (o := alike9_o19) rfl (fun K hK => ?_) AllReadyH.nil
  rw [if_pos (by simp [Region.wanted, yielded, alike9_o19, alike9_o13, alike9_ops, tget z19 (by decide) t75])]
  unfold alike9_o19 at hK ⊢
  go_simp
  refine (CLD _ hHeld).mono ?_
  rintro e x20 ⟨rfl, l1⟩
  try go_wp2_with fail
  skip
  refine hK.out _ _ (hHeld.trans (l1.mono (hN _ hHeld))) (fun hHeld => ?_)
  clear hK K
  change wpAnyH _ _ _ _ _ _ _ (a19.put (some 81) (.bool lb)) _
  obtain ⟨a20, e20⟩ : ∃ act, act = a19.put (some 81) (.bool lb) := ⟨_, rfl⟩
  rw [← e20] at h ⊢
  have z20 := pz e20 z19
  replace t0 := pk e20 t0
  replace t1 := pk e20 t1
  replace t8 := pk e20 t8
  replace t75 := pk e20 t75
  clear t79
  clear t80
  replace t78 := pk e20 t78
  have t81 := pq e20 z19
  clear e20 z19
  refine tk 20 alike9_o20 (.bool false) (by simp [Region.wanted, yielded, alike9_o20, alike9_o13, alike9_ops, tget z20 (by decide) t75]) (fun w1 hw => exec_binOp rfl t78 t81 (G10 _) (G11 _ hw)) hHeld (fun a21 e21 => ?_)
  rw [← e21] at h
  have z21 := pz e21 z20
  replace t0 := pk e21 t0
  replace t1 := pk e21 t1
  replace t8 := pk e21 t8
  replace t75 := pk e21 t75
  clear t78
  clear t81
  have t82 := pq e21 z20
  clear e21 z20
  refine tk 21 alike9_o21 (.bool false) (by rfl) (fun w1 hw => by unfold alike9_o21; go_simp) hHeld (fun a22 e22 => ?_)
  rw [← e22] at h
  have z22 := pz e22 z21
  replace t0 := pk e22 t0
  replace t1 := pk e22 t1
  replace t8 := pk e22 t8
  clear t75
  clear t82
  have t83 := pq e22 z21
  clear e22 z21
  refine tk 22 alike9_o22 (.bool false) (by rfl) (fun w1 hw => exec_move rfl t83) hHeld (fun a23 e23 => ?_)
  rw [← e23] at h
  have z23 := pz e23 z22
  replace t0 := pk e23 t0
  replace t1 := pk e23 t1
  replace t8 := pk e23 t8
  clear t83
  have t84 := pq e23 z22
  clear e23 z22
  refine tk 23 alike9_o23 (tv) (by simp [Region.wanted, yielded, alike9_o23, alike9_o22, alike9_ops, tget z23 (by decide) t84]) (fun w1 hw => exec_move rfl t0) hHeld (fun a24 e24 => ?_)
  rw [← e24] at h
  have z24 := pz e24 z23
  replace t0 := pk e24 t0
  replace t1 := pk e24 t1
  replace t8 := pk e24 t8
  replace t84 := pk e24 t84
  have t85 := pq e24 z23
  clear e24 z23
  refine tk 24 alike9_o24 (kv) (by simp [Region.wanted, yielded, alike9_o24, alike9_o22, alike9_ops, tget z24 (by decide) t84]) (fun w1 hw => exec_load rfl t8 (G9 _ hw)) hHeld (fun a25 e25 => ?_)
  rw [← e25] at h
  have z25 := pz e25 z24
  replace t0 := pk e25 t0
  replace t1 := pk e25 t1
  replace t8 := pk e25 t8
  replace t84 := pk e25 t84
  replace t85 := pk e25 t85
  have t86 := pq e25 z24
  clear e25 z24
  refine tk 26 alike9_o26 (dv) (by simp [Region.wanted, yielded, alike9_o26, alike9_o22, alike9_ops, tget z25 (by decide) t84]) (fun w1 hw => exec_move rfl t1) hHeld (fun a26 e26 => ?_)
  rw [← e26] at h
  have z26 := pz e26 z25
  replace t0 := pk e26 t0
  replace t1 := pk e26 t1
  replace t8 := pk e26 t8
  replace t84 := pk e26 t84
  replace t85 := pk e26 t85
  replace t86 := pk e26 t86
  have t88 := pq e26 z25
  clear e26 z25
  refine tk 27 alike9_o27 (kv) (by simp [Region.wanted, yielded, alike9_o27, alike9_o22, alike9_ops, tget z26 (by decide) t84]) (fun w1 hw => exec_load rfl t8 (G9 _ hw)) hHeld (fun a27 e27 => ?_)
  rw [← e27] at h
  have z27 := pz e27 z26
  replace t0 := pk e27 t0
  replace t1 := pk e27 t1
  replace t8 := pk e27 t8
  replace t84 := pk e27 t84
  replace t85 := pk e27 t85
  replace t86 := pk e27 t86
  replace t88 := pk e27 t88
  have t89 := pq e27 z26
  clear e27 z26
  refine wpAnyH_ready (rs := [25]) (by kernel_rfl) (by simp) ?_
  refine AllReadyH.cons (o := alike9_o25) rfl (fun K hK => ?_) AllReadyH.nil
  rw [if_pos (by simp [Region.wanted, yielded, alike9_o25, alike9_o22, alike9_ops, tget z27 (by decide) t84])]
  unfold alike9_o25 at hK ⊢
  go_simp
  refine (CDT _ hHeld).mono ?_
  rintro e x28 ⟨rfl, l1⟩
  try go_wp2_with fail
  skip
  refine hK.out _ _ (hHeld.trans (l1.mono (hN _ hHeld))) (fun hHeld => ?_)
  clear hK K
  change wpAnyH _ _ _ _ _ _ _ (a27.put (some 87) (.int .i64 dd)) _
  obtain ⟨a28, e28⟩ : ∃ act, act = a27.put (some 87) (.int .i64 dd) := ⟨_, rfl⟩
  rw [← e28] at h ⊢
  have z28 := pz e28 z27
  replace t0 := pk e28 t0
  replace t1 := pk e28 t1
  replace t8 := pk e28 t8
  replace t84 := pk e28 t84
  clear t85
  clear t86
  replace t88 := pk e28 t88
  replace t89 := pk e28 t89
  have t87 := pq e28 z27
  clear e28 z27
  refine wpAnyH_ready (rs := [28]) (by kernel_rfl) (by simp) ?_
  refine AllReadyH.cons (o := alike9_o28) rfl (fun K hK => ?_) AllReadyH.nil
  rw [if_pos (by simp [Region.wanted, yielded, alike9_o28, alike9_o22, alike9_ops, tget z28 (by decide) t84])]
  unfold alike9_o28 at hK ⊢
  go_simp
  refine (CDD _ hHeld).mono ?_
  rintro e x29 ⟨rfl, l1⟩
  try go_wp2_with fail
  skip
  refine hK.out _ _ (hHeld.trans (l1.mono (hN _ hHeld))) (fun hHeld => ?_)
  clear hK K
  change wpAnyH _ _ _ _ _ _ _ (a28.put (some 90) (.int .i64 dd)) _
  obtain ⟨a29, e29⟩ : ∃ act, act = a28.put (some 90) (.int .i64 dd) := ⟨_, rfl⟩
  rw [← e29] at h ⊢
  have z29 := pz e29 z28
  replace t0 := pk e29 t0
  replace t1 := pk e29 t1
  replace t8 := pk e29 t8
  replace t84 := pk e29 t84
  clear t88
  clear t89
  replace t87 := pk e29 t87
  have t90 := pq e29 z28
  clear e29 z28
  refine tk 29 alike9_o29 (.bool false) (by simp [Region.wanted, yielded, alike9_o29, alike9_o22, alike9_ops, tget z29 (by decide) t84]) (fun w1 hw => exec_binOp rfl t87 t90 (G12 _) (G13 _ hw)) hHeld (fun a30 e30 => ?_)
  rw [← e30] at h
  have z30 := pz e30 z29
  replace t0 := pk e30 t0
  replace t1 := pk e30 t1
  replace t8 := pk e30 t8
  replace t84 := pk e30 t84
  clear t87
  clear t90
  have t91 := pq e30 z29
  clear e30 z29
  refine tk 30 alike9_o30 (.bool false) (by rfl) (fun w1 hw => by unfold alike9_o30; go_simp) hHeld (fun a31 e31 => ?_)
  rw [← e31] at h
  have z31 := pz e31 z30
  replace t0 := pk e31 t0
  replace t1 := pk e31 t1
  replace t8 := pk e31 t8
  clear t84
  clear t91
  have t92 := pq e31 z30
  clear e31 z30
  refine tk 31 alike9_o31 (.bool false) (by rfl) (fun w1 hw => exec_move rfl t92) hHeld (fun a32 e32 => ?_)
  rw [← e32] at h
  have z32 := pz e32 z31
  replace t0 := pk e32 t0
  replace t1 := pk e32 t1
  replace t8 := pk e32 t8
  clear t92
  have t93 := pq e32 z31
  clear e32 z31
  refine tk 32 alike9_o32 (tv) (by simp [Region.wanted, yielded, alike9_o32, alike9_o31, alike9_ops, tget z32 (by decide) t93]) (fun w1 hw => exec_move rfl t0) hHeld (fun a33 e33 => ?_)
  rw [← e33] at h
  have z33 := pz e33 z32
  clear t0
  replace t1 := pk e33 t1
  replace t8 := pk e33 t8
  replace t93 := pk e33 t93
  have t94 := pq e33 z32
  clear e33 z32
  refine tk 33 alike9_o33 (kv) (by simp [Region.wanted, yielded, alike9_o33, alike9_o31, alike9_ops, tget z33 (by decide) t93]) (fun w1 hw => exec_load rfl t8 (G9 _ hw)) hHeld (fun a34 e34 => ?_)
  rw [← e34] at h
  have z34 := pz e34 z33
  replace t1 := pk e34 t1
  replace t8 := pk e34 t8
  replace t93 := pk e34 t93
  replace t94 := pk e34 t94
  have t95 := pq e34 z33
  clear e34 z33
  refine tk 35 alike9_o35 (dv) (by simp [Region.wanted, yielded, alike9_o35, alike9_o31, alike9_ops, tget z34 (by decide) t93]) (fun w1 hw => exec_move rfl t1) hHeld (fun a35 e35 => ?_)
  rw [← e35] at h
  have z35 := pz e35 z34
  clear t1
  replace t8 := pk e35 t8
  replace t93 := pk e35 t93
  replace t94 := pk e35 t94
  replace t95 := pk e35 t95
  have t97 := pq e35 z34
  clear e35 z34
  refine tk 36 alike9_o36 (kv) (by simp [Region.wanted, yielded, alike9_o36, alike9_o31, alike9_ops, tget z35 (by decide) t93]) (fun w1 hw => exec_load rfl t8 (G9 _ hw)) hHeld (fun a36 e36 => ?_)
  rw [← e36] at h
  have z36 := pz e36 z35
  clear t8
  replace t93 := pk e36 t93
  replace t94 := pk e36 t94
  replace t95 := pk e36 t95
  replace t97 := pk e36 t97
  have t98 := pq e36 z35
  clear e36 z35
  refine wpAnyH_ready (rs := [34]) (by kernel_rfl) (by simp) ?_
  refine AllReadyH.cons (o := alike9_o34) rfl (fun K hK => ?_) AllReadyH.nil
  rw [if_pos (by simp [Region.wanted, yielded, alike9_o34, alike9_o31, alike9_ops, tget z36 (by decide) t93])]
  unfold alike9_o34 at hK ⊢
  go_simp
  refine (CKT _ hHeld).mono ?_
  rintro e x37 ⟨v, rfl, iv, l1⟩
  try go_wp2_with fail
  replace h := h v
  refine hK.out _ _ (hHeld.trans (l1.mono (hN _ hHeld))) (fun hHeld => ?_)
  clear hK K
  change wpAnyH _ _ _ _ _ _ _ (a36.put (some 96) (v)) _
  obtain ⟨a37, e37⟩ : ∃ act, act = a36.put (some 96) (v) := ⟨_, rfl⟩
  rw [← e37] at h ⊢
  have z37 := pz e37 z36
  replace t93 := pk e37 t93
  clear t94
  clear t95
  replace t97 := pk e37 t97
  replace t98 := pk e37 t98
  have t96 := pq e37 z36
  clear e37 z36
  refine wpAnyH_ready (rs := [37]) (by kernel_rfl) (by simp) ?_
  refine AllReadyH.cons (o := alike9_o37) rfl (fun K hK => ?_) AllReadyH.nil
  rw [if_pos (by simp [Region.wanted, yielded, alike9_o37, alike9_o31, alike9_ops, tget z37 (by decide) t93])]
  unfold alike9_o37 at hK ⊢
  go_simp
  refine (CKD _ hHeld).mono ?_
  rintro e x38 ⟨u, rfl, iu, l1⟩
  try go_wp2_with fail
  replace h := h u; replace iv := KI _ _ _ iv l1
  refine hK.out _ _ (hHeld.trans (l1.mono (hN _ hHeld))) (fun hHeld => ?_)
  clear hK K
  change wpAnyH _ _ _ _ _ _ _ (a37.put (some 99) (u)) _
  obtain ⟨a38, e38⟩ : ∃ act, act = a37.put (some 99) (u) := ⟨_, rfl⟩
  rw [← e38] at h ⊢
  have z38 := pz e38 z37
  replace t93 := pk e38 t93
  clear t97
  clear t98
  replace t96 := pk e38 t96
  have t99 := pq e38 z37
  clear e38 z37
  refine wpAnyH_ready (rs := [38]) (by kernel_rfl) (by simp) ?_
  refine AllReadyH.cons (o := alike9_o38) rfl (fun K hK => ?_) AllReadyH.nil
  rw [if_pos (by simp [Region.wanted, yielded, alike9_o38, alike9_o31, alike9_ops, tget z38 (by decide) t93])]
  unfold alike9_o38 at hK ⊢
  go_simp
  refine (CS _ _ _ hHeld iv iu).mono ?_
  rintro e x39 ⟨rfl, l1⟩
  try go_wp2_with fail
  skip
  refine hK.out _ _ (hHeld.trans (l1.mono (hN _ hHeld))) (fun hHeld => ?_)
  clear hK K
  change wpAnyH _ _ _ _ _ _ _ (a38.put (some 100) (.bool true)) _
  obtain ⟨a39, e39⟩ : ∃ act, act = a38.put (some 100) (.bool true) := ⟨_, rfl⟩
  rw [← e39] at h ⊢
  have z39 := pz e39 z38
  replace t93 := pk e39 t93
  clear t96
  clear t99
  have t100 := pq e39 z38
  clear e39 z38
  refine tk 39 alike9_o39 (.bool false) (by simp [Region.wanted, yielded, alike9_o39, alike9_o31, alike9_ops, tget z39 (by decide) t93]) (fun w1 hw => by unfold alike9_o39; go_simp) hHeld (fun a40 e40 => ?_)
  rw [← e40] at h
  have z40 := pz e40 z39
  replace t93 := pk e40 t93
  clear t100
  have t101 := pq e40 z39
  clear e40 z39
  refine tk 40 alike9_o40 (.bool false) (by rfl) (fun w1 hw => by unfold alike9_o40; go_simp) hHeld (fun a41 e41 => ?_)
  rw [← e41] at h
  have z41 := pz e41 z40
  clear t93
  clear t101
  clear e41 z40
  exact wpAnyH_done (by kernel_rfl) (NoPanic.normal (h _ _ (hHeld) rfl)) _
end Go.Proofs.Ytoofljkgdjjllaa

namespace Go.Proofs.Ytoofljkgdjjllaa
open Go.RowKit
set_option linter.unusedVariables false
set_option linter.unusedSimpArgs false

theorem live_exist {f : Fn} (hf : Forest f) (k : IdK) : ∃ b, LiveIs f k b := by
  cases h : (f k).isSome with
  | false => exact ⟨false, Or.inl ⟨h, rfl⟩⟩
  | true => obtain ⟨l, p, hc⟩ := hf.ends k; exact ⟨_, Or.inr ⟨h, l, p, hc, rfl⟩⟩
theorem deep_exist {f : Fn} (hf : Forest f) (k : IdK) : ∃ d, DeepIs f k d := by
  cases h : (f k).isSome with
  | false => exact ⟨-1, Or.inl ⟨h, rfl⟩⟩
  | true => obtain ⟨l, p, hc⟩ := hf.ends k; exact ⟨_, Or.inr ⟨h, l, p, hc, rfl⟩⟩
theorem same_is (L : List IdK) (ok : ∀ x ∈ L, x.ok) (hl : L.length ≤ 1300000000000) (W : World) (v u : Value) (h1 : IdsIs L W v) (h2 : IdsIs L W u) :
    Calls Try.prog 28 #[v, u] W fun e w' => e = .returned (.bool true) ∧ Below W.heap.size W w' := by
  obtain ⟨a1, c1, rfl, h1⟩ := h1
  obtain ⟨a2, c2, rfl, h2⟩ := h2
  refine (same_ids a1 a2 c1 c2 L L W h1 h2 ok ok (by omega)).mono ?_
  rintro e w' ⟨rfl, bw⟩
  exact ⟨by simp, bw⟩
set_option maxRecDepth 100000 in
set_option maxHeartbeats 4000000 in
theorem alike_any (w0 : World) (tv dv : Value) (f : Fn) (D : List IdK) (hf : Forest f) (hD : Dom f D) (hl : D.length ≤ 1300000000000) (hU : ∀ k, (nd f k).u.ok) (a : Option Addr) (c : Nat) (I : List IdK) (hI : IdsAt w0 a I) (oI : ∀ x ∈ I, x.ok) (lI : I.length ≤ 7000000000000)
    (T : Tells w0 tv f D 21 23 24 37 39 29)
    (R : Tells w0 dv f D 34 35 36 38 40 41) :
    Calls Try.prog 13 #[tv, dv, .slice a I.length c] w0 fun e w' => e = .returned (.bool true) ∧ Below w0.heap.size w0 w' := by
  obtain ⟨Wk, hWk⟩ := walk_exist hf hD
  obtain ⟨K0, hK0⟩ := kids_exist hD zId
  have hWl := hWk.le hf hD
  have hKl := hK0.le hD
  obtain ⟨n, hnn⟩ : ∃ n, I.length = n := ⟨_, rfl⟩
  have HNn := hidMk hnn
  have HLn := hidMk lI
  rw [hnn]
  obtain ⟨dn, hdn⟩ : ∃ dn : Nat, D.length = dn := ⟨_, rfl⟩
  have HLT : Hid (∀ W, Below w0.heap.size w0 W → Calls Try.prog 21 #[tv] W fun e w' => e = .returned (.int .i64 (dn : Int)) ∧ Below W.heap.size W w') := by rw [← hdn]; exact T.len
  have HLR : Hid (∀ W, Below w0.heap.size w0 W → Calls Try.prog 34 #[dv] W fun e w' => e = .returned (.int .i64 (dn : Int)) ∧ Below W.heap.size W w') := by rw [← hdn]; exact R.len
  have HWT : Hid (∀ W, Below w0.heap.size w0 W → Calls Try.prog 23 #[tv] W fun e w' => ∃ v, e = .returned v ∧ IdsIs Wk w' v ∧ Below W.heap.size W w') := fun W b => (T.walk W b).mono fun e w' ⟨v, L, h1, h2, h3, h4⟩ => ⟨v, h1, by rw [hWk.unique h3]; exact h2, h4⟩
  have HWR : Hid (∀ W, Below w0.heap.size w0 W → Calls Try.prog 35 #[dv] W fun e w' => ∃ v, e = .returned v ∧ IdsIs Wk w' v ∧ Below W.heap.size W w') := fun W b => (R.walk W b).mono fun e w' ⟨v, L, h1, h2, h3, h4⟩ => ⟨v, h1, by rw [hWk.unique h3]; exact h2, h4⟩
  have KT : ∀ (k : IdK) (K : List IdK), k.ok → IsKids f k K → ∀ W, Below w0.heap.size w0 W → Calls Try.prog 24 #[tv, k.v] W fun e w' => ∃ v, e = .returned v ∧ IdsIs K w' v ∧ Below W.heap.size W w' := fun k K hk hK W b => (T.kids k hk W b).mono fun e w' ⟨v, L, h1, h2, h3, h4⟩ => ⟨v, h1, by rw [hK.unique h3]; exact h2, h4⟩
  have KR : ∀ (k : IdK) (K : List IdK), k.ok → IsKids f k K → ∀ W, Below w0.heap.size w0 W → Calls Try.prog 36 #[dv, k.v] W fun e w' => ∃ v, e = .returned v ∧ IdsIs K w' v ∧ Below W.heap.size W w' := fun k K hk hK W b => (R.kids k hk W b).mono fun e w' ⟨v, L, h1, h2, h3, h4⟩ => ⟨v, h1, by rw [hK.unique h3]; exact h2, h4⟩
  have HK0T := hidMk (KT zId K0 zId_ok hK0)
  have HK0R := hidMk (KR zId K0 zId_ok hK0)
  have HS1 := hidMk (same_is Wk (walk_ok hD hWk) (by omega))
  have HS2 := hidMk (same_is K0 hK0.ok (by omega))
  have HKT := hidMk KT
  have HKR := hidMk KR
  have HD := hidMk hdn
  clear KT KR hdn hnn lI
  go_enter Try.func13, Try.ntmps13
  go_wp2_with (first
    | (go_at_call 21; refine (HLT.out _ (Below.refl _ _)).mono ?_; rintro e w1 ⟨rfl, b1⟩; clear HLT)
    | (go_at_call 34; refine (HLR.out _ b1).mono ?_; rintro e w2 ⟨rfl, c2⟩; have b2 : Below w0.heap.size w0 w2 := b1.trans (c2.mono b1.size); clear HLR)
    | (go_at_call 23; refine (HWT.out _ b2).mono ?_; rintro e w3 ⟨v3, rfl, i3, c3⟩; have b3 : Below w0.heap.size w0 w3 := b2.trans (c3.mono b2.size); clear HWT)
    | (go_at_call 35; refine (HWR.out _ b3).mono ?_; rintro e w4 ⟨v4, rfl, i4, c4⟩; have b4 : Below w0.heap.size w0 w4 := b3.trans (c4.mono b3.size); replace i3 := IdsIs.keep _ _ _ i3 c4; clear HWR)
    | (go_at_call_of 28 v3; refine (HS1.out _ _ _ i3 i4).mono ?_; rintro e w5 ⟨rfl, c5⟩; have b5 : Below w0.heap.size w0 w5 := b4.trans (c5.mono b4.size); clear HS1 i3 i4)
    | (refine wpList_val rfl (exec_build0 rfl (build_id _)) ?_)
    | (go_at_call 24; refine (HK0T.out _ b5).mono ?_; rintro e w6 ⟨v6, rfl, i6, c6⟩; have b6 : Below w0.heap.size w0 w6 := b5.trans (c6.mono b5.size); clear HK0T)
    | (go_at_call 36; refine (HK0R.out _ b6).mono ?_; rintro e w7 ⟨v7, rfl, i7, c7⟩; have b7 : Below w0.heap.size w0 w7 := b6.trans (c7.mono b6.size); replace i6 := IdsIs.keep _ _ _ i6 c7; clear HK0R)
    | (go_at_call_of 28 v6; refine (HS2.out _ _ _ i6 i7).mono ?_; rintro e w8 ⟨rfl, c8⟩; have b8 : Below w0.heap.size w0 w8 := b7.trans (c8.mono b7.size); clear HS2 i6 i7)
    | fail)
  clear b1 b2 b3 b4 b5 b6 b7 c2 c3 c4 c5 c6 c7 c8
  go_loopw [7] (fun v7 wr => ∃ i : Nat, v7 = .int .i64 (i : Int) ∧ i ≤ n ∧ Below w0.heap.size w0 wr) (fun v7 wr => n - (match v7 with | .int _ i => i.toNat | _ => 0))
  case atStart => exact ⟨0, rfl, Nat.zero_le _, b8⟩
  case round =>
    clear b8
    obtain ⟨i, rfl, hin, bel⟩ := hrel
    have hLn := HNn.out
    have hbig := HLn.out
    by_cases hi : i < n
    · have hxi : I[i]? = some I[i] := List.getElem?_eq_getElem (by omega)
      generalize I[i] = x at hxi
      have hxo : x.ok := oI x (List.mem_of_getElem? hxi)
      obtain ⟨b, o, rfl, lb, hr⟩ : ∃ b o, a = some ⟨b, o, none⟩ ∧ b < w0.heap.size ∧ w0.rangeAt b (o + i * 33) x.c := by
        rcases hI with rfl | ⟨b, o, e, h1, h2⟩
        · simp at hxi
        · exact ⟨b, o, e, h1, by rw [Nat.mul_comm]; exact h2 i x hxi⟩
      have HL := hidMk (load_id_at hxo (rangeAt_keep hr (bel.block _ lb)))
      obtain ⟨wz, ea, es⟩ := id_new wr x hxo
      obtain ⟨wa, hwa⟩ : ∃ wa, wr.alloc (.cells x.c.toArray 37) = wa := ⟨_, rfl⟩
      have ba : Below wr.heap.size wr wa := by rw [← hwa]; exact (Below.refl _ _).alloc (Nat.le_refl _) _
      have za : wa.heap.size = wr.heap.size + 1 := by rw [← hwa]; simp
      have hxa : IdAt wa wr.heap.size x := by rw [← hwa]; exact heap_alloc_new _ _
      rw [hwa] at es
      have HEA := hidMk ea
      have HES := hidMk es
      have bela : Below w0.heap.size w0 wa := bel.trans (ba.mono bel.size)
      have hbw := bel.size
      have HZA := hidMk za
      clear ea es hwa hxi hr lb za
      go_upto_region 7 with (first
        | (refine wpList_val rfl (exec_load (t := 37) (u := .pointer (some ⟨b, o + i * 33, none⟩)) rfl rfl HL.out) ?_)
        | (refine wpList_run rfl (exec_alloc (t := 37) rfl HEA.out) ?_)
        | (refine wpList_skip rfl rfl (exec_store (t := 37) rfl rfl rfl HES.out) ?_)
        | fail)
      simp only [Act.put, List.setIfInBounds_toArray, List.set_cons_zero, List.set_cons_succ]
      clear HL HEA HES
      obtain ⟨bi, hbi⟩ : ∃ bi, wr.heap.size = bi := ⟨_, rfl⟩
      rw [hbi] at hxa HZA hbw ⊢
      have HBI := hidMk hbi
      clear hbi
      have HUT := hidMk (T.under x hxo wa bela)
      have HUR := hidMk (R.under x hxo)
      have hUo := hU x
      obtain ⟨uu, huu⟩ : ∃ uu, (nd f x).u = uu := ⟨_, rfl⟩
      obtain ⟨ks, hks⟩ : ∃ ks, (nd f x).key = ks := ⟨_, rfl⟩
      obtain ⟨pb, hpb⟩ : ∃ pb, ((f x).isSome && !(nd f x).pr) = pb := ⟨_, rfl⟩
      rw [huu, hks, hpb] at HUT HUR
      rw [huu] at hUo
      clear huu hks hpb
      have HLa := hidMk (load_id hxo hxa)
      go_upto_region 8 with (first
        | (refine wpList_val rfl (exec_load (t := 37) (u := .pointer (some ⟨bi, 0, none⟩)) rfl rfl HLa.out) ?_)
        | (go_at_call 37; refine HUT.out.mono ?_; rintro e w9 ⟨rfl, c9⟩; obtain ⟨wz9, ea9, es9⟩ := id_new w9 uu hUo; have HEA9 := hidMk ea9; have HES9 := hidMk es9; clear ea9 es9 HUT)
        | (refine wpList_run rfl (exec_alloc (t := 37) rfl HEA9.out) ?_)
        | (refine wpList_skip rfl rfl (exec_store (t := 37) (xv := .pointer (some ⟨w9.heap.size, 0, none⟩)) (yv := uu.v) rfl rfl rfl HES9.out) ?_)
        | fail)
      obtain ⟨hu9, cu9, zu9⟩ := box_id w9 uu
      generalize w9.alloc (.cells uu.c.toArray 37) = w10 at *
      have bel9 : Below w0.heap.size w0 w9 := bela.trans (c9.mono bela.size)
      have bel10 : Below w0.heap.size w0 w10 := bel9.trans (cu9.mono bel9.size)
      have s9 : wa.heap.size ≤ w9.heap.size := c9.size
      have hx10 : IdAt w10 bi x := (cu9.block _ (by have := HZA.out; omega)).trans ((c9.block _ (by have := HZA.out; omega)).trans hxa)
      have HL10 := hidMk (load_id hxo hx10)
      have HUR2 := hidMk (HUR.out w10 bel10)
      obtain ⟨bu, hbu⟩ : ∃ bu, w9.heap.size = bu := ⟨_, rfl⟩
      rw [hbu] at hu9 zu9 cu9 s9 ⊢
      have HZ10 := hidMk zu9
      have HBU := hidMk hbu
      clear hbu zu9 HLa HUR c9 HEA9 HES9
      go_upto_region 9 with (first
        | (refine wpList_val rfl (exec_load (t := 37) (u := .pointer (some ⟨bi, 0, none⟩)) rfl rfl HL10.out) ?_)
        | (go_at_call 38; refine HUR2.out.mono ?_; rintro e w11 ⟨rfl, c11⟩; obtain ⟨wz11, ea11, es11⟩ := id_new w11 uu hUo; have HEA11 := hidMk ea11; have HES11 := hidMk es11; clear ea11 es11 HUR2)
        | (refine wpList_run rfl (exec_alloc (t := 37) rfl HEA11.out) ?_)
        | (refine wpList_skip rfl rfl (exec_store (t := 37) (xv := .pointer (some ⟨w11.heap.size, 0, none⟩)) (yv := uu.v) rfl rfl rfl HES11.out) ?_)
        | fail)
      obtain ⟨hu11, cu11, zu11⟩ := box_id w11 uu
      generalize w11.alloc (.cells uu.c.toArray 37) = w12 at *
      have bel11 : Below w0.heap.size w0 w11 := bel10.trans (c11.mono bel10.size)
      have bel12 : Below w0.heap.size w0 w12 := bel11.trans (cu11.mono bel11.size)
      have s11 : w10.heap.size ≤ w11.heap.size := c11.size
      have z10 := HZ10.out
      have zA := HZA.out
      have hx12 : IdAt w12 bi x := (cu11.block _ (by omega)).trans ((c11.block _ (by omega)).trans hx10)
      have hu12 : IdAt w12 bu uu := (cu11.block _ (by omega)).trans ((c11.block _ (by omega)).trans hu9)
      obtain ⟨lb, hlb⟩ := live_exist hf x
      obtain ⟨dd, hdd⟩ := deep_exist hf x
      obtain ⟨K, hK⟩ := kids_exist hD x
      have hKlen := hK.le hD
      have b12 : ∀ W, Below w12.heap.size w12 W → Below w0.heap.size w0 W := fun W b => bel12.trans (b.mono bel12.size)
      have lbu : bu < w12.heap.size := (Array.getElem?_eq_some_iff.1 hu12).1
      have lbi : bi < w12.heap.size := (Array.getElem?_eq_some_iff.1 hx12).1
      have lbv : w11.heap.size < w12.heap.size := (Array.getElem?_eq_some_iff.1 hu11).1
      refine alike9 w12.heap.size w12 bi bu w11.heap.size tv dv x.v uu.v ks pb lb dd (IdsIs K) _ w12 _ rfl rfl rfl rfl rfl rfl rfl rfl rfl rfl (Below.refl _ _).drew (fun W b => b.size) IdsIs.keep ?_ ?_ ?_ ?_ ?_ ?_ ?_ ?_ ?_ ?_ ?_ ?_ ?_ ?_ ?_ ?_ ?_ ?_ ?_ ?_ ?_
      · exact fun W b => (T.live x hxo W (b12 W b)).mono fun e w' ⟨q, h1, h2, h3⟩ => ⟨by rw [hlb.unique h2]; exact h1, h3⟩
      · exact fun W b => (R.live x hxo W (b12 W b)).mono fun e w' ⟨q, h1, h2, h3⟩ => ⟨by rw [hlb.unique h2]; exact h1, h3⟩
      · exact fun W b => (T.deep x hxo W (b12 W b)).mono fun e w' ⟨q, h1, h2, h3⟩ => ⟨by rw [hdd.unique h2]; exact h1, h3⟩
      · exact fun W b => (R.deep x hxo W (b12 W b)).mono fun e w' ⟨q, h1, h2, h3⟩ => ⟨by rw [hdd.unique h2]; exact h1, h3⟩
      · exact fun W b => HKT.out x K hxo hK W (b12 W b)
      · exact fun W b => HKR.out x K hxo hK W (b12 W b)
      · exact fun W v u b h1 h2 => same_is K hK.ok (by omega) W v u h1 h2
      · exact fun W b => load_id hUo ((b.block _ lbu).trans hu12)
      · exact fun W b => load_id hUo ((b.block _ lbv).trans hu11)
      · exact fun W => guard_id _ _ uu uu W _
      · exact fun W b => by rw [neq_id uu uu hUo hUo]; simp
      · exact fun W => by go_simp
      · exact fun W b => by go_simp
      · exact fun W => by go_simp
      · exact fun W b => by go_simp
      · exact fun W b => load_id hxo ((b.block _ lbi).trans hx12)
      · exact fun W => by go_simp
      · exact fun W b => by go_simp
      · exact fun W => by go_simp
      · exact fun W b => by go_simp
      intro v u a' w13 b13 ha
      subst ha
      simp only [Act.put, List.setIfInBounds_toArray, List.set_cons_zero, List.set_cons_succ]
      have bel13 := b12 _ b13
      clear b13 b12
      go_wp2
      rw [show ((i : Int) + 1) = ((i + 1 : Nat) : Int) by omega]
      refine ⟨⟨i + 1, rfl, hi, bel13⟩, ?_⟩
      show n - ((i + 1 : Nat) : Int).toNat < n - (i : Int).toNat
      omega
    · obtain rfl : i = n := by omega
      clear hLn hin hi
      go_wp2
      go_ret
      exact ⟨rfl, bel⟩
end Go.Proofs.Ytoofljkgdjjllaa

namespace Go.Proofs.Ytoofljkgdjjllaa
open Go.RowKit
set_option linter.unusedVariables false
set_option linter.unusedSimpArgs false

theorem up_len {f : Fn} (hf : Forest f) {D : List IdK} (hD : Dom f D) {k : IdK} {l : List IdK} {b : Bool} (h : UpIs f k l b) : l.length ≤ D.length := by
  rcases h with ⟨_, rfl, _⟩ | ⟨_, p, hc, _⟩
  · simp
  · exact climb_le hf hD hc
section
variable (d : Nat) (NL : List (IdK × NodeV)) (pv : Value)
set_option maxRecDepth 100000 in
set_option maxHeartbeats 4000000 in
theorem rlies_any (k u : IdK) (w : World) (h : RefAt w d NL pv) (hk : k.ok) (hu : u.ok) (hn : NL.length ≤ 1300000000000) (hf : Forest (lookN NL)) :
    Calls Try.prog 76 #[.pointer (some ⟨d, 0, none⟩), k.v, u.v] w fun e w' => ∃ l b, e = .returned (.bool (decide (u ∈ l))) ∧ UpIs (lookN NL) k l b ∧ Below w.heap.size w w' := by
  have HU := hidMk (fun (W : World) (b : Below w.heap.size w W) => rup_any d NL pv k W (h.below b) hk hn hf)
  have HLn := hidMk (fun (l : List IdK) (b : Bool) (q : UpIs (lookN NL) k l b) => Nat.le_trans (up_len hf (ref_dom d NL pv h) q) (by rw [List.length_map]; exact hn))
  clear hn
  unfold IdK.v
  go_enter Try.func76, Try.ntmps76
  go_upto_region 1 with fail
  obtain ⟨hx, hy, bx, zx⟩ := two_boxes w k u
  have ZX := hidMk zx
  clear zx
  generalize (w.alloc (.cells k.c.toArray 37)).alloc (.cells u.c.toArray 37) = W at *
  have HX := hidMk (load_id hk hx)
  go_wp2_with (first
    | (refine wpList_val rfl (exec_load (t := 37) (u := .pointer (some ⟨w.heap.size, 0, none⟩)) rfl rfl HX.out) ?_)
    | (go_at_call 79; refine (HU.out _ bx).mono ?_; rintro e w1 ⟨v, l, b, rfl, ov, hup, okl, b1⟩; obtain ⟨a1, c1, rfl, hl1, _⟩ := ov.open okl; obtain ⟨m, hm⟩ : ∃ m, l.length = m := ⟨_, rfl⟩; have HM := hidMk hm; have HB := hidMk (HLn.out l b hup); rw [hm]; clear hm ov HU HX)
    | fail)
  have zx := ZX.out
  have hy1 : IdAt w1 (w.heap.size + 1) u := (b1.block _ (by omega)).trans hy
  have bw1 : Below w.heap.size w w1 := bx.trans (b1.mono bx.size)
  have ly1 : w.heap.size + 1 < w1.heap.size := (Array.getElem?_eq_some_iff.1 hy1).1
  clear zx hy hx b1 bx
  obtain ⟨bu, hbu⟩ : ∃ bu, w.heap.size + 1 = bu := ⟨_, rfl⟩
  rw [hbu] at hy1 ly1 ⊢
  clear hbu
  go_loopw [9] (fun v9 wr => ∃ i : Nat, v9 = .int .i64 (i : Int) ∧ i ≤ m ∧ u ∉ l.take i ∧ Below w1.heap.size w1 wr) (fun v9 wr => m - (match v9 with | .int _ i => i.toNat | _ => 0))
  case atStart => exact ⟨0, rfl, Nat.zero_le _, by simp, Below.refl _ _⟩
  case round =>
    obtain ⟨i, rfl, him, hnot, bel⟩ := hrel
    have hm := HM.out
    have hbig := HB.out
    have HNO := hidMk hnot
    clear hnot
    by_cases hi : i < m
    · have hxi : l[i]? = some l[i] := List.getElem?_eq_getElem (by omega)
      generalize l[i] = x at hxi
      have hxo : x.ok := okl x (List.mem_of_getElem? hxi)
      obtain ⟨b2, o, rfl, lb, hr⟩ : ∃ b o, a1 = some ⟨b, o, none⟩ ∧ b < w1.heap.size ∧ w1.rangeAt b (o + i * 33) x.c := by
        rcases hl1 with rfl | ⟨b, o, e, h1, h2⟩
        · simp at hxi
        · exact ⟨b, o, e, h1, by rw [Nat.mul_comm]; exact h2 i x hxi⟩
      have HXI := hidMk hxi
      clear hxi
      have beld : Below w1.heap.size w1 wr.drew := bel.drew
      go_upto_region 5 with fail
      refine rlies5 b2 (o + i * 33) bu (.slice (some ⟨b2, o, none⟩) m c1) (.int .i64 (i : Int)) x.v u.v (decide (x = u)) _ wr _ rfl rfl rfl rfl ?_ ?_ ?_ ?_ ?_ ?_
      · exact fun W => ix_id hi (by omega) W
      · exact fun W hw => by rw [hw]; exact load_id_at hxo (rangeAt_keep hr (beld.block _ lb))
      · exact fun W hw => by rw [hw]; exact load_id hu ((beld.block _ ly1).trans hy1)
      · exact fun W => guard_id _ _ x u W _
      · exact fun W hw => eql_id x u hxo hu W
      intro a' w' hw' ha
      subst hw' ha
      simp only [Act.put, List.setIfInBounds_toArray, List.set_cons_zero, List.set_cons_succ]
      by_cases e : x = u
      · have hmem : u ∈ l := by rw [← e]; exact List.mem_of_getElem? HXI.out
        rw [decide_eq_true e]
        go_wp2
        go_ret
        exact ⟨l, b, by simp [hmem], hup, bw1.trans (beld.mono bw1.size)⟩
      · rw [decide_eq_false e]
        go_wp2
        rw [show ((i : Int) + 1) = ((i + 1 : Nat) : Int) by omega]
        refine ⟨⟨i + 1, rfl, hi, ?_, beld⟩, ?_⟩
        · rw [List.take_add_one, HXI.out]
          have := HNO.out
          simp only [List.mem_append, Option.toList_some, List.mem_singleton, not_or]
          exact ⟨this, fun q => e q.symm⟩
        · show m - ((i + 1 : Nat) : Int).toNat < m - (i : Int).toNat
          omega
    · obtain rfl : i = m := by omega
      have hnl : u ∉ l := by have := HNO.out; rwa [List.take_of_length_le (by omega)] at this
      clear hm him hi hbig
      go_wp2
      go_ret
      exact ⟨l, b, by simp [hnl], hup, bw1.trans (bel.mono bw1.size)⟩
end
end Go.Proofs.Ytoofljkgdjjllaa

namespace Go.Proofs.Ytoofljkgdjjllaa
open Go.RowKit
set_option linter.unusedVariables false
set_option linter.unusedSimpArgs false

theorem exec_buildSlice0 {P : Program} {w w2 : World} {a : Act} {o : Oper} {t n : Nat} {v : Value} (ho : o.op = .buildSlice t n #[]) (hl : (Instr.buildSlice t n #[]).run P w = .ok v w2) : (execOp a.eval o).run P w = .ok (.value v) w2 := by
  unfold execOp; simp only [ho, List.map_toArray, List.map_nil, Sem.run_bind, hl, Result.andThen_ok, Sem.run_pure]
def mark0_o0 : Oper := ⟨some 2, .move (.tmp 0), 27, "ref.go:58", #[], none⟩
def mark0_o1 : Oper := ⟨some 3, .move (.tmp 0), 27, "ref.go:58", #[], none⟩
def mark0_o2 : Oper := ⟨some 4, .nilCheck (.tmp 3), 0, "ref.go:58", #[⟨1, .data⟩], none⟩
def mark0_o3 : Oper := ⟨some 5, .fieldAddr 86 (.tmp 4) 1, 0, "ref.go:58", #[⟨2, .data⟩], none⟩
def mark0_o4 : Oper := ⟨some 6, .load 84 (.tmp 5), 84, "ref.go:58", #[⟨3, .data⟩], none⟩
def mark0_o5 : Oper := ⟨some 7, .buildSlice 83 0 #[], 83, "ref.go:58", #[], none⟩
def mark0_o6 : Oper := ⟨some 8, .move (.tmp 0), 27, "ref.go:58", #[], none⟩
def mark0_o7 : Oper := ⟨some 9, .nilCheck (.tmp 8), 0, "ref.go:58", #[⟨6, .data⟩], none⟩
def mark0_o8 : Oper := ⟨some 10, .fieldAddr 86 (.tmp 9) 0, 0, "ref.go:58", #[⟨7, .data⟩], none⟩
def mark0_o9 : Oper := ⟨some 11, .load 83 (.tmp 10), 83, "ref.go:58", #[⟨8, .data⟩], none⟩
def mark0_o10 : Oper := ⟨some 12, .call { callee := Callee.builtin Builtin.append, args := #[.tmp 7, .tmp 11], argTypes := #[83, 83] }, 83, "ref.go:58", #[⟨5, .data⟩, ⟨9, .data⟩], none⟩
def mark0_o11 : Oper := ⟨some 13, .buildSlice 84 1 #[(0, .tmp 12)], 84, "ref.go:58", #[⟨10, .data⟩], none⟩
def mark0_o12 : Oper := ⟨some 14, .call { callee := Callee.builtin Builtin.append, args := #[.tmp 6, .tmp 13], argTypes := #[84, 84] }, 84, "ref.go:58", #[⟨4, .data⟩, ⟨11, .data⟩, ⟨10, .chain⟩], none⟩
def mark0_o13 : Oper := ⟨some 15, .nilCheck (.tmp 2), 0, "ref.go:58", #[⟨0, .data⟩, ⟨0, .phase⟩, ⟨1, .phase⟩, ⟨2, .phase⟩, ⟨3, .phase⟩, ⟨4, .phase⟩, ⟨5, .phase⟩, ⟨6, .phase⟩, ⟨7, .phase⟩, ⟨8, .phase⟩, ⟨9, .phase⟩, ⟨10, .phase⟩, ⟨11, .phase⟩, ⟨12, .phase⟩], none⟩
def mark0_o14 : Oper := ⟨some 16, .fieldAddr 86 (.tmp 15) 1, 0, "ref.go:58", #[⟨13, .data⟩, ⟨0, .phase⟩, ⟨1, .phase⟩, ⟨2, .phase⟩, ⟨3, .phase⟩, ⟨4, .phase⟩, ⟨5, .phase⟩, ⟨6, .phase⟩, ⟨7, .phase⟩, ⟨8, .phase⟩, ⟨9, .phase⟩, ⟨10, .phase⟩, ⟨11, .phase⟩, ⟨12, .phase⟩], none⟩
def mark0_o15 : Oper := ⟨none, .store 84 (.tmp 16) (.tmp 14), 0, "ref.go:58", #[⟨14, .data⟩, ⟨12, .data⟩, ⟨12, .chain⟩, ⟨0, .phase⟩, ⟨1, .phase⟩, ⟨2, .phase⟩, ⟨3, .phase⟩, ⟨4, .phase⟩, ⟨5, .phase⟩, ⟨6, .phase⟩, ⟨7, .phase⟩, ⟨8, .phase⟩, ⟨9, .phase⟩, ⟨10, .phase⟩, ⟨11, .phase⟩, ⟨12, .phase⟩], none⟩
def mark0_ops : Array Oper := #[mark0_o0, mark0_o1, mark0_o2, mark0_o3, mark0_o4, mark0_o5, mark0_o6, mark0_o7, mark0_o8, mark0_o9, mark0_o10, mark0_o11, mark0_o12, mark0_o13, mark0_o14, mark0_o15]
set_option maxRecDepth 100000 in
set_option maxHeartbeats 4000000 in
theorem mark0 (d : Nat) (f0 f1 nv pv ev cv lv qv : Value) (w1 w2 w3 w4 w5 : World) (S : World → Prop) (a : Act) (w : World) (Q : Exit → Act → World → Prop) (hsz : a.tmps.size = 17)
    (t0 : a.tmps.getD 0 undef = .pointer (some ⟨d, 0, none⟩))
    (GF0 : ∀ W, (Instr.fieldAt 86 (.pointer (some ⟨d, 0, none⟩)) 0).run Try.prog W = .ok f0 W) (GF1 : ∀ W, (Instr.fieldAt 86 (.pointer (some ⟨d, 0, none⟩)) 1).run Try.prog W = .ok f1 W) (GL0 : ∀ W, S W → (Instr.loadAt 83 f0).run Try.prog W = .ok nv W)
    (S0 : S w.drew) (S1 : S w1) (S2 : S w2) (S3 : S w3) (S4 : S w4) (S5 : S w5)
    (K0 : (Instr.loadAt 84 f1).run Try.prog w.drew = .ok pv w.drew) (K1 : (Instr.loadAt 84 f1).run Try.prog w1 = .ok pv w1) (K2 : (Instr.loadAt 84 f1).run Try.prog w2 = .ok pv w2) (K3 : (Instr.loadAt 84 f1).run Try.prog w3 = .ok pv w3)
    (EB0 : (Instr.buildSlice 83 0 #[]).run Try.prog w.drew = .ok ev w1) (EA1 : (Builtin.append_ #[83, 83] 83 #[ev, nv]).run Try.prog w1 = .ok cv w2)
    (EB1 : (Instr.buildSlice 84 1 #[(0, cv)]).run Try.prog w2 = .ok lv w3) (EA2 : (Builtin.append_ #[84, 84] 84 #[pv, lv]).run Try.prog w3 = .ok qv w4) (ES : (Instr.storeAt 84 f1 qv).run Try.prog w4 = .ok () w5)
    (h1 : ∀ (a' : Act) (w' : World), w' = w5 → a' = (((((((((((((((a).put (some 2) (.pointer (some ⟨d, 0, none⟩))).put (some 3) (.pointer (some ⟨d, 0, none⟩))).put (some 4) (.pointer (some ⟨d, 0, none⟩))).put (some 5) (f1)).put (some 8) (.pointer (some ⟨d, 0, none⟩))).put (some 9) (.pointer (some ⟨d, 0, none⟩))).put (some 10) (f0)).put (some 11) (nv)).put (some 6) (pv)).put (some 7) (ev)).put (some 12) (cv)).put (some 13) (lv)).put (some 14) (qv)).put (some 15) (.pointer (some ⟨d, 0, none⟩))).put (some 16) (f1) → Q .normal a' w')
    (h2 : ∀ (a' : Act) (w' : World), w' = w5 → a' = (((((((((((((((a).put (some 2) (.pointer (some ⟨d, 0, none⟩))).put (some 3) (.pointer (some ⟨d, 0, none⟩))).put (some 4) (.pointer (some ⟨d, 0, none⟩))).put (some 5) (f1)).put (some 8) (.pointer (some ⟨d, 0, none⟩))).put (some 9) (.pointer (some ⟨d, 0, none⟩))).put (some 10) (f0)).put (some 11) (nv)).put (some 7) (ev)).put (some 6) (pv)).put (some 12) (cv)).put (some 13) (lv)).put (some 14) (qv)).put (some 15) (.pointer (some ⟨d, 0, none⟩))).put (some 16) (f1) → Q .normal a' w')
    (h3 : ∀ (a' : Act) (w' : World), w' = w5 → a' = (((((((((((((((a).put (some 2) (.pointer (some ⟨d, 0, none⟩))).put (some 3) (.pointer (some ⟨d, 0, none⟩))).put (some 4) (.pointer (some ⟨d, 0, none⟩))).put (some 5) (f1)).put (some 8) (.pointer (some ⟨d, 0, none⟩))).put (some 9) (.pointer (some ⟨d, 0, none⟩))).put (some 10) (f0)).put (some 11) (nv)).put (some 7) (ev)).put (some 12) (cv)).put (some 6) (pv)).put (some 13) (lv)).put (some 14) (qv)).put (some 15) (.pointer (some ⟨d, 0, none⟩))).put (some 16) (f1) → Q .normal a' w')
    (h4 : ∀ (a' : Act) (w' : World), w' = w5 → a' = (((((((((((((((a).put (some 2) (.pointer (some ⟨d, 0, none⟩))).put (some 3) (.pointer (some ⟨d, 0, none⟩))).put (some 4) (.pointer (some ⟨d, 0, none⟩))).put (some 5) (f1)).put (some 8) (.pointer (some ⟨d, 0, none⟩))).put (some 9) (.pointer (some ⟨d, 0, none⟩))).put (some 10) (f0)).put (some 11) (nv)).put (some 7) (ev)).put (some 12) (cv)).put (some 13) (lv)).put (some 6) (pv)).put (some 14) (qv)).put (some 15) (.pointer (some ⟨d, 0, none⟩))).put (some 16) (f1) → Q .normal a' w') :
    (Code.region 0 mark0_ops true).wp Try.prog Q a w := by
  refine wp_region_noPanic ?_
  refine wp_region_held_drew (S := fun w' => S w') (by kernel_rfl) (S0) (fun hHeld => ?_)
  refine tk 0 mark0_o0 (.pointer (some ⟨d, 0, none⟩)) (by rfl) (fun w1 hw => exec_move rfl t0) hHeld (fun a1 e1 => ?_)
  rw [← e1] at h1 h2 h3 h4
  have z1 := pz e1 hsz
  replace t0 := pk e1 t0
  have t2 := pq e1 hsz
  clear e1 hsz
  refine tk 1 mark0_o1 (.pointer (some ⟨d, 0, none⟩)) (by rfl) (fun w1 hw => exec_move rfl t0) hHeld (fun a2 e2 => ?_)
  rw [← e2] at h1 h2 h3 h4
  have z2 := pz e2 z1
  replace t0 := pk e2 t0
  replace t2 := pk e2 t2
  have t3 := pq e2 z1
  clear e2 z1
  refine tk 2 mark0_o2 (.pointer (some ⟨d, 0, none⟩)) (by rfl) (fun w1 hw => exec_nilCheck rfl t3) hHeld (fun a3 e3 => ?_)
  rw [← e3] at h1 h2 h3 h4
  have z3 := pz e3 z2
  replace t0 := pk e3 t0
  replace t2 := pk e3 t2
  clear t3
  have t4 := pq e3 z2
  clear e3 z2
  refine tk 3 mark0_o3 (f1) (by rfl) (fun w1 hw => exec_fieldAt rfl t4 (GF1 _)) hHeld (fun a4 e4 => ?_)
  rw [← e4] at h1 h2 h3 h4
  have z4 := pz e4 z3
  replace t0 := pk e4 t0
  replace t2 := pk e4 t2
  clear t4
  have t5 := pq e4 z3
  clear e4 z3
  refine tk 6 mark0_o6 (.pointer (some ⟨d, 0, none⟩)) (by rfl) (fun w1 hw => exec_move rfl t0) hHeld (fun a5 e5 => ?_)
  rw [← e5] at h1 h2 h3 h4
  have z5 := pz e5 z4
  clear t0
  replace t2 := pk e5 t2
  replace t5 := pk e5 t5
  have t8 := pq e5 z4
  clear e5 z4
  refine tk 7 mark0_o7 (.pointer (some ⟨d, 0, none⟩)) (by rfl) (fun w1 hw => exec_nilCheck rfl t8) hHeld (fun a6 e6 => ?_)
  rw [← e6] at h1 h2 h3 h4
  have z6 := pz e6 z5
  replace t2 := pk e6 t2
  replace t5 := pk e6 t5
  clear t8
  have t9 := pq e6 z5
  clear e6 z5
  refine tk 8 mark0_o8 (f0) (by rfl) (fun w1 hw => exec_fieldAt rfl t9 (GF0 _)) hHeld (fun a7 e7 => ?_)
  rw [← e7] at h1 h2 h3 h4
  have z7 := pz e7 z6
  replace t2 := pk e7 t2
  replace t5 := pk e7 t5
  clear t9
  have t10 := pq e7 z6
  clear e7 z6
  refine tk 9 mark0_o9 (nv) (by rfl) (fun w1 hw => exec_load rfl t10 (GL0 _ hw)) hHeld (fun a8 e8 => ?_)
  rw [← e8] at h1 h2 h3 h4
  have z8 := pz e8 z7
  replace t2 := pk e8 t2
  replace t5 := pk e8 t5
  clear t10
  have t11 := pq e8 z7
  clear e8 z7
  refine wpAnyH_ready (rs := [4, 5]) (by kernel_rfl) (by simp) ?_
  refine AllReadyH.cons (o := mark0_o4) rfl (fun K hK => ?_) (AllReadyH.cons (o := mark0_o5) rfl (fun K hK => ?_) (AllReadyH.nil))
  · clear h2 h3 h4
    skip
    have X := exec_load (P := Try.prog) (a := a8) (o := mark0_o4) rfl t5 K0
    rw [if_pos (by rfl), Oper.wp, X]
    show K _ _
    clear X
    refine hK.out _ _ (S0) (fun hHeld => ?_)
    clear hK K
    change wpAnyH _ _ _ _ _ _ _ (a8.put (some 6) (pv)) _
    obtain ⟨a9, e9⟩ : ∃ act, act = a8.put (some 6) (pv) := ⟨_, rfl⟩
    rw [← e9] at h1 ⊢
    have z9 := pz e9 z8
    replace t2 := pk e9 t2
    clear t5
    replace t11 := pk e9 t11
    have t6 := pq e9 z8
    clear e9 z8
    refine wpAnyH_ready (rs := [5]) (by kernel_rfl) (by simp) ?_
    refine AllReadyH.cons (o := mark0_o5) rfl (fun K hK => ?_) AllReadyH.nil
    skip
    have X := exec_buildSlice0 (P := Try.prog) (a := a9) (o := mark0_o5) rfl EB0
    rw [if_pos (by rfl), Oper.wp, X]
    show K _ _
    clear X
    refine hK.out _ _ (S1) (fun hHeld => ?_)
    clear hK K
    change wpAnyH _ _ _ _ _ _ _ (a9.put (some 7) (ev)) _
    obtain ⟨a10, e10⟩ : ∃ act, act = a9.put (some 7) (ev) := ⟨_, rfl⟩
    rw [← e10] at h1 ⊢
    have z10 := pz e10 z9
    replace t2 := pk e10 t2
    replace t11 := pk e10 t11
    replace t6 := pk e10 t6
    have t7 := pq e10 z9
    clear e10 z9
    refine wpAnyH_ready (rs := [10]) (by kernel_rfl) (by simp) ?_
    refine AllReadyH.cons (o := mark0_o10) rfl (fun K hK => ?_) AllReadyH.nil
    skip
    have X := exec_append (P := Try.prog) (a := a10) (o := mark0_o10) rfl t7 t11 EA1
    rw [if_pos (by rfl), Oper.wp, X]
    show K _ _
    clear X
    refine hK.out _ _ (S2) (fun hHeld => ?_)
    clear hK K
    change wpAnyH _ _ _ _ _ _ _ (a10.put (some 12) (cv)) _
    obtain ⟨a11, e11⟩ : ∃ act, act = a10.put (some 12) (cv) := ⟨_, rfl⟩
    rw [← e11] at h1 ⊢
    have z11 := pz e11 z10
    replace t2 := pk e11 t2
    clear t11
    replace t6 := pk e11 t6
    clear t7
    have t12 := pq e11 z10
    clear e11 z10
    refine wpAnyH_ready (rs := [11]) (by kernel_rfl) (by simp) ?_
    refine AllReadyH.cons (o := mark0_o11) rfl (fun K hK => ?_) AllReadyH.nil
    skip
    have X := exec_buildSlice (P := Try.prog) (a := a11) (o := mark0_o11) rfl t12 EB1
    rw [if_pos (by rfl), Oper.wp, X]
    show K _ _
    clear X
    refine hK.out _ _ (S3) (fun hHeld => ?_)
    clear hK K
    change wpAnyH _ _ _ _ _ _ _ (a11.put (some 13) (lv)) _
    obtain ⟨a12, e12⟩ : ∃ act, act = a11.put (some 13) (lv) := ⟨_, rfl⟩
    rw [← e12] at h1 ⊢
    have z12 := pz e12 z11
    replace t2 := pk e12 t2
    replace t6 := pk e12 t6
    clear t12
    have t13 := pq e12 z11
    clear e12 z11
    refine wpAnyH_ready (rs := [12]) (by kernel_rfl) (by simp) ?_
    refine AllReadyH.cons (o := mark0_o12) rfl (fun K hK => ?_) AllReadyH.nil
    skip
    have X := exec_append (P := Try.prog) (a := a12) (o := mark0_o12) rfl t6 t13 EA2
    rw [if_pos (by rfl), Oper.wp, X]
    show K _ _
    clear X
    refine hK.out _ _ (S4) (fun hHeld => ?_)
    clear hK K
    change wpAnyH _ _ _ _ _ _ _ (a12.put (some 14) (qv)) _
    obtain ⟨a13, e13⟩ : ∃ act, act = a12.put (some 14) (qv) := ⟨_, rfl⟩
    rw [← e13] at h1 ⊢
    have z13 := pz e13 z12
    replace t2 := pk e13 t2
    clear t6
    clear t13
    have t14 := pq e13 z12
    clear e13 z12
    refine tk 13 mark0_o13 (.pointer (some ⟨d, 0, none⟩)) (by rfl) (fun w1 hw => exec_nilCheck rfl t2) hHeld (fun a14 e14 => ?_)
    rw [← e14] at h1
    have z14 := pz e14 z13
    clear t2
    replace t14 := pk e14 t14
    have t15 := pq e14 z13
    clear e14 z13
    refine tk 14 mark0_o14 (f1) (by rfl) (fun w1 hw => exec_fieldAt rfl t15 (GF1 _)) hHeld (fun a15 e15 => ?_)
    rw [← e15] at h1
    have z15 := pz e15 z14
    replace t14 := pk e15 t14
    clear t15
    have t16 := pq e15 z14
    clear e15 z14
    refine wpAnyH_ready (rs := [15]) (by kernel_rfl) (by simp) ?_
    refine AllReadyH.cons (o := mark0_o15) rfl (fun K hK => ?_) AllReadyH.nil
    skip
    have X := exec_store (P := Try.prog) (a := a15) (o := mark0_o15) rfl t16 t14 ES
    rw [if_pos (by rfl), Oper.wp, X]
    show K _ _
    clear X
    refine hK.out _ _ (S5) (fun hHeld => ?_)
    clear hK K
    exact wpAnyH_done (by kernel_rfl) (NoPanic.normal (h1 _ _ (rfl) rfl)) _
  · clear h1
    skip
    have X := exec_buildSlice0 (P := Try.prog) (a := a8) (o := mark0_o5) rfl EB0
    rw [if_pos (by rfl), Oper.wp, X]
    show K _ _
    clear X
    refine hK.out _ _ (S1) (fun hHeld => ?_)
    clear hK K
    change wpAnyH _ _ _ _ _ _ _ (a8.put (some 7) (ev)) _
    obtain ⟨a17, e17⟩ : ∃ act, act = a8.put (some 7) (ev) := ⟨_, rfl⟩
    rw [← e17] at h2 h3 h4 ⊢
    have z17 := pz e17 z8
    replace t2 := pk e17 t2
    replace t5 := pk e17 t5
    replace t11 := pk e17 t11
    have t7 := pq e17 z8
    clear e17 z8
    refine wpAnyH_ready (rs := [4, 10]) (by kernel_rfl) (by simp) ?_
    refine AllReadyH.cons (o := mark0_o4) rfl (fun K hK => ?_) (AllReadyH.cons (o := mark0_o10) rfl (fun K hK => ?_) (AllReadyH.nil))
    · clear h3 h4
      skip
      have X := exec_load (P := Try.prog) (a := a17) (o := mark0_o4) rfl t5 K1
      rw [if_pos (by rfl), Oper.wp, X]
      show K _ _
      clear X
      refine hK.out _ _ (S1) (fun hHeld => ?_)
      clear hK K
      change wpAnyH _ _ _ _ _ _ _ (a17.put (some 6) (pv)) _
      obtain ⟨a18, e18⟩ : ∃ act, act = a17.put (some 6) (pv) := ⟨_, rfl⟩
      rw [← e18] at h2 ⊢
      have z18 := pz e18 z17
      replace t2 := pk e18 t2
      clear t5
      replace t11 := pk e18 t11
      replace t7 := pk e18 t7
      have t6 := pq e18 z17
      clear e18 z17
      refine wpAnyH_ready (rs := [10]) (by kernel_rfl) (by simp) ?_
      refine AllReadyH.cons (o := mark0_o10) rfl (fun K hK => ?_) AllReadyH.nil
      skip
      have X := exec_append (P := Try.prog) (a := a18) (o := mark0_o10) rfl t7 t11 EA1
      rw [if_pos (by rfl), Oper.wp, X]
      show K _ _
      clear X
      refine hK.out _ _ (S2) (fun hHeld => ?_)
      clear hK K
      change wpAnyH _ _ _ _ _ _ _ (a18.put (some 12) (cv)) _
      obtain ⟨a19, e19⟩ : ∃ act, act = a18.put (some 12) (cv) := ⟨_, rfl⟩
      rw [← e19] at h2 ⊢
      have z19 := pz e19 z18
      replace t2 := pk e19 t2
      clear t11
      clear t7
      replace t6 := pk e19 t6
      have t12 := pq e19 z18
      clear e19 z18
      refine wpAnyH_ready (rs := [11]) (by kernel_rfl) (by simp) ?_
      refine AllReadyH.cons (o := mark0_o11) rfl (fun K hK => ?_) AllReadyH.nil
      skip
      have X := exec_buildSlice (P := Try.prog) (a := a19) (o := mark0_o11) rfl t12 EB1
      rw [if_pos (by rfl), Oper.wp, X]
      show K _ _
      clear X
      refine hK.out _ _ (S3) (fun hHeld => ?_)
      clear hK K
      change wpAnyH _ _ _ _ _ _ _ (a19.put (some 13) (lv)) _
      obtain ⟨a20, e20⟩ : ∃ act, act = a19.put (some 13) (lv) := ⟨_, rfl⟩
      rw [← e20] at h2 ⊢
      have z20 := pz e20 z19
      replace t2 := pk e20 t2
      replace t6 := pk e20 t6
      clear t12
      have t13 := pq e20 z19
      clear e20 z19
      refine wpAnyH_ready (rs := [12]) (by kernel_rfl) (by simp) ?_
      refine AllReadyH.cons (o := mark0_o12) rfl (fun K hK => ?_) AllReadyH.nil
      skip
      have X := exec_append (P := Try.prog) (a := a20) (o := mark0_o12) rfl t6 t13 EA2
      rw [if_pos (by rfl), Oper.wp, X]
      show K _ _
      clear X
      refine hK.out _ _ (S4) (fun hHeld => ?_)
      clear hK K
      change wpAnyH _ _ _ _ _ _ _ (a20.put (some 14) (qv)) _
      obtain ⟨a21, e21⟩ : ∃ act, act = a20.put (some 14) (qv) := ⟨_, rfl⟩
      rw [← e21] at h2 ⊢
      have z21 := pz e21 z20
      replace t2 := pk e21 t2
      clear t6
      clear t13
      have t14 := pq e21 z20
      clear e21 z20
      refine tk 13 mark0_o13 (.pointer (some ⟨d, 0, none⟩)) (by rfl) (fun w1 hw => exec_nilCheck rfl t2) hHeld (fun a22 e22 => ?_)
      rw [← e22] at h2
      have z22 := pz e22 z21
      clear t2
      replace t14 := pk e22 t14
      have t15 := pq e22 z21
      clear e22 z21
      refine tk 14 mark0_o14 (f1) (by rfl) (fun w1 hw => exec_fieldAt rfl t15 (GF1 _)) hHeld (fun a23 e23 => ?_)
      rw [← e23] at h2
      have z23 := pz e23 z22
      replace t14 := pk e23 t14
      clear t15
      have t16 := pq e23 z22
      clear e23 z22
      refine wpAnyH_ready (rs := [15]) (by kernel_rfl) (by simp) ?_
      refine AllReadyH.cons (o := mark0_o15) rfl (fun K hK => ?_) AllReadyH.nil
      skip
      have X := exec_store (P := Try.prog) (a := a23) (o := mark0_o15) rfl t16 t14 ES
      rw [if_pos (by rfl), Oper.wp, X]
      show K _ _
      clear X
      refine hK.out _ _ (S5) (fun hHeld => ?_)
      clear hK K
      exact wpAnyH_done (by kernel_rfl) (NoPanic.normal (h2 _ _ (rfl) rfl)) _
    · clear h2
      skip
      have X := exec_append (P := Try.prog) (a := a17) (o := mark0_o10) rfl t7 t11 EA1
      rw [if_pos (by rfl), Oper.wp, X]
      show K _ _
      clear X
      refine hK.out _ _ (S2) (fun hHeld => ?_)
      clear hK K
      change wpAnyH _ _ _ _ _ _ _ (a17.put (some 12) (cv)) _
      obtain ⟨a25, e25⟩ : ∃ act, act = a17.put (some 12) (cv) := ⟨_, rfl⟩
      rw [← e25] at h3 h4 ⊢
      have z25 := pz e25 z17
      replace t2 := pk e25 t2
      replace t5 := pk e25 t5
      clear t11
      clear t7
      have t12 := pq e25 z17
      clear e25 z17
      refine wpAnyH_ready (rs := [4, 11]) (by kernel_rfl) (by simp) ?_
      refine AllReadyH.cons (o := mark0_o4) rfl (fun K hK => ?_) (AllReadyH.cons (o := mark0_o11) rfl (fun K hK => ?_) (AllReadyH.nil))
      · clear h4
        skip
        have X := exec_load (P := Try.prog) (a := a25) (o := mark0_o4) rfl t5 K2
        rw [if_pos (by rfl), Oper.wp, X]
        show K _ _
        clear X
        refine hK.out _ _ (S2) (fun hHeld => ?_)
        clear hK K
        change wpAnyH _ _ _ _ _ _ _ (a25.put (some 6) (pv)) _
        obtain ⟨a26, e26⟩ : ∃ act, act = a25.put (some 6) (pv) := ⟨_, rfl⟩
        rw [← e26] at h3 ⊢
        have z26 := pz e26 z25
        replace t2 := pk e26 t2
        clear t5
        replace t12 := pk e26 t12
        have t6 := pq e26 z25
        clear e26 z25
        refine wpAnyH_ready (rs := [11]) (by kernel_rfl) (by simp) ?_
        refine AllReadyH.cons (o := mark0_o11) rfl (fun K hK => ?_) AllReadyH.nil
        skip
        have X := exec_buildSlice (P := Try.prog) (a := a26) (o := mark0_o11) rfl t12 EB1
        rw [if_pos (by rfl), Oper.wp, X]
        show K _ _
        clear X
        refine hK.out _ _ (S3) (fun hHeld => ?_)
        clear hK K
        change wpAnyH _ _ _ _ _ _ _ (a26.put (some 13) (lv)) _
        obtain ⟨a27, e27⟩ : ∃ act, act = a26.put (some 13) (lv) := ⟨_, rfl⟩
        rw [← e27] at h3 ⊢
        have z27 := pz e27 z26
        replace t2 := pk e27 t2
        clear t12
        replace t6 := pk e27 t6
        have t13 := pq e27 z26
        clear e27 z26
        refine wpAnyH_ready (rs := [12]) (by kernel_rfl) (by simp) ?_
        refine AllReadyH.cons (o := mark0_o12) rfl (fun K hK => ?_) AllReadyH.nil
        skip
        have X := exec_append (P := Try.prog) (a := a27) (o := mark0_o12) rfl t6 t13 EA2
        rw [if_pos (by rfl), Oper.wp, X]
        show K _ _
        clear X
        refine hK.out _ _ (S4) (fun hHeld => ?_)
        clear hK K
        change wpAnyH _ _ _ _ _ _ _ (a27.put (some 14) (qv)) _
        obtain ⟨a28, e28⟩ : ∃ act, act = a27.put (some 14) (qv) := ⟨_, rfl⟩
        rw [← e28] at h3 ⊢
        have z28 := pz e28 z27
        replace t2 := pk e28 t2
        clear t6
        clear t13
        have t14 := pq e28 z27
        clear e28 z27
        refine tk 13 mark0_o13 (.pointer (some ⟨d, 0, none⟩)) (by rfl) (fun w1 hw => exec_nilCheck rfl t2) hHeld (fun a29 e29 => ?_)
        rw [← e29] at h3
        have z29 := pz e29 z28
        clear t2
        replace t14 := pk e29 t14
        have t15 := pq e29 z28
        clear e29 z28
        refine tk 14 mark0_o14 (f1) (by rfl) (fun w1 hw => exec_fieldAt rfl t15 (GF1 _)) hHeld (fun a30 e30 => ?_)
        rw [← e30] at h3
        have z30 := pz e30 z29
        replace t14 := pk e30 t14
        clear t15
        have t16 := pq e30 z29
        clear e30 z29
        refine wpAnyH_ready (rs := [15]) (by kernel_rfl) (by simp) ?_
        refine AllReadyH.cons (o := mark0_o15) rfl (fun K hK => ?_) AllReadyH.nil
        skip
        have X := exec_store (P := Try.prog) (a := a30) (o := mark0_o15) rfl t16 t14 ES
        rw [if_pos (by rfl), Oper.wp, X]
        show K _ _
        clear X
        refine hK.out _ _ (S5) (fun hHeld => ?_)
        clear hK K
        exact wpAnyH_done (by kernel_rfl) (NoPanic.normal (h3 _ _ (rfl) rfl)) _
      · clear h3
        skip
        have X := exec_buildSlice (P := Try.prog) (a := a25) (o := mark0_o11) rfl t12 EB1
        rw [if_pos (by rfl), Oper.wp, X]
        show K _ _
        clear X
        refine hK.out _ _ (S3) (fun hHeld => ?_)
        clear hK K
        change wpAnyH _ _ _ _ _ _ _ (a25.put (some 13) (lv)) _
        obtain ⟨a32, e32⟩ : ∃ act, act = a25.put (some 13) (lv) := ⟨_, rfl⟩
        rw [← e32] at h4 ⊢
        have z32 := pz e32 z25
        replace t2 := pk e32 t2
        replace t5 := pk e32 t5
        clear t12
        have t13 := pq e32 z25
        clear e32 z25
        refine wpAnyH_ready (rs := [4]) (by kernel_rfl) (by simp) ?_
        refine AllReadyH.cons (o := mark0_o4) rfl (fun K hK => ?_) AllReadyH.nil
        skip
        have X := exec_load (P := Try.prog) (a := a32) (o := mark0_o4) rfl t5 K3
        rw [if_pos (by rfl), Oper.wp, X]
        show K _ _
        clear X
        refine hK.out _ _ (S3) (fun hHeld => ?_)
        clear hK K
        change wpAnyH _ _ _ _ _ _ _ (a32.put (some 6) (pv)) _
        obtain ⟨a33, e33⟩ : ∃ act, act = a32.put (some 6) (pv) := ⟨_, rfl⟩
        rw [← e33] at h4 ⊢
        have z33 := pz e33 z32
        replace t2 := pk e33 t2
        clear t5
        replace t13 := pk e33 t13
        have t6 := pq e33 z32
        clear e33 z32
        refine wpAnyH_ready (rs := [12]) (by kernel_rfl) (by simp) ?_
        refine AllReadyH.cons (o := mark0_o12) rfl (fun K hK => ?_) AllReadyH.nil
        skip
        have X := exec_append (P := Try.prog) (a := a33) (o := mark0_o12) rfl t6 t13 EA2
        rw [if_pos (by rfl), Oper.wp, X]
        show K _ _
        clear X
        refine hK.out _ _ (S4) (fun hHeld => ?_)
        clear hK K
        change wpAnyH _ _ _ _ _ _ _ (a33.put (some 14) (qv)) _
        obtain ⟨a34, e34⟩ : ∃ act, act = a33.put (some 14) (qv) := ⟨_, rfl⟩
        rw [← e34] at h4 ⊢
        have z34 := pz e34 z33
        replace t2 := pk e34 t2
        clear t13
        clear t6
        have t14 := pq e34 z33
        clear e34 z33
        refine tk 13 mark0_o13 (.pointer (some ⟨d, 0, none⟩)) (by rfl) (fun w1 hw => exec_nilCheck rfl t2) hHeld (fun a35 e35 => ?_)
        rw [← e35] at h4
        have z35 := pz e35 z34
        clear t2
        replace t14 := pk e35 t14
        have t15 := pq e35 z34
        clear e35 z34
        refine tk 14 mark0_o14 (f1) (by rfl) (fun w1 hw => exec_fieldAt rfl t15 (GF1 _)) hHeld (fun a36 e36 => ?_)
        rw [← e36] at h4
        have z36 := pz e36 z35
        replace t14 := pk e36 t14
        clear t15
        have t16 := pq e36 z35
        clear e36 z35
        refine wpAnyH_ready (rs := [15]) (by kernel_rfl) (by simp) ?_
        refine AllReadyH.cons (o := mark0_o15) rfl (fun K hK => ?_) AllReadyH.nil
        skip
        have X := exec_store (P := Try.prog) (a := a36) (o := mark0_o15) rfl t16 t14 ES
        rw [if_pos (by rfl), Oper.wp, X]
        show K _ _
        clear X
        refine hK.out _ _ (S5) (fun hHeld => ?_)
        clear hK K
        exact wpAnyH_done (by kernel_rfl) (NoPanic.normal (h4 _ _ (rfl) rfl)) _
end Go.Proofs.Ytoofljkgdjjllaa

namespace Go.Proofs.Ytoofljkgdjjllaa
open Go.RowKit
set_option linter.unusedVariables false
set_option linter.unusedSimpArgs false

def Vals (w : World) (a : Option Addr) (X : List Value) : Prop := X = [] ∨ ∃ b off, a = some ⟨b, off, none⟩ ∧ ∀ j u, X[j]? = some u → w.cell? ⟨b, off + j, none⟩ = some u
def OwnV (w : World) (base : Nat) (e : TypeId) (v : Value) (X : List Value) : Prop := w.ownsRow base e 1 v X.length X
theorem Vals.below {w w' : World} {a : Option Addr} {X : List Value} (h : Vals w a X) (hb : Below w.heap.size w w') : Vals w' a X := by
  rcases h with rfl | ⟨b, off, rfl, hc⟩
  · exact .inl rfl
  · exact .inr ⟨b, off, rfl, fun j u hj => (hb.cell (p := ⟨b, off + j, none⟩) (block_lt_of_cell (hc j u hj))).trans (hc j u hj)⟩
theorem OwnV.below {w w' : World} {base : Nat} {e : TypeId} {v : Value} {X : List Value} (h : OwnV w base e v X) (hb : Below w.heap.size w w') : OwnV w' base e v X := by
  refine ⟨h.1, ?_⟩
  rcases h.2 with hn | ⟨g, cap, cur, rfl, hbg, hg, rest⟩
  · exact .inl hn
  · exact .inr ⟨g, cap, cur, rfl, hbg, by rw [hb.block g (Array.getElem?_eq_some_iff.1 hg).1]; exact hg, rest⟩
theorem OwnV.keep {w w' : World} {base : Nat} {e : TypeId} {v : Value} {X : List Value} (h : OwnV w base e v X) (hk : ∀ k, v.ownBlock = some k → w'.heap[k]? = w.heap[k]?) : OwnV w' base e v X := by
  refine ⟨h.1, ?_⟩
  rcases h.2 with hn | ⟨g, cap, cur, rfl, hbg, hg, rest⟩
  · exact .inl hn
  · exact .inr ⟨g, cap, cur, rfl, hbg, by rw [hk g rfl]; exact hg, rest⟩
theorem OwnV.ge {w : World} {base : Nat} {e : TypeId} {v : Value} {X : List Value} (h : OwnV w base e v X) : ∀ j, v.ownBlock = some j → base ≤ j ∧ ∃ c, w.heap[j]? = some (.cells c e (0, 0)) := by
  intro j hj
  rcases h.2 with ⟨rfl, hn⟩ | ⟨g, cap, cur, rfl, hbg, hg, rest⟩
  · cases hj
  · obtain rfl : g = j := by simpa [Value.ownBlock] using hj
    exact ⟨hbg, _, hg⟩
theorem OwnV.open {w : World} {base : Nat} {e : TypeId} {v : Value} {X : List Value} (h : OwnV w base e v X) :
    ∃ a cap, v = .slice a X.length cap ∧ X.length ≤ cap ∧ Vals w a X ∧ (a = none → X = [] ∧ cap = 0) := by
  rcases h.2 with ⟨rfl, hn⟩ | ⟨g, cap, cur, rfl, hbg, hg, hnc, hcm, hcs, htake⟩
  · obtain rfl : X = [] := List.eq_nil_of_length_eq_zero hn
    exact ⟨none, 0, rfl, Nat.le_refl _, .inl rfl, fun _ => ⟨rfl, rfl⟩⟩
  · refine ⟨some ⟨g, 0, none⟩, cap, rfl, hnc, .inr ⟨g, 0, rfl, fun j u hj => ?_⟩, fun h => by cases h⟩
    rw [Nat.zero_add, cell_of_row w g j cur e (0, 0) hg]
    rw [← htake, List.getElem?_take] at hj
    split at hj
    · simpa using hj
    · cases hj
theorem run_appV (T e y : TypeId) (z : Value) (ht : Try.prog.underlying T = some (.slice e)) (hi : (Try.prog.info? e).map (fun i => (i.zero, i.size, i.bytes)) = some (some z, 1, y)) (hy : y = 8 ∨ y = 24) (hz1 : z.cells.size = 1)
    (w : World) (base : Nat) (ty : TypeId) (v : Value) (L : List Value) (a : Option Addr) (M : List Value) (c : Nat) (hown : OwnV w base e v L) (hb : Vals w a M) (h1 : ∀ u ∈ M, u.oneCell' = true)
    (h : L.length + M.length ≤ 2000000000000) (hbase : base ≤ w.heap.size) :
    ∃ v' w', (Builtin.append_ #[T, T] ty #[v, .slice a M.length c]).run Try.prog w = .ok v' w' ∧ OwnV w' base e v' (L ++ M) ∧ w.grownBy w' v.ownBlock ∧ (v'.ownBlock = v.ownBlock ∨ v'.ownBlock = some w.heap.size) := by
  obtain ⟨i, hi, hz, hs, hby⟩ := info_parts hi
  cases a with
  | some ad =>
    have hnews : ∀ j u, M[j]? = some u → w.cell? (ad.add j) = some u := fun j u hj => by
      rcases hb with rfl | ⟨b, off, e, hc⟩
      · simp at hj
      · cases e
        rw [Addr.add_mid]
        exact hc j u hj
    obtain ⟨v', w', hr, h2, h3, h5⟩ := app_at (P := Try.prog) w base T ty e i z 1 y ht hi hz hs hby hz1 (by decide) v L.length L hown ad M.length c M (by omega) hnews h1 (by unfold maxLen; omega) (by rcases hy with rfl | rfl <;> omega) hbase
    refine ⟨v', w', hr, ?_, h3, h5⟩
    unfold OwnV
    rw [List.length_append]
    exact h2
  | none =>
    obtain rfl : M = [] := by
      rcases hb with rfl | ⟨b, off, e, _⟩
      · rfl
      · cases e
    rcases hown.2 with ⟨rfl, hn⟩ | ⟨g, cap, cur, rfl, hbg, hg, hnc, rest⟩
    · refine ⟨.slice none 0 0, w, ?_, by rw [List.append_nil]; exact hown, ⟨rfl, rfl, rfl, Nat.le_refl _, fun _ _ _ => rfl⟩, .inl rfl⟩
      simp [Builtin.append_, run_underlying ht, sizeOf, typeInfo, hi, Builtin.lenOf, Builtin.firstCells, loadCells, loadCellsFrom]
    · refine ⟨.slice (some ⟨g, 0, none⟩) L.length cap, w, ?_, by rw [List.append_nil]; exact hown, ⟨rfl, rfl, rfl, Nat.le_refl _, fun _ _ _ => rfl⟩, .inl rfl⟩
      simp [Builtin.append_, run_underlying ht, sizeOf, typeInfo, hi, Builtin.lenOf, Builtin.firstCells, hnc, storeCells]
end Go.Proofs.Ytoofljkgdjjllaa

namespace Go.Proofs.Ytoofljkgdjjllaa
open Go.RowKit
set_option linter.unusedVariables false
set_option linter.unusedSimpArgs false

structure RefP (B : Nat) (w : World) (d : Nat) (NL : List RN) (PL : List (List RN)) (vn vp : Value) (us : List Value) : Prop where
  cell : w.heap[d]? = some (.cells #[vn, vp] 86 (0, 0))
  nodes : OwnN w B vn NL
  past : OwnV w B 83 vp us
  len : us.length = PL.length
  lists : ∀ (i : Nat) u P, us[i]? = some u → PL[i]? = some P → OwnN w B u P
  dB : B ≤ d
  ap : ∀ (i : Nat) u j, us[i]? = some u → u.ownBlock = some j → vn.ownBlock ≠ some j
  ap2 : ∀ (i i' : Nat) u u' j, us[i]? = some u → us[i']? = some u' → i ≠ i' → u.ownBlock = some j → u'.ownBlock ≠ some j
  ok : ∀ p ∈ NL, RnOk p
  okP : ∀ P ∈ PL, ∀ p ∈ P, RnOk p
  nd : (NL.map (·.1)).Nodup
  ndP : ∀ P ∈ PL, (P.map (·.1)).Nodup
def refB (d : Nat) (vn vp : Value) (us : List Value) (j : Nat) : Prop := j = d ∨ vn.ownBlock = some j ∨ vp.ownBlock = some j ∨ ∃ (i : Nat) (u : Value), us[i]? = some u ∧ u.ownBlock = some j
section
variable {B : Nat} {w w' : World} {d : Nat} {NL : List RN} {PL : List (List RN)} {vn vp : Value} {us : List Value}
theorem RefP.ref (h : RefP B w d NL PL vn vp us) : RefAt w d NL vp := by
  obtain ⟨a, c, e, hr, _⟩ := h.nodes.open h.ok
  refine ⟨⟨a, c, by rw [← e]; exact h.cell, ?_⟩, h.ok, h.nd⟩
  rcases hr with hr | ⟨b, o, e, h1, h2⟩
  · exact Or.inl hr
  · exact Or.inr ⟨b, o, e, h1, fun i x hx => by rw [Nat.mul_comm]; exact h2 i x hx⟩
theorem RefP.keep {O : Nat → Prop} (h : RefP B w d NL PL vn vp us) (t : Tch O w w') (hO : ∀ j, refB d vn vp us j → ¬ O j) : RefP B w' d NL PL vn vp us := by
  have hb : ∀ j c T, w.heap[j]? = some (.cells c T (0, 0)) → refB d vn vp us j → w'.heap[j]? = w.heap[j]? := fun j c T hj hr => t.block j (Array.getElem?_eq_some_iff.1 hj).1 (hO j hr)
  refine ⟨(hb d _ _ h.cell (Or.inl rfl)).trans h.cell, h.nodes.keep fun j hj => ?_, h.past.keep fun j hj => ?_, h.len, fun i u P hu hP => (h.lists i u P hu hP).keep fun j hj => ?_, h.dB, h.ap, h.ap2, h.ok, h.okP, h.nd, h.ndP⟩
  · obtain ⟨_, c, hc⟩ := h.nodes.ge j hj; exact hb j _ _ hc (Or.inr (Or.inl hj))
  · obtain ⟨_, c, hc⟩ := h.past.ge j hj; exact hb j _ _ hc (Or.inr (Or.inr (Or.inl hj)))
  · obtain ⟨_, c, hc⟩ := (h.lists i u P hu hP).ge j hj; exact hb j _ _ hc (Or.inr (Or.inr (Or.inr ⟨i, u, hu, hj⟩)))
theorem RefP.ge (h : RefP B w d NL PL vn vp us) : ∀ j, refB d vn vp us j → B ≤ j ∧ j < w.heap.size := by
  rintro j (rfl | hj | hj | ⟨i, u, hu, hj⟩)
  · exact ⟨h.dB, (Array.getElem?_eq_some_iff.1 h.cell).1⟩
  · obtain ⟨g, c, hc⟩ := h.nodes.ge j hj; exact ⟨g, (Array.getElem?_eq_some_iff.1 hc).1⟩
  · obtain ⟨g, c, hc⟩ := h.past.ge j hj; exact ⟨g, (Array.getElem?_eq_some_iff.1 hc).1⟩
  · have hi : i < PL.length := by rw [← h.len]; exact (List.getElem?_eq_some_iff.1 hu).1
    obtain ⟨g, c, hc⟩ := (h.lists i u _ hu (List.getElem?_eq_getElem hi)).ge j hj
    exact ⟨g, (Array.getElem?_eq_some_iff.1 hc).1⟩
theorem RefP.below (h : RefP B w d NL PL vn vp us) (b : Below w.heap.size w w') : RefP B w' d NL PL vn vp us :=
  h.keep (O := fun _ => False) ⟨b.os, b.tape, b.output, b.size, fun k hk _ => b.block k hk⟩ fun _ _ q => q
end
set_option maxRecDepth 100000 in
set_option maxHeartbeats 2000000 in
theorem rnew_own (w : World) : Calls Try.prog 11 #[] w fun e w' => ∃ d, e = .returned (.pointer (some ⟨d, 0, none⟩)) ∧ RefP w.heap.size w' d [] [] (.slice none 0 0) (.slice none 0 0) [] ∧ Below w.heap.size w w' := by
  go_enter Try.func11, Try.ntmps11
  go_wp2
  go_ret
  refine ⟨_, rfl, ⟨heap_alloc_new _ _, ⟨rfl, Or.inl ⟨rfl, rfl⟩⟩, ⟨rfl, Or.inl ⟨rfl, rfl⟩⟩, rfl, by simp, Nat.le_refl _, by simp, by simp, by simp, by simp, by simp, by simp⟩, (Below.refl _ _).alloc (Nat.le_refl _) _⟩
set_option maxRecDepth 100000 in
set_option maxHeartbeats 2000000 in
theorem rsteps_any {B : Nat} {w : World} {d : Nat} {NL : List RN} {PL : List (List RN)} {vn vp : Value} {us : List Value} (h : RefP B w d NL PL vn vp us) :
    Calls Try.prog 33 #[.pointer (some ⟨d, 0, none⟩)] w fun e w' => e = .returned (.int .i64 (PL.length : Int)) ∧ Below w.heap.size w w' := by
  obtain ⟨a, c, e, _⟩ := h.past.open
  rw [h.len] at e
  subst e
  have hd := h.cell
  generalize PL.length = n at *
  have C1 : w.cell? ⟨d, 1, none⟩ = some (.slice a n c) := by rw [cell_of_row _ _ 1 _ _ _ hd]; rfl
  clear hd h
  go_enter Try.func33, Try.ntmps33
  go_wp2
  go_ret
  exact ⟨rfl, Below.refl _ _⟩
end Go.Proofs.Ytoofljkgdjjllaa

namespace Go.Proofs.Ytoofljkgdjjllaa
open Go.RowKit
set_option linter.unusedVariables false
set_option linter.unusedSimpArgs false

theorem infoNs : (Try.prog.info? 83).map (fun i => (i.zero, i.size, i.bytes)) = some (some (.slice none 0 0), 1, 24) := by kernel_rfl
theorem run_bsV (v : Value) (h1 : v.oneCell' = true) (hc : v.cells = #[v]) (w : World) : (Instr.buildSlice 84 1 #[(0, v)]).run Try.prog w = .ok (.slice (some ⟨w.heap.size, 0, none⟩) 1 1) (w.alloc (.cells #[v] 83)) := by
  obtain ⟨ie, hi, hz, hs, hby⟩ := info_parts infoNs
  refine run_buildSlice w 84 83 1 _ #[v] ie _ Try.underlying84 hi hz (by rw [hs]; decide) (by rw [hs]; decide) ?_
  rw [hs]
  have := Go.Great.fill_whole (s := 1) (by decide) [v] ((Array.range (1 * 1)).map ((Value.slice none 0 0).cells[· % (Value.slice none 0 0).cells.size]!)) (by intro u hu; simp at hu; subst hu; rw [hc]; rfl) (by simp)
  simpa [hc] using this
theorem run_bs0 (w : World) : (Instr.buildSlice 83 0 #[]).run Try.prog w = .ok (.slice (some ⟨w.heap.size, 0, none⟩) 0 0) (w.alloc (.cells #[] 114)) := by
  obtain ⟨ie, hi, hz, hs, hby⟩ := info_parts infoN
  simp [Instr.buildSlice, run_underlying Try.underlying83, sizeOf, typeInfo, zeroValue, hi, hz, hs, newRow, Instr.fill]
  rw [show Array.range 0 = #[] by simp [Array.range], Array.map_empty]
section
variable {w : World} {d : Nat} {vn vp : Value} (a : Option Addr) (n c : Nat) (h : w.heap[d]? = some (.cells #[vn, vp] 86 (0, 0)))
include h
theorem store_ref1 : (Instr.storeAt 84 (.pointer (some ⟨d, 1, none⟩)) (.slice a n c)).run Try.prog w = .ok () (w.setCell ⟨d, 1, none⟩ (.slice a n c)) := by
  have hc : w.cell? ⟨d, 1, none⟩ = some vp := by rw [cell_of_row _ _ 1 _ _ _ h]; rfl
  have hf := frozen_of_row w d 1 _ _ h
  go_simp
theorem store_ref0 : (Instr.storeAt 83 (.pointer (some ⟨d, 0, none⟩)) (.slice a n c)).run Try.prog w = .ok () (w.setCell ⟨d, 0, none⟩ (.slice a n c)) := by
  have hc : w.cell? ⟨d, 0, none⟩ = some vn := by rw [cell_of_row _ _ 0 _ _ _ h]; rfl
  have hf := frozen_of_row w d 0 _ _ h
  go_simp
theorem set_ref1 (u : Value) : (w.setCell ⟨d, 1, none⟩ u).heap[d]? = some (.cells #[vn, u] 86 (0, 0)) := by
  obtain ⟨hl, hv⟩ := Array.getElem?_eq_some_iff.1 h
  simp [World.setCell, hl, Array.getElem_modify_self, hv]
theorem set_ref0 (u : Value) : (w.setCell ⟨d, 0, none⟩ u).heap[d]? = some (.cells #[u, vp] 86 (0, 0)) := by
  obtain ⟨hl, hv⟩ := Array.getElem?_eq_some_iff.1 h
  simp [World.setCell, hl, Array.getElem_modify_self, hv]
end
theorem set_tch (w : World) (d k : Nat) (u : Value) : Tch (fun j => j = d) w (w.setCell ⟨d, k, none⟩ u) := by
  have b := (Below.refl 0 w).setCell (p := ⟨d, k, none⟩) (Nat.zero_le _) u
  exact ⟨b.os, b.tape, b.output, b.size, fun j hj hn => Below.heap_setCell _ _ _ _ hn⟩
end Go.Proofs.Ytoofljkgdjjllaa

namespace Go.Proofs.Ytoofljkgdjjllaa
open Go.RowKit
set_option linter.unusedVariables false
set_option linter.unusedSimpArgs false

theorem own_nilN (w : World) (B : Nat) (hB : B ≤ w.heap.size) : OwnN (w.alloc (.cells #[] 114)) B (.slice (some ⟨w.heap.size, 0, none⟩) 0 0) [] :=
  ⟨by simp [flatN], Or.inr ⟨w.heap.size, 0, #[], rfl, hB, heap_alloc_new _ _, by simp, by unfold maxLen; omega, by simp, by simp [flatN]⟩⟩
theorem past_not {B : Nat} {w : World} {d : Nat} {vn vp v : Value} {us : List Value} (hc : w.heap[d]? = some (.cells #[vn, vp] 86 (0, 0))) (hp : OwnV w B 83 v us) : v.ownBlock ≠ some d := by
  intro e
  obtain ⟨_, c, h⟩ := hp.ge d e
  rw [hc] at h
  simp at h
theorem nodes_not {B : Nat} {w : World} {d : Nat} {vn vp v : Value} {L : List RN} (hc : w.heap[d]? = some (.cells #[vn, vp] 86 (0, 0))) (hp : OwnN w B v L) : v.ownBlock ≠ some d := by
  intro e
  obtain ⟨_, c, h⟩ := hp.ge d e
  rw [hc] at h
  simp at h
theorem nodes_past {B : Nat} {w : World} {vp v : Value} {L : List RN} {us : List Value} (hn : OwnN w B v L) (hp : OwnV w B 83 vp us) {j : Nat} (h1 : v.ownBlock = some j) : vp.ownBlock ≠ some j := by
  intro e
  obtain ⟨_, c, h⟩ := hp.ge j e
  obtain ⟨_, c', h'⟩ := hn.ge j h1
  rw [h'] at h
  simp at h
theorem mark_runs {B : Nat} {w : World} {d : Nat} {NL : List RN} {PL : List (List RN)} {vn vp : Value} {us : List Value} (h : RefP B w d NL PL vn vp us) (hB : B ≤ w.heap.size) (hn : NL.length ≤ 1300000000000) (hp : PL.length ≤ 1300000000000) :
    ∃ (ev cv lv qv : Value) (w1 w2 w3 w4 : World), (Instr.buildSlice 83 0 #[]).run Try.prog w = .ok ev w1 ∧ (Builtin.append_ #[83, 83] 83 #[ev, vn]).run Try.prog w1 = .ok cv w2 ∧
      (Instr.buildSlice 84 1 #[(0, cv)]).run Try.prog w2 = .ok lv w3 ∧ (Builtin.append_ #[84, 84] 84 #[vp, lv]).run Try.prog w3 = .ok qv w4 ∧
      (Instr.storeAt 84 (.pointer (some ⟨d, 1, none⟩)) qv).run Try.prog w4 = .ok () (w4.setCell ⟨d, 1, none⟩ qv) ∧
      Below w.heap.size w w1 ∧ Below w.heap.size w w2 ∧ Below w.heap.size w w3 ∧ Tch (fun j => vp.ownBlock = some j) w w4 ∧ w4.heap[d]? = some (.cells #[vn, vp] 86 (0, 0)) ∧
      RefP B (w4.setCell ⟨d, 1, none⟩ qv) d NL (PL ++ [NL]) vn qv (us ++ [cv]) ∧ (∀ j, refB d vn qv (us ++ [cv]) j → refB d vn vp us j ∨ w.heap.size ≤ j) := by
  obtain ⟨an, cn, en, hrn, _⟩ := h.nodes.open h.ok
  have ld := (Array.getElem?_eq_some_iff.1 h.cell).1
  have e0 := run_bs0 w
  have own1 := own_nilN w B hB
  have b1 : Below w.heap.size w (w.alloc (.cells #[] 114)) := (Below.refl _ _).alloc (Nat.le_refl _) _
  have z1 : (w.alloc (.cells #[] 114)).heap.size = w.heap.size + 1 := by simp
  generalize w.alloc (.cells #[] 114) = w1 at *
  obtain ⟨cv, w2, e1, own2, g2, o2⟩ := run_appN w1 B _ [] an NL cn own1 (hrn.below b1) h.ok (by simp; omega) (by omega)
  rw [List.nil_append] at own2
  have b2 : Below w.heap.size w w2 := b1.trans ⟨g2.os, g2.tape, g2.output, g2.size, fun j hj => g2.block j (by omega) (by simp [Value.ownBlock]; omega)⟩
  have ocv : ∀ j, cv.ownBlock = some j → w.heap.size ≤ j := by
    intro j hj
    rcases o2 with q | q
    · rw [q] at hj; simp [Value.ownBlock] at hj; omega
    · rw [q] at hj; simp at hj; omega
  obtain ⟨a2, c2, ecv, _, _⟩ := own2.open h.ok
  have e2 := run_bsV cv (by rw [ecv]; simp [Value.oneCell']) (by rw [ecv]; rfl) w2
  have b3' : Below w2.heap.size w2 (w2.alloc (.cells #[cv] 83)) := (Below.refl _ _).alloc (Nat.le_refl _) _
  have v3 : Vals (w2.alloc (.cells #[cv] 83)) (some ⟨w2.heap.size, 0, none⟩) [cv] := Or.inr ⟨_, _, rfl, fun j u hj => by
    rw [Nat.zero_add, cell_of_row _ _ _ _ _ _ (heap_alloc_new _ _)]
    simpa using hj⟩
  generalize w2.alloc (.cells #[cv] 83) = w3 at *
  have b3 : Below w.heap.size w w3 := b2.trans (b3'.mono b2.size)
  have z3 := b3.size
  have p3 := h.past.below b3
  obtain ⟨qv, w4, e3, own4, g4, o4⟩ := run_appV 84 83 24 _ Try.underlying84 infoNs (Or.inr rfl) rfl w3 B 84 vp us _ [cv] 1 p3 v3 (by intro u hu; simp at hu; subst hu; rw [ecv]; simp [Value.oneCell']) (by rw [h.len]; simp; omega) (by omega)
  have r3 := h.below b3
  have t4 : Tch (fun j => vp.ownBlock = some j) w w4 := by
    refine Tch.trans ⟨b3.os, b3.tape, b3.output, b3.size, fun j hj _ => b3.block j hj⟩ ⟨g4.os, g4.tape, g4.output, g4.size, fun j hj hO => g4.block j hj (fun q => hO q.symm)⟩
  have hd4 : w4.heap[d]? = some (.cells #[vn, vp] 86 (0, 0)) := (t4.block d ld (past_not h.cell h.past)).trans h.cell
  obtain ⟨a4, c4, eqv, _⟩ := own4.open
  have es := store_ref1 a4 (us ++ [cv]).length c4 hd4
  rw [← eqv] at es
  have ts := set_tch w4 d 1 qv
  have oqv : ∀ j, qv.ownBlock = some j → vp.ownBlock = some j ∨ w.heap.size ≤ j := by
    intro j hj
    rcases o4 with q | q
    · exact Or.inl (by rw [← q]; exact hj)
    · rw [q] at hj; simp at hj; exact Or.inr (by omega)
  have own2' := (own2.below b3').keep (w' := w4) fun j hj => g4.block j (by obtain ⟨_, c, q⟩ := (own2.below b3').ge j hj; exact (Array.getElem?_eq_some_iff.1 q).1) (fun q => nodes_past (own2.below b3') p3 hj q.symm)
  have n4 := h.nodes.keep (w' := w4) fun j hj => t4.block j (by obtain ⟨_, c, q⟩ := h.nodes.ge j hj; exact (Array.getElem?_eq_some_iff.1 q).1) (nodes_past h.nodes h.past hj)
  have l4 : ∀ (i : Nat) u P, us[i]? = some u → PL[i]? = some P → OwnN w4 B u P := fun i u P hu hP => (h.lists i u P hu hP).keep fun j hj => t4.block j (by obtain ⟨_, c, q⟩ := (h.lists i u P hu hP).ge j hj; exact (Array.getElem?_eq_some_iff.1 q).1) (nodes_past (h.lists i u P hu hP) h.past hj)
  have k5 : ∀ (v : Value) (L : List RN), OwnN w4 B v L → OwnN (w4.setCell ⟨d, 1, none⟩ qv) B v L := fun v L q => q.keep fun j hj => ts.block j (by obtain ⟨_, c, q⟩ := q.ge j hj; exact (Array.getElem?_eq_some_iff.1 q).1) (fun e => nodes_not hd4 q (by rw [← e]; exact hj))
  have lu : ∀ (i : Nat) u j, us[i]? = some u → u.ownBlock = some j → j < w.heap.size := fun i u j hu hj => (h.ge j (Or.inr (Or.inr (Or.inr ⟨i, u, hu, hj⟩)))).2
  have hus : ∀ (i : Nat) u, (us ++ [cv])[i]? = some u → (us[i]? = some u ∧ i < us.length) ∨ (u = cv ∧ i = us.length) := by
    intro i u hu
    by_cases hi : i < us.length
    · rw [List.getElem?_append_left hi] at hu; exact Or.inl ⟨hu, hi⟩
    · rw [List.getElem?_append_right (by omega)] at hu
      have := (List.getElem?_eq_some_iff.1 hu).1
      simp at this
      obtain rfl : i = us.length := by omega
      simp at hu
      exact Or.inr ⟨hu.symm, rfl⟩
  refine ⟨_, cv, _, qv, w1, w2, w3, w4, e0, by rw [en]; exact e1, e2, e3, es, b1, b2, b3, t4, hd4, ⟨set_ref1 hd4 qv, k5 _ _ n4, own4.keep fun j hj => ts.block j (by obtain ⟨_, c, q⟩ := own4.ge j hj; exact (Array.getElem?_eq_some_iff.1 q).1) (fun e => past_not hd4 own4 (by rw [← e]; exact hj)), by simp [h.len], fun i u P hu hP => ?_, h.dB, fun i u j hu hj => ?_, fun i i' u u' j hu hu' hne hj => ?_, h.ok, fun P hP => ?_, h.nd, fun P hP => ?_⟩, fun j hj => ?_⟩
  · rcases hus i u hu with ⟨q, hi⟩ | ⟨rfl, rfl⟩
    · rw [List.getElem?_append_left (by rw [← h.len]; exact hi)] at hP; exact k5 _ _ (l4 i u P q hP)
    · rw [h.len] at hP; simp at hP; subst hP; exact k5 _ _ own2'
  · rcases hus i u hu with ⟨q, _⟩ | ⟨rfl, _⟩
    · exact h.ap i u j q hj
    · have := ocv j hj
      intro e
      have := (h.ge j (Or.inr (Or.inl e))).2
      omega
  · rcases hus i u hu with ⟨q, _⟩ | ⟨rfl, e1⟩ <;> rcases hus i' u' hu' with ⟨q', _⟩ | ⟨rfl, e2⟩
    · exact h.ap2 i i' u u' j q q' hne hj
    · intro e; have := ocv j e; have := lu i u j q hj; omega
    · intro e; have := ocv j hj; have := lu i' u' j q' e; omega
    · omega
  · rcases List.mem_append.1 hP with q | q
    · exact h.okP P q
    · simp at q; subst q; exact h.ok
  · rcases List.mem_append.1 hP with q | q
    · exact h.ndP P q
    · simp at q; subst q; exact h.nd
  · rcases hj with rfl | q | q | ⟨i, u, hu, q⟩
    · exact Or.inl (Or.inl rfl)
    · exact Or.inl (Or.inr (Or.inl q))
    · rcases oqv j q with q | q
      · exact Or.inl (Or.inr (Or.inr (Or.inl q)))
      · exact Or.inr q
    · rcases hus i u hu with ⟨p, _⟩ | ⟨rfl, _⟩
      · exact Or.inl (Or.inr (Or.inr (Or.inr ⟨i, u, p, q⟩)))
      · exact Or.inr (ocv j q)
set_option maxRecDepth 100000 in
set_option maxHeartbeats 4000000 in
theorem mark_any {B : Nat} {w : World} {d : Nat} {NL : List RN} {PL : List (List RN)} {vn vp : Value} {us : List Value} (h : RefP B w d NL PL vn vp us) (hB : B ≤ w.heap.size) (hn : NL.length ≤ 1300000000000) (hp : PL.length ≤ 1300000000000) :
    Calls Try.prog 75 #[.pointer (some ⟨d, 0, none⟩)] w fun e w' => e = .returned (.tuple #[]) ∧ ∃ qv cv, RefP B w' d NL (PL ++ [NL]) vn qv (us ++ [cv]) ∧ Tch (fun j => j = d ∨ vp.ownBlock = some j) w w' ∧ (∀ j, refB d vn qv (us ++ [cv]) j → refB d vn vp us j ∨ w.heap.size ≤ j) := by
  have bd : Below w.heap.size w w.drew := (Below.refl _ _).drew
  have hd := h.below bd
  have ld := (Array.getElem?_eq_some_iff.1 hd.cell).1
  obtain ⟨ev, cv, lv, qv, w1, w2, w3, w4, e0, e1, e2, e3, es, b1, b2, b3, t4, hd4, hr, hbl⟩ := mark_runs hd hB hn hp
  have fin1 : Tch (fun j => j = d ∨ vp.ownBlock = some j) w w4 := (Tch.refl _ w).drew.trans (Tch.mono (w := w.drew) t4 fun k _ q => Or.inr q)
  have fin : Tch (fun j => j = d ∨ vp.ownBlock = some j) w (w4.setCell ⟨d, 1, none⟩ qv) := fin1.trans ((set_tch w4 d 1 qv).mono fun k _ q => Or.inl q)
  obtain ⟨an, cn, en, _⟩ := h.nodes.open h.ok
  obtain ⟨ap, cp, ep, _⟩ := h.past.open
  obtain ⟨w5, hw5⟩ : ∃ w5, w4.setCell ⟨d, 1, none⟩ qv = w5 := ⟨_, rfl⟩
  have s5 : w5.cell? ⟨d, 0, none⟩ = some vn := by rw [← hw5, cell_of_row _ _ 0 _ _ _ (set_ref1 hd4 qv)]; rfl
  have s4 : w4.cell? ⟨d, 0, none⟩ = some vn := by rw [cell_of_row _ _ 0 _ _ _ hd4]; rfl
  have c0 : w.drew.cell? ⟨d, 0, none⟩ = some vn := by rw [cell_of_row _ _ 0 _ _ _ hd.cell]; rfl
  have c1 : w.drew.cell? ⟨d, 1, none⟩ = some vp := by rw [cell_of_row _ _ 1 _ _ _ hd.cell]; rfl
  have f0 : ∀ W, Below w.drew.heap.size w.drew W → W.cell? ⟨d, 0, none⟩ = some vn := fun W b => (b.cell (p := ⟨d, 0, none⟩) ld).trans c0
  have f1 : ∀ W, Below w.drew.heap.size w.drew W → (Instr.loadAt 84 (.pointer (some ⟨d, 1, none⟩))).run Try.prog W = .ok vp W := fun W b => by
    have hc := (b.cell (p := ⟨d, 1, none⟩) ld).trans c1
    rw [ep] at hc ⊢
    go_simp
  rw [hw5] at es hr fin
  go_enter Try.func75, Try.ntmps75
  go_upto_region 0 with fail
  refine mark0 d (.pointer (some ⟨d, 0, none⟩)) (.pointer (some ⟨d, 1, none⟩)) vn vp ev cv lv qv w1 w2 w3 w4 w5 (fun W => W.cell? ⟨d, 0, none⟩ = some vn) _ w _ rfl rfl (fun W => by go_simp) (fun W => by go_simp) (fun W hw => by rw [en] at hw ⊢; go_simp) c0 (f0 _ b1) (f0 _ b2) (f0 _ b3) s4 s5 (f1 _ (Below.refl _ _)) (f1 _ b1) (f1 _ b2) (f1 _ b3) e0 e1 e2 e3 es ?_ ?_ ?_ ?_
  all_goals
    intro a' w' hw' ha
    subst hw' ha
    simp only [Act.put, List.setIfInBounds_toArray, List.set_cons_zero, List.set_cons_succ]
    refine bodyPost_end (results_none rfl _ _ _) rfl ?_
    exact ⟨rfl, qv, cv, hr, fin, hbl⟩
end Go.Proofs.Ytoofljkgdjjllaa

namespace Go.Proofs.Ytoofljkgdjjllaa
open Go.RowKit
set_option linter.unusedVariables false
set_option linter.unusedSimpArgs false

theorem OwnV.front {w : World} {B : Nat} {e : TypeId} {v : Value} {X : List Value} {y : Value} (h : OwnV w B e v (X ++ [y])) :
    ∃ g c, v = .slice (some ⟨g, 0, none⟩) (X.length + 1) c ∧ X.length + 1 ≤ c ∧ OwnV w B e (.slice (some ⟨g, 0, none⟩) X.length c) X ∧ w.cell? ⟨g, X.length, none⟩ = some y := by
  rcases h.2 with ⟨_, hn⟩ | ⟨g, cap, cur, rfl, hbg, hg, hnc, hcm, hcs, htake⟩
  · simp at hn
  · have hl : (X ++ [y]).length = X.length + 1 := by simp
    rw [hl] at hnc htake ⊢
    refine ⟨g, cap, rfl, hnc, ⟨by simp, Or.inr ⟨g, cap, cur, rfl, hbg, hg, by omega, hcm, hcs, ?_⟩⟩, ?_⟩
    · have q := congrArg (List.take X.length) htake
      rw [List.take_take, Nat.mul_one, Nat.min_eq_left (Nat.le_succ _), List.take_left] at q
      rw [Nat.mul_one]
      exact q
    · rw [cell_of_row w g _ cur e (0, 0) hg]
      have : (X ++ [y])[X.length]? = some y := by simp
      rw [← htake, List.getElem?_take] at this
      split at this
      · simpa using this
      · cases this
set_option maxRecDepth 100000 in
set_option maxHeartbeats 2000000 in
theorem rundo_no {B : Nat} {w : World} {d : Nat} {NL : List RN} {PL : List (List RN)} {vn vp : Value} {us : List Value} (h : RefP B w d NL PL vn vp us) (z : Int) (hz : z < 1 ∨ z ≠ (PL.length : Int)) :
    Calls Try.prog 72 #[.pointer (some ⟨d, 0, none⟩), .int .i64 z] w fun e w' => e = .returned (.int .i64 2) ∧ Below w.heap.size w w' := by
  obtain ⟨a, c, e, _⟩ := h.past.open
  rw [h.len] at e
  subst e
  have hd := h.cell
  generalize PL.length = n at *
  have C1 : w.cell? ⟨d, 1, none⟩ = some (.slice a n c) := by rw [cell_of_row _ _ 1 _ _ _ hd]; rfl
  clear hd h
  go_enter Try.func72, Try.ntmps72
  by_cases h1 : z < 1
  · clear hz
    go_wp2
    go_ret
    exact ⟨rfl, Below.refl _ _⟩
  · have h2 : z ≠ (n : Int) := by rcases hz with q | q; · exact absurd q h1
                                  · exact q
    clear hz
    go_wp2
    go_ret
    exact ⟨rfl, Below.refl _ _⟩
end Go.Proofs.Ytoofljkgdjjllaa

namespace Go.Proofs.Ytoofljkgdjjllaa
open Go.RowKit
set_option linter.unusedVariables false
set_option linter.unusedSimpArgs false

set_option maxRecDepth 100000 in
set_option maxHeartbeats 2000000 in
theorem rundo_ok {B : Nat} {w : World} {d : Nat} {NL L : List RN} {P0 : List (List RN)} {vn vp : Value} {us : List Value} (h : RefP B w d NL (P0 ++ [L]) vn vp us) (hn : P0.length ≤ 1300000000000) :
    Calls Try.prog 72 #[.pointer (some ⟨d, 0, none⟩), .int .i64 ((P0.length + 1 : Nat) : Int)] w fun e w' => e = .returned (.int .i64 0) ∧ ∃ u vp' us0, us = us0 ++ [u] ∧ RefP B w' d L P0 u vp' us0 ∧ Tch (fun j => j = d) w w' ∧ vp'.ownBlock = vp.ownBlock := by
  obtain ⟨us0, u, rfl⟩ : ∃ us0 u, us = us0 ++ [u] := by
    rcases List.eq_nil_or_concat us with rfl | ⟨a, b, e⟩
    · have := h.len; simp at this
    · exact ⟨a, b, by simpa using e⟩
  have l0 : us0.length = P0.length := by have := h.len; simp at this; exact this
  obtain ⟨g, c, rfl, hle, own0, cu⟩ := h.past.front
  have hu : OwnN w B u L := h.lists us0.length u L (by simp) (by rw [l0]; simp)
  obtain ⟨au, cu', eu, _⟩ := hu.open (h.okP L (by simp))
  have fin : RefP B ((w.setCell ⟨d, 0, none⟩ u).setCell ⟨d, 1, none⟩ (.slice (some ⟨g, 0, none⟩) us0.length c)) d L P0 u (.slice (some ⟨g, 0, none⟩) us0.length c) us0 ∧ Tch (fun j => j = d) w ((w.setCell ⟨d, 0, none⟩ u).setCell ⟨d, 1, none⟩ (.slice (some ⟨g, 0, none⟩) us0.length c)) := by
    have t := (set_tch w d 0 u).trans (set_tch (w.setCell ⟨d, 0, none⟩ u) d 1 (.slice (some ⟨g, 0, none⟩) us0.length c))
    have hc := set_ref1 (set_ref0 h.cell u) (.slice (some ⟨g, 0, none⟩) us0.length c)
    generalize (w.setCell ⟨d, 0, none⟩ u).setCell ⟨d, 1, none⟩ (.slice (some ⟨g, 0, none⟩) us0.length c) = W at *
    have k : ∀ (v : Value) (M : List RN), OwnN w B v M → OwnN W B v M := fun v M q => q.keep fun j hj => t.block j (by obtain ⟨_, c, q⟩ := q.ge j hj; exact (Array.getElem?_eq_some_iff.1 q).1) (fun e => nodes_not h.cell q (by rw [← e]; exact hj))
    have e1 : ∀ (i : Nat) v, us0[i]? = some v → (us0 ++ [u])[i]? = some v ∧ i ≠ us0.length := fun i v hv => by
      have hi := (List.getElem?_eq_some_iff.1 hv).1
      exact ⟨by rw [List.getElem?_append_left hi]; exact hv, by omega⟩
    have e2 : ∀ (i : Nat) P, P0[i]? = some P → (P0 ++ [L])[i]? = some P := fun i P hP => by
      have hi := (List.getElem?_eq_some_iff.1 hP).1
      rw [List.getElem?_append_left hi]; exact hP
    refine ⟨⟨hc, k _ _ hu, own0.keep fun j hj => t.block j (by obtain ⟨_, c, q⟩ := own0.ge j hj; exact (Array.getElem?_eq_some_iff.1 q).1) (fun e => past_not h.cell own0 (by rw [← e]; exact hj)), l0, fun i v P hv hP => k _ _ (h.lists i v P (e1 i v hv).1 (e2 i P hP)), h.dB, fun i v j hv hj => ?_, fun i i' v v' j hv hv' hne hj => h.ap2 i i' v v' j (e1 i v hv).1 (e1 i' v' hv').1 hne hj, h.okP L (by simp), fun P hP => h.okP P (by simp [hP]), h.ndP L (by simp), fun P hP => h.ndP P (by simp [hP])⟩, t⟩
    exact h.ap2 i us0.length v u j (e1 i v hv).1 (by simp) (e1 i v hv).2 hj
  have hd := h.cell
  have hd1 := set_ref0 h.cell u
  rw [eu] at fin hd1 cu
  rw [l0] at fin cu hd hd1
  have HF := hidMk fin
  have C1 : w.cell? ⟨d, 1, none⟩ = some (.slice (some ⟨g, 0, none⟩) (P0.length + 1) c) := by rw [cell_of_row _ _ 1 _ _ _ hd]; rfl
  have C0 : w.cell? ⟨d, 0, none⟩ = some vn := by rw [cell_of_row _ _ 0 _ _ _ hd]; rfl
  have F0 := frozen_of_row w d 0 _ _ hd
  have D1 : (w.setCell ⟨d, 0, none⟩ (.slice au L.length cu')).cell? ⟨d, 1, none⟩ = some (.slice (some ⟨g, 0, none⟩) (P0.length + 1) c) := by rw [cell_of_row _ _ 1 _ _ _ hd1]; rfl
  have G1 := frozen_of_row _ d 1 _ _ hd1
  rw [l0] at hle
  clear hd hd1 fin h own0 hu
  obtain ⟨n, hnn⟩ : ∃ n, P0.length = n := ⟨_, rfl⟩
  have HN := hidMk hnn
  rw [hnn] at hn hle HF C1 D1 cu ⊢
  clear hnn
  go_enter Try.func72, Try.ntmps72
  go_upto_region 6 with fail
  clear C1 C0 F0 cu
  go_wp2
  go_ret
  exact ⟨rfl, _, _, us0, by rw [eu], HF.out.1, HF.out.2, rfl⟩
end Go.Proofs.Ytoofljkgdjjllaa

namespace Go.Proofs.Ytoofljkgdjjllaa
open Go.RowKit
set_option linter.unusedVariables false
set_option linter.unusedSimpArgs false

theorem exec_b3 {P : Program} {w : World} {a : Act} {o : Oper} {t : TypeId} {x y z : Operand} {xv yv zv v : Value} (ho : o.op = .build t #[(0, x), (1, y), (2, z)]) (hx : a.eval x = xv) (hy : a.eval y = yv) (hz : a.eval z = zv) (hl : (Instr.build t #[(0, xv), (1, yv), (2, zv)]).run P w = .ok v w) : (execOp a.eval o).run P w = .ok (.value v) w :=
  exec_build ho (by simp [hx, hy, hz]) hl
def rgrow10_o0 : Oper := ⟨some 32, .move (.tmp 0), 27, "ref.go:72", #[], none⟩
def rgrow10_o1 : Oper := ⟨some 33, .move (.tmp 0), 27, "ref.go:72", #[], none⟩
def rgrow10_o2 : Oper := ⟨some 34, .nilCheck (.tmp 33), 0, "ref.go:72", #[⟨1, .data⟩], none⟩
def rgrow10_o3 : Oper := ⟨some 35, .fieldAddr 86 (.tmp 34) 0, 0, "ref.go:72", #[⟨2, .data⟩], none⟩
def rgrow10_o4 : Oper := ⟨some 36, .load 83 (.tmp 35), 83, "ref.go:72", #[⟨3, .data⟩], none⟩
def rgrow10_o5 : Oper := ⟨some 37, .load 37 (.tmp 5), 37, "ref.go:72", #[], none⟩
def rgrow10_o6 : Oper := ⟨some 38, .load 37 (.tmp 6), 37, "ref.go:72", #[], none⟩
def rgrow10_o7 : Oper := ⟨some 39, .move (.tmp 3), 9, "ref.go:72", #[], none⟩
def rgrow10_o8 : Oper := ⟨some 40, .build 114 #[(0, .tmp 37), (1, .tmp 38), (2, .tmp 39)], 114, "ref.go:72", #[⟨5, .data⟩, ⟨6, .data⟩, ⟨7, .data⟩], none⟩
def rgrow10_o9 : Oper := ⟨some 41, .buildSlice 83 1 #[(0, .tmp 40)], 83, "ref.go:72", #[⟨8, .data⟩], none⟩
def rgrow10_o10 : Oper := ⟨some 42, .call { callee := Callee.builtin Builtin.append, args := #[.tmp 36, .tmp 41], argTypes := #[83, 83] }, 83, "ref.go:72", #[⟨4, .data⟩, ⟨9, .data⟩], none⟩
def rgrow10_o11 : Oper := ⟨some 43, .nilCheck (.tmp 32), 0, "ref.go:72", #[⟨0, .data⟩, ⟨0, .phase⟩, ⟨1, .phase⟩, ⟨2, .phase⟩, ⟨3, .phase⟩, ⟨4, .phase⟩, ⟨5, .phase⟩, ⟨6, .phase⟩, ⟨7, .phase⟩, ⟨8, .phase⟩, ⟨9, .phase⟩, ⟨10, .phase⟩], none⟩
def rgrow10_o12 : Oper := ⟨some 44, .fieldAddr 86 (.tmp 43) 0, 0, "ref.go:72", #[⟨11, .data⟩, ⟨0, .phase⟩, ⟨1, .phase⟩, ⟨2, .phase⟩, ⟨3, .phase⟩, ⟨4, .phase⟩, ⟨5, .phase⟩, ⟨6, .phase⟩, ⟨7, .phase⟩, ⟨8, .phase⟩, ⟨9, .phase⟩, ⟨10, .phase⟩], none⟩
def rgrow10_o13 : Oper := ⟨none, .store 83 (.tmp 44) (.tmp 42), 0, "ref.go:72", #[⟨12, .data⟩, ⟨10, .data⟩, ⟨10, .chain⟩, ⟨0, .phase⟩, ⟨1, .phase⟩, ⟨2, .phase⟩, ⟨3, .phase⟩, ⟨4, .phase⟩, ⟨5, .phase⟩, ⟨6, .phase⟩, ⟨7, .phase⟩, ⟨8, .phase⟩, ⟨9, .phase⟩, ⟨10, .phase⟩], none⟩
def rgrow10_ops : Array Oper := #[rgrow10_o0, rgrow10_o1, rgrow10_o2, rgrow10_o3, rgrow10_o4, rgrow10_o5, rgrow10_o6, rgrow10_o7, rgrow10_o8, rgrow10_o9, rgrow10_o10, rgrow10_o11, rgrow10_o12, rgrow10_o13]
set_option maxRecDepth 100000 in
set_option maxHeartbeats 4000000 in
theorem rgrow10 (d : Nat) (f0 pkv pu kv uv sv xv nv lv qv : Value) (w1 w2 w3 : World) (S : World → Prop) (a : Act) (w : World) (Q : Exit → Act → World → Prop) (hsz : a.tmps.size = 45)
    (t0 : a.tmps.getD 0 undef = .pointer (some ⟨d, 0, none⟩))
    (t3 : a.tmps.getD 3 undef = sv)
    (t5 : a.tmps.getD 5 undef = pkv)
    (t6 : a.tmps.getD 6 undef = pu)
    (GF0 : ∀ W, (Instr.fieldAt 86 (.pointer (some ⟨d, 0, none⟩)) 0).run Try.prog W = .ok f0 W) (GB : ∀ W, (Instr.build 114 #[(0, kv), (1, uv), (2, sv)]).run Try.prog W = .ok xv W)
    (GK : ∀ W, S W → (Instr.loadAt 37 pkv).run Try.prog W = .ok kv W) (GU : ∀ W, S W → (Instr.loadAt 37 pu).run Try.prog W = .ok uv W)
    (S0 : S w.drew) (S1 : S w1) (S2 : S w2) (S3 : S w3)
    (K0 : (Instr.loadAt 83 f0).run Try.prog w.drew = .ok nv w.drew) (K1 : (Instr.loadAt 83 f0).run Try.prog w1 = .ok nv w1)
    (EB : (Instr.buildSlice 83 1 #[(0, xv)]).run Try.prog w.drew = .ok lv w1) (EA : (Builtin.append_ #[83, 83] 83 #[nv, lv]).run Try.prog w1 = .ok qv w2) (ES : (Instr.storeAt 83 f0 qv).run Try.prog w2 = .ok () w3)
    (h1 : ∀ (a' : Act) (w' : World), w' = w3 → a' = (((((((((((((a).put (some 32) (.pointer (some ⟨d, 0, none⟩))).put (some 33) (.pointer (some ⟨d, 0, none⟩))).put (some 34) (.pointer (some ⟨d, 0, none⟩))).put (some 35) (f0)).put (some 37) (kv)).put (some 38) (uv)).put (some 39) (sv)).put (some 40) (xv)).put (some 36) (nv)).put (some 41) (lv)).put (some 42) (qv)).put (some 43) (.pointer (some ⟨d, 0, none⟩))).put (some 44) (f0) → Q .normal a' w')
    (h2 : ∀ (a' : Act) (w' : World), w' = w3 → a' = (((((((((((((a).put (some 32) (.pointer (some ⟨d, 0, none⟩))).put (some 33) (.pointer (some ⟨d, 0, none⟩))).put (some 34) (.pointer (some ⟨d, 0, none⟩))).put (some 35) (f0)).put (some 37) (kv)).put (some 38) (uv)).put (some 39) (sv)).put (some 40) (xv)).put (some 41) (lv)).put (some 36) (nv)).put (some 42) (qv)).put (some 43) (.pointer (some ⟨d, 0, none⟩))).put (some 44) (f0) → Q .normal a' w') :
    (Code.region 10 rgrow10_ops true).wp Try.prog Q a w := by
  refine wp_region_noPanic ?_
  refine wp_region_held_drew (S := fun w' => S w') (by kernel_rfl) (S0) (fun hHeld => ?_)
  refine tk 0 rgrow10_o0 (.pointer (some ⟨d, 0, none⟩)) (by rfl) (fun w1 hw => exec_move rfl t0) hHeld (fun a1 e1 => ?_)
  rw [← e1] at h1 h2
  have z1 := pz e1 hsz
  replace t0 := pk e1 t0
  replace t3 := pk e1 t3
  replace t5 := pk e1 t5
  replace t6 := pk e1 t6
  have t32 := pq e1 hsz
  clear e1 hsz
  refine tk 1 rgrow10_o1 (.pointer (some ⟨d, 0, none⟩)) (by rfl) (fun w1 hw => exec_move rfl t0) hHeld (fun a2 e2 => ?_)
  rw [← e2] at h1 h2
  have z2 := pz e2 z1
  clear t0
  replace t3 := pk e2 t3
  replace t5 := pk e2 t5
  replace t6 := pk e2 t6
  replace t32 := pk e2 t32
  have t33 := pq e2 z1
  clear e2 z1
  refine tk 2 rgrow10_o2 (.pointer (some ⟨d, 0, none⟩)) (by rfl) (fun w1 hw => exec_nilCheck rfl t33) hHeld (fun a3 e3 => ?_)
  rw [← e3] at h1 h2
  have z3 := pz e3 z2
  replace t3 := pk e3 t3
  replace t5 := pk e3 t5
  replace t6 := pk e3 t6
  replace t32 := pk e3 t32
  clear t33
  have t34 := pq e3 z2
  clear e3 z2
  refine tk 3 rgrow10_o3 (f0) (by rfl) (fun w1 hw => exec_fieldAt rfl t34 (GF0 _)) hHeld (fun a4 e4 => ?_)
  rw [← e4] at h1 h2
  have z4 := pz e4 z3
  replace t3 := pk e4 t3
  replace t5 := pk e4 t5
  replace t6 := pk e4 t6
  replace t32 := pk e4 t32
  clear t34
  have t35 := pq e4 z3
  clear e4 z3
  refine tk 5 rgrow10_o5 (kv) (by rfl) (fun w1 hw => exec_load rfl t5 (GK _ hw)) hHeld (fun a5 e5 => ?_)
  rw [← e5] at h1 h2
  have z5 := pz e5 z4
  replace t3 := pk e5 t3
  clear t5
  replace t6 := pk e5 t6
  replace t32 := pk e5 t32
  replace t35 := pk e5 t35
  have t37 := pq e5 z4
  clear e5 z4
  refine tk 6 rgrow10_o6 (uv) (by rfl) (fun w1 hw => exec_load rfl t6 (GU _ hw)) hHeld (fun a6 e6 => ?_)
  rw [← e6] at h1 h2
  have z6 := pz e6 z5
  replace t3 := pk e6 t3
  clear t6
  replace t32 := pk e6 t32
  replace t35 := pk e6 t35
  replace t37 := pk e6 t37
  have t38 := pq e6 z5
  clear e6 z5
  refine tk 7 rgrow10_o7 (sv) (by rfl) (fun w1 hw => exec_move rfl t3) hHeld (fun a7 e7 => ?_)
  rw [← e7] at h1 h2
  have z7 := pz e7 z6
  clear t3
  replace t32 := pk e7 t32
  replace t35 := pk e7 t35
  replace t37 := pk e7 t37
  replace t38 := pk e7 t38
  have t39 := pq e7 z6
  clear e7 z6
  refine tk 8 rgrow10_o8 (xv) (by rfl) (fun w1 hw => exec_b3 rfl t37 t38 t39 (GB _)) hHeld (fun a8 e8 => ?_)
  rw [← e8] at h1 h2
  have z8 := pz e8 z7
  replace t32 := pk e8 t32
  replace t35 := pk e8 t35
  clear t37
  clear t38
  clear t39
  have t40 := pq e8 z7
  clear e8 z7
  refine wpAnyH_ready (rs := [4, 9]) (by kernel_rfl) (by simp) ?_
  refine AllReadyH.cons (o := rgrow10_o4) rfl (fun K hK => ?_) (AllReadyH.cons (o := rgrow10_o9) rfl (fun K hK => ?_) (AllReadyH.nil))
  · clear h2
    skip
    have X := exec_load (P := Try.prog) (a := a8) (o := rgrow10_o4) rfl t35 K0
    rw [if_pos (by rfl), Oper.wp, X]
    show K _ _
    clear X
    refine hK.out _ _ (S0) (fun hHeld => ?_)
    clear hK K
    change wpAnyH _ _ _ _ _ _ _ (a8.put (some 36) (nv)) _
    obtain ⟨a9, e9⟩ : ∃ act, act = a8.put (some 36) (nv) := ⟨_, rfl⟩
    rw [← e9] at h1 ⊢
    have z9 := pz e9 z8
    replace t32 := pk e9 t32
    clear t35
    replace t40 := pk e9 t40
    have t36 := pq e9 z8
    clear e9 z8
    refine wpAnyH_ready (rs := [9]) (by kernel_rfl) (by simp) ?_
    refine AllReadyH.cons (o := rgrow10_o9) rfl (fun K hK => ?_) AllReadyH.nil
    skip
    have X := exec_buildSlice (P := Try.prog) (a := a9) (o := rgrow10_o9) rfl t40 EB
    rw [if_pos (by rfl), Oper.wp, X]
    show K _ _
    clear X
    refine hK.out _ _ (S1) (fun hHeld => ?_)
    clear hK K
    change wpAnyH _ _ _ _ _ _ _ (a9.put (some 41) (lv)) _
    obtain ⟨a10, e10⟩ : ∃ act, act = a9.put (some 41) (lv) := ⟨_, rfl⟩
    rw [← e10] at h1 ⊢
    have z10 := pz e10 z9
    replace t32 := pk e10 t32
    clear t40
    replace t36 := pk e10 t36
    have t41 := pq e10 z9
    clear e10 z9
    refine wpAnyH_ready (rs := [10]) (by kernel_rfl) (by simp) ?_
    refine AllReadyH.cons (o := rgrow10_o10) rfl (fun K hK => ?_) AllReadyH.nil
    skip
    have X := exec_append (P := Try.prog) (a := a10) (o := rgrow10_o10) rfl t36 t41 EA
    rw [if_pos (by rfl), Oper.wp, X]
    show K _ _
    clear X
    refine hK.out _ _ (S2) (fun hHeld => ?_)
    clear hK K
    change wpAnyH _ _ _ _ _ _ _ (a10.put (some 42) (qv)) _
    obtain ⟨a11, e11⟩ : ∃ act, act = a10.put (some 42) (qv) := ⟨_, rfl⟩
    rw [← e11] at h1 ⊢
    have z11 := pz e11 z10
    replace t32 := pk e11 t32
    clear t36
    clear t41
    have t42 := pq e11 z10
    clear e11 z10
    refine tk 11 rgrow10_o11 (.pointer (some ⟨d, 0, none⟩)) (by rfl) (fun w1 hw => exec_nilCheck rfl t32) hHeld (fun a12 e12 => ?_)
    rw [← e12] at h1
    have z12 := pz e12 z11
    clear t32
    replace t42 := pk e12 t42
    have t43 := pq e12 z11
    clear e12 z11
    refine tk 12 rgrow10_o12 (f0) (by rfl) (fun w1 hw => exec_fieldAt rfl t43 (GF0 _)) hHeld (fun a13 e13 => ?_)
    rw [← e13] at h1
    have z13 := pz e13 z12
    replace t42 := pk e13 t42
    clear t43
    have t44 := pq e13 z12
    clear e13 z12
    refine wpAnyH_ready (rs := [13]) (by kernel_rfl) (by simp) ?_
    refine AllReadyH.cons (o := rgrow10_o13) rfl (fun K hK => ?_) AllReadyH.nil
    skip
    have X := exec_store (P := Try.prog) (a := a13) (o := rgrow10_o13) rfl t44 t42 ES
    rw [if_pos (by rfl), Oper.wp, X]
    show K _ _
    clear X
    refine hK.out _ _ (S3) (fun hHeld => ?_)
    clear hK K
    exact wpAnyH_done (by kernel_rfl) (NoPanic.normal (h1 _ _ (rfl) rfl)) _
  · clear h1
    skip
    have X := exec_buildSlice (P := Try.prog) (a := a8) (o := rgrow10_o9) rfl t40 EB
    rw [if_pos (by rfl), Oper.wp, X]
    show K _ _
    clear X
    refine hK.out _ _ (S1) (fun hHeld => ?_)
    clear hK K
    change wpAnyH _ _ _ _ _ _ _ (a8.put (some 41) (lv)) _
    obtain ⟨a15, e15⟩ : ∃ act, act = a8.put (some 41) (lv) := ⟨_, rfl⟩
    rw [← e15] at h2 ⊢
    have z15 := pz e15 z8
    replace t32 := pk e15 t32
    replace t35 := pk e15 t35
    clear t40
    have t41 := pq e15 z8
    clear e15 z8
    refine wpAnyH_ready (rs := [4]) (by kernel_rfl) (by simp) ?_
    refine AllReadyH.cons (o := rgrow10_o4) rfl (fun K hK => ?_) AllReadyH.nil
    skip
    have X := exec_load (P := Try.prog) (a := a15) (o := rgrow10_o4) rfl t35 K1
    rw [if_pos (by rfl), Oper.wp, X]
    show K _ _
    clear X
    refine hK.out _ _ (S1) (fun hHeld => ?_)
    clear hK K
    change wpAnyH _ _ _ _ _ _ _ (a15.put (some 36) (nv)) _
    obtain ⟨a16, e16⟩ : ∃ act, act = a15.put (some 36) (nv) := ⟨_, rfl⟩
    rw [← e16] at h2 ⊢
    have z16 := pz e16 z15
    replace t32 := pk e16 t32
    clear t35
    replace t41 := pk e16 t41
    have t36 := pq e16 z15
    clear e16 z15
    refine wpAnyH_ready (rs := [10]) (by kernel_rfl) (by simp) ?_
    refine AllReadyH.cons (o := rgrow10_o10) rfl (fun K hK => ?_) AllReadyH.nil
    skip
    have X := exec_append (P := Try.prog) (a := a16) (o := rgrow10_o10) rfl t36 t41 EA
    rw [if_pos (by rfl), Oper.wp, X]
    show K _ _
    clear X
    refine hK.out _ _ (S2) (fun hHeld => ?_)
    clear hK K
    change wpAnyH _ _ _ _ _ _ _ (a16.put (some 42) (qv)) _
    obtain ⟨a17, e17⟩ : ∃ act, act = a16.put (some 42) (qv) := ⟨_, rfl⟩
    rw [← e17] at h2 ⊢
    have z17 := pz e17 z16
    replace t32 := pk e17 t32
    clear t41
    clear t36
    have t42 := pq e17 z16
    clear e17 z16
    refine tk 11 rgrow10_o11 (.pointer (some ⟨d, 0, none⟩)) (by rfl) (fun w1 hw => exec_nilCheck rfl t32) hHeld (fun a18 e18 => ?_)
    rw [← e18] at h2
    have z18 := pz e18 z17
    clear t32
    replace t42 := pk e18 t42
    have t43 := pq e18 z17
    clear e18 z17
    refine tk 12 rgrow10_o12 (f0) (by rfl) (fun w1 hw => exec_fieldAt rfl t43 (GF0 _)) hHeld (fun a19 e19 => ?_)
    rw [← e19] at h2
    have z19 := pz e19 z18
    replace t42 := pk e19 t42
    clear t43
    have t44 := pq e19 z18
    clear e19 z18
    refine wpAnyH_ready (rs := [13]) (by kernel_rfl) (by simp) ?_
    refine AllReadyH.cons (o := rgrow10_o13) rfl (fun K hK => ?_) AllReadyH.nil
    skip
    have X := exec_store (P := Try.prog) (a := a19) (o := rgrow10_o13) rfl t44 t42 ES
    rw [if_pos (by rfl), Oper.wp, X]
    show K _ _
    clear X
    refine hK.out _ _ (S3) (fun hHeld => ?_)
    clear hK K
    exact wpAnyH_done (by kernel_rfl) (NoPanic.normal (h2 _ _ (rfl) rfl)) _
end Go.Proofs.Ytoofljkgdjjllaa

namespace Go.Proofs.Ytoofljkgdjjllaa
open Go.RowKit
set_option linter.unusedVariables false
set_option linter.unusedSimpArgs false
set_option linter.unusedSectionVars false

section
variable (d : Nat) (NL : List RN) (pv : Value) (k u : IdK) (key : ByteArray) (w : World) (h : RefAt w d NL pv) (hk : k.ok) (hu : u.ok) (hn : NL.length ≤ 1300000000000)
include h hk hu hn
set_option maxRecDepth 100000 in
set_option maxHeartbeats 2000000 in
theorem rgrow_zero (hz : k = zId) : Calls Try.prog 30 #[.pointer (some ⟨d, 0, none⟩), k.v, u.v, .string key] w fun e w' => e = .returned (.int .i64 2) ∧ Below w.heap.size w w' := by
  have hq : ∀ w : World, (binOp .eql 37 k.v zId.v).run Try.prog w = .ok (.bool true) w := fun w => by rw [eql_id k zId hk zId_ok, decide_eq_true hz]
  clear hz h hn
  unfold IdK.v
  go_enter Try.func30, Try.ntmps30
  go_upto_region 1 with fail
  obtain ⟨hx, hy, bx, zx⟩ := two_boxes w k u
  generalize (w.alloc (.cells k.c.toArray 37)).alloc (.cells u.c.toArray 37) = W at *
  go_wp2_with (first
    | (refine wpList_val rfl (exec_load rfl rfl (load_id hk hx)) ?_)
    | (refine wpList_val rfl (exec_build0 rfl (build_id _)) ?_)
    | (refine wpList_val rfl (exec_binOp rfl rfl rfl (guard_id _ _ k zId _ _) (hq _)) ?_)
    | fail)
  go_ret
  exact ⟨rfl, bx⟩
set_option maxRecDepth 100000 in
set_option maxHeartbeats 2000000 in
theorem rgrow_known (hz : k ≠ zId) (hh : (lookN NL k).isSome = true) : Calls Try.prog 30 #[.pointer (some ⟨d, 0, none⟩), k.v, u.v, .string key] w fun e w' => e = .returned (.int .i64 5) ∧ Below w.heap.size w w' := by
  have hq : ∀ w : World, (binOp .eql 37 k.v zId.v).run Try.prog w = .ok (.bool false) w := fun w => by rw [eql_id k zId hk zId_ok, decide_eq_false hz]
  have H1 : Hid (∀ W, Below w.heap.size w W → Calls Try.prog 74 #[.pointer (some ⟨d, 0, none⟩), k.v] W fun e w' => e = .returned (.bool true) ∧ Below W.heap.size W w') := fun W b => by
    have := rhas_any d NL pv k W (h.below b) hk hn
    rwa [hh] at this
  clear hz hh h hn
  unfold IdK.v
  go_enter Try.func30, Try.ntmps30
  go_upto_region 1 with fail
  obtain ⟨hx, hy, bx, zx⟩ := two_boxes w k u
  generalize (w.alloc (.cells k.c.toArray 37)).alloc (.cells u.c.toArray 37) = W at *
  go_wp2_with (first
    | (refine wpList_val rfl (exec_load rfl rfl (load_id hk hx)) ?_)
    | (refine wpList_val rfl (exec_build0 rfl (build_id _)) ?_)
    | (refine wpList_val rfl (exec_binOp rfl rfl rfl (guard_id _ _ k zId _ _) (hq _)) ?_)
    | (go_at_call 74; refine (H1.out _ bx).mono ?_; rintro e w' ⟨rfl, b'⟩)
    | fail)
  go_ret
  exact ⟨rfl, bx.trans (b'.mono (by omega))⟩
set_option maxRecDepth 100000 in
set_option maxHeartbeats 2000000 in
theorem rgrow_none (hz : k ≠ zId) (hh : (lookN NL k).isSome = false) (hb : Bears (lookN NL) u = false) : Calls Try.prog 30 #[.pointer (some ⟨d, 0, none⟩), k.v, u.v, .string key] w fun e w' => e = .returned (.int .i64 4) ∧ Below w.heap.size w w' := by
  have hb2 : u ≠ zId ∧ (lookN NL u).isSome = false := by simpa [Bears] using hb
  have hq : ∀ w : World, (binOp .eql 37 k.v zId.v).run Try.prog w = .ok (.bool false) w := fun w => by rw [eql_id k zId hk zId_ok, decide_eq_false hz]
  have hq2 : ∀ w : World, (binOp .neq 37 u.v zId.v).run Try.prog w = .ok (.bool true) w := fun w => by rw [neq_id u zId hu zId_ok, decide_eq_false hb2.1]; rfl
  have H1 : Hid (∀ W, Below w.heap.size w W → Calls Try.prog 74 #[.pointer (some ⟨d, 0, none⟩), k.v] W fun e w' => e = .returned (.bool false) ∧ Below W.heap.size W w') := fun W b => by
    have := rhas_any d NL pv k W (h.below b) hk hn
    rwa [hh] at this
  have H2 : Hid (∀ W, Below w.heap.size w W → Calls Try.prog 74 #[.pointer (some ⟨d, 0, none⟩), u.v] W fun e w' => e = .returned (.bool false) ∧ Below W.heap.size W w') := fun W b => by
    have := rhas_any d NL pv u W (h.below b) hu hn
    rwa [hb2.2] at this
  clear hz hh h hn hb hb2
  unfold IdK.v
  go_enter Try.func30, Try.ntmps30
  go_upto_region 1 with fail
  obtain ⟨hx, hy, bx, zx⟩ := two_boxes w k u
  have ZX := hidMk zx
  clear zx
  generalize (w.alloc (.cells k.c.toArray 37)).alloc (.cells u.c.toArray 37) = W at *
  have HX := hidMk (load_id hk hx)
  go_wp2_with (first
    | (refine wpList_val rfl (exec_load (t := 37) (u := .pointer (some ⟨w.heap.size, 0, none⟩)) rfl rfl HX.out) ?_)
    | (refine wpList_val rfl (exec_load (t := 37) (u := .pointer (some ⟨w.heap.size + 1, 0, none⟩)) rfl rfl HY.out) ?_)
    | (refine wpList_val rfl (exec_build0 rfl (build_id _)) ?_)
    | (refine wpList_val rfl (exec_binOp rfl rfl rfl (guard_id _ _ k zId _ _) (hq _)) ?_)
    | (refine wpList_val rfl (exec_binOp rfl rfl rfl (guard_id _ _ u zId _ _) (hq2 _)) ?_)
    | (go_at_call 74; refine (H1.out _ bx).mono ?_; rintro e w1 ⟨rfl, b1⟩; have HY := hidMk (load_id hu ((b1.block _ (by have := ZX.out; omega)).trans hy)); clear H1)
    | (go_at_call 74; refine (H2.out _ (bx.trans (b1.mono bx.size))).mono ?_; rintro e w2 ⟨rfl, b2⟩)
    | fail)
  go_ret
  have c1 := bx.trans (b1.mono bx.size)
  exact ⟨rfl, c1.trans (b2.mono c1.size)⟩
end
end Go.Proofs.Ytoofljkgdjjllaa

namespace Go.Proofs.Ytoofljkgdjjllaa
open Go.RowKit
set_option linter.unusedVariables false
set_option linter.unusedSimpArgs false

section
variable {B : Nat} {w : World} {d : Nat} {NL : List RN} {PL : List (List RN)} {vn vp : Value} {us : List Value}
theorem RefP.nodes' (h : RefP B w d NL PL vn vp us) {W : World} {qv : Value} {NL' : List RN} (t : Tch (fun j => j = d ∨ vn.ownBlock = some j) w W) (hc : W.heap[d]? = some (.cells #[qv, vp] 86 (0, 0))) (ho : OwnN W B qv NL')
    (hq : ∀ j, qv.ownBlock = some j → vn.ownBlock = some j ∨ w.heap.size ≤ j) (ok : ∀ p ∈ NL', RnOk p) (nd : (NL'.map (·.1)).Nodup) : RefP B W d NL' PL qv vp us ∧ (∀ j, refB d qv vp us j → refB d vn vp us j ∨ w.heap.size ≤ j) := by
  have lu : ∀ (i : Nat) u j, us[i]? = some u → u.ownBlock = some j → j < w.heap.size := fun i u j hu hj => (h.ge j (Or.inr (Or.inr (Or.inr ⟨i, u, hu, hj⟩)))).2
  refine ⟨⟨hc, ho, h.past.keep fun j hj => t.block j ?_ ?_, h.len, fun i u P hu hP => (h.lists i u P hu hP).keep fun j hj => t.block j (lu i u j hu hj) ?_, h.dB, fun i u j hu hj => ?_, h.ap2, ok, h.okP, nd, h.ndP⟩, fun j hj => ?_⟩
  · obtain ⟨_, c, q⟩ := h.past.ge j hj; exact (Array.getElem?_eq_some_iff.1 q).1
  · rintro (rfl | q)
    · exact past_not h.cell h.past hj
    · exact nodes_past h.nodes h.past q hj
  · rintro (rfl | q)
    · exact nodes_not h.cell (h.lists i u P hu hP) hj
    · exact h.ap i u j hu hj q
  · intro q
    rcases hq j q with e | e
    · exact h.ap i u j hu hj e
    · have := lu i u j hu hj; omega
  · rcases hj with rfl | q | q | q
    · exact Or.inl (Or.inl rfl)
    · rcases hq j q with e | e
      · exact Or.inl (Or.inr (Or.inl e))
      · exact Or.inr e
    · exact Or.inl (Or.inr (Or.inr (Or.inl q)))
    · exact Or.inl (Or.inr (Or.inr (Or.inr q)))
theorem more_runs (h : RefP B w d NL PL vn vp us) (hB : B ≤ w.heap.size) (hn : NL.length ≤ 1300000000000) (p : RN) (hp : RnOk p) (hk : p.1 ∉ NL.map (·.1)) :
    ∃ (lv qv : Value) (w1 w2 : World), (Instr.buildSlice 83 1 #[(0, .agg (rnC p).toArray)]).run Try.prog w = .ok lv w1 ∧ (Builtin.append_ #[83, 83] 83 #[vn, lv]).run Try.prog w1 = .ok qv w2 ∧
      (Instr.storeAt 83 (.pointer (some ⟨d, 0, none⟩)) qv).run Try.prog w2 = .ok () (w2.setCell ⟨d, 0, none⟩ qv) ∧ Below w.heap.size w w1 ∧ Tch (fun j => vn.ownBlock = some j) w w2 ∧ Tch (fun j => j = d ∨ vn.ownBlock = some j) w (w2.setCell ⟨d, 0, none⟩ qv) ∧
      RefP B (w2.setCell ⟨d, 0, none⟩ qv) d (NL ++ [p]) PL qv vp us ∧ (∀ j, refB d qv vp us j → refB d vn vp us j ∨ w.heap.size ≤ j) := by
  have ld := (Array.getElem?_eq_some_iff.1 h.cell).1
  have e1 := run_bsN p hp w
  have r1 := rns_lit w p 114
  have b1 : Below w.heap.size w (w.alloc (.cells (rnC p).toArray 114)) := (Below.refl _ _).alloc (Nat.le_refl _) _
  generalize w.alloc (.cells (rnC p).toArray 114) = w1 at *
  have z1 := b1.size
  obtain ⟨qv, w2, e2, own2, g2, o2⟩ := run_appN w1 B vn NL _ [p] 1 (h.nodes.below b1) r1 (by simpa using hp) (by simp; omega) (by omega)
  have t2 : Tch (fun j => vn.ownBlock = some j) w w2 := Tch.trans ⟨b1.os, b1.tape, b1.output, b1.size, fun j hj _ => b1.block j hj⟩ ⟨g2.os, g2.tape, g2.output, g2.size, fun j hj hO => g2.block j hj (fun q => hO q.symm)⟩
  have hd2 : w2.heap[d]? = some (.cells #[vn, vp] 86 (0, 0)) := (t2.block d ld (nodes_not h.cell h.nodes)).trans h.cell
  have okN : ∀ x ∈ NL ++ [p], RnOk x := fun x hx => by
    rcases List.mem_append.1 hx with q | q
    · exact h.ok x q
    · simp at q; subst q; exact hp
  obtain ⟨a2, c2, eqv, _⟩ := own2.open okN
  have es := store_ref0 a2 (NL ++ [p]).length c2 hd2
  rw [← eqv] at es
  have ts := set_tch w2 d 0 qv
  have t3 : Tch (fun j => j = d ∨ vn.ownBlock = some j) w (w2.setCell ⟨d, 0, none⟩ qv) := (t2.mono fun k _ q => Or.inr q).trans (ts.mono fun k _ q => Or.inl q)
  have oqv : ∀ j, qv.ownBlock = some j → vn.ownBlock = some j ∨ w.heap.size ≤ j := by
    intro j hj
    rcases o2 with q | q
    · exact Or.inl (by rw [← q]; exact hj)
    · rw [q] at hj; simp at hj; exact Or.inr (by omega)
  have own3 : OwnN (w2.setCell ⟨d, 0, none⟩ qv) B qv (NL ++ [p]) := own2.keep fun j hj => ts.block j (by obtain ⟨_, c, q⟩ := own2.ge j hj; exact (Array.getElem?_eq_some_iff.1 q).1) (fun e => nodes_not hd2 own2 (by rw [← e]; exact hj))
  obtain ⟨hr, hb⟩ := h.nodes' t3 (set_ref0 hd2 qv) own3 oqv okN (by
    rw [List.map_append, List.nodup_append]
    refine ⟨h.nd, by simp, fun a ha b hb e => ?_⟩
    simp at hb
    subst hb e
    exact hk ha)
  exact ⟨_, qv, w1, w2, e1, e2, es, b1, t2, t3, hr, hb⟩
theorem other_runs (h : RefP B w d NL PL vn vp us) (i : Nat) (hi : i < NL.length) (p : RN) (hp : RnOk p) (hk : (NL.map (·.1))[i]? = some p.1) :
    ∃ g c w1, vn = .slice (some ⟨g, 0, none⟩) NL.length c ∧ (Instr.storeAt 114 (.pointer (some ⟨g, i * 68, none⟩)) (.agg (rnC p).toArray)).run Try.prog w = .ok () w1 ∧ Tch (fun j => vn.ownBlock = some j) w w1 ∧ RefP B w1 d (NL.set i p) PL vn vp us := by
  obtain ⟨g, c, e, hg, w1, e1, own1, t1, z1⟩ := own_setN h.nodes h.ok hi hp
  have ld := (Array.getElem?_eq_some_iff.1 h.cell).1
  refine ⟨g, c, w1, e, e1, t1, (h.nodes' (t1.mono fun k _ q => Or.inr q) ((t1.block d ld (nodes_not h.cell h.nodes)).trans h.cell) own1 (fun j hj => Or.inl hj) (fun x hx => ?_) ?_).1⟩
  · rcases List.mem_or_eq_of_mem_set hx with q | rfl
    · exact h.ok x q
    · exact hp
  · have : (NL.set i p).map (·.1) = NL.map (·.1) := by
      rw [List.map_set]
      obtain ⟨hl, hv⟩ := List.getElem?_eq_some_iff.1 hk
      rw [← hv, List.set_getElem_self]
    rw [this]
    exact h.nd
end
def RStep (B : Nat) (w : World) (d : Nat) (NL : List RN) (PL : List (List RN)) (vn vp : Value) (us : List Value) (k : IdK) (n : NodeV) (c : Int) (e : Ending) (w' : World) : Prop :=
  (c ≠ 0 ∧ e = .returned (.int .i64 c) ∧ Below w.heap.size w w') ∨ (c = 0 ∧ e = .returned (.int .i64 0) ∧ ∃ vn' vp' us', RefP B w' d (M.put NL k n) (PL ++ [NL]) vn' vp' us' ∧ Tch (fun j => refB d vn vp us j) w w' ∧ ∀ j, refB d vn' vp' us' j → refB d vn vp us j ∨ w.heap.size ≤ j)
theorem put_none {NL : List RN} {k : IdK} (h : lookN NL k = none) (n : NodeV) : M.put NL k n = NL ++ [(k, n)] := by
  unfold M.put
  cases hf : M.fnd NL k 0 with
  | none => rfl
  | some q => unfold lookN M.look at h; rw [hf] at h; cases h
theorem put_some {NL : List RN} {k : IdK} {m : NodeV} (h : lookN NL k = some m) (n : NodeV) : ∃ j : Nat, fPos NL k = (j : Int) ∧ NL[j]? = some (k, m) ∧ j < NL.length ∧ M.put NL k n = NL.set j (k, n) := by
  unfold M.put fPos
  unfold lookN M.look at h
  cases hf : M.fnd NL k 0 with
  | none => rw [hf] at h; cases h
  | some q =>
    obtain ⟨j, m'⟩ := q
    rw [hf] at h
    cases h
    have := M.fnd_some hf
    exact ⟨j, rfl, this.1, this.2, rfl⟩
theorem look_no {NL : List RN} {k : IdK} (h : lookN NL k = none) : k ∉ NL.map (·.1) := by
  intro hm
  obtain ⟨p, hp, e⟩ := List.mem_map.1 hm
  unfold lookN M.look at h
  cases hf : M.fnd NL k 0 with
  | some q => rw [hf] at h; cases h
  | none =>
    clear h hm
    have : ∀ (E : List RN) (i : Nat), M.fnd E k i = none → ∀ p ∈ E, p.1 ≠ k := by
      intro E
      induction E with
      | nil => intro i _ p hp; cases hp
      | cons q E ih =>
        intro i hq p hp
        unfold M.fnd at hq
        split at hq
        · cases hq
        · next hne =>
          rcases List.mem_cons.1 hp with rfl | hp
          · exact fun e => hne e.symm
          · exact ih _ hq p hp
    exact this NL 0 hf p hp e
end Go.Proofs.Ytoofljkgdjjllaa

namespace Go.Proofs.Ytoofljkgdjjllaa
open Go.RowKit
set_option linter.unusedVariables false
set_option linter.unusedSimpArgs false

structure Pl where
  x : Nat
  s : Tr
  H : List Rec
  f : Fn
  d : Nat
  NL : List RN
  PL : List (List RN)
  vn : Value
  vp : Value
  us : List Value
  bv : Value
  BL : List (Option Nat)
  sv : Value
  SL : List Int
def bkV : Option Nat → Value
  | none => .pointer none
  | some b => .pointer (some ⟨b, 0, none⟩)
def inV (z : Int) : Value := .int .i64 z
structure PS (B : Nat) (g : Nat → Nat) (w : World) (p : Pl) : Prop where
  own : Own B w p.s p.H p.f
  ref : RefP B w p.d p.NL p.PL p.vn p.vp p.us
  cell : w.heap[p.x]? = some (.cells #[.pointer (some ⟨p.s.t, 0, none⟩), .pointer (some ⟨p.d, 0, none⟩), p.bv, p.sv] 32 (0, 0))
  backs : OwnV w B 45 p.bv (p.BL.map bkV)
  steps : OwnV w B 3 p.sv (p.SL.map inV)
  bk : ∀ b, some b ∈ p.BL → g b = 2 ∧ ∃ c, w.heap[b]? = some (.cells c 103 (0, 0))
  g1 : ∀ j ∈ p.s.bl, g j = 1
  g2 : ∀ r ∈ p.H, ∀ b ∈ r.bl, g b = 2
  g3 : ∀ j, refB p.d p.vn p.vp p.us j → g j = 3
  g4 : ∀ j, (j = p.x ∨ p.bv.ownBlock = some j ∨ p.sv.ownBlock = some j) → g j = 4
  gz : ∀ j, w.heap.size ≤ j → g j = 0
  gB : ∀ j, g j ≠ 0 → B ≤ j
def Mut (g : Nat → Nat) (j : Nat) : Prop := g j = 1 ∨ g j = 3 ∨ g j = 4
def Ext (w : World) (g g' : Nat → Nat) : Prop := ∀ j, j < w.heap.size → g' j = g j
theorem Ext.refl (w : World) (g : Nat → Nat) : Ext w g g := fun _ _ => rfl
theorem Ext.trans {w w' : World} {g g' g'' : Nat → Nat} (h : Ext w g g') (h' : Ext w' g' g'') (z : w.heap.size ≤ w'.heap.size) : Ext w g g'' := fun j hj => (h' j (by omega)).trans (h j hj)
theorem mut_ext {w w1 w2 : World} {g g' : Nat → Nat} (h : Ext w g g') (t : Tch (Mut g) w w1) (t2 : Tch (Mut g') w1 w2) : Tch (Mut g) w w2 :=
  t.trans' t2 fun i hi q => by unfold Mut at q ⊢; rwa [h i hi] at q
section
variable {B : Nat} {g : Nat → Nat} {w w' : World} {p : Pl}
theorem PS.lt (h : PS B g w p) {j : Nat} (q : g j ≠ 0) : j < w.heap.size := by
  rcases Nat.lt_or_ge j w.heap.size with hl | hl
  · exact hl
  · exact absurd (h.gz j hl) q
theorem PS.keep {Q : Nat → Prop} (h : PS B g w p) (t : Tch Q w w') (hQ : ∀ j, g j ≠ 0 → ¬ Q j) : PS B g w' p := by
  have k : ∀ j, g j ≠ 0 → w'.heap[j]? = w.heap[j]? := fun j q => t.block j (h.lt q) (hQ j q)
  have n1 : ∀ {j}, g j = 1 → g j ≠ 0 := fun q e => by rw [q] at e; cases e
  have n2 : ∀ {j}, g j = 2 → g j ≠ 0 := fun q e => by rw [q] at e; cases e
  have n3 : ∀ {j}, g j = 3 → g j ≠ 0 := fun q e => by rw [q] at e; cases e
  have n4 : ∀ {j}, g j = 4 → g j ≠ 0 := fun q e => by rw [q] at e; cases e
  exact ⟨h.own.keep t (fun j hj => hQ j (n1 (h.g1 j hj))) (fun r hr b hb => hQ b (n2 (h.g2 r hr b hb))), h.ref.keep t (fun j hj => hQ j (n3 (h.g3 j hj))), (k _ (n4 (h.g4 _ (Or.inl rfl)))).trans h.cell,
    h.backs.keep fun j hj => k j (n4 (h.g4 j (Or.inr (Or.inl hj)))), h.steps.keep fun j hj => k j (n4 (h.g4 j (Or.inr (Or.inr hj)))), fun b hb => ⟨(h.bk b hb).1, by obtain ⟨q, c, hc⟩ := h.bk b hb; exact ⟨c, (k b (n2 q)).trans hc⟩⟩,
    h.g1, h.g2, h.g3, h.g4, fun j hj => h.gz j (Nat.le_trans t.size hj), h.gB⟩
theorem PS.below (h : PS B g w p) (b : Below w.heap.size w w') : PS B g w' p :=
  h.keep (Q := fun _ => False) ⟨b.os, b.tape, b.output, b.size, fun k hk _ => b.block k hk⟩ fun _ _ q => q
def newG (w w' : World) (g : Nat → Nat) (m : Nat → Nat) (j : Nat) : Nat := if j < w.heap.size then g j else if j < w'.heap.size then m j else 0
theorem newG_old {g m : Nat → Nat} {j : Nat} (h : j < w.heap.size) : newG w w' g m j = g j := by unfold newG; rw [if_pos h]
theorem newG_new {g m : Nat → Nat} {j : Nat} (h : w.heap.size ≤ j) (h' : j < w'.heap.size) : newG w w' g m j = m j := by unfold newG; rw [if_neg (by omega), if_pos h']
theorem newG_ext (w w' : World) (g m : Nat → Nat) : Ext w g (newG w w' g m) := fun j hj => newG_old hj
theorem newG_z {g m : Nat → Nat} (hs : w.heap.size ≤ w'.heap.size) : ∀ j, w'.heap.size ≤ j → newG w w' g m j = 0 := fun j hj => by unfold newG; rw [if_neg (by omega), if_neg (by omega)]
theorem newG_B {g m : Nat → Nat} (h : ∀ j, g j ≠ 0 → B ≤ j) (hB : B ≤ w.heap.size) : ∀ j, newG w w' g m j ≠ 0 → B ≤ j := fun j hj => by
  rcases Nat.lt_or_ge j w.heap.size with hl | hl
  · rw [newG_old hl] at hj; exact h j hj
  · omega
theorem PS.done (h : PS B g w p) (hB : B ≤ w.heap.size) {k : IdK} {n : NodeV} {e : Ending} {s' : Tr} {r : Rec} (hd : Done B w p.s p.H p.f k n e w' s' r) :
    ∃ g', Ext w g g' ∧ Tch (Mut g) w w' ∧ PS B g' w' { p with s := s', H := r :: p.H, f := upd p.f k (some n) } ∧ w.heap.size ≤ r.bk := by
  have t := hd.tch
  have hs := t.size
  have no : ∀ j, g j ≠ 1 → j ∉ p.s.bl := fun j q hj => q (h.g1 j hj)
  have k' : ∀ j, g j ≠ 0 → g j ≠ 1 → w'.heap[j]? = w.heap[j]? := fun j q q1 => t.block j (h.lt q) (no j q1)
  have ex := newG_ext w w' g (fun j => if j ∈ r.bl then 2 else 1)
  have old : ∀ j, g j ≠ 0 → newG w w' g (fun j => if j ∈ r.bl then 2 else 1) j = g j := fun j q => newG_old (h.lt q)
  have hap := hd.own.tree.apart r (List.mem_cons_self ..)
  have o4 : ∀ j, g j = 4 → w'.heap[j]? = w.heap[j]? := fun j q => k' j (by rw [q]; decide) (by rw [q]; decide)
  refine ⟨newG w w' g (fun j => if j ∈ r.bl then 2 else 1), ex, t.mono fun j _ hj => Or.inl (h.g1 j hj), ⟨hd.own, h.ref.keep t fun j hj => no j (by rw [h.g3 j hj]; decide), ?_, h.backs.keep fun j hj => o4 j (h.g4 j (Or.inr (Or.inl hj))), h.steps.keep fun j hj => o4 j (h.g4 j (Or.inr (Or.inr hj))), fun b hb => ?_, fun j hj => ?_, fun q hq b hb => ?_, fun j hj => ?_, fun j hj => ?_, newG_z hs, newG_B h.gB hB⟩, hd.rb r.bk (by simp [Rec.bl])⟩
  · simp only
    rw [hd.t]
    exact (o4 _ (h.g4 _ (Or.inl rfl))).trans h.cell
  · obtain ⟨q, c, hc⟩ := h.bk b hb
    exact ⟨by rw [old b (by rw [q]; decide)]; exact q, c, (k' b (by rw [q]; decide) (by rw [q]; decide)).trans hc⟩
  · rcases hd.bl j hj with q | q
    · have := h.g1 j q
      rw [old j (by rw [this]; decide)]; exact this
    · rw [newG_new q (hd.own.tree.tr.lt j hj), if_neg (fun e => hap j e hj)]
  · rcases List.mem_cons.1 hq with rfl | hq
    · rw [newG_new (hd.rb b hb) (hd.own.tree.hist.lt _ (List.mem_cons_self ..) b hb), if_pos hb]
    · have := h.g2 q hq b hb
      rw [old b (by rw [this]; decide)]; exact this
  · have := h.g3 j hj
    rw [old j (by rw [this]; decide)]; exact this
  · have := h.g4 j hj
    rw [old j (by rw [this]; decide)]; exact this
theorem PS.undone (h : PS B g w p) (hB : B ≤ w.heap.size) {H' : List Rec} {r : Rec} (hH : p.H = r :: H') {f' : Fn} {e : Ending} (hu : UndoneP B w p.s H' f' e w') :
    e = .returned (.int .i64 0) ∧ ∃ g' s', s'.t = p.s.t ∧ Ext w g g' ∧ Tch (Mut g) w w' ∧ PS B g' w' { p with s := s', H := H', f := f' } := by
  obtain ⟨he, s', ho, ht, t, hbl⟩ := hu
  have hs := t.size
  have no : ∀ j, g j ≠ 1 → j ∉ p.s.bl := fun j q hj => q (h.g1 j hj)
  have k' : ∀ j, g j ≠ 0 → g j ≠ 1 → w'.heap[j]? = w.heap[j]? := fun j q q1 => t.block j (h.lt q) (no j q1)
  have old : ∀ j, g j ≠ 0 → newG w w' g (fun _ => 1) j = g j := fun j q => newG_old (h.lt q)
  have o4 : ∀ j, g j = 4 → w'.heap[j]? = w.heap[j]? := fun j q => k' j (by rw [q]; decide) (by rw [q]; decide)
  refine ⟨he, newG w w' g (fun _ => 1), s', ht, newG_ext _ _ _ _, t.mono fun j _ hj => Or.inl (h.g1 j hj), ⟨ho, h.ref.keep t fun j hj => no j (by rw [h.g3 j hj]; decide), ?_, h.backs.keep fun j hj => o4 j (h.g4 j (Or.inr (Or.inl hj))), h.steps.keep fun j hj => o4 j (h.g4 j (Or.inr (Or.inr hj))), fun b hb => ?_, fun j hj => ?_, fun q hq b hb => ?_, fun j hj => ?_, fun j hj => ?_, newG_z hs, newG_B h.gB hB⟩⟩
  · simp only
    rw [ht]
    exact (o4 _ (h.g4 _ (Or.inl rfl))).trans h.cell
  · obtain ⟨q, c, hc⟩ := h.bk b hb
    exact ⟨by rw [old b (by rw [q]; decide)]; exact q, c, (k' b (by rw [q]; decide) (by rw [q]; decide)).trans hc⟩
  · rcases hbl j hj with q | q
    · have := h.g1 j q
      rw [old j (by rw [this]; decide)]; exact this
    · rw [newG_new q (ho.tree.tr.lt j hj)]
  · have := h.g2 q (by rw [hH]; exact List.mem_cons_of_mem _ hq) b hb
    rw [old b (by rw [this]; decide)]; exact this
  · have := h.g3 j hj
    rw [old j (by rw [this]; decide)]; exact this
  · have := h.g4 j hj
    rw [old j (by rw [this]; decide)]; exact this
theorem PS.refd (h : PS B g w p) (hB : B ≤ w.heap.size) {NL' : List RN} {PL' : List (List RN)} {vn' vp' : Value} {us' : List Value} (hr : RefP B w' p.d NL' PL' vn' vp' us') (t : Tch (fun j => refB p.d p.vn p.vp p.us j) w w') (hb' : ∀ j, refB p.d vn' vp' us' j → refB p.d p.vn p.vp p.us j ∨ w.heap.size ≤ j) :
    ∃ g', Ext w g g' ∧ Tch (Mut g) w w' ∧ PS B g' w' { p with NL := NL', PL := PL', vn := vn', vp := vp', us := us' } := by
  have hs := t.size
  have no : ∀ j, g j ≠ 3 → ¬ refB p.d p.vn p.vp p.us j := fun j q hj => q (h.g3 j hj)
  have k' : ∀ j, g j ≠ 0 → g j ≠ 3 → w'.heap[j]? = w.heap[j]? := fun j q q1 => t.block j (h.lt q) (no j q1)
  have old : ∀ j, g j ≠ 0 → newG w w' g (fun _ => 3) j = g j := fun j q => newG_old (h.lt q)
  have o4 : ∀ j, g j = 4 → w'.heap[j]? = w.heap[j]? := fun j q => k' j (by rw [q]; decide) (by rw [q]; decide)
  refine ⟨newG w w' g (fun _ => 3), newG_ext _ _ _ _, t.mono fun j _ hj => Or.inr (Or.inl (h.g3 j hj)), ⟨h.own.keep t (fun j hj => no j (by rw [h.g1 j hj]; decide)) (fun r hr b hb => no b (by rw [h.g2 r hr b hb]; decide)), hr, (o4 _ (h.g4 _ (Or.inl rfl))).trans h.cell, h.backs.keep fun j hj => o4 j (h.g4 j (Or.inr (Or.inl hj))), h.steps.keep fun j hj => o4 j (h.g4 j (Or.inr (Or.inr hj))), fun b hb => ?_, fun j hj => ?_, fun q hq b hb => ?_, fun j hj => ?_, fun j hj => ?_, newG_z hs, newG_B h.gB hB⟩⟩
  · obtain ⟨q, c, hc⟩ := h.bk b hb
    exact ⟨by rw [old b (by rw [q]; decide)]; exact q, c, (k' b (by rw [q]; decide) (by rw [q]; decide)).trans hc⟩
  · have := h.g1 j hj
    rw [old j (by rw [this]; decide)]; exact this
  · have := h.g2 q hq b hb
    rw [old b (by rw [this]; decide)]; exact this
  · rcases hb' j hj with q | q
    · have := h.g3 j q
      rw [old j (by rw [this]; decide)]; exact this
    · rw [newG_new q (hr.ge j hj).2]
  · have := h.g4 j hj
    rw [old j (by rw [this]; decide)]; exact this
theorem PS.lists (h : PS B g w p) (hB : B ≤ w.heap.size) {bv' : Value} {BL' : List (Option Nat)} {sv' : Value} {SL' : List Int} (t : Tch (fun j => j = p.x ∨ p.bv.ownBlock = some j ∨ p.sv.ownBlock = some j) w w')
    (hc : w'.heap[p.x]? = some (.cells #[.pointer (some ⟨p.s.t, 0, none⟩), .pointer (some ⟨p.d, 0, none⟩), bv', sv'] 32 (0, 0))) (h1 : OwnV w' B 45 bv' (BL'.map bkV)) (h2 : OwnV w' B 3 sv' (SL'.map inV))
    (hb1 : ∀ j, bv'.ownBlock = some j → (j = p.x ∨ p.bv.ownBlock = some j ∨ p.sv.ownBlock = some j) ∨ w.heap.size ≤ j) (hb2 : ∀ j, sv'.ownBlock = some j → (j = p.x ∨ p.bv.ownBlock = some j ∨ p.sv.ownBlock = some j) ∨ w.heap.size ≤ j)
    (hb : ∀ b, some b ∈ BL' → some b ∈ p.BL ∨ (g b = 2 ∧ ∃ c, w.heap[b]? = some (.cells c 103 (0, 0)))) :
    ∃ g', Ext w g g' ∧ Tch (Mut g) w w' ∧ PS B g' w' { p with bv := bv', BL := BL', sv := sv', SL := SL' } := by
  have hs := t.size
  have no : ∀ j, g j ≠ 4 → ¬ (j = p.x ∨ p.bv.ownBlock = some j ∨ p.sv.ownBlock = some j) := fun j q hj => q (h.g4 j hj)
  have k' : ∀ j, g j ≠ 0 → g j ≠ 4 → w'.heap[j]? = w.heap[j]? := fun j q q1 => t.block j (h.lt q) (no j q1)
  have old : ∀ j, g j ≠ 0 → newG w w' g (fun _ => 4) j = g j := fun j q => newG_old (h.lt q)
  refine ⟨newG w w' g (fun _ => 4), newG_ext _ _ _ _, t.mono fun j _ hj => Or.inr (Or.inr (h.g4 j hj)), ⟨h.own.keep t (fun j hj => no j (by rw [h.g1 j hj]; decide)) (fun r hr b hb => no b (by rw [h.g2 r hr b hb]; decide)), h.ref.keep t (fun j hj => no j (by rw [h.g3 j hj]; decide)), hc, h1, h2, fun b hb0 => ?_, fun j hj => ?_, fun q hq b hb => ?_, fun j hj => ?_, fun j hj => ?_, newG_z hs, newG_B h.gB hB⟩⟩
  · have : g b = 2 ∧ ∃ c, w.heap[b]? = some (.cells c 103 (0, 0)) := by
      rcases hb b hb0 with q | q
      · exact h.bk b q
      · exact q
    obtain ⟨q, c, hc⟩ := this
    exact ⟨by rw [old b (by rw [q]; decide)]; exact q, c, (k' b (by rw [q]; decide) (by rw [q]; decide)).trans hc⟩
  · have := h.g1 j hj
    rw [old j (by rw [this]; decide)]; exact this
  · have := h.g2 q hq b hb
    rw [old b (by rw [this]; decide)]; exact this
  · have := h.g3 j hj
    rw [old j (by rw [this]; decide)]; exact this
  · have fin : ∀ {v : Value} {e : TypeId} {X : List Value}, OwnV w' B e v X → v.ownBlock = some j → ((j = p.x ∨ p.bv.ownBlock = some j ∨ p.sv.ownBlock = some j) ∨ w.heap.size ≤ j) → newG w w' g (fun _ => 4) j = 4 := fun o1 o2 o3 => by
      rcases o3 with q | q
      · have := h.g4 j q
        rw [old j (by rw [this]; decide)]; exact this
      · obtain ⟨_, c, hc⟩ := o1.ge j o2
        rw [newG_new q (Array.getElem?_eq_some_iff.1 hc).1]
    rcases hj with q | q | q
    · have := h.g4 j (Or.inl q)
      rw [old j (by rw [this]; decide)]; exact this
    · exact fin h1 q (hb1 j q)
    · exact fin h2 q (hb2 j q)
end
end Go.Proofs.Ytoofljkgdjjllaa

namespace Go.Proofs.Ytoofljkgdjjllaa
open Go.RowKit
set_option linter.unusedVariables false
set_option linter.unusedSimpArgs false

inductive HM : List Rec → Fn → List (List RN) → Prop
  | nil : HM [] (fun _ => none) []
  | step {r : Rec} {t : List Rec} {f : Fn} {P : List (List RN)} {L : List RN} : upd f r.k r.o = lookN L → Forest (lookN L) → HM t (lookN L) P → HM (r :: t) f (P ++ [L])
theorem HM.len {H : List Rec} {f : Fn} {PL : List (List RN)} (h : HM H f PL) : H.length = PL.length := by
  induction h with
  | nil => rfl
  | step _ _ _ ih => simp [ih]
theorem HM.front {r : Rec} {t : List Rec} {f : Fn} {PL : List (List RN)} (h : HM (r :: t) f PL) : ∃ P L, PL = P ++ [L] ∧ upd f r.k r.o = lookN L ∧ Forest (lookN L) ∧ HM t (lookN L) P := by
  cases h with
  | step a b c => exact ⟨_, _, rfl, a, b, c⟩
theorem upd_back {f : Fn} {k : IdK} {n : Option NodeV} : upd (upd f k n) k (f k) = f := by
  funext x
  by_cases e : x = k
  · subst e; rw [upd_same]
  · rw [upd_ne e, upd_ne e]
structure Link (p : Pl) : Prop where
  eq : lookN p.NL = p.f
  hm : HM p.H p.f p.PL
  len : p.BL.length = p.SL.length
  nd : (p.H.map (·.bk)).Nodup
  one : ∀ (i j : Nat) b, p.BL[i]? = some (some b) → p.BL[j]? = some (some b) → i = j
  hit : ∀ (i : Nat) z, p.SL[i]? = some z → (z = 0 ∧ (p.BL[i]? = some none ∨ ∃ b, p.BL[i]? = some (some b) ∧ b ∉ p.H.map (·.bk))) ∨ (∃ n : Nat, z = (n : Int) ∧ 1 ≤ n ∧ n ≤ p.H.length ∧ ∃ r, p.H[p.H.length - n]? = some r ∧ p.BL[i]? = some (some r.bk))
  all : ∀ n : Nat, 1 ≤ n → n ≤ p.H.length → ∃ i : Nat, p.SL[i]? = some (n : Int)
section
variable {p : Pl}
theorem Link.len2 (h : Link p) : p.H.length = p.PL.length := h.hm.len
theorem app_last {α : Type} {L : List α} {x y : α} {i : Nat} (h : (L ++ [x])[i]? = some y) : (i < L.length ∧ L[i]? = some y) ∨ (i = L.length ∧ y = x) := by
  by_cases hi : i < L.length
  · rw [List.getElem?_append_left hi] at h; exact Or.inl ⟨hi, h⟩
  · rw [List.getElem?_append_right (by omega)] at h
    have := (List.getElem?_eq_some_iff.1 h).1
    simp at this
    obtain rfl : i = L.length := by omega
    simp at h
    exact Or.inr ⟨rfl, h.symm⟩
theorem Link.refused (h : Link p) (bv sv : Value) : Link { p with bv := bv, BL := p.BL ++ [none], sv := sv, SL := p.SL ++ [0] } := by
  refine ⟨h.eq, h.hm, by simp [h.len], h.nd, fun i j b hi hj => ?_, fun i z hz => ?_, fun n h1 h2 => ?_⟩
  · rcases app_last hi with ⟨_, q⟩ | ⟨_, q⟩
    · rcases app_last hj with ⟨_, q'⟩ | ⟨_, q'⟩
      · exact h.one i j b q q'
      · cases q'
    · cases q
  · simp only at hz ⊢
    rcases app_last hz with ⟨hi, q⟩ | ⟨rfl, rfl⟩
    · rw [List.getElem?_append_left (by rw [h.len]; exact hi)]
      exact h.hit i z q
    · rw [← h.len]
      exact Or.inl ⟨rfl, Or.inl (by simp)⟩
  · obtain ⟨i, hi⟩ := h.all n h1 h2
    exact ⟨i, by simp only; rw [List.getElem?_append_left (List.getElem?_eq_some_iff.1 hi).1]; exact hi⟩
theorem Link.done (h : Link p) (hf : Forest p.f) {k : IdK} {n : NodeV} {r : Rec} {s' : Tr} (rk : r.k = k) (ro : r.o = p.f k) (hd : (p.NL.map (·.1)).Nodup) (h1 : ∀ q ∈ p.H, q.bk ≠ r.bk) (h2 : ∀ b, some b ∈ p.BL → b ≠ r.bk) (vn vp : Value) (us : List Value) (bv sv : Value) :
    Link { p with s := s', H := r :: p.H, f := upd p.f k (some n), NL := M.put p.NL k n, PL := p.PL ++ [p.NL], vn := vn, vp := vp, us := us, bv := bv, BL := p.BL ++ [some r.bk], sv := sv, SL := p.SL ++ [((p.PL.length + 1 : Nat) : Int)] } := by
  have hl := h.len2
  refine ⟨?_, ?_, by simp [h.len], ?_, fun i j b hi hj => ?_, fun i z hz => ?_, fun m m1 m2 => ?_⟩
  · show lookN (M.put p.NL k n) = _
    rw [look_put hd, h.eq]
  · refine HM.step ?_ (by rw [h.eq]; exact hf) (by rw [h.eq]; exact h.hm)
    rw [rk, ro, h.eq, upd_back]
  · simp only [List.map_cons, List.nodup_cons]
    refine ⟨fun hm => ?_, h.nd⟩
    obtain ⟨q, hq, e⟩ := List.mem_map.1 hm
    exact h1 q hq e
  · rcases app_last hi with ⟨_, q⟩ | ⟨e1, q⟩
    · rcases app_last hj with ⟨_, q'⟩ | ⟨_, q'⟩
      · exact h.one i j b q q'
      · exact absurd (Option.some.inj q') (h2 b (List.mem_of_getElem? q))
    · rcases app_last hj with ⟨_, q'⟩ | ⟨e2, _⟩
      · exact absurd (Option.some.inj q) (h2 b (List.mem_of_getElem? q'))
      · rw [e1, e2]
  · simp only at hz ⊢
    rcases app_last hz with ⟨hi, q⟩ | ⟨rfl, rfl⟩
    · rw [List.getElem?_append_left (by rw [h.len]; exact hi)]
      rcases h.hit i z q with ⟨z0, hb⟩ | ⟨m, zm, m1, m2, r', hr, hb⟩
      · refine Or.inl ⟨z0, hb.imp (fun q => q) ?_⟩
        rintro ⟨b, hb, hn⟩
        exact ⟨b, hb, by simp only [List.map_cons, List.mem_cons, not_or]; exact ⟨h2 b (List.mem_of_getElem? hb), hn⟩⟩
      · refine Or.inr ⟨m, zm, m1, by simp; omega, r', ?_, hb⟩
        rw [List.length_cons, show p.H.length + 1 - m = (p.H.length - m) + 1 by omega, List.getElem?_cons_succ]
        exact hr
    · refine Or.inr ⟨p.PL.length + 1, rfl, by omega, by simp; omega, r, ?_, ?_⟩
      · rw [List.length_cons, hl, Nat.sub_self]; rfl
      · rw [← h.len]; simp
  · simp only [List.length_cons] at m2
    by_cases e : m = p.PL.length + 1
    · subst e
      exact ⟨p.SL.length, by simp⟩
    · obtain ⟨i, hi⟩ := h.all m m1 (by omega)
      exact ⟨i, by simp only; rw [List.getElem?_append_left (List.getElem?_eq_some_iff.1 hi).1]; exact hi⟩
theorem Link.undone (h : Link p) {r : Rec} {H' : List Rec} (hH : p.H = r :: H') {P : List (List RN)} {L : List RN} (hP : p.PL = P ++ [L]) {i : Nat} (hi : p.SL[i]? = some ((p.PL.length : Nat) : Int)) (s' : Tr) (vn vp : Value) (us : List Value) (sv : Value) :
    Link { p with s := s', H := H', f := upd p.f r.k r.o, NL := L, PL := P, vn := vn, vp := vp, us := us, sv := sv, SL := p.SL.set i 0 } ∧ Forest (upd p.f r.k r.o) ∧ p.BL[i]? = some (some r.bk) := by
  have hl := h.len2
  have hm := h.hm
  have hnd := h.nd
  rw [hH] at hm hnd
  obtain ⟨P', L', e1, e2, e3, e4⟩ := hm.front
  rw [hP] at e1
  obtain ⟨rfl, e5⟩ := List.append_inj' e1 rfl
  obtain rfl : L = L' := by simpa using e5
  have hHl : p.H.length = H'.length + 1 := by rw [hH]; rfl
  have hPl : p.PL.length = P.length + 1 := by rw [hP]; simp
  simp only [List.map_cons, List.nodup_cons] at hnd
  have hb : p.BL[i]? = some (some r.bk) := by
    rcases h.hit i _ hi with ⟨z, _⟩ | ⟨m, zm, m1, m2, r', hr, hb⟩
    · omega
    · obtain rfl : m = p.PL.length := by omega
      rw [hl, Nat.sub_self, hH] at hr
      simp at hr
      subst hr
      exact hb
  refine ⟨⟨e2.symm, by simp only; rw [e2]; exact e4, by simp [h.len], hnd.2, h.one, fun j z hz => ?_, fun m m1 m2 => ?_⟩, by rw [e2]; exact e3, hb⟩
  · simp only at hz ⊢
    by_cases e : j = i
    · subst e
      rw [List.getElem?_set_self (List.getElem?_eq_some_iff.1 hi).1] at hz
      simp at hz
      exact Or.inl ⟨hz.symm, Or.inr ⟨r.bk, hb, hnd.1⟩⟩
    · rw [List.getElem?_set_ne (fun q => e q.symm)] at hz
      rcases h.hit j z hz with ⟨z0, hq⟩ | ⟨m, zm, m1, m2, r', hr, hq⟩
      · refine Or.inl ⟨z0, hq.imp (fun q => q) ?_⟩
        rintro ⟨b, hb, hn⟩
        rw [hH] at hn
        exact ⟨b, hb, fun q => hn (by simp only [List.map_cons, List.mem_cons]; exact Or.inr q)⟩
      · have hne : m ≠ p.H.length := by
          rintro rfl
          rw [Nat.sub_self, hH] at hr
          simp at hr
          subst hr
          exact e (h.one j i r.bk hq hb)
        refine Or.inr ⟨m, zm, m1, by omega, r', ?_, hq⟩
        rw [hH, List.length_cons, show H'.length + 1 - m = (H'.length - m) + 1 by omega, List.getElem?_cons_succ] at hr
        exact hr
  · simp only at m2 ⊢
    obtain ⟨j, hj⟩ := h.all m m1 (by omega)
    refine ⟨j, ?_⟩
    rw [List.getElem?_set_ne]
    · exact hj
    · rintro rfl
      rw [hi] at hj
      simp at hj
      omega
inductive Meets (p : Pl) (i : Nat) : Prop
  | none : p.SL[i]? = some 0 → p.BL[i]? = some none → Meets p i
  | past (b : Nat) (z : Int) : p.SL[i]? = some z → p.BL[i]? = some (some b) → some (⟨b, 0, Option.none⟩ : Addr) ≠ ptr p.H → (z < 1 ∨ z ≠ (p.PL.length : Int)) → Meets p i
  | last (r : Rec) (H' : List Rec) (P : List (List RN)) (L : List RN) : p.H = r :: H' → p.PL = P ++ [L] → p.SL[i]? = some ((p.PL.length : Nat) : Int) → p.BL[i]? = some (some r.bk) → Meets p i
theorem Link.meets (h : Link p) {i : Nat} (hi : i < p.BL.length) : Meets p i := by
  have hl := h.len2
  obtain ⟨z, hz⟩ : ∃ z, p.SL[i]? = some z := ⟨_, List.getElem?_eq_getElem (by rw [← h.len]; exact hi)⟩
  have hp : ∀ b, b ∉ p.H.map (·.bk) → some (⟨b, 0, Option.none⟩ : Addr) ≠ ptr p.H := by
    intro b hb e
    cases hH : p.H with
    | nil => rw [hH] at e; simp [ptr] at e
    | cons r t =>
      rw [hH] at e hb
      simp [ptr] at e
      exact hb (by simp [e])
  rcases h.hit i z hz with ⟨rfl, hb | ⟨b, hb, hn⟩⟩ | ⟨m, rfl, m1, m2, r, hr, hb⟩
  · exact .none hz hb
  · exact .past b 0 hz hb (hp b hn) (Or.inl (by decide))
  · by_cases e : m = p.H.length
    · subst e
      rw [Nat.sub_self] at hr
      cases hH : p.H with
      | nil => rw [hH] at hr; simp at hr
      | cons r0 t =>
        rw [hH] at hr
        simp at hr
        subst hr
        have hm := h.hm
        rw [hH] at hm
        obtain ⟨P, L, e1, _⟩ := hm.front
        exact .last r0 t P L hH e1 (by rw [← hl]; exact hz) hb
    · refine .past r.bk m hz hb ?_ (Or.inr (by omega))
      cases hH : p.H with
      | nil => rw [hH] at hr; simp at hr
      | cons r0 t =>
        have hnd := h.nd
        rw [hH] at hr hnd m2 e
        simp only [List.map_cons, List.nodup_cons] at hnd
        rw [List.length_cons] at hr m2 e
        rw [show t.length + 1 - m = (t.length - m) + 1 by omega, List.getElem?_cons_succ] at hr
        simp only [ptr]
        intro q
        injection q with q
        injection q with q
        exact hnd.1 (by rw [← q]; exact List.mem_map.2 ⟨r, List.mem_of_getElem? hr, rfl⟩)
end
end Go.Proofs.Ytoofljkgdjjllaa
