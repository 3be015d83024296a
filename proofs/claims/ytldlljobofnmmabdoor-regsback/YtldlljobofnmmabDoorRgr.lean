import Derived.Test.YtldlljobofnmmabDoorRgq
import Derived.Test.YtldlljobofnmmabDoorRgr0
import Derived.LaidEqlPtr
namespace Go.Proofs.YtldlljobofnmmabDoor
open Go.RowKit
set_option linter.unusedVariables false
set_option linter.unusedSimpArgs false

/-- What a Back's closure leaves. -/
def BrE (w : World) (base : Nat) (s : Rs) (p : PlK) (L : List EnV) (e : Ending) (w' : World) : Prop := e = .returned (.tuple #[]) ∧ ∃ s', ONxt w base s p L s' w'
set_option maxRecDepth 100000 in
set_option maxHeartbeats 8000000 in
theorem bring_del {w : World} {base : Nat} {s : Rs} {r : Rec} {la : Option Addr} (m : RgM w base s) (ko : KeysOk s.K s.P) (hb : base ≤ w.heap.size) (ra : r.at w la) {sn : EnV → Bool} (hT : r.T = Rg.hadI sn 0 r.bef) (hf : liOf s.P r.p = Rg.res sn r.bef) :
    Calls Tryd.prog 39 #[.pointer (some ⟨s.r, 0, none⟩), .pointer (some ⟨r.pb, 0, none⟩), .pointer (some ⟨r.tb, 0, none⟩)] w (BrE w base s r.p r.bef) := by
  have bd : Below w.heap.size w w.drew := (Below.refl w.heap.size w).drew
  have md := m.below bd
  have LP := hidMk (op_lp m ra.ok ra.p)
  have LT := hidMk (op_lt m ra.t ra.l)
  have S0 := hidMk (S4.of (tch_of bd _) md)
  have LK := hidMk (md.lookP r.p ra.ok)
  have CA : Hid (Calls Tryd.prog 32 #[lvOf s.P r.p, r.tv] w.drew fun e w' => ∃ u, e = .returned u ∧ S4 s w w' ∧ Calls Tryd.prog 28 #[.pointer (some ⟨s.r, 0, none⟩), r.p.v, u] w' fun e w5 => e = .returned (.tuple #[]) ∧ S4 s w w5 ∧ ∃ s', ONxt w base s r.p r.bef s' w5) := by
    refine (with_all (w := w.drew) (base := base) (sn := sn) (L := r.bef) (by rw [← hf]; exact (md.list r.p).1) ra.bok ra.bn (by rw [← hT]; exact ra.l.below bd) hb).mono ?_
    rintro e w' ⟨v, rfl, lo, b, rel⟩
    exact ⟨v, rfl, then_lay m ko hb ra.ok lo ra.bok (bd.trans b) (rel.imp (fun q => by rw [q]) id)⟩
  clear m md ra hT hf bd
  go_enter Tryd.func39, Tryd.ntmps39
  go_upto_region 0 with fail
  refine delb0 (rb := s.r) (mb := s.bp) (pb := r.pb) (tb := r.tb) (p := r.p) (lv := lvOf s.P r.p) (tv := r.tv) (S4 s w) (fun w5 => ∃ s', ONxt w base s r.p r.bef s' w5) _ w _ rfl rfl rfl rfl S0.out (fun W hW => hW.lr) LP.out LT.out LK.out CA.out ?_
  intro u a' w5 hf ha
  subst ha
  simp only [Act.put, List.setIfInBounds_toArray, List.set_cons_zero, List.set_cons_succ]
  have HF := hidMk hf
  clear hf CA LP LT S0 LK
  go_wp2
  go_end0
  exact ⟨rfl, HF.out⟩
set_option maxRecDepth 100000 in
set_option maxHeartbeats 8000000 in
theorem bring_add {w : World} {base : Nat} {s : Rs} {r : Rec} {la : Option Addr} (m : RgM w base s) (ko : KeysOk s.K s.P) (hb : base ≤ w.heap.size) (ra : r.at w la) {sn : EnV → Bool} {gv : VaV → VaV} (hT : r.T = Rg.hadI sn 0 r.bef) (hf : liOf s.P r.p = chs sn gv r.bef) :
    Calls Tryd.prog 37 #[.pointer (some ⟨s.r, 0, none⟩), .pointer (some ⟨r.pb, 0, none⟩), .pointer (some ⟨r.tb, 0, none⟩)] w (BrE w base s r.p r.bef) := by
  have bd : Below w.heap.size w w.drew := (Below.refl w.heap.size w).drew
  have md := m.below bd
  have LP := hidMk (op_lp m ra.ok ra.p)
  have LT := hidMk (op_lt m ra.t ra.l)
  have S0 := hidMk (S4.of (tch_of bd _) md)
  have LK := hidMk (md.lookP r.p ra.ok)
  have CA : Hid (Calls Tryd.prog 34 #[lvOf s.P r.p, r.tv, .func (.func 38) #[] #[]] w.drew fun e w' => ∃ u, e = .returned u ∧ S4 s w w' ∧ Calls Tryd.prog 28 #[.pointer (some ⟨s.r, 0, none⟩), r.p.v, u] w' fun e w5 => e = .returned (.tuple #[]) ∧ S4 s w w5 ∧ ∃ s', ONxt w base s r.p r.bef s' w5) := by
    have hl := md.list r.p
    rw [hf] at hl
    refine (changed_all (w := w.drew) (base := base) (sn := sn) (L := r.bef) (M := chs sn gv r.bef) hl.1 hl.2 ra.bok (chs_len ..) ra.bn (by rw [← hT]; exact ra.l.below bd) hb (turns_id w.drew)).mono ?_
    rintro e w' ⟨v, rfl, lo, b, rel⟩
    rw [ch_back] at lo
    exact ⟨v, rfl, then_lay m ko hb ra.ok lo ra.bok (bd.trans b) (rel.imp (fun q => by rw [q]) id)⟩
  clear m md ra hT hf bd
  go_enter Tryd.func37, Tryd.ntmps37
  go_upto_region 0 with fail
  refine addb0 (rb := s.r) (mb := s.bp) (pb := r.pb) (tb := r.tb) (p := r.p) (lv := lvOf s.P r.p) (tv := r.tv) (S4 s w) (fun w5 => ∃ s', ONxt w base s r.p r.bef s' w5) _ w _ rfl rfl rfl rfl S0.out (fun W hW => hW.lr) LP.out LT.out LK.out CA.out ?_
  intro u a' w5 hf ha
  subst ha
  simp only [Act.put, List.setIfInBounds_toArray, List.set_cons_zero, List.set_cons_succ]
  have HF := hidMk hf
  clear hf CA LP LT S0 LK
  go_wp2
  go_end0
  exact ⟨rfl, HF.out⟩
set_option maxRecDepth 100000 in
set_option maxHeartbeats 8000000 in
theorem bring_put {w : World} {base : Nat} {s : Rs} {r : Rec} {la : Option Addr} (m : RgM w base s) (ko : KeysOk s.K s.P) (hb : base ≤ w.heap.size) (ra : r.at w la) {sn : EnV → Bool} {x : EnV} (hT : r.T = Rg.hadI sn 0 r.bef) (hf : liOf s.P r.p = Rg.res sn r.bef ++ [x]) :
    Calls Tryd.prog 31 #[.pointer (some ⟨s.r, 0, none⟩), .pointer (some ⟨r.pb, 0, none⟩), .pointer (some ⟨r.tb, 0, none⟩)] w (BrE w base s r.p r.bef) := by
  have bd : Below w.heap.size w w.drew := (Below.refl w.heap.size w).drew
  have bdd : Below w.heap.size w w.drew.drew := bd.drew
  have md := m.below bd
  have mdd := m.below bdd
  have hl := mdd.list r.p
  rw [hf] at hl
  have hle := Rg.res_len sn r.bef 0
  have hbn := ra.bn
  obtain ⟨a, c, ev, hat, hc, hcm, _⟩ := hl.1.open RN_is hl.2
  obtain ⟨v', hv', lo', ob'⟩ := RowT.Lo.cut RN_is hl.2 hl.1 (n := (Rg.res sn r.bef).length) (by simp)
  rw [List.take_left] at lo'
  have hv2 := hv' a c ev
  subst hv2
  have LP := hidMk (op_lp m ra.ok ra.p)
  have LT := hidMk (op_lt m ra.t ra.l)
  have S0 := hidMk (S4.of (tch_of bd _) md)
  have S1 := hidMk (S4.of (tch_of bdd _) mdd)
  have LK := hidMk (md.lookP r.p ra.ok)
  have LR := hidMk (S4.of (tch_of bd _) md).lr
  rw [ev] at LK
  obtain ⟨d, hd⟩ : ∃ d, (Rg.res sn r.bef).length = d := ⟨_, rfl⟩
  have hn : (Rg.res sn r.bef ++ [x]).length = d + 1 := by simp [hd]
  rw [hn] at LK ev hc
  rw [hd] at lo' ob'
  have CC : Hid (Calls Tryd.prog 33 #[.slice a (d + 1) c, .int .i64 (d : Int)] w.drew.drew fun e w' => ∃ cv, e = .returned cv ∧ S4 s w w' ∧ Calls Tryd.prog 32 #[cv, r.tv] w' fun e w' => ∃ u, e = .returned u ∧ S4 s w w' ∧ Calls Tryd.prog 28 #[.pointer (some ⟨s.r, 0, none⟩), r.p.v, u] w' fun e w5 => e = .returned (.tuple #[]) ∧ S4 s w w5 ∧ ∃ s', ONxt w base s r.p r.bef s' w5) := by
    refine (cut_any a (n := d + 1) (c := c) (m := d) (by omega) w.drew.drew).mono ?_
    rintro e w' ⟨rfl, rfl⟩
    refine ⟨_, rfl, S1.out, ?_⟩
    refine (with_all (w := w.drew.drew) (base := base) (sn := sn) (L := r.bef) lo' ra.bok ra.bn (by rw [← hT]; exact ra.l.below bdd) hb).mono ?_
    rintro e w' ⟨v, rfl, lo, b, rel⟩
    exact ⟨v, rfl, then_lay m ko hb ra.ok lo ra.bok (bdd.trans b) (rel.imp (fun q => by rw [q]; exact ob') id)⟩
  have HD : d + 1 ≤ 9223372036854775800 := by omega
  clear m md mdd ra hT hf bd bdd hl hle hbn ev hat hc hcm hv' lo' ob' hd hn
  go_enter Tryd.func31, Tryd.ntmps31
  go_upto_region 0 with fail
  refine putb0 (rb := s.r) (mb := s.bp) (pb := r.pb) (p := r.p) (lv := .slice a (d + 1) c) (S4 s w) _ w _ rfl rfl rfl S0.out (fun W hW => hW.1.lr) (fun W hW => LP.out W hW.1) (fun W hW => by rw [hW.2]; exact LK.out) ?_
  intro a' w5 hw5 ha
  subst ha
  subst hw5
  simp only [Act.put, List.setIfInBounds_toArray, List.set_cons_zero, List.set_cons_succ]
  go_upto_region 1 with fail
  refine putb1 (rb := s.r) (mb := s.bp) (pb := r.pb) (tb := r.tb) (n := d + 1) (lc := c) (d := d) (la := a) (p := r.p) (tv := r.tv) (S4 s w) (fun w5 => ∃ s', ONxt w base s r.p r.bef s' w5) _ w.drew _ rfl rfl rfl rfl rfl rfl HD S1.out LP.out LT.out CC.out ?_
  intro cv u a' w5 hf ha
  subst ha
  simp only [Act.put, List.setIfInBounds_toArray, List.set_cons_zero, List.set_cons_succ]
  have HF := hidMk hf
  clear hf CC LP LT S0 LK S1 LR
  go_wp2
  go_end0
  exact ⟨rfl, HF.out⟩
end Go.Proofs.YtldlljobofnmmabDoor
