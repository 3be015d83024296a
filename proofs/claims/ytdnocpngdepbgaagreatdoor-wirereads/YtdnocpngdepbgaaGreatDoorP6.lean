import Derived.Test.YtdnocpngdepbgaaGreatDoorP3
import Derived.Test.YtdnocpngdepbgaaGreatDoorP5
import Derived.Test.YtdnocpngdepbgaaGreatDoorBka
import Derived.Test.YtdnocpngdepbgaaGreatDoorP4
import Derived.Test.YtdnocpngdepbgaaGreatDoorP1
import Derived.Laws.FloatArith
import Derived.Test.YtdnocpngdepbgaaGreatDoorP0
namespace Go.Proofs.YtdnocpngdepbgaaGreatDoor.K
open Go.RowKit
set_option linter.unusedVariables false
set_option linter.unusedSimpArgs false

theorem ownB_keep {w w' : World} {base : Nat} {v : Value} {L : List UInt8} (h : OwnB w base v L) (hk : ∀ b, v.ownBlock = some b → w'.heap[b]? = w.heap[b]?) : OwnB w' base v L := by
  refine ⟨h.1, ?_⟩
  rcases h.2 with hn | ⟨g, cap, cur, rfl, hbg, hg, rest⟩
  · exact .inl hn
  · exact .inr ⟨g, cap, cur, rfl, hbg, (hk g rfl).trans hg, rest⟩
theorem ownB_base {w : World} {b b' : Nat} {v : Value} {L : List UInt8} (h : OwnB w b v L) (hb : b' ≤ b) : OwnB w b' v L := by
  refine ⟨h.1, ?_⟩
  rcases h.2 with hn | ⟨g, cap, cur, rfl, hbg, rest⟩
  · exact .inl hn
  · exact .inr ⟨g, cap, cur, rfl, Nat.le_trans hb hbg, rest⟩
theorem rCnt_fits {L : List UInt8} {s : St} {most : Int} (h : Fits L s.k most 1) : rCnt L most.toNat s = (some ((num L s.k).v, (num L s.k).size), s) := fits_cnt h
variable {T : TypeId} {r cap : Nat} {a : Option Addr} {L : List UInt8} {s : St}
theorem praw_x (most : Int) (hm0 : -9223372036854775808 ≤ most) (hm : most < 9223372036854775808) (w : World) (h : RD w T r a cap L s) :
    Calls Tryz.prog 78 #[.pointer (some ⟨r, 0, none⟩), .int .i64 most] w fun e w' => ∃ v base, e = .returned v ∧ w.heap.size ≤ base ∧ OwnB w' base v (rRawX L most s).1 ∧ On w w' T r a cap L (rRawX L most s).2 := by
  by_cases hb : s.bad = 0
  · by_cases hf : Fits L s.k most 1
    · have hmn : (most.toNat : Int) = most := by have := hf.2.1; omega
      have hE : rRawX L most s = rRaw L most.toNat s := by
        unfold rRawX rRaw
        rw [if_pos hb, if_pos hf, if_pos hb, rCnt_fits hf]
      have := raw_any most.toNat (by omega) w h
      rw [hmn, ← hE] at this
      exact this
    · have hE : rRawX L most s = ([], sNo L most s) := by unfold rRawX; rw [if_pos hb, if_neg hf]
      rw [hE]
      exact (raw_nox most hm0 hm w h hb hf).mono fun e w' k => ⟨_, _, k.1, Nat.le_refl _, ownB_nil _ _, k.2⟩
  · have hE : rRawX L most s = ([], s) := by unfold rRawX; rw [if_neg hb]
    rw [hE]
    exact (raw_stopx most w h hb).mono fun e w' k => ⟨_, _, k.1, Nat.le_refl _, ownB_nil _ _, k.2⟩
theorem ptext_x (most : Int) (hm0 : -9223372036854775808 ≤ most) (hm : most < 9223372036854775808) (w : World) (h : RD w T r a cap L s) (hT : Tabs w) (hr : 0 ≠ r ∧ 1 ≠ r) :
    Calls Tryz.prog 32 #[.pointer (some ⟨r, 0, none⟩), .int .i64 most] w fun e w' => e = .returned (.string ⟨(rTextX L most s).1.toArray⟩) ∧ On w w' T r a cap L (rTextX L most s).2 := by
  by_cases hb : s.bad = 0
  · by_cases hf : Fits L s.k most 1
    · have hmn : (most.toNat : Int) = most := by have := hf.2.1; omega
      have hE : rTextX L most s = rText L most.toNat s := by
        unfold rTextX rText
        rw [if_pos hb, if_pos hf, if_pos hb, rCnt_fits hf]
      have := text_any most.toNat (by omega) w h hT hr
      rw [hmn, ← hE] at this
      exact this
    · have hE : rTextX L most s = ([], sNo L most s) := by unfold rTextX; rw [if_pos hb, if_neg hf]
      rw [hE]
      exact text_nox most hm0 hm w h hb hf
  · have hE : rTextX L most s = ([], s) := by unfold rTextX; rw [if_neg hb]
    rw [hE]
    exact text_stopx most w h hb
end Go.Proofs.YtdnocpngdepbgaaGreatDoor.K
namespace Go.Proofs.YtdnocpngdepbgaaGreatDoor
open Go.RowKit
open Classical in
noncomputable def brkOf (D : List (List UInt8)) : Nat := if h : ∃ i, Brk D i then Classical.choose h else 0
theorem brkOf_eq {D : List (List UInt8)} {i : Nat} (h : Brk D i) : brkOf D = i := by
  have hx : ∃ i, Brk D i := ⟨i, h⟩
  unfold brkOf
  rw [dif_pos hx]
  exact (Classical.choose_spec hx).uniq h
open Classical in
noncomputable def rHsX (L : List UInt8) (most : Int) (s : K.St) : List (List UInt8) × K.St :=
  if s.bad = 0 then (if K.Fits L s.k most 32 then (if SRise (dch L (s.k + (K.num L s.k).size) (K.num L s.k).v) then (dch L (s.k + (K.num L s.k).size) (K.num L s.k).v, ⟨s.k + (K.num L s.k).size + (K.num L s.k).v * 32, s.bad, s.wh⟩) else ([], ⟨s.k, 21, (s.k : Int) + ((K.num L s.k).size : Int) + (brkOf (dch L (s.k + (K.num L s.k).size) (K.num L s.k).v) : Int) * 32⟩)) else ([], K.sNo L most s)) else ([], s)
theorem ownH_keep {w w' : World} {base : Nat} {v : Value} {L : List (List UInt8)} (h : OwnH w base v L) (hk : ∀ b, v.ownBlock = some b → w'.heap[b]? = w.heap[b]?) : OwnH w' base v L := by
  refine ⟨h.1, h.2.1, ?_⟩
  rcases h.2.2 with hn | ⟨g, cap, cur, rfl, hbg, hg, rest⟩
  · exact .inl hn
  · exact .inr ⟨g, cap, cur, rfl, hbg, (hk g rfl).trans hg, rest⟩
theorem ownH_base {w : World} {b b' : Nat} {v : Value} {L : List (List UInt8)} (h : OwnH w b v L) (hb : b' ≤ b) : OwnH w b' v L := by
  refine ⟨h.1, h.2.1, ?_⟩
  rcases h.2.2 with hn | ⟨g, cap, cur, rfl, hbg, rest⟩
  · exact .inl hn
  · exact .inr ⟨g, cap, cur, rfl, Nat.le_trans hb hbg, rest⟩
variable {r cap : Nat} {a : Option Addr} {L : List UInt8} {s : K.St}
theorem phashes_x (most : Int) (hm0 : -9223372036854775808 ≤ most) (hm : most < 9223372036854775808) (w : World) (h : K.RD w 108 r a cap L s) :
    Calls Tryz.prog 80 #[.pointer (some ⟨r, 0, none⟩), .int .i64 most] w fun e w' => ∃ v, e = .returned v ∧ OwnH w' w.heap.size v (rHsX L most s).1 ∧ K.On w w' 108 r a cap L (rHsX L most s).2 := by
  by_cases hb : s.bad = 0
  · by_cases hf : K.Fits L s.k most 32
    · have hmn : (most.toNat : Int) = most := by have := hf.2.1; omega
      obtain ⟨h1, h2, h3, h4⟩ := id hf
      have hnum : K.num L s.k = ⟨(K.num L s.k).v, (K.num L s.k).size, 0, (K.num L s.k).place⟩ := by rw [← h1]
      have := rhashes_x most.toNat (by omega) w h hb _ _ _ hnum (by omega) h4
      rw [hmn] at this
      refine this.mono fun e w' hx => ?_
      rcases hx with ⟨q, e1, e2, e3, e4, e5, on⟩ | ⟨e1, i, bk, on⟩
      · have hE : rHsX L most s = (dch L (s.k + (K.num L s.k).size) (K.num L s.k).v, ⟨s.k + (K.num L s.k).size + (K.num L s.k).v * 32, s.bad, s.wh⟩) := by unfold rHsX; rw [if_pos hb, if_pos hf, if_pos e5]
        rw [hE]
        exact ⟨_, e1, ownH_base e4 e2, on⟩
      · have hE : rHsX L most s = ([], ⟨s.k, 21, (s.k : Int) + ((K.num L s.k).size : Int) + (i : Int) * 32⟩) := by unfold rHsX; rw [if_pos hb, if_pos hf, if_neg (fun k => bk.not k), brkOf_eq bk]
        rw [hE]
        exact ⟨_, e1, OwnH.nil _ _, on⟩
    · have hE : rHsX L most s = ([], K.sNo L most s) := by unfold rHsX; rw [if_pos hb, if_neg hf]
      rw [hE]
      exact (K.hashes_nox most hm0 hm w h hb hf).mono fun e w' k => ⟨_, k.1, OwnH.nil _ _, k.2⟩
  · have hE : rHsX L most s = ([], s) := by unfold rHsX; rw [if_neg hb]
    rw [hE]
    exact (K.hashes_stopx most w h hb).mono fun e w' k => ⟨_, k.1, OwnH.nil _ _, k.2⟩
variable {T : TypeId}
set_option maxRecDepth 100000 in
set_option maxHeartbeats 1000000 in
theorem qhashes_none (most : Int) (w : World) (s' : K.St) (HC : Hid (Calls Tryz.prog 125 #[.pointer (some ⟨r, 0, none⟩), .int .i64 most, .int .i64 32] w fun e w' => e = .returned (.tuple #[.int .i64 0, .int .i64 0, .bool false]) ∧ K.On w w' T r a cap L s')) :
    Calls Tryz.prog 93 #[.pointer (some ⟨r, 0, none⟩), .int .i64 most] w fun e w' => e = .returned (.slice none 0 0) ∧ K.On w w' T r a cap L s' := by
  go_enter Tryz.func93, Tryz.ntmps93
  go_wp2_with fail
  refine HC.out.mono ?_
  rintro e w2 ⟨rfl, ho⟩
  have HO := K.Hid.mk' ho
  clear ho
  go_wp2
  go_ret
  exact ⟨rfl, HO.out⟩
theorem qhashes_x (most : Int) (hm0 : -9223372036854775808 ≤ most) (hm : most < 9223372036854775808) (w : World) (h : K.RD w T r a cap L s) :
    Calls Tryz.prog 93 #[.pointer (some ⟨r, 0, none⟩), .int .i64 most] w fun e w' => ∃ v, e = .returned v ∧ OwnH w' w.heap.size v (rHsX L most s).1 ∧ K.On w w' T r a cap L (rHsX L most s).2 := by
  by_cases hb : s.bad = 0
  · by_cases hf : K.Fits L s.k most 32
    · obtain ⟨h1, h2, h3, h4⟩ := id hf
      have hnum : K.num L s.k = ⟨(K.num L s.k).v, (K.num L s.k).size, 0, (K.num L s.k).place⟩ := by rw [← h1]
      refine (qhashes_fit most hm w h hb _ _ _ hnum h3 h4).mono fun e w' hx => ?_
      rcases hx with ⟨v, e1, e4, e5, on⟩ | ⟨e1, i, bk, on⟩
      · have hE : rHsX L most s = (dch L (s.k + (K.num L s.k).size) (K.num L s.k).v, ⟨s.k + (K.num L s.k).size + (K.num L s.k).v * 32, s.bad, s.wh⟩) := by unfold rHsX; rw [if_pos hb, if_pos hf, if_pos e5]
        rw [hE]
        exact ⟨_, e1, e4, on⟩
      · have hE : rHsX L most s = ([], ⟨s.k, 21, (s.k : Int) + ((K.num L s.k).size : Int) + (i : Int) * 32⟩) := by unfold rHsX; rw [if_pos hb, if_pos hf, if_neg (fun k => bk.not k), brkOf_eq bk]
        rw [hE]
        exact ⟨_, e1, OwnH.nil _ _, on⟩
    · have hE : rHsX L most s = ([], K.sNo L most s) := by unfold rHsX; rw [if_pos hb, if_neg hf]
      rw [hE]
      exact (qhashes_none most w _ (K.qlen_no32 most hm0 hm w h hb hf)).mono fun e w' k => ⟨_, k.1, OwnH.nil _ _, k.2⟩
  · have hE : rHsX L most s = ([], s) := by unfold rHsX; rw [if_neg hb]
    rw [hE]
    exact (qhashes_none most w _ (K.qlen_stop most 32 w h hb)).mono fun e w' k => ⟨_, k.1, OwnH.nil _ _, k.2⟩
end Go.Proofs.YtdnocpngdepbgaaGreatDoor

namespace Go.Proofs.YtdnocpngdepbgaaGreatDoor.KH
open Go.RowKit
set_option linter.unusedVariables false
set_option linter.unusedSimpArgs false

theorem setCells_ne {g b : Nat} (vs : List Value) : ∀ (o : Nat) (w : World), b ≠ g → (w.setCells g o vs).heap[b]? = w.heap[b]? := by
  induction vs with
  | nil => intro o w h; rfl
  | cons v r ih => intro o w h; exact (ih (o + 1) _ h).trans (Below.heap_setCell _ _ _ _ h)
theorem ownH_set {w : World} {base g n cap k : Nat} {F : List (List UInt8)} (h : OwnH w base (.slice (some ⟨g, 0, none⟩) n cap) F) (x : List UInt8) (hx : x.length = 32) (hk : k < F.length) : OwnH (w.setCells g (32 * k) (hcs x)) base (.slice (some ⟨g, 0, none⟩) n cap) (F.set k x) := by
  obtain ⟨g', cap', e, hnc, hcm, hbg, hbox, hs⟩ := h.box (by omega)
  simp only [Value.slice.injEq] at e
  obtain ⟨e1, rfl, rfl⟩ := e
  cases e1
  have hb2 : Box (w.setCells g (32 * k) (hcs x)) g cap := box_setCells _ _ _ _ _ hbox
  have hs2 : Hs (w.setCells g (32 * k) (hcs x)) g 0 (F.set k x) := by
    have := Hs.set hs h.1 k x hx hk (by have := hbox.there hnc; exact there_part this (by omega))
    rwa [Nat.zero_add] at this
  have := ownH_mk (base := base) (L := F.set k x) (fun y hy => by
    rcases List.mem_or_eq_of_mem_set hy with h1 | h1
    · exact h.1 y h1
    · rw [h1]; exact hx) hb2 (by rw [List.length_set]; exact hnc) hcm hbg hs2
  rwa [List.length_set] at this
theorem ownH_hl {w : World} {base n c : Nat} {a : Option Addr} {L : List (List UInt8)} (h : OwnH w base (.slice a n c) L) : Hl w a L := by
  rcases h.open with ⟨_, e⟩ | ⟨g, cap, e, _, _, _, hs, _⟩
  · exact .inl e
  · simp only [Value.slice.injEq] at e
    rw [e.1]
    exact .inr ⟨g, 0, rfl, hs⟩
/-- append onto an owned list of hashes: it lies where it lay, or it is new and all that was is as it was. -/
theorem run_appH3 (w : World) (base : Nat) (ty : TypeId) (v : Value) (L : List (List UInt8)) (ad : Addr) (M : List (List UInt8)) (c : Nat) (hown : OwnH w base v L) (hM32 : All32 M) (hb : Hl w (some ad) M)
    (h : (L.length + M.length) * 32 ≤ 140737488355328) (hbase : base ≤ w.heap.size) (hM : 0 < M.length) :
    ∃ v' w', (Builtin.append_ #[37, 37] ty #[v, .slice (some ad) M.length c]).run Tryz.prog w = .ok v' w' ∧ OwnH w' base v' (L ++ M) ∧ w.grownBy w' v.ownBlock ∧
      (v'.ownBlock = v.ownBlock ∨ v'.ownBlock = some w.heap.size ∧ Below w.heap.size w w') := by
  obtain ⟨i, hi, hz, hs, hby⟩ := infoH
  have hnews : ∀ j u, (flat M)[j]? = some u → w.cell? (ad.add j) = some u := fun j u hj => by
    have hlt : j < M.length * 32 := by have := (List.getElem?_eq_some_iff.1 hj).1; rwa [flat_len hM32] at this
    rcases hb with rfl | ⟨b, off, e, hc⟩
    · simp at hlt
    · cases e
      have hx : M[j / 32]? = some M[j / 32] := List.getElem?_eq_getElem (by omega)
      have h1 := flat_get hM32 (j / 32) (j % 32) _ hx (by omega)
      rw [show j / 32 * 32 + j % 32 = j by omega, hj] at h1
      have h2 := hc (j / 32) _ hx (j % 32) u h1.symm
      rw [Addr.add_mid]
      rwa [show off + 32 * (j / 32) + j % 32 = off + j by omega] at h2
  obtain ⟨v', w', hr, h2, h3, _, h5⟩ := run_append_own_at (P := Tryz.prog) w base 37 ty 36 i (.agg (bs z32)) 32 32 Tryz.underlying37 hi hz hs hby zsize (by decide) v L.length (flat L) hown.2 ad M.length c (flat M) (flat_len hM32) hnews (flat_one M) (by unfold maxLen; omega) (by omega) hbase
  refine ⟨v', w', hr, ⟨all32_app hown.1 hM32, by rw [List.length_append, flat_app]; exact h2⟩, h3, ?_⟩
  rcases h5 with e | e
  · exact .inl e
  · refine .inr ⟨e, ?_⟩
    cases hv : v.ownBlock with
    | none => exact (Below.refl _ _).grown h3 (Nat.le_refl _) (fun k hk => by rw [hv] at hk; cases hk)
    | some g =>
      rcases hown.2.2 with ⟨rfl, hn⟩ | ⟨g', cap, cur, rfl, hbg, hg, hnc, hcm, hcs', htake⟩
      · simp [Value.ownBlock] at hv
      · have hg' : g' < w.heap.size := (Array.getElem?_eq_some_iff.1 hg).1
        by_cases hroom : L.length + M.length ≤ cap
        · have hr2 := run_append_room (P := Tryz.prog) w 37 ty 36 i Tryz.underlying37 hi g' L.length cap cur hg ad M.length c (flat M) (by rw [flat_len hM32, hs]) hnews (flat_one M) hroom (by rw [flat_len hM32, hs, hcs']; omega)
          rw [hr] at hr2
          injection hr2 with e1 e2
          rw [e1] at e
          simp [Value.ownBlock] at e
          omega
        · have hr2 := run_append_grow (P := Tryz.prog) w 37 ty 36 i (.agg (bs z32)) Tryz.underlying37 hi hz ⟨g', 0, none⟩ L.length cap (flat L) (by rw [flat_len hown.1, hs]) (World.ownsRow.cells hown.2 (g := g') rfl) ad M.length c (flat M) (by rw [flat_len hM32, hs]) hnews (by omega) (by omega) (growslice_fits (by omega) (by rw [hby]; omega))
          rw [hr] at hr2
          injection hr2 with e1 e2
          rw [e2]
          exact (below_drewN (Below.refl _ _) 1).alloc (Nat.le_refl _) _
theorem wpList_appH3 {ops : Array Oper} {rest : List Oper} {o : Oper} {a : Act} {w : World} {Q : Exit → Act → World → Prop} (hgd : o.guard = none) (s x : Operand)
    (ho : o.op = .call { callee := .builtin .append, args := #[s, x], argTypes := #[37, 37] }) (base : Nat) (v : Value) (L : List (List UInt8)) (hs : a.eval s = v) (hown : OwnH w base v L)
    (ad : Addr) (m c : Nat) (M : List (List UInt8)) (hx : a.eval x = .slice (some ad) m c) (hm : M.length = m) (hM32 : All32 M) (hb : Hl w (some ad) M) (hlen : (L.length + M.length) * 32 ≤ 140737488355328) (hbase : base ≤ w.heap.size) (hM : 0 < M.length)
    (h : ∀ v' w', OwnH w' base v' (L ++ M) → w.grownBy w' v.ownBlock → (v'.ownBlock = v.ownBlock ∨ v'.ownBlock = some w.heap.size ∧ Below w.heap.size w w') → wpList Tryz.prog ops Q rest (a.put o.dst v') w') : wpList Tryz.prog ops Q (o :: rest) a w :=
  wpList_plain hgd fun _ hK => by
    subst hm
    obtain ⟨v', w', hr, h2, h3, h4⟩ := run_appH3 w base o.type v L ad M c hown hM32 hb hlen hbase hM
    unfold Oper.wp execOp
    simp only [ho, resolve, invoke, builtin, Sem.run_bind, Sem.run_pure, Result.andThen_ok, List.map_toArray, List.map_cons, List.map_nil, hs, hx, hr]
    exact hK _ _ (h v' w' h2 h3 h4)
def fill (k : Nat) (x : List UInt8) (L : List (List UInt8)) : List (List UInt8) := List.replicate k x ++ L.drop k
theorem fill_len (k : Nat) (x : List UInt8) (L : List (List UInt8)) (h : k ≤ L.length) : (fill k x L).length = L.length := by simp [fill]; omega
theorem fill_zero (x : List UInt8) (L : List (List UInt8)) : fill 0 x L = L := by simp [fill]
theorem fill_all (x : List UInt8) (L : List (List UInt8)) : fill L.length x L = List.replicate L.length x := by simp [fill]
theorem fill_succ (k : Nat) (x : List UInt8) (L : List (List UInt8)) (h : k < L.length) : (fill k x L).set k x = fill (k + 1) x L := by
  unfold fill
  rw [List.set_append_right _ _ (by simp), List.length_replicate, Nat.sub_self, List.drop_eq_getElem_cons h, List.set_cons_zero, List.replicate_succ', List.append_assoc]
  rfl
theorem hl_grown {w w' : World} {a : Option Addr} {l : List (List UInt8)} {row : Option Nat} (h : Hl w a l) (gr : w.grownBy w' row) (hne : 0 < l.length → ∀ b off, a = some ⟨b, off, none⟩ → some b ≠ row) : Hl w' a l := by
  rcases h with rfl | ⟨b, off, rfl, hc⟩
  · exact .inl rfl
  · refine .inr ⟨b, off, rfl, fun i x hx j v hv => gr.cell (hc i x hx j v hv) (hne ?_ b off rfl)⟩
    have := (List.getElem?_eq_some_iff.1 hx).1
    omega
theorem infoSl : ∃ i, Tryz.prog.info? 37 = some i ∧ i.zero = some (.slice none 0 0) ∧ i.size = 1 ∧ i.bytes = 24 := by
  have h : (Tryz.prog.info? 37).map (fun i => (i.zero, i.size, i.bytes)) = some (some (.slice none 0 0), 1, 24) := by kernel_rfl
  obtain ⟨i, h1, h2, h3, h4⟩ := info_parts h
  exact ⟨i, h1, h2, h3, h4⟩
theorem wpList_appS {ops : Array Oper} {rest : List Oper} {o : Oper} {a : Act} {w : World} {Q : Exit → Act → World → Prop} (hgd : o.guard = none) (s x : Operand)
    (ho : o.op = .call { callee := .builtin .append, args := #[s, x], argTypes := #[48, 48] }) (base : Nat) (v : Value) (n : Nat) (rows : List Value) (hs : a.eval s = v) (hown : w.ownsRow base 37 1 v n rows)
    (ad : Addr) (u : Value) (hx : a.eval x = .slice (some ad) 1 1) (hu : w.cell? ad = some u) (hu1 : u.oneCell' = true) (hn : n ≤ 4398046510976) (hbase : base ≤ w.heap.size)
    (h : ∀ v' w', w'.ownsRow base 37 1 v' (n + 1) (rows ++ [u]) → w.grownBy w' v.ownBlock → (v'.ownBlock = v.ownBlock ∨ v'.ownBlock = some w.heap.size) → wpList Tryz.prog ops Q rest (a.put o.dst v') w') : wpList Tryz.prog ops Q (o :: rest) a w :=
  wpList_plain hgd fun _ hK => by
    obtain ⟨i, hi, hz, hsz, hby⟩ := infoSl
    obtain ⟨v', w', hr, h2, h3, _, h5⟩ := run_append_own_at (P := Tryz.prog) w base 48 o.type 37 i (.slice none 0 0) 1 24 Tryz.underlying48 hi hz hsz hby rfl (by decide) v n rows hown ad 1 1 [u] rfl (fun j z hz => by
      cases j with
      | zero => simp at hz; subst hz; simpa [Addr.add] using hu
      | succ j => simp at hz) (by simpa using hu1) (by unfold maxLen; omega) (by omega) hbase
    unfold Oper.wp execOp
    simp only [ho, resolve, invoke, builtin, Sem.run_bind, Sem.run_pure, Result.andThen_ok, List.map_toArray, List.map_cons, List.map_nil, hs, hx, hr]
    exact hK _ _ (h v' w' h2 h3 h5)
def rp (n : Nat) (x : List UInt8) : List (List UInt8) := List.replicate n x
theorem rp_len (n : Nat) (x : List UInt8) : (rp n x).length = n := by simp [rp]
theorem rp_succ (n : Nat) (x : List UInt8) : rp n x ++ [x] = rp (n + 1) x := by simp [rp, List.replicate_succ']
theorem rp_get (n : Nat) (x : List UInt8) (k : Nat) (h : k < n) : (rp n x)[k]? = some x := by simp [rp, h]
/-- One append onto a list of the Book: it lies where it lay, or behind all that was; what the list held is there. -/
theorem grow_step {wa w' : World} {base W n cap m : Nat} {a : Option Addr} {x : List UInt8} {g g' : Value} (hW : W ≤ wa.heap.size) (hx : x.length = 32)
    (hB : Hl wa a (rp n x)) (hv : ∀ b off, 0 < n → a = some ⟨b, off, none⟩ → (Value.slice a n cap).ownBlock = some b ∧ off = 0 ∧ b < W)
    (own' : OwnH w' base g' (rp (n + m) x ++ [x])) (gr : wa.grownBy w' g.ownBlock)
    (h4 : g'.ownBlock = g.ownBlock ∨ g'.ownBlock = some wa.heap.size ∧ Below wa.heap.size wa w')
    (hg : g.ownBlock = (Value.slice a n cap).ownBlock ∨ ∃ b, g.ownBlock = some b ∧ W ≤ b) :
    Hl w' a (rp n x) ∧ (g'.ownBlock = (Value.slice a n cap).ownBlock ∨ ∃ b, g'.ownBlock = some b ∧ W ≤ b) := by
  refine ⟨?_, ?_⟩
  · rcases hB with h0 | ⟨b, off, rfl, hc⟩
    · exact .inl h0
    by_cases hn : 0 < n
    · obtain ⟨hvb, rfl, hbW⟩ := hv b off hn rfl
      rcases hg with e | ⟨b2, e, hb2⟩
      · rcases h4 with e4 | ⟨e4, bl⟩
        · have eo : g'.ownBlock = some b := by rw [e4, e, hvb]
          obtain ⟨gb, gc, rfl, _, _, _, _, hcl⟩ := own'.box (by simp)
          simp [Value.ownBlock] at eo
          subst eo
          refine .inr ⟨gb, 0, rfl, fun i y hy => ?_⟩
          have hi : i < n := by have := (List.getElem?_eq_some_iff.1 hy).1; rwa [rp_len] at this
          rw [rp_get n x i hi] at hy
          cases hy
          exact hcl i x (by rw [rp_succ, rp_get _ _ _ (by omega)])
        · exact .inr ⟨b, 0, rfl, fun i y hy j v hj => (bl.cell (p := ⟨b, 0 + 32 * i + j, none⟩) (block_lt_of_cell (hc i y hy j v hj))).trans (hc i y hy j v hj)⟩
      · exact .inr ⟨b, 0, rfl, fun i y hy j v hj => gr.cell (hc i y hy j v hj) (fun e3 => by rw [e] at e3; simp at e3; omega)⟩
    · left; simp [rp]; omega
  · rcases h4 with e4 | ⟨e4, _⟩
    · rw [e4]; exact hg
    · exact .inr ⟨_, e4, hW⟩
/-- A list that a Book keeps. -/
structure Lst where
  a : Option Addr
  n : Nat
  c : Nat
def Lst.v (l : Lst) : Value := .slice l.a l.n l.c
def mrk (i : Nat) : List UInt8 := 238 :: UInt8.ofNat i :: UInt8.ofNat (i / 256) :: List.replicate 29 0
theorem mrk_32 (i : Nat) : (mrk i).length = 32 := by simp [mrk]
theorem rp_32 (n i : Nat) : All32 (rp n (mrk i)) := fun y hy => by simp [rp] at hy; rw [hy.2]; exact mrk_32 i
/-- A Book that keeps N lists of hashes. -/
structure BookAt (w : World) (q B cB N : Nat) (qo : Option Obj) (V : Nat → Lst) : Prop where
  cq : w.cell? ⟨q, 1, none⟩ = some (.slice (some ⟨B, 0, none⟩) N cB)
  cr : ∀ i, i < N → w.cell? ⟨B, i, none⟩ = some (V i).v
  ho : w.heap[q]? = qo
  lB : B < w.heap.size
theorem BookAt.keep {w w' : World} {q B cB N : Nat} {qo : Option Obj} {V : Nat → Lst} (h : BookAt w q B cB N qo V) (hq : w'.heap[q]? = w.heap[q]?) (hB : w'.heap[B]? = w.heap[B]?) (hs : w.heap.size ≤ w'.heap.size) : BookAt w' q B cB N qo V :=
  ⟨(World.cell?_of_block hq).trans h.cq, fun i hi => (World.cell?_of_block hB).trans (h.cr i hi), hq.trans h.ho, Nat.lt_of_lt_of_le h.lB hs⟩
theorem BookAt.lq {w : World} {q B cB N : Nat} {qo : Option Obj} {V : Nat → Lst} (h : BookAt w q B cB N qo V) : q < w.heap.size := block_lt_of_cell h.cq
def Tg (tg : Nat → Nat) (v : Value) (t : Nat) : Prop := ∀ b, v.ownBlock = some b → tg b = t
/-- All lists are the call's own, each in a block of its own. -/
structure Ph1 (w0 w : World) (base q B cB N : Nat) (qo : Option Obj) (V : Nat → Lst) (tg : Nat → Nat) (F : Nat → List (List UInt8)) : Prop where
  bk : BookAt w q B cB N qo V
  tq : tg q = 0
  tB : tg B = 0
  ow : ∀ i, i < N → OwnH w base (V i).v (F i) ∧ Tg tg (V i).v (i + 1) ∧ (F i).length = (V i).n
  be : Below base w0 w
  fr : ∀ k, k < w0.heap.size → tg k = 0 → w.heap[k]? = w0.heap[k]?
def upF (F : Nat → List (List UInt8)) (m : Nat) (l : List (List UInt8)) : Nat → List (List UInt8) := fun i => if i = m then l else F i
theorem Ph1.set {w0 w : World} {base q B cB N : Nat} {qo : Option Obj} {V : Nat → Lst} {tg : Nat → Nat} {F : Nat → List (List UInt8)} (h : Ph1 w0 w base q B cB N qo V tg F) (m k g : Nat) (x : List UInt8) (hx : x.length = 32) (hm : m < N) (hk : k < (F m).length) (hg : (V m).a = some ⟨g, 0, none⟩) (hbg : base ≤ g) :
    Ph1 w0 (w.setCells g (32 * k) (hcs x)) base q B cB N qo V tg (upF F m ((F m).set k x)) := by
  have hv : (V m).v = .slice (some ⟨g, 0, none⟩) (V m).n (V m).c := by unfold Lst.v; rw [hg]
  have tm : tg g = m + 1 := (h.ow m hm).2.1 g (by rw [hv]; rfl)
  have ne : ∀ b, tg b ≠ m + 1 → b ≠ g := fun b hb e => hb (by rw [e]; exact tm)
  have hset : ∀ b, b ≠ g → (w.setCells g (32 * k) (hcs x)).heap[b]? = w.heap[b]? := fun b hb => setCells_ne _ _ _ hb
  refine ⟨h.bk.keep (hset q (ne q (by rw [h.tq]; omega))) (hset B (ne B (by rw [h.tB]; omega))) (by rw [size_setCells]; exact Nat.le_refl _), h.tq, h.tB, fun i hi => ?_, below_setCells h.be hbg _ _, fun k hk ht => (hset k (ne k (by rw [ht]; omega))).trans (h.fr k hk ht)⟩
  obtain ⟨o, t, l⟩ := h.ow i hi
  unfold upF
  by_cases e : i = m
  · subst e
    rw [if_pos rfl]
    refine ⟨?_, t, by rw [List.length_set]; exact l⟩
    rw [hv] at o ⊢
    exact ownH_set o x hx hk
  · rw [if_neg e]
    exact ⟨ownH_keep o (fun b e2 => hset b (fun e3 => by subst e3; have := t b e2; omega)), t, l⟩
/-- The lists are being grown. -/
structure Ph2 (w0 w : World) (base q B cB N : Nat) (qo : Option Obj) (V : Nat → Lst) (tz tg : Nat → Nat) (lo m : Nat) (G : Nat → Value) (all : Value) : Prop where
  bk : BookAt w q B cB N qo V
  tq : tg q = 0
  tB : tg B = 0
  rd : ∀ i, i < N → Hl w (V i).a (rp (V i).n (mrk i)) ∧ Tg tg (V i).v (i + 1) ∧ ∀ b, (V i).v.ownBlock = some b → b < w.heap.size
  ow : ∀ i, lo ≤ i → i < N → OwnH w base (V i).v (rp (V i).n (mrk i))
  gs : ∀ i, i < m → OwnH w base (G i) (rp ((V i).n + 20) (mrk i)) ∧ Tg tg (G i) (i + 1)
  al : w.ownsRow base 37 1 all m ((List.range m).map G) ∧ Tg tg all (N + 1)
  be : Below base w0 w
  zb : base ≤ w.heap.size
  z0 : w0.heap.size ≤ w.heap.size
  fr : ∀ k, k < w0.heap.size → tz k = 0 → tg k = 0 ∧ w.heap[k]? = w0.heap[k]?
section
variable {w0 w w' : World} {base q B cB N : Nat} {qo : Option Obj} {V : Nat → Lst} {tz tg : Nat → Nat} {lo m : Nat} {G : Nat → Value} {all : Value}
theorem Ph2.below (h : Ph2 w0 w base q B cB N qo V tz tg lo m G all) (hb : Below w.heap.size w w') : Ph2 w0 w' base q B cB N qo V tz tg lo m G all :=
  ⟨h.bk.keep (hb.block q h.bk.lq) (hb.block B h.bk.lB) hb.size, h.tq, h.tB, fun i hi => ⟨(h.rd i hi).1.below (rp_32 _ _) hb, (h.rd i hi).2.1, fun b e => Nat.lt_of_lt_of_le ((h.rd i hi).2.2 b e) hb.size⟩,
    fun i h1 h2 => (h.ow i h1 h2).below hb, fun i hi => ⟨(h.gs i hi).1.below hb, (h.gs i hi).2⟩, ⟨World.ownsRow.kept h.al.1 (row := none) ⟨hb.os, hb.tape, hb.output, hb.size, fun k hk _ => hb.block k hk⟩ (by cases hx : all.ownBlock <;> simp), h.al.2⟩, h.be.trans (hb.mono h.zb), Nat.le_trans h.zb hb.size, Nat.le_trans h.z0 hb.size, fun k hk ht => ⟨(h.fr k hk ht).1, (hb.block k (Nat.lt_of_lt_of_le hk h.z0)).trans (h.fr k hk ht).2⟩⟩
/-- The new block's tag. -/
def tgN (tg : Nat → Nat) (z t : Nat) : Nat → Nat := fun b => if b < z then tg b else t
theorem Tg.new {v : Value} {t : Nat} (z t' : Nat) (h : Tg tg v t) (hl : ∀ b, v.ownBlock = some b → b < z) : Tg (tgN tg z t') v t := fun b e => by
  unfold tgN
  rw [if_pos (hl b e)]
  exact h b e
/-- One list is grown: all others stay. -/
theorem Ph2.grow (h : Ph2 w0 w base q B cB N qo V tz tg lo m G all) (t : Nat) (v v' : Value) (h1 : 1 ≤ t) (gr : w.grownBy w' v.ownBlock) (ht : Tg tg v t) (hv : ∀ b, v.ownBlock = some b → base ≤ b ∧ b < w.heap.size) (hblk : v'.ownBlock = v.ownBlock ∨ v'.ownBlock = some w.heap.size)
    (hrd : ∀ i, i + 1 = t → i < N → Hl w' (V i).a (rp (V i).n (mrk i))) (how : ∀ i, lo ≤ i → i < N → i + 1 ≠ t) (hgs : ∀ i, i < m → i + 1 ≠ t) (hal : N + 1 ≠ t) : Ph2 w0 w' base q B cB N qo V tz (tgN tg w.heap.size t) lo m G all ∧ Tg (tgN tg w.heap.size t) v' t := by
  have ne : ∀ b, tg b ≠ t → some b ≠ v.ownBlock := fun b hb e => hb (ht b e.symm)
  have kp : ∀ {e : TypeId} {sz n : Nat} {u : Value} {xs : List Value} {s : Nat}, w.ownsRow base e sz u n xs → Tg tg u s → s ≠ t → w'.ownsRow base e sz u n xs := fun {e sz n u xs s} o tu hs => World.ownsRow.kept o gr (by
    cases hx : u.ownBlock with
    | none => exact .inl rfl
    | some b => exact .inr (fun e => by have := tu b hx; have := ht b e.symm; omega))
  have lt : ∀ {e : TypeId} {sz n : Nat} {u : Value} {xs : List Value}, w.ownsRow base e sz u n xs → ∀ b, u.ownBlock = some b → b < w.heap.size := fun o b e => (World.ownsRow.lt o b e).2
  refine ⟨⟨h.bk.keep (gr.block q h.bk.lq (ne q (by rw [h.tq]; omega))) (gr.block B h.bk.lB (ne B (by rw [h.tB]; omega))) gr.size, ?_, ?_, fun i hi => ?_, fun i h1 h2 => ⟨(h.ow i h1 h2).1, kp (h.ow i h1 h2).2 (h.rd i h2).2.1 (how i h1 h2)⟩, fun i hi => ⟨⟨(h.gs i hi).1.1, kp (h.gs i hi).1.2 (h.gs i hi).2 (hgs i hi)⟩, (h.gs i hi).2.new _ _ (lt (h.gs i hi).1.2)⟩, ⟨kp h.al.1 h.al.2 hal, h.al.2.new _ _ (lt h.al.1)⟩, h.be.grown gr h.zb (fun b e => (hv b e).1), Nat.le_trans h.zb gr.size, Nat.le_trans h.z0 gr.size, fun k hk ht0 => (by
    have hkz := Nat.lt_of_lt_of_le hk h.z0
    obtain ⟨f1, f2⟩ := h.fr k hk ht0
    refine ⟨?_, (gr.block k hkz (ne k (by rw [f1]; omega))).trans f2⟩
    unfold tgN
    rw [if_pos hkz]
    exact f1)⟩, fun b e => ?_⟩
  · unfold tgN; rw [if_pos h.bk.lq]; exact h.tq
  · unfold tgN; rw [if_pos h.bk.lB]; exact h.tB
  · obtain ⟨r1, r2, r3⟩ := h.rd i hi
    refine ⟨?_, r2.new _ _ r3, fun b e => Nat.lt_of_lt_of_le (r3 b e) gr.size⟩
    by_cases e : i + 1 = t
    · exact hrd i e hi
    · exact hl_grown r1 gr (fun _ b off ea e2 => by
        have : (V i).v.ownBlock = some b := by unfold Lst.v; rw [ea]; rfl
        have := r2 b this
        have := ht b e2.symm
        omega)
  · unfold tgN
    rcases hblk with e2 | e2
    · rw [e2] at e
      rw [if_pos (hv b e).2]
      exact ht b e
    · rw [e2] at e
      cases e
      rw [if_neg (by omega)]
theorem Ph2.done (h : Ph2 w0 w base q B cB N qo V tz tg (m + 1) m G all) (hm : m < N) (g all' : Value) (og : OwnH w base g (rp ((V m).n + 20) (mrk m))) (hg : Tg tg g (m + 1)) (gr : w.grownBy w' all.ownBlock) (hblk : all'.ownBlock = all.ownBlock ∨ all'.ownBlock = some w.heap.size)
    (rows : w'.ownsRow base 37 1 all' (m + 1) ((List.range m).map G ++ [g])) : ∃ tg', Ph2 w0 w' base q B cB N qo V tz tg' (m + 1) (m + 1) (fun i => if i = m then g else G i) all' := by
  have ht := h.al.2
  have hv : ∀ b, all.ownBlock = some b → base ≤ b ∧ b < w.heap.size := fun b e => World.ownsRow.lt h.al.1 b e
  have ne : ∀ b, tg b ≠ N + 1 → some b ≠ all.ownBlock := fun b hb e => hb (ht b e.symm)
  have kp : ∀ {e : TypeId} {sz n : Nat} {u : Value} {xs : List Value} {s : Nat}, w.ownsRow base e sz u n xs → Tg tg u s → s ≠ N + 1 → w'.ownsRow base e sz u n xs := fun {e sz n u xs s} o tu hs => World.ownsRow.kept o gr (by
    cases hx : u.ownBlock with
    | none => exact .inl rfl
    | some b => exact .inr (fun e => by have := tu b hx; have := ht b e.symm; omega))
  have lt : ∀ {e : TypeId} {sz n : Nat} {u : Value} {xs : List Value}, w.ownsRow base e sz u n xs → ∀ b, u.ownBlock = some b → b < w.heap.size := fun o b e => (World.ownsRow.lt o b e).2
  refine ⟨tgN tg w.heap.size (N + 1), ⟨h.bk.keep (gr.block q h.bk.lq (ne q (by rw [h.tq]; omega))) (gr.block B h.bk.lB (ne B (by rw [h.tB]; omega))) gr.size, ?_, ?_, fun i hi => ?_, fun i h1 h2 => ⟨(h.ow i h1 h2).1, kp (h.ow i h1 h2).2 (h.rd i h2).2.1 (by omega)⟩, fun i hi => ?_, ⟨?_, fun b e => ?_⟩, h.be.grown gr h.zb (fun b e => (hv b e).1), Nat.le_trans h.zb gr.size, Nat.le_trans h.z0 gr.size, fun k hk ht0 => (by
    have hkz := Nat.lt_of_lt_of_le hk h.z0
    obtain ⟨f1, f2⟩ := h.fr k hk ht0
    refine ⟨?_, (gr.block k hkz (ne k (by rw [f1]; omega))).trans f2⟩
    unfold tgN
    rw [if_pos hkz]
    exact f1)⟩⟩
  · unfold tgN; rw [if_pos h.bk.lq]; exact h.tq
  · unfold tgN; rw [if_pos h.bk.lB]; exact h.tB
  · obtain ⟨r1, r2, r3⟩ := h.rd i hi
    refine ⟨hl_grown r1 gr (fun _ b off ea e2 => ?_), r2.new _ _ r3, fun b e => Nat.lt_of_lt_of_le (r3 b e) gr.size⟩
    have : (V i).v.ownBlock = some b := by unfold Lst.v; rw [ea]; rfl
    have := r2 b this
    have := ht b e2.symm
    omega
  · show OwnH w' base (if i = m then g else G i) _ ∧ Tg _ (if i = m then g else G i) _
    by_cases e : i = m
    · subst e
      rw [if_pos rfl]
      exact ⟨⟨og.1, kp og.2 hg (by omega)⟩, hg.new _ _ (lt og.2)⟩
    · rw [if_neg e]
      have hi2 : i < m := by omega
      exact ⟨⟨(h.gs i hi2).1.1, kp (h.gs i hi2).1.2 (h.gs i hi2).2 (by omega)⟩, (h.gs i hi2).2.new _ _ (lt (h.gs i hi2).1.2)⟩
  · have : (List.range (m + 1)).map (fun i => if i = m then g else G i) = (List.range m).map G ++ [g] := by
      rw [List.range_succ, List.map_append]
      congr 1
      · apply List.map_congr_left
        intro i hi
        rw [if_neg (by have := List.mem_range.1 hi; omega)]
      · simp
    rw [this]
    exact rows
  · unfold tgN
    rcases hblk with e2 | e2
    · rw [e2] at e
      rw [if_pos (hv b e).2]
      exact ht b e
    · rw [e2] at e
      cases e
      rw [if_neg (by omega)]
end
end Go.Proofs.YtdnocpngdepbgaaGreatDoor.KH

namespace Go.Proofs.YtdnocpngdepbgaaGreatDoor
open Go.RowKit
set_option linter.unusedVariables false
set_option linter.unusedSimpArgs false

theorem bel2 (w : World) (a b : Obj) : Below w.heap.size w ((w.alloc a).alloc b) := ((Below.refl _ _).alloc (Nat.le_refl _) _).alloc (by simp) _
set_option maxRecDepth 100000 in
set_option maxHeartbeats 1000000 in
theorem sameV0 (w : World) : Calls Tryz.prog 82 #[K.VV 0 0 0 ⟨#[]⟩, K.VV 0 0 0 ⟨#[]⟩] w fun e w' => e = .returned (.bool true) ∧ Below w.heap.size w w' := by
  have z1 : (FloatKind.f64.format.order 0 0 == some .eq) = true := by decide +kernel
  have z2 : (FloatKind.f64.format.order 0 0 != some .eq) = false := by decide +kernel
  have z3 : (FloatKind.f64.format.order 9218868437227405312 9218868437227405312 == some .eq) = true := by decide +kernel
  have hq : ∀ W, (binOp .quo 34 (.float .f64 4607182418800017408) (.float .f64 0)).run Tryz.prog W = .ok (.float .f64 9218868437227405312) W := fun W => run_float_arith W .quo 34 .f64 _ _ _ (by decide +kernel)
  unfold K.VV
  go_enter Tryz.func82, Tryz.ntmps82
  go_wp2
  go_ret
  exact ⟨rfl, bel2 _ _ _⟩
set_option maxRecDepth 100000 in
set_option maxHeartbeats 1000000 in
theorem sameVn (f : Nat) (z1 : (FloatKind.f64.format.order f f == some .eq) = true) (z3 : (FloatKind.f64.format.order f 0 == some .eq) = false) (w : World) : Calls Tryz.prog 82 #[K.VV 0 0 f ⟨#[]⟩, K.VV 0 0 f ⟨#[]⟩] w fun e w' => e = .returned (.bool true) ∧ Below w.heap.size w w' := by
  have z2 : (FloatKind.f64.format.order f f != some .eq) = false := by rw [bne, z1]; rfl
  have z4 : (FloatKind.f64.format.order f 0 != some .eq) = true := by rw [bne, z3]; rfl
  unfold K.VV
  go_enter Tryz.func82, Tryz.ntmps82
  go_wp2
  go_ret
  exact ⟨rfl, bel2 _ _ _⟩
end Go.Proofs.YtdnocpngdepbgaaGreatDoor

namespace Go.Proofs.YtdnocpngdepbgaaGreatDoor
open Go.RowKit
set_option linter.unusedVariables false
set_option linter.unusedSimpArgs false

/-- What a read answers. -/
structure Ans where
  b : Int
  v : Bool
  u : Int
  n : Int
  f : Nat
  s : List UInt8
  R : List UInt8
  h : List UInt8
  D : List (List UInt8)
def az : Ans := ⟨0, false, 0, 0, 0, [], [], z32, []⟩
noncomputable def ans (L : List UInt8) (s : K.St) (kd : Int) (u : Nat) (m : Int) : Ans :=
  if kd = 0 then { az with b := (K.rByte L s).1 } else if kd = 1 then { az with v := (K.rBool L s).1 } else if kd = 2 then { az with u := ((rFix L s).1 : Int) } else if kd = 3 then { az with u := ((K.rUint L u s).1 : Int) }
  else if kd = 4 then { az with n := (K.rInt L s).1 } else if kd = 5 then { az with f := (K.rFloat L s).1 } else if kd = 6 then { az with s := (K.rTextX L m s).1 } else if kd = 7 then { az with R := (K.rRawX L m s).1 }
  else if kd = 8 then { az with h := (rHash L s).1 } else if kd = 9 then { az with D := (rHsX L m s).1 } else az
noncomputable def stn (L : List UInt8) (s : K.St) (kd : Int) (u : Nat) (m e : Int) : K.St :=
  if kd = 0 then (K.rByte L s).2 else if kd = 1 then (K.rBool L s).2 else if kd = 2 then (rFix L s).2 else if kd = 3 then (K.rUint L u s).2 else if kd = 4 then (K.rInt L s).2 else if kd = 5 then (K.rFloat L s).2
  else if kd = 6 then (K.rTextX L m s).2 else if kd = 7 then (K.rRawX L m s).2 else if kd = 8 then (rHash L s).2 else if kd = 9 then (rHsX L m s).2 else if kd = 10 then s.fl e m else s
def Ans.g (A : Ans) (ra : Option Addr) (rc : Nat) (la : Option Addr) (lc : Nat) : Array Value := gC (.int .u8 A.b) (.bool A.v) (.int .u64 A.u) (.int .i64 A.n) (.float .f64 A.f) (.string ⟨A.s.toArray⟩) (.slice ra A.R.length rc) A.h (.slice la A.D.length lc)
/-- A read's answer and what stands behind it. -/
def RdX (w : World) (T : TypeId) (r : Nat) (a : Option Addr) (cap : Nat) (L : List UInt8) (A : Ans) (s' : K.St) (x : Ending) (w' : World) : Prop :=
  ∃ (ra : Option Addr) (rc : Nat) (la : Option Addr) (lc : Nat), x = .returned (.agg (A.g ra rc la lc)) ∧ K.On w w' T r a cap L s' ∧ K.OwnB w' w.heap.size (.slice ra A.R.length rc) A.R ∧ OwnH w' w.heap.size (.slice la A.D.length lc) A.D
theorem rdx_plain {w w' : World} {T : TypeId} {r cap : Nat} {a : Option Addr} {L : List UInt8} {A : Ans} {s' : K.St} {x : Ending} (hR : A.R = []) (hD : A.D = []) (hx : x = .returned (.agg (A.g none 0 none 0))) (on : K.On w w' T r a cap L s') : RdX w T r a cap L A s' x w' := by
  refine ⟨none, 0, none, 0, hx, on, ?_, ?_⟩
  · rw [hR]; exact K.ownB_nil _ _
  · rw [hD]; exact OwnH.nil _ _
variable {r cap : Nat} {a : Option Addr} {L : List UInt8} {s : K.St}
theorem fx_own {z : Nat} {w w' : World} {v : Value} {base : Nat} {R : List UInt8} (h : Fx z w w') (o : K.OwnB w base v R) (hb : z + 3 ≤ base) : K.OwnB w' base v R := K.ownB_keep o fun b e => h.block b (by have := (World.ownsRow.lt o b e).1; omega) (by have := (World.ownsRow.lt o b e).1; omega)
theorem fx_ownH {z : Nat} {w w' : World} {v : Value} {base : Nat} {D : List (List UInt8)} (h : Fx z w w') (o : OwnH w base v D) (hb : z + 3 ≤ base) : OwnH w' base v D := ownH_keep o fun b e => h.block b (by have := (World.ownsRow.lt o.2 b e).1; omega) (by have := (World.ownsRow.lt o.2 b e).1; omega)
theorem fix_lt (L : List UInt8) (s : K.St) : (rFix L s).1 < 4294967296 := by
  unfold rFix
  have := K.be_lt L s.k 4
  have e4 : (256 : Nat) ^ 4 = 4294967296 := by decide
  rw [e4] at this
  repeat' split
  all_goals (simp only []; omega)
theorem hash_l (L : List UInt8) (s : K.St) : (rHash L s).1.length = 32 := by
  unfold rHash
  split
  · split
    · simp; omega
    · rfl
  · rfl
theorem px0 (u m e : Int) (un : Nat) (w : World) (h : K.RD w 108 r a cap L s) : Calls Tryz.prog 21 #[.pointer (some ⟨r, 0, none⟩), .agg #[.int .i64 0, .int .u64 u, .int .i64 m, .int .i64 e]] w (RdX w 108 r a cap L (ans L s 0 un m) (stn L s 0 un m e)) := by
  have ea : ans L s 0 un m = { az with b := (K.rByte L s).1 } := by simp [ans]
  have es : stn L s 0 un m e = (K.rByte L s).2 := by simp [stn]
  rw [ea, es]
  refine (read_0 (some ⟨r, 0, none⟩) u m e (K.rByte L s).1 w (fun wx w1 => K.On wx w1 108 r a cap L (K.rByte L s).2) (fun wx bx _ => (K.byte_any wx (RD_b h bx)).mono fun x w1 k => ⟨k.1, k.2, keep_on' h k.2⟩)).mono ?_
  rintro x w' ⟨rfl, hd⟩
  exact rdx_plain rfl rfl rfl (rdd_on h hd)
theorem px1 (u m e : Int) (un : Nat) (w : World) (h : K.RD w 108 r a cap L s) : Calls Tryz.prog 21 #[.pointer (some ⟨r, 0, none⟩), .agg #[.int .i64 1, .int .u64 u, .int .i64 m, .int .i64 e]] w (RdX w 108 r a cap L (ans L s 1 un m) (stn L s 1 un m e)) := by
  have ea : ans L s 1 un m = { az with v := (K.rBool L s).1 } := by simp [ans]
  have es : stn L s 1 un m e = (K.rBool L s).2 := by simp [stn]
  rw [ea, es]
  refine (read_1 (some ⟨r, 0, none⟩) u m e (K.rBool L s).1 w (fun wx w1 => K.On wx w1 108 r a cap L (K.rBool L s).2) (fun wx bx _ => (K.bool_any wx (RD_b h bx)).mono fun x w1 k => ⟨k.1, k.2, keep_on' h k.2⟩)).mono ?_
  rintro x w' ⟨rfl, hd⟩
  exact rdx_plain rfl rfl rfl (rdd_on h hd)
theorem px2 (u m e : Int) (un : Nat) (w : World) (h : K.RD w 108 r a cap L s) : Calls Tryz.prog 21 #[.pointer (some ⟨r, 0, none⟩), .agg #[.int .i64 2, .int .u64 u, .int .i64 m, .int .i64 e]] w (RdX w 108 r a cap L (ans L s 2 un m) (stn L s 2 un m e)) := by
  have ea : ans L s 2 un m = { az with u := ((rFix L s).1 : Int) } := by simp [ans]
  have es : stn L s 2 un m e = (rFix L s).2 := by simp [stn]
  rw [ea, es]
  refine (read_2 (some ⟨r, 0, none⟩) u m e ((rFix L s).1 : Int) (by omega) (by have := fix_lt L s; omega) w (fun wx w1 => K.On wx w1 108 r a cap L (rFix L s).2) (fun wx bx _ => (rfix_any wx (RD_b h bx)).mono fun x w1 k => ⟨k.1, k.2, keep_on' h k.2⟩)).mono ?_
  rintro x w' ⟨rfl, hd⟩
  exact rdx_plain rfl rfl rfl (rdd_on h hd)
theorem px3 (un : Nat) (hu : un < 18446744073709551616) (m e : Int) (w : World) (h : K.RD w 108 r a cap L s) : Calls Tryz.prog 21 #[.pointer (some ⟨r, 0, none⟩), .agg #[.int .i64 3, .int .u64 (un : Int), .int .i64 m, .int .i64 e]] w (RdX w 108 r a cap L (ans L s 3 un m) (stn L s 3 un m e)) := by
  have ea : ans L s 3 un m = { az with u := ((K.rUint L un s).1 : Int) } := by simp [ans]
  have es : stn L s 3 un m e = (K.rUint L un s).2 := by simp [stn]
  rw [ea, es]
  refine (read_3 (some ⟨r, 0, none⟩) un m e ((K.rUint L un s).1 : Int) w (fun wx w1 => K.On wx w1 108 r a cap L (K.rUint L un s).2) (fun wx bx _ => (K.uint_any un hu wx (RD_b h bx)).mono fun x w1 k => ⟨k.1, k.2, keep_on' h k.2⟩)).mono ?_
  rintro x w' ⟨rfl, hd⟩
  exact rdx_plain rfl rfl rfl (rdd_on h hd)
theorem px4 (u m e : Int) (un : Nat) (w : World) (h : K.RD w 108 r a cap L s) : Calls Tryz.prog 21 #[.pointer (some ⟨r, 0, none⟩), .agg #[.int .i64 4, .int .u64 u, .int .i64 m, .int .i64 e]] w (RdX w 108 r a cap L (ans L s 4 un m) (stn L s 4 un m e)) := by
  have ea : ans L s 4 un m = { az with n := (K.rInt L s).1 } := by simp [ans]
  have es : stn L s 4 un m e = (K.rInt L s).2 := by simp [stn]
  rw [ea, es]
  refine (read_4 (some ⟨r, 0, none⟩) u m e (K.rInt L s).1 w (fun wx w1 => K.On wx w1 108 r a cap L (K.rInt L s).2) (fun wx bx _ => (K.int_any wx (RD_b h bx)).mono fun x w1 k => ⟨k.1, k.2, keep_on' h k.2⟩)).mono ?_
  rintro x w' ⟨rfl, hd⟩
  exact rdx_plain rfl rfl rfl (rdd_on h hd)
theorem px5 (u m e : Int) (un : Nat) (w : World) (h : K.RD w 108 r a cap L s) : Calls Tryz.prog 21 #[.pointer (some ⟨r, 0, none⟩), .agg #[.int .i64 5, .int .u64 u, .int .i64 m, .int .i64 e]] w (RdX w 108 r a cap L (ans L s 5 un m) (stn L s 5 un m e)) := by
  have ea : ans L s 5 un m = { az with f := (K.rFloat L s).1 } := by simp [ans]
  have es : stn L s 5 un m e = (K.rFloat L s).2 := by simp [stn]
  rw [ea, es]
  refine (read_5 (some ⟨r, 0, none⟩) u m e (K.rFloat L s).1 w (fun wx w1 => K.On wx w1 108 r a cap L (K.rFloat L s).2) (fun wx bx _ => (K.float_any wx (RD_b h bx)).mono fun x w1 k => ⟨k.1, k.2, keep_on' h k.2⟩)).mono ?_
  rintro x w' ⟨rfl, hd⟩
  exact rdx_plain rfl rfl rfl (rdd_on h hd)
theorem px6 (u m e : Int) (un : Nat) (hm0 : -9223372036854775808 ≤ m) (hm : m < 9223372036854775808) (w : World) (h : K.RD w 108 r a cap L s) (hT : K.Tabs w) (hr : 0 ≠ r ∧ 1 ≠ r) : Calls Tryz.prog 21 #[.pointer (some ⟨r, 0, none⟩), .agg #[.int .i64 6, .int .u64 u, .int .i64 m, .int .i64 e]] w (RdX w 108 r a cap L (ans L s 6 un m) (stn L s 6 un m e)) := by
  have ea : ans L s 6 un m = { az with s := (K.rTextX L m s).1 } := by simp [ans]
  have es : stn L s 6 un m e = (K.rTextX L m s).2 := by simp [stn]
  rw [ea, es]
  refine (read_6 (some ⟨r, 0, none⟩) u m e ⟨(K.rTextX L m s).1.toArray⟩ w (fun wx w1 => K.On wx w1 108 r a cap L (K.rTextX L m s).2) (fun wx bx _ => (K.ptext_x m hm0 hm wx (RD_b h bx) (hT.below bx) hr).mono fun x w1 k => ⟨k.1, k.2, keep_on' h k.2⟩)).mono ?_
  rintro x w' ⟨rfl, hd⟩
  exact rdx_plain rfl rfl rfl (rdd_on h hd)
theorem px7 (u m e : Int) (un : Nat) (hm0 : -9223372036854775808 ≤ m) (hm : m < 9223372036854775808) (w : World) (h : K.RD w 108 r a cap L s) : Calls Tryz.prog 21 #[.pointer (some ⟨r, 0, none⟩), .agg #[.int .i64 7, .int .u64 u, .int .i64 m, .int .i64 e]] w (RdX w 108 r a cap L (ans L s 7 un m) (stn L s 7 un m e)) := by
  have ea : ans L s 7 un m = { az with R := (K.rRawX L m s).1 } := by simp [ans]
  have es : stn L s 7 un m e = (K.rRawX L m s).2 := by simp [stn]
  rw [ea, es]
  refine (read_7 (some ⟨r, 0, none⟩) u m e w (fun v wx w1 => K.OwnB w1 wx.heap.size v (K.rRawX L m s).1 ∧ K.On wx w1 108 r a cap L (K.rRawX L m s).2) (fun wx bx sx => (K.praw_x m hm0 hm wx (RD_b h bx)).mono fun x w1 k => by
    obtain ⟨v, base, e1, e2, own, on⟩ := k
    obtain ⟨ra, rc, rfl, _, _, _⟩ := own.open
    exact ⟨_, _, _, e1, ⟨K.ownB_base own e2, on⟩, keep_on' h on⟩)).mono ?_
  rintro x w' ⟨a', n', c', rfl, wx, w1, q1, q2, ⟨own, on⟩, q4⟩
  obtain ⟨ra, rc, e, _, _, _⟩ := own.open
  cases e
  refine ⟨_, _, none, 0, rfl, rdd_on h ⟨wx, w1, q1, q2, on, q4⟩, ?_, OwnH.nil _ _⟩
  exact K.ownB_base (fx_own q4 own (by omega)) (by omega)
theorem px8 (u m e : Int) (un : Nat) (w : World) (h : K.RD w 108 r a cap L s) : Calls Tryz.prog 21 #[.pointer (some ⟨r, 0, none⟩), .agg #[.int .i64 8, .int .u64 u, .int .i64 m, .int .i64 e]] w (RdX w 108 r a cap L (ans L s 8 un m) (stn L s 8 un m e)) := by
  have ea : ans L s 8 un m = { az with h := (rHash L s).1 } := by simp [ans]
  have es : stn L s 8 un m e = (rHash L s).2 := by simp [stn]
  rw [ea, es]
  refine (read_8 (some ⟨r, 0, none⟩) u m e (rHash L s).1 (hash_l L s) w (fun wx w1 => K.On wx w1 108 r a cap L (rHash L s).2) (fun wx bx _ => (rhash_any wx (RD_b h bx)).mono fun x w1 k => ⟨k.1, k.2, keep_on' h k.2⟩)).mono ?_
  rintro x w' ⟨rfl, hd⟩
  exact rdx_plain rfl rfl rfl (rdd_on h hd)
theorem px9 (u m e : Int) (un : Nat) (hm0 : -9223372036854775808 ≤ m) (hm : m < 9223372036854775808) (w : World) (h : K.RD w 108 r a cap L s) : Calls Tryz.prog 21 #[.pointer (some ⟨r, 0, none⟩), .agg #[.int .i64 9, .int .u64 u, .int .i64 m, .int .i64 e]] w (RdX w 108 r a cap L (ans L s 9 un m) (stn L s 9 un m e)) := by
  have ea : ans L s 9 un m = { az with D := (rHsX L m s).1 } := by simp [ans]
  have es : stn L s 9 un m e = (rHsX L m s).2 := by simp [stn]
  rw [ea, es]
  refine (read_9 (some ⟨r, 0, none⟩) u m e w (fun v wx w1 => OwnH w1 wx.heap.size v (rHsX L m s).1 ∧ K.On wx w1 108 r a cap L (rHsX L m s).2) (fun wx bx sx => (phashes_x m hm0 hm wx (RD_b h bx)).mono fun x w1 k => by
    obtain ⟨v, e1, own, on⟩ := k
    obtain ⟨la, lc, rfl⟩ := own.size
    exact ⟨_, _, _, e1, ⟨own, on⟩, keep_on' h on⟩)).mono ?_
  rintro x w' ⟨a', n', c', rfl, wx, w1, q1, q2, ⟨own, on⟩, q4⟩
  obtain ⟨la, lc, e⟩ := own.size
  cases e
  refine ⟨none, 0, _, _, rfl, rdd_on h ⟨wx, w1, q1, q2, on, q4⟩, K.ownB_nil _ _, ?_⟩
  exact ownH_base (fx_ownH q4 own (by omega)) (by omega)
theorem px10 (u m e : Int) (un : Nat) (w : World) (h : K.RD w 108 r a cap L s) : Calls Tryz.prog 21 #[.pointer (some ⟨r, 0, none⟩), .agg #[.int .i64 10, .int .u64 u, .int .i64 m, .int .i64 e]] w (RdX w 108 r a cap L (ans L s 10 un m) (stn L s 10 un m e)) := by
  have ea : ans L s 10 un m = az := by simp [ans]
  have es : stn L s 10 un m e = s.fl e m := by simp [stn]
  rw [ea, es]
  refine (read_10 (some ⟨r, 0, none⟩) u m e w (fun wx w1 => K.On wx w1 108 r a cap L (s.fl e m)) (fun wx bx _ => (K.rfail_any e m wx (RD_b h bx)).mono fun x w1 k => ⟨k.1, k.2, keep_on' h k.2⟩)).mono ?_
  rintro x w' ⟨rfl, hd⟩
  exact rdx_plain rfl rfl rfl (rdd_on h hd)
theorem pxno (kd u m e : Int) (un : Nat) (hk : kd < 0 ∨ 10 < kd) (w : World) (h : K.RD w 108 r a cap L s) : Calls Tryz.prog 21 #[.pointer (some ⟨r, 0, none⟩), .agg #[.int .i64 kd, .int .u64 u, .int .i64 m, .int .i64 e]] w (RdX w 108 r a cap L (ans L s kd un m) (stn L s kd un m e)) := by
  have ea : ans L s kd un m = az := by
    unfold ans
    rw [if_neg (by omega), if_neg (by omega), if_neg (by omega), if_neg (by omega), if_neg (by omega), if_neg (by omega), if_neg (by omega), if_neg (by omega), if_neg (by omega), if_neg (by omega)]
  have es : stn L s kd un m e = s := by
    unfold stn
    rw [if_neg (by omega), if_neg (by omega), if_neg (by omega), if_neg (by omega), if_neg (by omega), if_neg (by omega), if_neg (by omega), if_neg (by omega), if_neg (by omega), if_neg (by omega), if_neg (by omega)]
  rw [ea, es]
  refine (read_no (some ⟨r, 0, none⟩) kd u m e hk w).mono ?_
  rintro x w' ⟨rfl, wx, w1, q1, q2, q3, q4⟩
  exact rdx_plain rfl rfl rfl (rdd_on h ⟨wx, w1, q1, q2, by rw [q3]; exact (RD_b h q1).on, q4⟩)
/-- A read of whatever kind. -/
theorem px_all (k u m e : Int) (un : Nat) (hun : u = (un : Int)) (hu : un < 18446744073709551616) (hm0 : -9223372036854775808 ≤ m) (hm : m < 9223372036854775808) (w : World) (h : K.RD w 108 r a cap L s) (hT : K.Tabs w) (hr : 0 ≠ r ∧ 1 ≠ r) : Calls Tryz.prog 21 #[.pointer (some ⟨r, 0, none⟩), .agg #[.int .i64 k, .int .u64 u, .int .i64 m, .int .i64 e]] w (RdX w 108 r a cap L (ans L s k un m) (stn L s k un m e)) := by
  subst hun
  by_cases hk : k < 0 ∨ 10 < k
  · exact pxno k _ m e un hk w h
  · have : k = 0 ∨ k = 1 ∨ k = 2 ∨ k = 3 ∨ k = 4 ∨ k = 5 ∨ k = 6 ∨ k = 7 ∨ k = 8 ∨ k = 9 ∨ k = 10 := by omega
    rcases this with rfl | rfl | rfl | rfl | rfl | rfl | rfl | rfl | rfl | rfl | rfl
    · exact px0 _ m e un w h
    · exact px1 _ m e un w h
    · exact px2 _ m e un w h
    · exact px3 un hu m e w h
    · exact px4 _ m e un w h
    · exact px5 _ m e un w h
    · exact px6 _ m e un hm0 hm w h hT hr
    · exact px7 _ m e un hm0 hm w h
    · exact px8 _ m e un w h
    · exact px9 _ m e un hm0 hm w h
    · exact px10 _ m e un w h
theorem qx0 (u m e : Int) (un : Nat) (w : World) (h : K.RD w 110 r a cap L s) : Calls Tryz.prog 23 #[.pointer (some ⟨r, 0, none⟩), .agg #[.int .i64 0, .int .u64 u, .int .i64 m, .int .i64 e]] w (RdX w 110 r a cap L (ans L s 0 un m) (stn L s 0 un m e)) := by
  have ea : ans L s 0 un m = { az with b := (K.rByte L s).1 } := by simp [ans]
  have es : stn L s 0 un m e = (K.rByte L s).2 := by simp [stn]
  rw [ea, es]
  refine (qread_0 (some ⟨r, 0, none⟩) u m e (K.rByte L s).1 w (fun wx w1 => K.On wx w1 110 r a cap L (K.rByte L s).2) (fun wx bx _ => (K.qbyte_any wx (RD_b h bx)).mono fun x w1 k => ⟨k.1, k.2, keep_on' h k.2⟩)).mono ?_
  rintro x w' ⟨rfl, hd⟩
  exact rdx_plain rfl rfl rfl (rdd_on h hd)
theorem qx1 (u m e : Int) (un : Nat) (w : World) (h : K.RD w 110 r a cap L s) : Calls Tryz.prog 23 #[.pointer (some ⟨r, 0, none⟩), .agg #[.int .i64 1, .int .u64 u, .int .i64 m, .int .i64 e]] w (RdX w 110 r a cap L (ans L s 1 un m) (stn L s 1 un m e)) := by
  have ea : ans L s 1 un m = { az with v := (K.rBool L s).1 } := by simp [ans]
  have es : stn L s 1 un m e = (K.rBool L s).2 := by simp [stn]
  rw [ea, es]
  refine (qread_1 (some ⟨r, 0, none⟩) u m e (K.rBool L s).1 w (fun wx w1 => K.On wx w1 110 r a cap L (K.rBool L s).2) (fun wx bx _ => (K.qbool_any wx (RD_b h bx)).mono fun x w1 k => ⟨k.1, k.2, keep_on' h k.2⟩)).mono ?_
  rintro x w' ⟨rfl, hd⟩
  exact rdx_plain rfl rfl rfl (rdd_on h hd)
theorem qx2 (u m e : Int) (un : Nat) (w : World) (h : K.RD w 110 r a cap L s) : Calls Tryz.prog 23 #[.pointer (some ⟨r, 0, none⟩), .agg #[.int .i64 2, .int .u64 u, .int .i64 m, .int .i64 e]] w (RdX w 110 r a cap L (ans L s 2 un m) (stn L s 2 un m e)) := by
  have ea : ans L s 2 un m = { az with u := ((rFix L s).1 : Int) } := by simp [ans]
  have es : stn L s 2 un m e = (rFix L s).2 := by simp [stn]
  rw [ea, es]
  refine (qread_2 (some ⟨r, 0, none⟩) u m e ((rFix L s).1 : Int) (by omega) (by have := fix_lt L s; omega) w (fun wx w1 => K.On wx w1 110 r a cap L (rFix L s).2) (fun wx bx _ => (qfix_any wx (RD_b h bx)).mono fun x w1 k => ⟨k.1, k.2, keep_on' h k.2⟩)).mono ?_
  rintro x w' ⟨rfl, hd⟩
  exact rdx_plain rfl rfl rfl (rdd_on h hd)
theorem qx3 (un : Nat) (hu : un < 18446744073709551616) (m e : Int) (w : World) (h : K.RD w 110 r a cap L s) : Calls Tryz.prog 23 #[.pointer (some ⟨r, 0, none⟩), .agg #[.int .i64 3, .int .u64 (un : Int), .int .i64 m, .int .i64 e]] w (RdX w 110 r a cap L (ans L s 3 un m) (stn L s 3 un m e)) := by
  have ea : ans L s 3 un m = { az with u := ((K.rUint L un s).1 : Int) } := by simp [ans]
  have es : stn L s 3 un m e = (K.rUint L un s).2 := by simp [stn]
  rw [ea, es]
  refine (qread_3 (some ⟨r, 0, none⟩) un m e ((K.rUint L un s).1 : Int) w (fun wx w1 => K.On wx w1 110 r a cap L (K.rUint L un s).2) (fun wx bx _ => (K.quint_any un hu wx (RD_b h bx)).mono fun x w1 k => ⟨k.1, k.2, keep_on' h k.2⟩)).mono ?_
  rintro x w' ⟨rfl, hd⟩
  exact rdx_plain rfl rfl rfl (rdd_on h hd)
theorem qx4 (u m e : Int) (un : Nat) (w : World) (h : K.RD w 110 r a cap L s) : Calls Tryz.prog 23 #[.pointer (some ⟨r, 0, none⟩), .agg #[.int .i64 4, .int .u64 u, .int .i64 m, .int .i64 e]] w (RdX w 110 r a cap L (ans L s 4 un m) (stn L s 4 un m e)) := by
  have ea : ans L s 4 un m = { az with n := (K.rInt L s).1 } := by simp [ans]
  have es : stn L s 4 un m e = (K.rInt L s).2 := by simp [stn]
  rw [ea, es]
  refine (qread_4 (some ⟨r, 0, none⟩) u m e (K.rInt L s).1 w (fun wx w1 => K.On wx w1 110 r a cap L (K.rInt L s).2) (fun wx bx _ => (K.qint_any wx (RD_b h bx)).mono fun x w1 k => ⟨k.1, k.2, keep_on' h k.2⟩)).mono ?_
  rintro x w' ⟨rfl, hd⟩
  exact rdx_plain rfl rfl rfl (rdd_on h hd)
theorem qx5 (u m e : Int) (un : Nat) (w : World) (h : K.RD w 110 r a cap L s) : Calls Tryz.prog 23 #[.pointer (some ⟨r, 0, none⟩), .agg #[.int .i64 5, .int .u64 u, .int .i64 m, .int .i64 e]] w (RdX w 110 r a cap L (ans L s 5 un m) (stn L s 5 un m e)) := by
  have ea : ans L s 5 un m = { az with f := (K.rFloat L s).1 } := by simp [ans]
  have es : stn L s 5 un m e = (K.rFloat L s).2 := by simp [stn]
  rw [ea, es]
  refine (qread_5 (some ⟨r, 0, none⟩) u m e (K.rFloat L s).1 w (fun wx w1 => K.On wx w1 110 r a cap L (K.rFloat L s).2) (fun wx bx _ => (K.qfloat_any wx (RD_b h bx)).mono fun x w1 k => ⟨k.1, k.2, keep_on' h k.2⟩)).mono ?_
  rintro x w' ⟨rfl, hd⟩
  exact rdx_plain rfl rfl rfl (rdd_on h hd)
theorem qx6 (u m e : Int) (un : Nat) (hm0 : -9223372036854775808 ≤ m) (hm : m < 9223372036854775808) (w : World) (h : K.RD w 110 r a cap L s) : Calls Tryz.prog 23 #[.pointer (some ⟨r, 0, none⟩), .agg #[.int .i64 6, .int .u64 u, .int .i64 m, .int .i64 e]] w (RdX w 110 r a cap L (ans L s 6 un m) (stn L s 6 un m e)) := by
  have ea : ans L s 6 un m = { az with s := (K.rTextX L m s).1 } := by simp [ans]
  have es : stn L s 6 un m e = (K.rTextX L m s).2 := by simp [stn]
  rw [ea, es]
  refine (qread_6 (some ⟨r, 0, none⟩) u m e ⟨(K.rTextX L m s).1.toArray⟩ w (fun wx w1 => K.On wx w1 110 r a cap L (K.rTextX L m s).2) (fun wx bx _ => (K.qtext_x m hm0 hm wx (RD_b h bx)).mono fun x w1 k => ⟨k.1, k.2, keep_on' h k.2⟩)).mono ?_
  rintro x w' ⟨rfl, hd⟩
  exact rdx_plain rfl rfl rfl (rdd_on h hd)
theorem qx7 (u m e : Int) (un : Nat) (hm0 : -9223372036854775808 ≤ m) (hm : m < 9223372036854775808) (w : World) (h : K.RD w 110 r a cap L s) : Calls Tryz.prog 23 #[.pointer (some ⟨r, 0, none⟩), .agg #[.int .i64 7, .int .u64 u, .int .i64 m, .int .i64 e]] w (RdX w 110 r a cap L (ans L s 7 un m) (stn L s 7 un m e)) := by
  have ea : ans L s 7 un m = { az with R := (K.rRawX L m s).1 } := by simp [ans]
  have es : stn L s 7 un m e = (K.rRawX L m s).2 := by simp [stn]
  rw [ea, es]
  refine (qread_7 (some ⟨r, 0, none⟩) u m e w (fun v wx w1 => K.OwnB w1 wx.heap.size v (K.rRawX L m s).1 ∧ K.On wx w1 110 r a cap L (K.rRawX L m s).2) (fun wx bx sx => (K.qraw_x m hm0 hm wx (RD_b h bx)).mono fun x w1 k => by
    obtain ⟨v, base, e1, e2, own, on⟩ := k
    obtain ⟨ra, rc, rfl, _, _, _⟩ := own.open
    exact ⟨_, _, _, e1, ⟨K.ownB_base own e2, on⟩, keep_on' h on⟩)).mono ?_
  rintro x w' ⟨a', n', c', rfl, wx, w1, q1, q2, ⟨own, on⟩, q4⟩
  obtain ⟨ra, rc, e, _, _, _⟩ := own.open
  cases e
  refine ⟨_, _, none, 0, rfl, rdd_on h ⟨wx, w1, q1, q2, on, q4⟩, ?_, OwnH.nil _ _⟩
  exact K.ownB_base (fx_own q4 own (by omega)) (by omega)
theorem qx8 (u m e : Int) (un : Nat) (w : World) (h : K.RD w 110 r a cap L s) : Calls Tryz.prog 23 #[.pointer (some ⟨r, 0, none⟩), .agg #[.int .i64 8, .int .u64 u, .int .i64 m, .int .i64 e]] w (RdX w 110 r a cap L (ans L s 8 un m) (stn L s 8 un m e)) := by
  have ea : ans L s 8 un m = { az with h := (rHash L s).1 } := by simp [ans]
  have es : stn L s 8 un m e = (rHash L s).2 := by simp [stn]
  rw [ea, es]
  refine (qread_8 (some ⟨r, 0, none⟩) u m e (rHash L s).1 (hash_l L s) w (fun wx w1 => K.On wx w1 110 r a cap L (rHash L s).2) (fun wx bx _ => (qhash_any wx (RD_b h bx)).mono fun x w1 k => ⟨k.1, k.2, keep_on' h k.2⟩)).mono ?_
  rintro x w' ⟨rfl, hd⟩
  exact rdx_plain rfl rfl rfl (rdd_on h hd)
theorem qx9 (u m e : Int) (un : Nat) (hm0 : -9223372036854775808 ≤ m) (hm : m < 9223372036854775808) (w : World) (h : K.RD w 110 r a cap L s) : Calls Tryz.prog 23 #[.pointer (some ⟨r, 0, none⟩), .agg #[.int .i64 9, .int .u64 u, .int .i64 m, .int .i64 e]] w (RdX w 110 r a cap L (ans L s 9 un m) (stn L s 9 un m e)) := by
  have ea : ans L s 9 un m = { az with D := (rHsX L m s).1 } := by simp [ans]
  have es : stn L s 9 un m e = (rHsX L m s).2 := by simp [stn]
  rw [ea, es]
  refine (qread_9 (some ⟨r, 0, none⟩) u m e w (fun v wx w1 => OwnH w1 wx.heap.size v (rHsX L m s).1 ∧ K.On wx w1 110 r a cap L (rHsX L m s).2) (fun wx bx sx => (qhashes_x m hm0 hm wx (RD_b h bx)).mono fun x w1 k => by
    obtain ⟨v, e1, own, on⟩ := k
    obtain ⟨la, lc, rfl⟩ := own.size
    exact ⟨_, _, _, e1, ⟨own, on⟩, keep_on' h on⟩)).mono ?_
  rintro x w' ⟨a', n', c', rfl, wx, w1, q1, q2, ⟨own, on⟩, q4⟩
  obtain ⟨la, lc, e⟩ := own.size
  cases e
  refine ⟨none, 0, _, _, rfl, rdd_on h ⟨wx, w1, q1, q2, on, q4⟩, K.ownB_nil _ _, ?_⟩
  exact ownH_base (fx_ownH q4 own (by omega)) (by omega)
theorem qx10 (u m e : Int) (un : Nat) (w : World) (h : K.RD w 110 r a cap L s) : Calls Tryz.prog 23 #[.pointer (some ⟨r, 0, none⟩), .agg #[.int .i64 10, .int .u64 u, .int .i64 m, .int .i64 e]] w (RdX w 110 r a cap L (ans L s 10 un m) (stn L s 10 un m e)) := by
  have ea : ans L s 10 un m = az := by simp [ans]
  have es : stn L s 10 un m e = s.fl e m := by simp [stn]
  rw [ea, es]
  refine (qread_10 (some ⟨r, 0, none⟩) u m e w (fun wx w1 => K.On wx w1 110 r a cap L (s.fl e m)) (fun wx bx _ => (K.qfail_any e m wx (RD_b h bx)).mono fun x w1 k => ⟨k.1, k.2, keep_on' h k.2⟩)).mono ?_
  rintro x w' ⟨rfl, hd⟩
  exact rdx_plain rfl rfl rfl (rdd_on h hd)
theorem qxno (kd u m e : Int) (un : Nat) (hk : kd < 0 ∨ 10 < kd) (w : World) (h : K.RD w 110 r a cap L s) : Calls Tryz.prog 23 #[.pointer (some ⟨r, 0, none⟩), .agg #[.int .i64 kd, .int .u64 u, .int .i64 m, .int .i64 e]] w (RdX w 110 r a cap L (ans L s kd un m) (stn L s kd un m e)) := by
  have ea : ans L s kd un m = az := by
    unfold ans
    rw [if_neg (by omega), if_neg (by omega), if_neg (by omega), if_neg (by omega), if_neg (by omega), if_neg (by omega), if_neg (by omega), if_neg (by omega), if_neg (by omega), if_neg (by omega)]
  have es : stn L s kd un m e = s := by
    unfold stn
    rw [if_neg (by omega), if_neg (by omega), if_neg (by omega), if_neg (by omega), if_neg (by omega), if_neg (by omega), if_neg (by omega), if_neg (by omega), if_neg (by omega), if_neg (by omega), if_neg (by omega)]
  rw [ea, es]
  refine (qread_no (some ⟨r, 0, none⟩) kd u m e hk w).mono ?_
  rintro x w' ⟨rfl, wx, w1, q1, q2, q3, q4⟩
  exact rdx_plain rfl rfl rfl (rdd_on h ⟨wx, w1, q1, q2, by rw [q3]; exact (RD_b h q1).on, q4⟩)
/-- A read of whatever kind. -/
theorem qx_all (k u m e : Int) (un : Nat) (hun : u = (un : Int)) (hu : un < 18446744073709551616) (hm0 : -9223372036854775808 ≤ m) (hm : m < 9223372036854775808) (w : World) (h : K.RD w 110 r a cap L s) : Calls Tryz.prog 23 #[.pointer (some ⟨r, 0, none⟩), .agg #[.int .i64 k, .int .u64 u, .int .i64 m, .int .i64 e]] w (RdX w 110 r a cap L (ans L s k un m) (stn L s k un m e)) := by
  subst hun
  by_cases hk : k < 0 ∨ 10 < k
  · exact qxno k _ m e un hk w h
  · have : k = 0 ∨ k = 1 ∨ k = 2 ∨ k = 3 ∨ k = 4 ∨ k = 5 ∨ k = 6 ∨ k = 7 ∨ k = 8 ∨ k = 9 ∨ k = 10 := by omega
    rcases this with rfl | rfl | rfl | rfl | rfl | rfl | rfl | rfl | rfl | rfl | rfl
    · exact qx0 _ m e un w h
    · exact qx1 _ m e un w h
    · exact qx2 _ m e un w h
    · exact qx3 un hu m e w h
    · exact qx4 _ m e un w h
    · exact qx5 _ m e un w h
    · exact qx6 _ m e un hm0 hm w h
    · exact qx7 _ m e un hm0 hm w h
    · exact qx8 _ m e un w h
    · exact qx9 _ m e un hm0 hm w h
    · exact qx10 _ m e un w h
end Go.Proofs.YtdnocpngdepbgaaGreatDoor

namespace Go.Proofs.YtdnocpngdepbgaaGreatDoor
open Go.RowKit
set_option linter.unusedVariables false
set_option linter.unusedSimpArgs false

/-- A Reader that comes out as it was. -/
theorem on_same {w w' : World} {T : TypeId} {r cap : Nat} {a : Option Addr} {L : List UInt8} {s : K.St} (h : K.RD w T r a cap L s) (on : K.On w w' T r a cap L s) : Below w.heap.size w w' :=
  ⟨on.2.os, on.2.tape, on.2.output, on.2.size, fun k hk => by
    by_cases e : k = r
    · subst e; rw [on.1.row, h.row]
    · exact on.2.block k hk e⟩
/-- A state: its place is told by a fault alone. -/
def okS (s : K.St) : Prop := s.bad = 0 → s.wh = 0
theorem done_eq {L : List UInt8} {s : K.St} (h : okS s) : K.doneE L s = (if s.bad = 0 ∧ s.k < L.length then 22 else s.bad) ∧ K.doneP L s = (if s.bad = 0 ∧ s.k < L.length then (s.k : Int) else s.wh) := by
  unfold K.doneE K.doneP
  by_cases hb : s.bad = 0
  · have hw := h hb
    by_cases hk : s.k < L.length
    · rw [if_pos hb, if_pos hk, if_pos ⟨hb, hk⟩, if_pos hb, if_pos hk, if_pos ⟨hb, hk⟩]
      exact ⟨rfl, rfl⟩
    · rw [if_pos hb, if_neg hk, if_neg (fun h => hk h.2), if_pos hb, if_neg hk, if_neg (fun h => hk h.2), hb, hw]
      exact ⟨rfl, rfl⟩
  · rw [if_neg hb, if_neg (fun h => hb h.1), if_neg hb, if_neg (fun h => hb h.1)]
    exact ⟨rfl, rfl⟩
set_option maxRecDepth 100000 in
set_option maxHeartbeats 2000000 in
theorem stands_any (r1 r2 : Nat) (a1 a2 : Option Addr) (c1 c2 : Nat) (L : List UInt8) (s : K.St) (w : World) (h1 : K.RD w 108 r1 a1 c1 L s) (h2 : K.RD w 110 r2 a2 c2 L s) (hs : okS s) :
    Calls Tryz.prog 24 #[.pointer (some ⟨r1, 0, none⟩), .pointer (some ⟨r2, 0, none⟩)] w fun e w' => e = .returned (.bool true) ∧ Below w.heap.size w w' := by
  obtain ⟨d1, d2⟩ := done_eq (L := L) hs
  have DR : Hid (∀ wx w' m, Below w.heap.size w wx → w' = wx.drewN m → Below w.heap.size w w') := fun wx w' m b e => by rw [e]; exact below_drewN b m
  have FP : Hid (∀ wx, Below w.heap.size w wx → Calls Tryz.prog 95 #[.pointer (some ⟨r1, 0, none⟩)] wx fun e w' => e = .returned (.tuple #[.int .i64 s.bad, .int .i64 s.wh]) ∧ Below w.heap.size w w') := fun wx b => (K.fault_any wx (RD_b h1 b)).mono fun e w' ⟨k, m, q⟩ => ⟨k, DR.out wx w' m b q⟩
  have FQ : Hid (∀ wx, Below w.heap.size w wx → Calls Tryz.prog 96 #[.pointer (some ⟨r2, 0, none⟩)] wx fun e w' => e = .returned (.tuple #[.int .i64 s.bad, .int .i64 s.wh]) ∧ Below w.heap.size w w') := fun wx b => (K.qfault_any wx (RD_b h2 b)).mono fun e w' ⟨k, m, q⟩ => ⟨k, DR.out wx w' m b q⟩
  have DP : Hid (∀ wx, Below w.heap.size w wx → Calls Tryz.prog 34 #[.pointer (some ⟨r1, 0, none⟩)] wx fun e w' => e = .returned (.tuple #[.int .i64 (K.doneE L s), .int .i64 (K.doneP L s)]) ∧ Below w.heap.size w w') := fun wx b => (K.rdone_any wx (RD_b h1 b)).mono fun e w' ⟨k, m, q⟩ => ⟨k, DR.out wx w' m b q⟩
  have DQ : Hid (∀ wx, Below w.heap.size w wx → Calls Tryz.prog 97 #[.pointer (some ⟨r2, 0, none⟩)] wx fun e w' => e = .returned (.tuple #[.int .i64 (K.doneE L s), .int .i64 (K.doneP L s)]) ∧ Below w.heap.size w w') := fun wx b => (K.qdone_any wx (RD_b h2 b)).mono fun e w' k => ⟨by rw [k.1, d1, d2], b.trans ((on_same (RD_b h2 b) k.2).mono b.size)⟩
  have AP : Hid (∀ wx, Below w.heap.size w wx → Calls Tryz.prog 35 #[.pointer (some ⟨r1, 0, none⟩)] wx fun e w' => e = .returned (.int .i64 (s.k : Int)) ∧ Below w.heap.size w w') := fun wx b => (K.rat_any wx (RD_b h1 b)).mono fun e w' k => ⟨k.1, by rw [k.2]; exact b⟩
  have AQ : Hid (∀ wx, Below w.heap.size w wx → Calls Tryz.prog 98 #[.pointer (some ⟨r2, 0, none⟩)] wx fun e w' => e = .returned (.int .i64 (s.k : Int)) ∧ Below w.heap.size w w') := fun wx b => (K.qat_any wx (RD_b h2 b)).mono fun e w' k => ⟨k.1, by rw [k.2]; exact b⟩
  have LP : Hid (∀ wx, Below w.heap.size w wx → Calls Tryz.prog 99 #[.pointer (some ⟨r1, 0, none⟩)] wx fun e w' => e = .returned (.int .i64 ((L.length : Int) - (s.k : Int))) ∧ Below w.heap.size w w') := fun wx b => (K.rleft_any wx (RD_b h1 b)).mono fun e w' ⟨k, m, q⟩ => ⟨k, DR.out wx w' m b q⟩
  have LQ : Hid (∀ wx, Below w.heap.size w wx → Calls Tryz.prog 100 #[.pointer (some ⟨r2, 0, none⟩)] wx fun e w' => e = .returned (.int .i64 ((L.length : Int) - (s.k : Int))) ∧ Below w.heap.size w w') := fun wx b => (qleft_any wx (RD_b h2 b)).mono fun e w' ⟨k, m, q⟩ => ⟨k, DR.out wx w' m b q⟩
  clear h1 h2 hs d1 d2 DR
  generalize K.doneE L s = E at *
  generalize K.doneP L s = P at *
  generalize s.bad = B at *
  generalize s.wh = V at *
  generalize (L.length : Int) - (s.k : Int) = F at *
  generalize (s.k : Int) = A at *
  go_enter Tryz.func24, Tryz.ntmps24
  go_wp2_with fail
  refine (FP.out _ (Below.refl _ _)).mono ?_
  rintro e w1 ⟨rfl, b1⟩
  go_wp2_with fail
  refine (FQ.out _ b1).mono ?_
  rintro e w2 ⟨rfl, b2⟩
  go_wp2_with fail
  refine (DP.out _ b2).mono ?_
  rintro e w3 ⟨rfl, b3⟩
  go_wp2_with fail
  refine (DQ.out _ b3).mono ?_
  rintro e w4 ⟨rfl, b4⟩
  go_wp2_with fail
  refine (AP.out _ b4).mono ?_
  rintro e w5 ⟨rfl, b5⟩
  go_wp2_with fail
  refine (AQ.out _ b5).mono ?_
  rintro e w6 ⟨rfl, b6⟩
  go_wp2_with fail
  refine (LP.out _ b6).mono ?_
  rintro e w7 ⟨rfl, b7⟩
  go_wp2_with fail
  refine (LQ.out _ b7).mono ?_
  rintro e w8 ⟨rfl, b8⟩
  go_wp2
  go_ret
  exact ⟨by simp, b8⟩
/-- The next state is told so, too. -/
theorem stn_ok {L : List UInt8} {s : K.St} (h : okS s) (kd : Int) (u : Nat) (m e : Int) : okS (stn L s kd u m e) := by
  have hz : ∀ (k : Nat) (b p : Int), b ≠ 0 → okS ⟨k, b, p⟩ := fun k b p hb e => absurd e hb
  have hk : ∀ (k : Nat), okS ⟨k, s.bad, s.wh⟩ := fun k => h
  have hno : okS (K.sNo L m s) := by
    unfold K.sNo
    repeat' split
    · exact hz _ _ _ (by decide)
    · exact hz _ _ _ (by decide)
    · rename_i hw; exact hz _ _ _ hw
  have hui : ∀ most, okS (K.rUint L most s).2 := fun most => by
    unfold K.rUint
    repeat' split
    all_goals first | exact hk _ | exact h | exact hz _ _ _ (by decide) | (rename_i hw; exact hz _ _ _ hw)
  unfold stn
  repeat' split
  · unfold K.rByte
    repeat' split
    all_goals first | exact hk _ | exact h | exact hz _ _ _ (by decide)
  · unfold K.rBool
    repeat' split
    all_goals first | exact hk _ | exact h | exact hz _ _ _ (by decide)
  · unfold rFix
    repeat' split
    all_goals first | exact hk _ | exact h | exact hz _ _ _ (by decide)
  · exact hui u
  · exact hui _
  · unfold K.rFloat
    repeat' split
    all_goals first | exact hk _ | exact h | exact hz _ _ _ (by decide)
  · unfold K.rTextX
    repeat' split
    all_goals first | exact hk _ | exact h | exact hno | exact hz _ _ _ (by decide)
  · unfold K.rRawX
    repeat' split
    all_goals first | exact hk _ | exact h | exact hno | exact hz _ _ _ (by decide)
  · unfold rHash
    repeat' split
    all_goals first | exact hk _ | exact h | exact hz _ _ _ (by decide)
  · unfold rHsX
    repeat' split
    all_goals first | exact hk _ | exact h | exact hno | exact hz _ _ _ (by decide)
  · unfold K.St.fl
    repeat' split
    · exact h
    · rename_i hw; exact hz _ _ _ hw
    · exact h
  · exact h
/-- What a read answers is of its kind, and no greater than what came in. -/
structure AnsOk (A : Ans) (n : Nat) : Prop where
  h : A.h.length = 32
  R : A.R.length ≤ n
  d : All32 A.D
  D : A.D.length * 32 ≤ n
  f : K.finB A.f = true
  f64 : A.f < 18446744073709551616
theorem az_ok (n : Nat) : AnsOk az n := ⟨z32_len, (by show 0 ≤ _; omega), (fun x h => by cases h), (by show 0 * 32 ≤ _; omega), finB0, (by show 0 < _; decide)⟩
theorem ans_ok (L : List UInt8) (s : K.St) (kd : Int) (u : Nat) (m : Int) : AnsOk (ans L s kd u m) L.length := by
  obtain ⟨z1, z2, z3, z4, z5, z6⟩ := az_ok L.length
  unfold ans
  repeat' split
  · exact ⟨z1, z2, z3, z4, z5, z6⟩
  · exact ⟨z1, z2, z3, z4, z5, z6⟩
  · exact ⟨z1, z2, z3, z4, z5, z6⟩
  · exact ⟨z1, z2, z3, z4, z5, z6⟩
  · exact ⟨z1, z2, z3, z4, z5, z6⟩
  · refine ⟨z1, z2, z3, z4, ?_, ?_⟩
    · show K.finB (K.rFloat L s).1 = true
      unfold K.rFloat
      repeat' split
      all_goals first | assumption | exact finB0
    · show (K.rFloat L s).1 < _
      have := K.be_lt L s.k 8
      have e4 : (256 : Nat) ^ 8 = 18446744073709551616 := by decide
      rw [e4] at this
      unfold K.rFloat
      repeat' split
      all_goals (simp only []; omega)
  · exact ⟨z1, z2, z3, z4, z5, z6⟩
  · refine ⟨z1, ?_, z3, z4, z5, z6⟩
    show (K.rRawX L m s).1.length ≤ L.length
    unfold K.rRawX
    repeat' split
    · show (K.cut _ _ _).length ≤ _
      unfold K.cut
      rw [List.length_take, List.length_drop]
      omega
    · show 0 ≤ _; omega
    · show 0 ≤ _; omega
  · exact ⟨hash_l L s, z2, z3, z4, z5, z6⟩
  · refine ⟨z1, z2, ?_, ?_, z5, z6⟩
    · show All32 (rHsX L m s).1
      unfold rHsX
      repeat' split
      · rename_i hf _; exact dch_32 _ _ _ hf.2.2.2
      all_goals exact z3
    · show (rHsX L m s).1.length * 32 ≤ L.length
      unfold rHsX
      repeat' split
      · rename_i hf _
        show (dch _ _ _).length * 32 ≤ _
        rw [dch_len]
        have := hf.2.2.2
        omega
      all_goals exact z4
  · exact ⟨z1, z2, z3, z4, z5, z6⟩
/-- Two floats of one read are the same. -/
theorem sameF (f : Nat) (hf : K.finB f = true) (hlt : f < 18446744073709551616) : Hid (∀ wx, Calls Tryz.prog 82 #[K.VV 0 0 f ⟨#[]⟩, K.VV 0 0 f ⟨#[]⟩] wx fun e w' => e = .returned (.bool true) ∧ Below wx.heap.size wx w') := fun wx => by
  by_cases h0 : f = 0
  · subst h0
    exact sameV0 wx
  · unfold K.finB K.finN at hf
    simp only [Bool.and_eq_true, decide_eq_true_eq] at hf
    have hff : K.ffin f := by unfold K.ffin; omega
    by_cases hz : f % 9223372036854775808 = 0
    · omega
    · have z3 : (FloatKind.f64.format.order f 0 == some .eq) = false := by
        have : (FloatKind.f64.format.order f 0 != some .eq) = true := K.ford_zero f hff hz
        simpa [bne] using this
      have z1 : (FloatKind.f64.format.order f f == some .eq) = true := by
        have : FloatKind.f64.format.order f f = some .eq := K.ford_self f hff
        rw [this]; rfl
      exact sameVn f z1 z3 wx
end Go.Proofs.YtdnocpngdepbgaaGreatDoor

namespace Go.Proofs.YtdnocpngdepbgaaGreatDoor
open Go.RowKit
set_option linter.unusedVariables false
set_option linter.unusedSimpArgs false

/-- All blocks but one are as they were. -/
structure Fo (g : Nat) (w w' : World) : Prop where
  os : w'.os = w.os
  tape : w'.tape = w.tape
  output : w'.output = w.output
  size : w.heap.size ≤ w'.heap.size
  block : ∀ k, k ≠ g → k < w.heap.size → w'.heap[k]? = w.heap[k]?
theorem Fo.refl (g : Nat) (w : World) : Fo g w w := ⟨rfl, rfl, rfl, Nat.le_refl _, fun _ _ _ => rfl⟩
theorem Fo.drew {g : Nat} {w w' : World} (h : Fo g w w') (m : Nat) : Fo g w (w'.drewN m) := ⟨h.os, h.tape, h.output, h.size, h.block⟩
theorem Fo.cell {g : Nat} {w w' : World} (h : Fo g w w') (i : Nat) (v : Value) : Fo g w (w'.setCell ⟨g, i, none⟩ v) := ⟨h.os, h.tape, h.output, by rw [World.size_setCell]; exact h.size, fun k h1 h2 => (Below.heap_setCell _ _ _ _ h1).trans (h.block k h1 h2)⟩
theorem Fo.cells {g : Nat} {w w' : World} (h : Fo g w w') (o : Nat) (vs : List Value) : Fo g w (w'.setCells g o vs) := by
  induction vs generalizing w' o with
  | nil => exact h
  | cons v r ih => exact ih (h.cell o v) (o + 1)
/-- What stands behind a write of a list. -/
def Wee (w : World) (Post : World → World → Prop) (w' : World) : Prop := ∃ wx w1, Below w.heap.size w wx ∧ w.heap.size + 1 < wx.heap.size ∧ Post wx w1 ∧ Fo (w.heap.size + 1) w1 w'
/-- A row of n bytes. -/
def Byr (w : World) (g n : Nat) : Prop := ∃ C : Array Value, w.heap[g]? = some (.cells C 5 (0, 0)) ∧ ∀ j, j < n → ∃ q : Int, C[j]? = some (.int .u8 q)
theorem Byr.set {w : World} {g n : Nat} (h : Byr w g n) (k : Nat) (q : Int) : Byr (w.setCell ⟨g, k, none⟩ (.int .u8 q)) g n := by
  obtain ⟨C, h1, h2⟩ := h
  refine ⟨_, heap_setCell_same w g k _ 5 _ h1, fun j hj => ?_⟩
  by_cases e : k = j
  · subst e
    obtain ⟨q0, hq⟩ := h2 k hj
    have hk : k < C.size := (Array.getElem?_eq_some_iff.1 hq).1
    exact ⟨q, by simp [hk]⟩
  · rw [Array.getElem?_setIfInBounds_ne e]
    exact h2 j hj

set_option maxRecDepth 100000 in
set_option maxHeartbeats 2000000 in
theorem write_7 (ptr : Option Addr) (o : OpV) (hh : o.h.length = 32) (R : List UInt8) (hR : R.length = o.rn) (hn : o.rn ≤ 140737488351232) (w : World) (hb : K.Byt w o.ra R) (Post : World → World → Prop)
    (H : ∀ wx, Below w.heap.size w wx → w.heap.size + 1 < wx.heap.size → wx.heap[w.heap.size + 1]? = some (.cells (bs (R ++ K.marks)) 5 (0, 0)) → Calls Tryz.prog 38 #[.pointer ptr, .slice (some ⟨w.heap.size + 1, 0, none⟩) o.rn (o.rn + 9)] wx fun x w1 => x = .returned (.tuple #[]) ∧ Post wx w1 ∧ Keeps w.heap.size wx w1 ∧ K.Byt w1 o.ra R) :
    Calls Tryz.prog 6 #[.pointer ptr, .agg (o.c 7)] w fun x w' => x = .returned (.bool true) ∧ Wee w Post w' := by
  obtain ⟨wx, hwx, bx, sx, ⟨r0, r1, r2, r3, r4, r5, r6, r7, rh, r40, r41⟩⟩ := op_block o hh 7 w
  have HH : Hid (Calls Tryz.prog 17 #[.slice o.ra o.rn o.rc] wx fun e w' => e = .returned (.slice (some ⟨w.heap.size + 1, 0, none⟩) o.rn (o.rn + 9)) ∧ w'.heap[w.heap.size + 1]? = some (.cells (bs (R ++ K.marks)) 5 (0, 0)) ∧ Below w.heap.size w w' ∧ Below wx.heap.size wx w') := by
    have := K.hand_any o.ra R o.rc wx (K.byt_below hb bx) (by omega)
    rw [hR, sx] at this
    exact this.mono fun e w' h => ⟨h.1, h.2.1, bx.trans (h.2.2.mono (by omega)), by rw [sx]; exact h.2.2⟩
  have HC := K.Hid.mk' H
  have SX := K.Hid.mk' sx
  have HB := K.Hid.mk' hb
  have HR := K.Hid.mk' hR
  have R7 := K.Hid.mk' r7
  have E0 : Hid (w.heap.size < wx.heap.size) := by show _ < _; omega
  clear H bx sx hb hR r1 r2 r3 r4 r5 r6 rh r40 r41
  generalize o.c 7 = C at *
  go_enter Tryz.func6, Tryz.ntmps6
  go_upto_region 1 with fail
  rw [← hwx]
  clear hwx
  go_wp2_with fail
  refine HH.out.mono ?_
  rintro x w1 ⟨rfl, g1, b1, bx1⟩
  have hlt1 : w.heap.size + 1 < w1.heap.size := (Array.getElem?_eq_some_iff.1 g1).1
  have HC1 := K.Hid.mk' (HC.out w1 b1 hlt1 g1)
  have G1 := K.Hid.mk' g1
  have B1 := K.Hid.mk' b1
  have R71 : Hid (w1.cell? ⟨w.heap.size, 7, none⟩ = some (.slice o.ra o.rn o.rc)) := by show _ = _; rw [bx1.cell (p := ⟨w.heap.size, 7, none⟩) E0.out]; exact R7.out
  clear HC HH g1 b1 bx1 r0 r7
  go_wp2_with fail
  refine HC1.out.mono ?_
  rintro x w2 ⟨rfl, hp, hk, hby⟩
  have hlt2 : w.heap.size + 1 < w2.heap.size := by have := hk.size; omega
  have r72 : w2.cell? ⟨w.heap.size, 7, none⟩ = some (.slice o.ra o.rn o.rc) := cell_block (hk.block _ (Nat.le_refl _) (by omega)) R71.out
  have g2 : w2.heap[w.heap.size + 1]? = some (.cells (bs (R ++ K.marks)) 5 (0, 0)) := by rw [hk.block _ (by omega) hlt1]; exact G1.out
  have HP := K.Hid.mk' hp
  have HK : Hid (Calls Tryz.prog 20 #[.slice (some ⟨w.heap.size + 1, 0, none⟩) o.rn (o.rn + 9), .slice o.ra o.rn o.rc] w2 fun e w' => e = .returned (.bool true) ∧ ∃ m, w' = w2.drewN m) := by
    have := K.kept_any (w.heap.size + 1) o.ra R o.rc w2 g2 hby (by rw [HR.out]; exact hn)
    rw [HR.out] at this
    exact this
  have Y2 : Hid (Byr w2 (w.heap.size + 1) (o.rn + 9)) := ⟨_, g2, fun j hj => ⟨_, bs_get _ j (by simp [K.marks, HR.out]; omega)⟩⟩
  clear hp hk hby g2 HC1 G1
  go_wp2_with fail
  refine HK.out.mono ?_
  rintro x w3 ⟨rfl, m3, hm3⟩
  have Y3 : Hid (Byr w3 (w.heap.size + 1) (o.rn + 9)) := by rw [hm3]; exact Y2.out
  have F3 : Hid (Fo (w.heap.size + 1) w2 w3) := by rw [hm3]; exact (Fo.refl _ _).drew _
  clear hm3 HK Y2 r72 R7 R71 HB
  generalize o.rn = n at *
  go_wp2
  go_loopw [7] (fun i wr => ∃ k : Nat, k ≤ n ∧ i = .int .i64 k ∧ Hid (Byr wr (w.heap.size + 1) (n + 9)) ∧ Hid (Fo (w.heap.size + 1) w2 wr)) (fun i _ => n - (intOf i).toNat)
  case atStart => exact ⟨0, Nat.zero_le _, rfl, Y3, F3⟩
  case round =>
    obtain ⟨k, hk, rfl, HY, HF⟩ := hrel
    by_cases hkn : k < n
    · obtain ⟨C, hg, hcs⟩ := HY.out
      obtain ⟨q, hq⟩ := hcs k (by omega)
      have hc := (cell_of_row wr (w.heap.size + 1) k _ _ _ hg).trans hq
      have hf := frozen_of_row wr (w.heap.size + 1) k _ _ hg
      have YS : Hid (∀ v : Int, Byr (wr.setCell ⟨w.heap.size + 1, k, none⟩ (.int .u8 v)) (w.heap.size + 1) (n + 9)) := fun v => HY.out.set k v
      have FS : Hid (∀ v : Value, Fo (w.heap.size + 1) w2 (wr.setCell ⟨w.heap.size + 1, k, none⟩ v)) := fun v => HF.out.cell k v
      clear hcs hg hq
      go_wp2
      go_roundw
      case rel => exact ⟨k + 1, by omega, by go_num, YS.out _, FS.out _⟩
      case measure => simp [intOf]; omega
    · obtain rfl : k = n := by omega
      go_wp2
      go_ret
      exact ⟨rfl, w1, w2, B1.out, hlt1, HP.out, HF.out⟩

theorem built7 : Tryz.prog.built 36 [(0, .int .u8 7)] = some (bs (7 :: List.replicate 31 0)) := by kernel_rfl

set_option maxRecDepth 100000 in
set_option maxHeartbeats 2000000 in
theorem write_9 (ptr : Option Addr) (o : OpV) (hh : o.h.length = 32) (L : List (List UInt8)) (hL32 : All32 L) (hL : L.length = o.ln) (hn : o.ln ≤ 4398046510976) (w : World) (hb : Hl w o.la L) (Post : World → World → Prop)
    (H : ∀ wx, Below w.heap.size w wx → w.heap.size + 1 < wx.heap.size → Hs wx (w.heap.size + 1) 0 L → Calls Tryz.prog 41 #[.pointer ptr, .slice (some ⟨w.heap.size + 1, 0, none⟩) o.ln (o.ln + 9)] wx fun x w1 => x = .returned (.tuple #[]) ∧ Post wx w1 ∧ Keeps w.heap.size wx w1 ∧ Hl w1 o.la L) :
    Calls Tryz.prog 6 #[.pointer ptr, .agg (o.c 9)] w fun x w' => x = .returned (.bool true) ∧ Wee w Post w' := by
  obtain ⟨wx, hwx, bx, sx, ⟨r0, r1, r2, r3, r4, r5, r6, r7, rh, r40, r41⟩⟩ := op_block o hh 9 w
  have HH : Hid (Calls Tryz.prog 40 #[.slice o.la o.ln o.lc] wx fun e w' => e = .returned (.slice (some ⟨w.heap.size + 1, 0, none⟩) o.ln (o.ln + 9)) ∧ Hs w' (w.heap.size + 1) 0 (L ++ marks) ∧ w'.there (w.heap.size + 1) 0 (32 * (o.ln + 9)) ∧ w.heap.size + 1 < w'.heap.size ∧ Below w.heap.size w w' ∧ Below wx.heap.size wx w') := by
    have := handH_any o.la L o.lc wx hL32 (by omega) (hb.below hL32 bx)
    rw [hL, sx] at this
    exact this.mono fun e w' h => ⟨h.1, h.2.2.2.1, h.2.2.2.2, h.2.2.1, bx.trans (h.2.1.mono (by omega)), by rw [sx]; exact h.2.1⟩
  have HC := K.Hid.mk' H
  have SX := K.Hid.mk' sx
  have HLL := K.Hid.mk' hL
  have R40 := K.Hid.mk' r40
  have E0 : Hid (w.heap.size < wx.heap.size) := by show _ < _; omega
  clear H bx sx hb hL r1 r2 r3 r4 r5 r6 r7 rh r41
  generalize o.c 9 = C at *
  go_enter Tryz.func6, Tryz.ntmps6
  go_upto_region 1 with fail
  rw [← hwx]
  clear hwx
  go_wp2_with fail
  refine HH.out.mono ?_
  rintro x w1 ⟨rfl, g1, t1, hlt1, b1, bx1⟩
  have HC1 := K.Hid.mk' (HC.out w1 b1 hlt1 (hs_app g1))
  have G1 := K.Hid.mk' g1
  have T1 := K.Hid.mk' t1
  have B1 := K.Hid.mk' b1
  have R41 : Hid (w1.cell? ⟨w.heap.size, 40, none⟩ = some (.slice o.la o.ln o.lc)) := by show _ = _; rw [bx1.cell (p := ⟨w.heap.size, 40, none⟩) E0.out]; exact R40.out
  clear HC HH g1 t1 b1 bx1 r0 r40
  go_wp2_with fail
  refine HC1.out.mono ?_
  rintro x w2 ⟨rfl, hp, hk, hby⟩
  have hlt2 : w.heap.size + 1 < w2.heap.size := by have := hk.size; omega
  have r42 : w2.cell? ⟨w.heap.size, 40, none⟩ = some (.slice o.la o.ln o.lc) := cell_block (hk.block _ (Nat.le_refl _) (by omega)) R41.out
  have eb : w2.heap[w.heap.size + 1]? = w1.heap[w.heap.size + 1]? := hk.block _ (by omega) hlt1
  have g2 : Hs w2 (w.heap.size + 1) 0 (L ++ marks) := fun i x hx j v hv => cell_block eb (G1.out i x hx j v hv)
  have T2 : Hid (w2.there (w.heap.size + 1) 0 (32 * (o.ln + 9))) := (fun j hj => by
    have h1 := T1.out j hj
    have e1 : w2.cell? ⟨w.heap.size + 1, 0 + j, none⟩ = w1.cell? ⟨w.heap.size + 1, 0 + j, none⟩ := World.cell?_of_block eb
    have e2 : w2.frozen? ⟨w.heap.size + 1, 0 + j, none⟩ = w1.frozen? ⟨w.heap.size + 1, 0 + j, none⟩ := by unfold World.frozen?; rw [eb]
    rw [e1, e2]; exact h1 : w2.there (w.heap.size + 1) 0 (32 * (o.ln + 9)))
  have HP := K.Hid.mk' hp
  have HK : Hid (Calls Tryz.prog 42 #[.slice (some ⟨w.heap.size + 1, 0, none⟩) o.ln (o.ln + 9), .slice o.la o.ln o.lc] w2 fun e w' => e = .returned (.bool true) ∧ ∃ m, w' = w2.drewN m) := by
    have := keptH_any (w.heap.size + 1) o.la L o.lc w2 hL32 (by rw [HLL.out]; omega) g2 hby
    rw [HLL.out] at this
    exact this
  clear hp hk hby g2 HC1 G1 eb T1
  go_wp2_with fail
  refine HK.out.mono ?_
  rintro x w3 ⟨rfl, m3, hm3⟩
  have T3 : Hid (w3.there (w.heap.size + 1) 0 (32 * (o.ln + 9))) := by rw [hm3]; exact T2.out
  have F3 : Hid (Fo (w.heap.size + 1) w2 w3) := by rw [hm3]; exact (Fo.refl _ _).drew _
  clear hm3 HK T2 r42 R40 R41
  generalize o.ln = n at *
  have hbu := built7
  have h7 : (7 :: List.replicate 31 0 : List UInt8).length = 32 := rfl
  generalize (7 :: List.replicate 31 0 : List UInt8) = x7 at *
  have H7 := K.Hid.mk' h7
  clear h7
  go_wp2
  go_loopw [10] (fun i wr => ∃ k : Nat, k ≤ n ∧ i = .int .i64 k ∧ Hid (wr.there (w.heap.size + 1) 0 (32 * (n + 9))) ∧ Hid (Fo (w.heap.size + 1) w2 wr)) (fun i _ => n - (intOf i).toNat)
  case atStart => exact ⟨0, Nat.zero_le _, rfl, T3, F3⟩
  case round =>
    obtain ⟨k, hk, rfl, HT, HF⟩ := hrel
    by_cases hkn : k < n
    · have HTH : Hid (wr.there (w.heap.size + 1) (32 * k) 32) := (by have := there_part (m := 32) (i := 32 * k) HT.out (by omega); rwa [Nat.zero_add] at this : wr.there (w.heap.size + 1) (32 * k) 32)
      have ix := fun wx => indexH (w.heap.size + 1) 0 n (n + 9) k wx hkn
      simp only [Nat.zero_add] at ix
      have TS : Hid ((wr.setCells (w.heap.size + 1) (32 * k) (hcs x7)).there (w.heap.size + 1) 0 (32 * (n + 9))) := World.there_setCells HT.out _ _ _
      have FS : Hid (Fo (w.heap.size + 1) w2 (wr.setCells (w.heap.size + 1) (32 * k) (hcs x7))) := HF.out.cells _ _
      go_wp2_with (first
        | (refine wpList_build_is rfl 36 _ rfl [(0, .int .u8 7)] (by first | kernel_rfl | simp) (bs x7) hbu ?_)
        | (refine wpList_store_mid rfl 36 _ _ rfl (w.heap.size + 1) (32 * k) (bs x7) rfl rfl (by rw [bs_size, H7.out]; exact HTH.out) (by rw [bs_size, H7.out]; exact hsH) (bs_one _) ?_)
        | fail)
      go_roundw
      case rel => exact ⟨k + 1, by omega, by go_num, TS, FS⟩
      case measure => simp [intOf]; omega
    · obtain rfl : k = n := by omega
      go_wp2
      go_ret
      exact ⟨rfl, w1, w2, B1.out, hlt1, HP.out, HF.out⟩
end Go.Proofs.YtdnocpngdepbgaaGreatDoor

namespace Go.Proofs.YtdnocpngdepbgaaGreatDoor
open Go.RowKit
set_option linter.unusedVariables false
set_option linter.unusedSimpArgs false

set_option maxRecDepth 100000 in
set_option maxHeartbeats 1000000 in
theorem nhash (h : List UInt8) (hl : h.length = 32) (w : World) :
    Calls Tryz.prog 39 #[.pointer none, .agg (bs h)] w fun x w' => x = .returned (.tuple #[]) ∧ Below w.heap.size w w' := by
  have be : Below w.heap.size w (w.alloc (.cells (bs h) 36)) := (Below.refl _ _).alloc (Nat.le_refl _) _
  go_enter Tryz.func39, Tryz.ntmps39
  go_wp2_with fail
  refine (K.nadd _ _ _ _).mono ?_
  rintro x w1 ⟨rfl, h1⟩
  have be : Below w.heap.size w w1 := by rw [h1]; exact be
  clear h1
  go_wp2
  go_end0
  exact ⟨rfl, be⟩

set_option maxRecDepth 100000 in
set_option maxHeartbeats 2000000 in
theorem nhashes (a : Addr) (L : List (List UInt8)) (cap : Nat) (w : World) (hL : All32 L) (hb : L.length ≤ 4398046510976) (hl : Hl w (some a) L) :
    Calls Tryz.prog 41 #[.pointer none, .slice (some a) L.length cap] w fun x w' => x = .returned (.tuple #[]) ∧ Below w.heap.size w w' := by
  have HC : Hid (Calls Tryz.prog 114 #[.slice (some a) L.length cap] w fun e w' => ∃ g cap', e = .returned (.slice (some ⟨g, 0, none⟩) L.length cap') ∧ OwnH w' w.heap.size (.slice (some ⟨g, 0, none⟩) L.length cap') L ∧ Below w.heap.size w w') := cloneH_any a L cap w hL (by omega) hl
  obtain ⟨n, hn⟩ : ∃ n, n = L.length := ⟨_, rfl⟩
  rw [← hn] at hb HC ⊢
  have HN : Hid (n = L.length) := hn
  clear hn hl
  go_enter Tryz.func41, Tryz.ntmps41
  go_wp2_with fail
  refine HC.out.mono ?_
  rintro e w1 ⟨q, cap', rfl, own1, be1⟩
  clear HC
  obtain ⟨hqB, hq1, hs1, ht1, hcap⟩ : w.heap.size ≤ q ∧ q < w1.heap.size ∧ Hs w1 q 0 L ∧ w1.there q 0 (32 * L.length) ∧ L.length ≤ cap' := by
    rcases own1.open with ⟨h1, _⟩ | ⟨g', c', h1, h6, h2, h3, h4, h5⟩
    · cases h1
    · cases h1; exact ⟨h2, h3, h4, h5, h6⟩
  have HS : Hid (Calls Tryz.prog 115 #[.slice (some ⟨q, 0, none⟩) n cap', .func (.func 116) #[] #[]] w1 fun e w' => e = .returned (.tuple #[]) ∧
      ∃ L' : List (List UInt8), L'.Perm L ∧ Rises L' ∧ Hs w' q 0 L' ∧ w'.there q 0 (32 * L.length) ∧ ∀ B, B ≤ q → Below B w1 w') := (by
    rw [HN.out]
    exact sortH_any q L cap' w1 hL (by rw [← HN.out]; omega) hq1 hs1 ht1)
  clear own1 hs1 ht1
  go_wp2_with fail
  refine HS.out.mono ?_
  rintro e w2 ⟨rfl, R, hpm, hri, hs2, ht2, hbel⟩
  have be2 : Below w.heap.size w w2 := be1.trans (hbel _ hqB)
  have hsz2 : w1.heap.size ≤ w2.heap.size := (hbel 0 (by omega)).size
  have hRn : R.length = L.length := hpm.length_eq
  have HR32 : Hid (All32 R) := fun x hx => hL x (hpm.mem_iff.1 hx)
  have HCo : Hid (Calls Tryz.prog 117 #[.slice (some ⟨q, 0, none⟩) n cap'] w2 fun e w' => e = .returned (.slice (some ⟨q, 0, none⟩) (dd R).length cap') ∧ Hs w' q 0 (dd R) ∧ (∀ B, B ≤ q → Below B w2 w') ∧ q < w'.heap.size) := (by
    rw [HN.out, ← hRn]
    exact compactH q R cap' w2 HR32.out (by rw [hRn, ← HN.out]; omega) (by rw [hRn]; exact hcap) (by omega) hs2 (by rw [hRn]; exact ht2))
  have hDn : (dd R).length ≤ n := (by rw [HN.out, ← hRn]; exact dd_length_le R)
  have HD32 : Hid (All32 (dd R)) := all32_dd HR32.out
  clear HS hpm hri hs2 ht2 hbel be1 hRn HR32
  generalize dd R = D at *
  go_wp2_with fail
  refine HCo.out.mono ?_
  rintro e w3 ⟨rfl, hs3, hbel, hq3⟩
  have be3 : Hid (Below w.heap.size w w3) := be2.trans (hbel _ hqB)
  obtain ⟨m, hm⟩ : ∃ m, m = D.length := ⟨_, rfl⟩
  have HU := K.Hid.mk' (K.nuint m (by omega) w3)
  rw [← hm] at hDn ⊢
  have HM : Hid (m = D.length) := hm
  have HS3 : Hid (Hs w3 q 0 D) := hs3
  clear HCo hs3 hbel be2 hsz2 hm
  go_wp2_with fail
  refine HU.out.mono ?_
  rintro e w4 ⟨rfl, be4⟩
  have HS4 : Hid (Hs w4 q 0 D) := HS3.out.below be4 hq3
  have hq4 : q < w4.heap.size := by have := be4.size; omega
  have HW4 : Hid (Below w.heap.size w w4) := be3.out.trans (be4.mono be3.out.size)
  clear be4 be3 HU HS3
  have hzs : (bs z32).size = 32 := by rw [bs_size]; rfl
  go_wp2
  go_loopw [20] (fun i wr => ∃ k : Nat, k ≤ m ∧ i = .int .i64 k ∧ Hid (Below w.heap.size w wr) ∧ Hid (Hs wr q 0 D) ∧ q < wr.heap.size) (fun i _ => m - (intOf i).toNat)
  case atStart => exact ⟨0, by omega, rfl, HW4, HS4, hq4⟩
  case round =>
    obtain ⟨k, hk, rfl, HWr, HSr, hqr⟩ := hrel
    by_cases hkm : k < m
    · have hkD : k < D.length := by rw [← HM.out]; exact hkm
      obtain ⟨x, hx⟩ : ∃ x, D[k]? = some x := ⟨_, List.getElem?_eq_getElem hkD⟩
      have hx32 := HD32.out.get hx
      have HR : Hid (wr.rangeAt q (32 * k) (hcs x)) := (by have := HSr.out k x hx; rwa [Nat.zero_add] at this : wr.rangeAt q (32 * k) (hcs x))
      have ix1 := fun wx => indexH q 0 m cap' k wx hkm
      simp only [Nat.zero_add] at ix1
      have be : Below wr.heap.size wr (wr.alloc (.cells (bs x) 36)) := (Below.refl _ _).alloc (Nat.le_refl _) _
      have HC : Hid (Calls Tryz.prog 39 #[.pointer none, .agg (bs x)] (wr.alloc (.cells (bs x) 36)) fun e w' => e = .returned (.tuple #[]) ∧ Below w.heap.size w w' ∧ Hs w' q 0 D ∧ q < w'.heap.size) := (by
        refine (nhash x hx32 _).mono ?_
        rintro e w' ⟨rfl, b'⟩
        have b2 := be.trans (b'.mono be.size)
        exact ⟨rfl, HWr.out.trans (b2.mono HWr.out.size), HSr.out.below b2 hqr, by have := b2.size; omega⟩)
      clear hx HWr HSr be
      go_wp2_with (first
        | (refine wpList_load_mid rfl 36 _ rfl q (32 * k) rfl (hcs x) _ HR.out Tryz.underlying36 rfl (by rw [hcs_len, hx32]; exact hsH) ?_; rw [hcs_arr])
        | (refine wpList_alloc_row rfl 36 rfl (bs z32) (hzH _) ?_)
        | (refine wpList_store_row rfl 36 _ _ rfl wr.heap.size (bs x) rfl rfl 36 (bs z32) (heap_alloc_new _ _) (by rw [bs_size, hx32]; exact hsH) (by rw [hzs, bs_size, hx32]) (bs_one _) ?_; rw [World.setRow_alloc_new])
        | (refine wpList_load_arr rfl 36 _ rfl wr.heap.size rfl 36 (bs x) (0, 0) _ (heap_alloc_new _ _) Tryz.underlying36 rfl (by rw [bs_size, hx32]; exact hsH) ?_)
        | fail)
      refine HC.out.mono ?_
      rintro e w5 ⟨rfl, hw5, hs5, hq5⟩
      have H5 : Hid (Below w.heap.size w w5) := hw5
      have G5 : Hid (Hs w5 q 0 D) := hs5
      clear hw5 hs5 HC HR
      go_wp2
      exact ⟨⟨k + 1, by omega, by go_num, H5, G5, hq5⟩, by simp [intOf]; omega⟩
    · obtain rfl : k = m := by omega
      go_wp2
      go_end0
      exact ⟨rfl, HWr.out⟩
end Go.Proofs.YtdnocpngdepbgaaGreatDoor

