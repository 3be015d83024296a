import Derived.Test.YtbpmpcmmdiaiiaaDoorP8
import Derived.Ground.NamesProg
import Derived.Shelf.Unicode.ValidAny
import Derived.Test.YtbpmpcmmdiaiiaaDoorP3
import Derived.Test.YtbpmpcmmdiaiiaaDoorP7
import Derived.Test.YtbpmpcmmdiaiiaaDoorP2
import Derived.Test.YtbpmpcmmdiaiiaaDoorP1
import Derived.Test.YtbpmpcmmdiaiiaaDoorP5
namespace Go.Proofs.YtbpmpcmmdiaiiaaDoor.K
open Go.Shelf Go.RowKit
set_option linter.unusedVariables false
set_option linter.unusedSimpArgs false

/-- How many bytes stand ahead of the first with which no character begins. -/
def goodF : Nat → List UInt8 → Nat
  | 0, _ => 0
  | f + 1, l => if l.length = 0 then 0 else if wd l = 0 then 0 else wd l + goodF f (l.drop (wd l))
def good (l : List UInt8) : Nat := goodF l.length l
theorem goodF_le : ∀ (f : Nat) (l : List UInt8), goodF f l ≤ l.length
  | 0, l => Nat.zero_le _
  | f + 1, l => by
    unfold goodF
    split
    · omega
    · split
      · omega
      · rename_i h0 h1
        have := goodF_le f (l.drop (wd l))
        have := wdl_le l (by omega)
        rw [List.length_drop] at *
        omega
theorem goodF_end (f : Nat) (l : List UInt8) (h : l.length = 0) : goodF f l = 0 := by
  cases f with
  | zero => rfl
  | succ f => unfold goodF; rw [if_pos h]
theorem goodF_stop (f : Nat) (l : List UInt8) (h : wd l = 0) : goodF f l = 0 := by
  cases f with
  | zero => rfl
  | succ f => unfold goodF; split <;> first | rfl | (rw [if_pos h])
theorem goodF_on (f : Nat) (l : List UInt8) (h : 0 < l.length) (hf : l.length ≤ f) (h1 : wd l ≠ 0) : goodF f l = wd l + goodF (f - 1) (l.drop (wd l)) := by
  cases f with
  | zero => omega
  | succ f => unfold goodF; rw [if_neg (by omega), if_neg h1]; cases f <;> rfl
theorem decL_pos (l : List UInt8) : 1 ≤ (Lib.decodeL l).2 := by
  rw [Lib.decodeL_N]
  unfold Lib.decodeN
  repeat' split
  all_goals (simp only []; omega)
def Tabs (w : World) : Prop := Lib.Utf8Tabs 0 1 w
theorem Tabs.below {w w' : World} (h : Tabs w) (hb : Below w.heap.size w w') : Tabs w' :=
  ⟨fun c hc => (hb.cell (p := ⟨0, c, none⟩) (block_lt_of_cell (h.1 c hc))).trans (h.1 c hc), fun i hi => ⟨(hb.cell (p := ⟨1, 2 * i, none⟩) (block_lt_of_cell (h.2 i hi).1)).trans (h.2 i hi).1, (hb.cell (p := ⟨1, 2 * i + 1, none⟩) (block_lt_of_cell (h.2 i hi).2)).trans (h.2 i hi).2⟩⟩
theorem Tabs.fr {w w' : World} {r : Nat} (h : Tabs w) (hb : Fr r w w') (hr : 0 ≠ r ∧ 1 ≠ r) : Tabs w' :=
  ⟨fun c hc => hb.cell (p := ⟨0, c, none⟩) (by show 0 ≠ r; exact hr.1) (h.1 c hc), fun i hi => ⟨hb.cell (p := ⟨1, 2 * i, none⟩) (by show 1 ≠ r; exact hr.2) (h.2 i hi).1, hb.cell (p := ⟨1, 2 * i + 1, none⟩) (by show 1 ≠ r; exact hr.2) (h.2 i hi).2⟩⟩
theorem Tabs.ne {w : World} {r : Nat} (h : Tabs w) (hr : w.heap.size ≤ r) : 0 ≠ r ∧ 1 ≠ r := by
  have h1 : 0 < w.heap.size := block_lt_of_cell (h.1 0 (by decide))
  have h2 : 1 < w.heap.size := block_lt_of_cell (h.2 0 (by decide)).1
  exact ⟨by show _ ≠ _; omega, by show _ ≠ _; omega⟩
def laysD_ren : Go.Shelf.Ren := ⟨fun | 32 => 77 | 49 => 83 | n => n, fun | 25 => 96 | 30 => 29 | 33 => 121 | 66 => 115 | 68 => 117 | 69 => 118 | n => n, fun | 2 => 0 | 3 => 1 | n => n⟩
theorem laysD : Lays7.n32 Tryd.prog laysD_ren := {
  mixed := by kernel_rfl
  f32 := Tryd.func77.trans (congrArg some (by kernel_rfl))
  f49 := Tryd.func83.trans (congrArg some (by kernel_rfl))
  t0 := Tryd.underlying0
  a0 := Tryd.isAgg0
  z0 := Tryd.sizeOf0
  v0 := Tryd.zeroValue0
  i0 := by kernel_rfl
  t3 := Tryd.underlying3
  a3 := Tryd.isAgg3
  z3 := Tryd.sizeOf3
  v3 := Tryd.zeroValue3
  i3 := by kernel_rfl
  t4 := Tryd.underlying4
  a4 := Tryd.isAgg4
  z4 := Tryd.sizeOf4
  v4 := Tryd.zeroValue4
  i4 := by kernel_rfl
  t5 := Tryd.underlying5
  a5 := Tryd.isAgg5
  z5 := Tryd.sizeOf5
  v5 := Tryd.zeroValue5
  i5 := by kernel_rfl
  t21 := Tryd.underlying21
  a21 := Tryd.isAgg21
  z21 := Tryd.sizeOf21
  v21 := Tryd.zeroValue21
  i21 := by kernel_rfl
  t25 := Tryd.underlying96
  a25 := Tryd.isAgg96
  z25 := Tryd.sizeOf96
  v25 := Tryd.zeroValue96
  i25 := by kernel_rfl
  t30 := Tryd.underlying29
  a30 := Tryd.isAgg29
  z30 := Tryd.sizeOf29
  v30 := Tryd.zeroValue29
  i30 := by kernel_rfl
  t33 := Tryd.underlying121
  a33 := Tryd.isAgg121
  z33 := Tryd.sizeOf121
  v33 := Tryd.zeroValue121
  i33 := by kernel_rfl
  t66 := Tryd.underlying115
  a66 := Tryd.isAgg115
  z66 := Tryd.sizeOf115
  t68 := Tryd.underlying117
  a68 := Tryd.isAgg117
  z68 := Tryd.sizeOf117
  v68 := Tryd.zeroValue117
  i68 := by kernel_rfl
  t69 := Tryd.underlying118
  a69 := Tryd.isAgg118
  z69 := Tryd.sizeOf118
  v69 := Tryd.zeroValue118
  i69 := by kernel_rfl
  g2 := by kernel_rfl
  g3 := by kernel_rfl }
theorem decode_any (b off n cap : Nat) (l : List UInt8) (w : World) (hl : l.length = n) (h0 : 0 < n) (hb : Byt w (some ⟨b, off, none⟩) l) (hT : Tabs w) :
    Calls Tryd.prog 77 #[.slice (some ⟨b, off, none⟩) n cap] w fun e w' => e = .returned (.tuple #[.int .i32 ((Lib.decodeL l).1 : Nat), .int .i64 ((Lib.decodeL l).2 : Nat)]) ∧ Below w.heap.size w w' := by
  have hsz : (⟨l.toArray⟩ : ByteArray).size = n := by show l.toArray.size = n; simp [hl]
  have h := Any7.utf8_DecodeRune laysD ⟨l.toArray⟩ b off cap w hT (fun j hj => by
    rw [hsz] at hj
    rcases hb with rfl | ⟨b', off', e, hc⟩
    · simp at hl; omega
    · cases e
      rw [hc j (by omega)]
      unfold at8
      congr 2
      have : (⟨l.toArray⟩ : ByteArray).get! j = l.getD j 0 := by
        show l.toArray.getD j default = _
        simp [List.getD_eq_getElem?_getD]
        rfl
      rw [this])
  have e : Lib.decodeGo ⟨l.toArray⟩ = Lib.decodeL l := by
    unfold Lib.decodeGo
    rw [if_neg (by omega)]
    rfl
  rw [e, hsz] at h
  exact h
set_option maxRecDepth 100000 in
set_option maxHeartbeats 1000000 in
theorem goodText_any (b off n cap : Nat) (l : List UInt8) (w : World) (hl : l.length = n) (hn : n ≤ 140737488351232) (hcap : n ≤ cap) (hb : Byt w (some ⟨b, off, none⟩) l) (hT : Tabs w) :
    Calls Tryd.prog 62 #[.slice (some ⟨b, off, none⟩) n cap] w fun e w' => e = .returned (.int .i64 (good l : Int)) ∧ Below w.heap.size w w' := by
  obtain ⟨G, hG⟩ : ∃ G, good l = G := ⟨_, rfl⟩
  rw [hG]
  have HG : Hid (0 + goodF n (l.drop 0) = G) := by
    show _ = _
    rw [← hG, ← hl]
    simp [good]
  have HB := Hid.mk' hb
  have HT := Hid.mk' hT
  have HL := Hid.mk' hl
  have HZ : Hid (∀ j, (l.drop j).length = n - j) := fun j => by rw [List.length_drop, hl]
  have HW : Hid (∀ j, j < n → wd (l.drop j) ≤ n - j) := fun j hj => by
    have := wdl_le (l.drop j) (by rw [List.length_drop]; omega)
    rw [List.length_drop, hl] at this
    exact this
  clear hG hb hT hl
  go_enter Tryd.func62, Tryd.ntmps62
  go_wp2
  go_loopw [3] (fun i wr => ∃ j f : Nat, j ≤ n ∧ i = .int .i64 (j : Int) ∧ Hid (n - j ≤ f) ∧ Hid (j + goodF f (l.drop j) = G) ∧ Below w.heap.size w wr) (fun i _ => n - (intOf i).toNat)
  case atStart => exact ⟨0, n, by omega, rfl, Nat.le_refl _, HG, Below.refl _ _⟩
  case round =>
    clear HG
    obtain ⟨j, f, hj, rfl, HF, HG, bel⟩ := hrel
    by_cases hjn : j < n
    · have hjn' : (j : Int) < (n : Int) := by omega
      have s1 := sl_from (some ⟨b, off, none⟩) n cap j (j : Int) rfl hj
      have s2 := sl_from' (some ⟨b, off, none⟩) n cap j (j : Int) rfl hj
      have eA : from23 (some ⟨b, off, none⟩) cap j = some ⟨b, off + j, none⟩ := by
        unfold from23
        rw [if_neg (by omega)]
        simp [Addr.add_mid]
      rw [eA] at s1 s2
      have D := Hid.mk' (decode_any b (off + j) (n - j) (cap - j) (l.drop j) wr (HZ.out j) (by omega) (by
        have h1 := byt_from (byt_below HB.out bel) cap j (by rw [HL.out]; exact hcap)
        rw [eA] at h1
        exact h1) (HT.out.below bel))
      have wle := HW.out j hjn
      have wdd := wd_dec (l.drop j)
      have hpos := decL_pos (l.drop j)
      generalize Lib.decodeL (l.drop j) = d at *
      obtain ⟨d1, d2⟩ := d
      simp only at wdd D hpos
      clear eA
      generalize hnj : n - j = nj at *
      generalize cap - j = cj at *
      have HB2 := Hid.mk' bel
      by_cases hbad : d1 = 65533 ∧ d2 = 1
      · rw [if_pos hbad] at wdd
        have e0 : j = G := by rw [← HG.out, goodF_stop f (l.drop j) wdd]; rfl
        obtain ⟨rfl, rfl⟩ := hbad
        subst e0
        clear HG wdd bel
        go_wp2_with fail
        refine D.out.mono ?_
        rintro e w2 ⟨rfl, b2⟩
        have HB3 := Hid.mk' (HB2.out.trans (b2.mono (HB2.out.size)))
        clear b2
        go_wp2
        go_ret
        exact ⟨rfl, HB3.out⟩
      · rw [if_neg hbad] at wdd
        rw [wdd] at wle
        have HG2 : Hid (j + d2 + goodF (f - 1) (l.drop (j + d2)) = G) := by
          show _ = _
          have h1 := HG.out
          rw [goodF_on f (l.drop j) (by rw [HZ.out]; omega) (by rw [HZ.out]; have := HF.out; omega) (by omega), wdd, List.drop_drop] at h1
          omega
        have HF2 : Hid (n - (j + d2) ≤ f - 1) := by
          show _ ≤ _
          have := HF.out
          omega
        clear wdd HG HF bel
        by_cases h65 : d1 = 65533
        · have hd1 : ¬ d2 = 1 := fun h => hbad ⟨h65, h⟩
          have hd1' : ¬ (d2 : Int) = 1 := by omega
          subst h65
          clear hbad
          go_wp2_with fail
          refine D.out.mono ?_
          rintro e w2 ⟨rfl, b2⟩
          have HB3 := Hid.mk' (HB2.out.trans (b2.mono (HB2.out.size)))
          clear b2
          go_wp2
          exact ⟨⟨j + d2, f - 1, by omega, by go_num, HF2, HG2, HB3.out⟩, by simp [intOf]; omega⟩
        · have hd1' : ¬ (d1 : Int) = 65533 := by omega
          clear hbad
          go_wp2_with fail
          refine D.out.mono ?_
          rintro e w2 ⟨rfl, b2⟩
          have HB3 := Hid.mk' (HB2.out.trans (b2.mono (HB2.out.size)))
          clear b2
          go_wp2
          exact ⟨⟨j + d2, f - 1, by omega, by go_num, HF2, HG2, HB3.out⟩, by simp [intOf]; omega⟩
    · have e0 : j = G := by
        rw [← HG.out, goodF_end f (l.drop j) (by rw [HZ.out]; omega)]
        rfl
      have hjn' : ¬ (j : Int) < (n : Int) := by omega
      subst e0
      have HB3 := Hid.mk' bel
      clear HG bel
      go_wp2
      go_ret
      exact ⟨rfl, HB3.out⟩

set_option maxRecDepth 100000 in
set_option maxHeartbeats 1000000 in
theorem wrong_any (s : ByteArray) (w : World) (hs : s.size ≤ 140737488355328) :
    Calls Tryd.prog 51 #[.string s] w fun e w' => e = .returned (.int .i64 (good s.data.toList : Int)) ∧ w' = w := by
  have hl : s.data.toList.length = s.size := by simp
  obtain ⟨G, hG⟩ : ∃ G, good s.data.toList = G := ⟨_, rfl⟩
  rw [hG]
  have HG : Hid (0 + goodF s.size (s.data.toList.drop 0) = G) := by
    show _ = _
    rw [← hG, ← hl]
    simp [good]
  have HZ : Hid (∀ j, (s.data.toList.drop j).length = s.size - j) := fun j => by rw [List.length_drop, hl]
  have HW : Hid (∀ j, j < s.size → wd (s.data.toList.drop j) ≤ s.size - j) := fun j hj => by
    have := wdl_le (s.data.toList.drop j) (by rw [List.length_drop]; omega)
    rw [List.length_drop, hl] at this
    exact this
  clear hG hl
  go_enter Tryd.func51, Tryd.ntmps51
  go_wp2
  go_loopw [3] (fun i wr => ∃ j f : Nat, j ≤ s.size ∧ i = .int .i64 (j : Int) ∧ Hid (s.size - j ≤ f) ∧ Hid (j + goodF f (s.data.toList.drop j) = G) ∧ wr = w) (fun i _ => s.size - (intOf i).toNat)
  case atStart => exact ⟨0, s.size, by omega, rfl, Nat.le_refl _, HG, rfl⟩
  case round =>
    clear HG
    obtain ⟨j, f, hj, rfl, HF, HG, rfl⟩ := hrel
    by_cases hjn : j < s.size
    · have hjn' : (j : Int) < (s.size : Int) := by omega
      have D := Hid.mk' (fun wx => seq_any s j wx hjn hs)
      have wle := HW.out j hjn
      by_cases hz : wd (s.data.toList.drop j) = 0
      · have e0 : j = G := by rw [← HG.out, goodF_stop f _ hz]; rfl
        rw [hz] at D
        subst e0
        clear HG hz wle
        go_wp2_with fail
        refine (D.out _).mono ?_
        rintro e _ ⟨rfl, rfl⟩
        go_wp2
        go_ret
        exact ⟨rfl, rfl⟩
      · have h1 := HG.out
        rw [goodF_on f _ (by rw [HZ.out]; omega) (by rw [HZ.out]; have := HF.out; omega) hz, List.drop_drop] at h1
        have hF := HF.out
        generalize wd (s.data.toList.drop j) = d2 at *
        have HG2 : Hid (j + d2 + goodF (f - 1) (s.data.toList.drop (j + d2)) = G) := by
          show _ = _
          omega
        have HF2 : Hid (s.size - (j + d2) ≤ f - 1) := by
          show _ ≤ _
          omega
        have hd1' : ¬ (d2 : Int) = 0 := by omega
        clear h1 HG HF hF
        go_wp2_with fail
        refine (D.out _).mono ?_
        rintro e w2 ⟨rfl, rfl⟩
        go_wp2
        exact ⟨⟨j + d2, f - 1, by omega, by go_num, HF2, HG2, by trivial⟩, by simp [intOf]; omega⟩
    · have e0 : s.size = G := by
        rw [← HG.out, goodF_end f _ (by rw [HZ.out]; omega)]
        omega
      have hjn' : ¬ (j : Int) < (s.size : Int) := by omega
      have HE := Hid.mk' e0
      clear HG e0
      go_wp2
      go_ret
      exact ⟨ret_int (by rw [HE.out]), rfl⟩
end Go.Proofs.YtbpmpcmmdiaiiaaDoor.K

namespace Go.Proofs.YtbpmpcmmdiaiiaaDoor.K
open Go.RowKit Go.Shelf
set_option linter.unusedVariables false
set_option linter.unusedSimpArgs false
namespace V

def laysValid_ren : Go.Shelf.Ren := ⟨fun | 196 => 55 | 259 => 74 | n => n, fun | 9 => 9 | 4 => 4 | 3 => 3 | 5 => 5 | 12 => 12 | 119 => 115 | 0 => 0 | 46 => 96 | 139 => 118 | 138 => 117 | 53 => 27 | n => n, fun | 3 => 0 | 4 => 1 | n => n⟩
theorem laysValid : Lays.n196 Tryd.prog laysValid_ren := {
  mixed := by kernel_rfl
  f196 := Tryd.func55.trans (congrArg some (by kernel_rfl))
  f259 := Tryd.func74.trans (congrArg some (by kernel_rfl))
  t0 := Tryd.underlying0
  a0 := Tryd.isAgg0
  z0 := Tryd.sizeOf0
  v0 := Tryd.zeroValue0
  t3 := Tryd.underlying3
  a3 := Tryd.isAgg3
  z3 := Tryd.sizeOf3
  v3 := Tryd.zeroValue3
  t4 := Tryd.underlying4
  a4 := Tryd.isAgg4
  z4 := Tryd.sizeOf4
  v4 := Tryd.zeroValue4
  t5 := Tryd.underlying5
  a5 := Tryd.isAgg5
  z5 := Tryd.sizeOf5
  v5 := Tryd.zeroValue5
  t9 := Tryd.underlying9
  a9 := Tryd.isAgg9
  z9 := Tryd.sizeOf9
  v9 := Tryd.zeroValue9
  t12 := Tryd.underlying12
  a12 := Tryd.isAgg12
  z12 := Tryd.sizeOf12
  v12 := Tryd.zeroValue12
  t46 := Tryd.underlying96
  a46 := Tryd.isAgg96
  z46 := Tryd.sizeOf96
  v46 := Tryd.zeroValue96
  t53 := Tryd.underlying27
  a53 := Tryd.isAgg27
  z53 := Tryd.sizeOf27
  v53 := Tryd.zeroValue27
  t119 := Tryd.underlying115
  a119 := Tryd.isAgg115
  z119 := Tryd.sizeOf115
  t138 := Tryd.underlying117
  a138 := Tryd.isAgg117
  z138 := Tryd.sizeOf117
  v138 := Tryd.zeroValue117
  t139 := Tryd.underlying118
  a139 := Tryd.isAgg118
  z139 := Tryd.sizeOf118
  v139 := Tryd.zeroValue118
  g3 := by kernel_rfl
  g4 := by kernel_rfl }

theorem valid_any (s : ByteArray) (w : World) (hs : s.size ≤ 9223372036854775807) (hT : Tabs w) :
    Calls Tryd.prog 55 #[.string s] w fun e w' => e = .returned (.bool (Lib.validD s.data.toList)) ∧ Below w.heap.size w w' :=
  Any.utf8_ValidString laysValid s w hs hT
end V
end Go.Proofs.YtbpmpcmmdiaiiaaDoor.K

namespace Go.Proofs.YtbpmpcmmdiaiiaaDoor.K
open Go.RowKit
set_option linter.unusedVariables false
set_option linter.unusedSimpArgs false

variable {p : Nat} {g : Option Nat} {M : List UInt8} {e : Int}
/-- []byte of a text, as a step of a Writer's world. -/
theorem conv_sep (s : ByteArray) {T : TypeId} (w : World) (hw : WS w T p g M e) : ∃ cap C fr, (convert 9 29 (.string s)).run Tryd.prog w = .ok (.slice (some ⟨w.heap.size, 0, none⟩) s.size cap) (w.drew.alloc (.cells C 5 fr)) ∧ Byt (w.drew.alloc (.cells C 5 fr)) (some ⟨w.heap.size, 0, none⟩) s.data.toList ∧ WS (w.drew.alloc (.cells C 5 fr)) T p g M e ∧ Below w.heap.size w (w.drew.alloc (.cells C 5 fr)) ∧ w.heap.size ≠ p ∧ some w.heap.size ≠ g ∧ w.heap.size < (w.drew.alloc (.cells C 5 fr)).heap.size := by
  obtain ⟨cap, C, fr, h1, h2⟩ := conv_str s w
  have hb : Below w.heap.size w (w.drew.alloc (.cells C 5 fr)) := (below_drewN (Below.refl w.heap.size w) 1).alloc (by show w.heap.size ≤ w.heap.size; omega) _
  have hl : s.data.toList.length = s.size := by simp
  refine ⟨cap, C, fr, h1, .inr ⟨w.heap.size, 0, rfl, fun j hj => ?_⟩, hw.below hb, hb, by have := hw.lt; omega, fun h => by have := hw.glt h.symm; omega, by show w.heap.size < (w.heap.push _).size; simp⟩
  have hg : (w.drew.alloc (.cells C 5 fr)).heap[w.heap.size]? = some (.cells C 5 fr) := by
    show (w.heap.push (.cells C 5 fr))[w.heap.size]? = _
    simp
  rw [Nat.zero_add, cell_of_row _ w.heap.size j C 5 fr hg]
  exact h2 j (by omega)
set_option maxRecDepth 100000 in
set_option maxHeartbeats 1000000 in
theorem wtext_any (s : ByteArray) (hs : s.size ≤ 140737488355328) (hv : Lib.validD s.data.toList = true) (w : World) (hw : WS w 50 p g M e) (hT : Tabs w) (hsum : M.length + 64 + s.size ≤ 140737488355328) :
    Calls Tryd.prog 22 #[.pointer (some ⟨p, 0, none⟩), .string s] w fun x w' => x = .returned (.tuple #[]) ∧ Wr w w' 50 p g (wA M e (vint s.size ++ s.data.toList)) e := by
  have HV := Hid.mk' (V.valid_any s w (by omega) hT)
  rw [hv] at HV
  have hl : s.data.toList.length = s.size := by simp
  have HW := Hid.mk' hw
  clear hw hT hv
  go_enter Tryd.func22, Tryd.ntmps22
  go_wp2_with fail
  refine HV.out.mono ?_
  rintro x w1 ⟨rfl, b1⟩
  obtain ⟨cap, C, fr, hcv, hby, ws, hbl, n1, n2, n3⟩ := conv_sep s w1 (HW.out.below b1)
  have H := Hid.mk' ((wraw_any s.data.toList (some ⟨w1.heap.size, 0, none⟩) s.size cap _ ws hl hby (fun ad h => by cases h; exact ⟨n1, n2⟩) (fun ad h => by cases h; exact n3) (by rw [hl]; exact hsum)).mono fun x w' h => And.intro h.1 (Wr.pre b1 (Wr.pre hbl h.2)))
  clear b1 hby ws hbl n1 n2 n3 HW HV hl
  go_wp2_with fail
  refine H.out.mono ?_
  rintro x w2 ⟨rfl, a2⟩
  have A2 := Hid.mk' a2
  clear a2 hcv
  go_wp2
  go_end0
  exact ⟨rfl, A2.out⟩
end Go.Proofs.YtbpmpcmmdiaiiaaDoor.K

namespace Go.Proofs.YtbpmpcmmdiaiiaaDoor.K
open Go.RowKit
set_option linter.unusedVariables false
set_option linter.unusedSimpArgs false

set_option maxRecDepth 100000 in
set_option maxHeartbeats 1000000 in
theorem ntext (s : ByteArray) (hs : s.size ≤ 140737488355328) (w : World) (hT : Tabs w) :
    Calls Tryd.prog 22 #[.pointer none, .string s] w fun x w' => x = .returned (.tuple #[]) ∧ Below w.heap.size w w' := by
  have HV := Hid.mk' (V.valid_any s w (by omega) hT)
  have HR := Hid.mk' (fun a cap (w : World) => nraw a s.size cap (by omega) w)
  clear hT
  by_cases hv : Lib.validD s.data.toList = true
  · rw [hv] at HV
    go_enter Tryd.func22, Tryd.ntmps22
    go_wp2_with fail
    refine HV.out.mono ?_
    rintro x w1 ⟨rfl, b1⟩
    obtain ⟨cap, C, fr, hcv, _⟩ := conv_str s w1
    have b2 : Below w1.heap.size w1 (w1.drew.alloc (.cells C 5 fr)) := (below_drewN (Below.refl w1.heap.size w1) 1).alloc (by show w1.heap.size ≤ w1.heap.size; omega) _
    have B2 := Hid.mk' (b1.trans (b2.mono b1.size))
    clear b1 b2 HV
    go_wp2_with fail
    refine (HR.out _ _ _).mono ?_
    rintro x w2 ⟨rfl, a2⟩
    have A2 := Hid.mk' (B2.out.trans (a2.mono B2.out.size))
    clear a2 hcv
    go_wp2
    go_end0
    exact ⟨rfl, A2.out⟩
  · have hv : Lib.validD s.data.toList = false := by simpa using hv
    rw [hv] at HV
    go_enter Tryd.func22, Tryd.ntmps22
    go_wp2_with fail
    refine HV.out.mono ?_
    rintro x w1 ⟨rfl, b1⟩
    go_wp2_with fail
    refine (nfail _ _).mono ?_
    rintro x w2 ⟨rfl, hw2⟩
    subst hw2
    go_wp2
    exact bodyPost_ret (results_none Tryd.results22 _ _ _) rfl ⟨rfl, b1⟩
end Go.Proofs.YtbpmpcmmdiaiiaaDoor.K

namespace Go.Proofs.YtbpmpcmmdiaiiaaDoor.K
open Go.RowKit
set_option linter.unusedVariables false
set_option linter.unusedSimpArgs false

variable {p : Nat} {g : Option Nat} {M : List UInt8} {e : Int}
theorem WS.view {w : World} {T : TypeId} (h : WS w T p g M e) : ∃ a cv, w.cell? ⟨p, 0, none⟩ = some (.slice a M.length cv) ∧ w.cell? ⟨p, 1, none⟩ = some (.int .i64 e) ∧ Byt w a M ∧ (a = none ∧ M = [] ∧ cv = 0 ∨ ∃ b, a = some ⟨b, 0, none⟩) := by
  obtain ⟨v, hq, own, hg⟩ := h.ex
  have c0 := (cell_of_row w p 0 _ _ _ hq).trans (show (#[v, .int .i64 e] : Array Value)[0]? = some v from rfl)
  have c1 := (cell_of_row w p 1 _ _ _ hq).trans (show (#[v, .int .i64 e] : Array Value)[1]? = some (.int .i64 e) from rfl)
  obtain ⟨a, cv, rfl, h1, h2, h3⟩ := own.open
  refine ⟨a, cv, c0, c1, h2, ?_⟩
  rcases own.2 with ⟨hv, hn⟩ | ⟨gg, cap, cur, hv, _⟩
  · simp only [Value.slice.injEq] at hv
    exact .inl ⟨hv.1, List.eq_nil_of_length_eq_zero hn, hv.2.2⟩
  · simp only [Value.slice.injEq] at hv
    exact .inr ⟨_, hv.1⟩
set_option maxRecDepth 100000 in
set_option maxHeartbeats 1000000 in
/-- Done, where there is no error and something was written. -/
theorem wdone0 (w : World) (hw : WS w 50 p g M 0) (hM : 0 < M.length) (hl : M.length ≤ 140737488355328) :
    Calls Tryd.prog 9 #[.pointer (some ⟨p, 0, none⟩)] w fun x w' => ∃ b cv, x = .returned (.tuple #[.slice (some ⟨b, 0, none⟩) M.length cv, .int .i64 0]) ∧ OwnB w' w.heap.size (.slice (some ⟨b, 0, none⟩) M.length cv) M ∧ Below w.heap.size w w' := by
  obtain ⟨a, cv, c0, c1, hb, ha⟩ := hw.view
  clear hw
  rcases ha with ⟨rfl, rfl, rfl⟩ | ⟨b, rfl⟩
  · simp at hM
  · have HC : Hid (Calls Tryd.prog 39 #[.slice (some ⟨b, 0, none⟩) M.length cv] w fun x w' => ∃ b cv, x = .returned (.slice (some ⟨b, 0, none⟩) M.length cv) ∧ OwnB w' w.heap.size (.slice (some ⟨b, 0, none⟩) M.length cv) M ∧ Below w.heap.size w w') := (clone_any b 0 M.length cv M w rfl hl hb).mono fun x w' h => by
      obtain ⟨v, h1, h2, h3⟩ := h
      obtain ⟨g, cap, rfl, _⟩ := h2.open1 hM
      exact ⟨g, cap, h1, h2, h3⟩
    clear hb hl
    generalize M.length = n at *
    go_enter Tryd.func9, Tryd.ntmps9
    go_wp2_with fail
    refine HC.out.mono ?_
    rintro x w1 ⟨b1, cv1, rfl, h2, h3⟩
    have H2 : Hid (OwnB w1 w.heap.size (.slice (some ⟨b1, 0, none⟩) n cv1) M) := h2
    have H3 : Hid (Below w.heap.size w w1) := h3
    clear h2 h3
    go_wp2
    go_ret2
    exact ⟨_, _, rfl, H2.out, H3.out⟩

theorem rd_of_own {w : World} {T : TypeId} {v : Value} {l : List UInt8} {base : Nat} (own : OwnB w base v l) (hl : l.length ≤ 140737488351232) :
    ∃ a cap, v = .slice a l.length cap ∧ RD (w.alloc (.cells #[.slice a l.length cap, .int .i64 0, .int .i64 0, .int .i64 0] T)) T w.heap.size a cap l ⟨0, 0, 0⟩ ∧ (∀ ad, a = some ad → base ≤ ad.block ∧ ad.block < w.heap.size) := by
  have hop : ∃ a cap, v = .slice a l.length cap ∧ l.length ≤ cap ∧ Byt w a l ∧ (∀ ad, a = some ad → ad.spot = none ∧ base ≤ ad.block ∧ ad.block < w.heap.size) := by
    rcases own.2 with ⟨rfl, hn⟩ | ⟨g, cap, cur, rfl, hbg, hg, hnc, hcm, hcs, htake⟩
    · obtain rfl : l = [] := List.eq_nil_of_length_eq_zero hn
      exact ⟨none, 0, rfl, Nat.le_refl _, .inl rfl, fun _ e => by cases e⟩
    · obtain ⟨a', cap', e, hc, hb, _⟩ := own.open
      cases e
      exact ⟨_, _, rfl, hc, hb, fun ad e => by cases e; exact ⟨rfl, hbg, (Array.getElem?_eq_some_iff.1 hg).1⟩⟩
  obtain ⟨a, cap, rfl, hcap, hb, hp⟩ := hop
  refine ⟨a, cap, rfl, ⟨heap_alloc_new _ _, hcap, byt_below hb ((Below.refl _ _).alloc (Nat.le_refl _) _), fun ad e => ⟨(hp ad e).1, by have := (hp ad e).2.2; omega⟩, Nat.zero_le _, hl⟩, fun ad e => (hp ad e).2⟩
set_option maxRecDepth 100000 in
set_option maxHeartbeats 1000000 in
theorem new_any (b off n cap : Nat) (l : List UInt8) (w : World) (hl : l.length = n) (hn : n ≤ 140737488351232) (hb : Byt w (some ⟨b, off, none⟩) l) :
    Calls Tryd.prog 17 #[.slice (some ⟨b, off, none⟩) n cap] w fun e w' => ∃ r a c, e = .returned (.pointer (some ⟨r, 0, none⟩)) ∧ RD w' 92 r a c l ⟨0, 0, 0⟩ ∧ w.heap.size ≤ r ∧ Below w.heap.size w w' := by
  have HC : Hid (Calls Tryd.prog 39 #[.slice (some ⟨b, off, none⟩) n cap] w fun e w' => ∃ v, e = .returned v ∧ OwnB w' w.heap.size v l ∧ Below w.heap.size w w') := clone_any b off n cap l w hl (by omega) hb
  clear hb
  go_enter Tryd.func17, Tryd.ntmps17
  go_wp2_with fail
  refine HC.out.mono ?_
  rintro e w1 ⟨v, rfl, own, b1⟩
  obtain ⟨a, c, rfl, rd, hp⟩ := rd_of_own (w := w1) (T := 92) own (by omega)
  have z1 := b1.size
  have HRD : Hid (RD (w1.alloc (.cells #[.slice a l.length c, .int .i64 0, .int .i64 0, .int .i64 0] 92)) 92 w1.heap.size a c l ⟨0, 0, 0⟩) := rd
  have B2 : Hid (Below w.heap.size w (w1.alloc (.cells #[.slice a l.length c, .int .i64 0, .int .i64 0, .int .i64 0] 92))) := b1.alloc (by omega) (.cells #[.slice a l.length c, .int .i64 0, .int .i64 0, .int .i64 0] 92)
  rw [hl] at HRD B2
  clear own rd hp b1
  go_wp2
  go_ret
  exact ⟨_, a, c, rfl, HRD.out, z1, B2.out⟩

/-- A number is read as it was written. -/
theorem num_vint (len k : Nat) (t : List UInt8) : ∀ (f v i acc : Nat), v ≤ f → v * 2 ^ (7 * i) < 2 ^ 63 → (0 < i → 0 < v) → numL len k (vint v ++ t) i acc = ⟨acc + v * 2 ^ (7 * i), i + (vint v).length, 0, len⟩ := by
  intro f
  induction f with
  | zero =>
    intro v i acc hf hv h0
    obtain rfl : v = 0 := by omega
    have hi : i = 0 := by omega
    subst hi
    rw [vint_lt (by omega)]
    simp [numL]
  | succ f ih =>
    intro v i acc hf hv h0
    have h9 : i = 9 → v = 0 := fun e => by
      subst e
      have : v * 2 ^ 63 < 1 * 2 ^ 63 := by simpa using hv
      have := Nat.lt_of_mul_lt_mul_right this
      omega
    by_cases h : v < 128
    · rw [vint_lt h]
      have e1 : (UInt8.ofNat v).toNat = v := by simp; omega
      simp only [List.cons_append, List.nil_append, numL, e1]
      rw [if_neg (by omega), if_pos h]
      simp
    · rw [vint_ge h]
      have e1 : (UInt8.ofNat (v % 128 + 128)).toNat = v % 128 + 128 := by simp; omega
      simp only [List.cons_append, numL, e1]
      rw [if_neg (by omega), if_neg (by omega), ih (v / 128) (i + 1) _ (by omega) ?_ (fun _ => by omega)]
      · have e2 : 2 ^ (7 * (i + 1)) = 128 * 2 ^ (7 * i) := by rw [Nat.mul_add, Nat.pow_add]; omega
        have e3 : v * 2 ^ (7 * i) = (v % 128) * 2 ^ (7 * i) + v / 128 * (128 * 2 ^ (7 * i)) := by
          rw [← Nat.mul_assoc, ← Nat.add_mul]
          congr 1
          omega
        rw [e2, e3, Nat.add_sub_cancel]
        simp only [List.length_cons, Num.mk.injEq, and_true]
        exact ⟨by omega, by omega⟩
      · have e2 : 2 ^ (7 * (i + 1)) = 128 * 2 ^ (7 * i) := by rw [Nat.mul_add, Nat.pow_add]; omega
        rw [e2, ← Nat.mul_assoc]
        exact Nat.lt_of_le_of_lt (Nat.mul_le_mul_right _ (by omega)) hv
theorem num_front (v : Nat) (hv : v ≤ 4398046510976) (t : List UInt8) : num (vint v ++ t) 0 = ⟨v, (vint v).length, 0, (vint v ++ t).length⟩ := by
  unfold num
  rw [List.drop_zero, num_vint _ _ t v v 0 0 (Nat.le_refl _) (by simp; omega) (by omega)]
  simp
end Go.Proofs.YtbpmpcmmdiaiiaaDoor.K

namespace Go.Proofs.YtbpmpcmmdiaiiaaDoor.K
open Go.RowKit
set_option linter.unusedVariables false
set_option linter.unusedSimpArgs false

def rText (L : List UInt8) (most : Nat) (s : St) : List UInt8 × St :=
  if s.bad = 0 then (match rCnt L most s with | (some (n, hd), _) => (if good (cut L (s.k + hd) n) < n then ([], ⟨s.k, 21, (s.k : Int) + (hd : Int) + (good (cut L (s.k + hd) n) : Int)⟩) else (cut L (s.k + hd) n, ⟨s.k + hd + n, s.bad, s.wh⟩)) | (none, s') => ([], s')) else ([], s)
variable {T : TypeId} {r cap : Nat} {a : Option Addr} {L : List UInt8} {s : St}
set_option maxRecDepth 100000 in
set_option maxHeartbeats 2000000 in
theorem text_any (most : Nat) (hm : most ≤ 9223372036854775807) (w : World) (h : RD w T r a cap L s) (hT : Tabs w) (hr4 : 0 ≠ r ∧ 1 ≠ r) :
    Calls Tryd.prog 26 #[.pointer (some ⟨r, 0, none⟩), .int .i64 (most : Int)] w fun e w' => e = .returned (.string ⟨(rText L most s).1.toArray⟩) ∧ On w w' T r a cap L (rText L most s).2 := by
  have HS : Hid (Calls Tryd.prog 58 #[.pointer (some ⟨r, 0, none⟩)] w fun e w' => e = .returned (.bool (decide (s.bad ≠ 0))) ∧ w' = w) := stopped_any w h
  by_cases hb : s.bad = 0
  · have HS' : Hid (Calls Tryd.prog 58 #[.pointer (some ⟨r, 0, none⟩)] w fun e w' => e = .returned (.bool false) ∧ w' = w) := by have := HS.out; rw [show decide (s.bad ≠ 0) = false by simp [hb]] at this; exact this
    clear HS
    rcases hq : rCnt L most s with ⟨_ | ⟨n, hd⟩, s'⟩
    · have hE : rText L most s = ([], s') := by unfold rText; rw [if_pos hb, hq]
      rw [hE]
      have HC := Hid.mk' (counted_none most hm w h hb s' hq)
      clear h hE hq
      go_enter Tryd.func26, Tryd.ntmps26
      go_wp2_with fail
      refine HS'.out.mono ?_
      rintro e w1 ⟨rfl, hw1⟩
      subst hw1
      go_wp2_with fail
      refine HC.out.mono ?_
      rintro e w2 ⟨rfl, ho⟩
      have HO := Hid.mk' ho
      clear ho
      go_wp2
      go_ret
      exact ⟨rfl, HO.out⟩
    · have hE : rText L most s = (if good (cut L (s.k + hd) n) < n then ([], ⟨s.k, 21, (s.k : Int) + (hd : Int) + (good (cut L (s.k + hd) n) : Int)⟩) else (cut L (s.k + hd) n, ⟨s.k + hd + n, s.bad, s.wh⟩)) := by unfold rText; rw [if_pos hb, hq]
      rw [hE]
      obtain ⟨rfl, h1, h2, h3⟩ := rCnt_some hq h.at_le
      have HC := Hid.mk' (counted_some most hm w h hb n hd hq)
      obtain ⟨b, off, eA⟩ := h.some (by omega) (s'.k + hd)
      have hf := h.few
      have hroom := h.room
      rw [eA] at HC
      have HCut := Hid.mk' (fun (wx : World) (s2 : St) (hx : On w wx T r a cap L s2) => hx.1.cut (s'.k + hd) n)
      rw [eA] at HCut
      have hlen := cut_len L (s'.k + hd) n (by omega)
      have hgle : good (cut L (s'.k + hd) n) ≤ n := by have := goodF_le (cut L (s'.k + hd) n).length (cut L (s'.k + hd) n); rw [hlen] at this; unfold good; rw [hlen]; exact this
      have HGT := Hid.mk' (fun (wx : World) (hx : On w wx T r a cap L s') => goodText_any b off n (cap - (s'.k + hd)) (cut L (s'.k + hd) n) wx hlen (by omega) (by omega) (HCut.out wx s' hx) (hT.fr hx.2 hr4))
      have HCV := Hid.mk' (fun (wx : World) (s2 : St) (hx : On w wx T r a cap L s2) => byt_string (cap := cap - (s'.k + hd)) hlen (HCut.out wx s2 hx))
      clear h hE hq eA hT hlen HCut hroom
      generalize cap - (s'.k + hd) = c4 at *
      generalize good (cut L (s'.k + hd) n) = g at *
      generalize cut L (s'.k + hd) n = tx at *
      by_cases hg : g < n
      · rw [if_pos hg]
        have hg' : (g : Int) < (n : Int) := by omega
        have HK := Hid.mk' (keep_on (a := a) (cap := cap) (L := L) (T := T) (r := r) w hb 21 ((s'.k : Int) + (hd : Int) + (g : Int)) (by decide))
        have hw1 : IntKind.i64.wrap ((s'.k : Int) + (hd : Int)) = (s'.k : Int) + (hd : Int) := by rw [IntKind.wrap_i64]; omega
        have hw2 : IntKind.i64.wrap ((s'.k : Int) + (hd : Int) + (g : Int)) = (s'.k : Int) + (hd : Int) + (g : Int) := by rw [IntKind.wrap_i64]; omega
        go_enter Tryd.func26, Tryd.ntmps26
        go_wp2_with fail
        refine HS'.out.mono ?_
        rintro e w1 ⟨rfl, hw1⟩
        subst hw1
        go_wp2_with fail
        refine HC.out.mono ?_
        rintro e w2 ⟨rfl, ho⟩
        have HON := Hid.mk' ho
        clear ho
        go_wp2_with fail
        refine (HGT.out _ HON.out).mono ?_
        rintro e w3 ⟨rfl, bl⟩
        have HON2 := Hid.mk' (HON.out.below bl)
        have c1 := HON2.out.1.c1
        clear bl HON
        go_wp2
        go_region_held3 (fun w' => w'.cell? ⟨r, 1, none⟩ = some (.int .i64 (s'.k : Int))) (first | assumption | go_keep) (first
          | (go_at_call 60; refine (HK.out _ ?_).mono ?_; (first | exact HON2.out | exact HON2.out.drew _ | exact (HON2.out.drew _).drew 1); rintro e w4 ⟨rfl, ho⟩; have s1 := ho.1.c1; have HO2 := Hid.mk' ho; clear ho)
          | fail)
        go_wp2
        go_ret
        exact ⟨rfl, HO2.out⟩
      · rw [if_neg hg]
        have hg' : ¬ (g : Int) < (n : Int) := by omega
        go_enter Tryd.func26, Tryd.ntmps26
        go_wp2_with fail
        refine HS'.out.mono ?_
        rintro e w1 ⟨rfl, hw1⟩
        subst hw1
        go_wp2_with fail
        refine HC.out.mono ?_
        rintro e w2 ⟨rfl, ho⟩
        have HON := Hid.mk' ho
        clear ho
        go_wp2_with fail
        refine (HGT.out _ HON.out).mono ?_
        rintro e w3 ⟨rfl, bl⟩
        have HON2 := Hid.mk' (HON.out.below bl)
        have c1 := HON2.out.1.c1
        have f1 := HON2.out.1.fz 1
        have HO2 := Hid.mk' (HON2.out.set1 (s'.k + hd + n) ((s'.k : Int) + ((hd : Int) + (n : Int))) (by omega) (by omega))
        have cv := HCV.out _ _ HO2.out
        clear bl HON
        go_wp2
        go_ret
        exact ⟨rfl, HO2.out⟩
  · have HS' : Hid (Calls Tryd.prog 58 #[.pointer (some ⟨r, 0, none⟩)] w fun e w' => e = .returned (.bool true) ∧ w' = w) := by have := HS.out; rw [show decide (s.bad ≠ 0) = true by simp [hb]] at this; exact this
    have e0 : rText L most s = ([], s) := by unfold rText; rw [if_neg hb]
    rw [e0]
    have HO := Hid.mk' h.on
    clear HS h e0
    go_enter Tryd.func26, Tryd.ntmps26
    go_wp2_with fail
    refine HS'.out.mono ?_
    rintro e w1 ⟨rfl, hw1⟩
    subst hw1
    go_wp2
    go_ret
    exact ⟨rfl, HO.out⟩
end Go.Proofs.YtbpmpcmmdiaiiaaDoor.K

namespace Go.Proofs.YtbpmpcmmdiaiiaaDoor.K
open Go.RowKit
set_option linter.unusedVariables false
set_option linter.unusedSimpArgs false

theorem not64 (x : Nat) (h : x < 9223372036854775808) : wrap64 (bits .xor .u64 IntKind.u64.max (x : Int)) = -(x : Int) - 1 := by
  have e : bits .xor .u64 IntKind.u64.max (x : Int) = ((18446744073709551615 - x : Nat) : Int) := by
    show IntKind.u64.wrap ((BitVec.ofInt 64 IntKind.u64.max ^^^ BitVec.ofInt 64 (x : Int)).toNat : Int) = _
    rw [show BitVec.ofInt 64 IntKind.u64.max = BitVec.allOnes 64 by decide, BitVec.allOnes_xor, BitVec.toNat_not, BitVec.toNat_ofInt, IntKind.wrap_u64]
    omega
  rw [e]
  unfold wrap64
  omega
variable {T : TypeId} {r cap : Nat} {a : Option Addr} {L : List UInt8} {s : St}
set_option maxRecDepth 100000 in
set_option maxHeartbeats 1000000 in
theorem int_any (w : World) (h : RD w T r a cap L s) :
    Calls Tryd.prog 25 #[.pointer (some ⟨r, 0, none⟩)] w fun e w' => e = .returned (.int .i64 (rInt L s).1) ∧ On w w' T r a cap L (rInt L s).2 := by
  have HU := Hid.mk' (uint_any 18446744073709551615 (by decide) w h)
  have hlt := rUint_lt L 18446744073709551615 s h.at_le
  unfold rInt
  generalize rUint L 18446744073709551615 s = u at *
  obtain ⟨n, s'⟩ := u
  simp only at HU hlt ⊢
  clear h
  by_cases h2 : n % 2 = 1
  · have h2' : (n : Int) % 2 = 1 := by omega
    go_enter Tryd.func25, Tryd.ntmps25
    go_wp2_with fail
    refine HU.out.mono ?_
    rintro e w1 ⟨rfl, ho⟩
    have HO := Hid.mk' ho
    clear ho HU
    go_wp2
    go_ret
    exact ⟨ret_int (by unfold unzig; rw [if_pos h2, show (n : Int) / 2 = ((n / 2 : Nat) : Int) by omega]; exact not64 _ (by omega)), HO.out⟩
  · have h2' : (n : Int) % 2 = 0 := by omega
    go_enter Tryd.func25, Tryd.ntmps25
    go_wp2_with fail
    refine HU.out.mono ?_
    rintro e w1 ⟨rfl, ho⟩
    have HO := Hid.mk' ho
    clear ho HU
    go_wp2
    go_ret
    exact ⟨ret_int (by unfold unzig; rw [if_neg h2]; omega), HO.out⟩
end Go.Proofs.YtbpmpcmmdiaiiaaDoor.K

namespace Go.Proofs.YtbpmpcmmdiaiiaaDoor.K
open Go.RowKit
set_option linter.unusedVariables false
set_option linter.unusedSimpArgs false

/-! What must be whatever is asked. -/
variable {p : Nat} {g : Option Nat} {M : List UInt8} {e : Int}
set_option maxRecDepth 100000 in
theorem wlen_any (n : Nat) (w : World) (hw : WS w 50 p g M e) (hn : M.length = n) :
    Calls Tryd.prog 8 #[.pointer (some ⟨p, 0, none⟩)] w fun x w' => x = .returned (.int .i64 (n : Int)) ∧ w' = w := by
  subst hn
  obtain ⟨a, cv, c0, c1, _, _⟩ := hw.view
  clear hw
  generalize M.length = n at *
  go_enter Tryd.func8, Tryd.ntmps8
  go_wp2
  go_ret
  exact ⟨rfl, rfl⟩
theorem ws_new (w : World) (T : TypeId) : WS (w.alloc (.cells #[.slice none 0 0, .int .i64 0] T)) T w.heap.size none [] 0 := ⟨⟨.slice none 0 0, heap_alloc_new _ _, ownB_nil _ _, rfl⟩, by simp⟩
/-- A Writer of the call's own: what was there ahead stays. -/
theorem Wr.below {w w0 w1 : World} {T : TypeId} {p : Nat} {M : List UInt8} {e : Int} (h : Wr w0 w1 T p none M e) (h0 : Below w.heap.size w w0) (hp : w.heap.size ≤ p) : Below w.heap.size w w1 := by
  obtain ⟨g', _, f, _⟩ := h
  have hz := h0.size
  exact ⟨f.os.trans h0.os, f.tape.trans h0.tape, f.output.trans h0.output, Nat.le_trans h0.size f.size, fun k hk => (f.block k (by omega) (by omega) (by simp)).trans (h0.block k hk)⟩
def BB : List UInt8 := [172, 2, 1, 2, 97, 98, 63, 248, 0, 0, 0, 0, 0, 0]
theorem bb1 : wA [] 0 (vint 300) = [172, 2] := by rw [wA_0, vint_ge (by omega), vint_lt (by omega)]; rfl
theorem bb2 : wA [172, 2] 0 (vint (zig (-1))) = [172, 2, 1] := by rw [wA_0, show zig (-1) = 1 from rfl, vint_lt (by omega)]; rfl
theorem bb3 : wA [172, 2, 1] 0 (vint 2 ++ [97, 98]) = [172, 2, 1, 2, 97, 98] := by rw [wA_0, vint_lt (by omega)]; rfl
theorem bb4 : wA [172, 2, 1, 2, 97, 98] 0 (b8 4609434218613702656) = BB := by rw [wA_0]; decide +kernel
theorem rb1 : rUint BB 300 ⟨0, 0, 0⟩ = (300, ⟨2, 0, 0⟩) := by kernel_rfl
theorem rb2 : rInt BB ⟨2, 0, 0⟩ = (-1, ⟨3, 0, 0⟩) := by kernel_rfl
theorem rb3 : rText BB 2 ⟨3, 0, 0⟩ = ([97, 98], ⟨6, 0, 0⟩) := by kernel_rfl
theorem rb4 : rFloat BB ⟨6, 0, 0⟩ = (4609434218613702656, ⟨14, 0, 0⟩) := by kernel_rfl
theorem rb5 : doneE BB ⟨14, 0, 0⟩ = 0 ∧ doneP BB ⟨14, 0, 0⟩ = 0 := by decide +kernel
theorem vab : Lib.validD (⟨#[97, 98]⟩ : ByteArray).data.toList = true := by decide +kernel
theorem fin15 : finB 4609434218613702656 = true := by decide +kernel
theorem bb_cells : (#[.int .u8 172, .int .u8 2, .int .u8 1, .int .u8 2, .int .u8 97, .int .u8 98, .int .u8 63, .int .u8 248, .int .u8 0, .int .u8 0, .int .u8 0, .int .u8 0, .int .u8 0, .int .u8 0] : Array Value) = bs BB := rfl
set_option maxRecDepth 100000 in
set_option maxHeartbeats 4000000 in
theorem live_any (w : World) (hT : Tabs w) : Calls Tryd.prog 6 #[] w fun e w' => e = .returned (.bool true) ∧ Below w.heap.size w w' := by
  obtain ⟨w0, hw0⟩ : ∃ w0, w0 = w.alloc (.cells #[.slice none 0 0, .int .i64 0] 50) := ⟨_, rfl⟩
  have be0 : Hid (Below w.heap.size w w0) := by rw [hw0]; exact (Below.refl _ _).alloc (Nat.le_refl _) _
  have W0 : WS w0 50 w.heap.size none [] 0 := by rw [hw0]; exact ws_new w _
  have HT := Hid.mk' hT
  have H1 := Hid.mk' (wuint_any 300 (by decide) w0 W0 (by decide))
  rw [bb1] at H1
  clear hT W0
  go_enter Tryd.func6, Tryd.ntmps6
  go_wp2_with fail
  rw [← hw0]
  clear hw0
  refine H1.out.mono ?_
  rintro e w1 ⟨rfl, a1⟩
  have A1 := Hid.mk' a1
  have H2 : Hid (Calls Tryd.prog 21 #[.pointer (some ⟨w.heap.size, 0, none⟩), .int .i64 (-1)] w1 fun x w' => x = .returned (.tuple #[]) ∧ Wr w0 w' 50 w.heap.size none [172, 2, 1] 0) := by
    obtain ⟨g1, ws, fr, nw⟩ := a1
    have := wint_any (-1) (by decide) (by decide) w1 ws (by decide)
    rw [bb2] at this
    exact this.mono fun x w' h => ⟨h.1, Wr.step fr nw h.2⟩
  clear a1 H1
  go_wp2_with fail
  refine H2.out.mono ?_
  rintro e w2 ⟨rfl, a2⟩
  have H3 : Hid (Calls Tryd.prog 22 #[.pointer (some ⟨w.heap.size, 0, none⟩), .string ⟨#[97, 98]⟩] w2 fun x w' => x = .returned (.tuple #[]) ∧ Wr w0 w' 50 w.heap.size none [172, 2, 1, 2, 97, 98] 0) := by
    have hb2 := a2.below be0.out (Nat.le_refl _)
    obtain ⟨g1, ws, fr, nw⟩ := a2
    have := wtext_any ⟨#[97, 98]⟩ (by decide) vab w2 ws (HT.out.below hb2) (by decide)
    rw [show vint (⟨#[97, 98]⟩ : ByteArray).size ++ (⟨#[97, 98]⟩ : ByteArray).data.toList = vint 2 ++ [97, 98] from rfl, bb3] at this
    exact this.mono fun x w' h => ⟨h.1, Wr.step fr nw h.2⟩
  clear a2 H2 A1
  go_wp2_with fail
  refine H3.out.mono ?_
  rintro e w3 ⟨rfl, a3⟩
  have H4 : Hid (Calls Tryd.prog 23 #[.pointer (some ⟨w.heap.size, 0, none⟩), .float .f64 4609434218613702656] w3 fun x w' => x = .returned (.tuple #[]) ∧ Wr w0 w' 50 w.heap.size none BB 0) := by
    obtain ⟨g1, ws, fr, nw⟩ := a3
    have := wfloat_any 4609434218613702656 (by decide) fin15 w3 ws (by decide)
    rw [bb4] at this
    exact this.mono fun x w' h => ⟨h.1, Wr.step fr nw h.2⟩
  clear a3 H3
  go_wp2_with fail
  refine H4.out.mono ?_
  rintro e w4 ⟨rfl, a4⟩
  have b4 : Below w.heap.size w w4 := a4.below be0.out (Nat.le_refl _)
  obtain ⟨g4, ws4, fr4, nw4⟩ := a4
  have H5 := Hid.mk' (wdone0 w4 ws4 (by decide) (by decide))
  have WS4 := Hid.mk' ws4
  have B4 := Hid.mk' b4
  clear fr4 nw4 ws4 b4 H4
  go_wp2_with fail
  refine H5.out.mono ?_
  rintro e w5 ⟨bk, cv, rfl, own5, b5⟩
  have B5 : Hid (Below w.heap.size w w5) := B4.out.trans (b5.mono B4.out.size)
  have WS5 : Hid (WS w5 50 w.heap.size g4 BB 0) := WS4.out.below b5
  have Y5 : Hid (Byt w5 (some ⟨bk, 0, none⟩) BB) := by
    obtain ⟨a, cap, h1, h2, h3, h4⟩ := own5.open
    cases h1
    exact h3
  have LB : BB.length = 14 := rfl
  rw [LB]
  have bA : Below w5.heap.size w5 (w5.alloc (.cells (bs BB) 5)) := (Below.refl _ _).alloc (Nat.le_refl _) _
  have S6 : Hid (Calls Tryd.prog 19 #[.slice (some ⟨bk, 0, none⟩) 14 cv, .slice (some ⟨w5.heap.size, 0, none⟩) 14 14] (w5.alloc (.cells #[.int .u8 172, .int .u8 2, .int .u8 1, .int .u8 2, .int .u8 97, .int .u8 98, .int .u8 63, .int .u8 248, .int .u8 0, .int .u8 0, .int .u8 0, .int .u8 0, .int .u8 0, .int .u8 0] 5)) fun e w' => e = .returned (.bool true) ∧ Below w5.heap.size w5 w') :=
    (same_any (some ⟨bk, 0, none⟩) (some ⟨w5.heap.size, 0, none⟩) BB 14 cv 14 (w5.alloc (.cells (bs BB) 5)) rfl (byt_below Y5.out bA) (byt_lit w5 BB 5) (by decide)).mono fun e w' ⟨h1, m, h2⟩ => by
      have bB := below_drewN bA m
      rw [← h2] at bB
      exact ⟨h1, bB⟩
  clear own5 b5 LB bA H5
  go_wp2_with fail
  refine S6.out.mono ?_
  rintro e w6 ⟨rfl, b6⟩
  have B6 : Hid (Below w.heap.size w w6) := B5.out.trans (b6.mono B5.out.size)
  have Y6 : Hid (Byt w6 (some ⟨bk, 0, none⟩) BB) := byt_below Y5.out b6
  have L6 := Hid.mk' (wlen_any 14 w6 (WS5.out.below b6) rfl)
  clear b6 S6
  go_wp2_with fail
  refine L6.out.mono ?_
  rintro e w7 ⟨rfl, hw7⟩
  subst hw7
  have N7 := Hid.mk' (new_any bk 0 14 cv BB w7 rfl (by decide) Y6.out)
  clear L6
  go_wp2_with fail
  refine N7.out.mono ?_
  rintro e w8 ⟨r, a, c, rfl, rd8, hr8, b8⟩
  have B8 : Hid (Below w.heap.size w w8) := B6.out.trans (b8.mono B6.out.size)
  have hr : Hid (w.heap.size ≤ r) := by show _ ≤ _; have := B6.out.size; omega
  have U8 := Hid.mk' (uint_any 300 (by decide) w8 rd8)
  rw [rb1] at U8
  clear rd8 b8 N7
  go_wp2_with fail
  refine U8.out.mono ?_
  rintro e w9 ⟨rfl, rd9, fr9⟩
  have B9 : Hid (Below w.heap.size w w9) := B8.out.trans (fr9.below _ hr.out B8.out.size)
  have I9 := Hid.mk' (int_any w9 rd9)
  rw [rb2] at I9
  clear rd9 fr9 U8
  go_wp2_with fail
  refine I9.out.mono ?_
  rintro e w10 ⟨rfl, rd10, fr10⟩
  have B10 : Hid (Below w.heap.size w w10) := B9.out.trans (fr10.below _ hr.out B9.out.size)
  have T10 := Hid.mk' (text_any 2 (by decide) w10 rd10 (HT.out.below B10.out) (HT.out.ne hr.out))
  rw [rb3] at T10
  clear rd10 fr10 I9
  go_wp2_with fail
  refine T10.out.mono ?_
  rintro e w11 ⟨rfl, rd11, fr11⟩
  have B11 : Hid (Below w.heap.size w w11) := B10.out.trans (fr11.below _ hr.out B10.out.size)
  have F11 := Hid.mk' (float_any w11 rd11)
  rw [rb4] at F11
  clear rd11 fr11 T10
  go_wp2_with fail
  refine F11.out.mono ?_
  rintro e w12 ⟨rfl, rd12, fr12⟩
  have B12 : Hid (Below w.heap.size w w12) := B11.out.trans (fr12.below _ hr.out B11.out.size)
  have D12 := Hid.mk' (rdone_any w12 rd12)
  rw [rb5.1, rb5.2] at D12
  have R12 := Hid.mk' rd12
  clear rd12 fr12 F11
  go_wp2_with fail
  refine D12.out.mono ?_
  rintro e w13 ⟨rfl, m13, hm13⟩
  have B13 : Hid (Below w.heap.size w w13) := by rw [hm13]; exact below_drewN B12.out _
  have A13 : Hid (Calls Tryd.prog 14 #[.pointer (some ⟨r, 0, none⟩)] w13 fun e w' => e = .returned (.int .i64 14) ∧ w' = w13) := by rw [hm13]; exact rat_any _ (R12.out.drew m13)
  have z : (FloatKind.f64.format.order 4609434218613702656 4609434218613702656 == some .eq) = true := by decide +kernel
  clear hm13 D12
  go_wp2_with fail
  refine A13.out.mono ?_
  rintro e w14 ⟨rfl, hw14⟩
  subst hw14
  go_wp2
  go_ret
  exact ⟨rfl, B13.out⟩
end Go.Proofs.YtbpmpcmmdiaiiaaDoor.K

namespace Go.Proofs.YtbpmpcmmdiaiiaaDoor
open Go.RowKit
set_option linter.unusedVariables false
set_option linter.unusedSimpArgs false

/-- What an Op may be. -/
structure OpOk (W : World) (o : OpV) : Prop where
  hh : o.h.length = 32
  u : o.u < 18446744073709551616
  n0 : -9223372036854775808 ≤ o.n
  n1 : o.n < 9223372036854775808
  f : o.f < 18446744073709551616
  b0 : 0 ≤ o.b
  b1 : o.b ≤ 255
  s : o.s.size ≤ 140737488351232
  r : ∃ R : List UInt8, R.length = o.rn ∧ o.rn ≤ 140737488351232 ∧ K.Byt W o.ra R
  l : ∃ L : List (List UInt8), All32 L ∧ L.length = o.ln ∧ o.ln ≤ 4398046510976 ∧ Hl W o.la L
theorem wdd_below {w w' : World} {Post : World → World → Prop} (h : Wdd w Post w') (hp : ∀ wx w1, Post wx w1 → Below wx.heap.size wx w1) : Below w.heap.size w w' := by
  obtain ⟨wx, b, _, q⟩ := h
  exact b.trans ((hp _ _ q).mono b.size)
theorem wee_below {w w' : World} {Post : World → World → Prop} (h : Wee w Post w') (hp : ∀ wx w1, Post wx w1 → Below wx.heap.size wx w1) : Below w.heap.size w w' := by
  obtain ⟨wx, w1, b, hz, q, f⟩ := h
  have b2 := b.trans ((hp _ _ q).mono b.size)
  have hz2 := (hp _ _ q).size
  exact ⟨f.os.trans b2.os, f.tape.trans b2.tape, f.output.trans b2.output, Nat.le_trans b2.size f.size, fun k hk => (f.block k (by omega) (by omega)).trans (b2.block k hk)⟩
theorem rdd_below {w w' : World} {Post : World → World → Prop} (h : Rdd w Post w') (hp : ∀ wx w1, Post wx w1 → Below wx.heap.size wx w1) : Below w.heap.size w w' := by
  obtain ⟨wx, w1, b, hz, q, f⟩ := h
  have b2 := b.trans ((hp _ _ q).mono b.size)
  have := f.below (B := w.heap.size) (by omega)
  exact b2.trans this
theorem wnil (k : Int) (o : OpV) (W w : World) (ok : OpOk W o) (hb : Below W.heap.size W w) (hT : K.Tabs W) :
    Calls Tryd.prog 7 #[.pointer none, .agg (o.c k)] w fun x w' => x = .returned (.bool true) ∧ Below w.heap.size w w' := by
  have fin : ∀ {x : Ending} {w' : World} {Post : World → World → Prop}, (∀ wx w1, Post wx w1 → Below wx.heap.size wx w1) → (x = .returned (.bool true) ∧ Wdd w Post w') → (x = .returned (.bool true) ∧ Below w.heap.size w w') := fun hp h => ⟨h.1, wdd_below h.2 hp⟩
  by_cases hk : k < 0 ∨ 10 < k
  · exact (write_no none o ok.hh k hk w).mono fun x w' h => fin (fun wx w1 e => by subst e; exact Below.refl _ _) h
  · have : k = 0 ∨ k = 1 ∨ k = 2 ∨ k = 3 ∨ k = 4 ∨ k = 5 ∨ k = 6 ∨ k = 7 ∨ k = 8 ∨ k = 9 ∨ k = 10 := by omega
    rcases this with e | e | e | e | e | e | e | e | e | e | e <;> subst e
    · exact (write_0 none o ok.hh w (fun wx w1 => Below wx.heap.size wx w1) (fun wx _ _ => K.nbyte _ wx)).mono fun x w' h => fin (fun _ _ e => e) h
    · exact (write_1 none o ok.hh w (fun wx w1 => Below wx.heap.size wx w1) (fun wx _ _ => K.nbool _ wx)).mono fun x w' h => fin (fun _ _ e => e) h
    · exact (write_2 none o ok.hh w (fun wx w1 => Below wx.heap.size wx w1) (fun wx _ _ => K.nfix _ (by omega) (by omega) wx)).mono fun x w' h => fin (fun _ _ e => e) h
    · exact (write_3 none o ok.hh w (fun wx w1 => Below wx.heap.size wx w1) (fun wx _ _ => K.nuint _ ok.u wx)).mono fun x w' h => fin (fun _ _ e => e) h
    · exact (write_4 none o ok.hh w (fun wx w1 => Below wx.heap.size wx w1) (fun wx _ _ => K.nint _ ok.n0 ok.n1 wx)).mono fun x w' h => fin (fun _ _ e => e) h
    · exact (write_5 none o ok.hh w (fun wx w1 => Below wx.heap.size wx w1) (fun wx _ _ => K.nfloat _ ok.f wx)).mono fun x w' h => fin (fun _ _ e => e) h
    · exact (write_6 none o ok.hh w (fun wx w1 => Below wx.heap.size wx w1) (fun wx bx _ => K.ntext _ (by have := ok.s; omega) wx (hT.below (hb.trans (bx.mono hb.size))))).mono fun x w' h => fin (fun _ _ e => e) h
    · obtain ⟨R, h1, h2, h3⟩ := ok.r
      refine (write_7 none o ok.hh R h1 h2 w (K.byt_below h3 hb) (fun wx w1 => Below wx.heap.size wx w1) (fun wx bx _ _ => ?_)).mono fun x w' h => ⟨h.1, wee_below h.2 (fun _ _ e => e)⟩
      exact (K.nraw _ _ _ (by omega) wx).mono fun x w1 h => ⟨h.1, h.2, Keeps.of_below h.2, K.byt_below (K.byt_below h3 (hb.trans (bx.mono hb.size))) h.2⟩
    · exact (write_8 none o ok.hh w (fun wx w1 => Below wx.heap.size wx w1) (fun wx _ _ => nhash _ ok.hh wx)).mono fun x w' h => fin (fun _ _ e => e) h
    · obtain ⟨L, h32, h1, h2, h3⟩ := ok.l
      refine (write_9 none o ok.hh L h32 h1 h2 w (h3.below h32 hb) (fun wx w1 => Below wx.heap.size wx w1) (fun wx bx _ hs => ?_)).mono fun x w' h => ⟨h.1, wee_below h.2 (fun _ _ e => e)⟩
      have := nhashes ⟨w.heap.size + 1, 0, none⟩ L (o.ln + 9) wx h32 (by omega) (.inr ⟨_, _, rfl, hs⟩)
      rw [h1] at this
      exact this.mono fun x w1 h => ⟨h.1, h.2, Keeps.of_below h.2, (h3.below h32 (hb.trans (bx.mono hb.size))).below h32 h.2⟩
    · exact (write_10 none o ok.hh w (fun wx w1 => Below wx.heap.size wx w1) (fun wx _ _ => (K.nfail _ wx).mono fun x w1 h => ⟨h.1, by rw [h.2]; exact Below.refl _ _⟩)).mono fun x w' h => fin (fun _ _ e => e) h
theorem rnil (k u m e : Int) (w : World) :
    Calls Tryd.prog 11 #[.pointer none, .agg #[.int .i64 k, .int .u64 u, .int .i64 m, .int .i64 e]] w fun x w' => x = .returned (.agg gz) ∧ Below w.heap.size w w' := by
  have fin : ∀ {x : Ending} {w' : World}, (x = .returned (.agg gz) ∧ Rdd w (fun wx w1 => w1 = wx) w') → (x = .returned (.agg gz) ∧ Below w.heap.size w w') := fun h => ⟨h.1, rdd_below h.2 (fun wx w1 e => by subst e; exact Below.refl _ _)⟩
  have kp : ∀ {x : Ending} {v : Value} {wx w1 : World}, (x = .returned v ∧ w1 = wx) → (x = .returned v ∧ w1 = wx ∧ Keeps w.heap.size wx w1) := fun h => ⟨h.1, h.2, by rw [h.2]; exact Keeps.refl _ _⟩
  by_cases hk : k < 0 ∨ 10 < k
  · exact (read_no none k u m e hk w).mono fun x w' h => fin h
  · have : k = 0 ∨ k = 1 ∨ k = 2 ∨ k = 3 ∨ k = 4 ∨ k = 5 ∨ k = 6 ∨ k = 7 ∨ k = 8 ∨ k = 9 ∨ k = 10 := by omega
    rcases this with e | e | e | e | e | e | e | e | e | e | e <;> subst e
    · exact (read_0 none u m e 0 w (fun wx w1 => w1 = wx) (fun wx _ _ => (nrbyte wx).mono fun x w1 h => kp h)).mono fun x w' h => fin h
    · exact (read_1 none u m e false w (fun wx w1 => w1 = wx) (fun wx _ _ => (nrbool wx).mono fun x w1 h => kp h)).mono fun x w' h => fin h
    · exact (read_2 none u m e 0 (by decide) (by decide) w (fun wx w1 => w1 = wx) (fun wx _ _ => (nrfix wx).mono fun x w1 h => kp h)).mono fun x w' h => fin h
    · exact (read_3 none u m e 0 w (fun wx w1 => w1 = wx) (fun wx _ _ => (nruint _ wx).mono fun x w1 h => kp h)).mono fun x w' h => fin h
    · exact (read_4 none u m e 0 w (fun wx w1 => w1 = wx) (fun wx _ _ => (nrint wx).mono fun x w1 h => kp h)).mono fun x w' h => fin h
    · exact (read_5 none u m e 0 w (fun wx w1 => w1 = wx) (fun wx _ _ => (nrfloat wx).mono fun x w1 h => kp h)).mono fun x w' h => fin h
    · exact (read_6 none u m e ⟨#[]⟩ w (fun wx w1 => w1 = wx) (fun wx _ _ => (nrtext _ wx).mono fun x w1 h => kp h)).mono fun x w' h => fin h
    · refine (read_7 none u m e w (fun v wx w1 => v = .slice none 0 0 ∧ w1 = wx) (fun wx _ _ => (nrraw _ wx).mono fun x w1 h => ⟨none, 0, 0, h.1, ⟨rfl, h.2⟩, by rw [h.2]; exact Keeps.refl _ _⟩)).mono ?_
      rintro x w' ⟨a, n, c, rfl, wx, w1, h1, h2, ⟨h3, h4⟩, h5⟩
      rw [h3]
      exact fin ⟨rfl, wx, w1, h1, h2, h4, h5⟩
    · refine (read_8 none u m e z32 z32_len w (fun wx w1 => Below wx.heap.size wx w1) (fun wx _ _ => (nrhash wx).mono fun x w1 h => ⟨h.1, h.2, Keeps.of_below h.2⟩)).mono ?_
      rintro x w' ⟨rfl, h⟩
      exact ⟨rfl, rdd_below h (fun _ _ e => e)⟩
    · refine (read_9 none u m e w (fun v wx w1 => v = .slice none 0 0 ∧ w1 = wx) (fun wx _ _ => (nrhashes _ wx).mono fun x w1 h => ⟨none, 0, 0, h.1, ⟨rfl, h.2⟩, by rw [h.2]; exact Keeps.refl _ _⟩)).mono ?_
      rintro x w' ⟨a, n, c, rfl, wx, w1, h1, h2, ⟨h3, h4⟩, h5⟩
      rw [h3]
      exact fin ⟨rfl, wx, w1, h1, h2, h4, h5⟩
    · exact (read_10 none u m e w (fun wx w1 => w1 = wx) (fun wx _ _ => (nrfail _ _ wx).mono fun x w1 h => kp h)).mono fun x w' h => fin h
theorem samegz (w : World) : Calls Tryd.prog 10 #[.agg gz, .agg gz] w fun e w' => e = .returned (.bool true) ∧ Below w.heap.size w w' :=
  same_true 0 0 0 false 0 ⟨#[]⟩ none none 0 0 0 [] z32 none none 0 0 0 [] w rfl (by decide) (.inl rfl) (.inl rfl) z32_len (fun _ h => by cases h) rfl (by decide) (.inl rfl) (.inl rfl) (fun wx => sameV0 wx)
end Go.Proofs.YtbpmpcmmdiaiiaaDoor

