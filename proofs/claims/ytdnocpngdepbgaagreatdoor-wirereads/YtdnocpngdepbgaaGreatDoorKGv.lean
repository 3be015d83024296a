import Derived.Test.YtdnocpngdepbgaaGreatDoorKGu
namespace Go.Proofs.YtdnocpngdepbgaaGreatDoor.K
open Go.Shelf Go.RowKit
set_option linter.unusedVariables false
set_option linter.unusedSimpArgs false

/-- How many bytes stand ahead of the first with which no character begins. -/
def goodF : Nat → List UInt8 → Nat
  | 0, _ => 0
  | f + 1, l => if l.length = 0 then 0 else if wd l = 0 then 0 else wd l + goodF f (l.drop (wd l))
def good (l : List UInt8) : Nat := goodF l.length l
theorem goodF_le : ∀ (f : Nat) (l : List UInt8), goodF f l ≤ l.length
  | 0, l => Nat.zero_le _
  | f + 1, l => by
    unfold goodF
    split
    · omega
    · split
      · omega
      · rename_i h0 h1
        have := goodF_le f (l.drop (wd l))
        have := wdl_le l (by omega)
        rw [List.length_drop] at *
        omega
theorem goodF_end (f : Nat) (l : List UInt8) (h : l.length = 0) : goodF f l = 0 := by
  cases f with
  | zero => rfl
  | succ f => unfold goodF; rw [if_pos h]
theorem goodF_stop (f : Nat) (l : List UInt8) (h : wd l = 0) : goodF f l = 0 := by
  cases f with
  | zero => rfl
  | succ f => unfold goodF; split <;> first | rfl | (rw [if_pos h])
theorem goodF_on (f : Nat) (l : List UInt8) (h : 0 < l.length) (hf : l.length ≤ f) (h1 : wd l ≠ 0) : goodF f l = wd l + goodF (f - 1) (l.drop (wd l)) := by
  cases f with
  | zero => omega
  | succ f => unfold goodF; rw [if_neg (by omega), if_neg h1]; cases f <;> rfl
theorem decL_pos (l : List UInt8) : 1 ≤ (Lib.decodeL l).2 := by
  rw [Lib.decodeL_N]
  unfold Lib.decodeN
  repeat' split
  all_goals (simp only []; omega)
def Tabs (w : World) : Prop := Lib.Utf8Tabs 0 1 w
theorem Tabs.below {w w' : World} (h : Tabs w) (hb : Below w.heap.size w w') : Tabs w' :=
  ⟨fun c hc => (hb.cell (p := ⟨0, c, none⟩) (block_lt_of_cell (h.1 c hc))).trans (h.1 c hc), fun i hi => ⟨(hb.cell (p := ⟨1, 2 * i, none⟩) (block_lt_of_cell (h.2 i hi).1)).trans (h.2 i hi).1, (hb.cell (p := ⟨1, 2 * i + 1, none⟩) (block_lt_of_cell (h.2 i hi).2)).trans (h.2 i hi).2⟩⟩
theorem Tabs.fr {w w' : World} {r : Nat} (h : Tabs w) (hb : Fr r w w') (hr : 0 ≠ r ∧ 1 ≠ r) : Tabs w' :=
  ⟨fun c hc => hb.cell (p := ⟨0, c, none⟩) (by show 0 ≠ r; exact hr.1) (h.1 c hc), fun i hi => ⟨hb.cell (p := ⟨1, 2 * i, none⟩) (by show 1 ≠ r; exact hr.2) (h.2 i hi).1, hb.cell (p := ⟨1, 2 * i + 1, none⟩) (by show 1 ≠ r; exact hr.2) (h.2 i hi).2⟩⟩
theorem Tabs.ne {w : World} {r : Nat} (h : Tabs w) (hr : w.heap.size ≤ r) : 0 ≠ r ∧ 1 ≠ r := by
  have h1 : 0 < w.heap.size := block_lt_of_cell (h.1 0 (by decide))
  have h2 : 1 < w.heap.size := block_lt_of_cell (h.2 0 (by decide)).1
  exact ⟨by show _ ≠ _; omega, by show _ ≠ _; omega⟩
def laysD_ren : Go.Shelf.Ren := ⟨fun | 32 => 132 | 49 => 138 | n => n, fun | 25 => 121 | 30 => 25 | 33 => 199 | 66 => 193 | 68 => 195 | 69 => 196 | n => n, fun | 2 => 0 | 3 => 1 | n => n⟩
theorem laysD : Lays7.n32 Tryz.prog laysD_ren := {
  mixed := by kernel_rfl
  f32 := Tryz.func132.trans (congrArg some (by kernel_rfl))
  f49 := Tryz.func138.trans (congrArg some (by kernel_rfl))
  t0 := Tryz.underlying0
  a0 := Tryz.isAgg0
  z0 := Tryz.sizeOf0
  v0 := Tryz.zeroValue0
  i0 := by kernel_rfl
  t3 := Tryz.underlying3
  a3 := Tryz.isAgg3
  z3 := Tryz.sizeOf3
  v3 := Tryz.zeroValue3
  i3 := by kernel_rfl
  t4 := Tryz.underlying4
  a4 := Tryz.isAgg4
  z4 := Tryz.sizeOf4
  v4 := Tryz.zeroValue4
  i4 := by kernel_rfl
  t5 := Tryz.underlying5
  a5 := Tryz.isAgg5
  z5 := Tryz.sizeOf5
  v5 := Tryz.zeroValue5
  i5 := by kernel_rfl
  t21 := Tryz.underlying21
  a21 := Tryz.isAgg21
  z21 := Tryz.sizeOf21
  v21 := Tryz.zeroValue21
  i21 := by kernel_rfl
  t25 := Tryz.underlying121
  a25 := Tryz.isAgg121
  z25 := Tryz.sizeOf121
  v25 := Tryz.zeroValue121
  i25 := by kernel_rfl
  t30 := Tryz.underlying25
  a30 := Tryz.isAgg25
  z30 := Tryz.sizeOf25
  v30 := Tryz.zeroValue25
  i30 := by kernel_rfl
  t33 := Tryz.underlying199
  a33 := Tryz.isAgg199
  z33 := Tryz.sizeOf199
  v33 := Tryz.zeroValue199
  i33 := by kernel_rfl
  t66 := Tryz.underlying193
  a66 := Tryz.isAgg193
  z66 := Tryz.sizeOf193
  t68 := Tryz.underlying195
  a68 := Tryz.isAgg195
  z68 := Tryz.sizeOf195
  v68 := Tryz.zeroValue195
  i68 := by kernel_rfl
  t69 := Tryz.underlying196
  a69 := Tryz.isAgg196
  z69 := Tryz.sizeOf196
  v69 := Tryz.zeroValue196
  i69 := by kernel_rfl
  g2 := by kernel_rfl
  g3 := by kernel_rfl }
theorem decode_any (b off n cap : Nat) (l : List UInt8) (w : World) (hl : l.length = n) (h0 : 0 < n) (hb : Byt w (some ⟨b, off, none⟩) l) (hT : Tabs w) :
    Calls Tryz.prog 132 #[.slice (some ⟨b, off, none⟩) n cap] w fun e w' => e = .returned (.tuple #[.int .i32 ((Lib.decodeL l).1 : Nat), .int .i64 ((Lib.decodeL l).2 : Nat)]) ∧ Below w.heap.size w w' := by
  have hsz : (⟨l.toArray⟩ : ByteArray).size = n := by show l.toArray.size = n; simp [hl]
  have h := Any7.utf8_DecodeRune laysD ⟨l.toArray⟩ b off cap w hT (fun j hj => by
    rw [hsz] at hj
    rcases hb with rfl | ⟨b', off', e, hc⟩
    · simp at hl; omega
    · cases e
      rw [hc j (by omega)]
      unfold at8
      congr 2
      have : (⟨l.toArray⟩ : ByteArray).get! j = l.getD j 0 := by
        show l.toArray.getD j default = _
        simp [List.getD_eq_getElem?_getD]
        rfl
      rw [this])
  have e : Lib.decodeGo ⟨l.toArray⟩ = Lib.decodeL l := by
    unfold Lib.decodeGo
    rw [if_neg (by omega)]
    rfl
  rw [e, hsz] at h
  exact h
set_option maxRecDepth 100000 in
set_option maxHeartbeats 1000000 in
theorem goodText_any (b off n cap : Nat) (l : List UInt8) (w : World) (hl : l.length = n) (hn : n ≤ 140737488351232) (hcap : n ≤ cap) (hb : Byt w (some ⟨b, off, none⟩) l) (hT : Tabs w) :
    Calls Tryz.prog 108 #[.slice (some ⟨b, off, none⟩) n cap] w fun e w' => e = .returned (.int .i64 (good l : Int)) ∧ Below w.heap.size w w' := by
  obtain ⟨G, hG⟩ : ∃ G, good l = G := ⟨_, rfl⟩
  rw [hG]
  have HG : Hid (0 + goodF n (l.drop 0) = G) := by
    show _ = _
    rw [← hG, ← hl]
    simp [good]
  have HB := Hid.mk' hb
  have HT := Hid.mk' hT
  have HL := Hid.mk' hl
  have HZ : Hid (∀ j, (l.drop j).length = n - j) := fun j => by rw [List.length_drop, hl]
  have HW : Hid (∀ j, j < n → wd (l.drop j) ≤ n - j) := fun j hj => by
    have := wdl_le (l.drop j) (by rw [List.length_drop]; omega)
    rw [List.length_drop, hl] at this
    exact this
  clear hG hb hT hl
  go_enter Tryz.func108, Tryz.ntmps108
  go_wp2
  go_loopw [3] (fun i wr => ∃ j f : Nat, j ≤ n ∧ i = .int .i64 (j : Int) ∧ Hid (n - j ≤ f) ∧ Hid (j + goodF f (l.drop j) = G) ∧ Below w.heap.size w wr) (fun i _ => n - (intOf i).toNat)
  case atStart => exact ⟨0, n, by omega, rfl, Nat.le_refl _, HG, Below.refl _ _⟩
  case round =>
    clear HG
    obtain ⟨j, f, hj, rfl, HF, HG, bel⟩ := hrel
    by_cases hjn : j < n
    · have hjn' : (j : Int) < (n : Int) := by omega
      have s1 := sl_from (some ⟨b, off, none⟩) n cap j (j : Int) rfl hj
      have s2 := sl_from' (some ⟨b, off, none⟩) n cap j (j : Int) rfl hj
      have eA : from23 (some ⟨b, off, none⟩) cap j = some ⟨b, off + j, none⟩ := by
        unfold from23
        rw [if_neg (by omega)]
        simp [Addr.add_mid]
      rw [eA] at s1 s2
      have D := Hid.mk' (decode_any b (off + j) (n - j) (cap - j) (l.drop j) wr (HZ.out j) (by omega) (by
        have h1 := byt_from (byt_below HB.out bel) cap j (by rw [HL.out]; exact hcap)
        rw [eA] at h1
        exact h1) (HT.out.below bel))
      have wle := HW.out j hjn
      have wdd := wd_dec (l.drop j)
      have hpos := decL_pos (l.drop j)
      generalize Lib.decodeL (l.drop j) = d at *
      obtain ⟨d1, d2⟩ := d
      simp only at wdd D hpos
      clear eA
      generalize hnj : n - j = nj at *
      generalize cap - j = cj at *
      have HB2 := Hid.mk' bel
      by_cases hbad : d1 = 65533 ∧ d2 = 1
      · rw [if_pos hbad] at wdd
        have e0 : j = G := by rw [← HG.out, goodF_stop f (l.drop j) wdd]; rfl
        obtain ⟨rfl, rfl⟩ := hbad
        subst e0
        clear HG wdd bel
        go_wp2_with fail
        refine D.out.mono ?_
        rintro e w2 ⟨rfl, b2⟩
        have HB3 := Hid.mk' (HB2.out.trans (b2.mono (HB2.out.size)))
        clear b2
        go_wp2
        go_ret
        exact ⟨rfl, HB3.out⟩
      · rw [if_neg hbad] at wdd
        rw [wdd] at wle
        have HG2 : Hid (j + d2 + goodF (f - 1) (l.drop (j + d2)) = G) := by
          show _ = _
          have h1 := HG.out
          rw [goodF_on f (l.drop j) (by rw [HZ.out]; omega) (by rw [HZ.out]; have := HF.out; omega) (by omega), wdd, List.drop_drop] at h1
          omega
        have HF2 : Hid (n - (j + d2) ≤ f - 1) := by
          show _ ≤ _
          have := HF.out
          omega
        clear wdd HG HF bel
        by_cases h65 : d1 = 65533
        · have hd1 : ¬ d2 = 1 := fun h => hbad ⟨h65, h⟩
          have hd1' : ¬ (d2 : Int) = 1 := by omega
          subst h65
          clear hbad
          go_wp2_with fail
          refine D.out.mono ?_
          rintro e w2 ⟨rfl, b2⟩
          have HB3 := Hid.mk' (HB2.out.trans (b2.mono (HB2.out.size)))
          clear b2
          go_wp2
          exact ⟨⟨j + d2, f - 1, by omega, by go_num, HF2, HG2, HB3.out⟩, by simp [intOf]; omega⟩
        · have hd1' : ¬ (d1 : Int) = 65533 := by omega
          clear hbad
          go_wp2_with fail
          refine D.out.mono ?_
          rintro e w2 ⟨rfl, b2⟩
          have HB3 := Hid.mk' (HB2.out.trans (b2.mono (HB2.out.size)))
          clear b2
          go_wp2
          exact ⟨⟨j + d2, f - 1, by omega, by go_num, HF2, HG2, HB3.out⟩, by simp [intOf]; omega⟩
    · have e0 : j = G := by
        rw [← HG.out, goodF_end f (l.drop j) (by rw [HZ.out]; omega)]
        rfl
      have hjn' : ¬ (j : Int) < (n : Int) := by omega
      subst e0
      have HB3 := Hid.mk' bel
      clear HG bel
      go_wp2
      go_ret
      exact ⟨rfl, HB3.out⟩

set_option maxRecDepth 100000 in
set_option maxHeartbeats 1000000 in
theorem wrong_any (s : ByteArray) (w : World) (hs : s.size ≤ 140737488355328) :
    Calls Tryz.prog 119 #[.string s] w fun e w' => e = .returned (.int .i64 (good s.data.toList : Int)) ∧ w' = w := by
  have hl : s.data.toList.length = s.size := by simp
  obtain ⟨G, hG⟩ : ∃ G, good s.data.toList = G := ⟨_, rfl⟩
  rw [hG]
  have HG : Hid (0 + goodF s.size (s.data.toList.drop 0) = G) := by
    show _ = _
    rw [← hG, ← hl]
    simp [good]
  have HZ : Hid (∀ j, (s.data.toList.drop j).length = s.size - j) := fun j => by rw [List.length_drop, hl]
  have HW : Hid (∀ j, j < s.size → wd (s.data.toList.drop j) ≤ s.size - j) := fun j hj => by
    have := wdl_le (s.data.toList.drop j) (by rw [List.length_drop]; omega)
    rw [List.length_drop, hl] at this
    exact this
  clear hG hl
  go_enter Tryz.func119, Tryz.ntmps119
  go_wp2
  go_loopw [3] (fun i wr => ∃ j f : Nat, j ≤ s.size ∧ i = .int .i64 (j : Int) ∧ Hid (s.size - j ≤ f) ∧ Hid (j + goodF f (s.data.toList.drop j) = G) ∧ wr = w) (fun i _ => s.size - (intOf i).toNat)
  case atStart => exact ⟨0, s.size, by omega, rfl, Nat.le_refl _, HG, rfl⟩
  case round =>
    clear HG
    obtain ⟨j, f, hj, rfl, HF, HG, rfl⟩ := hrel
    by_cases hjn : j < s.size
    · have hjn' : (j : Int) < (s.size : Int) := by omega
      have D := Hid.mk' (fun wx => seq_any s j wx hjn hs)
      have wle := HW.out j hjn
      by_cases hz : wd (s.data.toList.drop j) = 0
      · have e0 : j = G := by rw [← HG.out, goodF_stop f _ hz]; rfl
        rw [hz] at D
        subst e0
        clear HG hz wle
        go_wp2_with fail
        refine (D.out _).mono ?_
        rintro e _ ⟨rfl, rfl⟩
        go_wp2
        go_ret
        exact ⟨rfl, rfl⟩
      · have h1 := HG.out
        rw [goodF_on f _ (by rw [HZ.out]; omega) (by rw [HZ.out]; have := HF.out; omega) hz, List.drop_drop] at h1
        have hF := HF.out
        generalize wd (s.data.toList.drop j) = d2 at *
        have HG2 : Hid (j + d2 + goodF (f - 1) (s.data.toList.drop (j + d2)) = G) := by
          show _ = _
          omega
        have HF2 : Hid (s.size - (j + d2) ≤ f - 1) := by
          show _ ≤ _
          omega
        have hd1' : ¬ (d2 : Int) = 0 := by omega
        clear h1 HG HF hF
        go_wp2_with fail
        refine (D.out _).mono ?_
        rintro e w2 ⟨rfl, rfl⟩
        go_wp2
        exact ⟨⟨j + d2, f - 1, by omega, by go_num, HF2, HG2, by trivial⟩, by simp [intOf]; omega⟩
    · have e0 : s.size = G := by
        rw [← HG.out, goodF_end f _ (by rw [HZ.out]; omega)]
        omega
      have hjn' : ¬ (j : Int) < (s.size : Int) := by omega
      have HE := Hid.mk' e0
      clear HG e0
      go_wp2
      go_ret
      exact ⟨ret_int (by rw [HE.out]), rfl⟩
end Go.Proofs.YtdnocpngdepbgaaGreatDoor.K
