import Derived.Test.YtefoipjbbfcjhaaDoorDc
namespace Go.Proofs.YtefoipjbbfcjhaaDoor
open Go.RowKit
set_option linter.unusedVariables false
set_option linter.unusedSimpArgs false

/-- What split makes. -/
def sV (l : List Nat) : List Value := l.map fun n : Nat => Value.string (Utf8.encode (n : Int))
theorem sV_app (l m : List Nat) : sV (l ++ m) = sV l ++ sV m := by simp [sV]
theorem ext_enc (s : ByteArray) (k : Nat) (hk : k < s.size) (hv : Lib.validD (s.data.toList.drop k) = true) :
    ∃ (r m : Nat), 0 < m ∧ k + m ≤ s.size ∧ Q.wideN (s.extract k s.size) = m ∧ s.extract k (k + m) = Utf8.encode (r : Int) ∧ Lib.validD (s.data.toList.drop (k + m)) = true ∧ rnL (s.size - k) (s.data.toList.drop k) = r :: rnL (s.size - (k + m)) (s.data.toList.drop (k + m)) := by
  obtain ⟨t, ht⟩ : ∃ t, s.extract k s.size = t := ⟨_, rfl⟩
  have zt : t.size = s.size - k := by rw [← ht, Lib.ext_size]
  have lt : t.data.toList = s.data.toList.drop k := by rw [← ht, Lib.ext_list]
  have hne := Q.ne_nil (s := t) (by omega)
  rw [← lt] at hv
  obtain ⟨e1, e2⟩ := wide_dec t (by omega) hv
  obtain ⟨v1, v2⟩ := valid_next _ hne hv
  have hle := Q.wideN_le t (by omega)
  have hp := decode_pos t.data.toList
  refine ⟨(Lib.decodeL t.data.toList).1, Q.wideN t, by omega, by omega, by rw [ht], ?_, ?_, ?_⟩
  · apply ByteArray.ext
    apply Array.toList_inj.1
    rw [← e2, lt]
    simp [List.extract_eq_take_drop]
  · rw [← e1] at v2
    rw [← List.drop_drop, ← lt]
    exact v2
  · obtain ⟨f, hf⟩ : ∃ f, s.size - k = f + 1 := ⟨s.size - k - 1, by omega⟩
    rw [hf, rnL, ← lt, if_neg hne, ← e1, ← List.drop_drop, ← lt]
    congr 1
    exact rnL_fuel _ _ _ (by simp; omega) (by simp; omega)
theorem sl_from (s : ByteArray) (k : Nat) (h : k ≤ s.size) (w : World) : (Instr.slice 9 (.string s) (some (.int .i64 (k : Int))) none none).run Tryd.prog w = .ok (.string (s.extract k s.size)) w := by
  have h1 : ¬ ((k : Int) < 0) := by omega
  simp [Instr.slice, run_underlying Tryd.underlying9, Instr.sliceBounds, Instr.sliceBound, asIntOf, h1, h]
theorem sl_both (s : ByteArray) (k m : Nat) (h : k ≤ m) (h2 : m ≤ s.size) (w : World) : (Instr.slice 9 (.string s) (some (.int .i64 (k : Int))) (some (.int .i64 (m : Int))) none).run Tryd.prog w = .ok (.string (s.extract k m)) w := by
  have h1 : ¬ ((k : Int) < 0) := by omega
  have h3 : ¬ ((m : Int) < 0) := by omega
  simp [Instr.slice, run_underlying Tryd.underlying9, Instr.sliceBounds, Instr.sliceBound, asIntOf, h1, h3, h, h2]
theorem at_sl {P : Program} {ops : Array Oper} {R : List Oper} {a : Act} {w : World} {Q : Exit → Act → World → Prop} {d : Option Tmp} {t : TypeId} {x : Operand} {y z v : Option Operand} {ty : TypeId} {pos : String} {af : _} {g : _}
    (h : wpList P ops Q (⟨d, .slice t x y z v, ty, pos, af, g⟩ :: R) a w) : wpList P ops Q (⟨d, .slice t x y z v, ty, pos, af, g⟩ :: R) a w := h
theorem wpList_slS {ops : Array Oper} {rest : List Oper} {o : Oper} {a : Act} {w : World} {Q : Exit → Act → World → Prop} (t l h : Operand) (ho : o.op = .slice 9 t (some l) (some h) none) (hg : o.guard = none) (s E : ByteArray) (k m : Nat) (x : Int)
    (hE : s.extract k m = E) (hkm : k ≤ m) (hms : m ≤ s.size) (hx : x = (m : Int)) (ht : a.eval t = .string s) (hl : a.eval l = .int .i64 (k : Int)) (hh : a.eval h = .int .i64 x) (hK : wpList Tryd.prog ops Q rest (a.put o.dst (.string E)) w) : wpList Tryd.prog ops Q (o :: rest) a w :=
  wpList_plain hg fun _ hK' => by
    have hr := sl_both s k m hkm hms w
    rw [hE, ← hx] at hr
    unfold Oper.wp execOp
    simp only [ho, Option.map, ht, hl, hh, Sem.run_bind, run_sliceAt_string w 9 _ _ _ _ Tryd.underlying9, hr, Result.andThen_ok]
    exact hK' _ _ hK
set_option maxRecDepth 100000 in
set_option maxHeartbeats 1000000 in
theorem split_any (s : ByteArray) (w : World) (hs : s.size ≤ 2097152) (hv : Lib.validD s.data.toList = true) :
    Calls Tryd.prog 16 #[.string s] w fun e w' => ∃ v, e = .returned v ∧ w'.ownsRow w.heap.size 9 1 v (rn s).length (sV (rn s)) ∧ Below w.heap.size w w' := by
  have H0 := Hid.mk' (World.ownsRow_nil w w.heap.size 9 1)
  have HV : Hid (Lib.validD (s.data.toList.drop 0) = true) := by show _ = _; simpa using hv
  have HR : Hid (rn s = [] ++ rnL (s.size - 0) (s.data.toList.drop 0)) := by show _ = _; simp [rn]
  generalize hRR : rn s = R at *
  clear hv hRR
  go_enter Tryd.func16, Tryd.ntmps16
  go_wp2
  go_loopw [3, 4] (fun l i wr => ∃ (k : Nat) (d : List Nat), k ≤ s.size ∧ d.length ≤ k ∧ i = .int .i64 k ∧ Hid (wr.ownsRow w.heap.size 9 1 l d.length (sV d)) ∧ Hid (Below w.heap.size w wr) ∧ Hid (Lib.validD (s.data.toList.drop k) = true) ∧ Hid (R = d ++ rnL (s.size - k) (s.data.toList.drop k))) (fun _ i _ => s.size - (intOf i).toNat)
  case atStart => exact ⟨0, [], by omega, by simp, rfl, H0, Below.refl _ _, HV, HR⟩
  case round =>
    obtain ⟨k, d, hk, hdk, rfl, HO, HB, HVk, HRk⟩ := hrel
    clear H0 HV HR
    by_cases h1 : k < s.size
    · have h1' : (k : Int) < (s.size : Int) := by omega
      obtain ⟨r, m, hm0, hm1, hw, hx, hv2, hr2⟩ := ext_enc s k h1 HVk.out
      obtain ⟨t, ht⟩ : ∃ t, s.extract k s.size = t := ⟨_, rfl⟩
      have zt : t.size = s.size - k := by rw [← ht, Lib.ext_size]
      have HW : Hid (∀ wx, Calls Tryd.prog 22 #[.string t] wx fun e w' => e = .returned (.int .i64 (m : Int)) ∧ w' = wx) := fun wx => by
        have := Q.wide_any t wx (by omega)
        rw [← ht, hw] at this
        rw [← ht]
        exact this
      have hm' : ¬ (m : Int) = 0 := by omega
      have HR2 : Hid (R = (d ++ [r]) ++ rnL (s.size - (k + m)) (s.data.toList.drop (k + m))) := by show _ = _; rw [HRk.out, hr2]; simp
      have HV2 := Hid.mk' hv2
      have HX := Hid.mk' hx
      clear hw hv2 hr2 HVk HRk hx
      have hd1 : Hid (d.length + 1 ≤ maxLen) := by show _ ≤ _; unfold maxLen; omega
      have hd2 : Hid ((d.length + 1) * 16 ≤ 140737488355328) := by show _ ≤ _; omega
      have hbs := Hid.mk' HB.out.size
      generalize hdl : d.length = dl at *
      go_wp2_with fail
      refine (HW.out _).mono ?_
      rintro e _ ⟨rfl, rfl⟩
      have HDL := Hid.mk' hdl
      clear ht zt HW hdl
      generalize hEE : Utf8.encode (r : Int) = EE at *
      have HEE := Hid.mk' hEE
      clear hEE
      have e1 : ((k + m : Nat) : Int) = (k : Int) + (m : Int) := by omega
      have hE1 := Hid.mk' e1.symm
      have h0' : ((m : Int) == 0) = false := by simp; omega
      clear e1
      go_wp2_with (first
        | (with_reducible refine at_sl ?_; refine wpList_slS (.tmp 17) (.tmp 18) (.tmp 21) rfl rfl s EE k (k + m) _ HX.out (Nat.le_add_right _ _) hm1 hE1.out rfl rfl rfl ?_)
        | (with_reducible refine at_bs ?_; refine wpList_push ei27 (.tmp 22) (.tmp 16) 23 rfl rfl rfl rfl rfl rfl (.string EE) rfl rfl w.heap.size _ dl (sV d) HO.out rfl rfl (one_str EE) hd1.out hd2.out hbs.out ?_)
        | fail)
      intro v3 w3 own3 gr3 _
      have HB3 : Hid (Below w.heap.size w w3) := HB.out.grown gr3 hbs.out (fun k hk => (World.ownsRow.lt HO.out k hk).1)
      have HO3 : Hid (w3.ownsRow w.heap.size 9 1 v3 (d ++ [r]).length (sV (d ++ [r]))) := by
        show World.ownsRow _ _ _ _ _ _ _
        rw [List.length_append, HDL.out, sV_app]
        have : sV [r] = (Value.string EE).cells.toList := by rw [← HEE.out]; rfl
        rw [this]
        exact own3
      have hd3 : Hid ((d ++ [r]).length ≤ k + m) := by show _ ≤ _; rw [List.length_append, HDL.out]; simp; omega
      clear own3 gr3 HO HB HDL hd1 hd2 hbs HX hE1
      go_wp2
      go_roundw
      case rel => exact ⟨k + m, d ++ [r], hm1, hd3.out, by go_num, HO3, HB3, HV2, HR2⟩
      case measure => simp [intOf]; omega
    · have h1' : ¬ (k : Int) < (s.size : Int) := by omega
      have HRR : Hid (R = d) := by
        show _ = _
        rw [HRk.out, List.drop_eq_nil_of_le (by simp; omega), rnL_nil, List.append_nil]
      clear HRk HVk
      go_wp2
      go_ret
      exact ⟨_, rfl, by rw [HRR.out]; exact HO.out, HB.out⟩
end Go.Proofs.YtefoipjbbfcjhaaDoor
