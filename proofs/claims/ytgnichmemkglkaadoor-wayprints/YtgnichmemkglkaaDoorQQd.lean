import Derived.Test.YtgnichmemkglkaaDoorQQh
import Derived.Test.YtgnichmemkglkaaDoorQTa
namespace Go.Proofs.YtgnichmemkglkaaDoor.Q
open Go.RowKit
set_option linter.unusedVariables false
set_option linter.unusedSimpArgs false

theorem wpList_appS {ops : Array Oper} {rest : List Oper} {o : Oper} {a : Act} {w : World} {Q : Exit → Act → World → Prop} (hgd : o.guard = none) (sl x : Operand)
    (ho : o.op = .call { callee := .builtin .append, args := #[sl, x], argTypes := #[36, 9] }) (base : Nat) (v : Value) (L : List UInt8) (hs : a.eval sl = v) (hown : OwnB w base v L)
    (s : ByteArray) (hx : a.eval x = .string s) (hlen : L.length + s.data.toList.length ≤ 140737488355328) (hbase : base ≤ w.heap.size)
    (h : ∀ v' w', OwnB w' base v' (L ++ s.data.toList) → w.grownBy w' v.ownBlock → wpList Tryd.prog ops Q rest (a.put o.dst v') w') : wpList Tryd.prog ops Q (o :: rest) a w :=
  wpList_plain hgd fun _ hK => by
    obtain ⟨v', w', hr, h2, h3⟩ := run_appS w base o.type v L s hown hlen hbase
    unfold Oper.wp execOp
    simp only [ho, resolve, invoke, builtin, Sem.run_bind, Sem.run_pure, Result.andThen_ok, List.map_toArray, List.map_cons, List.map_nil, hs, hx, hr]
    exact hK _ _ (h v' w' h2 h3)
theorem flat_at (l : List UInt8) (k : Nat) (h : k < l.length) : (l.drop k).flatMap escB = escB (l.getD k 0) ++ (l.drop (k + 1)).flatMap escB := by
  rw [List.drop_eq_getElem_cons h, List.flatMap_cons]
  congr 2
  simp [List.getElem?_eq_getElem h]
theorem esc_is {c : UInt8} {n : Nat} (h : c.toNat = n) (hn : n < 256) : c = UInt8.ofNat n := by
  apply UInt8.toNat_inj.1
  rw [UInt8.toNat_ofNat']
  omega
set_option maxRecDepth 100000 in
set_option maxHeartbeats 4000000 in
theorem quoted_any (s : ByteArray) (w : World) (hs : s.size ≤ 16777216) :
    Calls Tryd.prog 30 #[.string s, .int .u8 34] w fun e w' => e = .returned (.string ⟨(quoL s.data.toList).toArray⟩) ∧ Below w.heap.size w w' := by
  have b0 : Below w.heap.size w (w.alloc (.cells #[.int .u8 34] 5)) := (Below.refl _ _).alloc (Nat.le_refl _) _
  have O0 : Hid (OwnB (w.alloc (.cells #[.int .u8 34] 5)) w.heap.size (.slice (some ⟨w.heap.size, 0, none⟩) 1 1) [34]) := ⟨rfl, .inr ⟨w.heap.size, 1, #[.int .u8 34], rfl, Nat.le_refl _, heap_alloc_new _ _, by simp, by simp [maxLen], rfl, rfl⟩⟩
  have hlen : s.data.toList.length = s.size := by simp
  go_enter Tryd.func30, Tryd.ntmps30
  go_wp2
  go_loopw [5, 6] (fun v i wr => ∃ (k : Nat) (L : List UInt8), k ≤ s.size ∧ i = .int .i64 k ∧ Hid (OwnB wr w.heap.size v L) ∧ Hid (Below w.heap.size w wr) ∧ Hid (L ++ (s.data.toList.drop k).flatMap escB = [34] ++ s.data.toList.flatMap escB)) (fun _ i _ => s.size - (intOf i).toNat)
  case atStart => exact ⟨0, [34], by omega, rfl, O0, b0, rfl⟩
  case round =>
    obtain ⟨k, L, hk, rfl, own, bel, hT⟩ := hrel
    clear O0 b0
    have zr := bel.out.size
    have LB : Hid (L.length + 6 ≤ 140737488355328) := by
      have h1 := congrArg List.length hT.out
      have h2 := esc_total s.data.toList
      simp only [List.length_append, List.length_cons, List.length_nil] at h1
      show _ ≤ _
      omega
    obtain ⟨av, cv, rfl, hcv, byv, hav⟩ := own.out.open
    clear byv hav
    by_cases h : k < s.size
    · have h' : (k : Int) < (s.size : Int) := by omega
      have ix := index_str s k wr h
      have HT2 : Hid (L ++ escB (s.data.toList.getD k 0) ++ (s.data.toList.drop (k + 1)).flatMap escB = [34] ++ s.data.toList.flatMap escB) := (by rw [← hT.out, flat_at _ k (by omega), List.append_assoc] : _ = _)
      have hcc : Hid (by8 s k = (s.data.toList.getD k 0).toNat) := rfl
      have clt := by8_lt s k
      have own' := own
      obtain ⟨C, hC⟩ : ∃ C, s.data.toList.getD k 0 = C := ⟨_, rfl⟩
      rw [hC] at HT2 hcc
      generalize by8 s k = c at *
      clear hT hC own
      by_cases h34 : c = 34
      · subst h34
        obtain rfl : C = 34 := esc_is (n := 34) hcc.out.symm (by omega)
        clear hcc clt
        have eE : Hid (escB 34 = [92, 34]) := rfl
        have be0 : Below wr.heap.size wr (wr.alloc (.cells #[.int .u8 92, .int .u8 34] 5)) := (Below.refl _ _).alloc (Nat.le_refl _) _
        have OA : Hid (OwnB (wr.alloc (.cells #[.int .u8 92, .int .u8 34] 5)) w.heap.size (.slice av L.length cv) L) := own'.out.below be0
        have BA : Hid (Byt (wr.alloc (.cells #[.int .u8 92, .int .u8 34] 5)) (some ⟨wr.heap.size, 0, none⟩) [92, 34]) := byt_lit2 wr [92, 34] 5
        have LA : Hid (L.length + ([92, 34] : List UInt8).length ≤ 140737488355328) := (by have := LB.out; simp; omega : _ ≤ _)
        have ZA : Hid (w.heap.size ≤ (wr.alloc (.cells #[.int .u8 92, .int .u8 34] 5)).heap.size) := (by simp; omega : _ ≤ _)
        have BW : Hid (Below w.heap.size w (wr.alloc (.cells #[.int .u8 92, .int .u8 34] 5))) := bel.out.trans (be0.mono zr)
        rw [eE.out] at HT2
        clear be0 own' LB bel hlen eE
        go_wp2_with (first | (at_builtin; refine wpList_app rfl (.tmp 31) (.tmp 33) rfl w.heap.size (.slice av L.length cv) L rfl OA.out (some ⟨wr.heap.size, 0, none⟩) 2 2 [92, 34] rfl rfl BA.out LA.out ZA.out ?_) | fail)
        intro v5 w5 own5 gr5
        have O5 : Hid (OwnB w5 w.heap.size v5 (L ++ [92, 34])) := own5
        have B5 : Hid (Below w.heap.size w w5) := below_own BW.out OA.out gr5 ZA.out
        clear own5 gr5 OA BA LA ZA BW
        go_wp2
        go_roundw
        case rel => exact ⟨k + 1, L ++ [92, 34], by omega, by go_num, O5, B5, HT2⟩
        case measure => simp [intOf]; omega
      have i34 : ((c : Int) == 34) = false := beq_eq_false_iff_ne.2 (by omega)
      by_cases h92 : c = 92
      · subst h92
        obtain rfl : C = 92 := esc_is (n := 92) hcc.out.symm (by omega)
        clear hcc clt
        have eE : Hid (escB 92 = [92, 92]) := rfl
        have be0 : Below wr.heap.size wr (wr.alloc (.cells #[.int .u8 92, .int .u8 92] 5)) := (Below.refl _ _).alloc (Nat.le_refl _) _
        have OA : Hid (OwnB (wr.alloc (.cells #[.int .u8 92, .int .u8 92] 5)) w.heap.size (.slice av L.length cv) L) := own'.out.below be0
        have BA : Hid (Byt (wr.alloc (.cells #[.int .u8 92, .int .u8 92] 5)) (some ⟨wr.heap.size, 0, none⟩) [92, 92]) := byt_lit2 wr [92, 92] 5
        have LA : Hid (L.length + ([92, 92] : List UInt8).length ≤ 140737488355328) := (by have := LB.out; simp; omega : _ ≤ _)
        have ZA : Hid (w.heap.size ≤ (wr.alloc (.cells #[.int .u8 92, .int .u8 92] 5)).heap.size) := (by simp; omega : _ ≤ _)
        have BW : Hid (Below w.heap.size w (wr.alloc (.cells #[.int .u8 92, .int .u8 92] 5))) := bel.out.trans (be0.mono zr)
        rw [eE.out] at HT2
        clear be0 own' LB bel hlen eE
        go_wp2_with (first | (at_builtin; refine wpList_app rfl (.tmp 31) (.tmp 33) rfl w.heap.size (.slice av L.length cv) L rfl OA.out (some ⟨wr.heap.size, 0, none⟩) 2 2 [92, 92] rfl rfl BA.out LA.out ZA.out ?_) | fail)
        intro v5 w5 own5 gr5
        have O5 : Hid (OwnB w5 w.heap.size v5 (L ++ [92, 92])) := own5
        have B5 : Hid (Below w.heap.size w w5) := below_own BW.out OA.out gr5 ZA.out
        clear own5 gr5 OA BA LA ZA BW
        go_wp2
        go_roundw
        case rel => exact ⟨k + 1, L ++ [92, 92], by omega, by go_num, O5, B5, HT2⟩
        case measure => simp [intOf]; omega
      have i92 : ((c : Int) == 92) = false := beq_eq_false_iff_ne.2 (by omega)
      by_cases h10 : c = 10
      · subst h10
        obtain rfl : C = 10 := esc_is (n := 10) hcc.out.symm (by omega)
        clear hcc clt
        have eE : Hid (escB 10 = [92, 110]) := rfl
        have be0 : Below wr.heap.size wr (wr.alloc (.cells #[.int .u8 92, .int .u8 110] 5)) := (Below.refl _ _).alloc (Nat.le_refl _) _
        have OA : Hid (OwnB (wr.alloc (.cells #[.int .u8 92, .int .u8 110] 5)) w.heap.size (.slice av L.length cv) L) := own'.out.below be0
        have BA : Hid (Byt (wr.alloc (.cells #[.int .u8 92, .int .u8 110] 5)) (some ⟨wr.heap.size, 0, none⟩) [92, 110]) := byt_lit2 wr [92, 110] 5
        have LA : Hid (L.length + ([92, 110] : List UInt8).length ≤ 140737488355328) := (by have := LB.out; simp; omega : _ ≤ _)
        have ZA : Hid (w.heap.size ≤ (wr.alloc (.cells #[.int .u8 92, .int .u8 110] 5)).heap.size) := (by simp; omega : _ ≤ _)
        have BW : Hid (Below w.heap.size w (wr.alloc (.cells #[.int .u8 92, .int .u8 110] 5))) := bel.out.trans (be0.mono zr)
        rw [eE.out] at HT2
        clear be0 own' LB bel hlen eE
        go_wp2_with (first | (at_builtin; refine wpList_app rfl (.tmp 38) (.tmp 39) rfl w.heap.size (.slice av L.length cv) L rfl OA.out (some ⟨wr.heap.size, 0, none⟩) 2 2 [92, 110] rfl rfl BA.out LA.out ZA.out ?_) | fail)
        intro v5 w5 own5 gr5
        have O5 : Hid (OwnB w5 w.heap.size v5 (L ++ [92, 110])) := own5
        have B5 : Hid (Below w.heap.size w w5) := below_own BW.out OA.out gr5 ZA.out
        clear own5 gr5 OA BA LA ZA BW
        go_wp2
        go_roundw
        case rel => exact ⟨k + 1, L ++ [92, 110], by omega, by go_num, O5, B5, HT2⟩
        case measure => simp [intOf]; omega
      have i10 : ((c : Int) == 10) = false := beq_eq_false_iff_ne.2 (by omega)
      by_cases h13 : c = 13
      · subst h13
        obtain rfl : C = 13 := esc_is (n := 13) hcc.out.symm (by omega)
        clear hcc clt
        have eE : Hid (escB 13 = [92, 114]) := rfl
        have be0 : Below wr.heap.size wr (wr.alloc (.cells #[.int .u8 92, .int .u8 114] 5)) := (Below.refl _ _).alloc (Nat.le_refl _) _
        have OA : Hid (OwnB (wr.alloc (.cells #[.int .u8 92, .int .u8 114] 5)) w.heap.size (.slice av L.length cv) L) := own'.out.below be0
        have BA : Hid (Byt (wr.alloc (.cells #[.int .u8 92, .int .u8 114] 5)) (some ⟨wr.heap.size, 0, none⟩) [92, 114]) := byt_lit2 wr [92, 114] 5
        have LA : Hid (L.length + ([92, 114] : List UInt8).length ≤ 140737488355328) := (by have := LB.out; simp; omega : _ ≤ _)
        have ZA : Hid (w.heap.size ≤ (wr.alloc (.cells #[.int .u8 92, .int .u8 114] 5)).heap.size) := (by simp; omega : _ ≤ _)
        have BW : Hid (Below w.heap.size w (wr.alloc (.cells #[.int .u8 92, .int .u8 114] 5))) := bel.out.trans (be0.mono zr)
        rw [eE.out] at HT2
        clear be0 own' LB bel hlen eE
        go_wp2_with (first | (at_builtin; refine wpList_app rfl (.tmp 44) (.tmp 45) rfl w.heap.size (.slice av L.length cv) L rfl OA.out (some ⟨wr.heap.size, 0, none⟩) 2 2 [92, 114] rfl rfl BA.out LA.out ZA.out ?_) | fail)
        intro v5 w5 own5 gr5
        have O5 : Hid (OwnB w5 w.heap.size v5 (L ++ [92, 114])) := own5
        have B5 : Hid (Below w.heap.size w w5) := below_own BW.out OA.out gr5 ZA.out
        clear own5 gr5 OA BA LA ZA BW
        go_wp2
        go_roundw
        case rel => exact ⟨k + 1, L ++ [92, 114], by omega, by go_num, O5, B5, HT2⟩
        case measure => simp [intOf]; omega
      have i13 : ((c : Int) == 13) = false := beq_eq_false_iff_ne.2 (by omega)
      by_cases h9 : c = 9
      · subst h9
        obtain rfl : C = 9 := esc_is (n := 9) hcc.out.symm (by omega)
        clear hcc clt
        have eE : Hid (escB 9 = [92, 116]) := rfl
        have be0 : Below wr.heap.size wr (wr.alloc (.cells #[.int .u8 92, .int .u8 116] 5)) := (Below.refl _ _).alloc (Nat.le_refl _) _
        have OA : Hid (OwnB (wr.alloc (.cells #[.int .u8 92, .int .u8 116] 5)) w.heap.size (.slice av L.length cv) L) := own'.out.below be0
        have BA : Hid (Byt (wr.alloc (.cells #[.int .u8 92, .int .u8 116] 5)) (some ⟨wr.heap.size, 0, none⟩) [92, 116]) := byt_lit2 wr [92, 116] 5
        have LA : Hid (L.length + ([92, 116] : List UInt8).length ≤ 140737488355328) := (by have := LB.out; simp; omega : _ ≤ _)
        have ZA : Hid (w.heap.size ≤ (wr.alloc (.cells #[.int .u8 92, .int .u8 116] 5)).heap.size) := (by simp; omega : _ ≤ _)
        have BW : Hid (Below w.heap.size w (wr.alloc (.cells #[.int .u8 92, .int .u8 116] 5))) := bel.out.trans (be0.mono zr)
        rw [eE.out] at HT2
        clear be0 own' LB bel hlen eE
        go_wp2_with (first | (at_builtin; refine wpList_app rfl (.tmp 50) (.tmp 51) rfl w.heap.size (.slice av L.length cv) L rfl OA.out (some ⟨wr.heap.size, 0, none⟩) 2 2 [92, 116] rfl rfl BA.out LA.out ZA.out ?_) | fail)
        intro v5 w5 own5 gr5
        have O5 : Hid (OwnB w5 w.heap.size v5 (L ++ [92, 116])) := own5
        have B5 : Hid (Below w.heap.size w w5) := below_own BW.out OA.out gr5 ZA.out
        clear own5 gr5 OA BA LA ZA BW
        go_wp2
        go_roundw
        case rel => exact ⟨k + 1, L ++ [92, 116], by omega, by go_num, O5, B5, HT2⟩
        case measure => simp [intOf]; omega
      have i9 : ((c : Int) == 9) = false := beq_eq_false_iff_ne.2 (by omega)
      by_cases hh : c < 32 ∨ c = 127
      · have hC2 : Hid (c = C.toNat) := hcc.out
        have eE : Hid (escB C = [92, 117, 48, 48, hx ((C.toNat : Int) / 16), hx ((C.toNat : Int) % 16)]) := (by
          have e : ∀ j : Nat, j < 128 → c ≠ j → C ≠ UInt8.ofNat j := fun j hj hcj e => by
            have := hcc.out
            rw [e, UInt8.toNat_ofNat'] at this
            omega
          have e34 : C ≠ 34 := e 34 (by omega) h34
          have e92 : C ≠ 92 := e 92 (by omega) h92
          have e10 : C ≠ 10 := e 10 (by omega) h10
          have e13 : C ≠ 13 := e 13 (by omega) h13
          have e9 : C ≠ 9 := e 9 (by omega) h9
          have hcn := hcc.out
          have h7 : C.toNat < 32 ∨ C = 127 := by
            rcases hh with h | h
            · exact .inl (by omega)
            · exact .inr (esc_is (n := 127) (by omega) (by omega))
          unfold escB
          rw [if_neg (by rintro (h | h); exact e34 h; exact e92 h), if_neg e10, if_neg e13, if_neg e9, if_pos h7]
          exact (rfl : (_ : List UInt8) = _))
        have be0 : Below wr.heap.size wr (wr.alloc (.cells #[.int .u8 (c : Int)] 5)) := (Below.refl _ _).alloc (Nat.le_refl _) _
        have HX : Hid (Calls Tryd.prog 45 #[.slice (some ⟨wr.heap.size, 0, none⟩) 1 1] (wr.alloc (.cells #[.int .u8 (c : Int)] 5)) fun e w' => e = .returned (.string ⟨#[hx ((C.toNat : Int) / 16), hx ((C.toNat : Int) % 16)]⟩) ∧ Below wr.heap.size wr w') := (hex_one wr.heap.size C _ (c : Int) (by rw [hC2.out]) (heap_alloc_new _ _)).mono fun e w' x => ⟨x.1, be0.trans (x.2.mono (by simp))⟩
        rw [eE.out] at HT2
        generalize hx ((C.toNat : Int) / 16) = x1 at *
        generalize hx ((C.toNat : Int) % 16) = x2 at *
        clear be0 hC2 eE hcc
        rcases hh with hh | hh
        · have i32 : (c : Int) < 32 := by omega
          go_wp2_with fail
          refine HX.out.mono ?_
          rintro e w4 ⟨rfl, b4⟩
          have OA : Hid (OwnB w4 w.heap.size (.slice av L.length cv) L) := own'.out.below b4
          have LA : Hid (L.length + ((⟨#[92, 117, 48, 48]⟩ : ByteArray) ++ (⟨#[x1, x2]⟩ : ByteArray)).data.toList.length ≤ 140737488355328) := (by have := LB.out; simp; omega : _ ≤ _)
          have BW : Hid (Below w.heap.size w w4) := bel.out.trans (b4.mono zr)
          have ZA : Hid (w.heap.size ≤ w4.heap.size) := BW.out.size
          have eA : Hid (((⟨#[92, 117, 48, 48]⟩ : ByteArray) ++ (⟨#[x1, x2]⟩ : ByteArray)).data.toList = [92, 117, 48, 48, x1, x2]) := (by simp : _ = _)
          have SA : Hid (∃ T, T = ((⟨#[92, 117, 48, 48]⟩ : ByteArray) ++ (⟨#[x1, x2]⟩ : ByteArray))) := ⟨_, rfl⟩
          clear HX own' LB bel b4 hlen
          go_wp2_with (first | (at_builtin; refine wpList_appS rfl (.tmp 60) (.tmp 64) rfl w.heap.size (.slice av L.length cv) L rfl OA.out ((⟨#[92, 117, 48, 48]⟩ : ByteArray) ++ (⟨#[x1, x2]⟩ : ByteArray)) rfl LA.out ZA.out ?_) | fail)
          intro v5 w5 own5 gr5
          have O5 : Hid (OwnB w5 w.heap.size v5 (L ++ [92, 117, 48, 48, x1, x2])) := own5
          have B5 : Hid (Below w.heap.size w w5) := below_own BW.out OA.out gr5 ZA.out
          clear own5 gr5 OA LA ZA BW eA SA
          go_wp2
          go_roundw
          case rel => exact ⟨k + 1, L ++ [92, 117, 48, 48, x1, x2], by omega, by go_num, O5, B5, HT2⟩
          case measure => simp [intOf]; omega
        · have i32 : ¬ (c : Int) < 32 := by omega
          have i127 : ((c : Int) == 127) = true := beq_iff_eq.2 (by omega)
          clear hh
          go_wp2_with fail
          refine HX.out.mono ?_
          rintro e w4 ⟨rfl, b4⟩
          have OA : Hid (OwnB w4 w.heap.size (.slice av L.length cv) L) := own'.out.below b4
          have LA : Hid (L.length + ((⟨#[92, 117, 48, 48]⟩ : ByteArray) ++ (⟨#[x1, x2]⟩ : ByteArray)).data.toList.length ≤ 140737488355328) := (by have := LB.out; simp; omega : _ ≤ _)
          have BW : Hid (Below w.heap.size w w4) := bel.out.trans (b4.mono zr)
          have ZA : Hid (w.heap.size ≤ w4.heap.size) := BW.out.size
          have eA : Hid (((⟨#[92, 117, 48, 48]⟩ : ByteArray) ++ (⟨#[x1, x2]⟩ : ByteArray)).data.toList = [92, 117, 48, 48, x1, x2]) := (by simp : _ = _)
          have SA : Hid (∃ T, T = ((⟨#[92, 117, 48, 48]⟩ : ByteArray) ++ (⟨#[x1, x2]⟩ : ByteArray))) := ⟨_, rfl⟩
          clear HX own' LB bel b4 hlen
          go_wp2_with (first | (at_builtin; refine wpList_appS rfl (.tmp 60) (.tmp 64) rfl w.heap.size (.slice av L.length cv) L rfl OA.out ((⟨#[92, 117, 48, 48]⟩ : ByteArray) ++ (⟨#[x1, x2]⟩ : ByteArray)) rfl LA.out ZA.out ?_) | fail)
          intro v5 w5 own5 gr5
          have O5 : Hid (OwnB w5 w.heap.size v5 (L ++ [92, 117, 48, 48, x1, x2])) := own5
          have B5 : Hid (Below w.heap.size w w5) := below_own BW.out OA.out gr5 ZA.out
          clear own5 gr5 OA LA ZA BW eA SA
          go_wp2
          go_roundw
          case rel => exact ⟨k + 1, L ++ [92, 117, 48, 48, x1, x2], by omega, by go_num, O5, B5, HT2⟩
          case measure => simp [intOf]; omega
      have i32 : ¬ (c : Int) < 32 := by omega
      have i127 : ((c : Int) == 127) = false := beq_eq_false_iff_ne.2 (by omega)
      have eE : Hid (escB C = [C]) := (by
        have e : ∀ j : Nat, j < 128 → c ≠ j → C ≠ UInt8.ofNat j := fun j hj hcj e => by
          have := hcc.out
          rw [e, UInt8.toNat_ofNat'] at this
          omega
        have e34 : C ≠ 34 := e 34 (by omega) h34
        have e92 : C ≠ 92 := e 92 (by omega) h92
        have e10 : C ≠ 10 := e 10 (by omega) h10
        have e13 : C ≠ 13 := e 13 (by omega) h13
        have e9 : C ≠ 9 := e 9 (by omega) h9
        have e127 : C ≠ 127 := e 127 (by omega) (by omega)
        have hcn := hcc.out
        unfold escB
        rw [if_neg (by rintro (h | h); exact e34 h; exact e92 h), if_neg e10, if_neg e13, if_neg e9, if_neg (by rintro (h | h); omega; exact e127 h)]
        exact (rfl : [C] = [C]))
      have be0 : Below wr.heap.size wr (wr.alloc (.cells #[.int .u8 (c : Int)] 5)) := (Below.refl _ _).alloc (Nat.le_refl _) _
      have OA : Hid (OwnB (wr.alloc (.cells #[.int .u8 (c : Int)] 5)) w.heap.size (.slice av L.length cv) L) := own'.out.below be0
      have BA : Hid (Byt (wr.alloc (.cells #[.int .u8 (c : Int)] 5)) (some ⟨wr.heap.size, 0, none⟩) [C]) := (by
        have h := byt_lit2 wr [C] 5
        rw [show bs [C] = #[.int .u8 (c : Int)] by rw [hcc.out]; rfl] at h
        exact h)
      have LA : Hid (L.length + ([C] : List UInt8).length ≤ 140737488355328) := (by have := LB.out; simp; omega : _ ≤ _)
      have ZA : Hid (w.heap.size ≤ (wr.alloc (.cells #[.int .u8 (c : Int)] 5)).heap.size) := (by simp; omega : _ ≤ _)
      have BW : Hid (Below w.heap.size w (wr.alloc (.cells #[.int .u8 (c : Int)] 5))) := bel.out.trans (be0.mono zr)
      rw [eE.out] at HT2
      clear be0 own' LB bel hlen eE hcc
      go_wp2_with (first | (at_builtin; refine wpList_app rfl (.tmp 19) (.tmp 21) rfl w.heap.size (.slice av L.length cv) L rfl OA.out (some ⟨wr.heap.size, 0, none⟩) 1 1 [C] rfl rfl BA.out LA.out ZA.out ?_) | fail)
      intro v5 w5 own5 gr5
      have O5 : Hid (OwnB w5 w.heap.size v5 (L ++ [C])) := own5
      have B5 : Hid (Below w.heap.size w w5) := below_own BW.out OA.out gr5 ZA.out
      clear own5 gr5 OA BA LA ZA BW
      go_wp2
      go_roundw
      case rel => exact ⟨k + 1, L ++ [C], by omega, by go_num, O5, B5, HT2⟩
      case measure => simp [intOf]; omega
    · have h' : ¬ (k : Int) < (s.size : Int) := by omega
      have eL : Hid (L ++ [34] = quoL s.data.toList) := by
        have e := hT.out
        rw [List.drop_eq_nil_of_le (by omega), List.flatMap_nil, List.append_nil] at e
        show _ = _
        rw [e]
        rfl
      have ln : 0 < (quoL s.data.toList).length := by simp [quoL]
      have be0 : Below wr.heap.size wr (wr.alloc (.cells #[.int .u8 34] 5)) := (Below.refl _ _).alloc (Nat.le_refl _) _
      have OA : Hid (OwnB (wr.alloc (.cells #[.int .u8 34] 5)) w.heap.size (.slice av L.length cv) L) := own.out.below be0
      have BA : Hid (Byt (wr.alloc (.cells #[.int .u8 34] 5)) (some ⟨wr.heap.size, 0, none⟩) [34]) := byt_lit2 wr [34] 5
      have LA : Hid (L.length + [(34 : UInt8)].length ≤ 140737488355328) := (by have := LB.out; simp; omega : _ ≤ _)
      have ZA : Hid (w.heap.size ≤ (wr.alloc (.cells #[.int .u8 34] 5)).heap.size) := (by simp; omega : _ ≤ _)
      have BW : Hid (Below w.heap.size w (wr.alloc (.cells #[.int .u8 34] 5))) := bel.out.trans (be0.mono zr)
      clear own bel hT LB be0 hlen
      go_wp2_with (first | (at_builtin; refine wpList_app rfl (.tmp 66) (.tmp 68) rfl w.heap.size (.slice av L.length cv) L rfl OA.out (some ⟨wr.heap.size, 0, none⟩) 1 1 [34] rfl rfl BA.out LA.out ZA.out ?_) | fail)
      intro v5 w5 own5 gr5
      have B5 : Hid (Below w.heap.size w w5) := below_own BW.out OA.out gr5 ZA.out
      rw [eL.out] at own5
      obtain ⟨g1, c1, rfl, hc1, hcl, _, _⟩ := own5.open1 ln
      have hcv5 := run_convert_bytes_back (P := Tryd.prog) w5 36 9 5 ⟨g1, 0, none⟩ c1 (quoL s.data.toList) Tryd.underlying36 Tryd.underlying5 Tryd.underlying9 (fun j hj => by
        have e : (⟨g1, 0, none⟩ : Addr).add j = ⟨g1, j, none⟩ := by simpa using Addr.add_mid g1 0 j
        rw [e, hcl j hj]
        simp [at8, List.getElem?_eq_getElem hj])
      clear own5 gr5 hcl hc1 OA BA LA ZA BW ln
      generalize hQL : quoL s.data.toList = QL at *
      have HQL : Hid (quoL s.data.toList = QL) := hQL
      clear hQL
      go_wp2
      go_ret
      exact ⟨by rw [HQL.out]; rfl, B5.out⟩
end Go.Proofs.YtgnichmemkglkaaDoor.Q
