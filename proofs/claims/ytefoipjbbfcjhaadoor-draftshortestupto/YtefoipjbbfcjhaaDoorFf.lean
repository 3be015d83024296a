import Derived.Test.YtefoipjbbfcjhaaDoorFe
import Derived.Test.YtefoipjbbfcjhaaDoorDz
namespace Go.Proofs.YtefoipjbbfcjhaaDoor
open Go.RowKit
set_option linter.unusedVariables false
set_option linter.unusedSimpArgs false

theorem rd_own7' {w : World} {base e n c : Nat} {a : Option Addr} {L : List Value} (h : w.ownsRow base e 7 (.slice a n c) n L) : Rd w a L := fun j u hj => by
  rcases h.2 with ⟨e1, hn⟩ | ⟨g, cap, cur, e1, _⟩
  · have := h.1
    rw [hn] at this
    have := (List.getElem?_eq_some_iff.1 hj).1
    omega
  · cases e1
    have := World.ownsRow.cells h (g := g) rfl j u hj
    rw [Addr.add_mid, Nat.zero_add] at this
    exact ⟨g, rfl, this⟩
theorem own_pos' {w : World} {base e sz n : Nat} {v : Value} {xs : List Value} (h : w.ownsRow base e sz v n xs) : n ≤ 9223372036854775807 := by
  rcases h.2 with ⟨_, rfl⟩ | ⟨g, cap, cur, _, _, _, h1, h2, _⟩
  · exact Nat.zero_le _
  · unfold maxLen at h2
    omega
theorem DS.step {A B : List Nat} {tot : Nat} {p : Pat} {R' : List Pat} {now : List Nat} {cost last : Nat} (h : DS A B tot (p :: R') now cost last) :
    ∃ m : List Nat, p.txt = txt m ∧ (∀ n ∈ m, n ∈ B) ∧ last ≤ p.at' ∧ p.at' + p.cnt ≤ now.length ∧ 0 < p.cnt + m.length ∧ now.length - p.cnt + m.length ≤ A.length + B.length ∧ p.cnt ≤ A.length ∧ m.length ≤ B.length ∧ p.at' ≤ B.length ∧ DS A B tot R' (now.take p.at' ++ m ++ now.drop (p.at' + p.cnt)) (cost + (p.cnt + m.length)) (p.at' + m.length) := by
  obtain ⟨K, i0, j0, kp, g, e, hn, h1, h2, h3, h4, h5⟩ := h
  exact (DS.next K i0 j0 kp cost last now g hn h1 h2 h3 h4 h5).2 p R' e.symm
theorem DS.fin {A B : List Nat} {tot : Nat} {now : List Nat} {cost last : Nat} (h : DS A B tot [] now cost last) : now = B ∧ cost + 2 * tot = A.length + B.length := by
  obtain ⟨K, i0, j0, kp, g, e, hn, h1, h2, h3, h4, h5⟩ := h
  exact (DS.next K i0 j0 kp cost last now g hn h1 h2 h3 h4 h5).1 e.symm
theorem pc_alloc {wr W5 : World} {pa pc : Nat} {t : ByteArray} (b5 : Below (wr.alloc (.cells #[.int .u8 4, .slice none 0 0, .slice none 0 0, .int .i64 (pa : Int), .int .i64 (pc : Int), .string t, .slice none 0 0] 34)).heap.size (wr.alloc (.cells #[.int .u8 4, .slice none 0 0, .slice none 0 0, .int .i64 (pa : Int), .int .i64 (pc : Int), .string t, .slice none 0 0] 34)) W5) : PC W5 wr.heap.size 0 pa pc t ∧ Below wr.heap.size wr W5 :=
  ⟨(pc_of (heap_alloc_new _ _)).below b5, ((Below.refl _ _).alloc (Nat.le_refl _) _).trans (b5.mono (by simp))⟩
/-- The cells that are read of a patch. -/
theorem pc_facts {w : World} {g pa pc : Nat} {t : ByteArray} (h : PC w g 0 pa pc t) : w.cell? ⟨g, 0, none⟩ = some (.int .u8 4) ∧ w.cell? ⟨g, 3, none⟩ = some (.int .i64 (pa : Int)) ∧ w.cell? ⟨g, 4, none⟩ = some (.int .i64 (pc : Int)) := by
  have h3 := h.c3
  have h4 := h.c4
  rw [Nat.zero_add] at h3 h4
  exact ⟨h.c0, h3, h4⟩
theorem own_fin {W : World} {N N2 pa pc : Nat} {v : Value} {NW m : List Nat} (h : W.ownsRow N2 9 1 v (0 + pa + m.length + (NW.length - (pa + pc))) ([] ++ (sV NW).take pa ++ sV m ++ (sV NW).drop (pa + pc))) (hN : N ≤ N2) (hp : pa + pc ≤ NW.length) :
    W.ownsRow N 9 1 v (NW.take pa ++ m ++ NW.drop (pa + pc)).length (sV (NW.take pa ++ m ++ NW.drop (pa + pc))) := by
  have e1 : (NW.take pa ++ m ++ NW.drop (pa + pc)).length = 0 + pa + m.length + (NW.length - (pa + pc)) := by simp; omega
  have e2 : sV (NW.take pa ++ m ++ NW.drop (pa + pc)) = [] ++ (sV NW).take pa ++ sV m ++ (sV NW).drop (pa + pc) := by simp [sV, List.map_take, List.map_drop]
  rw [e1, e2]
  exact own_base h hN
theorem own_lit0 (W : World) : (W.alloc (.cells #[] 9)).ownsRow W.heap.size 9 1 (.slice (some ⟨W.heap.size, 0, none⟩) 0 0) 0 [] := World.ownsRow_lit W #[] 0 (Nat.le_refl _) (Nat.zero_le _) rfl
theorem own_z {w : World} {N n : Nat} {v : Value} {X : List Value} (h : w.ownsRow N 9 1 v (0 + n) ([] ++ X)) : w.ownsRow N 9 1 v n X := by
  rw [Nat.zero_add, List.nil_append] at h
  exact h
set_option maxRecDepth 100000 in
set_option maxHeartbeats 8000000 in
theorem shortest_of (s t : ByteArray) (w : World) (hs : s.size ≤ 1048576) (ht : t.size ≤ 1048576)
    (HS : Hid (Calls Tryd.prog 6 #[.string s, .string t] w fun e w' => ∃ v, e = .returned v ∧ w'.ownsRow w.heap.size 34 7 v (scr s t).length (pV (scr s t)) ∧ Below w.heap.size w w')) :
    Calls Tryd.prog 4 #[.string s, .string t] w fun e w' => e = .returned (.bool true) ∧ Below w.heap.size w w' := by
  have HSC : Hid (scr s t = if Lib.validD s.data.toList = true ∧ Lib.validD t.data.toList = true then scrL (rn s) (rn t) else []) := rfl
  have HV := Hid.mk' (fun W => Q.utf8_any s W (by omega))
  have HU := Hid.mk' (fun W => Q.utf8_any t W (by omega))
  have HP := Hid.mk' (fun W => split9_any s W (by omega))
  have HQ := Hid.mk' (fun W => split9_any t W (by omega))
  have HCA := Hid.mk' (rn_chr (s := s))
  have HCB := Hid.mk' (rn_chr (s := t))
  have HTX := Hid.mk' (txt_rn (s := t))
  generalize scr s t = SC at *
  generalize hv1 : Lib.validD s.data.toList = V1 at *
  generalize hv2 : Lib.validD t.data.toList = V2 at *
  clear hv1 hv2
  cases V1
  · obtain rfl : SC = [] := by rw [HSC.out]; rfl
    go_enter Tryd.func4, Tryd.ntmps4
    go_wp2_with (first
      | (go_at_call 6; refine HS.out.mono ?_; rintro e W1 ⟨v1, rfl, own1, b1⟩; obtain ⟨a1, c1, rfl⟩ := own_sl own1; have B1 := Hid.mk' b1; clear own1 b1; simp only [List.length_nil])
      | (go_at_call 8; refine (HV.out _).mono ?_; rintro e W2 ⟨rfl, hw⟩; obtain rfl := hw.symm)
      | fail)
    go_ret
    exact ⟨rfl, B1.out⟩
  cases V2
  · obtain rfl : SC = [] := by rw [HSC.out]; rfl
    go_enter Tryd.func4, Tryd.ntmps4
    go_wp2_with (first
      | (go_at_call 6; refine HS.out.mono ?_; rintro e W1 ⟨v1, rfl, own1, b1⟩; obtain ⟨a1, c1, rfl⟩ := own_sl own1; have B1 := Hid.mk' b1; clear own1 b1; simp only [List.length_nil])
      | (go_at_call_of 8 s; refine (HV.out _).mono ?_; rintro e W2 ⟨rfl, hw⟩; obtain rfl := hw.symm)
      | (go_at_call_of 8 t; refine (HU.out _).mono ?_; rintro e W2 ⟨rfl, hw⟩; obtain rfl := hw.symm)
      | fail)
    go_ret
    exact ⟨rfl, B1.out⟩
  obtain rfl : SC = scrL (rn s) (rn t) := by rw [HSC.out]; rfl
  have hrs := rn_len s
  have hrt := rn_len t
  have HA1 : Hid (∀ n ∈ rn s, Chr n) := HCA.out rfl
  have HB1 : Hid (∀ n ∈ rn t, Chr n) := HCB.out rfl
  have HP1 := Hid.mk' (fun W => HP.out W rfl)
  have HQ1 := Hid.mk' (fun W => HQ.out W rfl)
  have HTT : Hid (txt (rn t) = t) := HTX.out rfl
  clear HCA HCB HP HQ HSC HTX
  generalize rn s = A at *
  generalize rn t = B at *
  obtain ⟨tot, hds, htot⟩ := ds_start A B
  have HDS := Hid.mk' hds
  have HTO := Hid.mk' htot
  clear hds htot
  have hla0 : A.length ≤ 1048576 := by omega
  have hlb0 : B.length ≤ 1048576 := by omega
  generalize scrL A B = L at *
  go_enter Tryd.func4, Tryd.ntmps4
  go_wp2_with (first
    | (go_at_call 6; refine HS.out.mono ?_; rintro e W1 ⟨v1, rfl, own1, b1⟩; obtain ⟨a1, c1, rfl⟩ := own_sl own1; have R1 := Hid.mk' (rd_own7' own1); have B1 := Hid.mk' b1; have O1 := Hid.mk' (own_pos' own1); clear own1 b1)
    | (go_at_call_of 8 s; refine (HV.out _).mono ?_; rintro e Wx ⟨rfl, hw⟩; obtain rfl := hw.symm)
    | (go_at_call_of 8 t; refine (HU.out _).mono ?_; rintro e Wx ⟨rfl, hw⟩; obtain rfl := hw.symm)
    | (go_at_call_of 9 s; refine (HP1.out _).mono ?_; rintro e W2 ⟨va, rfl, own2, b2⟩; obtain ⟨aA, cA, rfl⟩ := own_sl own2; have RA2 := Hid.mk' (own_ls own2); have RAd := Hid.mk' (rd_sV own2); have R2 := Hid.mk' (R1.out.below b2); have B2 := Hid.mk' (B1.out.trans (b2.mono B1.out.size)); clear own2 b2 R1 B1)
    | (go_at_call_of 9 t; refine (HQ1.out _).mono ?_; rintro e W3 ⟨vb, rfl, own3, b3⟩; obtain ⟨aB, cB, rfl⟩ := own_sl own3; have RB := Hid.mk' (rd_sV own3); have RA := Hid.mk' (RAd.out.below b3); have LA := Hid.mk' (RA2.out.1.below b3); have RL := Hid.mk' (R2.out.below b3); have B3 := Hid.mk' (B2.out.trans (b3.mono B2.out.size)); clear own3 b3 RAd R2 B2)
    | (with_reducible refine at_ap ?_; refine wpList_appS W3 W3.heap.size (.tmp 33) (.tmp 34) rfl rfl _ 0 [] (own_lit0 W3) rfl aA A.length cA (sV A) rfl (by simp [sV]) (LA.out.below ((Below.refl _ _).alloc (Nat.le_refl _) _)) RA2.out.2.2 (one_sV A) (by omega) ((Below.refl _ _).alloc (Nat.le_refl _) _) (by simp) ?_; intro v8 W8 own8 b8; have O8 := Hid.mk' (own_z own8); have B8 := Hid.mk' b8; clear own8 b8)
    | fail)
  have HBD : Hid (∀ R nw c l, DS A B tot R nw c l → c ≤ A.length + B.length ∧ l ≤ B.length ∧ nw.length ≤ A.length + B.length ∧ (∀ n ∈ nw, n ∈ A ∨ n ∈ B)) := fun R nw c l h => h.bound
  have HSP : Hid (∀ W (m : List Nat), (∀ n ∈ m, n ∈ B) → m.length ≤ B.length → Calls Tryd.prog 9 #[.string (txt m)] W fun e w' => ∃ v, e = .returned v ∧ w'.ownsRow W.heap.size 9 1 v m.length (sV m) ∧ Below W.heap.size W w') := fun W m hm hl => by
    obtain ⟨r1, r2⟩ := rn_txt m (fun n hn => HB1.out n (hm n hn))
    have h4 := (txt_size m).2
    have := split9_any (txt m) W (by omega) r2
    rw [r1] at this
    exact this
  clear HS HV HU HP1 HQ1 LA RA2 hrs hrt
  obtain ⟨fP, hfP⟩ : ∃ fP : Nat → Pat, ∀ k (hk : k < L.length), L[k] = fP k := ⟨fun k => L.getD k ⟨0, 0, ⟨#[]⟩⟩, fun k hk => by simp [List.getD, hk]⟩
  have HL7 : Hid (∀ wx, Below W3.heap.size W3 wx → ∀ k, k < L.length → ∃ g, a1 = some ⟨g, 0, none⟩ ∧ PC wx g (k * 7) (fP k).at' (fP k).cnt (fP k).txt) := fun wx h k hk => by rw [← hfP k hk]; exact rd_pc (RL.out.below h) hk
  have hL1 : L.length ≤ 9223372036854775807 := O1.out
  have HDR : Hid (∀ k, k < L.length → L.drop k = fP k :: L.drop (k + 1)) := fun k hk => by rw [← hfP k hk]; exact List.drop_eq_getElem_cons hk
  have HDE : Hid (∀ k, ¬ k < L.length → L.drop k = []) := fun k hk => List.drop_eq_nil_of_le (by omega)
  have HD0 : Hid (DS A B tot (L.drop 0) A 0 0) := by rw [List.drop_zero]; exact HDS
  clear hfP RL O1 HDS
  generalize L.length = n at *
  generalize hRR : (fun k => L.drop k) = RR at *
  have hR2 : ∀ k, L.drop k = RR k := fun k => by rw [← hRR]
  simp only [hR2] at HDR HDE HD0
  clear hR2 hRR
  go_loopw [8, 9, 10, 11] (fun nv cv lv iv wr => ∃ (k : Nat) (NW : List Nat) (cost last : Nat), k ≤ n ∧ iv = .int .i64 (k : Int) ∧ cv = .int .i64 (cost : Int) ∧ lv = .int .i64 (last : Int) ∧ Hid (wr.ownsRow W3.heap.size 9 1 nv NW.length (sV NW)) ∧ Hid (DS A B tot (RR k) NW cost last) ∧ Hid (Below W3.heap.size W3 wr)) (fun _ _ _ iv _ => n - (intOf iv).toNat)
  case atStart => exact ⟨0, A, 0, 0, by omega, rfl, rfl, rfl, O8, HD0, B8⟩
  case round =>
    obtain ⟨k, NW, cost, last, hk, rfl, rfl, rfl, HO, HD, HB⟩ := hrel
    clear O8 HD0 B8
    by_cases hkn : k < n
    · have hkn' : (k : Int) < (n : Int) := by omega
      obtain ⟨g, rfl, P1⟩ := HL7.out wr HB.out k hkn
      have HD1 : Hid (DS A B tot (fP k :: RR (k + 1)) NW cost last) := by rw [← HDR.out k hkn]; exact HD
      obtain ⟨hb1, hb2, hb3, _⟩ := HBD.out _ _ _ _ HD1.out
      generalize fP k = p at *
      obtain ⟨pa, pc, pt⟩ := p
      dsimp only at P1
      obtain ⟨m, htx, hmB, hla, hsum, hpos, hnl, hcA, hmBl, hatB, hd2⟩ := DS.step HD1.out
      dsimp only at htx hla hsum hpos hnl hcA hatB hd2
      subst htx
      have HD2 := Hid.mk' hd2
      have HSM := Hid.mk' (fun W => HSP.out W m hmB hmBl)
      obtain ⟨aN, cN, rfl⟩ := own_sl HO.out
      have HLN := Hid.mk' (own_ls HO.out)
      have q1 : ¬ (pa : Int) < (last : Int) := by omega
      have q2 : ¬ (pc : Int) < 0 := by omega
      have q3 : ¬ (NW.length : Int) < (pa : Int) + (pc : Int) := by omega
      have q4 : (((pc : Int) + (m.length : Int)) == 0) = false := by simp; omega
      have ix := fun wx => index23 g n c1 k wx hkn
      obtain ⟨c0, c1', c2, c3, c4, c5, c6⟩ := P1
      clear hd2 HD1 HL7 HDR HDE HSP HBD
      generalize k * 7 = o at *
      have hsl : (sV NW).length = NW.length := by simp [sV]
      have HSL := Hid.mk' hsl
      have hsm : (sV m).length = m.length := by simp [sV]
      have HSI := Hid.mk' hsm
      have HTK : Hid (((sV NW).take pa).length = pa) := by show _ = _; rw [List.length_take, hsl]; omega
      have HDP : Hid (((sV NW).drop (pa + pc)).length = NW.length - (pa + pc)) := by show _ = _; rw [List.length_drop, hsl]
      have H1T : Hid (∀ u ∈ (sV NW).take pa, u.oneCell' = true) := fun u hu => one_sV NW u (List.mem_of_mem_take hu)
      have H1D : Hid (∀ u ∈ (sV NW).drop (pa + pc), u.oneCell' = true) := fun u hu => one_sV NW u (List.mem_of_mem_drop hu)
      have hx3 : (pa : Int) + (pc : Int) = ((pa + pc : Nat) : Int) := by omega
      have HX3 := Hid.mk' hx3
      have k1 : Hid (0 + pa ≤ 16777216) := by show _ ≤ _; omega
      have k2 : Hid (0 + pa + m.length ≤ 16777216) := by show _ ≤ _; omega
      have k3 : Hid (0 + pa + m.length + (NW.length - (pa + pc)) ≤ 16777216) := by show _ ≤ _; omega
      have k4 : Hid (pa ≤ NW.length) := by show _ ≤ _; omega
      have HSU := Hid.mk' hsum
      have HLL : Hid (NW.length ≤ cN) := HLN.out.2.1
      clear hsl hsm hx3
      go_wp2_with (first
        | (go_at_call 9; refine (HSM.out _).mono ?_; rintro e W5 ⟨vi, rfl, own5, b5⟩; obtain ⟨ai, ci, rfl⟩ := own_sl own5; have LI := Hid.mk' (own_ls own5); obtain ⟨p5, bb5⟩ := pc_alloc b5; have P5 := Hid.mk' p5; have LN5 := Hid.mk' (HLN.out.1.below bb5); have B5 := Hid.mk' (HB.out.trans (bb5.mono HB.out.size)); obtain ⟨d0, d3, d4⟩ := pc_facts p5; clear own5 b5 p5 bb5)
        | (with_reducible refine at_sl ?_; refine wpList_slH (.tmp 82) (.tmp 84) rfl rfl aN NW.length cN pa (sV NW) rfl rfl k4.out HLL.out HSL.out LN5.out HLN.out.2.2 ?_; intro b2 ls2 hn2; have LS2 := Hid.mk' ls2; have HN2 := Hid.mk' hn2; clear ls2 hn2)
        | (with_reducible refine at_ap ?_; refine wpList_appS W5 W5.heap.size (.tmp 81) (.tmp 85) rfl rfl _ 0 [] (World.ownsRow_nil W5 W5.heap.size 9 1) rfl b2 pa cN ((sV NW).take pa) rfl HTK.out LS2.out HN2.out H1T.out k1.out (Below.refl _ _) (Nat.le_refl _) ?_; intro v6 W6 own6 b6; have O6 := Hid.mk' own6; have B6 := Hid.mk' b6; obtain ⟨e0, e3, e4⟩ := pc_facts (P5.out.below b6); clear own6 b6)
        | (with_reducible refine at_ap ?_; refine wpList_appS W5 W5.heap.size (.tmp 87) (.tmp 88) rfl rfl _ (0 + pa) ([] ++ (sV NW).take pa) O6.out rfl ai m.length ci (sV m) rfl HSI.out (LI.out.1.below B6.out) LI.out.2.2 (one_sV m) k2.out B6.out B6.out.size ?_; intro v7 W7 own7 b7; have O7 := Hid.mk' own7; have B7 := Hid.mk' b7; obtain ⟨f0, f3, f4⟩ := pc_facts (P5.out.below b7); clear own7 b7)
        | (with_reducible refine at_sl ?_; refine wpList_slL (.tmp 91) (.tmp 96) rfl rfl aN NW.length cN (pa + pc) _ (sV NW) rfl rfl HX3.out HSU.out HLL.out HSL.out (LN5.out.below B7.out) HLN.out.2.2 ?_; intro b3 ls3 hn3; have LS3 := Hid.mk' ls3; have HN3 := Hid.mk' hn3; clear ls3 hn3)
        | (with_reducible refine at_ap ?_; refine wpList_appS W5 W5.heap.size (.tmp 90) (.tmp 97) rfl rfl _ (0 + pa + m.length) ([] ++ (sV NW).take pa ++ sV m) O7.out rfl b3 (NW.length - (pa + pc)) (cN - (pa + pc)) ((sV NW).drop (pa + pc)) rfl HDP.out LS3.out HN3.out H1D.out k3.out B7.out B7.out.size ?_; intro v9 W9 own9 b9; have O9 := Hid.mk' (own_fin own9 B5.out.size HSU.out); have B9 := Hid.mk' (B5.out.trans (b9.mono B5.out.size)); obtain ⟨g0, g3, g4⟩ := pc_facts (P5.out.below b9); clear own9 b9)
        | fail)
      exact ⟨⟨k + 1, NW.take pa ++ m ++ NW.drop (pa + pc), cost + (pc + m.length), pa + m.length, by omega, by go_num, by go_num, by go_num, O9, HD2, B9⟩, by simp [intOf]; omega⟩
    · have hkn' : ¬ (k : Int) < (n : Int) := by omega
      have hE := HDE.out k hkn
      rw [hE] at HD
      obtain ⟨hN, hc⟩ := DS.fin HD.out
      obtain rfl := hN.symm
      obtain ⟨aN, cN, rfl⟩ := own_sl HO.out
      have HJ : Hid (Calls Tryd.prog 10 #[.slice aN B.length cN] wr fun e w' => e = .returned (.string t) ∧ Below wr.heap.size wr w') := by
        refine (joined_abs B.length (fun i => Utf8.encode ((B.getD i 0 : Nat) : Int)) (fun i => txt (B.take i)) aN cN wr (fun i _ => (encode_size _).2) (fun i hi => ?_) ?_ (fun i hi => ?_) (rd_chsS (rd_sV HO.out)) (by omega)).mono ?_
        · rw [List.take_add_one, List.getElem?_eq_getElem hi, Option.toList, txt_snoc]
          simp [List.getD, hi]
        · show txt (B.take 0) = _
          rw [List.take_zero, txt_nil]
          rfl
        · have := (txt_size (B.take i)).2
          have h2 : (B.take i).length = i := by simp; omega
          rw [h2] at this
          exact this
        · rintro e W6 ⟨rfl, b6⟩
          rw [List.take_length, HTT.out]
          exact ⟨rfl, b6⟩
      have HB6 : Hid (∀ W6, Below wr.heap.size wr W6 → Below W3.heap.size W3 W6) := fun W6 h => HB.out.trans (h.mono HB.out.size)
      have HBw : Hid (∀ W6, Below W3.heap.size W3 W6 → Below w.heap.size w W6) := fun W6 h => B3.out.trans (h.mono B3.out.size)
      have HCM : Hid (A.length ≤ 2000 → B.length ≤ 2000 → ∀ W6, Below W3.heap.size W3 W6 → Calls Tryd.prog 11 #[.slice aA A.length cA, .slice aB B.length cB] W6 fun e w' => e = .returned (.int .i64 (tot : Int)) ∧ Below W6.heap.size W6 w') := by
        intro hA hB W6 h6
        have := common_abs A.length B.length (fun i => A.getD i 0) (fun j => B.getD j 0) (lp A B) aA aB cA cB W6 (fun n => Utf8.encode (n : Int)) (fun i j hi hj => enc_inj (HA1.out _ (by simp [List.getD, hi])) (HB1.out _ (by simp [List.getD, hj]))) (cmF A B) (rd_chsS (RA.out.below h6)) (rd_chsS (RB.out.below h6)) hA hB
        rw [lp_all, ← HTO.out (by omega)] at this
        exact this
      clear HD HL7 HDR HDE HSP HBD HO HB RA RB HA1 HB1 HTO HTT hE B3
      generalize A.length = la at *
      generalize B.length = lb at *
      have hcase : (2000 < la) ∨ (¬ 2000 < la ∧ 2000 < lb) ∨ (la ≤ 2000 ∧ lb ≤ 2000) := by omega
      rcases hcase with r1 | ⟨r1, r2⟩ | ⟨r1, r2⟩
      · have r1' : (2000 : Int) < (la : Int) := by omega
        clear HCM
        go_wp2_with (first
          | (go_at_call 10; refine HJ.out.mono ?_; rintro e W6 ⟨rfl, b6⟩; have B6 := Hid.mk' (HBw.out _ (HB6.out _ b6)); clear b6)
          | fail)
        go_ret
        exact ⟨rfl, B6.out⟩
      · have r1' : ¬ (2000 : Int) < (la : Int) := by omega
        have r2' : (2000 : Int) < (lb : Int) := by omega
        clear HCM
        go_wp2_with (first
          | (go_at_call 10; refine HJ.out.mono ?_; rintro e W6 ⟨rfl, b6⟩; have B6 := Hid.mk' (HBw.out _ (HB6.out _ b6)); clear b6)
          | fail)
        go_ret
        exact ⟨rfl, B6.out⟩
      · have r1' : ¬ (2000 : Int) < (la : Int) := by omega
        have r2' : ¬ (2000 : Int) < (lb : Int) := by omega
        obtain ⟨PR, hPR⟩ : ∃ x, la * lb = x := ⟨_, rfl⟩
        have hP1 : PR ≤ 4000000 := by rw [← hPR]; exact Nat.le_trans (Nat.mul_le_mul r1 r2) (by omega)
        have hP2 : (la : Int) * (lb : Int) = (PR : Int) := by rw [← hPR]; simp
        have HC2 := Hid.mk' (HCM.out r1 r2)
        clear HCM hPR
        by_cases hbig : 1000000 < PR
        · have hbig' : (1000000 : Int) < (PR : Int) := by omega
          clear HC2
          go_wp2_with (first
            | (go_at_call 10; refine HJ.out.mono ?_; rintro e W6 ⟨rfl, b6⟩; have B6 := Hid.mk' (HBw.out _ (HB6.out _ b6)); clear b6)
            | fail)
          go_ret
          exact ⟨rfl, B6.out⟩
        · have hbig' : ¬ (1000000 : Int) < (PR : Int) := by omega
          have hcc : ((cost : Int) == (la : Int) + (lb : Int) - 2 * (tot : Int)) = true := by simp; omega
          have htt : tot ≤ 4000 := by omega
          go_wp2_with (first
            | (go_at_call 10; refine HJ.out.mono ?_; rintro e W6 ⟨rfl, b6⟩; have B6 := Hid.mk' (HB6.out _ b6); clear b6)
            | (go_at_call 11; refine (HC2.out _ B6.out).mono ?_; rintro e W7 ⟨rfl, b7⟩; have B7 := Hid.mk' (HBw.out _ (B6.out.trans (b7.mono B6.out.size))); clear b7)
            | fail)
          go_ret
          exact ⟨rfl, B7.out⟩
end Go.Proofs.YtefoipjbbfcjhaaDoor
