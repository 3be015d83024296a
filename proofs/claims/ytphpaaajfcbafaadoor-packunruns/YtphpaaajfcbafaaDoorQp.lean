import Derived.Test.YtphpaaajfcbafaaDoorQo
namespace Go.Proofs.YtphpaaajfcbafaaDoor.K
open Go.RowKit
set_option linter.unusedVariables false
set_option linter.unusedSimpArgs false

theorem ur_bad {w w' : World} {L : List UInt8} {n : Nat} {y p : Int} (h : un L n ⟨0, 0, 0⟩ [] false = ([], y, p)) (hb : Below w.heap.size w w') : UR w w' (un L n ⟨0, 0, 0⟩ [] false) (.returned (.tuple #[.slice none 0 0, .int .i64 y, .int .i64 p])) := by
  rw [h]
  exact ⟨_, rfl, ownV_nil _ _ _, hb⟩
variable {L : List UInt8}
set_option maxRecDepth 100000 in
set_option maxHeartbeats 4000000 in
theorem rUn_any (n : Nat) (a0 : Option Addr) (nb c0 : Nat) (w : World) (hl : L.length = nb) (hnb : nb ≤ 140737488351232) (hb : Byt w a0 L) (hn : n ≤ 2147483647) :
    Calls Tryd.prog 7 #[.slice a0 nb c0, .int .i64 (n : Int)] w fun e w' => UR w w' (un L n ⟨0, 0, 0⟩ [] false) e := by
  have HNew := Hid.mk' (qnew_x a0 L nb c0 w hl hb hnb)
  clear hb
  go_enter Tryd.func7, Tryd.ntmps7
  go_wp2_with (first
    | (go_at_call 17; refine HNew.out.mono ?_)
    | fail)
  rintro e w0 ⟨r, a, cap, rfl, rd0, hr0, hr1, hab, bel0⟩
  have H0 : Hid (UI w w0 r a cap L n ⟨0, 0, 0⟩ [] false none 0) := ⟨rd0, rfl, ownV_nil _ _ _, by simp [Value.ownBlock], rfl, by simp, bel0, hr0, fun ad e => ⟨(hab ad e).2, by simp [Value.ownBlock]⟩⟩
  have hnbL : (L.length : Int) ≤ 140737488351232 := by omega
  clear HNew rd0 bel0 hab hr0 hr1
  go_wp2
  go_loopw [8, 9, 10] (fun lv b1 b2 wr => ∃ (s : St) (l : List Nat) (lr : Bool) (la : Option Addr) (lc : Nat), lv = .slice la l.length lc ∧ b1 = .bool lr ∧ b2 = .bool (decide (l = [])) ∧ Hid (UI w wr r a cap L n s l lr la lc)) (fun _ _ _ wr => mz wr r L.length)
  case atStart => exact ⟨⟨0, 0, 0⟩, [], false, none, 0, rfl, rfl, by simp, H0⟩
  case round =>
    clear H0
    obtain ⟨s, l, lr, la, lc, rfl, rfl, rfl, HI⟩ := hrel
    have hk := HI.out.rd.at_le
    have hln := HI.out.len
    have HLf := Hid.mk' (qleft_any wr HI.out.rd)
    by_cases hlt : s.k < L.length
    · have hpos : 0 < (L.length : Int) - (s.k : Int) := by omega
      obtain ⟨q, hq⟩ : ∃ q, n = q + l.length := ⟨n - l.length, by omega⟩
      have hqn : n - l.length = q := by omega
      have hsub : (n : Int) - (l.length : Int) = (q : Int) := by omega
      have HAt := Hid.mk' (fun m => qat_any (wr.drewN m) (HI.out.rd.drew m))
      have HPc := Hid.mk' (fun m => piece_any q (wr.drewN m) (HI.out.rd.drew m) (fun ad e => (HI.out.ab ad e).1) (by omega))
      have HM0 := Hid.mk' (mz_of HI.out.rd L.length)
      have HQN := Hid.mk' hqn
      clear hq hqn
      go_wp2_with (first
        | (go_at_call 18; refine HLf.out.mono ?_; rintro e W1 ⟨rfl, m1, rfl⟩)
        | (go_at_call 19; refine (HAt.out _).mono ?_; rintro e W2 ⟨rfl, hw2⟩; obtain rfl := hw2)
        | (go_at_call 20; refine (HPc.out _).mono ?_)
        | fail)
      rintro e W1 ⟨pa, pc, rfl, pi⟩
      have HJ := Hid.mk' ((HI.out.drew m1).piece pi)
      have HFa := Hid.mk' (qfault_any W1 pi.rd)
      clear pi HLf HAt HPc hsub
      by_cases hbd : (pcS L q s).bad = 0
      · rw [hbd] at HFa
        have HBD : Hid ((pcS L (n - l.length) s).bad = 0) := by rw [HQN.out]; exact hbd
        have hpl := pcL_len (Nat.le_of_lt hlt) hbd
        have HJ5 : Hid (∀ m, UJ w wr (W1.drewN m) r a cap L (pcS L (n - l.length) s) l (pcL L (n - l.length) s) la lc pa pc) := fun m => by rw [HQN.out]; have j := HJ.out.drew m; exact ⟨j.rd, j.own, j.pw, j.bel, j.size⟩
        have HNo : Hid (nof l (pcL L q s) (pcR L s) lr = true → un L n ⟨0, 0, 0⟩ [] false = ([], 21, (s.k : Int))) := fun h => by rw [← HI.out.eq]; exact un_form hlt HBD.out (by rw [HQN.out]; exact h)
        have HNx : Hid (∀ (W1 W2 : World) (v2 : Value), ¬ nof l (pcL L q s) (pcR L s) lr = true → UJ w wr W1 r a cap L (pcS L (n - l.length) s) l (pcL L (n - l.length) s) la lc pa pc → OwnV W2 w.heap.size 35 v2 (uC l ++ uC (pcL L q s)) → W1.grownBy W2 (Value.slice la l.length lc).ownBlock → (v2.ownBlock = (Value.slice la l.length lc).ownBlock ∨ v2.ownBlock = some W1.heap.size) → ∃ la2 lc2, v2 = .slice la2 (l ++ pcL L q s).length lc2 ∧ UI w W2 r a cap L n (pcS L q s) (l ++ pcL L q s) (pcR L s) la2 lc2 ∧ s.k < (pcS L q s).k ∧ l ++ pcL L q s ≠ []) := fun V1 V2 v2 h1 h2 h3 h4 h5 => by
          have := HI.out.step hlt HBD.out (by rw [HQN.out]; exact h1) h2 (by rw [HQN.out]; exact h3) h4 h5
          rw [HQN.out] at this
          exact this
        obtain ⟨pb, po, rfl, _, pcell⟩ := (vals_nums (by obtain ⟨a1, c1, e1, _, hv, _⟩ := HJ.out.pw.open; simp only [Value.slice.injEq] at e1; obtain ⟨rfl, _, rfl⟩ := e1; exact hv) : Nums W1 pa (pcL L q s)).open hpl.2.1
        have PC := Hid.mk' pcell
        have cp0 : W1.cell? ⟨pb, po, none⟩ = some (.int .u64 (((pcL L q s).getD 0 0 : Nat) : Int)) := pcell 0 hpl.2.1
        have hp1 := hpl.2.1
        have hp2 := hpl.2.2
        have HB0 := Hid.mk' HI.out.bad
        have HKL : Hid ((pcS L q s).k ≤ L.length) := (pcS_le (L := L) q hk).2
        have hlq : l.length + q ≤ 2147483647 := by have h1 := HQN.out; omega
        clear pcell hpl
        generalize hR : pcR L s = rn at *
        generalize hP : pcL L q s = p at *
        generalize hSS : pcS L q s = s2 at *
        clear hR
        go_wp2_with (first
          | (go_at_call 21; refine HFa.out.mono ?_; rintro e W3 ⟨rfl, m5, rfl⟩)
          | fail)
        by_cases hle : l = []
        · subst hle
          cases rn
          · go_wp2
            go_quiet (fail)
            go_wp2
            go_loopw [16] (fun i wr2 => ∃ k : Nat, i = .int .i64 (k : Int) ∧ 1 ≤ k ∧ k ≤ p.length ∧ Hid (ul p = k - 1 + ul (p.drop (k - 1))) ∧ ∃ m, wr2 = W1.drewN m) (fun i _ => p.length - (intOf i).toNat)
            case atStart => exact ⟨1, rfl, by omega, by omega, by show _ = _; simp, by first | exact ⟨_, rfl⟩ | exact ⟨_, World.drewN_drewN _ _ _⟩⟩
            case round =>
              obtain ⟨k, rfl, h1, h2, HA, m6, rfl⟩ := hrel
              obtain ⟨g, rfl⟩ : ∃ g, k = g + 1 := ⟨k - 1, by omega⟩
              by_cases hlt2 : g + 1 < p.length
              · have ck := PC.out (g + 1) hlt2
                have cg := PC.out g (by omega)
                have hlt' : ((g + 1 : Nat) : Int) < (p.length : Int) := by omega
                have hg1 : ((g + 1 : Nat) : Int) - 1 = (g : Int) := by omega
                have hgb : g + 1 ≤ 2147483647 := by omega
                generalize hxx : p.getD (g + 1) 0 = xx at ck
                generalize hyy : p.getD g 0 = yy at cg
                have HA2 : Hid (ul p = g + ul (p.drop g)) := HA.out
                clear HA
                by_cases he : xx = yy
                · have hul : ul p = g := by
                    rw [HA2.out, ul_same p g hlt2 (by rw [hxx, hyy, he])]
                    omega
                  have hun := HNo.out (by rw [nof_iff]; exact .inr ⟨rfl, by omega⟩)
                  have HUR : Hid (∀ m, UR w (W1.drewN m) (un L n ⟨0, 0, 0⟩ [] false) (.returned (.tuple #[.slice none 0 0, .int .i64 21, .int .i64 (s.k : Int)]))) := fun m => ur_bad hun (below_drewN HJ.out.bel m)
                  clear hun hul HA2 hxx hyy
                  subst he
                  generalize hz : g + 1 = k at *
                  clear hz
                  go_wp2
                  go_quiet (fail)
                  go_wp2
                  go_ret3
                  first | exact HUR.out _ | (rw [World.drewN_drewN]; exact HUR.out _)
                · have HN2 : Hid (ul p = g + 1 + 1 - 1 + ul (p.drop (g + 1 + 1 - 1))) := by
                    show _ = _
                    rw [HA2.out, ul_other p g hlt2 (by rw [hxx, hyy]; exact fun e => he e.symm)]
                    simp
                    omega
                  have he1 : ((xx : Int) == (yy : Int)) = false := by simp; omega
                  clear HA2 hxx hyy he
                  generalize hz : g + 1 = k at *
                  clear hz
                  go_wp2
                  go_quiet (fail)
                  go_wp2
                  go_roundw
                  case rel => exact ⟨k + 1, by go_num, by omega, by omega, HN2, by first | exact ⟨_, rfl⟩ | exact ⟨_, World.drewN_drewN _ _ _⟩⟩
                  case measure => simp [intOf]; omega
              · have hul : ul p = p.length := by
                  rw [HA.out, ul_last p (g + 1 - 1) (by omega)]
                  omega
                have hlt' : ¬ ((g + 1 : Nat) : Int) < (p.length : Int) := by omega
                clear HA
                have HNF : Hid (¬ nof [] p false lr = true) := by
                  show ¬ _
                  rw [nof_iff]
                  simp; omega
                clear hul
                have HJ6 := Hid.mk' (HJ5.out (m6))
                have OA : Hid (OwnV (W1.drewN (m6)) w.heap.size 35 (.slice la [].length lc) (uC [])) := HJ6.out.own
                have VA : Hid (Vals (W1.drewN (m6)) (some ⟨pb, po, none⟩) (uC p)) := nums_vals (.inr ⟨pb, po, rfl, fun j hj => PC.out j hj⟩)
                have ZA : Hid (w.heap.size ≤ (W1.drewN (m6)).heap.size) := HJ6.out.bel.size
                have hL : Hid ((uC []).length + (uC p).length ≤ 28000000000000) := by show _ ≤ _; rw [uC_len, uC_len]; omega
                have hX := uC_len p
                go_wp2_with (first | (at_builtin; refine wpList_appV rfl (.tmp 92) (.tmp 93) 24 35 (.int .u64 0) Tryd.underlying24 info24 rfl rfl w.heap.size (.slice la [].length lc) (uC []) rfl OA.out (some ⟨pb, po, none⟩) p.length pc (uC p) rfl hX VA.out (uC_one p) hL.out ZA.out ?_) | fail)
                intro v2 W4 own2 gr2 hblk
                obtain ⟨la2, lc2, rfl, ui2, hk2, hne2⟩ := HNx.out _ _ _ HNF.out HJ6.out own2 gr2 hblk
                have HUI := Hid.mk' ui2
                have HM2 := Hid.mk' (mz_of ui2.rd L.length)
                have HS0 := Hid.mk' ui2.bad
                have hd2 : decide ([] ++ p = []) = false := by simp only [decide_eq_false_iff_not]; exact hne2
                have HD2 := Hid.mk' hd2
                clear own2 gr2 hblk ui2 hne2 hd2 OA VA ZA hL HJ6
                generalize hl2 : [] ++ p = l2 at *
                clear hl2
                go_wp2
                go_roundw
                case rel => exact ⟨s2, l2, false, la2, lc2, rfl, rfl, by rw [HD2.out], HUI⟩
                case measure => rw [HM2.out, HM0.out, if_pos HS0.out, if_pos HB0.out]; have := HKL.out; omega
          · go_wp2
            go_quiet (fail)
            go_wp2
            go_loopw [16] (fun i wr2 => i = .int .i64 1 ∧ ∃ m, wr2 = W1.drewN m) (fun _ _ => 0)
            case atStart => exact ⟨rfl, by first | exact ⟨_, rfl⟩ | exact ⟨_, World.drewN_drewN _ _ _⟩⟩
            case round =>
              obtain ⟨rfl, m6, rfl⟩ := hrel
              have HNF : Hid (¬ nof [] p true lr = true) := by
                show ¬ _
                rw [nof_iff]
                simp
              have HJ6 := Hid.mk' (HJ5.out (m6))
              have OA : Hid (OwnV (W1.drewN (m6)) w.heap.size 35 (.slice la [].length lc) (uC [])) := HJ6.out.own
              have VA : Hid (Vals (W1.drewN (m6)) (some ⟨pb, po, none⟩) (uC p)) := nums_vals (.inr ⟨pb, po, rfl, fun j hj => PC.out j hj⟩)
              have ZA : Hid (w.heap.size ≤ (W1.drewN (m6)).heap.size) := HJ6.out.bel.size
              have hL : Hid ((uC []).length + (uC p).length ≤ 28000000000000) := by show _ ≤ _; rw [uC_len, uC_len]; omega
              have hX := uC_len p
              go_wp2_with (first | (at_builtin; refine wpList_appV rfl (.tmp 92) (.tmp 93) 24 35 (.int .u64 0) Tryd.underlying24 info24 rfl rfl w.heap.size (.slice la [].length lc) (uC []) rfl OA.out (some ⟨pb, po, none⟩) p.length pc (uC p) rfl hX VA.out (uC_one p) hL.out ZA.out ?_) | fail)
              intro v2 W4 own2 gr2 hblk
              obtain ⟨la2, lc2, rfl, ui2, hk2, hne2⟩ := HNx.out _ _ _ HNF.out HJ6.out own2 gr2 hblk
              have HUI := Hid.mk' ui2
              have HM2 := Hid.mk' (mz_of ui2.rd L.length)
              have HS0 := Hid.mk' ui2.bad
              have hd2 : decide ([] ++ p = []) = false := by simp only [decide_eq_false_iff_not]; exact hne2
              have HD2 := Hid.mk' hd2
              clear own2 gr2 hblk ui2 hne2 hd2 OA VA ZA hL HJ6
              generalize hl2 : [] ++ p = l2 at *
              clear hl2
              go_wp2
              go_roundw
              case rel => exact ⟨s2, l2, true, la2, lc2, rfl, rfl, by rw [HD2.out], HUI⟩
              case measure => rw [HM2.out, HM0.out, if_pos HS0.out, if_pos HB0.out]; have := HKL.out; omega
        · have hle1 : decide (l = []) = false := by simp [hle]
          have hl0 : 0 < l.length := List.length_pos_iff.2 hle
          obtain ⟨lb, lo, rfl, _, lcell⟩ := (vals_nums (by obtain ⟨a1, c1, e1, _, hv, _⟩ := HJ.out.own.open; simp only [Value.slice.injEq] at e1; obtain ⟨rfl, _, rfl⟩ := e1; exact hv) : Nums W1 la l).open hl0
          have cl0 := lcell (l.length - 1) (by omega)
          have HLE := Hid.mk' hle
          clear lcell hle
          obtain ⟨ll, hll⟩ : ∃ ll, l.length = ll + 1 := ⟨l.length - 1, by omega⟩
          cases rn
          · cases lr
            · have hun := HNo.out (by rw [nof_iff]; exact .inl ⟨HLE.out, .inl ⟨rfl, rfl⟩⟩)
              have HUR : Hid (∀ m, UR w (W1.drewN m) (un L n ⟨0, 0, 0⟩ [] false) (.returned (.tuple #[.slice none 0 0, .int .i64 21, .int .i64 (s.k : Int)]))) := fun m => ur_bad hun (below_drewN HJ.out.bel m)
              clear hun
              have HX : Hid True := trivial
              rw [show l.length - 1 = ll by omega] at cl0
              have ek : (l.length : Int) - 1 = (ll : Int) := by omega
              have elt : ll < l.length := by omega
              have elt' : (ll : Int) < (l.length : Int) := by omega
              have hlb : l.length ≤ 2147483647 := by omega
              clear hll
              generalize hlnk : l.length = kl at *
              have HLN := Hid.mk' hlnk
              clear hlnk
              generalize l.getD ll 0 = y at *
              generalize hx0 : p.getD 0 0 = x at *
              clear hx0
              go_wp2
              go_quiet (fail)
              go_wp2
              go_ret3
              first | exact HUR.out _ | (rw [World.drewN_drewN]; exact HUR.out _)
            · by_cases hx : p.getD 0 0 = l.getD (l.length - 1) 0
              · have hun := HNo.out (by rw [nof_iff]; exact .inl ⟨HLE.out, .inr hx⟩)
                have HUR : Hid (∀ m, UR w (W1.drewN m) (un L n ⟨0, 0, 0⟩ [] false) (.returned (.tuple #[.slice none 0 0, .int .i64 21, .int .i64 (s.k : Int)]))) := fun m => ur_bad hun (below_drewN HJ.out.bel m)
                clear hun
                have HX : Hid True := trivial
                rw [show l.length - 1 = ll by omega] at cl0 hx
                have ek : (l.length : Int) - 1 = (ll : Int) := by omega
                have elt : ll < l.length := by omega
                have elt' : (ll : Int) < (l.length : Int) := by omega
                have hlb : l.length ≤ 2147483647 := by omega
                clear hll
                generalize hlnk : l.length = kl at *
                have HLN := Hid.mk' hlnk
                clear hlnk
                generalize l.getD ll 0 = y at *
                generalize hx0 : p.getD 0 0 = x at *
                clear hx0
                subst hx
                go_wp2
                go_quiet (fail)
                go_wp2
                go_ret3
                first | exact HUR.out _ | (rw [World.drewN_drewN]; exact HUR.out _)
              · have HNF0 : Hid (ul p = p.length → ¬ nof l p false true = true) := by
                  intro hu
                  rw [nof_iff]
                  intro h; rcases h with ⟨_, h | h⟩ | h
                  · cases h.2
                  · exact hx h
                  · omega
                have HX : Hid True := trivial
                rw [show l.length - 1 = ll by omega] at cl0 hx
                have ek : (l.length : Int) - 1 = (ll : Int) := by omega
                have elt : ll < l.length := by omega
                have elt' : (ll : Int) < (l.length : Int) := by omega
                have hlb : l.length ≤ 2147483647 := by omega
                clear hll
                generalize hlnk : l.length = kl at *
                have HLN := Hid.mk' hlnk
                clear hlnk
                generalize l.getD ll 0 = y at *
                generalize hx0 : p.getD 0 0 = x at *
                clear hx0
                have hxy : ((x : Int) == (y : Int)) = false := by simp; omega
                clear hx
                go_wp2
                go_quiet (fail)
                go_wp2
                go_loopw [16] (fun i wr2 => ∃ k : Nat, i = .int .i64 (k : Int) ∧ 1 ≤ k ∧ k ≤ p.length ∧ Hid (ul p = k - 1 + ul (p.drop (k - 1))) ∧ ∃ m, wr2 = W1.drewN m) (fun i _ => p.length - (intOf i).toNat)
                case atStart => exact ⟨1, rfl, by omega, by omega, by show _ = _; simp, by first | exact ⟨_, rfl⟩ | exact ⟨_, World.drewN_drewN _ _ _⟩⟩
                case round =>
                  obtain ⟨k, rfl, h1, h2, HA, m6, rfl⟩ := hrel
                  obtain ⟨g, rfl⟩ : ∃ g, k = g + 1 := ⟨k - 1, by omega⟩
                  by_cases hlt2 : g + 1 < p.length
                  · have ck := PC.out (g + 1) hlt2
                    have cg := PC.out g (by omega)
                    have hlt' : ((g + 1 : Nat) : Int) < (p.length : Int) := by omega
                    have hg1 : ((g + 1 : Nat) : Int) - 1 = (g : Int) := by omega
                    have hgb : g + 1 ≤ 2147483647 := by omega
                    generalize hxx : p.getD (g + 1) 0 = xx at ck
                    generalize hyy : p.getD g 0 = yy at cg
                    have HA2 : Hid (ul p = g + ul (p.drop g)) := HA.out
                    clear HA
                    by_cases he : xx = yy
                    · have hul : ul p = g := by
                        rw [HA2.out, ul_same p g hlt2 (by rw [hxx, hyy, he])]
                        omega
                      have hun := HNo.out (by rw [nof_iff]; exact .inr ⟨rfl, by omega⟩)
                      have HUR : Hid (∀ m, UR w (W1.drewN m) (un L n ⟨0, 0, 0⟩ [] false) (.returned (.tuple #[.slice none 0 0, .int .i64 21, .int .i64 (s.k : Int)]))) := fun m => ur_bad hun (below_drewN HJ.out.bel m)
                      clear hun hul HA2 hxx hyy
                      subst he
                      generalize hz : g + 1 = k at *
                      clear hz
                      go_wp2
                      go_quiet (fail)
                      go_wp2
                      go_ret3
                      first | exact HUR.out _ | (rw [World.drewN_drewN]; exact HUR.out _)
                    · have HN2 : Hid (ul p = g + 1 + 1 - 1 + ul (p.drop (g + 1 + 1 - 1))) := by
                        show _ = _
                        rw [HA2.out, ul_other p g hlt2 (by rw [hxx, hyy]; exact fun e => he e.symm)]
                        simp
                        omega
                      have he1 : ((xx : Int) == (yy : Int)) = false := by simp; omega
                      clear HA2 hxx hyy he
                      generalize hz : g + 1 = k at *
                      clear hz
                      go_wp2
                      go_quiet (fail)
                      go_wp2
                      go_roundw
                      case rel => exact ⟨k + 1, by go_num, by omega, by omega, HN2, by first | exact ⟨_, rfl⟩ | exact ⟨_, World.drewN_drewN _ _ _⟩⟩
                      case measure => simp [intOf]; omega
                  · have hul : ul p = p.length := by
                      rw [HA.out, ul_last p (g + 1 - 1) (by omega)]
                      omega
                    have hlt' : ¬ ((g + 1 : Nat) : Int) < (p.length : Int) := by omega
                    clear HA
                    have HNF := Hid.mk' (HNF0.out hul)
                    clear hul
                    have HJ6 := Hid.mk' (HJ5.out (m6))
                    have OA : Hid (OwnV (W1.drewN (m6)) w.heap.size 35 (.slice (some ⟨lb, lo, none⟩) kl lc) (uC l)) := by have := HJ6.out.own; rw [HLN.out] at this; exact this
                    have VA : Hid (Vals (W1.drewN (m6)) (some ⟨pb, po, none⟩) (uC p)) := nums_vals (.inr ⟨pb, po, rfl, fun j hj => PC.out j hj⟩)
                    have ZA : Hid (w.heap.size ≤ (W1.drewN (m6)).heap.size) := HJ6.out.bel.size
                    have hL : Hid ((uC l).length + (uC p).length ≤ 28000000000000) := by show _ ≤ _; rw [uC_len, uC_len, HLN.out]; omega
                    have hX := uC_len p
                    go_wp2_with (first | (at_builtin; refine wpList_appV rfl (.tmp 92) (.tmp 93) 24 35 (.int .u64 0) Tryd.underlying24 info24 rfl rfl w.heap.size (.slice (some ⟨lb, lo, none⟩) kl lc) (uC l) rfl OA.out (some ⟨pb, po, none⟩) p.length pc (uC p) rfl hX VA.out (uC_one p) hL.out ZA.out ?_) | fail)
                    intro v2 W4 own2 gr2 hblk
                    obtain ⟨la2, lc2, rfl, ui2, hk2, hne2⟩ := HNx.out _ _ _ HNF.out HJ6.out own2 gr2 hblk
                    have HUI := Hid.mk' ui2
                    have HM2 := Hid.mk' (mz_of ui2.rd L.length)
                    have HS0 := Hid.mk' ui2.bad
                    have hd2 : decide (l ++ p = []) = false := by simp only [decide_eq_false_iff_not]; exact hne2
                    have HD2 := Hid.mk' hd2
                    clear own2 gr2 hblk ui2 hne2 hd2 OA VA ZA hL HJ6
                    generalize hl2 : l ++ p = l2 at *
                    clear hl2
                    go_wp2
                    go_roundw
                    case rel => exact ⟨s2, l2, false, la2, lc2, rfl, rfl, by rw [HD2.out], HUI⟩
                    case measure => rw [HM2.out, HM0.out, if_pos HS0.out, if_pos HB0.out]; have := HKL.out; omega
          · by_cases hx : p.getD 0 0 = l.getD (l.length - 1) 0
            · have hun := HNo.out (by rw [nof_iff]; exact .inl ⟨HLE.out, .inr hx⟩)
              have HUR : Hid (∀ m, UR w (W1.drewN m) (un L n ⟨0, 0, 0⟩ [] false) (.returned (.tuple #[.slice none 0 0, .int .i64 21, .int .i64 (s.k : Int)]))) := fun m => ur_bad hun (below_drewN HJ.out.bel m)
              clear hun
              have HX : Hid True := trivial
              rw [show l.length - 1 = ll by omega] at cl0 hx
              have ek : (l.length : Int) - 1 = (ll : Int) := by omega
              have elt : ll < l.length := by omega
              have elt' : (ll : Int) < (l.length : Int) := by omega
              have hlb : l.length ≤ 2147483647 := by omega
              clear hll
              generalize hlnk : l.length = kl at *
              have HLN := Hid.mk' hlnk
              clear hlnk
              generalize l.getD ll 0 = y at *
              generalize hx0 : p.getD 0 0 = x at *
              clear hx0
              subst hx
              go_wp2
              go_quiet (fail)
              go_wp2
              go_ret3
              first | exact HUR.out _ | (rw [World.drewN_drewN]; exact HUR.out _)
            · have HNF : Hid (¬ nof l p true lr = true) := by
                show ¬ _
                rw [nof_iff]
                intro h; rcases h with ⟨_, h | h⟩ | h
                · cases h.1
                · exact hx h
                · cases h.1
              have HX : Hid True := trivial
              rw [show l.length - 1 = ll by omega] at cl0 hx
              have ek : (l.length : Int) - 1 = (ll : Int) := by omega
              have elt : ll < l.length := by omega
              have elt' : (ll : Int) < (l.length : Int) := by omega
              have hlb : l.length ≤ 2147483647 := by omega
              clear hll
              generalize hlnk : l.length = kl at *
              have HLN := Hid.mk' hlnk
              clear hlnk
              generalize l.getD ll 0 = y at *
              generalize hx0 : p.getD 0 0 = x at *
              clear hx0
              have hxy : ((x : Int) == (y : Int)) = false := by simp; omega
              clear hx
              go_wp2
              go_quiet (fail)
              go_wp2
              go_loopw [16] (fun i wr2 => i = .int .i64 1 ∧ ∃ m, wr2 = W1.drewN m) (fun _ _ => 0)
              case atStart => exact ⟨rfl, by first | exact ⟨_, rfl⟩ | exact ⟨_, World.drewN_drewN _ _ _⟩⟩
              case round =>
                obtain ⟨rfl, m6, rfl⟩ := hrel
                have HJ6 := Hid.mk' (HJ5.out (m6))
                have OA : Hid (OwnV (W1.drewN (m6)) w.heap.size 35 (.slice (some ⟨lb, lo, none⟩) kl lc) (uC l)) := by have := HJ6.out.own; rw [HLN.out] at this; exact this
                have VA : Hid (Vals (W1.drewN (m6)) (some ⟨pb, po, none⟩) (uC p)) := nums_vals (.inr ⟨pb, po, rfl, fun j hj => PC.out j hj⟩)
                have ZA : Hid (w.heap.size ≤ (W1.drewN (m6)).heap.size) := HJ6.out.bel.size
                have hL : Hid ((uC l).length + (uC p).length ≤ 28000000000000) := by show _ ≤ _; rw [uC_len, uC_len, HLN.out]; omega
                have hX := uC_len p
                go_wp2_with (first | (at_builtin; refine wpList_appV rfl (.tmp 92) (.tmp 93) 24 35 (.int .u64 0) Tryd.underlying24 info24 rfl rfl w.heap.size (.slice (some ⟨lb, lo, none⟩) kl lc) (uC l) rfl OA.out (some ⟨pb, po, none⟩) p.length pc (uC p) rfl hX VA.out (uC_one p) hL.out ZA.out ?_) | fail)
                intro v2 W4 own2 gr2 hblk
                obtain ⟨la2, lc2, rfl, ui2, hk2, hne2⟩ := HNx.out _ _ _ HNF.out HJ6.out own2 gr2 hblk
                have HUI := Hid.mk' ui2
                have HM2 := Hid.mk' (mz_of ui2.rd L.length)
                have HS0 := Hid.mk' ui2.bad
                have hd2 : decide (l ++ p = []) = false := by simp only [decide_eq_false_iff_not]; exact hne2
                have HD2 := Hid.mk' hd2
                clear own2 gr2 hblk ui2 hne2 hd2 OA VA ZA hL HJ6
                generalize hl2 : l ++ p = l2 at *
                clear hl2
                go_wp2
                go_roundw
                case rel => exact ⟨s2, l2, true, la2, lc2, rfl, rfl, by rw [HD2.out], HUI⟩
                case measure => rw [HM2.out, HM0.out, if_pos HS0.out, if_pos HB0.out]; have := HKL.out; omega
      · have hun : un L n ⟨0, 0, 0⟩ [] false = ([], (pcS L q s).bad, (pcS L q s).wh) := by
          rw [← HI.out.eq, un_fault hlt (by rw [HQN.out]; exact hbd), HQN.out]
        have hbd1 : ((pcS L q s).bad == 0) = false := by simp [hbd]
        have hbd2 : ((pcS L q s).bad != 0) = true := by simp [hbd]
        have HUR : Hid (∀ m, UR w (W1.drewN m) (un L n ⟨0, 0, 0⟩ [] false) (.returned (.tuple #[.slice none 0 0, .int .i64 (pcS L q s).bad, .int .i64 (pcS L q s).wh]))) := fun m => ur_bad hun (below_drewN HJ.out.bel m)
        clear hbd hun
        generalize (pcS L q s).bad = y at *
        generalize (pcS L q s).wh = z at *
        go_wp2_with (first
          | (go_at_call 21; refine HFa.out.mono ?_; rintro e W3 ⟨rfl, m5, rfl⟩)
          | fail)
        go_ret3
        exact HUR.out m5
    · have hpos : ¬ 0 < (L.length : Int) - (s.k : Int) := by omega
      by_cases hx : l.length < n
      · have hx' : (l.length : Int) < (n : Int) := by omega
        have hun : un L n ⟨0, 0, 0⟩ [] false = ([], 231, (nb : Int)) := by rw [← HI.out.eq, un_less hlt hx, hl]
        have HUR : Hid (∀ m, UR w (wr.drewN m) (un L n ⟨0, 0, 0⟩ [] false) (.returned (.tuple #[.slice none 0 0, .int .i64 231, .int .i64 (nb : Int)]))) := fun m => ur_bad hun (below_drewN HI.out.bel m)
        clear hun hl
        go_wp2_with (first
          | (go_at_call 18; refine HLf.out.mono ?_; rintro e W1 ⟨rfl, m1, rfl⟩)
          | fail)
        go_ret3
        exact HUR.out m1
      · have hx' : ¬ (l.length : Int) < (n : Int) := by omega
        have hun : un L n ⟨0, 0, 0⟩ [] false = (l, 0, 0) := by rw [← HI.out.eq, un_end hlt hx]
        have HUR : Hid (∀ m, UR w (wr.drewN m) (un L n ⟨0, 0, 0⟩ [] false) (.returned (.tuple #[.slice la l.length lc, .int .i64 0, .int .i64 0]))) := fun m => by
          rw [hun]
          exact ⟨_, rfl, (HI.out.drew m).own, below_drewN HI.out.bel m⟩
        clear hun
        go_wp2_with (first
          | (go_at_call 18; refine HLf.out.mono ?_; rintro e W1 ⟨rfl, m1, rfl⟩)
          | fail)
        go_ret3
        exact HUR.out m1
end Go.Proofs.YtphpaaajfcbafaaDoor.K
