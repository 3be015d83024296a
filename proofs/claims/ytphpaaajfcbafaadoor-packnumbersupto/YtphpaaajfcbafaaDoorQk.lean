import Derived.Test.YtphpaaajfcbafaaDoorQj
namespace Go.Proofs.YtphpaaajfcbafaaDoor.K
open Go.RowKit
set_option linter.unusedVariables false
set_option linter.unusedSimpArgs false

theorem info71 : (Tryd.prog.info? 71).map (fun i => (i.zero, i.size, i.bytes)) = some (some (.agg #[.bool false, .int .i64 0, .slice none 0 0]), 3, 40) := by kernel_rfl
/-- append of one stretch. -/
theorem wpList_appS {ops : Array Oper} {rest : List Oper} {o : Oper} {a : Act} {w : World} {Q : Exit → Act → World → Prop} (hgd : o.guard = none) (s x : Operand)
    (ho : o.op = .call { callee := .builtin .append, args := #[s, x], argTypes := #[68, 68] }) (base : Nat) (v : Value) (n : Nat) (X : List Value) (hs : a.eval s = v) (hown : w.ownsRow base 71 3 v n X)
    (g c : Nat) (M : List Value) (hx : a.eval x = .slice (some ⟨g, 0, none⟩) 1 c) (hm : M.length = 3) (hb : ∀ j u, M[j]? = some u → w.cell? ⟨g, j, none⟩ = some u) (h1 : ∀ u ∈ M, u.oneCell' = true) (hlen : n + 1 ≤ 5000000000000) (hbase : base ≤ w.heap.size)
    (h : ∀ v' w', w'.ownsRow base 71 3 v' (n + 1) (X ++ M) → w.grownBy w' v.ownBlock → (v'.ownBlock = v.ownBlock ∨ v'.ownBlock = some w.heap.size) → wpList Tryd.prog ops Q rest (a.put o.dst v') w') : wpList Tryd.prog ops Q (o :: rest) a w :=
  wpList_plain hgd fun _ hK => by
    obtain ⟨i, hi, hz, hsz, hby⟩ := info_parts info71
    obtain ⟨v', w', hr, h2, h3, h4⟩ := app_at (P := Tryd.prog) w base 68 o.type 71 i (.agg #[.bool false, .int .i64 0, .slice none 0 0]) 3 40 Tryd.underlying68 hi hz hsz hby rfl (by decide) v n X hown ⟨g, 0, none⟩ 1 c M (by omega) (fun j u hj => by rw [Addr.add_mid, Nat.zero_add]; exact hb j u hj) h1 (by unfold maxLen; omega) (by omega) hbase
    unfold Oper.wp execOp
    simp only [ho, resolve, invoke, builtin, Sem.run_bind, Sem.run_pure, Result.andThen_ok, List.map_toArray, List.map_cons, List.map_nil, hs, hx, hr]
    exact hK _ _ (h v' w' h2 h3 h4)
def mz (w : World) (r n : Nat) : Nat := if intOf ((w.cell? ⟨r, 2, none⟩).getD (.int .i64 0)) = 0 then n + 1 - (intOf ((w.cell? ⟨r, 1, none⟩).getD (.int .i64 0))).toNat else 0
theorem mz_of {w : World} {T : TypeId} {r cap : Nat} {a : Option Addr} {L : List UInt8} {s : St} (h : RD w T r a cap L s) (n : Nat) : mz w r n = if s.bad = 0 then n + 1 - s.k else 0 := by
  unfold mz
  rw [h.c1, h.c2]
  by_cases hb : s.bad = 0 <;> simp [intOf, hb]
/-- unRuns, when something is wrong. -/
structure UB (w wr : World) (r : Nat) (a : Option Addr) (cap : Nat) (L : List UInt8) (n : Nat) (s : St) : Prop where
  rd : RD wr 90 r a cap L s
  bad : s.bad ≠ 0
  eq : un L n ⟨0, 0, 0⟩ [] false = ([], s.bad, s.wh)
  bel : Below w.heap.size w wr
  rb : w.heap.size ≤ r
/-- What unRuns answers. -/
def UP (w w' : World) (L : List UInt8) (n : Nat) (e : Ending) : Prop := ∃ v err, e = .returned (.tuple #[v, err]) ∧ Er w' err (un L n ⟨0, 0, 0⟩ [] false).2.1 (un L n ⟨0, 0, 0⟩ [] false).2.2 ∧ OwnV w' w.heap.size 35 v (uC (un L n ⟨0, 0, 0⟩ [] false).1) ∧ Below w.heap.size w w'
theorem up_bad {w w' : World} {L : List UInt8} {n : Nat} {y p : Int} {err : Value} (h : un L n ⟨0, 0, 0⟩ [] false = ([], y, p)) (he : Er w' err y p) (hb : Below w.heap.size w w') : UP w w' L n (.returned (.tuple #[.slice none 0 0, err])) :=
  ⟨_, _, rfl, by rw [h]; exact he, by rw [h]; exact ownV_nil _ _ _, hb⟩
variable {w wr : World} {r cap : Nat} {a : Option Addr} {L : List UInt8} {n : Nat} {s : St}
theorem UB.drew (h : UB w wr r a cap L n s) (m : Nat) : UB w (wr.drewN m) r a cap L n s := ⟨h.rd.drew m, h.bad, h.eq, below_drewN h.bel m, h.rb⟩
theorem UG.drew {Z : List Sr} {lr : Bool} {av : Option Addr} {cv : Nat} (h : UG w wr r a cap L n s Z lr av cv) (m : Nat) : UG w (wr.drewN m) r a cap L n s Z lr av cv :=
  have be := below_drewN (Below.refl wr.heap.size wr) m
  ⟨h.rd.drew m, h.bad, h.own.below be, h.nr, fun z hz => ⟨(h.nums z hz).1.below be, (h.nums z hz).2⟩, h.len, h.few, h.lst, h.eq, below_drewN h.bel m, h.rb, h.ab⟩
set_option maxRecDepth 100000 in
set_option maxHeartbeats 4000000 in
theorem unruns_any (n : Nat) (a0 : Option Addr) (nb c0 : Nat) (w : World) (hl : L.length = nb) (hnb : nb ≤ 140737488351232) (ha : a0 = none → c0 = 0) (hb : Byt w a0 L) (hn : n ≤ 2147483647) :
    Calls Tryd.prog 15 #[.slice a0 nb c0, .int .i64 (n : Int)] w fun e w' => UP w w' L n e := by
  have HNew := Hid.mk' (new_gen a0 nb c0 L w hl hnb ha hb)
  clear hb ha
  go_enter Tryd.func15, Tryd.ntmps15
  go_wp2_with (first
    | (go_at_call 31; refine HNew.out.mono ?_)
    | fail)
  rintro e w0 ⟨r, a, cap, rfl, rd0, hr0, bel0, hab⟩
  have H0 : Hid (UG w w0 r a cap L n ⟨0, 0, 0⟩ [] false none 0) := ⟨rd0, rfl, World.ownsRow_nil _ _ _ _, by simp [Value.ownBlock], (fun z hz => by cases hz), by simp [flat], by simp [flat], .inl rfl, rfl, bel0, hr0, fun ad e => ⟨hab ad e, by simp [Value.ownBlock]⟩⟩
  have hnbL : (L.length : Int) ≤ 140737488351232 := by omega
  clear HNew rd0 bel0 hab hr0
  go_wp2
  go_loopw [7, 8, 9] (fun al lf _ wr => (∃ (s : St) (Z : List Sr) (lr : Bool) (av : Option Addr) (cv q : Nat), al = .slice av Z.length cv ∧ lf = .int .i64 (q : Int) ∧ q + (flat Z).length = n ∧ Hid (UG w wr r a cap L n s Z lr av cv)) ∨ (∃ (s : St) (av : Option Addr) (m cv : Nat) (x : Int), al = .slice av m cv ∧ lf = .int .i64 x ∧ Hid (UB w wr r a cap L n s))) (fun _ _ _ wr => mz wr r L.length)
  case atStart => exact .inl ⟨⟨0, 0, 0⟩, [], false, none, 0, n, rfl, rfl, by simp [flat], H0⟩
  case round =>
    clear H0
    rcases hrel with ⟨s, Z, lr, av, cv, q, rfl, rfl, hq, HG⟩ | ⟨s, av, m, cv, x, rfl, rfl, HB⟩
    · have hk := HG.out.rd.at_le
      have HLf := Hid.mk' (rleft_any wr HG.out.rd)
      have HST := Hid.mk' (fun m => pstop_any (wr.drewN m) (HG.out.rd.drew m))
      rw [show decide (s.bad ≠ 0) = false by simp [HG.out.bad]] at HST
      by_cases hlt : s.k < L.length
      · have hpos : 0 < (L.length : Int) - (s.k : Int) := by omega
        obtain ⟨prev, hAH, hLP⟩ := HG.out.ah (by omega)
        have hqn : n - (flat Z).length = q := by omega
        have HSt : Hid (∀ m, Calls Tryd.prog 34 #[.pointer (some ⟨r, 0, none⟩), .int .i64 (q : Int), .slice av Z.length cv] (wr.drewN m) fun e w' => StP (wr.drewN m) w' r a cap L q s prev e) := fun m => stretch_any q av Z.length cv prev (wr.drewN m) (HG.out.rd.drew m) (fun ad e => (HG.out.ab ad e).1) (by omega) (hAH.fr (Fr.drew r wr m))
        have hZn : Z.length ≤ n := by have h1 := HG.out.few; have h2 := HG.out.len; omega
        have HLP := Hid.mk' hLP
        clear hAH hLP
        go_wp2_with (first
          | (go_at_call 32; refine HLf.out.mono ?_; rintro e W1 ⟨rfl, m1, rfl⟩)
          | (go_at_call 33; refine (HST.out _).mono ?_; rintro e W2 ⟨rfl, m2, rfl⟩)
          | (go_at_call 34; refine (HSt.out _).mono ?_)
          | fail)
        rintro e W1 ⟨row, cnt, a1, c1, X, s', rfl, rd1, fr1, nm1, ha1, hps⟩
        generalize hmd : m1 + m2 = md at *
        clear hmd
        have HGd := Hid.mk' (HG.out.drew md)
        have hz1 := fr1.size
        have hzd : (wr.drewN md).heap.size = wr.heap.size := rfl
        have beA : Below W1.heap.size W1 (W1.alloc (.cells #[.bool row, .int .i64 cnt, .slice a1 X.length c1] 71)) := (Below.refl _ _).alloc (Nat.le_refl _) _
        have beB : Below W1.heap.size W1 ((W1.alloc (.cells #[.bool row, .int .i64 cnt, .slice a1 X.length c1] 71)).alloc (.cells #[.bool row, .int .i64 cnt, .slice a1 X.length c1] 71)) := beA.alloc (by simp) _
        have OWN : Hid (OwnS ((W1.alloc (.cells #[.bool row, .int .i64 cnt, .slice a1 X.length c1] 71)).alloc (.cells #[.bool row, .int .i64 cnt, .slice a1 X.length c1] 71)) w.heap.size (.slice av Z.length cv) Z) := (HGd.out.own.fr fr1 HGd.out.nr).below beB
        have HCe : Hid (∀ j u, ([.bool row, .int .i64 cnt, .slice a1 X.length c1] : List Value)[j]? = some u → ((W1.alloc (.cells #[.bool row, .int .i64 cnt, .slice a1 X.length c1] 71)).alloc (.cells #[.bool row, .int .i64 cnt, .slice a1 X.length c1] 71)).cell? ⟨W1.heap.size + 1, j, none⟩ = some u) := fun j u hj => by
          have h1 := heap_alloc_new (W1.alloc (.cells #[.bool row, .int .i64 cnt, .slice a1 X.length c1] 71)) (.cells #[.bool row, .int .i64 cnt, .slice a1 X.length c1] 71)
          rw [show (W1.alloc (.cells #[.bool row, .int .i64 cnt, .slice a1 X.length c1] 71)).heap.size = W1.heap.size + 1 by simp] at h1
          rw [cell_of_row _ (W1.heap.size + 1) j _ _ _ h1]
          simpa using hj
        have HZb : Hid (w.heap.size ≤ ((W1.alloc (.cells #[.bool row, .int .i64 cnt, .slice a1 X.length c1] 71)).alloc (.cells #[.bool row, .int .i64 cnt, .slice a1 X.length c1] 71)).heap.size) := by
          have := HGd.out.bel.size
          show _ ≤ _
          simp
          omega
        have HP1 : Hid (((W1.alloc (.cells #[.bool row, .int .i64 cnt, .slice a1 X.length c1] 71)).alloc (.cells #[.bool row, .int .i64 cnt, .slice a1 X.length c1] 71)).heap[W1.heap.size]? = some (.cells #[.bool row, .int .i64 cnt, .slice a1 X.length c1] 71 (0, 0))) := by
          show _ = _
          rw [heap_alloc_old _ _ (by simp)]
          exact heap_alloc_new _ _
        have HRD := Hid.mk' rd1
        have HFR := Hid.mk' fr1
        have HNM := Hid.mk' nm1
        have HHA := Hid.mk' ha1
        have HPSt := Hid.mk' hps
        have HBB := Hid.mk' beB
        clear rd1 fr1 nm1 ha1 hps beA beB HSt HST HLf
        go_wp2_with (first | (at_builtin; refine wpList_appS rfl (.tmp 31) (.tmp 33) rfl w.heap.size (.slice av Z.length cv) Z.length (cellsS Z) rfl OWN.out (W1.heap.size + 1) 1 [.bool row, .int .i64 cnt, .slice a1 X.length c1] rfl rfl HCe.out (by intro u hu; simp at hu; rcases hu with rfl | rfl | rfl <;> rfl) (by omega) HZb.out ?_) | fail)
        intro v2 W2 own2 gr2 hblk
        have gr : W1.grownBy W2 (Value.slice av Z.length cv).ownBlock := ⟨gr2.os.trans HBB.out.os, gr2.tape.trans HBB.out.tape, gr2.output.trans HBB.out.output, Nat.le_trans HBB.out.size gr2.size, fun k hk ho => (gr2.block k (by have := HBB.out.size; omega) ho).trans (HBB.out.block k hk)⟩
        have hob : ∀ k, (Value.slice av Z.length cv).ownBlock = some k → k < wr.heap.size := fun k e => (HG.out.own.lt k e).2
        have hp2 : W2.heap[W1.heap.size]? = some (.cells #[.bool row, .int .i64 cnt, .slice a1 X.length c1] 71 (0, 0)) := by
          rw [gr2.block W1.heap.size (by simp; omega) (fun e => by have := hob _ e.symm; omega)]
          exact HP1.out
        have p1 := (cell_of_row W2 W1.heap.size 1 _ _ _ hp2).trans (show (#[.bool row, .int .i64 cnt, .slice a1 X.length c1] : Array Value)[1]? = some (.int .i64 cnt) from rfl)
        have hblk' : v2.ownBlock = (Value.slice av Z.length cv).ownBlock ∨ ∃ q, v2.ownBlock = some q ∧ W1.heap.size ≤ q := by
          rcases hblk with e | e
          · exact .inl e
          · exact .inr ⟨_, e, by omega⟩
        have HM0 := Hid.mk' (mz_of HG.out.rd L.length)
        by_cases hbd : s'.bad = 0
        · have hblk2 : ∀ ad, a1 = some ad → 0 < X.length → some ad.block ≠ v2.ownBlock := fun ad e h0 e2 => by
            have h1 := HHA.out ad e h0
            have h2 := nums_lt HNM.out h0 ad e
            rcases hblk with e3 | e3
            · have := hob _ (e3.symm.trans e2.symm); omega
            · rw [e3] at e2
              simp at e2
              omega
          have hcnt : cnt = ((rInt L s).1.natAbs : Int) := by
            rcases HPSt.out with ⟨h1, h2, _⟩ | ⟨_, _, h3, _⟩
            · rw [h2] at hbd; exact absurd hbd h1
            · exact h3
          have own3 : OwnS W2 w.heap.size v2 (Z ++ [⟨row, (rInt L s).1.natAbs, a1, c1, X⟩]) := by
            unfold OwnS
            rw [cellsS_app, cellsS_one, List.length_append]
            rw [hcnt] at own2
            exact own2
          obtain ⟨_, hpl, av2, cv2, rfl, ug2, hflat, hk2⟩ := HGd.out.next (c1 := c1) hlt HLP.out (by rw [hqn]; exact HPSt.out) hbd HRD.out HFR.out HNM.out HHA.out gr own3 hblk' hblk2
          have hle : (pcL L (n - (flat Z).length) s).length ≤ q := by
            have := ug2.len
            rw [hflat, List.length_append] at this
            omega
          rw [hpl] at hle
          have hq2 : (q - (rInt L s).1.natAbs) + (flat (Z ++ [⟨row, (rInt L s).1.natAbs, a1, c1, X⟩])).length = n := by
            rw [hflat, List.length_append, hpl]
            omega
          have HM2 := Hid.mk' (mz_of ug2.rd L.length)
          have hk3 := ug2.rd.at_le
          have HBD := Hid.mk' hbd
          have HQ2 := Hid.mk' hq2
          have HUG := Hid.mk' ug2
          have hlen2 : (Z ++ [(⟨row, (rInt L s).1.natAbs, a1, c1, X⟩ : Sr)]).length = Z.length + 1 := by simp
          have HL2 := Hid.mk' hlen2
          have HB0 := Hid.mk' HG.out.bad
          subst hcnt
          clear own2 gr2 hblk gr hob hp2 hblk' hblk2 own3 hpl ug2 hflat hbd hq2 hlen2 OWN HCe HZb HP1 HRD HFR HNM HHA HPSt HBB HGd
          generalize hZ1 : Z ++ [(⟨row, (rInt L s).1.natAbs, a1, c1, X⟩ : Sr)] = Z1 at *
          clear hZ1
          generalize (rInt L s).1.natAbs = cn at *
          generalize hzl : Z.length + 1 = z1 at *
          clear hzl
          go_wp2
          refine ⟨.inl ⟨s', Z1, pcR L s, av2, cv2, q - cn, by rw [HL2.out], by go_num, HQ2.out, by exact HUG⟩, ?_⟩
          rw [HM2.out, HM0.out, if_pos HBD.out, if_pos HB0.out]
          omega
        · have hun := HG.out.bads hlt HLP.out (by rw [hqn]; exact HPSt.out) hbd
          have HUB : Hid (UB w W2 r a cap L n s') := ⟨un_rd HGd.out HFR.out HRD.out gr, hbd, hun, un_bel HGd.out HFR.out gr, HG.out.rb⟩
          have HM2 := Hid.mk' (mz_of HUB.out.rd L.length)
          have HBD := Hid.mk' hbd
          have HB0 := Hid.mk' HG.out.bad
          obtain ⟨g2, c2, rfl⟩ : ∃ g2 c2, v2 = .slice (some ⟨g2, 0, none⟩) (Z.length + 1) c2 := by
            rcases own2.2 with ⟨_, hn0⟩ | ⟨g, cp, cur, e, _⟩
            · omega
            · exact ⟨g, cp, e⟩
          clear own2 gr2 hblk gr hob hp2 hblk' hbd hun OWN HCe HZb HP1 HRD HFR HNM HHA HPSt HBB HGd
          generalize hzl : Z.length + 1 = z1 at *
          clear hzl
          go_wp2
          refine ⟨.inr ⟨s', _, _, _, _, rfl, rfl, HUB⟩, ?_⟩
          rw [HM2.out, HM0.out, if_neg HBD.out, if_pos HB0.out]
          omega
      · have hpos : ¬ 0 < (L.length : Int) - (s.k : Int) := by omega
        have hkL : s.k = L.length := by omega
        have HOd := Hid.mk' (fun m => (HG.out.rd.drew m).on)
        by_cases hx : 0 < q
        · have hx' : 0 < (q : Int) := by omega
          have HAt := Hid.mk' (fun m => rat_any (wr.drewN m) (HG.out.rd.drew m))
          have HFl := Hid.mk' (fun m => rfail_any 231 (s.k : Int) (wr.drewN m) (HG.out.rd.drew m))
          rw [St.fl_new _ _ _ HG.out.bad (by decide)] at HFl
          have hun : un L n ⟨0, 0, 0⟩ [] false = ([], 231, (s.k : Int)) := by rw [← HG.out.eq, un_less hlt (by omega), hkL]
          have HEn : Hid (∀ W m, On (wr.drewN m) W 90 r a cap L ⟨s.k, 231, s.k⟩ → Calls Tryd.prog 37 #[.pointer (some ⟨r, 0, none⟩)] W fun e w' => ∃ q, e = .returned (.iface 63 (.pointer (some ⟨q, 0, none⟩))) ∧ UP w w' L n (.returned (.tuple #[.slice none 0 0, .iface 63 (.pointer (some ⟨q, 0, none⟩))]))) := fun W m on => (ended_any W on.1).mono (by
            rintro e w' ⟨v, rfl, he, hb⟩
            have e1 : doneE L ⟨s.k, 231, s.k⟩ = 231 := by unfold doneE; rw [if_neg (by show ¬ (231 : Int) = 0; decide)]
            have e2 : doneP L ⟨s.k, 231, s.k⟩ = s.k := by unfold doneP; rw [if_neg (by show ¬ (231 : Int) = 0; decide)]
            rw [e1, e2] at he
            have hbel : Below w.heap.size w w' := ((HG.out.drew m).bel.trans ⟨on.2.os, on.2.tape, on.2.output, on.2.size, fun k hk => on.2.block k (by have := (HG.out.drew m).bel.size; omega) (by have := HG.out.rb; omega)⟩).trans (hb.mono (Nat.le_trans (HG.out.drew m).bel.size on.2.size))
            rcases he with ⟨_, h0, _⟩ | ⟨h0, q, rfl, h2, h3⟩
            · exact absurd h0 (by decide)
            · exact ⟨q, rfl, up_bad hun (.inr ⟨h0, q, rfl, h2, h3⟩) hbel⟩)
          clear HG hun hkL
          go_wp2_with (first
            | (go_at_call 32; refine HLf.out.mono ?_; rintro e W1 ⟨rfl, m1, rfl⟩)
            | (go_at_call 36; refine (HAt.out _).mono ?_; rintro e W3 ⟨rfl, hw3⟩; obtain rfl := hw3)
            | (go_at_call 35; refine (HFl.out _).mono ?_; rintro e W4 ⟨rfl, on4⟩; have ON4 := Hid.mk' on4; clear on4)
            | (go_at_call 37; refine (HEn.out _ _ ON4.out).mono ?_)
            | fail)
          rintro e W9 ⟨g9, rfl, up9⟩
          have UP9 := Hid.mk' up9
          clear up9
          go_wp2
          go_ret2
          exact UP9.out
        · obtain rfl : q = 0 := by omega
          have hfl : (flat Z).length = n := by omega
          have hun : un L n ⟨0, 0, 0⟩ [] false = (flat Z, 0, 0) := by rw [← HG.out.eq, un_end hlt (by omega)]
          have HEn : Hid (∀ m, Calls Tryd.prog 37 #[.pointer (some ⟨r, 0, none⟩)] (wr.drewN m) fun e w' => e = .returned .nilIface ∧ Below wr.heap.size wr w') := fun m => (ended_any _ (HG.out.rd.drew m)).mono (by
            rintro e w' ⟨v, rfl, he, hb⟩
            have e1 : doneE L s = 0 := by unfold doneE; rw [if_pos HG.out.bad, if_neg hlt]
            rw [e1] at he
            rcases he with ⟨rfl, _, _⟩ | ⟨h0, _⟩
            · exact ⟨rfl, (below_drewN (Below.refl _ _) m).trans hb⟩
            · exact absurd rfl h0)
          have HLy : Hid (∀ W, Below wr.heap.size wr W → Calls Tryd.prog 38 #[.slice av Z.length cv, .int .i64 (n : Int)] W fun e w' => ∃ v, e = .returned v ∧ UP w w' L n (.returned (.tuple #[v, .nilIface]))) := fun W hW => by
            obtain ⟨a1, c1, e1, hc⟩ := HG.out.own.open
            simp only [Value.slice.injEq] at e1
            obtain ⟨rfl, _, rfl⟩ := e1
            refine (layout_any av cv Z n W (fun k z hz => ?_) (fun z hz => ⟨(HG.out.nums z hz).1.below hW, (HG.out.nums z hz).2.2.1⟩) hfl (by omega) (by have := HG.out.few; omega)).mono ?_
            · obtain ⟨g, h1, h2, h3⟩ := hc k z hz
              refine ⟨g, h1, fun i hi => ?_⟩
              have h4 := h3 i hi
              obtain ⟨u, hu⟩ : ∃ u, z.cells[i]? = some u := ⟨z.cells[i]'(by simp [Sr.cells]; omega), List.getElem?_eq_getElem _⟩
              rw [hu] at h4 ⊢
              exact (hW.cell (p := ⟨g, 3 * k + i, none⟩) (block_lt_of_cell h4)).trans h4
            · rintro e w' ⟨v, rfl, o1, b1⟩
              have hbW : Below w.heap.size w W := HG.out.bel.trans (hW.mono HG.out.bel.size)
              refine ⟨v, rfl, v, .nilIface, rfl, by rw [hun]; exact .inl ⟨rfl, rfl, rfl⟩, ?_, hbW.trans (b1.mono hbW.size)⟩
              rw [hun]
              refine ⟨o1.1, ?_⟩
              rcases o1.2 with hn | ⟨gg, cap, cur, e, hg, r⟩
              · exact .inl hn
              · exact .inr ⟨gg, cap, cur, e, Nat.le_trans hbW.size hg, r⟩
          clear HG hun hkL
          go_wp2_with (first
            | (go_at_call 32; refine HLf.out.mono ?_; rintro e W1 ⟨rfl, m1, rfl⟩)
            | (go_at_call 37; refine (HEn.out _).mono ?_; rintro e W2 ⟨rfl, b2⟩; have B2 := Hid.mk' b2; clear b2)
            | (go_at_call 38; refine (HLy.out _ B2.out).mono ?_)
            | fail)
          rintro e W3 ⟨v3, rfl, up3⟩
          have UP3 := Hid.mk' up3
          clear up3
          go_wp2
          go_ret2
          exact UP3.out
    · have HLf := Hid.mk' (rleft_any wr HB.out.rd)
      have hk := HB.out.rd.at_le
      have HST := Hid.mk' (fun m => pstop_any (wr.drewN m) (HB.out.rd.drew m))
      rw [show decide (s.bad ≠ 0) = true by simpa using HB.out.bad] at HST
      have HAt := Hid.mk' (fun m => rat_any (wr.drewN m) (HB.out.rd.drew m))
      have HFl := Hid.mk' (fun m => rfail_any 231 (s.k : Int) (wr.drewN m) (HB.out.rd.drew m))
      rw [St.fl_bad _ _ _ HB.out.bad] at HFl
      have HEn : Hid (∀ W m, On (wr.drewN m) W 90 r a cap L s → Calls Tryd.prog 37 #[.pointer (some ⟨r, 0, none⟩)] W fun e w' => ∃ q, e = .returned (.iface 63 (.pointer (some ⟨q, 0, none⟩))) ∧ UP w w' L n (.returned (.tuple #[.slice none 0 0, .iface 63 (.pointer (some ⟨q, 0, none⟩))]))) := fun W m on => (ended_any W on.1).mono (by
        rintro e w' ⟨v, rfl, he, hb⟩
        have e1 : doneE L s = s.bad := by unfold doneE; rw [if_neg HB.out.bad]
        have e2 : doneP L s = s.wh := by unfold doneP; rw [if_neg HB.out.bad]
        rw [e1, e2] at he
        have hbel : Below w.heap.size w w' := ((HB.out.drew m).bel.trans ⟨on.2.os, on.2.tape, on.2.output, on.2.size, fun k hk => on.2.block k (by have := (HB.out.drew m).bel.size; omega) (by have := HB.out.rb; omega)⟩).trans (hb.mono (Nat.le_trans (HB.out.drew m).bel.size on.2.size))
        rcases he with ⟨_, h0, _⟩ | ⟨h0, q, rfl, h2, h3⟩
        · exact absurd h0 HB.out.bad
        · exact ⟨q, rfl, up_bad HB.out.eq (.inr ⟨h0, q, rfl, h2, h3⟩) hbel⟩)
      have HOd := Hid.mk' (fun m => (HB.out.rd.drew m).on)
      clear HB
      by_cases hlt : s.k < L.length
      · have hpos : 0 < (L.length : Int) - (s.k : Int) := by omega
        by_cases hx : 0 < x
        · go_wp2_with (first
            | (go_at_call 32; refine HLf.out.mono ?_; rintro e W1 ⟨rfl, m1, rfl⟩)
            | (go_at_call 33; refine (HST.out _).mono ?_; rintro e W2 ⟨rfl, m2, rfl⟩)
            | (go_at_call 36; refine (HAt.out _).mono ?_; rintro e W3 ⟨rfl, hw3⟩; obtain rfl := hw3)
            | (go_at_call 35; refine (HFl.out _).mono ?_; rintro e W4 ⟨rfl, on4⟩; have ON4 := Hid.mk' on4; clear on4)
            | (go_at_call 37; refine (HEn.out _ _ ON4.out).mono ?_)
            | fail)
          rintro e W9 ⟨g9, rfl, up9⟩
          have UP9 := Hid.mk' up9
          clear up9
          go_wp2
          go_ret2
          exact UP9.out
        · go_wp2_with (first
            | (go_at_call 32; refine HLf.out.mono ?_; rintro e W1 ⟨rfl, m1, rfl⟩)
            | (go_at_call 33; refine (HST.out _).mono ?_; rintro e W2 ⟨rfl, m2, rfl⟩)
            | (go_at_call 37; refine (HEn.out _ _ (HOd.out _)).mono ?_)
            | fail)
          rintro e W9 ⟨g9, rfl, up9⟩
          have UP9 := Hid.mk' up9
          clear up9
          go_wp2
          go_ret2
          exact UP9.out
      · have hpos : ¬ 0 < (L.length : Int) - (s.k : Int) := by omega
        by_cases hx : 0 < x
        · go_wp2_with (first
            | (go_at_call 32; refine HLf.out.mono ?_; rintro e W1 ⟨rfl, m1, rfl⟩)
            | (go_at_call 36; refine (HAt.out _).mono ?_; rintro e W3 ⟨rfl, hw3⟩; obtain rfl := hw3)
            | (go_at_call 35; refine (HFl.out _).mono ?_; rintro e W4 ⟨rfl, on4⟩; have ON4 := Hid.mk' on4; clear on4)
            | (go_at_call 37; refine (HEn.out _ _ ON4.out).mono ?_)
            | fail)
          rintro e W9 ⟨g9, rfl, up9⟩
          have UP9 := Hid.mk' up9
          clear up9
          go_wp2
          go_ret2
          exact UP9.out
        · go_wp2_with (first
            | (go_at_call 32; refine HLf.out.mono ?_; rintro e W1 ⟨rfl, m1, rfl⟩)
            | (go_at_call 37; refine (HEn.out _ _ (HOd.out _)).mono ?_)
            | fail)
          rintro e W9 ⟨g9, rfl, up9⟩
          have UP9 := Hid.mk' up9
          clear up9
          go_wp2
          go_ret2
          exact UP9.out
end Go.Proofs.YtphpaaajfcbafaaDoor.K
