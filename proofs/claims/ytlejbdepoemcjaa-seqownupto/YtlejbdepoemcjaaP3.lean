import Derived.Test.YtlejbdepoemcjaaP2
set_option maxRecDepth 100000
set_option maxHeartbeats 4000000
namespace Go.Proofs.Ytlejbdepoemcjaa
open Go.RowKit Sq
set_option linter.unusedVariables false
set_option linter.unusedSimpArgs false
theorem ow_start {w w1 w2 : World} {s : Sx} (hs : SeqAt w1 s []) (lo : ∀ j ∈ s.bl, w.heap.size ≤ j) (b1 : Below w.heap.size w w1) (hr : RefAt w2 w1.heap.size w1.heap.size (.slice none 0 0) []) (b2 : Below w1.heap.size w1 w2) :
    OW w s.sb w1.heap.size w2.heap.size 0 0 (w2.alloc (.cells (B.bkI (.slice none 0 0)) 73)) := by
  have b3 : Below w2.heap.size w2 (w2.alloc (.cells (B.bkI (.slice none 0 0)) 73)) := (Below.refl _ _).alloc (Nat.le_refl _) _
  have z1 := b1.size
  have z2 := b2.size
  have z3 := b3.size
  have lr := hr.lt
  have b12 : Below w.heap.size w w2 := b1.trans (b2.mono z1)
  refine ⟨s, .slice none 0 0, [], [], fun j => if j < w1.heap.size then 1 else if j = w1.heap.size then 2 else 0, .slice none 0 0, [], rfl, ⟨(hs.below b2).below b3, fun j hj => ⟨if_pos (hs.lt j hj), lo j hj⟩, ⟨(hr.below b3).c0, (hr.below b3).own.mono z1, hr.ok, z1, hr.len⟩, by simp, fun k hk => (by cases hk), b12.trans (b3.mono b12.size), fun j hj => by rw [if_neg (by omega), if_neg (by omega)]⟩, rfl, by simp, ⟨⟨heap_alloc_new _ _, ⟨rfl, Or.inl ⟨rfl, rfl⟩⟩, by simp [Value.ownBlock]⟩, b12.size, by simp, by simp, by rw [if_neg (by omega), if_neg (by omega)], fun b hb => (by cases hb), by simp, fun _ => rfl⟩, rfl⟩
set_option maxHeartbeats 8000000 in
theorem own_all (a : Option Addr) (c : Nat) (L : List PutV) (w : World) (hL : PutsAt w a L) (ok : ∀ x ∈ L, x.ok) (hn : L.length ≤ 1048576) :
    Calls Try.prog 5 #[.slice a L.length c] w fun e w' => e = .returned (.bool true) ∧ Below w.heap.size w w' := by
  obtain ⟨n, hnn⟩ : ∃ n, L.length = n := ⟨_, rfl⟩
  have HNn := hidMk hnn
  rw [hnn]
  rw [hnn] at hn
  clear hnn
  have HN1 := hidMk (new_any w)
  have HR := hidMk new_ref
  go_enter Try.func5, Try.ntmps5
  go_upto_region 5 with (first
    | (go_at_call 7; refine HN1.out.mono ?_; rintro e w1 ⟨s, rfl, hs, lo, b1⟩; clear HN1)
    | (go_at_call 8; refine (HR.out _).mono ?_; rintro e w2 ⟨rfl, hr, b2⟩; clear HR)
    | fail)
  have ow0 := ow_start hs lo b1 hr b2
  clear hs lo hr b1 b2
  generalize s.sb = sb at *
  generalize w1.heap.size = d at *
  unfold B.bkI at ow0
  go_upto_region 6 with fail
  have OW0 := hidMk ow0
  clear ow0
  generalize w2.heap.size = q at *
  go_wp2
  go_loopw [6] (fun v5 wr => ∃ i : Nat, v5 = .int .i64 (i : Int) ∧ i ≤ n ∧ OW w sb d q i (2 * i) wr) (fun v5 wr => n - (match v5 with | .int _ i => i.toNat | _ => 0))
  case atStart => exact ⟨0, rfl, Nat.zero_le _, OW0.out⟩
  case round =>
    clear OW0
    obtain ⟨i, rfl, hin, ow⟩ := hrel
    have HOW := hidMk ow
    clear ow
    by_cases hi : i < n
    · obtain ⟨p, hoi⟩ : ∃ o, L[i]? = some o := ⟨_, List.getElem?_eq_getElem (by rw [HNn.out]; exact hi)⟩
      have hp := ok p (List.mem_of_getElem? hoi)
      obtain ⟨b, off, rfl, lb, hr⟩ : ∃ b o', a = some ⟨b, o', none⟩ ∧ b < w.heap.size ∧ w.rangeAt b (o' + 66 * i) p.c := by
        rcases hL with rfl | ⟨b, o', e, h1, h2⟩
        · simp at hoi
        · exact ⟨b, o', e, h1, h2 i p hoi⟩
      have HX := hidMk (fun (W : World) (bb : Below w.heap.size w W) => rangeAt_keep hr (bb.block _ lb))
      have owd := HOW.out.below (Below.refl wr.heap.size wr).drew
      have OWD := hidMk owd
      clear hoi hr lb owd HOW
      go_upto_region 9 with fail
      refine own9 (pb := b) (po := off) (m := n) (pc := c) (i := i) (p := p) (sb := sb) (d := d) (fun w' => OW w sb d q (i + 1) (2 * i) w') _ wr _ rfl rfl rfl rfl rfl hp hi (by omega) (HX.out _ OWD.out.bel) ?_ ?_
      · refine (OWD.out.insert (by omega) hp.id hp.bh).mono ?_
        rintro e w' ⟨z, rfl, b1, hc⟩
        refine ⟨z, rfl, HX.out _ b1, hc.mono ?_⟩
        rintro e w2 ⟨rfl, b2, o2⟩
        exact ⟨rfl, HX.out _ b2, o2⟩
      intro z a' w6 ow6 ha
      subst ha
      simp only [Act.put, List.setIfInBounds_toArray, List.set_cons_zero, List.set_cons_succ]
      have OW6 := hidMk ow6
      clear ow6 OWD
      have I1 := hidMk (OW6.out.ids (by omega) (by omega))
      clear OW6
      go_wp2_with (first
        | (go_at_call 22; refine I1.out.mono ?_; rintro e w7 ⟨v7, rfl, C7⟩; have K7 := hidMk C7; clear C7 I1)
        | (go_at_call 28; refine K7.out.mono ?_; rintro e w8 ⟨rfl, ow8⟩; have I2 := hidMk (ow8.live (by omega) (by omega)); clear ow8 K7)
        | (go_at_call 29; refine I2.out.mono ?_; rintro e w9 ⟨v9, rfl, C9⟩; have K9 := hidMk C9; clear C9 I2)
        | (go_at_call 28; refine K9.out.mono ?_; rintro e w10 ⟨rfl, ow10⟩; have O10 := hidMk ow10; clear ow10 K9)
        | fail)
      rw [show ((i : Int) + 1) = ((i + 1 : Nat) : Int) by omega]
      refine ⟨⟨i + 1, rfl, hi, ?_⟩, ?_⟩
      · have := O10.out
        rw [show 2 * i + 1 + 1 = 2 * (i + 1) by omega] at this
        exact this
      · show n - ((i + 1 : Nat) : Int).toNat < n - (i : Int).toNat
        omega
    · obtain rfl : n = i := by omega
      clear hin hi
      have I1 := hidMk (HOW.out.alone (by omega))
      clear HOW
      go_wp2_with (first
        | (go_at_call 30; refine I1.out.mono ?_; rintro e w7 ⟨rfl, C7⟩; have K7 := hidMk C7; clear C7 I1)
        | (go_at_call 18; refine K7.out.mono ?_; rintro e w8 ⟨rfl, b8⟩; have B8 := hidMk b8; clear b8 K7)
        | fail)
      go_ret
      exact ⟨rfl, B8.out⟩
end Go.Proofs.Ytlejbdepoemcjaa
