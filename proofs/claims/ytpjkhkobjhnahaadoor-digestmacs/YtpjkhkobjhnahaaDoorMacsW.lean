import Derived.Test.YtpjkhkobjhnahaaDoorSumsW
import Derived.Test.YtpjkhkobjhnahaaDoorKbL
import Derived.Test.YtpjkhkobjhnahaaDoorRMac
namespace Go.Proofs.YtpjkhkobjhnahaaDoor
open Go.RowKit
set_option linter.unusedVariables false
set_option linter.unusedSimpArgs false

theorem own_byt {w : World} {g : Nat} {l : List UInt8} (hg : w.heap[g]? = some (.cells (bs (l ++ marks)) 5 (0, 0))) : Byt w (some ⟨g, 0, none⟩) l := .inr ⟨_, 0, rfl, fun j hj => by
  rw [Nat.zero_add, ← own_at l j hj]
  exact (cell_of_row w g j _ _ _ hg).trans (bs_get _ j (by simp [marks]; omega))⟩

set_option maxRecDepth 100000 in
set_option maxHeartbeats 4000000 in
theorem macs_any (a0 a1 : Option Addr) (k l : List UInt8) (cap0 cap1 : Nat) (w : World) (hb0 : Byt w a0 k) (hb1 : Byt w a1 l) (hk : k.length ≤ 140737488351232) (hl : l.length ≤ 140737488351232) (hK : KeysAt w) (hF : FirstAt w) (hK' : RoundsAt w) (hF' : RootsAt w) (h5 : 5 ≤ w.heap.size) :
    Calls Tryd.prog 5 #[.slice a0 k.length cap0, .slice a1 l.length cap1] w fun e w' => e = .returned (.bool true) ∧ Below w.heap.size w w' := by
  go_enter Tryd.func5, Tryd.ntmps5
  go_wp2_with fail
  refine (hand_any a0 k cap0 w hb0 hk).mono ?_
  rintro e w1 ⟨rfl, hg1, be1⟩
  have z1 : w.heap.size < w1.heap.size := (Array.getElem?_eq_some_iff.1 hg1).1
  go_wp2_with fail
  refine (hand_any a1 l cap1 w1 (byt_below hb1 be1) hl).mono ?_
  rintro e w2 ⟨rfl, hg2, be2⟩
  have z2 : w1.heap.size < w2.heap.size := (Array.getElem?_eq_some_iff.1 hg2).1
  have bel2 : Below w.heap.size w w2 := be1.trans (be2.mono (by omega))
  have hg12 : w2.heap[w.heap.size]? = some (.cells (bs (k ++ marks)) 5 (0, 0)) := by rw [be2.block _ z1]; exact hg1
  have K2 := keysAt_below hK bel2
  have F2 := firstAt_below hF bel2
  have H30 : Hid (∀ wx, Below w2.heap.size w2 wx → Calls Tryd.prog 30 #[.slice (some ⟨w.heap.size, 0, none⟩) k.length (k.length + 9)] wx fun e w' => e = .returned (.agg (bs (kb k))) ∧ Below wx.heap.size wx w') := fun wx hx => by
    have hgx : wx.heap[w.heap.size]? = some (.cells (bs (k ++ marks)) 5 (0, 0)) := by rw [hx.block _ (by omega)]; exact hg12
    have zx := hx.size
    by_cases h64 : k.length ≤ 64
    · exact keyBlock_short _ k k.length _ wx rfl (own_byt hgx) h64
    · exact keyBlock_long _ k k.length _ wx rfl (own_byt hgx) (fun b off e => by cases e; omega) (by omega) (by omega) (by omega) (keysAt_below K2 hx) (firstAt_below F2 hx)
  clear hg1 be1 be2
  go_wp2_with fail
  refine (mac_any k l _ (some ⟨w1.heap.size, 0, none⟩) l.length (l.length + 9) w2 rfl (own_byt hg2) (fun b off e => by cases e; omega) (by omega) (by omega) K2 F2 H30).mono ?_
  rintro e w3 ⟨rfl, be3⟩
  have z3 := be3.size
  have bel3 : Below w.heap.size w w3 := bel2.trans (be3.mono (by omega))
  have H34 : Hid (∀ (p : UInt8) (pv : Int), pv = (p.toNat : Int) → ∀ wx, Below w3.heap.size w3 wx → Calls Tryd.prog 34 #[.slice a0 k.length cap0, .int .u8 pv] wx fun e w' => ∃ g, e = .returned (.slice (some ⟨g, 0, none⟩) 64 64) ∧ wx.heap.size ≤ g ∧ w'.heap[g]? = some (.cells (bs (xorB (kb k) p)) 5 (0, 0)) ∧ Below wx.heap.size wx w') := fun p pv hpv wx hx => by
    have belx : Below w.heap.size w wx := bel3.trans (hx.mono (by omega))
    have zx := hx.size
    by_cases h64 : k.length ≤ 64
    · exact rpadded_short a0 k k.length cap0 p pv hpv wx rfl (byt_below hb0 belx) h64
    · exact rpadded_long a0 k k.length cap0 p pv hpv wx rfl (byt_below hb0 belx) (by omega) (by omega) (roundsAt_below hK' h5 belx) (rootsAt_below hF' h5 belx) (by omega)
  go_wp2_with fail
  refine (rmac_any k l _ a1 l.length cap1 w3 rfl (byt_below hb1 bel3) hl (roundsAt_below hK' h5 bel3) (rootsAt_below hF' h5 bel3) (by omega) H34).mono ?_
  rintro e w4 ⟨rfl, be4⟩
  have z4 := be4.size
  have bel4 : Below w.heap.size w w4 := bel3.trans (be4.mono (by omega))
  have LM : (mac k l).length = 32 := sha_len _
  have heq := fun wx => eq24 (mac k l) (mac k l) LM LM wx
  have hgk : w4.heap[w.heap.size]? = some (.cells (bs (k ++ marks)) 5 (0, 0)) := by rw [be4.block _ (by omega), be3.block _ (by omega)]; exact hg12
  have hgl : w4.heap[w1.heap.size]? = some (.cells (bs (l ++ marks)) 5 (0, 0)) := by rw [be4.block _ (by omega), be3.block _ z2]; exact hg2
  clear H30 H34 be3 be4 bel2 bel3 K2 F2 hg2 hg12
  go_wp2_with fail
  refine (kept_any w.heap.size a0 k cap0 w4 hgk (byt_below hb0 bel4) hk).mono ?_
  rintro e w5 ⟨rfl, m, rfl⟩
  go_wp2_with fail
  refine (kept_any w1.heap.size a1 l cap1 (w4.drewN m) hgl (byt_below hb1 (below_drewN bel4 m)) hl).mono ?_
  rintro e w6 ⟨rfl, m2, rfl⟩
  go_wp2
  go_ret
  exact ⟨rfl, below_drewN bel4 (m + m2)⟩
end Go.Proofs.YtpjkhkobjhnahaaDoor
