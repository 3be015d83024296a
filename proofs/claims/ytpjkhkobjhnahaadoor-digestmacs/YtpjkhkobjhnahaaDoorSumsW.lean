import Derived.Test.YtpjkhkobjhnahaaDoorEq
import Derived.Test.YtpjkhkobjhnahaaDoorMem
import Derived.Test.YtpjkhkobjhnahaaDoorRCrc
import Derived.Test.YtpjkhkobjhnahaaDoorRSum
namespace Go.Proofs.YtpjkhkobjhnahaaDoor
open Go.RowKit
set_option linter.unusedVariables false
set_option linter.unusedSimpArgs false

theorem eq24 (a b : List UInt8) (ha : a.length = 32) (hb : b.length = 32) (w : World) :
    (Op.equalIn 10000 24 (.agg (bs a)) (.agg (bs b))).run Tryd.prog w = .ok (decide (a = b)) w := by
  obtain ⟨i, hi, _⟩ := info5'
  exact eq_bytes 9998 Tryd.underlying24 hi (by kernel_rfl) Tryd.underlying5 a b ha hb w
theorem rcrc_at (len : Nat) (a : Option Addr) (l : List UInt8) (cap : Nat) (w : World) (h : l.length = len) (hb : Byt w a l) (hl : len ≤ 4611686018427387904) :
    Calls Tryd.prog 15 #[.slice a len cap] w fun e w' => e = .returned (.int .u32 (U (crc l))) ∧ w' = w := by
  subst h
  exact rcrc_any a l cap w hb hl

set_option maxRecDepth 100000 in
set_option maxHeartbeats 4000000 in
theorem sums_any (a : Option Addr) (l : List UInt8) (cap : Nat) (w : World) (hb : Byt w a l) (hl : l.length ≤ 140737488351232) (hK : KeysAt w) (hF : FirstAt w) (hN : NibsAt w) (hK' : RoundsAt w) (hF' : RootsAt w) (h5 : 5 ≤ w.heap.size) :
    Calls Tryd.prog 4 #[.slice a l.length cap] w fun e w' => e = .returned (.bool true) ∧ Below w.heap.size w w' := by
  go_enter Tryd.func4, Tryd.ntmps4
  go_wp2_with fail
  refine (hand_any a l cap w hb hl).mono ?_
  rintro e w1 ⟨rfl, hg1, hb1⟩
  have z1 : w.heap.size < w1.heap.size := (Array.getElem?_eq_some_iff.1 hg1).1
  have own1 : Byt w1 (some ⟨w.heap.size, 0, none⟩) l := .inr ⟨_, 0, rfl, fun j hj => by
    rw [Nat.zero_add, ← own_at l j hj]
    exact (cell_of_row w1 w.heap.size j _ _ _ hg1).trans (bs_get _ j (by simp [marks]; omega))⟩
  have B1 := byt_below hb hb1
  go_wp2_with fail
  refine (sum_any (some ⟨w.heap.size, 0, none⟩) l l.length (l.length + 9) w1 rfl own1 (fun b off e => by cases e; exact z1) (by omega) (by omega) (keysAt_below hK hb1) (firstAt_below hF hb1)).mono ?_
  rintro e w2 ⟨rfl, hb2⟩
  have z2 := hb2.size
  have bel2 : Below w.heap.size w w2 := hb1.trans (hb2.mono (by omega))
  have B2 := byt_below B1 hb2
  go_wp2_with fail
  refine (rsum_any a l l.length cap w2 rfl B2 (by omega) (roundsAt_below hK' h5 bel2) (rootsAt_below hF' h5 bel2) (by omega)).mono ?_
  rintro e w3 ⟨rfl, hb3⟩
  have z3 := hb3.size
  have bel3 : Below w.heap.size w w3 := bel2.trans (hb3.mono (by omega))
  have hb13 : Below w1.heap.size w1 w3 := hb2.trans (hb3.mono (by omega))
  have heq := fun wx => eq24 (sha l) (sha l) (sha_len l) (sha_len l) wx
  have own3 := byt_below own1 hb13
  have B3 := byt_below B1 hb13
  have n3 := nibsAt_below hN bel3
  have hg3 : w3.heap[w.heap.size]? = some (.cells (bs (l ++ marks)) 5 (0, 0)) := by rw [hb13.block _ z1]; exact hg1
  clear own1 B1 B2 hb1 hb2 hb3 bel2 hb13
  go_wp2_with fail
  refine (crc_at l.length (some ⟨w.heap.size, 0, none⟩) l (l.length + 9) w3 rfl own3 (by omega) n3).mono ?_
  rintro e w3 ⟨rfl, rfl⟩
  go_wp2_with fail
  refine (rcrc_at l.length a l cap w3 rfl B3 (by omega)).mono ?_
  rintro e w3 ⟨rfl, rfl⟩
  go_wp2_with fail
  refine (kept_any w.heap.size a l cap w3 hg3 B3 hl).mono ?_
  rintro e w4 ⟨rfl, m, rfl⟩
  go_wp2
  go_ret
  exact ⟨rfl, below_drewN bel3 m⟩
end Go.Proofs.YtpjkhkobjhnahaaDoor
