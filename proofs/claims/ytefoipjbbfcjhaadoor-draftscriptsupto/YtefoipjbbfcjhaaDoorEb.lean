import Derived.Test.YtefoipjbbfcjhaaDoorEa
import Derived.Test.YtefoipjbbfcjhaaDoorDx
import Derived.Test.YtefoipjbbfcjhaaDoorDm
import Derived.Test.YtefoipjbbfcjhaaDoorQLv
namespace Go.Proofs.YtefoipjbbfcjhaaDoor
open Go.RowKit
set_option linter.unusedVariables false
set_option linter.unusedSimpArgs false

theorem rough_any (A B : List Nat) (aA aB : Option Addr) (cA cB : Nat) (W : World) (h1 : Chs W aA A.length (fun i => .string (Utf8.encode ((A.getD i 0 : Nat) : Int)))) (h2 : Chs W aB B.length (fun i => .string (Utf8.encode ((B.getD i 0 : Nat) : Int)))) (hA : ∀ n ∈ A, Chr n) (hB : ∀ n ∈ B, Chr n) (l1 : A.length ≤ 1048576) (l2 : B.length ≤ 1048576) (hbig : 2000 < A.length ∨ 2000 < B.length) :
    Calls Tryd.prog 17 #[.slice aA A.length cA, .slice aB B.length cB] W fun e w' => ∃ v, e = .returned v ∧ w'.ownsRow W.heap.size 34 7 v (scrL A B).length (pV (scrL A B)) ∧ Below W.heap.size W w' := by
  have e : scrL A B = roL A.length B.length (frN A B) (enN A B) (fun i => txt (part B (frN A B) i)) := by
    rw [scrL, if_pos hbig, rough_eq B A.length (frN A B) (enN A B) (frN_le A B).1 (frN_le A B).2 (enN_le A B).1 (enN_le A B).2]
  rw [e]
  refine rough_abs A.length B.length (frN A B) (enN A B) (fun i => A.getD i 0) (fun i => B.getD i 0) aA aB cA cB W (fun n => Utf8.encode (n : Int)) (fun i => txt (part B (frN A B) i)) (fun i j hi hj => enc_inj (hA _ (by simp [List.getD, hi])) (hB _ (by simp [List.getD, hj]))) ?_ ?_ (rfl : _ = _) (rfl : _ = _) ?_ (fun x => (encode_size (x : Int)).2) h1 h2 l1 l2
  · show txt (part B (frN A B) (frN A B)) = _
    rw [part_self, txt_nil]
    rfl
  · intro i hi hj
    rw [part_snoc hi hj, txt_snoc]
    simp [List.getD, hj]
  · intro i hi
    have := (txt_size (part B (frN A B) i)).2
    have h3 : (part B (frN A B) i).length ≤ B.length := by unfold part; simp; omega
    omega
theorem own_pos {w : World} {base e sz n : Nat} {v : Value} {xs : List Value} (h : w.ownsRow base e sz v n xs) : n ≤ maxLen := by
  rcases h.2 with ⟨_, rfl⟩ | ⟨g, cap, cur, _, _, _, h1, h2, _⟩
  · exact Nat.zero_le _
  · omega
theorem rd_own7 {w : World} {base e n c : Nat} {a : Option Addr} {L : List Value} (h : w.ownsRow base e 7 (.slice a n c) n L) : Rd w a L := fun j u hj => by
  rcases h.2 with ⟨e1, hn⟩ | ⟨g, cap, cur, e1, _⟩
  · have := h.1
    rw [hn] at this
    have := (List.getElem?_eq_some_iff.1 hj).1
    omega
  · cases e1
    have := World.ownsRow.cells h (g := g) rfl j u hj
    rw [Addr.add_mid, Nat.zero_add] at this
    exact ⟨g, rfl, this⟩
set_option maxRecDepth 100000 in
theorem scripts_all (s t : ByteArray) (w : World) (hs : s.size ≤ 1048576) (ht : t.size ≤ 1048576) (hT : Q.Tabs w) :
    Calls Tryd.prog 3 #[.string s, .string t] w fun e w' => e = .returned (.bool true) ∧ Below w.heap.size w w' := by
  have HP := Hid.mk' (scriptP_of s t w hs ht (fun W hb => Q.valid_any s W (by omega) (hT.below hb)) (fun W hb => Q.valid_any t W (by omega) (hT.below hb)))
  have HR := Hid.mk' (fun W => scriptR_of s t W hs ht rough_any)
  generalize scr s t = SC at *
  have HSA := Hid.mk' (fun a b ca cb W => same_all SC a b ca cb W)
  clear hs ht hT
  go_enter Tryd.func3, Tryd.ntmps3
  go_wp2_with (first
    | (go_at_call 6; refine HP.out.mono ?_; rintro e W1 ⟨v1, rfl, own1, b1⟩; obtain ⟨a1, c1, rfl⟩ := own_sl own1; have R1 := Hid.mk' (rd_own7 own1); have L1 := Hid.mk' (own_pos own1); have B1 := Hid.mk' b1; clear own1 b1)
    | (go_at_call 7; refine (HR.out _).mono ?_; rintro e W2 ⟨v2, rfl, own2, b2⟩; obtain ⟨a2, c2, rfl⟩ := own_sl own2; have R2 := Hid.mk' (rd_own7 own2); have R3 := Hid.mk' (R1.out.below b2); have B2 := Hid.mk' (B1.out.trans (b2.mono B1.out.size)); clear own2 b2 B1 R1)
    | (go_at_call 5; refine (HSA.out _ _ _ _ _ R3.out R2.out (by have := L1.out; unfold maxLen at this; omega)).mono ?_; rintro e W3 ⟨rfl, b3⟩; have B3 := Hid.mk' (B2.out.trans (b3.mono B2.out.size)); clear b3 B2)
    | fail)
  go_ret
  exact ⟨rfl, B3.out⟩
end Go.Proofs.YtefoipjbbfcjhaaDoor
