import Derived.Test.YtepkanibcljdkaaDoorGYh
import Derived.Test.YtepkanibcljdkaaDoorRows
import Derived.WalkKit
import Derived.WalkSpells
import Derived.WalkLawsBesides
import Derived.Deep.QuietTactic
import Derived.BigQuiet
import Derived.Below
import Derived.Laws.Externs
import Derived.Laws.BitsAllLaws
namespace Go.Proofs.YtepkanibcljdkaaDoor
open Go.RowKit
set_option linter.unusedVariables false
set_option linter.unusedSimpArgs false

theorem numP_le (s : ByteArray) (k0 : Nat) : ∀ (f k n : Nat), k ≤ (numP s k0 f k n).2.1 ∧ (numP s k0 f k n).2.1 ≤ k + f ∧ (n ≤ 2147483647 → (numP s k0 f k n).1 ≤ 2147483647) ∧ ((numP s k0 f k n).2.2 = true → k0 ≤ k → k0 < (numP s k0 f k n).2.1)
  | 0, k, n => by
    unfold numP
    split <;> simp <;> omega
  | f + 1, k, n => by
    rw [numP]
    split
    · split
      · simp
      · next h1 h2 =>
        have ih := numP_le s k0 f (k + 1) (n * 10 + (K.V.by8 s k - 48))
        have h3 : n * 10 + (K.V.by8 s k - 48) ≤ 2147483647 := by omega
        refine ⟨by omega, by omega, fun _ => ih.2.2.1 h3, fun a b => ih.2.2.2 a (by omega)⟩
    · split <;> simp <;> omega
/-- A number in brackets, behind the first of them. -/
def ixP (s : ByteArray) (k0 : Nat) : Nat × Nat × Bool :=
  if (numP s k0 (s.size - k0) k0 0).2.2 = false then (0, (numP s k0 (s.size - k0) k0 0).2.1, false)
  else if (numP s k0 (s.size - k0) k0 0).2.1 = s.size ∨ K.V.by8 s (numP s k0 (s.size - k0) k0 0).2.1 ≠ 93 then (0, (numP s k0 (s.size - k0) k0 0).2.1, false)
  else ((numP s k0 (s.size - k0) k0 0).1, (numP s k0 (s.size - k0) k0 0).2.1 + 1, true)
set_option maxRecDepth 100000 in
set_option maxHeartbeats 1000000 in
theorem rindex_any (s : ByteArray) (k0 : Nat) (w : World) (hk0 : k0 ≤ s.size) (hs : s.size ≤ 5000) (a0 a1 a2 : Addr) (hE : Snt w a0 a1 a2) :
    Calls Tryd.prog 38 #[.string s, .int .i64 (k0 : Int)] w fun e w' => e = .returned (.tuple #[.int .i64 ((ixP s k0).1 : Int), .int .i64 ((ixP s k0).2.1 : Int), erV a2 (ixP s k0).2.2]) ∧ Below w.heap.size w w' := by
  have H := Hid.mk' (rnum_any s k0 w hk0 hs a0 a1 a2 hE)
  obtain ⟨_, hle, hn, _⟩ := numP_le s k0 (s.size - k0) k0 0
  have hn := hn (by omega)
  have HI : Hid (ixP s k0 = if (numP s k0 (s.size - k0) k0 0).2.2 = false then (0, (numP s k0 (s.size - k0) k0 0).2.1, false)
    else if (numP s k0 (s.size - k0) k0 0).2.1 = s.size ∨ K.V.by8 s (numP s k0 (s.size - k0) k0 0).2.1 ≠ 93 then (0, (numP s k0 (s.size - k0) k0 0).2.1, false)
    else ((numP s k0 (s.size - k0) k0 0).1, (numP s k0 (s.size - k0) k0 0).2.1 + 1, true)) := rfl
  generalize ixP s k0 = R at *
  generalize numP s k0 (s.size - k0) k0 0 = N at *
  obtain ⟨n, k, ok⟩ := N
  simp only [] at H hle hn HI
  have hks : k ≤ s.size := by omega
  have HX : Hid (k < s.size → ∀ wx, (Instr.index 9 (.string s) (.int .i64 (k : Int))).run Tryd.prog wx = .ok (.int .u8 (K.V.by8 s k : Int)) wx) := fun h wx => K.V.index_str s k wx h
  have HG : Hid (∀ wx, Below w.heap.size w wx → wx.cell? ⟨2, 0, none⟩ = some (.iface 127 (.pointer (some a2)))) := fun wx h => (hE.below h).g2
  clear hE hle
  go_enter Tryd.func38, Tryd.ntmps38
  go_wp2_with fail
  refine H.out.mono ?_
  rintro e w1 ⟨rfl, b1⟩
  have hg := HG.out w1 b1
  have BW := Hid.mk' b1
  clear H HG b1
  cases ok with
  | false =>
    have HRR : Hid (R = (0, k, false)) := by show _ = _; rw [HI.out, if_pos rfl]
    clear HI HX
    unfold erV
    simp only [Bool.false_eq_true, if_false]
    go_wp2
    go_ret3
    exact ⟨by rw [HRR.out]; rfl, BW.out⟩
  | true =>
    unfold erV
    simp only [if_true]
    by_cases hks2 : k = s.size
    · have hks' : (k : Int) = (s.size : Int) := by omega
      have HRR : Hid (R = (0, k, false)) := by show _ = _; rw [HI.out, if_neg (by decide), if_pos (.inl hks2)]
      subst hks2
      clear HI HX
      go_wp2
      go_quiet (fail)
      go_wp2
      go_ret3
      exact ⟨by rw [HRR.out]; rfl, below_drewN BW.out _⟩
    · have hks' : ¬ (k : Int) = (s.size : Int) := by omega
      have ix := HX.out (by omega)
      by_cases h93 : K.V.by8 s k = 93
      · have HRR : Hid (R = (n, k + 1, true)) := by show _ = _; rw [HI.out, if_neg (by decide), if_neg (by omega)]
        rw [h93] at ix
        clear HI HX h93
        go_wp2
        go_ret3
        exact ⟨by rw [HRR.out]; rfl, BW.out⟩
      · have HRR : Hid (R = (0, k, false)) := by show _ = _; rw [HI.out, if_neg (by decide), if_pos (.inr h93)]
        have h93' : ¬ (K.V.by8 s k : Int) = 93 := by omega
        clear HI HX h93
        generalize K.V.by8 s k = c at *
        have h93b : ((c : Int) != 93) = true := by simp; omega
        go_wp2
        go_quiet (fail)
        go_wp2
        go_ret3
        exact ⟨by rw [HRR.out]; rfl, below_drewN BW.out _⟩
end Go.Proofs.YtepkanibcljdkaaDoor

namespace Go.Proofs.YtepkanibcljdkaaDoor.Q
open Go.RowKit
set_option linter.unusedVariables false
set_option linter.unusedSimpArgs false

/-- A value of package api, by value. -/
def VV (k n : Int) (f : Nat) (s : ByteArray) : Value := .agg #[.int .u8 k, .int .i64 n, .float .f64 f, .string s]


theorem below_drewN {B : Nat} {a w : World} (h : Below B a w) : ∀ q, Below B a (w.drewN q)
  | 0 => h
  | q + 1 => (below_drewN h q).drew
theorem bel_box (w : World) (c : Array Value) (t : TypeId) : Below w.heap.size w (w.alloc (.cells c t)) := (Below.refl _ _).alloc (Nat.le_refl _) _

/-- Which values of the kinds without floats and texts are right. -/
def rightB (k n : Int) (f : Nat) (s : ByteArray) : Bool :=
  if k = 1 then (decide (n = 0) || decide (n = 1)) && decide (f = 0) && s.toList.isEmpty
  else if k = 2 ∨ k = 7 then decide (f = 0) && s.toList.isEmpty
  else if k = 5 then decide (n = 0) && decide (f = 0) && decide ((s.size : Int) ≤ 1000)
  else if k = 6 then decide (0 ≤ n) && decide (n ≤ 9007199254740992) && decide (f = 0) && s.toList.isEmpty
  else if k ≤ 11 then decide (n = 0) && decide (f = 0) && s.toList.isEmpty else false

end Go.Proofs.YtepkanibcljdkaaDoor.Q

namespace Go.Proofs.YtepkanibcljdkaaDoor.Q
open Go.RowKit
set_option linter.unusedVariables false
set_option linter.unusedSimpArgs false

/-- A row of bytes as cells. -/
def bs (h : List UInt8) : Array Value := (h.map (fun b => Value.int .u8 (b.toNat : Int))).toArray

/-- A byte of a list, as a number. -/
def at8 (h : List UInt8) (k : Nat) : Int := ((h.getD k 0).toNat : Int)

theorem at8_lo (h : List UInt8) (k : Nat) : 0 ≤ at8 h k := by unfold at8; omega
theorem at8_hi (h : List UInt8) (k : Nat) : at8 h k ≤ 255 := by unfold at8; have := (h.getD k 0).toNat_lt; omega

theorem bs_size (h : List UInt8) : (bs h).size = h.length := by simp [bs]

theorem bs_get (h : List UInt8) (k : Nat) (hk : k < h.length) : (bs h)[k]? = some (.int .u8 (at8 h k)) := by
  simp [bs, at8, List.getElem?_eq_getElem hk]

theorem bs_set (h : List UInt8) (k : Nat) (v : UInt8) : (bs h).setIfInBounds k (.int .u8 (v.toNat : Int)) = bs (h.set k v) := by
  simp [bs, List.map_set]

theorem bs_inj {a b : List UInt8} (h : bs a = bs b) : a = b := by
  have h2 : a.map (fun b => Value.int .u8 (b.toNat : Int)) = b.map (fun b => Value.int .u8 (b.toNat : Int)) := by
    simpa [bs] using h
  have h3 := congrArg (List.map (fun v => UInt8.ofNat (intOf v).toNat)) h2
  simpa [List.map_map, Function.comp_def, intOf] using h3

/-- Is a byte a digit? -/
def isDg (c : Int) : Bool := decide (48 ≤ c) && decide (c ≤ 57) || decide (97 ≤ c) && decide (c ≤ 102)

/-- A digit's number. -/
def dgVal (c : Int) : Int := if 97 ≤ c then (c - 87) % 256 else (c - 48) % 256

/-- Digit number k of a hash. -/
def dig (h : List UInt8) (k : Nat) : Int := if k % 2 = 0 then at8 h (k / 2) / 16 else at8 h (k / 2) % 16

theorem dig_bd (h : List UInt8) (k : Nat) : 0 ≤ dig h k ∧ dig h k < 16 := by
  unfold dig
  have := at8_lo h (k / 2)
  have := at8_hi h (k / 2)
  split <;> omega

theorem and15 (x : Int) (h0 : 0 ≤ x) (h1 : x ≤ 255) : bits .and .u8 x 15 = x % 16 := by
  rw [u8_and x 15 h0 (by omega) (by decide) (by decide)]
  show ((x.toNat &&& 15 : Nat) : Int) = _
  rw [nat_mask4]
  omega

theorem isDg_digit {c : Int} (h : isDg c = true) : 48 ≤ c ∧ c ≤ 57 ∨ 97 ≤ c ∧ c ≤ 102 := by
  simpa [isDg] using h

theorem ret_int {k : IntKind} {a b : Int} (h : a = b) : Ending.returned (.int k a) = .returned (.int k b) := by rw [h]
theorem ret_bool {a b : Bool} (h : a = b) : Ending.returned (.bool a) = .returned (.bool b) := by rw [h]
end Go.Proofs.YtepkanibcljdkaaDoor.Q

