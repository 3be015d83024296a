import Derived.Test.YthffcdahjcpdfaaGreatDoorGQQm
import Derived.Ground.NamesProg
import Derived.Shelf.Unicode.ValidAny
import Derived.Laws.RangeAny
import Derived.Laws.MakeOwn
import Derived.Test.YthffcdahjcpdfaaGreatDoorGQUx
namespace Go.Proofs.YthffcdahjcpdfaaGreatDoor.Q
open Go.Shelf Go.RowKit
def laysValid_ren : Go.Shelf.Ren := ⟨fun | 196 => 54 | 259 => 59 | n => n, fun | 9 => 9 | 4 => 4 | 3 => 3 | 5 => 5 | 12 => 12 | 119 => 155 | 0 => 0 | 46 => 79 | 139 => 158 | 138 => 157 | 53 => 152 | n => n, fun | 3 => 3 | 4 => 4 | n => n⟩
theorem laysValid : Lays.n196 Tryz.prog laysValid_ren := {
  mixed := by kernel_rfl
  f196 := Tryz.func54.trans (congrArg some (by kernel_rfl))
  f259 := Tryz.func59.trans (congrArg some (by kernel_rfl))
  t0 := Tryz.underlying0
  a0 := Tryz.isAgg0
  z0 := Tryz.sizeOf0
  v0 := Tryz.zeroValue0
  t3 := Tryz.underlying3
  a3 := Tryz.isAgg3
  z3 := Tryz.sizeOf3
  v3 := Tryz.zeroValue3
  t4 := Tryz.underlying4
  a4 := Tryz.isAgg4
  z4 := Tryz.sizeOf4
  v4 := Tryz.zeroValue4
  t5 := Tryz.underlying5
  a5 := Tryz.isAgg5
  z5 := Tryz.sizeOf5
  v5 := Tryz.zeroValue5
  t9 := Tryz.underlying9
  a9 := Tryz.isAgg9
  z9 := Tryz.sizeOf9
  v9 := Tryz.zeroValue9
  t12 := Tryz.underlying12
  a12 := Tryz.isAgg12
  z12 := Tryz.sizeOf12
  v12 := Tryz.zeroValue12
  t46 := Tryz.underlying79
  a46 := Tryz.isAgg79
  z46 := Tryz.sizeOf79
  v46 := Tryz.zeroValue79
  t53 := Tryz.underlying152
  a53 := Tryz.isAgg152
  z53 := Tryz.sizeOf152
  v53 := Tryz.zeroValue152
  t119 := Tryz.underlying155
  a119 := Tryz.isAgg155
  z119 := Tryz.sizeOf155
  t138 := Tryz.underlying157
  a138 := Tryz.isAgg157
  z138 := Tryz.sizeOf157
  v138 := Tryz.zeroValue157
  t139 := Tryz.underlying158
  a139 := Tryz.isAgg158
  z139 := Tryz.sizeOf158
  v139 := Tryz.zeroValue158
  g3 := by kernel_rfl
  g4 := by kernel_rfl }

def Tabs (w : World) : Prop := Lib.Utf8Tabs 3 4 w
theorem Tabs.below {w w' : World} (h : Tabs w) (hb : Below w.heap.size w w') : Tabs w' := Utf8Tabs_below h hb
theorem valid_any (s : ByteArray) (w : World) (hs : s.size ≤ 9223372036854775807) (hT : Tabs w) :
    Calls Tryz.prog 54 #[.string s] w fun e w' => e = .returned (.bool (Lib.validD s.data.toList)) ∧ Below w.heap.size w w' :=
  Any.utf8_ValidString laysValid s w hs hT
end Go.Proofs.YthffcdahjcpdfaaGreatDoor.Q

namespace Go.Proofs.YthffcdahjcpdfaaGreatDoor.Q
open Go.RowKit
set_option linter.unusedVariables false
set_option linter.unusedSimpArgs false

/-- The world with its iterator moved. -/
def setIter (w : World) (q : Nat) (s : ByteArray) (p : Nat) : World := { w with heap := w.heap.setIfInBounds q (.stringIter s p) }
theorem setIter_at {w : World} {q : Nat} {s : ByteArray} {p0 p : Nat} (h : w.heap[q]? = some (.stringIter s p0)) : (setIter w q s p).heap[q]? = some (.stringIter s p) := by
  have hq := (Array.getElem?_eq_some_iff.1 h).1
  simp [setIter, hq]
theorem setIter_other {w : World} {q k : Nat} {s : ByteArray} {p : Nat} (h : k ≠ q) : (setIter w q s p).heap[k]? = w.heap[k]? := by
  simp [setIter, Array.getElem?_setIfInBounds, h.symm]
theorem setIter_size (w : World) (q : Nat) (s : ByteArray) (p : Nat) : (setIter w q s p).heap.size = w.heap.size := by simp [setIter]
theorem setIter_below {w0 w : World} {base q : Nat} {s : ByteArray} {p : Nat} (h : Below base w0 w) (hq : base ≤ q) : Below base w0 (setIter w q s p) :=
  ⟨h.os, h.tape, h.output, by rw [setIter_size]; exact h.size, fun k hk => by rw [setIter_other (by omega)]; exact h.block k hk⟩
theorem setIter_own {w : World} {base q : Nat} {s : ByteArray} {p : Nat} {v : Value} {L : List UInt8} (h : OwnB w base v L) (hq : v.ownBlock ≠ some q) : OwnB (setIter w q s p) base v L := by
  refine ⟨h.1, ?_⟩
  rcases h.2 with hn | ⟨g, cap, cur, rfl, hbg, hg, rest⟩
  · exact .inl hn
  · refine .inr ⟨g, cap, cur, rfl, hbg, ?_, rest⟩
    rw [setIter_other (fun e => hq (by simp [Value.ownBlock]; exact e))]
    exact hg
theorem next_some (w : World) (q : Nat) (s : ByteArray) (pos : Nat) (ty : TypeId) (hq : w.heap[q]? = some (.stringIter s pos)) (h : pos < s.size) :
    (Instr.next (.pointer (some ⟨q, 0, none⟩)) true ty).run Tryz.prog w = .ok (.tuple #[.bool true, .int .i64 pos, .int .i32 ((Lib.decodeL (s.data.toList.drop pos)).1 : Nat)]) (setIter w q s (pos + (Lib.decodeL (s.data.toList.drop pos)).2)) := by
  rw [← decode_drop]
  simp [Instr.next, getObj, setObj, Sem.run, hq, h, goInt, setIter]
theorem next_none (w : World) (q : Nat) (s : ByteArray) (pos : Nat) (ty : TypeId) (hq : w.heap[q]? = some (.stringIter s pos)) (h : ¬ pos < s.size) :
    (Instr.next (.pointer (some ⟨q, 0, none⟩)) true ty).run Tryz.prog w = .ok (.tuple #[.bool false]) w := by
  simp [Instr.next, getObj, Sem.run, hq, h]
end Go.Proofs.YthffcdahjcpdfaaGreatDoor.Q

namespace Go.Proofs.YthffcdahjcpdfaaGreatDoor.Q
open Go.RowKit
set_option linter.unusedVariables false
set_option linter.unusedSimpArgs false

def chrAt (p : Nat) : Nat := [34, 92, 10, 13, 9].getD p 0
def InC (c : Int) : Prop := c = 34 ∨ c = 92 ∨ c = 10 ∨ c = 13 ∨ c = 9
/-- What escaped tells. -/
def EscV (s : ByteArray) (v : Int × Int × Bool) : Prop :=
  (s.size < 2 ∧ v = (0, (s.size : Int), false)) ∨
  (2 ≤ s.size ∧ ∃ c : Int, InC c ∧ signN c = (by8 s 1 : Int) ∧ v = (c, 2, true)) ∨
  (2 ≤ s.size ∧ (∀ c : Int, InC c → signN c ≠ (by8 s 1 : Int)) ∧ ∃ k, MP s k ∧ v = codedV s k)
def EscOut (s : ByteArray) (w : World) (e : Ending) (w' : World) : Prop := (∃ v, EscV s v ∧ e = .returned (.tuple #[.int .i32 v.1, .int .i64 v.2.1, .bool v.2.2])) ∧ Below w.heap.size w w'
theorem esc_mk {s : ByteArray} {w w' : World} {a b : Int} {c : Bool} (h : EscV s (a, b, c)) (hw : Below w.heap.size w w') : EscOut s w (.returned (.tuple #[.int .i32 a, .int .i64 b, .bool c])) w' :=
  ⟨⟨(a, b, c), h, rfl⟩, hw⟩
theorem res54 (tmps : Array Value) (w : World) (a b c : Value) (h1 : tmps.getD 2 undef = a) (h2 : tmps.getD 3 undef = b) (h3 : tmps.getD 4 undef = c) : (results Tryz.f73 tmps).run Tryz.prog w = .ok (.tuple #[a, b, c]) w := by
  subst h1 h2 h3
  simp [results, Tryz.results73]
theorem chr_in (p : Nat) (h : p < 5) : InC (chrAt p : Int) := by
  unfold InC chrAt
  match p, h with
  | 0, _ => left; rfl
  | 1, _ => right; left; rfl
  | 2, _ => right; right; left; rfl
  | 3, _ => right; right; right; left; rfl
  | 4, _ => right; right; right; right; rfl
theorem chr_all (c : Int) (h : InC c) : ∃ p, p < 5 ∧ (chrAt p : Int) = c := by
  rcases h with rfl | rfl | rfl | rfl | rfl
  · exact ⟨0, by omega, rfl⟩
  · exact ⟨1, by omega, rfl⟩
  · exact ⟨2, by omega, rfl⟩
  · exact ⟨3, by omega, rfl⟩
  · exact ⟨4, by omega, rfl⟩
theorem chr_dec (p : Nat) (h : p < 5) : Lib.decodeL (({ data := #[34, 92, 10, 13, 9] } : ByteArray).data.toList.drop p) = (chrAt p, 1) := by
  match p, h with
  | 0, _ => decide +kernel
  | 1, _ => decide +kernel
  | 2, _ => decide +kernel
  | 3, _ => decide +kernel
  | 4, _ => decide +kernel
theorem esc_size : ({ data := #[34, 92, 10, 13, 9] } : ByteArray).size = 5 := rfl
set_option maxRecDepth 100000 in
set_option maxHeartbeats 2000000 in
theorem escaped_any (s : ByteArray) (w : World) (hs : s.size ≤ 140737488355328) :
    Calls Tryz.prog 73 #[.string s] w (EscOut s w) := by
  by_cases h2 : s.size < 2
  · have h2' : (s.size : Int) < 2 := by omega
    have hV : EscV s (0, (s.size : Int), false) := .inl ⟨h2, rfl⟩
    go_enter Tryz.func73, Tryz.ntmps73
    go_wp2
    exact bodyPost_ret (res54 _ _ _ _ _ rfl rfl rfl) rfl (esc_mk hV (Below.refl _ _))
  · have h2' : ¬ (s.size : Int) < 2 := by omega
    have h1s : 1 < s.size := by omega
    have h1s' : (1 : Int) < (s.size : Int) := by omega
    obtain ⟨b1, hb1⟩ : ∃ b, (s[1]'h1s).toNat = b := ⟨_, rfl⟩
    have g1 : Hid (by8 s 1 = b1) := by show _ = _; rw [by8_get s 1 h1s, hb1]
    have Q3 : Hid ((w.iter { data := #[34, 92, 10, 13, 9] } 0).heap[w.heap.size]? = some (.stringIter { data := #[34, 92, 10, 13, 9] } 0)) := World.iter_heap w _ 0
    have B3 : Hid (Below w.heap.size w (w.iter { data := #[34, 92, 10, 13, 9] } 0)) := (Below.refl _ _).alloc (Nat.le_refl _) _
    have ZQ : Hid (w.heap.size ≤ w.heap.size) := Nat.le_refl _
    go_enter Tryz.func73, Tryz.ntmps73
    go_wp2
    obtain ⟨q, hqq⟩ : ∃ q, w.heap.size = q := ⟨_, rfl⟩
    have HQ : Hid (w.heap.size = q) := hqq
    go_loopw [] (fun wr => ∃ pos : Nat, pos ≤ 5 ∧ Hid (wr.heap[w.heap.size]? = some (.stringIter { data := #[34, 92, 10, 13, 9] } pos)) ∧ Hid (Below w.heap.size w wr) ∧ Hid (∀ j, j < pos → signN (chrAt j : Int) ≠ (b1 : Int))) (fun wr => 5 - wr.iterPos w.heap.size)
    case atStart => exact ⟨0, by omega, Q3, B3, fun j hj => by omega⟩
    case round =>
      obtain ⟨pos, hp, hq, bel, hall⟩ := hrel
      clear Q3 B3 hqq
      by_cases h : pos < 5
      · have nx := next_some wr w.heap.size { data := #[34, 92, 10, 13, 9] } pos 0 hq.out h
        rw [chr_dec pos h] at nx
        simp only [] at nx
        have HC := chr_in pos h
        have B4 : Hid (Below w.heap.size w (setIter wr w.heap.size { data := #[34, 92, 10, 13, 9] } (pos + 1))) := setIter_below bel.out ZQ.out
        have Q4 : Hid ((setIter wr w.heap.size { data := #[34, 92, 10, 13, 9] } (pos + 1)).heap[w.heap.size]? = some (.stringIter { data := #[34, 92, 10, 13, 9] } (pos + 1))) := setIter_at hq.out
        have M4 : Hid (wr.iterPos w.heap.size = pos) := (by unfold World.iterPos; rw [hq.out] : _ = _)
        obtain ⟨c, hc⟩ : ∃ c : Nat, chrAt pos = c := ⟨_, rfl⟩
        rw [hc] at nx HC
        have H48 := sign_chr (c : Int)
        obtain ⟨sg, hsg⟩ : ∃ z, signN (c : Int) = z := ⟨_, rfl⟩
        have HSG : Hid (signN (c : Int) = sg) := hsg
        have HCC : Hid (chrAt pos = c) := hc
        rw [hsg] at H48
        clear hsg hc hq bel
        by_cases hE : (b1 : Int) = sg
        · have hE' : ((b1 : Int) == sg) = true := beq_iff_eq.2 hE
          have hV : EscV s ((c : Int), 2, true) := .inr (.inl ⟨by omega, _, HC, by rw [HSG.out, g1.out, hE], rfl⟩)
          clear hE
          go_upto_region 6 with fail
          generalize setIter wr w.heap.size { data := #[34, 92, 10, 13, 9] } (pos + 1) = w4 at *
          clear nx
          go_quiet (first | (go_at_call 60; exact Calls.quiet_of_same (H48 _)) | fail)
          go_wp2
          exact bodyPost_ret (res54 _ _ _ _ _ rfl rfl rfl) rfl (esc_mk hV (below_drewN B4.out nq))
        · have hE' : ((b1 : Int) == sg) = false := beq_eq_false_iff_ne.2 hE
          have HA : Hid (∀ j, j < pos + 1 → signN (chrAt j : Int) ≠ (b1 : Int)) := fun j hj => by
            rcases Nat.lt_or_ge j pos with h | h
            · exact hall.out j h
            · have : j = pos := by omega
              subst this
              rw [HCC.out, HSG.out]
              exact fun e => hE e.symm
          clear hE
          go_upto_region 6 with fail
          generalize setIter wr w.heap.size { data := #[34, 92, 10, 13, 9] } (pos + 1) = w4 at *
          clear nx
          go_quiet (first | (go_at_call 60; exact Calls.quiet_of_same (H48 _)) | fail)
          go_wp2
          go_roundw
          case rel => exact ⟨pos + 1, by omega, Q4, below_drewN B4.out nq, HA⟩
          case measure =>
            have M5 : (w4.drewN nq).iterPos w.heap.size = pos + 1 := by
              unfold World.iterPos
              rw [show (w4.drewN nq).heap = w4.heap from rfl, Q4.out]
            rw [M5, M4.out]; omega
      · have nx := next_none wr w.heap.size { data := #[34, 92, 10, 13, 9] } pos 0 hq.out h
        have hN : Hid (∀ c : Int, InC c → signN c ≠ (by8 s 1 : Int)) := fun c hc => by
          obtain ⟨p, hp5, rfl⟩ := chr_all c hc
          rw [g1.out]
          exact hall.out p (by omega)
        clear hq hall
        go_wp2_with fail
        refine (coded_any s _ hs).mono ?_
        rintro e w5 ⟨⟨k, hM, rfl⟩, m5, rfl⟩
        have hV : EscV s (codedV s k) := .inr (.inr ⟨by omega, hN.out, k, hM, rfl⟩)
        generalize codedV s k = v at *
        obtain ⟨va, vb, vc⟩ := v
        go_wp2
        exact bodyPost_ret (res54 _ _ _ _ _ rfl rfl rfl) rfl (esc_mk hV (below_drewN bel.out m5))
end Go.Proofs.YthffcdahjcpdfaaGreatDoor.Q

