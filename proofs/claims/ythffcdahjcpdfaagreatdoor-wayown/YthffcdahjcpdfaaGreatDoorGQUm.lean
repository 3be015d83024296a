import Derived.Test.YthffcdahjcpdfaaGreatDoorGQUb
import Derived.Ground.NamesProg
import Derived.Shelf.Strings.BuilderRune
namespace Go.Proofs.YthffcdahjcpdfaaGreatDoor.Q
open Go.RowKit
set_option linter.unusedVariables false
set_option linter.unusedSimpArgs false

theorem mp_one {s : ByteArray} {k m : Nat} (h : MP s k) (g : MP s m) : k = m := by
  have aux : ∀ {k m : Nat}, MP s k → MP s m → ¬ k < m := fun {k m} h g hlt =>
    h.stop (by have := g.le4; omega) (by have := g.le; omega) (g.all k hlt)
  have h1 := aux h g
  have h2 := aux g h
  omega
theorem beg_one {s : ByteArray} {k m : Nat} (h : BegP s k) (g : BegP s m) : k = m := by
  have aux : ∀ {k m : Nat}, BegP s k → BegP s m → ¬ k < m := fun {k m} h g hlt => by
    have h1 := h.yes (by have := g.le; omega)
    rw [g.no k hlt] at h1
    cases h1
  have h1 := aux h g
  have h2 := aux g h
  omega
theorem sign_one {c d : Int} (h : InC c) (g : InC d) (e : signN c = signN d) : c = d := by
  unfold signN at e
  rcases h with rfl | rfl | rfl | rfl | rfl <;> rcases g with rfl | rfl | rfl | rfl | rfl <;> first | rfl | (simp at e)
theorem esc_one {s : ByteArray} {v u : Int × Int × Bool} (h : EscV s v) (g : EscV s u) : v = u := by
  rcases h with ⟨h1, rfl⟩ | ⟨h1, c, hc, h2, rfl⟩ | ⟨h1, h2, k, hk, rfl⟩ <;> rcases g with ⟨g1, rfl⟩ | ⟨g1, d, gd, g2, rfl⟩ | ⟨g1, g2, m, gm, rfl⟩
  · rfl
  · omega
  · omega
  · omega
  · rw [sign_one hc gd (h2.trans g2.symm)]
  · exact absurd h2 (g2 c hc)
  · omega
  · exact absurd g2 (h2 d gd)
  · rw [mp_one hk gm]
theorem chr_one {s : ByteArray} {v u : Int × Int × Bool} (h : ChrV s v) (g : ChrV s u) : v = u := by
  unfold ChrV at h g
  generalize (Lib.decodeL s.data.toList).1 = r at *
  generalize (Lib.decodeL s.data.toList).2 = n at *
  rcases h with ⟨h1, h2⟩ | ⟨h1, h2, k, hk, rfl⟩ | ⟨h1, h2, h3, rfl⟩ | ⟨h1, h2, h3, rfl⟩ <;> rcases g with ⟨g1, g2⟩ | ⟨g1, g2, m, gm, rfl⟩ | ⟨g1, g2, g3, rfl⟩ | ⟨g1, g2, g3, rfl⟩
  · exact esc_one h2 g2
  · omega
  · exact absurd h1 g1
  · exact absurd h1 g1
  · omega
  · rw [beg_one hk gm]
  · exact absurd ⟨h1, h2⟩ g2
  · exact absurd ⟨h1, h2⟩ g2
  · exact absurd g1 h1
  · exact absurd ⟨g1, g2⟩ h2
  · rfl
  · rw [h3] at g3; cases g3
  · exact absurd g1 h1
  · exact absurd ⟨g1, g2⟩ h2
  · rw [h3] at g3; cases g3
  · rfl
theorem enc_asc {c : Int} (h0 : 0 ≤ c) (h1 : c < 128) : Lib.encodeRune c = [UInt8.ofNat c.toNat] := by
  unfold Lib.encodeRune
  rw [Lib.encodeRuneZ_one (by omega) (by omega)]
  simp [Nat.toUInt8]
theorem coded_ok {s : ByteArray} {k : Nat} {c n : Int} {b : Bool} (hM : MP s k) (h : codedV s k = (c, n, b)) : 0 ≤ n ∧ n ≤ s.size ∧ (b = true → 1 ≤ n ∧ 0 ≤ c ∧ c < 128) := by
  have i4 := ixD_bd (by8 s 4)
  have i5 := ixD_bd (by8 s 5)
  have l4 := hM.le4
  have l5 := hM.le
  unfold codedV at h
  split at h
  · cases h; exact ⟨by omega, by omega, fun e => by cases e⟩
  · rename_i a1
    split at h
    · cases h; exact ⟨by omega, by omega, fun e => by cases e⟩
    · rename_i a2
      split at h
      · cases h; exact ⟨by omega, by omega, fun e => by cases e⟩
      · rename_i a3
        split at h
        · cases h; exact ⟨by omega, by omega, fun e => by cases e⟩
        · rename_i a4
          cases h
          exact ⟨by omega, by omega, fun _ => ⟨by omega, by omega, by omega⟩⟩
theorem chr_ok {t : ByteArray} {c n : Int} {b : Bool} (h0 : 0 < t.size) (h : ChrV t (c, n, b)) : 0 ≤ n ∧ n ≤ t.size ∧ (b = true → 1 ≤ n ∧ 0 ≤ c ∧ c ≤ 1114111 ∧ ((Lib.encodeRune c).length : Int) ≤ n) := by
  have hl : t.data.toList.length = t.size := by simp
  have hne := ne_nil h0
  have asc : ∀ {n c : Int}, 1 ≤ n → 0 ≤ c → c < 128 → 1 ≤ n ∧ 0 ≤ c ∧ c ≤ 1114111 ∧ ((Lib.encodeRune c).length : Int) ≤ n := fun {n c} a1 a2 a3 => ⟨a1, a2, by omega, by rw [enc_asc a2 a3]; simpa using a1⟩
  rcases h with ⟨_, h2⟩ | ⟨h1, h2, k, hk, hv⟩ | ⟨h1, h2, h3, hv⟩ | ⟨h1, h2, h3, hv⟩
  · rcases h2 with ⟨g1, hv⟩ | ⟨g1, d, hd, g2, hv⟩ | ⟨g1, g2, k, hk, hv⟩
    · cases hv; exact ⟨by omega, by omega, fun e => by cases e⟩
    · cases hv
      refine ⟨by omega, by omega, fun _ => asc (by omega) ?_ ?_⟩
      · rcases hd with rfl | rfl | rfl | rfl | rfl <;> omega
      · rcases hd with rfl | rfl | rfl | rfl | rfl <;> omega
    · obtain ⟨a, b', d⟩ := coded_ok hk hv.symm
      exact ⟨a, b', fun e => asc (d e).1 (d e).2.1 (d e).2.2⟩
  · cases hv
    have := hk.le
    exact ⟨by omega, by omega, fun e => by cases e⟩
  · cases hv; exact ⟨by omega, by omega, fun e => by cases e⟩
  · cases hv
    have a1 := decode_pos t.data.toList
    have a2 := decode_len _ hne h2
    have a3 := decode_le t.data.toList
    have a4 := Lib.encode_decode _ hne h2
    refine ⟨by omega, by omega, fun _ => ⟨by omega, by omega, by omega, ?_⟩⟩
    rw [a4, List.length_take]
    omega
theorem chr_any {t : ByteArray} (v : Int × Int × Bool) (h : ChrV t v) : ∃ c n b, v = (c, n, b) ∧ ChrV t (c, n, b) := ⟨v.1, v.2.1, v.2.2, rfl, h⟩
/-- What stands at the front of a text, by what character tells. -/
noncomputable def chrF (t : ByteArray) : Int × Int × Bool := @dite _ (∃ v, ChrV t v) (Classical.propDecidable _) (fun h => Classical.choose h) (fun _ => (0, 0, false))
theorem chrF_of {t : ByteArray} {v : Int × Int × Bool} (h : ChrV t v) : chrF t = v := by
  unfold chrF
  rw [dif_pos ⟨v, h⟩]
  exact chr_one (Classical.choose_spec (⟨v, h⟩ : ∃ v, ChrV t v)) h
/-- A quoted text from a place on. -/
noncomputable def unqF (s : ByteArray) : Nat → Nat → List UInt8 → List UInt8 × Int × Int
  | 0, _, _ => ([], 0, 0)
  | f + 1, i, acc =>
    if i < s.size ∧ by8 s i ≠ 34 then
      (if (chrF (s.extract i s.size)).2.2 = true then unqF s f (i + (chrF (s.extract i s.size)).2.1.toNat) (acc ++ Lib.encodeRune (chrF (s.extract i s.size)).1)
       else ([], (i : Int) + (chrF (s.extract i s.size)).2.1, 31))
    else if i = s.size then ([], (i : Int), 31) else (acc, (i : Int) + 1, 0)
noncomputable def unqA (s : ByteArray) : List UInt8 × Int × Int := if s.size = 0 ∨ by8 s 0 ≠ 34 then ([], 0, 31) else unqF s s.size 1 []
theorem unqF_step {s : ByteArray} {f i : Nat} {acc : List UInt8} {c n : Int} (h1 : i < s.size) (h2 : by8 s i ≠ 34) (hc : ChrV (s.extract i s.size) (c, n, true)) :
    unqF s (f + 1) i acc = unqF s f (i + n.toNat) (acc ++ Lib.encodeRune c) := by
  rw [unqF, if_pos ⟨h1, h2⟩, chrF_of hc, if_pos rfl]
theorem unqF_bad {s : ByteArray} {f i : Nat} {acc : List UInt8} {c n : Int} (h1 : i < s.size) (h2 : by8 s i ≠ 34) (hc : ChrV (s.extract i s.size) (c, n, false)) :
    unqF s (f + 1) i acc = ([], (i : Int) + n, 31) := by
  rw [unqF, if_pos ⟨h1, h2⟩, chrF_of hc, if_neg (by simp)]
theorem unqF_end {s : ByteArray} {f i : Nat} {acc : List UInt8} (h1 : i = s.size) : unqF s (f + 1) i acc = ([], (i : Int), 31) := by
  rw [unqF, if_neg (by omega), if_pos h1]
theorem unqF_shut {s : ByteArray} {f i : Nat} {acc : List UInt8} (h1 : i < s.size) (h2 : by8 s i = 34) : unqF s (f + 1) i acc = (acc, (i : Int) + 1, 0) := by
  rw [unqF, if_neg (by omega), if_neg (by omega)]
end Go.Proofs.YthffcdahjcpdfaaGreatDoor.Q

namespace Go.Proofs.YthffcdahjcpdfaaGreatDoor.Q
open Go.Shelf Go.RowKit
set_option linter.unusedVariables false
set_option linter.unusedSimpArgs false
def laysSt_ren : Go.Shelf.Ren := ⟨fun | 169 => 65 | n => n, fun | 70 => 161 | 9 => 9 | 0 => 0 | 72 => 163 | 37 => 66 | 127 => 177 | 3 => 3 | 5 => 5 | n => n, fun | n => n⟩
theorem laysSt : Lays.n169 Tryz.prog laysSt_ren := {
  mixed := by kernel_rfl
  f169 := Tryz.func65.trans (congrArg some (by kernel_rfl))
  t0 := Tryz.underlying0
  a0 := Tryz.isAgg0
  z0 := Tryz.sizeOf0
  v0 := Tryz.zeroValue0
  t3 := Tryz.underlying3
  a3 := Tryz.isAgg3
  z3 := Tryz.sizeOf3
  v3 := Tryz.zeroValue3
  t9 := Tryz.underlying9
  a9 := Tryz.isAgg9
  z9 := Tryz.sizeOf9
  v9 := Tryz.zeroValue9
  t37 := Tryz.underlying66
  a37 := Tryz.isAgg66
  z37 := Tryz.sizeOf66
  v37 := Tryz.zeroValue66
  t70 := Tryz.underlying161
  a70 := Tryz.isAgg161
  z70 := Tryz.sizeOf161
  v70 := Tryz.zeroValue161
  t72 := Tryz.underlying163
  a72 := Tryz.isAgg163
  z72 := Tryz.sizeOf163
  v72 := Tryz.zeroValue163
  t127 := Tryz.underlying177
  a127 := Tryz.isAgg177
  z127 := Tryz.sizeOf177
  v127 := Tryz.zeroValue177 }
def laysWr_ren : Go.Shelf.Ren := ⟨fun | 168 => 64 | 240 => 75 | 242 => 62 | 276 => 84 | 278 => 71 | n => n, fun | 0 => 0 | 3 => 3 | 4 => 4 | 5 => 5 | 9 => 9 | 20 => 20 | 21 => 21 | 37 => 66 | 46 => 79 | 51 => 174 | 70 => 161 | 72 => 163 | 75 => 59 | 80 => 168 | 164 => 184 | n => n, fun | n => n⟩
theorem laysWr : Lays.n168 Tryz.prog laysWr_ren := {
  mixed := by kernel_rfl
  f168 := Tryz.func64.trans (congrArg some (by kernel_rfl))
  f240 := Tryz.func75.trans (congrArg some (by kernel_rfl))
  f242 := Tryz.func62.trans (congrArg some (by kernel_rfl))
  f276 := Tryz.func84.trans (congrArg some (by kernel_rfl))
  f278 := Tryz.func71.trans (congrArg some (by kernel_rfl))
  t0 := Tryz.underlying0
  a0 := Tryz.isAgg0
  z0 := Tryz.sizeOf0
  v0 := Tryz.zeroValue0
  t3 := Tryz.underlying3
  a3 := Tryz.isAgg3
  z3 := Tryz.sizeOf3
  v3 := Tryz.zeroValue3
  t4 := Tryz.underlying4
  a4 := Tryz.isAgg4
  z4 := Tryz.sizeOf4
  v4 := Tryz.zeroValue4
  t5 := Tryz.underlying5
  a5 := Tryz.isAgg5
  z5 := Tryz.sizeOf5
  v5 := Tryz.zeroValue5
  t9 := Tryz.underlying9
  a9 := Tryz.isAgg9
  z9 := Tryz.sizeOf9
  v9 := Tryz.zeroValue9
  t20 := Tryz.underlying20
  a20 := Tryz.isAgg20
  z20 := Tryz.sizeOf20
  v20 := Tryz.zeroValue20
  t21 := Tryz.underlying21
  a21 := Tryz.isAgg21
  z21 := Tryz.sizeOf21
  v21 := Tryz.zeroValue21
  t37 := Tryz.underlying66
  a37 := Tryz.isAgg66
  z37 := Tryz.sizeOf66
  v37 := Tryz.zeroValue66
  t46 := Tryz.underlying79
  a46 := Tryz.isAgg79
  z46 := Tryz.sizeOf79
  v46 := Tryz.zeroValue79
  t51 := Tryz.underlying174
  a51 := Tryz.isAgg174
  z51 := Tryz.sizeOf174
  v51 := Tryz.zeroValue174
  t70 := Tryz.underlying161
  a70 := Tryz.isAgg161
  z70 := Tryz.sizeOf161
  v70 := Tryz.zeroValue161
  t72 := Tryz.underlying163
  a72 := Tryz.isAgg163
  z72 := Tryz.sizeOf163
  v72 := Tryz.zeroValue163
  t75 := Tryz.underlying59
  a75 := Tryz.isAgg59
  z75 := Tryz.sizeOf59
  v75 := Tryz.zeroValue59
  t164 := Tryz.underlying184
  a164 := Tryz.isAgg184
  z164 := Tryz.sizeOf184
  v164 := Tryz.zeroValue184 }
theorem extWr : Builder.Extra Tryz.prog laysWr_ren := {
  sizeBuilder := by kernel_rfl
  liesBuilder := by kernel_rfl
  t5 := Tryz.underlying5
  a5 := Tryz.isAgg5
  z5 := Tryz.sizeOf5
  v5 := Tryz.zeroValue5
  infoByte := by kernel_rfl
  cellsByte := by kernel_rfl
  sizeByte := by kernel_rfl
  neB5 := by decide }
theorem extSt : Builder.Extra Tryz.prog laysSt_ren := {
  sizeBuilder := by kernel_rfl
  liesBuilder := by kernel_rfl
  t5 := Tryz.underlying5
  a5 := Tryz.isAgg5
  z5 := Tryz.sizeOf5
  v5 := Tryz.zeroValue5
  infoByte := by kernel_rfl
  cellsByte := by kernel_rfl
  sizeByte := by kernel_rfl
  neB5 := by decide }
theorem wrune_any (B b : Nat) (bs : List Value) (r : Int) (hr0 : -2147483648 ≤ r) (hr1 : r ≤ 2147483647) (w : World) (h : Lib.IsBuilderF 163 5 B b bs w) (hlen : bs.length + 4 ≤ 140737488355328) (hBw : B ≤ w.heap.size) :
    Calls Tryz.prog 64 #[.pointer (some ⟨b, 0, none⟩), .int .i32 r] w fun e w' => e = .returned (.tuple #[.int .i64 (Lib.runeCells r).length, .nilIface]) ∧ (Lib.BuilderAtF 163 5 B b (.pointer (some ⟨b, 0, none⟩)) (bs ++ Lib.runeCells r) w' ∧ Below B w w' ∧ Lib.OthersKept 5 (some b) w w') :=
  Any.Builder_WriteRune_k laysWr extWr B b bs r hr0 hr1 w h hlen hBw
theorem bstring_any (B b : Nat) (l : List UInt8) (w : World) (h : Lib.IsBuilderF 163 5 B b (Lib.byteCells l) w) (hBw : B ≤ w.heap.size) :
    Calls Tryz.prog 65 #[.pointer (some ⟨b, 0, none⟩)] w fun e w' => e = .returned (.string ⟨l.toArray⟩) ∧ (Lib.IsBuilderF 163 5 B b (Lib.byteCells l) w' ∧ Below B w w' ∧ Lib.OthersKept 5 (some b) w w') :=
  Any.Builder_String_any_k laysSt extSt B b l w h hBw
end Go.Proofs.YthffcdahjcpdfaaGreatDoor.Q

namespace Go.Proofs.YthffcdahjcpdfaaGreatDoor.Q
open Go.RowKit
set_option linter.unusedVariables false
set_option linter.unusedSimpArgs false

def UnqOut (s : ByteArray) (w : World) (e : Ending) (w' : World) : Prop := e = .returned (.tuple #[.string ⟨(unqA s).1.toArray⟩, .int .i64 (unqA s).2.1, .int .i64 (unqA s).2.2]) ∧ Below w.heap.size w w'
theorem unq_mk {s : ByteArray} {w w' : World} {l : List UInt8} {a b : Int} (h : unqA s = (l, a, b)) (hw : Below w.heap.size w w') : UnqOut s w (.returned (.tuple #[.string ⟨l.toArray⟩, .int .i64 a, .int .i64 b])) w' :=
  ⟨by rw [h], hw⟩
theorem unq_mk0 {s : ByteArray} {w w' : World} {a b : Int} (h : unqA s = ([], a, b)) (hw : Below w.heap.size w w') : UnqOut s w (.returned (.tuple #[.string { data := #[] }, .int .i64 a, .int .i64 b])) w' :=
  ⟨by rw [h], hw⟩
theorem res17 (tmps : Array Value) (w : World) (a b c : Value) (h1 : tmps.getD 2 undef = a) (h2 : tmps.getD 3 undef = b) (h3 : tmps.getD 4 undef = c) : (results Tryz.f56 tmps).run Tryz.prog w = .ok (.tuple #[a, b, c]) w := by
  subst h1 h2 h3
  simp [results, Tryz.results56]
theorem empty_list {s : ByteArray} (h : s.size = 0) : s.toList.isEmpty = true := by
  rw [Lib.toList_data]
  have : s.data.toList = [] := List.eq_nil_of_length_eq_zero (by rw [← Lib.size_eq]; exact h)
  rw [this]; rfl
theorem builderAt_below {B b : Nat} {p : Value} {bs : List Value} {w w' : World} (h : Lib.BuilderAtF 163 5 B b p bs w) (hb : Below w.heap.size w w') : Lib.BuilderAtF 163 5 B b p bs w' := by
  have hlt := h.lt
  obtain ⟨hB, v, hbb, hown, hne⟩ := h
  refine ⟨hB, v, (hb.block b hlt).trans hbb, ⟨hown.1, ?_⟩, hne⟩
  rcases hown.2 with hn | ⟨g, cap, cur, fz, rfl, hb2, hg, rest⟩
  · exact .inl hn
  · exact .inr ⟨g, cap, cur, fz, rfl, hb2, (hb.block g (Array.getElem?_eq_some_iff.1 hg).1).trans hg, rest⟩
theorem builder_below {B b : Nat} {bs : List Value} {w w' : World} (h : Lib.IsBuilderF 163 5 B b bs w) (hb : Below w.heap.size w w') : Lib.IsBuilderF 163 5 B b bs w' :=
  h.elim (fun x => .inl (builderAt_below x hb)) (fun x => .inr (builderAt_below x hb))
set_option maxRecDepth 100000 in
set_option maxHeartbeats 4000000 in
theorem unquote_any (s : ByteArray) (w : World) (hs : s.size ≤ 140737488351232) (hT : Tabs w) :
    Calls Tryz.prog 56 #[.string s] w (UnqOut s w) := by
  by_cases h0 : s.size = 0
  · have hE := empty_list h0
    have hA : unqA s = ([], 0, 31) := by unfold unqA; rw [if_pos (.inl h0)]
    go_enter Tryz.func56, Tryz.ntmps56
    go_wp2
    exact bodyPost_ret (res17 _ _ _ _ _ rfl rfl rfl) rfl (unq_mk0 hA (Below.refl _ _))
  have h0s : 0 < s.size := by omega
  have h0' : (0 : Int) < (s.size : Int) := by omega
  have hE := not_empty s h0s
  obtain ⟨b0, hb0⟩ : ∃ b, (s[0]'h0s).toNat = b := ⟨_, rfl⟩
  have g0 : by8 s 0 = b0 := by rw [by8_get s 0 h0s, hb0]
  by_cases hq : b0 = 34
  · have hA : Hid (unqF s s.size 1 [] = unqA s) := by
      show _ = _
      unfold unqA
      rw [if_neg (by rw [g0]; omega)]
    have c0 : ((b0 : Int) != 34) = false := by rw [hq]; rfl
    clear g0 hq
    have HT : Hid (Tabs w) := hT
    clear hT
    go_enter Tryz.func56, Tryz.ntmps56
    go_wp2
    go_loopw [6] (fun i wr => ∃ (k f : Nat) (acc : List UInt8), i = .int .i64 k ∧ k ≤ s.size ∧ 1 ≤ k ∧ Hid (s.size + 1 ≤ k + f) ∧ Hid (acc.length ≤ k) ∧ Hid (Lib.IsBuilderF 163 5 w.heap.size w.heap.size (Lib.byteCells acc) wr) ∧ Hid (Below w.heap.size w wr) ∧ Hid (unqF s f k acc = unqA s)) (fun i _ => s.size - (intOf i).toNat)
    case atStart => exact ⟨1, s.size, [], rfl, by omega, by omega, (by omega : _ ≤ _), (Nat.zero_le 1 : _ ≤ _), Lib.IsBuilderF.of (Lib.fresh_isBuilder 163 5 w), (Below.refl _ w).alloc (Nat.le_refl _) _, hA⟩
    case round =>
      obtain ⟨k, f, acc, rfl, hk, hk1, hf, hal, hI, bel, hF⟩ := hrel
      clear hA
      have hfp : ∃ f', f = f' + 1 := ⟨f - 1, by have := hf.out; omega⟩
      obtain ⟨f', rfl⟩ := hfp
      have ZB : Hid (w.heap.size ≤ wr.heap.size) := bel.out.size
      by_cases h1 : k < s.size
      · have h1' : (k : Int) < (s.size : Int) := by omega
        obtain ⟨b, hb⟩ : ∃ b, (s[k]'h1).toNat = b := ⟨_, rfl⟩
        have gk : by8 s k = b := by rw [by8_get s k h1, hb]
        by_cases h2 : b = 34
        · have c2 : ((b : Int) != 34) = false := by rw [h2]; rfl
          have c3 : ((k : Int) == (s.size : Int)) = false := beq_eq_false_iff_ne.2 (by omega)
          have hA : Hid (unqA s = (acc, (k : Int) + 1, 0)) := by
            show _ = _
            rw [← hF.out]
            exact unqF_shut h1 (by omega)
          clear gk h2 hF
          go_wp2_with fail
          refine (bstring_any w.heap.size w.heap.size acc _ hI.out ZB.out).mono ?_
          rintro e W1 ⟨rfl, _, b1, _⟩
          go_wp2
          exact bodyPost_ret (res17 _ _ _ _ _ rfl rfl rfl) rfl (unq_mk hA.out (bel.out.trans b1))
        · have c2 : ((b : Int) != 34) = true := bne_iff_ne.2 (by omega)
          have h2' : Hid (by8 s k ≠ 34) := by show _ ≠ _; omega
          obtain ⟨t, ht⟩ : ∃ t, s.extract k s.size = t := ⟨_, rfl⟩
          have zt : t.size = s.size - k := by rw [← ht, Lib.ext_size]
          have HC : Hid (Calls Tryz.prog 63 #[.string t] wr (ChrOut t wr)) := character_any t wr (by omega) (by omega) (HT.out.below bel.out)
          have ht' : Hid (s.extract k s.size = t) := ht
          clear gk h2
          go_wp2_with fail
          refine HC.out.mono ?_
          rintro e W1 ⟨⟨v, hv, rfl⟩, b1⟩
          obtain ⟨c, n, ok⟩ := v
          obtain ⟨n0, n1, nok⟩ := chr_ok (by omega) hv
          have HV : Hid (ChrV (s.extract k s.size) (c, n, ok)) := by show ChrV _ _; rw [ht'.out]; exact hv
          obtain ⟨m, rfl⟩ := Int.eq_ofNat_of_zero_le n0
          have B1 : Hid (Below w.heap.size w W1) := bel.out.trans (b1.mono bel.out.size)
          cases ok with
          | false =>
            have hA : Hid (unqA s = ([], (k : Int) + (m : Int), 31)) := by
              show _ = _
              rw [← hF.out]
              exact unqF_bad h1 h2'.out HV.out
            clear hv nok b1 hF HV
            go_wp2
            exact bodyPost_ret (res17 _ _ _ _ _ rfl rfl rfl) rfl (unq_mk0 hA.out B1.out)
          | true =>
            obtain ⟨m1, c0', c1', el⟩ := nok rfl
            have hA : Hid (unqF s f' (k + m) (acc ++ Lib.encodeRune c) = unqA s) := by
              show _ = _
              rw [← hF.out, unqF_step h1 h2'.out HV.out]
              rfl
            have I1 : Hid (Lib.IsBuilderF 163 5 w.heap.size w.heap.size (Lib.byteCells acc) W1) := builder_below hI.out b1
            have Z1 : Hid (w.heap.size ≤ W1.heap.size) := B1.out.size
            have LB : Hid ((Lib.byteCells acc).length + 4 ≤ 140737488355328) := by
              show _ ≤ _
              rw [Lib.byteCells_length]
              have := hal.out
              omega
            have F2 : Hid (s.size + 1 ≤ k + m + f') := (by have := hf.out; omega : _ ≤ _)
            have L2 : Hid ((acc ++ Lib.encodeRune c).length ≤ k + m) := by
              show _ ≤ _
              rw [List.length_append]
              have := hal.out
              omega
            clear hv nok b1 hF HV hI bel el hf
            go_wp2_with fail
            refine (wrune_any w.heap.size w.heap.size _ c (by omega) (by omega) _ I1.out LB.out Z1.out).mono ?_
            rintro e W2 ⟨rfl, h2b, b2, _⟩
            have I2 : Hid (Lib.IsBuilderF 163 5 w.heap.size w.heap.size (Lib.byteCells (acc ++ Lib.encodeRune c)) W2) := by
              show Lib.IsBuilderF _ _ _ _ _ _
              rw [Lib.byteCells_append, Lib.byteCells_encodeRune]
              exact Or.inr h2b
            have B2 : Hid (Below w.heap.size w W2) := B1.out.trans b2
            clear h2b b2
            go_wp2
            go_roundw
            case rel => exact ⟨k + m, f', acc ++ Lib.encodeRune c, by go_num, by omega, by omega, F2, L2, I2, B2, hA⟩
            case measure => simp [intOf]; omega
      · obtain rfl : k = s.size := by omega
        have h1' : ¬ (s.size : Int) < (s.size : Int) := by omega
        have hA : Hid (unqA s = ([], (s.size : Int), 31)) := by
          show _ = _
          rw [← hF.out]
          exact unqF_end rfl
        clear hF
        go_wp2
        exact bodyPost_ret (res17 _ _ _ _ _ rfl rfl rfl) rfl (unq_mk0 hA.out bel.out)
  · have c0 : ((b0 : Int) != 34) = true := bne_iff_ne.2 (by omega)
    have hA : unqA s = ([], 0, 31) := by unfold unqA; rw [if_pos (.inr (by rw [g0]; exact hq))]
    clear g0 hq
    go_enter Tryz.func56, Tryz.ntmps56
    go_wp2
    exact bodyPost_ret (res17 _ _ _ _ _ rfl rfl rfl) rfl (unq_mk0 hA (Below.refl _ _))
end Go.Proofs.YthffcdahjcpdfaaGreatDoor.Q

