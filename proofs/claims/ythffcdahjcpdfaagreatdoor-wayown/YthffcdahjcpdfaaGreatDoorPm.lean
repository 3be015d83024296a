import Derived.Test.YthffcdahjcpdfaaGreatDoorPl
namespace Go.Proofs.YthffcdahjcpdfaaGreatDoor
open Go.RowKit
set_option linter.unusedVariables false
set_option linter.unusedSimpArgs false

/-- The step that stands at a place. -/
noncomputable def stP (s : ByteArray) (k : Nat) : St × Nat × Bool :=
  if K.V.by8 s k = 47 then (⟨1, (kyP s (k + 1)).1, 0⟩, (kyP s (k + 1)).2.1, (kyP s (k + 1)).2.2)
  else if K.V.by8 s k = 91 then (⟨2, ⟨#[]⟩, ((ixP s (k + 1)).1 : Int)⟩, (ixP s (k + 1)).2.1, (ixP s (k + 1)).2.2)
  else if K.V.by8 s k = 126 then (⟨3, ⟨#[]⟩, ((numP s (k + 1) (s.size - (k + 1)) (k + 1) 0).1 : Int)⟩, (numP s (k + 1) (s.size - (k + 1)) (k + 1) 0).2.1, (numP s (k + 1) (s.size - (k + 1)) (k + 1) 0).2.2)
  else (zSt, k, false)
/-- What read tells from a place on. -/
noncomputable def rP (s : ByteArray) : Nat → Nat → List St → List St × Nat × Bool
  | 0, k, _ => ([], k, false)
  | f + 1, k, acc => if k = s.size ∨ acc.length = 32 then ([], k, false) else if (stP s k).2.2 = false then ([], (stP s k).2.1, false) else if (stP s k).2.1 < s.size then rP s f (stP s k).2.1 (acc ++ [(stP s k).1]) else (acc ++ [(stP s k).1], (stP s k).2.1, true)
/-- Where the way's text is read on. -/
structure RS (s : ByteArray) (w : World) (R : List St × Nat × Bool) (wr : World) (k f : Nat) (acc : List St) (va : Option Addr) (n vc : Nat) (C : Array Value) : Prop where
  hn : acc.length = n
  hk : k ≤ s.size
  hf : s.size + 1 ≤ k + f
  own : OwnS wr (w.heap.size + 1) (.slice va n vc) acc
  hC : C.size = 3
  box : wr.heap[w.heap.size]? = some (.cells C 54 (0, 0))
  bel : Below w.heap.size w wr
def JJ (s : ByteArray) (w : World) (a2 : Addr) (R : List St × Nat × Bool) (l : Nat) (a : Act) (wr : World) : Prop :=
  match l with
  | 0 => ∃ (k f : Nat) (acc : List St) (va : Option Addr) (n vc : Nat) (C : Array Value) (ev u6 u7 u8 u9 u10 u11 u12 u13 u14 u15 u16 u17 u18 u19 u20 u21 u22 u23 u24 u25 u26 u27 u28 u29 u30 u31 u32 u33 u34 u35 u36 u37 u38 u39 u40 u41 u42 u43 u44 u45 u46 u47 u48 u49 u50 u51 u52 u53 u54 u55 u56 u57 u58 u59 u60 u61 u62 u63 u64 u65 u66 u67 u68 u69 u70 u71 u72 u73 u74 u75 u76 u77 u78 : Value), a = { tmps := #[.string s, undef, .slice va n vc, .int .i64 (k : Int), ev, .pointer (some ⟨w.heap.size, 0, none⟩), u6, u7, u8, u9, u10, u11, u12, u13, u14, u15, u16, u17, u18, u19, u20, u21, u22, u23, u24, u25, u26, u27, u28, u29, u30, u31, u32, u33, u34, u35, u36, u37, u38, u39, u40, u41, u42, u43, u44, u45, u46, u47, u48, u49, u50, u51, u52, u53, u54, u55, u56, u57, u58, u59, u60, u61, u62, u63, u64, u65, u66, u67, u68, u69, u70, u71, u72, u73, u74, u75, u76, u77, u78], defers := [] } ∧ RS s w R wr k f acc va n vc C ∧ n ≤ 32 ∧ rP s f k acc = R
  | 1 => ∃ (k f : Nat) (acc : List St) (va : Option Addr) (n vc : Nat) (ev u6 u7 u8 u9 u10 u11 u12 u13 u14 u15 u16 u17 u18 u19 u20 u21 u22 u23 u24 u25 u26 u27 u28 u29 u30 u31 u32 u33 u34 u35 u36 u37 u38 u39 u40 u41 u42 u43 u44 u45 u46 u47 u48 u49 u50 u51 u52 u53 u54 u55 u56 u57 u58 u59 u60 u61 u62 u63 u64 u65 u66 u67 u68 u69 u70 u71 u72 u73 u74 u75 u76 u77 u78 : Value), a = { tmps := #[.string s, undef, .slice va n vc, .int .i64 (k : Int), ev, .pointer (some ⟨w.heap.size, 0, none⟩), u6, u7, u8, u9, u10, u11, u12, u13, u14, u15, u16, u17, u18, u19, u20, u21, u22, u23, u24, u25, u26, u27, u28, u29, u30, u31, u32, u33, u34, u35, u36, u37, u38, u39, u40, u41, u42, u43, u44, u45, u46, u47, u48, u49, u50, u51, u52, u53, u54, u55, u56, u57, u58, u59, u60, u61, u62, u63, u64, u65, u66, u67, u68, u69, u70, u71, u72, u73, u74, u75, u76, u77, u78], defers := [] } ∧ RS s w R wr k (f + 1) acc va n vc zSt.c ∧ n < 32 ∧ k < s.size ∧ K.V.by8 s k = 47 ∧ rP s (f + 1) k acc = R
  | 2 => ∃ (k f : Nat) (acc : List St) (va : Option Addr) (n vc : Nat) (ev u6 u7 u8 u9 u10 u11 u12 u13 u14 u15 u16 u17 u18 u19 u20 u21 u22 u23 u24 u25 u26 u27 u28 u29 u30 u31 u32 u33 u34 u35 u36 u37 u38 u39 u40 u41 u42 u43 u44 u45 u46 u47 u48 u49 u50 u51 u52 u53 u54 u55 u56 u57 u58 u59 u60 u61 u62 u63 u64 u65 u66 u67 u68 u69 u70 u71 u72 u73 u74 u75 u76 u77 u78 : Value), a = { tmps := #[.string s, undef, .slice va n vc, .int .i64 (k : Int), ev, .pointer (some ⟨w.heap.size, 0, none⟩), u6, u7, u8, u9, u10, u11, u12, u13, u14, u15, u16, u17, u18, u19, u20, u21, u22, u23, u24, u25, u26, u27, u28, u29, u30, u31, u32, u33, u34, u35, u36, u37, u38, u39, u40, u41, u42, u43, u44, u45, u46, u47, u48, u49, u50, u51, u52, u53, u54, u55, u56, u57, u58, u59, u60, u61, u62, u63, u64, u65, u66, u67, u68, u69, u70, u71, u72, u73, u74, u75, u76, u77, u78], defers := [] } ∧ RS s w R wr k (f + 1) acc va n vc zSt.c ∧ n < 32 ∧ k < s.size ∧ K.V.by8 s k = 91 ∧ rP s (f + 1) k acc = R
  | 3 => ∃ (k f : Nat) (acc : List St) (va : Option Addr) (n vc : Nat) (ev u6 u7 u8 u9 u10 u11 u12 u13 u14 u15 u16 u17 u18 u19 u20 u21 u22 u23 u24 u25 u26 u27 u28 u29 u30 u31 u32 u33 u34 u35 u36 u37 u38 u39 u40 u41 u42 u43 u44 u45 u46 u47 u48 u49 u50 u51 u52 u53 u54 u55 u56 u57 u58 u59 u60 u61 u62 u63 u64 u65 u66 u67 u68 u69 u70 u71 u72 u73 u74 u75 u76 u77 u78 : Value), a = { tmps := #[.string s, undef, .slice va n vc, .int .i64 (k : Int), ev, .pointer (some ⟨w.heap.size, 0, none⟩), u6, u7, u8, u9, u10, u11, u12, u13, u14, u15, u16, u17, u18, u19, u20, u21, u22, u23, u24, u25, u26, u27, u28, u29, u30, u31, u32, u33, u34, u35, u36, u37, u38, u39, u40, u41, u42, u43, u44, u45, u46, u47, u48, u49, u50, u51, u52, u53, u54, u55, u56, u57, u58, u59, u60, u61, u62, u63, u64, u65, u66, u67, u68, u69, u70, u71, u72, u73, u74, u75, u76, u77, u78], defers := [] } ∧ RS s w R wr k (f + 1) acc va n vc zSt.c ∧ n < 32 ∧ k < s.size ∧ K.V.by8 s k = 126 ∧ rP s (f + 1) k acc = R
  | 4 => ∃ (k f : Nat) (acc : List St) (va : Option Addr) (n vc : Nat) (p : St) (ok : Bool) (u6 u7 u8 u9 u10 u11 u12 u13 u14 u15 u16 u17 u18 u19 u20 u21 u22 u23 u24 u25 u26 u27 u28 u29 u30 u31 u32 u33 u34 u35 u36 u37 u38 u39 u40 u41 u42 u43 u44 u45 u46 u47 u48 u49 u50 u51 u52 u53 u54 u55 u56 u57 u58 u59 u60 u61 u62 u63 u64 u65 u66 u67 u68 u69 u70 u71 u72 u73 u74 u75 u76 u77 u78 : Value), a = { tmps := #[.string s, undef, .slice va n vc, .int .i64 (k : Int), erV a2 ok, .pointer (some ⟨w.heap.size, 0, none⟩), u6, u7, u8, u9, u10, u11, u12, u13, u14, u15, u16, u17, u18, u19, u20, u21, u22, u23, u24, u25, u26, u27, u28, u29, u30, u31, u32, u33, u34, u35, u36, u37, u38, u39, u40, u41, u42, u43, u44, u45, u46, u47, u48, u49, u50, u51, u52, u53, u54, u55, u56, u57, u58, u59, u60, u61, u62, u63, u64, u65, u66, u67, u68, u69, u70, u71, u72, u73, u74, u75, u76, u77, u78], defers := [] } ∧ RS s w R wr k f acc va n vc p.c ∧ n < 32 ∧ (ok = false → R = ([], k, false)) ∧ (ok = true → k < s.size → rP s f k (acc ++ [p]) = R) ∧ (ok = true → ¬ k < s.size → R = (acc ++ [p], k, true))
  | _ => False
def MU (s : ByteArray) (l : Nat) (a : Act) (wr : World) : Nat := 4 * (s.size - (intOf (a.tmps.getD 3 undef)).toNat) + (if l = 0 then 1 else if l = 4 then 2 else 0)
theorem JJ_lt {s : ByteArray} {w : World} {a2 : Addr} {R : List St × Nat × Bool} (l : Nat) (a : Act) (wr : World) (h : JJ s w a2 R l a wr) : l < 5 := by
  match l, h with
  | 0, _ => omega
  | 1, _ => omega
  | 2, _ => omega
  | 3, _ => omega
  | 4, _ => omega
  | n + 5, h => exact h.elim
theorem kyP_le (s : ByteArray) (k0 : Nat) (hk : k0 ≤ s.size) (hU : Q.UB (s.extract k0 s.size)) : k0 ≤ (kyP s k0).2.1 ∧ (kyP s k0).2.1 ≤ s.size := by
  have zt : (s.extract k0 s.size).size = s.size - k0 := Lib.ext_size s k0
  have hp := plN_le (s.extract k0 s.size)
  obtain ⟨u1, u2, _⟩ := hU
  unfold kyP
  split
  · unfold quP
    split
    · simp; omega
    · split
      · simp; omega
      · simp; omega
  · split
    · simp; omega
    · split
      · simp; omega
      · simp; omega
theorem nuP_le (s : ByteArray) (k0 : Nat) (hk : k0 ≤ s.size) : k0 ≤ (numP s k0 (s.size - k0) k0 0).2.1 ∧ (numP s k0 (s.size - k0) k0 0).2.1 ≤ s.size := by
  have h := numP_le s k0 (s.size - k0) k0 0
  omega
theorem ixP_le (s : ByteArray) (k0 : Nat) (hk : k0 ≤ s.size) : k0 ≤ (ixP s k0).2.1 ∧ (ixP s k0).2.1 ≤ s.size := by
  have h := nuP_le s k0 hk
  unfold ixP
  split
  · simpa using h
  · split
    · simpa using h
    · next h1 => simp only [not_or] at h1; simp; omega
theorem ownS_set {w : World} {base b i : Nat} {v x : Value} {L : List St} (h : OwnS w base v L) (hb : b < base) : OwnS (w.setCell ⟨b, i, none⟩ x) base v L := by
  refine ⟨h.1, ?_⟩
  rcases h.2 with hn | ⟨g, cap, cur, rfl, hbg, hg, rest⟩
  · exact .inl hn
  · exact .inr ⟨g, cap, cur, rfl, hbg, by rw [Below.heap_setCell _ _ _ _ (show g ≠ b by omega)]; exact hg, rest⟩
theorem three_cells {C : Array Value} (h : C.size = 3) : ∃ x y z, C = #[x, y, z] := by
  obtain ⟨l⟩ := C
  match l, h with
  | [x, y, z], _ => exact ⟨x, y, z, rfl⟩
end Go.Proofs.YthffcdahjcpdfaaGreatDoor
