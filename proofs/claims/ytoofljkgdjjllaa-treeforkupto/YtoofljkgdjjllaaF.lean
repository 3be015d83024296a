import Derived.Test.YtoofljkgdjjllaaHl
import Derived.Deep.RegionWith
import Derived.Deep.QuietTactic
import Derived.BigQuiet
import Derived.Deep.OwnRows
import Derived.Laws.BytesArg
import Derived.Laws.IdiomStrings
namespace Go.Proofs.Ytoofljkgdjjllaa
open Go.RowKit
set_option linter.unusedVariables false
set_option linter.unusedSimpArgs false

theorem at8_zero (a : UInt8) (r : List UInt8) : at8 (a :: r) 0 = (a.toNat : Int) := rfl
theorem at8_succ (a : UInt8) (r : List UInt8) (k : Nat) : at8 (a :: r) (k + 1) = at8 r k := by simp [at8]
theorem hz23 (w : World) : (zeroValue 35).run Try.prog w = .ok (.agg (bs z32)) w := (zero_of_info (n := 32) (by kernel_rfl)).1 w
theorem hb23 : Try.prog.built 35 [] = some (bs z32) := by kernel_rfl
theorem hs23 : (Try.prog.info? 35).map (·.size) = some 32 := by kernel_rfl
theorem load23 (w : World) (g : Nat) (t : TypeId) (l : List UInt8) (hl : l.length = 32) (fr : Nat × Nat) (hg : w.heap[g]? = some (.cells (bs l) t fr)) :
    (loadVar 35 ⟨g, 0, none⟩).run Try.prog w = .ok (.agg (bs l)) w :=
  run_loadVar_row w g t 35 (bs l) fr _ hg Try.underlying35 rfl (by rw [bs_size, hl]; exact hs23)

theorem below_setRow (B : Nat) (w : World) (g : Nat) (cs : Array Value) (h : B ≤ g) : Below B w (w.setRow g cs) :=
  ⟨rfl, rfl, rfl, by simp, fun k hk => setRow_other w g k cs (by omega)⟩

theorem made_bs (n : Nat) : madeCells #[.int .u8 0] n = bs (List.replicate n 0) := by
  apply Array.ext
  · simp [madeCells, bs]
  · intro i h1 h2
    simp [madeCells, bs, Nat.mod_one]

theorem Try.info5 : (Try.prog.info? 5).map (fun i => (i.zero, i.size, i.bytes)) = some (some (.int .u8 0), 1, 1) := by kernel_rfl

theorem zlen (m : Nat) : (List.replicate m (0 : UInt8)).length = m := by simp
theorem hz_i5 : ∃ i, Try.prog.info? 5 = some i := by
  have h := Try.info5
  cases hq : Try.prog.info? 5 with
  | none => rw [hq] at h; simp at h
  | some i => exact ⟨i, rfl⟩
theorem eq23 (a b : List UInt8) (ha : a.length = 32) (hb : b.length = 32) (w : World) :
    (Op.equalIn 10000 35 (.agg (bs a)) (.agg (bs b))).run Try.prog w = .ok (decide (a = b)) w := by
  obtain ⟨i, hi⟩ := hz_i5
  exact eq_bytes 9998 Try.underlying35 hi (by kernel_rfl) Try.underlying5 a b ha hb w

end Go.Proofs.Ytoofljkgdjjllaa
