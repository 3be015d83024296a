import Derived.Test.YtdajeabhhkgibaaHl
import Derived.Deep.RegionWith
import Derived.Deep.QuietTactic
import Derived.BigQuiet
import Derived.Deep.OwnRows
namespace Go.Proofs.Ytdajeabhhkgibaa
open Go.RowKit
set_option linter.unusedVariables false
set_option linter.unusedSimpArgs false

/-- The mark behind what is handed in. -/
def mk (j : Nat) : List UInt8 := 160 :: UInt8.ofNat j :: List.replicate 30 0
theorem mk_len (j : Nat) : (mk j).length = 32 := by simp [mk]
def marks : List (List UInt8) := (List.range 9).map mk
theorem marks_len : marks.length = 9 := rfl
theorem marks_get (j : Nat) (h : j < 9) : marks[j]? = some (mk j) := by simp [marks, h]
theorem all32_marks : All32 marks := fun x hx => by
  simp only [marks, List.mem_map] at hx
  obtain ⟨j, _, rfl⟩ := hx
  exact mk_len j
theorem all32_app {L M : List (List UInt8)} (h : All32 L) (k : All32 M) : All32 (L ++ M) := fun x hx => by
  rcases List.mem_append.1 hx with h1 | h1
  · exact h x h1
  · exact k x h1

theorem infoH : ∃ i, Try.prog.info? 30 = some i ∧ i.zero = some (.agg (bs z32)) ∧ i.size = 32 ∧ i.bytes = 32 := by
  have h : (Try.prog.info? 30).map (fun i => (i.zero, i.size, i.bytes)) = some (some (.agg (bs z32)), 32, 32) := by kernel_rfl
  cases hq : Try.prog.info? 30 with
  | none => rw [hq] at h; simp at h
  | some i =>
    rw [hq] at h
    simp at h
    exact ⟨i, rfl, h.1, h.2.1, h.2.2⟩
theorem cellsH : Try.prog.cellsOf 30 = 32 := by kernel_rfl

theorem make_hashes (n : Nat) (hn : n ≤ 4398046511104 + 9) (w : World) :
    (Instr.makeSlice 31 (.int .i64 ((n : Int))) (.int .i64 (n : Int))).run Try.prog w = .ok (.slice (some ⟨w.heap.size, 0, none⟩) n n) (w.alloc (.cells (madeCells (bs z32) (n * 32)) 30)) := by
  obtain ⟨i, hi, hz, hs, hb⟩ := infoH
  have h := run_make (P := Try.prog) w 31 30 i (.agg (bs z32)) Try.underlying31 hi hz .i64 .i64 n n (by omega) (by omega) (by rw [hb]; omega) (by omega)
  rw [h, hs]
  simp [Value.cells]

theorem built_mk (j : Nat) (hj : j < 256) : Try.prog.built 30 [(0, .int .u8 160), (1, .int .u8 (j : Int))] = some (bs (mk j)) := by
  have h : Try.prog.built 30 [(0, .int .u8 160), (1, .int .u8 (j : Int))] = some (#[.int .u8 160, .int .u8 (j : Int)] ++ (bs (List.replicate 30 0))) := by kernel_rfl
  rw [h]
  have e : ((UInt8.ofNat j).toNat : Int) = (j : Int) := by rw [UInt8.toNat_ofNat']; omega
  simp [mk, bs, e]
  omega

/-- The place of an element. -/
theorem indexH (b off n cap k : Nat) (w : World) (hk : k < n) :
    (Instr.indexAt 31 (.slice (some ⟨b, off, none⟩) n cap) (.int .i64 (k : Int))).run Try.prog w = .ok (.pointer (some ⟨b, off + 32 * k, none⟩)) w := by
  obtain ⟨i, hi, hz, hs, hb⟩ := infoH
  have hu := Try.underlying31
  have he : Try.prog.elem 31 = 30 := by kernel_rfl
  rw [run_indexAt_slice (P := Try.prog) _ _ _ _ _ _ _ (by rw [he]; exact hu)]
  simp [hk, he, hi, hs, Go.sizeOf, typeInfo, Addr.add_mid]
end Go.Proofs.Ytdajeabhhkgibaa
