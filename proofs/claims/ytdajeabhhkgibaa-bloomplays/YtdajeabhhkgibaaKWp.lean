import Derived.Test.YtdajeabhhkgibaaKWb
namespace Go.Proofs.Ytdajeabhhkgibaa.K
open Go.RowKit
set_option linter.unusedVariables false
set_option linter.unusedSimpArgs false

variable {p : Nat} {g : Option Nat} {M : List UInt8} {e : Int}
set_option maxRecDepth 100000 in
set_option maxHeartbeats 2000000 in
theorem put_any (k : UInt8) (kv : Int) (hk : kv = (k.toNat : Int)) (w : World) (hw : WS w 133 p g M e) (hsum : M.length + 1 ≤ 140737488355328) :
    Calls Try.prog 121 #[.pointer (some ⟨p, 0, none⟩), .int .u8 kv] w fun x w' => x = .returned (.tuple #[]) ∧ Wr w w' 133 p g (wA M e [k]) e := by
  subst hk
  by_cases he : e = 0
  · subst he
    rw [wA_0]
    have hne := hw.ne
    obtain ⟨v, hq, own, hg⟩ := hw.ex
    have zq : p < w.heap.size := (Array.getElem?_eq_some_iff.1 hq).1
    have c0 := (cell_of_row w p 0 _ _ _ hq).trans (show (#[v, .int .i64 0] : Array Value)[0]? = some v from rfl)
    have c1 := (cell_of_row w p 1 _ _ _ hq).trans (show (#[v, .int .i64 0] : Array Value)[1]? = some (.int .i64 0) from rfl)
    have be : Below w.heap.size w (w.alloc (.cells (bs [k]) 5)) := (Below.refl _ _).alloc (Nat.le_refl _) _
    have hqA : (w.alloc (.cells (bs [k]) 5)).heap[p]? = some (.cells #[v, .int .i64 0] 133 (0, 0)) := (be.block p zq).trans hq
    obtain ⟨av, cv, rfl, hcv, byv, hav⟩ := own.open
    have HO : Hid (OwnB (w.alloc (.cells #[.int .u8 (k.toNat : Int)] 5)) 0 (.slice av M.length cv) M) := own.below be
    have HB : Hid (Byt (w.alloc (.cells #[.int .u8 (k.toNat : Int)] 5)) (some ⟨w.heap.size, 0, none⟩) [k]) := byt_lit w [k] 5
    have HS : Hid (M.length + [k].length ≤ 140737488355328) := by show _ ≤ _; simpa using hsum
    have HQ : Hid ((w.alloc (.cells #[.int .u8 (k.toNat : Int)] 5)).heap[p]? = some (.cells #[.slice av M.length cv, .int .i64 0] 133 (0, 0))) := hqA
    have HE : Hid (Below w.heap.size w (w.alloc (.cells #[.int .u8 (k.toNat : Int)] 5))) := be
    have HG := Hid.mk' hg
    clear hsum hqA be hg hw
    go_enter Try.func121, Try.ntmps121
    go_wp2_with (first | (at_builtin; refine wpList_app2 rfl (.tmp 17) (.tmp 19) rfl 0 (.slice av M.length cv) M rfl HO.out (some ⟨w.heap.size, 0, none⟩) 1 1 [k] rfl rfl HB.out HS.out (Nat.zero_le _) ?_) | fail)
    intro v' w1 own1 gr1 hblk
    have zqA : p < (w.alloc (.cells #[.int .u8 (k.toNat : Int)] 5)).heap.size := by simp; omega
    have zA : (w.alloc (.cells #[.int .u8 (k.toNat : Int)] 5)).heap.size = w.heap.size + 1 := by simp
    have hq1 : w1.heap[p]? = some (.cells #[.slice av M.length cv, .int .i64 0] 133 (0, 0)) := by rw [gr1.block p zqA (fun e => hne (HG.out.symm.trans e.symm))]; exact HQ.out
    have d0 := (cell_of_row w1 p 0 _ _ _ hq1).trans (show (#[.slice av M.length cv, .int .i64 0] : Array Value)[0]? = some (.slice av M.length cv) from rfl)
    have f0 := frozen_of_row w1 p 0 _ _ hq1
    have hblk' : Nw g v'.ownBlock w.heap.size := by
      rcases hblk with e | e
      · exact .inl (e.trans HG.out)
      · exact .inr ⟨_, e, by omega⟩
    have hne1 : v'.ownBlock ≠ some p := by
      rcases hblk' with e | ⟨k, e, hk⟩
      · rw [e]; exact hne
      · rw [e]; intro h; simp at h; omega
    have W1 : Hid (Wr w (w1.setCell ⟨p, 0, none⟩ v') 133 p g (M ++ [k]) 0) := by
      refine ⟨v'.ownBlock, ⟨⟨v', by rw [heap_setCell_same w1 p 0 _ 133 _ hq1]; rfl, own_setCell own1 hne1, rfl⟩, hne1⟩, ⟨gr1.os.trans HE.out.os, gr1.tape.trans HE.out.tape, gr1.output.trans HE.out.output, by simp [World.setCell]; have := gr1.size; omega, fun i hi hp hn => ?_⟩, hblk'⟩
      rw [Below.heap_setCell _ _ _ _ hp, gr1.block i (by omega) (fun e => hn (e.trans HG.out)), HE.out.block i hi]
    obtain ⟨av', cv', rfl, _⟩ := own1.open
    rw [List.length_append] at W1
    clear own1 gr1 hblk hblk' hne1 HO HB HS HQ HE HG zA zqA
    go_wp2
    go_end0
    exact ⟨rfl, W1.out⟩
  · rw [wA_no M [k] e he]
    obtain ⟨v, hq, own, hg⟩ := hw.ex
    have c1 := (cell_of_row w p 1 _ _ _ hq).trans (show (#[v, .int .i64 e] : Array Value)[1]? = some (.int .i64 e) from rfl)
    have HW := Hid.mk' hw.wr
    clear hw own hg hq
    go_enter Try.func121, Try.ntmps121
    go_wp2
    go_end0
    exact ⟨rfl, HW.out⟩
end Go.Proofs.Ytdajeabhhkgibaa.K
