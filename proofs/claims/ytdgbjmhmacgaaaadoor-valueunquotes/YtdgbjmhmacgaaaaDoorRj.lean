import Derived.Test.YtdgbjmhmacgaaaaDoorRk
namespace Go.Proofs.YtdgbjmhmacgaaaaDoor
open Go.RowKit
set_option linter.unusedVariables false
set_option linter.unusedSimpArgs false

theorem res18 (tmps : Array Value) (w : World) (a b c : Value) (h1 : tmps.getD 2 undef = a) (h2 : tmps.getD 3 undef = b) (h3 : tmps.getD 4 undef = c) : (results Tryd.f18 tmps).run Tryd.prog w = .ok (.tuple #[a, b, c]) w := by
  subst h1 h2 h3
  simp [results, Tryd.results18]
set_option maxRecDepth 100000 in
set_option maxHeartbeats 400000 in
theorem runquote_any (s : ByteArray) (w : World) (hs : s.size ≤ 140737488351232) :
    Calls Tryd.prog 18 #[.string s] w (UnqOut s w) := by
  have HQ : Hid (Calls Tryd.prog 40 #[.string s, .int .u8 34] w (UnqOut s w)) := unquoted_any s w hs
  obtain ⟨l, a, b, hA⟩ : ∃ l a b, unqA s = (l, a, b) := ⟨_, _, _, rfl⟩
  have HA : Hid (unqA s = (l, a, b)) := hA
  unfold UnqOut at HQ
  rw [hA] at HQ
  clear hA
  go_enter Tryd.func18, Tryd.ntmps18
  go_wp2_with fail
  refine HQ.out.mono ?_
  rintro e w1 ⟨rfl, b1⟩
  go_wp2
  exact bodyPost_ret (res18 _ _ _ _ _ rfl rfl rfl) rfl (unq_mk HA.out b1)
set_option maxRecDepth 100000 in
set_option maxHeartbeats 400000 in
theorem unquotes_all (s : ByteArray) (w : World) (hs : s.size ≤ 140737488351232) (hT : Tabs w) :
    Calls Tryd.prog 6 #[.string s] w fun e w' => e = .returned (.bool true) ∧ Below w.heap.size w w' := by
  have H1 : Hid (Calls Tryd.prog 17 #[.string s] w (UnqOut s w)) := unquote_any s w hs hT
  have H2 : Hid (∀ wx, Calls Tryd.prog 18 #[.string s] wx (UnqOut s wx)) := fun wx => runquote_any s wx hs
  obtain ⟨l, a, b, hA⟩ : ∃ l a b, unqA s = (l, a, b) := ⟨_, _, _, rfl⟩
  unfold UnqOut at H1 H2
  rw [hA] at H1 H2
  simp only [] at H1 H2
  generalize (⟨l.toArray⟩ : ByteArray) = R at *
  have q : (R.toList == R.toList) = true := by simp
  have q2 : (a == a) = true := by simp
  have q3 : (b == b) = true := by simp
  clear hT hA
  go_enter Tryd.func6, Tryd.ntmps6
  go_wp2_with fail
  refine H1.out.mono ?_
  rintro e w1 ⟨rfl, b1⟩
  go_wp2_with fail
  refine (H2.out _).mono ?_
  rintro e w2 ⟨rfl, b2⟩
  go_wp2
  go_ret
  exact ⟨by first | rfl | simp, b1.trans (b2.mono b1.size)⟩
end Go.Proofs.YtdgbjmhmacgaaaaDoor
