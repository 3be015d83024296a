import Derived.Test.YtnbdohomaadbfaaKQl
namespace Go.Proofs.Ytnbdohomaadbfaa.K
open Go.RowKit
set_option linter.unusedVariables false
set_option linter.unusedSimpArgs false

variable {T : TypeId} {r cap : Nat} {a : Option Addr} {L : List UInt8} {s : St}
theorem own0 (W : World) : OwnB (W.alloc (.cells #[] 5)) W.heap.size (.slice (some ⟨W.heap.size, 0, none⟩) 0 0) [] := ⟨rfl, .inr ⟨W.heap.size, 0, #[], rfl, Nat.le_refl _, heap_alloc_new _ _, by simp, by simp [maxLen], rfl, rfl⟩⟩
theorem below0 (W : World) : Below W.heap.size W (W.alloc (.cells #[] 5)) := (Below.refl _ _).alloc (Nat.le_refl _) _
set_option maxRecDepth 100000 in
set_option maxHeartbeats 2000000 in
theorem qraw_any (most : Nat) (hm : most ≤ 1000000) (w : World) (h : RD w T r a cap L s) :
    Calls Try.prog 70 #[.pointer (some ⟨r, 0, none⟩), .int .i64 (most : Int)] w fun e w' => ∃ v base, e = .returned v ∧ OwnB w' base v (rRaw L most s).1 ∧ On w w' T r a cap L (rRaw L most s).2 := by
  by_cases hb : s.bad = 0
  · rcases hq : rCnt L most s with ⟨_ | ⟨n, hd⟩, s'⟩
    · have hE : rRaw L most s = ([], s') := by unfold rRaw; rw [if_pos hb, hq]
      rw [hE]
      have HC := Hid.mk' (qlen_none most hm w h hb s' hq)
      clear h hE hq
      go_enter Try.func70, Try.ntmps70
      go_wp2_with fail
      refine HC.out.mono ?_
      rintro e w2 ⟨rfl, ho⟩
      have HO := Hid.mk' ho
      clear ho
      go_wp2
      go_ret
      exact ⟨_, 0, rfl, ownB_nil _ _, HO.out⟩
    · have hE : rRaw L most s = (cut L (s.k + hd) n, ⟨s.k + hd + n, s.bad, s.wh⟩) := by unfold rRaw; rw [if_pos hb, hq]
      rw [hE]
      obtain ⟨rfl, h1, h2, h3⟩ := rCnt_some hq h.at_le
      have HC := Hid.mk' (qlen_some most hm w h hb n hd hq)
      have hf := h.few
      have hr := h.room
      have HCut := Hid.mk' (fun (wx : World) (s2 : St) (hx : On w wx T r a cap L s2) => hx.1.cut (s'.k + hd) n)
      have hlen := cut_len L (s'.k + hd) n (by omega)
      have s1 := sl_mid a L.length cap (s'.k + hd) (s'.k + hd + n) ((s'.k : Int) + (hd : Int)) ((s'.k : Int) + (hd : Int) + (n : Int)) (by omega) (by omega) (by omega) (by omega)
      have s2 := sl_mid' a L.length cap (s'.k + hd) (s'.k + hd + n) ((s'.k : Int) + (hd : Int)) ((s'.k : Int) + (hd : Int) + (n : Int)) (by omega) (by omega) (by omega) (by omega)
      rw [Nat.add_sub_cancel_left] at s1 s2
      clear h hE hq
      generalize from23 a cap (s'.k + hd) = a4 at *
      generalize cap - (s'.k + hd) = c4 at *
      generalize cut L (s'.k + hd) n = tx at *
      go_enter Try.func70, Try.ntmps70
      go_wp2_with fail
      refine HC.out.mono ?_
      rintro e w2 ⟨rfl, ho⟩
      have f1 := ho.1.fz 1
      have c1 := ho.1.c1
      have HO2 := Hid.mk' (ho.set1 (s'.k + hd + n) ((s'.k : Int) + (hd : Int) + (n : Int)) (by omega) (by omega))
      clear ho
      have hz2 : (w2.setCell ⟨r, 1, none⟩ (.int .i64 ((s'.k : Int) + (hd : Int) + (n : Int)))).heap.size = w2.heap.size := by simp
      have O0 := Hid.mk' (own0 (w2.setCell ⟨r, 1, none⟩ (.int .i64 ((s'.k : Int) + (hd : Int) + (n : Int)))))
      have hbe := below0 (w2.setCell ⟨r, 1, none⟩ (.int .i64 ((s'.k : Int) + (hd : Int) + (n : Int))))
      have B0 := Hid.mk' (byt_below (HCut.out _ _ HO2.out) hbe)
      have S0 : Hid (([] : List UInt8).length + tx.length ≤ 140737488355328) := by show _ ≤ _; simp; omega
      have Z0 := Hid.mk' hbe.size
      have d0 := HO2.out.1.c0
      have d0' := (HO2.out.below hbe).1.c0
      rw [hz2] at O0 Z0
      clear hbe hz2
      go_wp2_with (first | (at_builtin; refine wpList_app rfl (.tmp 23) (.tmp 32) rfl w2.heap.size (.slice (some ⟨w2.heap.size, 0, none⟩) 0 0) [] rfl O0.out a4 n c4 tx rfl hlen B0.out S0.out Z0.out ?_) | fail)
      intro v w3 own3 gr3
      have own3' : OwnB w3 w2.heap.size v tx := by simpa using own3
      have be3 : Below w2.heap.size (w2.setCell ⟨r, 1, none⟩ (.int .i64 ((s'.k : Int) + (hd : Int) + (n : Int)))) w3 := ((below0 (w2.setCell ⟨r, 1, none⟩ (.int .i64 ((s'.k : Int) + (hd : Int) + (n : Int))))).mono (by simp)).grown gr3 Z0.out (fun k hk => (World.ownsRow.lt O0.out k hk).1)
      have hz2 : (w2.setCell ⟨r, 1, none⟩ (.int .i64 ((s'.k : Int) + (hd : Int) + (n : Int)))).heap.size = w2.heap.size := by simp
      rw [← hz2] at be3
      have HO3 := Hid.mk' (HO2.out.below be3)
      have HOW := Hid.mk' own3'
      clear own3 own3' gr3 be3 O0 B0 S0 Z0
      go_wp2
      go_ret
      exact ⟨_, _, rfl, HOW.out, HO3.out⟩
  · have e0 : rRaw L most s = ([], s) := by unfold rRaw; rw [if_neg hb]
    rw [e0]
    have HC := Hid.mk' (qlen_bad most w h hb)
    clear h e0
    go_enter Try.func70, Try.ntmps70
    go_wp2_with fail
    refine HC.out.mono ?_
    rintro e w2 ⟨rfl, ho⟩
    have HO := Hid.mk' ho
    clear ho
    go_wp2
    go_ret
    exact ⟨_, 0, rfl, ownB_nil _ _, HO.out⟩
theorem byt_str {w : World} {ad : Option Addr} {n cap : Nat} {l : List UInt8} (hn : l.length = n) (hp : ∀ x, ad = some x → x.spot = none) (h : Byt w ad l) : (convert 53 9 (.slice ad n cap)).run Try.prog w = .ok (.string ⟨l.toArray⟩) w := by
  cases ad with
  | none =>
    rcases h with rfl | ⟨b, off, e, _⟩
    · subst hn
      rw [run_convert_bytes_string w 53 9 5 none _ cap Try.underlying53 Try.underlying5 Try.underlying9]
      rfl
    · cases e
  | some x =>
    obtain ⟨b, off, p⟩ := x
    have := hp _ rfl
    simp only at this
    subst this
    exact byt_string hn h
end Go.Proofs.Ytnbdohomaadbfaa.K
