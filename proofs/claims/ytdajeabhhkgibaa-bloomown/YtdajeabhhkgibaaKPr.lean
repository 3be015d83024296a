import Derived.Test.YtdajeabhhkgibaaKPc
import Derived.Laws.BytesArg
import Derived.Laws.IdiomStrings
namespace Go.Proofs.Ytdajeabhhkgibaa.K
open Go.RowKit
set_option linter.unusedVariables false
set_option linter.unusedSimpArgs false

theorem RD.below {w w' : World} {T : TypeId} {r cap : Nat} {a : Option Addr} {L : List UInt8} {s : St} (h : RD w T r a cap L s) (hb : Below w.heap.size w w') : RD w' T r a cap L s :=
  ⟨by rw [hb.block r h.lt]; exact h.row, h.room, byt_below h.byt hb, h.plain, h.at_le, h.few⟩
theorem On.below {w w1 w2 : World} {T : TypeId} {r cap : Nat} {a : Option Addr} {L : List UInt8} {s : St} (h : On w w1 T r a cap L s) (hb : Below w1.heap.size w1 w2) : On w w2 T r a cap L s :=
  ⟨h.1.below hb, h.2.trans (Fr.of_below hb)⟩
theorem own_string {w : World} {base : Nat} {v : Value} {L : List UInt8} (h : OwnB w base v L) : (convert 53 9 v).run Try.prog w = .ok (.string ⟨L.toArray⟩) w := by
  by_cases h0 : 0 < L.length
  · obtain ⟨g1, c1, rfl, hc1, hcl, _, _⟩ := h.open1 h0
    exact run_convert_bytes_back (P := Try.prog) w 53 9 5 ⟨g1, 0, none⟩ c1 L Try.underlying53 Try.underlying5 Try.underlying9 (fun j hj => by
      have e : (⟨g1, 0, none⟩ : Addr).add j = ⟨g1, j, none⟩ := by simpa using Addr.add_mid g1 0 j
      rw [e, hcl j hj]
      simp [at8, List.getElem?_eq_getElem hj])
  · have hL : L = [] := List.eq_nil_of_length_eq_zero (by omega)
    subst hL
    rcases h.2 with ⟨rfl, hn⟩ | ⟨g, cap, cur, rfl, hbg, hg, hnc, hcm, hcs, htake⟩
    · rw [run_convert_bytes_string w 53 9 5 none 0 0 Try.underlying53 Try.underlying5 Try.underlying9]
      rfl
    · exact run_convert_bytes_back (P := Try.prog) w 53 9 5 ⟨g, 0, none⟩ cap [] Try.underlying53 Try.underlying5 Try.underlying9 (fun j hj => by simp at hj)
theorem byt_string {w : World} {b off n cap : Nat} {l : List UInt8} (hn : l.length = n) (h : Byt w (some ⟨b, off, none⟩) l) : (convert 53 9 (.slice (some ⟨b, off, none⟩) n cap)).run Try.prog w = .ok (.string ⟨l.toArray⟩) w := by
  subst hn
  exact run_convert_bytes_back (P := Try.prog) w 53 9 5 ⟨b, off, none⟩ cap l Try.underlying53 Try.underlying5 Try.underlying9 (fun j hj => by
      rcases h with rfl | ⟨b', off', e, hc⟩
      · simp at hj
      · cases e
        rw [Addr.add_mid, hc j hj]
        simp [at8, List.getElem?_eq_getElem hj])
def cut (L : List UInt8) (j n : Nat) : List UInt8 := (L.drop j).take n
theorem cut_len (L : List UInt8) (j n : Nat) (h : j + n ≤ L.length) : (cut L j n).length = n := by simp [cut]; omega
def rRaw (L : List UInt8) (most : Nat) (s : St) : List UInt8 × St :=
  if s.bad = 0 then (match rCnt L most s with | (some (n, hd), _) => (cut L (s.k + hd) n, ⟨s.k + hd + n, s.bad, s.wh⟩) | (none, s') => ([], s')) else ([], s)
variable {T : TypeId} {r cap : Nat} {a : Option Addr} {L : List UInt8} {s : St}
theorem RD.some {w : World} (h : RD w T r a cap L s) (h0 : 0 < L.length) (j : Nat) : ∃ b off, from23 a cap j = some ⟨b, off, none⟩ := by
  rcases h.byt with e | ⟨b, off, rfl, hc⟩
  · rw [e] at h0; simp at h0
  · unfold from23
    split
    · exact ⟨b, off, rfl⟩
    · exact ⟨b, off + j, by simp [Addr.add_mid]⟩
theorem RD.cut {w : World} (h : RD w T r a cap L s) (j n : Nat) : Byt w (from23 a cap j) (cut L j n) := byt_take (byt_from h.byt cap j h.room) n
set_option maxRecDepth 100000 in
set_option maxHeartbeats 2000000 in
theorem raw_any (most : Nat) (hm : most ≤ 9223372036854775807) (w : World) (h : RD w T r a cap L s) :
    Calls Try.prog 62 #[.pointer (some ⟨r, 0, none⟩), .int .i64 (most : Int)] w fun e w' => ∃ v base, e = .returned v ∧ w.heap.size ≤ base ∧ OwnB w' base v (rRaw L most s).1 ∧ On w w' T r a cap L (rRaw L most s).2 := by
  have HS : Hid (Calls Try.prog 107 #[.pointer (some ⟨r, 0, none⟩)] w fun e w' => e = .returned (.bool (decide (s.bad ≠ 0))) ∧ w' = w) := stopped_any w h
  by_cases hb : s.bad = 0
  · have HS' : Hid (Calls Try.prog 107 #[.pointer (some ⟨r, 0, none⟩)] w fun e w' => e = .returned (.bool false) ∧ w' = w) := by have := HS.out; rw [show decide (s.bad ≠ 0) = false by simp [hb]] at this; exact this
    clear HS
    have hE : rRaw L most s = (match rCnt L most s with | (some (n, hd), _) => (cut L (s.k + hd) n, ⟨s.k + hd + n, s.bad, s.wh⟩) | (none, s') => ([], s')) := by unfold rRaw; rw [if_pos hb]
    rcases hq : rCnt L most s with ⟨_ | ⟨n, hd⟩, s'⟩
    · rw [hq] at hE
      simp only at hE
      rw [hE]
      have HC := Hid.mk' (counted_none most hm w h hb s' hq)
      clear h hE hq
      go_enter Try.func62, Try.ntmps62
      go_wp2_with fail
      refine HS'.out.mono ?_
      rintro e w1 ⟨rfl, hw1⟩
      subst hw1
      go_wp2_with fail
      refine HC.out.mono ?_
      rintro e w2 ⟨rfl, ho⟩
      have HO := Hid.mk' ho
      clear ho
      go_wp2
      go_ret
      exact ⟨_, _, rfl, Nat.le_refl _, ownB_nil _ _, HO.out⟩
    · rw [hq] at hE
      simp only at hE
      rw [hE]
      obtain ⟨rfl, h1, h2, h3⟩ := rCnt_some hq h.at_le
      have HC := Hid.mk' (counted_some most hm w h hb n hd hq)
      obtain ⟨b, off, eA⟩ := h.some (by omega) (s'.k + hd)
      have hf := h.few
      rw [eA] at HC
      have HCut := Hid.mk' (fun (wx : World) (s2 : St) (hx : On w wx T r a cap L s2) => hx.1.cut (s'.k + hd) n)
      rw [eA] at HCut
      have hlen := cut_len L (s'.k + hd) n (by omega)
      clear h hE hq eA
      generalize cap - (s'.k + hd) = c4 at *
      go_enter Try.func62, Try.ntmps62
      go_wp2_with fail
      refine HS'.out.mono ?_
      rintro e w1 ⟨rfl, hw1⟩
      subst hw1
      go_wp2_with fail
      refine HC.out.mono ?_
      rintro e w2 ⟨rfl, ho⟩
      have HON := Hid.mk' ho
      have c1 := ho.1.c1
      have f1 := ho.1.fz 1
      clear ho
      have HO2 := Hid.mk' (HON.out.set1 (s'.k + hd + n) ((s'.k : Int) + ((hd : Int) + (n : Int))) (by omega) (by omega))
      go_wp2_with fail
      refine (clone_any b off n c4 _ _ hlen (by omega) (HCut.out _ _ HO2.out)).mono ?_
      rintro e w3 ⟨v, rfl, own, bl⟩
      have HO3 := Hid.mk' (HO2.out.below bl)
      have HOW := Hid.mk' own
      clear own bl
      go_wp2
      go_ret
      exact ⟨_, _, rfl, by rw [World.size_setCell]; exact HON.out.2.size, HOW.out, HO3.out⟩
  · have HS' : Hid (Calls Try.prog 107 #[.pointer (some ⟨r, 0, none⟩)] w fun e w' => e = .returned (.bool true) ∧ w' = w) := by have := HS.out; rw [show decide (s.bad ≠ 0) = true by simp [hb]] at this; exact this
    have e0 : rRaw L most s = ([], s) := by unfold rRaw; rw [if_neg hb]
    rw [e0]
    have HO := Hid.mk' h.on
    clear HS h e0
    go_enter Try.func62, Try.ntmps62
    go_wp2_with fail
    refine HS'.out.mono ?_
    rintro e w1 ⟨rfl, hw1⟩
    subst hw1
    go_wp2
    go_ret
    exact ⟨_, _, rfl, Nat.le_refl _, ownB_nil _ _, HO.out⟩
end Go.Proofs.Ytdajeabhhkgibaa.K
