import Derived.Test.YtkinjcblngkeiaaDoorGv
namespace Go.Proofs.YtkinjcblngkeiaaDoor
open Go.RowKit
set_option linter.unusedVariables false
set_option linter.unusedSimpArgs false

def rText (L : List UInt8) (most : Nat) (s : St) : List UInt8 × St :=
  if s.bad = 0 then (match rCnt L most s with | (some (n, hd), _) => (if good (cut L (s.k + hd) n) < n then ([], ⟨s.k, 21, (s.k : Int) + (hd : Int) + (good (cut L (s.k + hd) n) : Int)⟩) else (cut L (s.k + hd) n, ⟨s.k + hd + n, s.bad, s.wh⟩)) | (none, s') => ([], s')) else ([], s)
variable {T : TypeId} {r cap : Nat} {a : Option Addr} {L : List UInt8} {s : St}
set_option maxRecDepth 100000 in
set_option maxHeartbeats 2000000 in
theorem text_any (most : Nat) (hm : most ≤ 1000000) (w : World) (h : RD w T r a cap L s) (hT : Tabs w) (hr4 : 4 ≤ r) :
    Calls Tryd.prog 49 #[.pointer (some ⟨r, 0, none⟩), .int .i64 (most : Int)] w fun e w' => e = .returned (.string ⟨(rText L most s).1.toArray⟩) ∧ On w w' T r a cap L (rText L most s).2 := by
  have HS : Hid (Calls Tryd.prog 75 #[.pointer (some ⟨r, 0, none⟩)] w fun e w' => e = .returned (.bool (decide (s.bad ≠ 0))) ∧ w' = w) := stopped_any w h
  by_cases hb : s.bad = 0
  · have HS' : Hid (Calls Tryd.prog 75 #[.pointer (some ⟨r, 0, none⟩)] w fun e w' => e = .returned (.bool false) ∧ w' = w) := by have := HS.out; rw [show decide (s.bad ≠ 0) = false by simp [hb]] at this; exact this
    clear HS
    rcases hq : rCnt L most s with ⟨_ | ⟨n, hd⟩, s'⟩
    · have hE : rText L most s = ([], s') := by unfold rText; rw [if_pos hb, hq]
      rw [hE]
      have HC := Hid.mk' (counted_none most hm w h hb s' hq)
      clear h hE hq
      go_enter Tryd.func49, Tryd.ntmps49
      go_wp2_with fail
      refine HS'.out.mono ?_
      rintro e w1 ⟨rfl, hw1⟩
      subst hw1
      go_wp2_with fail
      refine HC.out.mono ?_
      rintro e w2 ⟨rfl, ho⟩
      have HO := Hid.mk' ho
      clear ho
      go_wp2
      go_ret
      exact ⟨rfl, HO.out⟩
    · have hE : rText L most s = (if good (cut L (s.k + hd) n) < n then ([], ⟨s.k, 21, (s.k : Int) + (hd : Int) + (good (cut L (s.k + hd) n) : Int)⟩) else (cut L (s.k + hd) n, ⟨s.k + hd + n, s.bad, s.wh⟩)) := by unfold rText; rw [if_pos hb, hq]
      rw [hE]
      obtain ⟨rfl, h1, h2, h3⟩ := rCnt_some hq h.at_le
      have HC := Hid.mk' (counted_some most hm w h hb n hd hq)
      obtain ⟨b, off, eA⟩ := h.some (by omega) (s'.k + hd)
      have hf := h.few
      have hroom := h.room
      rw [eA] at HC
      have HCut := Hid.mk' (fun (wx : World) (s2 : St) (hx : On w wx T r a cap L s2) => hx.1.cut (s'.k + hd) n)
      rw [eA] at HCut
      have hlen := cut_len L (s'.k + hd) n (by omega)
      have hgle : good (cut L (s'.k + hd) n) ≤ n := by have := goodF_le (cut L (s'.k + hd) n).length (cut L (s'.k + hd) n); rw [hlen] at this; unfold good; rw [hlen]; exact this
      have HGT := Hid.mk' (fun (wx : World) (hx : On w wx T r a cap L s') => goodText_any b off n (cap - (s'.k + hd)) (cut L (s'.k + hd) n) wx hlen (by omega) (by omega) (HCut.out wx s' hx) (hT.fr hx.2 hr4))
      have HCV := Hid.mk' (fun (wx : World) (s2 : St) (hx : On w wx T r a cap L s2) => byt_string (cap := cap - (s'.k + hd)) hlen (HCut.out wx s2 hx))
      clear h hE hq eA hT hlen HCut hroom
      generalize cap - (s'.k + hd) = c4 at *
      generalize good (cut L (s'.k + hd) n) = g at *
      generalize cut L (s'.k + hd) n = tx at *
      by_cases hg : g < n
      · rw [if_pos hg]
        have hg' : (g : Int) < (n : Int) := by omega
        have HK := Hid.mk' (keep_on (a := a) (cap := cap) (L := L) (T := T) (r := r) w hb 21 ((s'.k : Int) + (hd : Int) + (g : Int)) (by decide))
        have hw1 : IntKind.i64.wrap ((s'.k : Int) + (hd : Int)) = (s'.k : Int) + (hd : Int) := by rw [IntKind.wrap_i64]; omega
        have hw2 : IntKind.i64.wrap ((s'.k : Int) + (hd : Int) + (g : Int)) = (s'.k : Int) + (hd : Int) + (g : Int) := by rw [IntKind.wrap_i64]; omega
        go_enter Tryd.func49, Tryd.ntmps49
        go_wp2_with fail
        refine HS'.out.mono ?_
        rintro e w1 ⟨rfl, hw1⟩
        subst hw1
        go_wp2_with fail
        refine HC.out.mono ?_
        rintro e w2 ⟨rfl, ho⟩
        have HON := Hid.mk' ho
        clear ho
        go_wp2_with fail
        refine (HGT.out _ HON.out).mono ?_
        rintro e w3 ⟨rfl, bl⟩
        have HON2 := Hid.mk' (HON.out.below bl)
        have c1 := HON2.out.1.c1
        clear bl HON
        go_wp2
        go_region_held3 (fun w' => w'.cell? ⟨r, 1, none⟩ = some (.int .i64 (s'.k : Int))) (first | assumption | go_keep) (first
          | (go_at_call 77; refine (HK.out _ ?_).mono ?_; (first | exact HON2.out | exact HON2.out.drew _ | exact (HON2.out.drew _).drew 1); rintro e w4 ⟨rfl, ho⟩; have s1 := ho.1.c1; have HO2 := Hid.mk' ho; clear ho)
          | fail)
        go_wp2
        go_ret
        exact ⟨rfl, HO2.out⟩
      · rw [if_neg hg]
        have hg' : ¬ (g : Int) < (n : Int) := by omega
        go_enter Tryd.func49, Tryd.ntmps49
        go_wp2_with fail
        refine HS'.out.mono ?_
        rintro e w1 ⟨rfl, hw1⟩
        subst hw1
        go_wp2_with fail
        refine HC.out.mono ?_
        rintro e w2 ⟨rfl, ho⟩
        have HON := Hid.mk' ho
        clear ho
        go_wp2_with fail
        refine (HGT.out _ HON.out).mono ?_
        rintro e w3 ⟨rfl, bl⟩
        have HON2 := Hid.mk' (HON.out.below bl)
        have c1 := HON2.out.1.c1
        have f1 := HON2.out.1.fz 1
        have HO2 := Hid.mk' (HON2.out.set1 (s'.k + hd + n) ((s'.k : Int) + ((hd : Int) + (n : Int))) (by omega) (by omega))
        have cv := HCV.out _ _ HO2.out
        clear bl HON
        go_wp2
        go_ret
        exact ⟨rfl, HO2.out⟩
  · have HS' : Hid (Calls Tryd.prog 75 #[.pointer (some ⟨r, 0, none⟩)] w fun e w' => e = .returned (.bool true) ∧ w' = w) := by have := HS.out; rw [show decide (s.bad ≠ 0) = true by simp [hb]] at this; exact this
    have e0 : rText L most s = ([], s) := by unfold rText; rw [if_neg hb]
    rw [e0]
    have HO := Hid.mk' h.on
    clear HS h e0
    go_enter Tryd.func49, Tryd.ntmps49
    go_wp2_with fail
    refine HS'.out.mono ?_
    rintro e w1 ⟨rfl, hw1⟩
    subst hw1
    go_wp2
    go_ret
    exact ⟨rfl, HO.out⟩
end Go.Proofs.YtkinjcblngkeiaaDoor
