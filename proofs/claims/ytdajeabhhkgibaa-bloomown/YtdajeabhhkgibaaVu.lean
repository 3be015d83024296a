import Derived.Test.YtdajeabhhkgibaaVt
import Derived.Test.YtdajeabhhkgibaaVd
namespace Go.Proofs.Ytdajeabhhkgibaa
open Go.RowKit
set_option linter.unusedVariables false
set_option linter.unusedSimpArgs false

/-- A filter's bytes. -/
def encF (bits probes : Nat) (ws : Nat → Nat) : List UInt8 := K.vint bits ++ [UInt8.ofNat probes] ++ (K.vint (bits / 8) ++ bytesW ws (bits / 8))
theorem vint_pos (v : Nat) : 0 < (K.vint v).length := by
  by_cases h : v < 128
  · rw [K.vint_lt h]; simp
  · rw [K.vint_ge h]; simp
theorem encF_pos (bits probes : Nat) (ws : Nat → Nat) : 0 < (encF bits probes ws).length := by
  have := vint_pos bits
  unfold encF
  simp only [List.length_append]
  omega
theorem encF_len (bits probes : Nat) (ws : Nat → Nat) (hb : bits ≤ 65536) : (encF bits probes ws).length ≤ 10000 := by
  have h1 := K.vint_10 bits (by omega)
  have h2 := K.vint_10 (bits / 8) (by omega)
  unfold encF
  simp only [List.length_append, List.length_cons, List.length_nil, bytesW_len]
  omega
/-- A Writer that was made since: how far it is. -/
def WG (w W : World) (M : List UInt8) : Prop := K.Wr (w.alloc (.cells #[.slice none 0 0, .int .i64 0] 119)) W 119 w.heap.size none M 0
theorem WG.start (w : World) : WG w (w.alloc (.cells #[.slice none 0 0, .int .i64 0] 119)) [] :=
  K.WS.wr ⟨⟨_, heap_alloc_new _ _, K.ownB_nil _ _, rfl⟩, by simp⟩
theorem WG.below {w W : World} {M : List UInt8} (h : WG w W M) : Below w.heap.size w W := by
  obtain ⟨g', ws, fr, nw⟩ := h
  have b : Below w.heap.size w (w.alloc (.cells #[.slice none 0 0, .int .i64 0] 119)) := (Below.refl _ _).alloc (Nat.le_refl _) _
  exact b.trans ⟨fr.os, fr.tape, fr.output, fr.size, fun k hk => fr.block k (by simp; omega) (by omega) (by simp)⟩
theorem WG.uint {w W : World} {M : List UInt8} (h : WG w W M) (v : Nat) (hv : v < 18446744073709551616) (hM : M.length ≤ 1000000) :
    Calls Try.prog 73 #[.pointer (some ⟨w.heap.size, 0, none⟩), .int .u64 (v : Int)] W fun x w' => x = .returned (.tuple #[]) ∧ WG w w' (M ++ K.vint v) := by
  obtain ⟨g', ws, fr, nw⟩ := h
  refine (K.wuint_any v hv W ws (by omega)).mono ?_
  rintro e W' ⟨rfl, hr⟩
  rw [K.wA_0] at hr
  exact ⟨rfl, K.Wr.step fr nw hr⟩
theorem WG.byte {w W : World} {M : List UInt8} (h : WG w W M) (k : UInt8) (kv : Int) (hk : kv = (k.toNat : Int)) (hM : M.length ≤ 1000000) :
    Calls Try.prog 74 #[.pointer (some ⟨w.heap.size, 0, none⟩), .int .u8 kv] W fun x w' => x = .returned (.tuple #[]) ∧ WG w w' (M ++ [k]) := by
  obtain ⟨g', ws, fr, nw⟩ := h
  refine (K.wbyte_any k kv hk W ws (by omega)).mono ?_
  rintro e W' ⟨rfl, hr⟩
  rw [K.wA_0] at hr
  exact ⟨rfl, K.Wr.step fr nw hr⟩
theorem WG.raw {w W W1 : World} {M B : List UInt8} (h : WG w W M) (hb : Below W.heap.size W W1) (b n c : Nat) (hn : B.length = n) (hB : K.Byt W1 (some ⟨b, 0, none⟩) B) (h1 : W.heap.size ≤ b) (h2 : b < W1.heap.size) (hM : M.length ≤ 1000000) (hBl : B.length ≤ 1000000) :
    Calls Try.prog 75 #[.pointer (some ⟨w.heap.size, 0, none⟩), .slice (some ⟨b, 0, none⟩) n c] W1 fun x w' => x = .returned (.tuple #[]) ∧ WG w w' (M ++ (K.vint n ++ B)) := by
  obtain ⟨g', ws, fr, nw⟩ := K.Wr.post h hb
  obtain ⟨g2, ws2, fr2, nw2⟩ := h
  have hlt : w.heap.size < W.heap.size := by have := fr2.size; simp at this; omega
  have hg : g' = g2 := by
    obtain ⟨v1, e1, _, o1⟩ := ws.ex
    obtain ⟨v2, e2, _, o2⟩ := ws2.ex
    rw [hb.block w.heap.size hlt, e2] at e1
    cases e1
    rw [← o1, ← o2]
  subst hg
  refine (K.wraw_any B (some ⟨b, 0, none⟩) n c W1 ws hn hB (fun ad e => ?_) (fun ad e => by cases e; exact h2) (by omega)).mono ?_
  · cases e
    refine ⟨by show b ≠ _; omega, fun e => ?_⟩
    obtain ⟨v2, e2, o2, o3⟩ := ws2.ex
    have := (World.ownsRow.lt o2 b (by rw [o3, ← e])).2
    omega
  · rintro e W' ⟨rfl, hr⟩
    rw [K.wA_0] at hr
    exact ⟨rfl, K.Wr.step fr nw hr⟩
theorem WG.done {w W : World} {M : List UInt8} (h : WG w W M) (h0 : 0 < M.length) (hM : M.length ≤ 1000000) :
    Calls Try.prog 77 #[.pointer (some ⟨w.heap.size, 0, none⟩)] W fun x w' => ∃ b cv, x = .returned (.tuple #[.slice (some ⟨b, 0, none⟩) M.length cv, .int .i64 0]) ∧ K.OwnB w' W.heap.size (.slice (some ⟨b, 0, none⟩) M.length cv) M ∧ Below W.heap.size W w' := by
  obtain ⟨g', ws, fr, nw⟩ := h
  exact K.wdone0 W ws h0 (by omega)
theorem own_base {w : World} {base b2 e sz n : Nat} {v : Value} {xs : List Value} (h : w.ownsRow base e sz v n xs) (hb : b2 ≤ base) : w.ownsRow b2 e sz v n xs := by
  refine ⟨h.1, ?_⟩
  rcases h.2 with hn | ⟨g, cap, cur, hv, hg, r⟩
  · exact .inl hn
  · exact .inr ⟨g, cap, cur, hv, Nat.le_trans hb hg, r⟩
theorem byt_row {w : World} {b n : Nat} {l : List UInt8} (hl : l.length = n) (h : w.rowIs b 5 n (fun j => .int .u8 ((l.getD j 0).toNat : Int))) : K.Byt w (some ⟨b, 0, none⟩) l :=
  .inr ⟨b, 0, rfl, fun j hj => by rw [Nat.zero_add]; exact h.cell (by omega)⟩
theorem bytesW_get (ws : Nat → Nat) (n j : Nat) (hj : j < n) : (bytesW ws n).getD j 0 = byW ws j := by simp [bytesW, List.getD, hj]
set_option maxRecDepth 100000 in
set_option maxHeartbeats 4000000 in
theorem enc_any (q g bits probes : Nat) (ws : Nat → Nat) (w : World) (hF : FW w q g bits probes ws) (hw : ∀ i, ws i < 18446744073709551616) (hb0 : 8 ≤ bits) (hb1 : bits ≤ 65536) (hp : probes ≤ 16) :
    Calls Try.prog 34 #[.pointer (some ⟨q, 0, none⟩)] w fun e w' => ∃ b cv, e = .returned (.slice (some ⟨b, 0, none⟩) (encF bits probes ws).length cv) ∧ K.OwnB w' w.heap.size (.slice (some ⟨b, 0, none⟩) (encF bits probes ws).length cv) (encF bits probes ws) ∧ Below w.heap.size w w' := by
  have lq : q < w.heap.size := hF.fc.lt
  have H0 := Hid.mk' (WG.start w)
  have HFW : Hid (∀ W, Below w.heap.size w W → FW W q g bits probes ws) := fun W hb => hF.below hb
  have v1 := K.vint_10 bits (by omega)
  have hpb : (probes : Int) = ((UInt8.ofNat probes).toNat : Int) := by rw [UInt8.toNat_ofNat']; omega
  have HPB := Hid.mk' hpb
  clear hpb
  have HE : Hid ([] ++ K.vint bits ++ [UInt8.ofNat probes] ++ (K.vint (bits / 8) ++ bytesW ws (bits / 8)) = encF bits probes ws) := by show _ = _; unfold encF; simp
  have HPos := Hid.mk' (encF_pos bits probes ws)
  have HLen := Hid.mk' (encF_len bits probes ws hb1)
  have HBY : Hid (∀ W, FW W q g bits probes ws → Calls Try.prog 76 #[.slice (some ⟨g, 0, none⟩) ((bits + 63) / 64) ((bits + 63) / 64), .int .i64 ((bits / 8 : Nat) : Int)] W fun e w' => e = .returned (.slice (some ⟨W.heap.size, 0, none⟩) (bits / 8) (bits / 8)) ∧ K.Byt w' (some ⟨W.heap.size, 0, none⟩) (bytesW ws (bits / 8)) ∧ Below W.heap.size W w' ∧ W.heap.size < w'.heap.size) := fun W hW =>
    (bytes_any g ((bits + 63) / 64) (bits / 8) ws W hW.wr hw (by omega) (by omega) (by omega)).mono (by
      rintro e w' ⟨rfl, hr, hb⟩
      exact ⟨rfl, byt_row (bytesW_len _ _) (hr.congr (fun j hj => by rw [bytesW_get ws _ j hj])), hb, hr.lt⟩)
  have c0 : ∀ W, Below w.heap.size w W → W.cell? ⟨q, 0, none⟩ = some (.int .i64 (bits : Int)) := fun W h => (HFW.out W h).fc.c0
  have HC0 := Hid.mk' c0
  have HC1 : Hid (∀ W, Below w.heap.size w W → W.cell? ⟨q, 1, none⟩ = some (.int .i64 (probes : Int))) := fun W h => (HFW.out W h).fc.c1
  have HC2 : Hid (∀ W, Below w.heap.size w W → W.cell? ⟨q, 2, none⟩ = some (.slice (some ⟨g, 0, none⟩) ((bits + 63) / 64) ((bits + 63) / 64))) := fun W h => (HFW.out W h).fc.c2
  have e8 : (bits : Int).tdiv 8 = ((bits / 8 : Nat) : Int) := by rw [Int.tdiv_eq_ediv_of_nonneg (by omega)]; omega
  have e9 : (bits : Int) / 8 = ((bits / 8 : Nat) : Int) := by omega
  have a0 := HC0.out _ H0.out.below
  have HL8 : Hid ((bytesW ws (bits / 8)).length = bits / 8) := bytesW_len _ _
  have h8 : bits / 8 ≤ 8192 := by omega
  clear hF hw c0
  generalize hwid : bytesW ws (bits / 8) = BB at *
  generalize encF bits probes ws = EN at *
  generalize (bits + 63) / 64 = m at *
  generalize bits / 8 = n8 at *
  clear hwid
  have e10 : IntKind.i64.wrap (n8 : Int) = (n8 : Int) := by rw [IntKind.wrap_i64]; omega
  go_enter Try.func34, Try.ntmps34
  go_wp2_with (first
    | (go_at_call 73; refine (H0.out.uint bits (by omega) (by simp)).mono ?_; rintro e W1 ⟨rfl, g1⟩; have G1 := Hid.mk' g1; clear g1; have a1 := HC1.out _ G1.out.below)
    | (go_at_call 74; refine (G1.out.byte (UInt8.ofNat probes) _ HPB.out (by simp; omega)).mono ?_; rintro e W2 ⟨rfl, g2⟩; have G2 := Hid.mk' g2; clear g2; have a2 := HC0.out _ G2.out.below; have a3 := HC2.out _ G2.out.below)
    | fail)
  have BD2 : Hid (Below w.heap.size w W2.drew) := G2.out.below.drew
  have H76 : Hid (Calls Try.prog 76 #[.slice (some ⟨g, 0, none⟩) m m, .int .i64 (n8 : Int)] W2.drew fun e w' => ∃ bb, e = .returned (.slice (some ⟨bb, 0, none⟩) n8 n8) ∧ (w'.cell? ⟨q, 0, none⟩ = some (.int .i64 (bits : Int)) ∧ w'.cell? ⟨q, 2, none⟩ = some (.slice (some ⟨g, 0, none⟩) m m)) ∧ Calls Try.prog 75 #[.pointer (some ⟨w.heap.size, 0, none⟩), .slice (some ⟨bb, 0, none⟩) n8 n8] w' fun x w'' => x = .returned (.tuple #[]) ∧ WG w w'' EN ∧ w''.cell? ⟨q, 0, none⟩ = some (.int .i64 (bits : Int)) ∧ w''.cell? ⟨q, 2, none⟩ = some (.slice (some ⟨g, 0, none⟩) m m)) := by
    refine (HBY.out _ (HFW.out _ BD2.out)).mono ?_
    rintro e W3 ⟨rfl, by3, b3, l3⟩
    have BW3 := BD2.out.trans (b3.mono BD2.out.size)
    refine ⟨_, rfl, ⟨HC0.out _ BW3, HC2.out _ BW3⟩, ?_⟩
    have := G2.out.raw (W1 := W3) (B := BB) ⟨b3.os, b3.tape, b3.output, b3.size, b3.block⟩ W2.drew.heap.size n8 n8 HL8.out by3 (Nat.le_refl _) l3 (by simp; omega) (by rw [HL8.out]; omega)
    rw [HE.out] at this
    refine this.mono ?_
    rintro e W4 ⟨rfl, g4⟩
    exact ⟨rfl, g4, HC0.out _ g4.below, HC2.out _ g4.below⟩
  go_region_held3 (fun w' => w'.cell? ⟨q, 0, none⟩ = some (.int .i64 (bits : Int)) ∧ w'.cell? ⟨q, 2, none⟩ = some (.slice (some ⟨g, 0, none⟩) m m)) (first | assumption | go_keep) (first
    | (go_at_call 76; refine H76.out.mono ?_; rintro e W3 ⟨bb, rfl, ⟨s1, s2⟩, hr⟩; have HRW := Hid.mk' hr; clear hr)
    | (go_at_call 75; refine HRW.out.mono ?_; rintro e W4 ⟨rfl, g4, s3, s4⟩; have G4 := Hid.mk' g4; clear g4)
    | fail)
  all_goals
    have HDn := Hid.mk' (G4.out.done HPos.out (by have := HLen.out; omega))
    go_wp2_with (first
      | (go_at_call 77; refine HDn.out.mono ?_; rintro e W5 ⟨b5, c5, rfl, o5, b5'⟩; have O5 := Hid.mk' o5; have B5 := Hid.mk' b5'; clear o5 b5')
      | fail)
    go_ret
    exact ⟨b5, c5, rfl, own_base O5.out G4.out.below.size, G4.out.below.trans (B5.out.mono G4.out.below.size)⟩
end Go.Proofs.Ytdajeabhhkgibaa
