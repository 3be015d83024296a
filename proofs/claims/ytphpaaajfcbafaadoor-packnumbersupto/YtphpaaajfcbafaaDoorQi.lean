import Derived.Test.YtphpaaajfcbafaaDoorQh
namespace Go.Proofs.YtphpaaajfcbafaaDoor.K
open Go.RowKit
set_option linter.unusedVariables false
set_option linter.unusedSimpArgs false

/-- unRuns, as long as all is well. -/
structure UG (w wr : World) (r : Nat) (a : Option Addr) (cap : Nat) (L : List UInt8) (n : Nat) (s : St) (Z : List Sr) (lr : Bool) (av : Option Addr) (cv : Nat) : Prop where
  rd : RD wr 90 r a cap L s
  bad : s.bad = 0
  own : OwnS wr w.heap.size (.slice av Z.length cv) Z
  nr : (Value.slice av Z.length cv).ownBlock ≠ some r
  nums : ∀ z ∈ Z, Nums wr z.a z.X ∧ (∀ ad, z.a = some ad → 0 < z.X.length → ad.block ≠ r ∧ some ad.block ≠ (Value.slice av Z.length cv).ownBlock) ∧ 0 < z.X.length ∧ z.X.length ≤ n
  len : (flat Z).length ≤ n
  few : Z.length ≤ (flat Z).length
  lst : Z = [] ∨ ∃ Z' z, Z = Z' ++ [z] ∧ LP (flat Z) lr (some (z.row, z.X.getD (z.X.length - 1) 0))
  eq : un L n s (flat Z) lr = un L n ⟨0, 0, 0⟩ [] false
  bel : Below w.heap.size w wr
  rb : w.heap.size ≤ r
  ab : ∀ ad, a = some ad → ad.block < wr.heap.size ∧ some ad.block ≠ (Value.slice av Z.length cv).ownBlock
theorem UG.ah {w wr : World} {r : Nat} {a : Option Addr} {cap : Nat} {L : List UInt8} {n : Nat} {s : St} {Z : List Sr} {lr : Bool} {av : Option Addr} {cv : Nat} (h : UG w wr r a cap L n s Z lr av cv) (hn : n ≤ 17592186044416) :
    ∃ prev, AH wr r av Z.length prev ∧ LP (flat Z) lr prev := by
  rcases h.lst with rfl | ⟨Z', z, rfl, hP⟩
  · exact ⟨none, .inl ⟨rfl, rfl⟩, .inl ⟨rfl, rfl⟩⟩
  · refine ⟨_, .inr ?_, hP⟩
    obtain ⟨a1, c1, e1, hc⟩ := h.own.open
    obtain ⟨g, e2, e3, hcell⟩ := hc Z'.length z (by simp)
    simp only [Value.slice.injEq] at e1
    obtain ⟨rfl, _, rfl⟩ := e1
    obtain ⟨n1, n2, n3, n4⟩ := h.nums z (by simp)
    have hz := h.few
    have hz2 := h.len
    simp at hz hz2
    refine ⟨g, Z'.length, z.row, z.cnt, z.a, z.cap, z.X, e2, by simp, ⟨?_, ?_, ?_, n1⟩, n3, by omega, by have h1 := h.few; have h2 := h.len; rw [List.length_append] at h1; omega, rfl, fun e => h.nr (by rw [e3, e]), fun ad e h0 => (n2 ad e h0).1⟩
    · exact hcell 0 (by decide)
    · exact hcell 1 (by decide)
    · exact hcell 2 (by decide)
theorem Nums.grown {w w' : World} {a : Option Addr} {X : List Nat} {o : Option Nat} (h : Nums w a X) (hg : w.grownBy w' o) (hr : ∀ ad, a = some ad → 0 < X.length → some ad.block ≠ o) : Nums w' a X := by
  rcases h with rfl | ⟨b, off, rfl, hc⟩
  · exact .inl rfl
  · refine .inr ⟨b, off, rfl, fun j hj => ?_⟩
    have h1 := hc j hj
    have h2 := hg.block b (block_lt_of_cell h1) (hr ⟨b, off, none⟩ rfl (by omega))
    rw [← h1]
    unfold World.cell?
    rw [h2]
theorem nums_lt {w : World} {a : Option Addr} {X : List Nat} (h : Nums w a X) (h0 : 0 < X.length) : ∀ ad, a = some ad → ad.block < w.heap.size := by
  obtain ⟨b, off, e, hb, _⟩ := h.open h0
  intro ad e2
  rw [e] at e2
  cases e2
  exact hb
variable {w wr W1 W2 : World} {r cap : Nat} {a : Option Addr} {L : List UInt8} {n : Nat} {s s' : St} {Z : List Sr} {lr : Bool} {av : Option Addr} {cv : Nat}
theorem OwnS.lt {w : World} {base : Nat} {v : Value} {Z : List Sr} (h : OwnS w base v Z) (k : Nat) (e : v.ownBlock = some k) : base ≤ k ∧ k < w.heap.size := World.ownsRow.lt h k e
theorem un_bel (h : UG w wr r a cap L n s Z lr av cv) (hf : Fr r wr W1) (gr : W1.grownBy W2 (Value.slice av Z.length cv).ownBlock) : Below w.heap.size w W2 := by
  have hz := h.bel.size
  refine h.bel.trans ⟨gr.os.trans hf.os, gr.tape.trans hf.tape, gr.output.trans hf.output, Nat.le_trans hf.size gr.size, fun k hk => ?_⟩
  rw [gr.block k (by have := hf.size; omega) (fun e => by have := (h.own.lt k e.symm).1; omega), hf.block k (by omega) (by have := h.rb; omega)]
theorem un_rd (h : UG w wr r a cap L n s Z lr av cv) (hf : Fr r wr W1) (rd1 : RD W1 90 r a cap L s') (gr : W1.grownBy W2 (Value.slice av Z.length cv).ownBlock) : RD W2 90 r a cap L s' := by
  have hz := hf.size
  have hr := h.rd.lt
  refine rd1.keep (gr.block r (by omega) (fun e => h.nr e.symm)) (fun ad e => gr.block _ (by have := (h.ab ad e).1; omega) (h.ab ad e).2)
theorem UG.bads {prev : Option (Bool × Nat)} {row : Bool} {cnt : Int} {X : List Nat} (h : UG w wr r a cap L n s Z lr av cv) (hk : s.k < L.length) (hP : LP (flat Z) lr prev) (hps : PS L (n - (flat Z).length) s prev row cnt X s') (hb : s'.bad ≠ 0) : un L n ⟨0, 0, 0⟩ [] false = ([], s'.bad, s'.wh) := by
  rw [← h.eq]
  rcases hps with ⟨p1, p2, p3⟩ | ⟨p1, p2, p3, p4, p5⟩
  · rw [un_fault hk p1, p2, p3]
  · obtain ⟨q1, q2, q3, q4, q5, q6⟩ := piece_of (Nat.le_of_lt hk) p1 p2 p3 p4
    have hf := fits_nof (most := n - (flat Z).length) hP p2 q2 q6
    rcases p5 with ⟨f1, f2⟩ | ⟨f1, f2, f3⟩
    · rw [f2] at hb
      exact absurd p1 hb
    · rw [un_form hk p1 (by rw [f1] at hf; simpa using hf.symm), f2, f3]
theorem UG.next {prev : Option (Bool × Nat)} {row : Bool} {cnt : Int} {X : List Nat} {a1 : Option Addr} {c1 : Nat} (h : UG w wr r a cap L n s Z lr av cv) (hk : s.k < L.length) (hP : LP (flat Z) lr prev) (hps : PS L (n - (flat Z).length) s prev row cnt X s') (hb : s'.bad = 0)
    (rd1 : RD W1 90 r a cap L s') (hf : Fr r wr W1) (hn1 : Nums W1 a1 X) (ha1 : ∀ ad, a1 = some ad → 0 < X.length → wr.heap.size ≤ ad.block) (gr : W1.grownBy W2 (Value.slice av Z.length cv).ownBlock) {v2 : Value}
    (own2 : OwnS W2 w.heap.size v2 (Z ++ [⟨row, (rInt L s).1.natAbs, a1, c1, X⟩])) (hblk : v2.ownBlock = (Value.slice av Z.length cv).ownBlock ∨ ∃ q, v2.ownBlock = some q ∧ W1.heap.size ≤ q) (hblk2 : ∀ ad, a1 = some ad → 0 < X.length → some ad.block ≠ v2.ownBlock) :
    cnt = ((rInt L s).1.natAbs : Int) ∧ (pcL L (n - (flat Z).length) s).length = (rInt L s).1.natAbs ∧ ∃ av2 cv2, v2 = .slice av2 (Z.length + 1) cv2 ∧ UG w W2 r a cap L n s' (Z ++ [⟨row, (rInt L s).1.natAbs, a1, c1, X⟩]) (pcR L s) av2 cv2 ∧ flat (Z ++ [⟨row, (rInt L s).1.natAbs, a1, c1, X⟩]) = flat Z ++ pcL L (n - (flat Z).length) s ∧ s.k < s'.k := by
  rcases hps with ⟨p1, p2, p3⟩ | ⟨p1, p2, p3, p4, p5⟩
  · rw [p2] at hb
    exact absurd hb p1
  rcases p5.symm with ⟨f1, f2, f3⟩ | ⟨f1, f2⟩
  · rw [f2] at hb
    cases hb
  obtain ⟨q1, q2, q3, q4, q5, q6⟩ := piece_of (Nat.le_of_lt hk) p1 p2 p3 p4
  have hfn := fits_nof (most := n - (flat Z).length) hP p2 q2 q6
  have hl := pcL_len (Nat.le_of_lt hk) p1
  have hz := hf.size
  have hr := h.rd.lt
  have hgz := gr.size
  have hflat : flat (Z ++ [⟨row, (rInt L s).1.natAbs, a1, c1, X⟩]) = flat Z ++ pcL L (n - (flat Z).length) s := by
    rw [flat_app, flat_one]
    congr 1
  obtain ⟨av2, cv2, e2, _⟩ := own2.open
  have hlen : (Z ++ [(⟨row, (rInt L s).1.natAbs, a1, c1, X⟩ : Sr)]).length = Z.length + 1 := by simp
  rw [hlen] at e2
  subst e2
  refine ⟨p3, hl.1, av2, cv2, rfl, ?_, hflat, by rw [f2]; exact (pc_good (Nat.le_of_lt hk) p1).2.1⟩
  have hob : ∀ k, (Value.slice av Z.length cv).ownBlock = some k → w.heap.size ≤ k ∧ k < wr.heap.size := fun k e => h.own.lt k e
  refine ⟨un_rd h hf rd1 gr, hb, by rw [hlen]; exact own2, ?_, ?_, ?_, ?_, ?_, ?_, un_bel h hf gr, h.rb, ?_⟩
  · rw [hlen]
    rcases hblk with e | ⟨q, e, hq⟩
    · rw [e]; exact h.nr
    · rw [e]; intro e3; cases e3; omega
  · intro z hz1
    rw [hlen]
    rw [List.mem_append, List.mem_singleton] at hz1
    rcases hz1 with hz1 | rfl
    · obtain ⟨n1, n2, n3, n4⟩ := h.nums z hz1
      have hlt := nums_lt n1 n3
      refine ⟨(n1.fr hf (fun ad e h0 => (n2 ad e h0).1)).grown gr (fun ad e h0 => (n2 ad e h0).2), fun ad e h0 => ⟨(n2 ad e h0).1, ?_⟩, n3, n4⟩
      rcases hblk with e1 | ⟨q, e1, hq⟩
      · rw [e1]; exact (n2 ad e h0).2
      · rw [e1]; intro e3; cases e3; have := hlt ad e; omega
    · refine ⟨hn1.grown gr (fun ad e h0 e3 => ?_), fun ad e h0 => ⟨?_, hblk2 ad e h0⟩, q4, by show X.length ≤ n; omega⟩
      · have := (hob _ e3.symm).2
        have := ha1 ad e h0
        omega
      · have := ha1 ad e h0
        omega
  · rw [hflat, List.length_append]
    have := h.len
    omega
  · rw [hflat, hlen, List.length_append]
    have := h.few
    omega
  · refine .inr ⟨Z, _, rfl, .inr ⟨?_, ?_⟩⟩
    · rw [hflat]
      intro e
      have := congrArg List.length e
      rw [List.length_append] at this
      simp at this
      have h0 := hl.2.1
      rw [this.2] at h0
      simp at h0
    · rw [hflat, getD_app_last _ _ hl.2.1, ← q3, p2]
  · rw [hflat, ← h.eq, un_step hk p1 (by rw [f1] at hfn; intro e; rw [e] at hfn; cases hfn), f2]
  · intro ad e
    rw [hlen]
    obtain ⟨b1, b2⟩ := h.ab ad e
    refine ⟨by omega, ?_⟩
    rcases hblk with e1 | ⟨q, e1, hq⟩
    · rw [e1]; exact b2
    · rw [e1]; intro e3; cases e3; omega
end Go.Proofs.YtphpaaajfcbafaaDoor.K
