import Derived.WalkKit
import Derived.Laws.BitsAllLaws
import Derived.Test.YtpmdlhlojifoeaaDoorRows
import Derived.ProofKit
import Derived.OpenShut
import Derived.ChangeOld
import Derived.Below
import Derived.LaidMore
import Derived.Lib.LaidTab
import Derived.Lib.LaidU8
import Derived.Stop.Joined
import Derived.SizedLaws
import Derived.Laws.Rows
import Derived.Deep.WholeRow
import Derived.Deep.MidRow
import Derived.WalkLawsBesides
import Derived.WalkSpells
import Derived.Deep.QuietTactic
import Derived.BigQuiet
import Derived.ChangeKeysEq
namespace Go.Proofs.YtpmdlhlojifoeaaDoor
open Go.RowKit
set_option linter.unusedVariables false
set_option linter.unusedSimpArgs false

/-- A row of bytes as cells. -/
def bs (h : List UInt8) : Array Value := (h.map (fun b => Value.int .u8 (b.toNat : Int))).toArray
/-- A byte of a list, as a number. -/
def at8 (h : List UInt8) (k : Nat) : Int := ((h.getD k 0).toNat : Int)
/-- A number of 32 bits, as an integer. -/
def U (x : UInt32) : Int := (x.toNat : Int)
/-- A row of such numbers as cells. -/
def ws (l : List UInt32) : Array Value := (l.map (fun x => Value.int .u32 (U x))).toArray

theorem U_lo (x : UInt32) : 0 ≤ U x := by unfold U; omega
theorem U_hi (x : UInt32) : U x < 4294967296 := by unfold U; have := x.toNat_lt; omega
theorem U_inj {a b : UInt32} (h : U a = U b) : a = b := by unfold U at h; exact UInt32.toNat_inj.1 (by omega)

theorem at8_lo (h : List UInt8) (k : Nat) : 0 ≤ at8 h k := by unfold at8; omega
theorem at8_hi (h : List UInt8) (k : Nat) : at8 h k ≤ 255 := by unfold at8; have := (h.getD k 0).toNat_lt; omega
theorem bs_size (h : List UInt8) : (bs h).size = h.length := by simp [bs]
theorem bs_get (h : List UInt8) (k : Nat) (hk : k < h.length) : (bs h)[k]? = some (.int .u8 (at8 h k)) := by
  simp [bs, at8, List.getElem?_eq_getElem hk]
theorem bs_set (h : List UInt8) (k : Nat) (v : UInt8) : (bs h).setIfInBounds k (.int .u8 (v.toNat : Int)) = bs (h.set k v) := by
  simp [bs, List.map_set]
theorem bs_one (l : List UInt8) : (bs l).all (·.oneCell') = true := by
  simp [bs, Value.oneCell']
theorem ws_size (h : List UInt32) : (ws h).size = h.length := by simp [ws]
theorem ws_get (h : List UInt32) (k : Nat) (hk : k < h.length) : (ws h)[k]? = some (.int .u32 (U (h.getD k 0))) := by
  simp [ws, List.getElem?_eq_getElem hk]
theorem ws_set (h : List UInt32) (k : Nat) (v : UInt32) : (ws h).setIfInBounds k (.int .u32 (U v)) = ws (h.set k v) := by
  simp [ws, List.map_set]
theorem ws_one (l : List UInt32) : (ws l).all (·.oneCell') = true := by
  simp [ws, Value.oneCell']

theorem bits_xor (a b : UInt32) : bits .xor .u32 (U a) (U b) = U (a ^^^ b) := by
  unfold U
  rw [u32_xor_nat _ _ a.toNat_lt b.toNat_lt, UInt32.toNat_xor]
theorem bits_and (a b : UInt32) : bits .and .u32 (U a) (U b) = U (a &&& b) := by
  unfold U
  rw [u32_and_nat _ _ a.toNat_lt b.toNat_lt, UInt32.toNat_and]
theorem bits_or (a b : UInt32) : bits .or .u32 (U a) (U b) = U (a ||| b) := by
  unfold U
  rw [u32_or_nat _ _ a.toNat_lt b.toNat_lt, UInt32.toNat_or]

theorem ret_int {k : IntKind} {a b : Int} (h : a = b) : Ending.returned (.int k a) = .returned (.int k b) := by rw [h]
theorem ret_bool {a b : Bool} (h : a = b) : Ending.returned (.bool a) = .returned (.bool b) := by rw [h]

/-- A slice of bytes that lies in memory. -/
def Byt (w : World) (a : Option Addr) (l : List UInt8) : Prop :=
  l = [] ∨ ∃ b off, a = some ⟨b, off, none⟩ ∧ ∀ j, j < l.length → w.cell? ⟨b, off + j, none⟩ = some (.int .u8 (at8 l j))

/-! ### The sum -/
def nibs : List UInt32 := [0x00000000, 0x1db71064, 0x3b6e20c8, 0x26d930ac, 0x76dc4190, 0x6b6b51f4, 0x4db26158, 0x5005713c, 0xedb88320, 0xf00f9344, 0xd6d6a3e8, 0xcb61b38c, 0x9b64c2b0, 0x86d3d2d4, 0xa00ae278, 0xbdbdf21c]
def nib (r : UInt32) : UInt32 := nibs.getD (r.toNat % 16) 0
/-- Half a byte's step. -/
def half (r : UInt32) : UInt32 := (r >>> 4) ^^^ nib r
theorem and15 (x : UInt32) : bits .and .u32 (U x) 15 = U x % 16 := by
  have := U_lo x
  have := U_hi x
  rw [u32_and _ _ (by omega) (by omega) (by decide) (by decide)]
  show (((U x).toNat &&& 15 : Nat) : Int) = _
  rw [nat_mask4]
  omega
theorem xor_max (x : UInt32) : bits .xor .u32 IntKind.u32.max (U x) = U (x ^^^ 0xffffffff) := by
  have e : IntKind.u32.max = U 0xffffffff := by decide
  rw [e, bits_xor, UInt32.xor_comm]
/-- A byte's step. -/
def crcStep (r : UInt32) (v : UInt8) : UInt32 := half (half (r ^^^ UInt32.ofNat v.toNat))
def crcReg (l : List UInt8) : UInt32 := l.foldl crcStep 0xffffffff
def crc (l : List UInt8) : UInt32 := crcReg l ^^^ 0xffffffff

theorem U_shr4 (r : UInt32) : (U r : Int) / (16 : Int) = U (r >>> 4) := by
  unfold U
  rw [UInt32.toNat_shiftRight]
  simp [Nat.shiftRight_eq_div_pow]
theorem U_byte (v : UInt8) : ((v.toNat : Nat) : Int) = U (UInt32.ofNat v.toNat) := by
  unfold U
  rw [UInt32.toNat_ofNat']
  have := v.toNat_lt
  omega
theorem U_and15 (r : UInt32) : (U r % 16).toNat = r.toNat % 16 := by unfold U; omega
theorem crcReg_take (l : List UInt8) (k : Nat) (hk : k < l.length) : crcReg (l.take (k + 1)) = crcStep (crcReg (l.take k)) (l.getD k 0) := by
  unfold crcReg
  rw [List.take_succ_eq_append_getElem hk, List.foldl_append]
  simp [List.getElem?_eq_getElem hk]
end Go.Proofs.YtpmdlhlojifoeaaDoor

namespace Go.Proofs.YtpmdlhlojifoeaaDoor
open Go.ChangeShapes Go.WideShapes Go.ChangeAt Go.RowKit
set_option linter.unusedVariables false
set_option linter.unusedSimpArgs false

theorem own : ownKnob Tryd.prog.godebug = none := by kernel_rfl
theorem laidOut : laidOutB Tryd.prog = true := by kernel_rfl
theorem bytes5 : Tryd.prog.bytesOf 5 = 1 := by kernel_rfl

/-- What a slice of bytes that came in gives a walk. -/
theorem view {H : Type} {enc : TypeId × Value → H} {W : World} {a : Option Addr} {len cap : Nat} {d : DataW H} {p : List MemPlace}
    (h : DataW.Trod enc Tryd.prog W 0 (fun _ => true) true 26 (.slice a len cap) d p) :
    ∃ L : List UInt8, L.length = len ∧ len ≤ cap ∧ (0 < len → ∃ b off, a = some ⟨b, off, none⟩ ∧ ∀ j, j < len → W.cell? ⟨b, off + j, none⟩ = some (.int .u8 (at8 L j))) ∧
      (d = .nil ∧ len = 0 ∨ ∃ el sp, d = .slice el sp ∧ el.length = len) := by
  obtain ⟨fuel, hf⟩ := h
  rcases open_ints Tryd.underlying26 Tryd.underlying5 (by kernel_rfl) hf with ⟨hcs, hx⟩ | ⟨x, l, c, zs, hcs, _, hl, hm, hz, hx, hcell, hwz⟩
  · simp [Value.cells] at hcs
    obtain ⟨rfl, rfl, rfl⟩ := hcs
    simp only [Prod.mk.injEq] at hx
    exact ⟨[], rfl, Nat.le_refl _, fun h => by omega, .inl ⟨hx.1, rfl⟩⟩
  · simp [Value.cells] at hcs
    obtain ⟨rfl, rfl, rfl⟩ := hcs
    have hz' : zs.length = cap := by simpa using hz
    simp only [Prod.mk.injEq] at hx
    refine ⟨(zs.take len).map (fun z => UInt8.ofNat z.toNat), by simp; omega, hl, fun h0 => ?_, .inr ⟨_, _, hx.1, by simp [lits]; omega⟩⟩
    obtain ⟨b, off, spot⟩ := x
    have hc := hcell 0 (by omega)
    have hspot : spot = none := by simpa [Addr.add] using World.cell?_spot hc
    subst hspot
    refine ⟨b, off, rfl, fun j hj => ?_⟩
    have h1 := hcell j (by omega)
    have e : (⟨b, off, none⟩ : Addr).add j = ⟨b, off + j, none⟩ := by unfold Addr.add; split <;> simp_all
    rw [e] at h1
    rw [h1]
    have hb := bounds_u8 (hwz (zs.getD j 0) (by rw [List.getD_eq_getElem?_getD, List.getElem?_eq_getElem (by omega)]; exact List.getElem_mem _))
    have hlen : j < zs.length := by omega
    simp only [at8, List.getD_eq_getElem?_getD, List.getElem?_map, List.getElem?_take, if_pos hj, List.getElem?_eq_getElem hlen, Option.map_some, Option.getD_some] at hb ⊢
    rw [UInt8.toNat_ofNat']
    simp only [Option.some.injEq, Value.int.injEq, true_and]
    omega
end Go.Proofs.YtpmdlhlojifoeaaDoor

namespace Go.Proofs.YtpmdlhlojifoeaaDoor
open Go.RowKit
set_option linter.unusedVariables false
set_option linter.unusedSimpArgs false

/-- Turned right. -/
def rotr (x : UInt32) (r : Nat) : UInt32 := (x <<< UInt32.ofNat (32 - r)) ||| (x >>> UInt32.ofNat r)
def shl (x : UInt32) (r : Nat) : UInt32 := x <<< UInt32.ofNat r
def shr (x : UInt32) (r : Nat) : UInt32 := x >>> UInt32.ofNat r

theorem U_shl (x : UInt32) (r : Nat) (h : r < 32) : (U x * ((2 ^ r : Nat) : Int)) % 4294967296 = U (shl x r) := by
  unfold U shl
  rw [UInt32.toNat_shiftLeft, UInt32.toNat_ofNat', Nat.shiftLeft_eq]
  have e : r % 2 ^ 32 % 32 = r := by omega
  rw [e, Int.natCast_emod, Int.natCast_mul]
  rfl
theorem U_shr (x : UInt32) (r : Nat) (h : r < 32) : U x / ((2 ^ r : Nat) : Int) = U (shr x r) := by
  unfold U shr
  rw [UInt32.toNat_shiftRight, UInt32.toNat_ofNat', Nat.shiftRight_eq_div_pow]
  have e : r % 2 ^ 32 % 32 = r := by omega
  rw [e, Int.natCast_ediv]
theorem wrapU (n : Int) : IntKind.u32.wrap n = n % 4294967296 := IntKind.wrap_u32' n
theorem U_add (a b : UInt32) : (U a + U b) % 4294967296 = U (a + b) := by
  unfold U
  rw [UInt32.toNat_add, Int.natCast_emod, Int.natCast_add]
  rfl
theorem U_addw (a b : UInt32) : IntKind.u32.wrap (U a + U b) = U (a + b) := by rw [wrapU, U_add]
theorem shl24 (x : UInt32) : (U x * (16777216 : Int)) % 4294967296 = U (shl x 24) := U_shl x 24 (by decide)
theorem shl16 (x : UInt32) : (U x * (65536 : Int)) % 4294967296 = U (shl x 16) := U_shl x 16 (by decide)
theorem shl8 (x : UInt32) : (U x * (256 : Int)) % 4294967296 = U (shl x 8) := U_shl x 8 (by decide)
theorem shl24w (x : UInt32) : IntKind.u32.wrap (U x * (16777216 : Int)) = U (shl x 24) := by rw [wrapU]; exact shl24 x
theorem shl16w (x : UInt32) : IntKind.u32.wrap (U x * (65536 : Int)) = U (shl x 16) := by rw [wrapU]; exact shl16 x
theorem shl8w (x : UInt32) : IntKind.u32.wrap (U x * (256 : Int)) = U (shl x 8) := by rw [wrapU]; exact shl8 x
theorem shr3 (x : UInt32) : U x / (8 : Int) = U (shr x 3) := U_shr x 3 (by decide)
theorem shr10 (x : UInt32) : U x / (1024 : Int) = U (shr x 10) := U_shr x 10 (by decide)
theorem rot_or (x : UInt32) (r : Nat) (p q : Int) (h1 : 1 ≤ r) (h : r < 32) (hp : p = ((2 ^ (32 - r) : Nat) : Int)) (hq : q = ((2 ^ r : Nat) : Int)) :
    bits .or .u32 ((U x * p) % 4294967296) (U x / q) = U (rotr x r) := by
  subst hp hq
  rw [U_shl x (32 - r) (by omega), U_shr x r h, bits_or]
  rfl
end Go.Proofs.YtpmdlhlojifoeaaDoor

namespace Go.Proofs.YtpmdlhlojifoeaaDoor
open Go.RowKit
section
variable {P : Program}

/-- 'alloc ty', its zero value by a name. -/
theorem wpList_alloc_row {ops : Array Oper} {rest : List Oper} {o : Oper} {a : Act} {w : World} {Q : Exit → Act → World → Prop} (hgd : o.guard = none) (ty : TypeId) (ho : o.op = .alloc ty)
    (Z : Array Value) (hz : (zeroValue ty).run P w = .ok (.agg Z) w)
    (h : wpList P ops Q rest (a.put o.dst (.pointer (some ⟨w.heap.size, 0, none⟩))) (w.alloc (.cells Z ty))) : wpList P ops Q (o :: rest) a w :=
  wpList_plain hgd fun _ hK => by
    unfold Oper.wp execOp
    simp only [ho, Instr.alloc, newVar, newRow, newObj, Sem.run_bind, hz, Result.andThen_ok, Value.cells]
    exact hK _ _ h

/-- 'build ty' of nothing: its zero value by a name. -/
theorem wpList_build_row {ops : Array Oper} {rest : List Oper} {o : Oper} {a : Act} {w : World} {Q : Exit → Act → World → Prop} (hgd : o.guard = none) (ty : TypeId) (ho : o.op = .build ty #[])
    (Z : Array Value) (hz : P.built ty [] = some Z)
    (h : wpList P ops Q rest (a.put o.dst (.agg Z)) w) : wpList P ops Q (o :: rest) a w := by
  refine wpList_build hgd ty #[] ho (by simp [hz]) ?_
  simpa [hz] using h

theorem wpList_wanted {ops : Array Oper} {rest : List Oper} {o : Oper} {a : Act} {w : World} {Q : Exit → Act → World → Prop} (hw : Region.wanted o (yielded ops a.tmps) = true)
    (h : ∀ K : Act → World → Prop, (∀ a w, wpList P ops Q rest a w → K a w) → o.wp P a w K Q) : wpList P ops Q (o :: rest) a w :=
  wpList_step fun K hK => by rw [if_pos hw]; exact h K hK

/-- A whole array out of a block, guarded or not. -/
theorem wpList_load_arr {ops : Array Oper} {rest : List Oper} {o : Oper} {a : Act} {w : World} {Q : Exit → Act → World → Prop} (hw : Region.wanted o (yielded ops a.tmps) = true) (ty : TypeId) (x : Operand) (ho : o.op = .load ty x)
    (g : Nat) (hx : a.eval x = .pointer (some ⟨g, 0, none⟩)) (t : TypeId) (cs : Array Value) (fr : Nat × Nat) (d : TypeDesc) (hg : w.heap[g]? = some (.cells cs t fr))
    (hu : P.underlying ty = some d) (hd : (match d with | .struct _ | .array _ _ => true | _ => false) = true) (hi : (P.info? ty).map (·.size) = some cs.size)
    (h : wpList P ops Q rest (a.put o.dst (.agg cs)) w) : wpList P ops Q (o :: rest) a w :=
  wpList_wanted hw fun _ hK => wp_load_row ty x ho g hx t cs fr d hg hu hd hi (hK _ _ h)
end
end Go.Proofs.YtpmdlhlojifoeaaDoor

namespace Go.Proofs.YtpmdlhlojifoeaaDoor
open Go.RowKit
set_option linter.unusedVariables false
set_option linter.unusedSimpArgs false
set_option maxHeartbeats 400000 in
theorem rot2 (x : UInt32) (w : World) : Calls Tryd.prog 42 #[.int .u32 (U x), .int .i64 (-2)] w fun e w' => e = .returned (.int .u32 (U (rotr x 2))) ∧ w' = w := by
  have b0 := U_lo x
  have b1 := U_hi x
  have hk : bits BinOp.and IntKind.u64 (IntKind.u64.wrap (-2)) 31 = 30 := by decide
  go_enter Tryd.func42, Tryd.ntmps42
  go_wp2
  go_ret
  exact ⟨ret_int (rot_or x 2 _ _ (by decide) (by decide) rfl rfl), rfl⟩
set_option maxHeartbeats 400000 in
theorem rot6 (x : UInt32) (w : World) : Calls Tryd.prog 42 #[.int .u32 (U x), .int .i64 (-6)] w fun e w' => e = .returned (.int .u32 (U (rotr x 6))) ∧ w' = w := by
  have b0 := U_lo x
  have b1 := U_hi x
  have hk : bits BinOp.and IntKind.u64 (IntKind.u64.wrap (-6)) 31 = 26 := by decide
  go_enter Tryd.func42, Tryd.ntmps42
  go_wp2
  go_ret
  exact ⟨ret_int (rot_or x 6 _ _ (by decide) (by decide) rfl rfl), rfl⟩
set_option maxHeartbeats 400000 in
theorem rot7 (x : UInt32) (w : World) : Calls Tryd.prog 42 #[.int .u32 (U x), .int .i64 (-7)] w fun e w' => e = .returned (.int .u32 (U (rotr x 7))) ∧ w' = w := by
  have b0 := U_lo x
  have b1 := U_hi x
  have hk : bits BinOp.and IntKind.u64 (IntKind.u64.wrap (-7)) 31 = 25 := by decide
  go_enter Tryd.func42, Tryd.ntmps42
  go_wp2
  go_ret
  exact ⟨ret_int (rot_or x 7 _ _ (by decide) (by decide) rfl rfl), rfl⟩
set_option maxHeartbeats 400000 in
theorem rot11 (x : UInt32) (w : World) : Calls Tryd.prog 42 #[.int .u32 (U x), .int .i64 (-11)] w fun e w' => e = .returned (.int .u32 (U (rotr x 11))) ∧ w' = w := by
  have b0 := U_lo x
  have b1 := U_hi x
  have hk : bits BinOp.and IntKind.u64 (IntKind.u64.wrap (-11)) 31 = 21 := by decide
  go_enter Tryd.func42, Tryd.ntmps42
  go_wp2
  go_ret
  exact ⟨ret_int (rot_or x 11 _ _ (by decide) (by decide) rfl rfl), rfl⟩
set_option maxHeartbeats 400000 in
theorem rot13 (x : UInt32) (w : World) : Calls Tryd.prog 42 #[.int .u32 (U x), .int .i64 (-13)] w fun e w' => e = .returned (.int .u32 (U (rotr x 13))) ∧ w' = w := by
  have b0 := U_lo x
  have b1 := U_hi x
  have hk : bits BinOp.and IntKind.u64 (IntKind.u64.wrap (-13)) 31 = 19 := by decide
  go_enter Tryd.func42, Tryd.ntmps42
  go_wp2
  go_ret
  exact ⟨ret_int (rot_or x 13 _ _ (by decide) (by decide) rfl rfl), rfl⟩
set_option maxHeartbeats 400000 in
theorem rot17 (x : UInt32) (w : World) : Calls Tryd.prog 42 #[.int .u32 (U x), .int .i64 (-17)] w fun e w' => e = .returned (.int .u32 (U (rotr x 17))) ∧ w' = w := by
  have b0 := U_lo x
  have b1 := U_hi x
  have hk : bits BinOp.and IntKind.u64 (IntKind.u64.wrap (-17)) 31 = 15 := by decide
  go_enter Tryd.func42, Tryd.ntmps42
  go_wp2
  go_ret
  exact ⟨ret_int (rot_or x 17 _ _ (by decide) (by decide) rfl rfl), rfl⟩
set_option maxHeartbeats 400000 in
theorem rot18 (x : UInt32) (w : World) : Calls Tryd.prog 42 #[.int .u32 (U x), .int .i64 (-18)] w fun e w' => e = .returned (.int .u32 (U (rotr x 18))) ∧ w' = w := by
  have b0 := U_lo x
  have b1 := U_hi x
  have hk : bits BinOp.and IntKind.u64 (IntKind.u64.wrap (-18)) 31 = 14 := by decide
  go_enter Tryd.func42, Tryd.ntmps42
  go_wp2
  go_ret
  exact ⟨ret_int (rot_or x 18 _ _ (by decide) (by decide) rfl rfl), rfl⟩
set_option maxHeartbeats 400000 in
theorem rot19 (x : UInt32) (w : World) : Calls Tryd.prog 42 #[.int .u32 (U x), .int .i64 (-19)] w fun e w' => e = .returned (.int .u32 (U (rotr x 19))) ∧ w' = w := by
  have b0 := U_lo x
  have b1 := U_hi x
  have hk : bits BinOp.and IntKind.u64 (IntKind.u64.wrap (-19)) 31 = 13 := by decide
  go_enter Tryd.func42, Tryd.ntmps42
  go_wp2
  go_ret
  exact ⟨ret_int (rot_or x 19 _ _ (by decide) (by decide) rfl rfl), rfl⟩
set_option maxHeartbeats 400000 in
theorem rot22 (x : UInt32) (w : World) : Calls Tryd.prog 42 #[.int .u32 (U x), .int .i64 (-22)] w fun e w' => e = .returned (.int .u32 (U (rotr x 22))) ∧ w' = w := by
  have b0 := U_lo x
  have b1 := U_hi x
  have hk : bits BinOp.and IntKind.u64 (IntKind.u64.wrap (-22)) 31 = 10 := by decide
  go_enter Tryd.func42, Tryd.ntmps42
  go_wp2
  go_ret
  exact ⟨ret_int (rot_or x 22 _ _ (by decide) (by decide) rfl rfl), rfl⟩
set_option maxHeartbeats 400000 in
theorem rot25 (x : UInt32) (w : World) : Calls Tryd.prog 42 #[.int .u32 (U x), .int .i64 (-25)] w fun e w' => e = .returned (.int .u32 (U (rotr x 25))) ∧ w' = w := by
  have b0 := U_lo x
  have b1 := U_hi x
  have hk : bits BinOp.and IntKind.u64 (IntKind.u64.wrap (-25)) 31 = 7 := by decide
  go_enter Tryd.func42, Tryd.ntmps42
  go_wp2
  go_ret
  exact ⟨ret_int (rot_or x 25 _ _ (by decide) (by decide) rfl rfl), rfl⟩
def turnE (x : UInt32) : UInt32 := rotr x 6 ^^^ rotr x 11 ^^^ rotr x 25
def turnA (x : UInt32) : UInt32 := rotr x 2 ^^^ rotr x 13 ^^^ rotr x 22
attribute [local go_sem] bits_xor
set_option maxHeartbeats 400000 in
theorem turnE_any (x : UInt32) (w : World) : Calls Tryd.prog 41 #[.int .u32 (U x), .int .i64 6, .int .i64 11, .int .i64 25] w fun e w' => e = .returned (.int .u32 (U (turnE x))) ∧ w' = w := by
  go_enter Tryd.func41, Tryd.ntmps41
  go_wp2_with fail
  refine (rot6 _ _).mono ?_
  rintro e w' ⟨rfl, rfl⟩
  go_wp2_with fail
  refine (rot11 _ _).mono ?_
  rintro e w' ⟨rfl, rfl⟩
  go_wp2_with fail
  refine (rot25 _ _).mono ?_
  rintro e w' ⟨rfl, rfl⟩
  go_wp2
  go_ret
  exact ⟨rfl, rfl⟩
set_option maxHeartbeats 400000 in
theorem turnA_any (x : UInt32) (w : World) : Calls Tryd.prog 41 #[.int .u32 (U x), .int .i64 2, .int .i64 13, .int .i64 22] w fun e w' => e = .returned (.int .u32 (U (turnA x))) ∧ w' = w := by
  go_enter Tryd.func41, Tryd.ntmps41
  go_wp2_with fail
  refine (rot2 _ _).mono ?_
  rintro e w' ⟨rfl, rfl⟩
  go_wp2_with fail
  refine (rot13 _ _).mono ?_
  rintro e w' ⟨rfl, rfl⟩
  go_wp2_with fail
  refine (rot22 _ _).mono ?_
  rintro e w' ⟨rfl, rfl⟩
  go_wp2
  go_ret
  exact ⟨rfl, rfl⟩
end Go.Proofs.YtpmdlhlojifoeaaDoor

namespace Go.Proofs.YtpmdlhlojifoeaaDoor
open Go.RowKit
set_option linter.unusedVariables false
set_option linter.unusedSimpArgs false

def b4 (l : List UInt8) (k : Nat) : UInt32 := UInt32.ofNat (l.getD k 0).toNat
def word (l : List UInt8) (t : Nat) : UInt32 := shl (b4 l (4 * t)) 24 ||| shl (b4 l (4 * t + 1)) 16 ||| shl (b4 l (4 * t + 2)) 8 ||| b4 l (4 * t + 3)
def sig0 (x : UInt32) : UInt32 := rotr x 7 ^^^ rotr x 18 ^^^ shr x 3
def sig1 (x : UInt32) : UInt32 := rotr x 17 ^^^ rotr x 19 ^^^ shr x 10
def nextW (a : List UInt32) (t : Nat) : UInt32 := sig1 (a.getD (t - 2) 0) + a.getD (t - 7) 0 + sig0 (a.getD (t - 15) 0) + a.getD (t - 16) 0
/-- The first t numbers of a block. -/
def schTo (l : List UInt8) : Nat → List UInt32
  | 0 => []
  | t + 1 => schTo l t ++ [if t < 16 then word l t else nextW (schTo l t) t]
def pad64 (a : List UInt32) : List UInt32 := a ++ List.replicate (64 - a.length) 0

theorem schTo_len (l : List UInt8) (t : Nat) : (schTo l t).length = t := by
  induction t with
  | zero => rfl
  | succ t ih => simp [schTo, ih]
theorem pad_len (a : List UInt32) (h : a.length ≤ 64) : (pad64 a).length = 64 := by simp [pad64]; omega
theorem pad_get (a : List UInt32) (j : Nat) (h : j < a.length) : (pad64 a).getD j 0 = a.getD j 0 := by
  simp [pad64, List.getElem?_append_left h]
theorem pad_set (a : List UInt32) (v : UInt32) (h : a.length < 64) : (pad64 a).set a.length v = pad64 (a ++ [v]) := by
  unfold pad64
  have e : 64 - a.length = (64 - (a ++ [v]).length) + 1 := by simp; omega
  rw [e, List.replicate_succ, List.set_append_right _ _ (Nat.le_refl _)]
  simp
theorem pad_full (a : List UInt32) (h : a.length = 64) : pad64 a = a := by simp [pad64, h]
theorem at8_b4 (l : List UInt8) (k : Nat) : at8 l k % 4294967296 = U (b4 l k) := by
  unfold b4
  rw [← U_byte]
  unfold at8
  have := (l.getD k 0).toNat_lt
  omega
theorem at8_b4w (l : List UInt8) (k : Nat) : IntKind.u32.wrap (at8 l k) = U (b4 l k) := by rw [wrapU, at8_b4]

theorem hz67 (w : World) : (zeroValue 67).run Tryd.prog w = .ok (.agg (ws (pad64 []))) w := (zero_of_info (n := 64) (by kernel_rfl)).1 w
theorem hs67 : (Tryd.prog.info? 67).map (·.size) = some 64 := by kernel_rfl
theorem below_setRow (B : Nat) (w : World) (g : Nat) (cs : Array Value) (h : B ≤ g) : Below B w (w.setRow g cs) :=
  ⟨rfl, rfl, rfl, by simp, fun k hk => setRow_other w g k cs (by omega)⟩
attribute [local go_sem] bits_xor bits_or bits_and U_add U_addw shl24 shl16 shl8 shl24w shl16w shl8w shr3 shr10 at8_b4 at8_b4w

theorem res40 (tmps : Array Value) (w : World) (g : Nat) (t : TypeId) (l : List UInt32) (hl : l.length = 64) (fr : Nat × Nat) (hp : tmps.getD 2 undef = .pointer (some ⟨g, 0, none⟩)) (hg : w.heap[g]? = some (.cells (ws l) t fr)) :
    (results Tryd.f40 tmps).run Tryd.prog w = .ok (.agg (ws l)) w :=
  results_cell_row Tryd.results40 tmps w g t (ws l) fr _ hp hg Tryd.underlying67 rfl (by rw [ws_size, hl]; exact hs67)

set_option maxHeartbeats 4000000 in
theorem sched_any (b off cap : Nat) (l : List UInt8) (w : World) (hl : l.length = 64) (hc : ∀ j, j < 64 → w.cell? ⟨b, off + j, none⟩ = some (.int .u8 (at8 l j))) :
    Calls Tryd.prog 40 #[.slice (some ⟨b, off, none⟩) 64 cap] w fun e w' => e = .returned (.agg (ws (schTo l 64))) ∧ Below w.heap.size w w' := by
  have hbb : b < w.heap.size := block_lt_of_cell (hc 0 (by omega))
  go_enter Tryd.func40, Tryd.ntmps40
  go_wp2_with (first | (refine wpList_alloc_row rfl 67 rfl (ws (pad64 [])) (hz67 _) ?_))
  go_loopw [4, 10] (fun _ i wr => ∃ k : Nat, k ≤ 16 ∧ i = .int .i64 k ∧ wr.heap[w.heap.size + 1]? = some (.cells (ws (pad64 (schTo l k))) 67 (0, 0)) ∧ wr.heap[w.heap.size]? = some (.cells (ws (pad64 [])) 67 (0, 0)) ∧ Below w.heap.size w wr) (fun _ i _ => 16 - (intOf i).toNat)
  case atStart => exact ⟨0, by omega, rfl, heap_alloc2_new _ _ _, heap_alloc2_old _ _ _, ((Below.refl _ _).alloc (Nat.le_refl _) _).alloc (by simp) _⟩
  case round =>
    obtain ⟨k, hk, rfl, hb1, hb0, hbel⟩ := hrel
    have hlt : w.heap.size + 1 < wr.heap.size := (Array.getElem?_eq_some_iff.1 hb1).1
    by_cases h1 : k < 16
    · have d0 := (hbel.cell (p := ⟨b, off + 4 * k, none⟩) hbb).trans (hc (4 * k) (by omega))
      have d1 := (hbel.cell (p := ⟨b, off + (4 * k + 1), none⟩) hbb).trans (hc (4 * k + 1) (by omega))
      have d2 := (hbel.cell (p := ⟨b, off + (4 * k + 2), none⟩) hbb).trans (hc (4 * k + 2) (by omega))
      have d3 := (hbel.cell (p := ⟨b, off + (4 * k + 3), none⟩) hbb).trans (hc (4 * k + 3) (by omega))
      have hcl := (cell_of_row wr (w.heap.size + 1) k _ _ _ hb1).trans (ws_get _ k (by rw [pad_len _ (by rw [schTo_len]; omega)]; omega))
      have hf := frozen_of_row wr (w.heap.size + 1) k _ _ hb1
      go_wp2
      go_region
      all_goals
        go_wp2
        go_roundw
        case rel =>
          refine ⟨k + 1, by omega, by go_num, ?_, ?_, (hbel.setCell (by simp) _).drew⟩
          · show (wr.setCell _ _).heap[_]? = _
            rw [heap_setCell_same wr (w.heap.size + 1) k _ 67 _ hb1, ws_set]
            have e := pad_set (schTo l k) (word l k) (by rw [schTo_len]; omega)
            rw [schTo_len] at e
            have e2 : schTo l (k + 1) = schTo l k ++ [word l k] := by simp [schTo, h1]
            rw [e2, ← e]
            rfl
          · show (wr.setCell _ _).heap[_]? = _
            rw [heap_setCell_other _ _ _ _ (by simp)]; exact hb0
        case measure => simp [intOf]; omega
    · have hk2 : k = 16 := by omega
      subst hk2
      clear h1 hk
      simp only [Int.cast_ofNat_Int]
      go_wp2
      go_loopw [5, 6, 7, 8, 9] (fun i _ _ _ _ wq => ∃ k : Nat, 16 ≤ k ∧ k ≤ 64 ∧ i = .int .i64 k ∧ wq.heap[w.heap.size + 1]? = some (.cells (ws (pad64 (schTo l k))) 67 (0, 0)) ∧ wq.heap[w.heap.size]? = some (.cells (ws (pad64 [])) 67 (0, 0)) ∧ Below w.heap.size w wq) (fun i _ _ _ _ _ => 64 - (intOf i).toNat)
      case atStart => exact ⟨16, by omega, by omega, rfl, hb1, hb0, hbel⟩
      case round =>
        clear hb1 hb0 hbel hlt
        obtain ⟨k, hk0, hk, rfl, hb1, hb0, hbel⟩ := hrel
        have hlt : w.heap.size + 1 < wr.heap.size := (Array.getElem?_eq_some_iff.1 hb1).1
        by_cases h1 : k < 64
        · have hL : (pad64 (schTo l k)).length = 64 := pad_len _ (by rw [schTo_len]; omega)
          have gc : ∀ j, j < k → wr.cell? ⟨w.heap.size + 1, j, none⟩ = some (.int .u32 (U ((schTo l k).getD j 0))) := fun j hj => by
            rw [← pad_get _ j (by rw [schTo_len]; omega)]
            exact (cell_of_row wr (w.heap.size + 1) j _ _ _ hb1).trans (ws_get _ j (by omega))
          have d15 := gc (k - 15) (by omega)
          have d2 := gc (k - 2) (by omega)
          have d7 := gc (k - 7) (by omega)
          have d16 := gc (k - 16) (by omega)
          have hcl := (cell_of_row wr (w.heap.size + 1) k _ _ _ hb1).trans (ws_get _ k (by omega))
          have hf := frozen_of_row wr (w.heap.size + 1) k _ _ hb1
          have E : Hid (nextW (schTo l k) k = sig1 ((schTo l k).getD (k - 2) 0) + (schTo l k).getD (k - 7) 0 + sig0 ((schTo l k).getD (k - 15) 0) + (schTo l k).getD (k - 16) 0) := rfl
          generalize (schTo l k).getD (k - 2) 0 = y2 at E d2
          generalize (schTo l k).getD (k - 7) 0 = y7 at E d7
          generalize (schTo l k).getD (k - 15) 0 = y15 at E d15
          generalize (schTo l k).getD (k - 16) 0 = y16 at E d16
          clear gc hL
          have bk : (0 : Int) ≤ (k : Int) - 16 := by omega
          go_wp2
          go_region
          go_wp2_with fail
          refine (rot7 _ _).mono ?_
          rintro e w' ⟨rfl, rfl⟩
          go_wp2_with fail
          refine (rot18 _ _).mono ?_
          rintro e w' ⟨rfl, rfl⟩
          go_wp2_with fail
          refine (rot17 _ _).mono ?_
          rintro e w' ⟨rfl, rfl⟩
          go_wp2_with fail
          refine (rot19 _ _).mono ?_
          rintro e w' ⟨rfl, rfl⟩
          go_wp2
          go_region
          all_goals
            go_wp2
            go_roundw
            case rel =>
              refine ⟨k + 1, by omega, by omega, by go_num, ?_, ?_, (hbel.setCell (by simp) _).drew.drew⟩
              · show (wr.setCell _ _).heap[_]? = _
                rw [heap_setCell_same wr (w.heap.size + 1) k _ 67 _ hb1, ws_set]
                have e := pad_set (schTo l k) (nextW (schTo l k) k) (by rw [schTo_len]; omega)
                rw [schTo_len] at e
                have e2 : schTo l (k + 1) = schTo l k ++ [nextW (schTo l k) k] := by simp [schTo, show ¬ k < 16 by omega]
                rw [e2, ← e, E.out]
                rfl
              · show (wr.setCell _ _).heap[_]? = _
                rw [heap_setCell_other _ _ _ _ (by simp)]; exact hb0
            case measure => simp [intOf]; omega
        · have hk2 : k = 64 := by omega
          subst hk2
          have hfull : pad64 (schTo l 64) = schTo l 64 := pad_full _ (schTo_len _ _)
          rw [hfull] at hb1
          clear hfull
          go_wp2_with (first | (refine wpList_load_arr rfl 67 _ rfl (w.heap.size + 1) rfl 67 (ws (schTo l 64)) (0, 0) _ hb1 Tryd.underlying67 rfl (by rw [ws_size, schTo_len]; exact hs67) ?_) | (refine wpList_store_row rfl 67 _ _ rfl w.heap.size (ws (schTo l 64)) rfl rfl 67 (ws (pad64 [])) hb0 (by rw [ws_size, schTo_len]; exact hs67) (by rw [ws_size, ws_size, schTo_len]; rfl) (ws_one _) ?_))
          exact bodyPost_ret (res40 _ _ w.heap.size 67 (schTo l 64) (schTo_len _ _) (0, 0) rfl (setRow_heap _ _ _ _ _ _ hb0)) rfl ⟨rfl, hbel.trans (below_setRow _ _ _ _ (Nat.le_refl _))⟩
end Go.Proofs.YtpmdlhlojifoeaaDoor

namespace Go.Proofs.YtpmdlhlojifoeaaDoor
open Go.RowKit
set_option linter.unusedVariables false
set_option linter.unusedSimpArgs false

def keys : List UInt32 := [0x428a2f98, 0x71374491, 0xb5c0fbcf, 0xe9b5dba5, 0x3956c25b, 0x59f111f1, 0x923f82a4, 0xab1c5ed5, 0xd807aa98, 0x12835b01, 0x243185be, 0x550c7dc3, 0x72be5d74, 0x80deb1fe, 0x9bdc06a7, 0xc19bf174, 0xe49b69c1, 0xefbe4786, 0x0fc19dc6, 0x240ca1cc, 0x2de92c6f, 0x4a7484aa, 0x5cb0a9dc, 0x76f988da, 0x983e5152, 0xa831c66d, 0xb00327c8, 0xbf597fc7, 0xc6e00bf3, 0xd5a79147, 0x06ca6351, 0x14292967, 0x27b70a85, 0x2e1b2138, 0x4d2c6dfc, 0x53380d13, 0x650a7354, 0x766a0abb, 0x81c2c92e, 0x92722c85, 0xa2bfe8a1, 0xa81a664b, 0xc24b8b70, 0xc76c51a3, 0xd192e819, 0xd6990624, 0xf40e3585, 0x106aa070, 0x19a4c116, 0x1e376c08, 0x2748774c, 0x34b0bcb5, 0x391c0cb3, 0x4ed8aa4a, 0x5b9cca4f, 0x682e6ff3, 0x748f82ee, 0x78a5636f, 0x84c87814, 0x8cc70208, 0x90befffa, 0xa4506ceb, 0xbef9a3f7, 0xc67178f2]

structure S8 where
  a : UInt32
  b : UInt32
  c : UInt32
  d : UInt32
  e : UInt32
  f : UInt32
  g : UInt32
  h : UInt32
def tOne (e f g h k w : UInt32) : UInt32 := h + turnE e + (e &&& f ||| (e ^^^ 0xffffffff) &&& g) + k + w
def tTwo (a b c : UInt32) : UInt32 := turnA a + (a &&& b ||| a &&& c ||| b &&& c)
def S8.step (s : S8) (k w : UInt32) : S8 :=
  ⟨tOne s.e s.f s.g s.h k w + tTwo s.a s.b s.c, s.a, s.b, s.c, s.d + tOne s.e s.f s.g s.h k w, s.e, s.f, s.g⟩
def S8.run (s : S8) (W : List UInt32) : Nat → S8
  | 0 => s
  | n + 1 => (s.run W n).step (keys.getD n 0) (W.getD n 0)
def S8.list (s : S8) : List UInt32 := [s.a, s.b, s.c, s.d, s.e, s.f, s.g, s.h]
def S8.plus (s r : S8) : S8 := ⟨s.a + r.a, s.b + r.b, s.c + r.c, s.d + r.d, s.e + r.e, s.f + r.f, s.g + r.g, s.h + r.h⟩
def S8.mix (s : S8) (l : List UInt8) : S8 := s.plus (s.run (schTo l 64) 64)

def z8 : List UInt32 := [0, 0, 0, 0, 0, 0, 0, 0]
theorem hz58 (w : World) : (zeroValue 58).run Tryd.prog w = .ok (.agg (ws z8)) w := (zero_of_info (n := 8) (by kernel_rfl)).1 w
theorem hs58 : (Tryd.prog.info? 58).map (·.size) = some 8 := by kernel_rfl
theorem info27 : ∃ i, Tryd.prog.info? 27 = some i ∧ i.size = 1 := by
  have h : (Tryd.prog.info? 27).map (·.size) = some 1 := by kernel_rfl
  cases hq : Tryd.prog.info? 27 with
  | none => rw [hq] at h; simp at h
  | some i => exact ⟨i, rfl, by rw [hq] at h; simpa using h⟩
theorem index67 (W : List UInt32) (hW : W.length = 64) (k : Nat) (hk : k < 64) (w : World) :
    (Instr.index 67 (.agg (ws W)) (.int .i64 (k : Int))).run Tryd.prog w = .ok (.int .u32 (U (W.getD k 0))) w := by
  obtain ⟨i, hi, hs⟩ := info27
  have hp := run_part_plain (P := Tryd.prog) w (e := 27) (by simp [Program.plainKey, Tryd.underlying27]) (off := k) (ws_get W k (by omega))
  simp only [Instr.index, asIntOf, Sem.run_bind, Sem.run_pure, Result.andThen_ok, run_underlying Tryd.underlying67]
  rw [Sem.run_ite, if_pos ⟨by omega, by omega⟩]
  simp only [Sem.run_bind, sizeOf, typeInfo, hi, hs]
  simp [hi, hs, hp]

def ar8 (x0 x1 x2 x3 x4 x5 x6 x7 : UInt32) : Array Value := #[.int .u32 (U x0), .int .u32 (U x1), .int .u32 (U x2), .int .u32 (U x3), .int .u32 (U x4), .int .u32 (U x5), .int .u32 (U x6), .int .u32 (U x7)]
theorem lit8 (x0 x1 x2 x3 x4 x5 x6 x7 : UInt32) : (#[.int .u32 (U x0), .int .u32 (U x1), .int .u32 (U x2), .int .u32 (U x3), .int .u32 (U x4), .int .u32 (U x5), .int .u32 (U x6), .int .u32 (U x7)] : Array Value) = ws [x0, x1, x2, x3, x4, x5, x6, x7] := rfl
theorem one8 (x0 x1 x2 x3 x4 x5 x6 x7 : UInt32) : (#[.int .u32 (U x0), .int .u32 (U x1), .int .u32 (U x2), .int .u32 (U x3), .int .u32 (U x4), .int .u32 (U x5), .int .u32 (U x6), .int .u32 (U x7)] : Array Value).all (·.oneCell') = true := by rw [lit8]; exact ws_one _
theorem hz8s : (ws z8).size = 8 := rfl

/-- The table lies where it lies. -/
def KeysAt (w : World) : Prop := ∀ j, j < 64 → w.cell? ⟨4, j, none⟩ = some (.int .u32 (U (keys.getD j 0)))

attribute [local go_sem] bits_xor bits_or bits_and U_add U_addw xor_max

theorem res35 (tmps : Array Value) (w : World) (g : Nat) (t : TypeId) (l : List UInt32) (hl : l.length = 8) (fr : Nat × Nat) (hp : tmps.getD 4 undef = .pointer (some ⟨g, 0, none⟩)) (hg : w.heap[g]? = some (.cells (ws l) t fr)) :
    (results Tryd.f35 tmps).run Tryd.prog w = .ok (.agg (ws l)) w :=
  results_cell_row Tryd.results35 tmps w g t (ws l) fr _ hp hg Tryd.underlying58 rfl (by rw [ws_size, hl]; exact hs58)

set_option maxRecDepth 100000 in
set_option maxHeartbeats 4000000 in
theorem mixed_any (s : S8) (b off cap : Nat) (l : List UInt8) (w : World) (hl : l.length = 64) (hc : ∀ j, j < 64 → w.cell? ⟨b, off + j, none⟩ = some (.int .u8 (at8 l j))) (hK : KeysAt w) :
    Calls Tryd.prog 35 #[.agg (ws s.list), .slice (some ⟨b, off, none⟩) 64 cap] w fun e w' => e = .returned (.agg (ws (s.mix l).list)) ∧ Below w.heap.size w w' := by
  have hbb : b < w.heap.size := block_lt_of_cell (hc 0 (by omega))
  have x0 : (ws s.list)[0]? = some (.int .u32 (U s.a)) := rfl
  have x1 : (ws s.list)[1]? = some (.int .u32 (U s.b)) := rfl
  have x2 : (ws s.list)[2]? = some (.int .u32 (U s.c)) := rfl
  have x3 : (ws s.list)[3]? = some (.int .u32 (U s.d)) := rfl
  have x4 : (ws s.list)[4]? = some (.int .u32 (U s.e)) := rfl
  have x5 : (ws s.list)[5]? = some (.int .u32 (U s.f)) := rfl
  have x6 : (ws s.list)[6]? = some (.int .u32 (U s.g)) := rfl
  have x7 : (ws s.list)[7]? = some (.int .u32 (U s.h)) := rfl
  go_enter Tryd.func35, Tryd.ntmps35
  go_wp2_with (first | (refine wpList_alloc_row rfl 58 rfl (ws z8) (hz58 _) ?_))
  go_quiet (fail)
  clear x0 x1 x2 x3 x4 x5 x6 x7
  have bel0 : Below w.heap.size w (((w.alloc (Obj.cells (ws s.list) 58)).alloc (Obj.cells (ws z8) 58)).drewN nq) :=
    below_drewN (((Below.refl _ _).alloc (Nat.le_refl _) _).alloc (by simp) _) nq
  have g0 : (((w.alloc (Obj.cells (ws s.list) 58)).alloc (Obj.cells (ws z8) 58)).drewN nq).heap[w.heap.size]? = some (.cells (ws s.list) 58 (0, 0)) := heap_alloc2_old _ _ _
  have g1 : (((w.alloc (Obj.cells (ws s.list) 58)).alloc (Obj.cells (ws z8) 58)).drewN nq).heap[w.heap.size + 1]? = some (.cells (ws z8) 58 (0, 0)) := heap_alloc2_new _ _ _
  go_wp2_with fail
  generalize (((w.alloc (Obj.cells (ws s.list) 58)).alloc (Obj.cells (ws z8) 58)).drewN nq) = W0 at *
  refine (sched_any b off cap l W0 hl (fun j hj => (bel0.cell (p := ⟨b, off + j, none⟩) hbb).trans (hc j hj))).mono ?_
  rintro e w1 ⟨rfl, hb1⟩
  have z1 : w.heap.size + 1 < W0.heap.size := (Array.getElem?_eq_some_iff.1 g1).1
  have z2 : W0.heap.size ≤ w1.heap.size := hb1.size
  have h0 : w1.heap[w.heap.size]? = some (.cells (ws s.list) 58 (0, 0)) := by rw [hb1.block _ (by omega)]; exact g0
  have h1 : w1.heap[w.heap.size + 1]? = some (.cells (ws z8) 58 (0, 0)) := by rw [hb1.block _ (by omega)]; exact g1
  have bel1 : Below w.heap.size w w1 := bel0.trans (hb1.mono (by omega))
  have hK1 : KeysAt w1 := fun j hj => (bel1.cell (p := ⟨4, j, none⟩) (block_lt_of_cell (hK j hj))).trans (hK j hj)
  clear g0 g1 bel0 hb1 hK
  have LW := schTo_len l 64
  have EM : Hid (s.mix l = s.plus (s.run (schTo l 64) 64)) := rfl
  generalize schTo l 64 = W at *
  go_wp2
  go_loopw [5, 6, 7, 8, 9, 10, 11, 12, 13, 14, 15, 16, 35] (fun a b c d e f g h _ _ _ _ i wr => ∃ k : Nat, k ≤ 64 ∧ i = .int .i64 k ∧ a = .int .u32 (U (s.run W k).a) ∧ b = .int .u32 (U (s.run W k).b) ∧ c = .int .u32 (U (s.run W k).c) ∧ d = .int .u32 (U (s.run W k).d) ∧ e = .int .u32 (U (s.run W k).e) ∧ f = .int .u32 (U (s.run W k).f) ∧ g = .int .u32 (U (s.run W k).g) ∧ h = .int .u32 (U (s.run W k).h) ∧ Below w1.heap.size w1 wr) (fun _ _ _ _ _ _ _ _ _ _ _ _ i _ => 64 - (intOf i).toNat)
  case atStart => exact ⟨0, by omega, rfl, rfl, rfl, rfl, rfl, rfl, rfl, rfl, rfl, Below.refl _ _⟩
  case round =>
    obtain ⟨k, hk, rfl, rfl, rfl, rfl, rfl, rfl, rfl, rfl, rfl, hsame⟩ := hrel
    by_cases hlt : k < 64
    · have ix := fun wx => index67 W LW k hlt wx
      have kc := (hsame.cell (p := ⟨4, k, none⟩) (block_lt_of_cell (hK1 k hlt))).trans (hK1 k hlt)
      have ER : Hid (s.run W (k + 1) = (s.run W k).step (keys.getD k 0) (W.getD k 0)) := rfl
      generalize s.run W k = r at *
      generalize keys.getD k 0 = kk at *
      generalize W.getD k 0 = ww at *
      have hlt2 : (k : Int) < 64 := by omega
      have sg : IntKind.u32.signed = false := rfl
      go_wp2
      go_quiet ((go_at_call 41; exact Calls.quiet_of_same (turnE_any _ _)))
      go_wp2_with fail
      refine (turnA_any _ _).mono ?_
      rintro e w' ⟨rfl, rfl⟩
      go_wp2
      go_roundw
      case rel => exact ⟨k + 1, by omega, by go_num, by rw [ER.out]; rfl, by rw [ER.out]; rfl, by rw [ER.out]; rfl, by rw [ER.out]; rfl, by rw [ER.out]; rfl, by rw [ER.out]; rfl, by rw [ER.out]; rfl, by rw [ER.out]; rfl, below_drewN hsame _⟩
      case measure => simp [intOf]; omega
    · have hk2 : k = 64 := by omega
      subst hk2
      have cel : ∀ j v, (ws s.list)[j]? = some v → wr.cell? ⟨w.heap.size, j, none⟩ = some v := fun j v hv => (hsame.cell (p := ⟨w.heap.size, j, none⟩) (by show w.heap.size < _; omega)).trans ((cell_of_row w1 w.heap.size j _ _ _ h0).trans hv)
      have y0 := cel 0 (.int .u32 (U s.a)) rfl
      have y1 := cel 1 (.int .u32 (U s.b)) rfl
      have y2 := cel 2 (.int .u32 (U s.c)) rfl
      have y3 := cel 3 (.int .u32 (U s.d)) rfl
      have y4 := cel 4 (.int .u32 (U s.e)) rfl
      have y5 := cel 5 (.int .u32 (U s.f)) rfl
      have y6 := cel 6 (.int .u32 (U s.g)) rfl
      have y7 := cel 7 (.int .u32 (U s.h)) rfl
      clear cel
      generalize s.run W 64 = r at *
      have h1' : wr.heap[w.heap.size + 1]? = some (.cells (ws z8) 58 (0, 0)) := by rw [hsame.block _ (by omega)]; exact h1
      go_wp2_with (first | (refine wpList_store_row rfl 58 (.tmp 4) (.tmp 117) rfl (w.heap.size + 1) #[.int .u32 (U (s.a + r.a)), .int .u32 (U (s.b + r.b)), .int .u32 (U (s.c + r.c)), .int .u32 (U (s.d + r.d)), .int .u32 (U (s.e + r.e)), .int .u32 (U (s.f + r.f)), .int .u32 (U (s.g + r.g)), .int .u32 (U (s.h + r.h))] rfl rfl 58 (ws z8) h1' hs58 hz8s (one8 _ _ _ _ _ _ _ _) ?_; rw [lit8]))
      have EM2 : Hid ((s.mix l).list = [s.a + r.a, s.b + r.b, s.c + r.c, s.d + r.d, s.e + r.e, s.f + r.f, s.g + r.g, s.h + r.h]) := by rw [EM.out]; rfl
      refine bodyPost_ret (res35 _ _ (w.heap.size + 1) 58 [s.a + r.a, s.b + r.b, s.c + r.c, s.d + r.d, s.e + r.e, s.f + r.f, s.g + r.g, s.h + r.h] rfl (0, 0) rfl (setRow_heap _ _ _ _ _ _ h1')) rfl ⟨by rw [EM2.out], (bel1.trans (hsame.mono (by omega))).trans (below_setRow _ _ _ _ (by omega))⟩
end Go.Proofs.YtpmdlhlojifoeaaDoor

namespace Go.Proofs.YtpmdlhlojifoeaaDoor
open Go.RowKit
set_option linter.unusedVariables false
set_option linter.unusedSimpArgs false

/-- The cells of a Hasher. -/
def hcl (s : S8) (bl : List UInt8) (n : Int) : List Value := s.list.map (fun x => Value.int .u32 (U x)) ++ (bl.map (fun b => Value.int .u8 (b.toNat : Int)) ++ [.int .i64 n])
def hc (s : S8) (bl : List UInt8) (n : Int) : Array Value := (hcl s bl n).toArray

theorem hc_size (s : S8) (bl : List UInt8) (n : Int) (h : bl.length = 64) : (hc s bl n).size = 73 := by simp [hc, hcl, S8.list, h]
theorem hc_state (s : S8) (bl : List UInt8) (n : Int) (j : Nat) (hj : j < 8) : (hc s bl n)[j]? = some (.int .u32 (U (s.list.getD j 0))) := by
  have hl : j < s.list.length := by simpa [S8.list] using hj
  simp only [hc, hcl, List.getElem?_toArray]
  rw [List.getElem?_append_left (by simpa using hl)]
  simp [List.getElem?_eq_getElem hl]
theorem hc_block (s : S8) (bl : List UInt8) (n : Int) (h : bl.length = 64) (j : Nat) (hj : j < 64) : (hc s bl n)[8 + j]? = some (.int .u8 (at8 bl j)) := by
  have hl : j < bl.length := by omega
  simp only [hc, hcl, List.getElem?_toArray]
  rw [List.getElem?_append_right (by simp [S8.list]), List.getElem?_append_left (by simp [S8.list]; omega)]
  simp [S8.list, at8, List.getElem?_eq_getElem hl]
theorem hc_len (s : S8) (bl : List UInt8) (n : Int) (h : bl.length = 64) : (hc s bl n)[72]? = some (.int .i64 n) := by
  simp only [hc, hcl, List.getElem?_toArray]
  rw [List.getElem?_append_right (by simp [S8.list]), List.getElem?_append_right (by simp [S8.list, h])]
  simp [S8.list, h]
theorem hc_setLen (s : S8) (bl : List UInt8) (n m : Int) (h : bl.length = 64) : (hc s bl n).setIfInBounds 72 (.int .i64 m) = hc s bl m := by
  simp only [hc, hcl, List.setIfInBounds_toArray]
  rw [List.set_append_right _ _ (by simp [S8.list]), List.set_append_right _ _ (by simp [S8.list, h])]
  simp [S8.list, h]
theorem hc_setBlock (s : S8) (bl : List UInt8) (n : Int) (j : Nat) (v : UInt8) (h : bl.length = 64) (hj : j < 64) : (hc s bl n).setIfInBounds (8 + j) (.int .u8 (v.toNat : Int)) = hc s (bl.set j v) n := by
  simp only [hc, hcl, List.setIfInBounds_toArray]
  rw [List.set_append_right _ _ (by simp [S8.list]), List.set_append_left _ _ (by simp [S8.list]; omega)]
  simp [S8.list, List.map_set]
end Go.Proofs.YtpmdlhlojifoeaaDoor

namespace Go.Proofs.YtpmdlhlojifoeaaDoor
open Go.RowKit
set_option linter.unusedVariables false
set_option linter.unusedSimpArgs false

def first : S8 := ⟨0x6a09e667, 0xbb67ae85, 0x3c6ef372, 0xa54ff53a, 0x510e527f, 0x9b05688c, 0x1f83d9ab, 0x5be0cd19⟩
/-- The state behind k blocks. -/
def stN (m : List UInt8) : Nat → S8
  | 0 => first
  | k + 1 => (stN m k).mix ((m.drop (64 * k)).take 64)

theorem stN_app (m l : List UInt8) (k : Nat) (h : 64 * k ≤ m.length) : stN (m ++ l) k = stN m k := by
  induction k with
  | zero => rfl
  | succ k ih =>
    simp only [stN]
    rw [ih (by omega), List.drop_append_of_le_length (by omega), List.take_append_of_le_length (by simp; omega)]

/-- A Hasher at block g that was written m. -/
def Rep (w : World) (g : Nat) (m : List UInt8) : Prop :=
  ∃ bl : List UInt8, w.heap[g]? = some (.cells (hc (stN m (m.length / 64)) bl (m.length : Int)) 62 (0, 0)) ∧ bl.length = 64 ∧ bl.take (m.length % 64) = m.drop (64 * (m.length / 64))

/-- All but block g is as it was. -/
structure But (g : Nat) (w w' : World) : Prop where
  os : w'.os = w.os
  tape : w'.tape = w.tape
  output : w'.output = w.output
  size : w.heap.size ≤ w'.heap.size
  block : ∀ k, k < w.heap.size → k ≠ g → w'.heap[k]? = w.heap[k]?

theorem But.refl (g : Nat) (w : World) : But g w w := ⟨rfl, rfl, rfl, Nat.le_refl _, fun _ _ _ => rfl⟩
theorem But.trans {g : Nat} {a b c : World} (h : But g a b) (k : But g b c) : But g a c :=
  ⟨k.os.trans h.os, k.tape.trans h.tape, k.output.trans h.output, Nat.le_trans h.size k.size, fun i hi hg => (k.block i (by have := h.size; omega) hg).trans (h.block i hi hg)⟩
theorem But.setCell {g : Nat} {a w : World} (h : But g a w) (j : Nat) (v : Value) : But g a (w.setCell ⟨g, j, none⟩ v) :=
  h.trans ⟨rfl, rfl, rfl, by simp [World.setCell], fun k hk hg => Below.heap_setCell _ _ _ _ hg⟩
theorem But.setRow {g : Nat} {a w : World} (h : But g a w) (cs : Array Value) : But g a (w.setRow g cs) :=
  h.trans ⟨rfl, rfl, rfl, by simp, fun k hk hg => setRow_other w g k cs hg⟩
theorem But.drew {g : Nat} {a w : World} (h : But g a w) : But g a w.drew := ⟨h.os, h.tape, h.output, h.size, h.block⟩
theorem But.drewN {g : Nat} {a w : World} (h : But g a w) (n : Nat) : But g a (w.drewN n) := ⟨h.os, h.tape, h.output, h.size, h.block⟩
theorem But.alloc {g : Nat} {a w : World} (h : But g a w) (o : Obj) : But g a (w.alloc o) :=
  h.trans ⟨rfl, rfl, rfl, by simp, fun k hk hg => Below.heap_alloc _ _ _ hk⟩
theorem But.of_below {g : Nat} {a w : World} (h : Below a.heap.size a w) : But g a w := ⟨h.os, h.tape, h.output, h.size, fun k hk _ => h.block k hk⟩
theorem But.below {g B : Nat} {a w : World} (h : But g a w) (hB : B ≤ a.heap.size) (hg : B ≤ g) : Below B a w := ⟨h.os, h.tape, h.output, h.size, fun k hk => h.block k (by omega) (by omega)⟩
theorem But.cell {g : Nat} {w w' : World} (h : But g w w') {p : Addr} (hp : p.block < w.heap.size) (hg : p.block ≠ g) : w'.cell? p = w.cell? p := World.cell?_of_block (w := w) (h.block p.block hp hg)
theorem But.byt {g : Nat} {w w' : World} (h : But g w w') {a : Option Addr} {l : List UInt8} (hb : Byt w a l) (hg : ∀ b off, a = some ⟨b, off, none⟩ → b ≠ g) : Byt w' a l := by
  rcases hb with rfl | ⟨b, off, rfl, hc⟩
  · exact .inl rfl
  · exact .inr ⟨b, off, rfl, fun j hj => (h.cell (p := ⟨b, off + j, none⟩) (block_lt_of_cell (hc j hj)) (hg b off rfl)).trans (hc j hj)⟩
theorem But.keys {g : Nat} {w w' : World} (h : But g w w') (hK : KeysAt w) (hg : g ≠ 4) : KeysAt w' := fun j hj =>
  (h.cell (p := ⟨4, j, none⟩) (block_lt_of_cell (hK j hj)) (fun e => hg e.symm)).trans (hK j hj)
theorem Byt.drop {w : World} {b off : Nat} {l : List UInt8} (hc : ∀ j, j < l.length → w.cell? ⟨b, off + j, none⟩ = some (.int .u8 (at8 l j))) (c : Nat) : ∀ j, j < (l.drop c).length → w.cell? ⟨b, off + c + j, none⟩ = some (.int .u8 (at8 (l.drop c) j)) := fun j hj => by
  have e : at8 (l.drop c) j = at8 l (c + j) := by simp [at8]
  rw [e, show off + c + j = off + (c + j) by omega]
  exact hc (c + j) (by simp at hj; omega)
end Go.Proofs.YtpmdlhlojifoeaaDoor

