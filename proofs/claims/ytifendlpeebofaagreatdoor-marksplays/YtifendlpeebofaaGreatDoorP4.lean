import Derived.Test.YtifendlpeebofaaGreatDoorRows
import Derived.WalkKit
import Derived.WalkSpells
import Derived.WalkLawsBesides
import Derived.Deep.QuietTactic
import Derived.BigQuiet
import Derived.Below
import Derived.Laws.Externs
import Derived.Lib.ValidLaws
import Derived.Lib.ValidAsc
import Derived.Ground.NamesProg
import Derived.Shelf.Unicode.ValidAny
import Ieee.Arith
import Derived.Laws.BitsAllLaws
import Derived.Test.YtifendlpeebofaaGreatDoorP2
import Derived.Test.YtifendlpeebofaaGreatDoorP3
import Derived.Test.YtifendlpeebofaaGreatDoorP0
import Derived.Shelf.Abstract
set_option linter.unusedSimpArgs false
set_option linter.unusedVariables false
set_option maxRecDepth 100000
set_option maxHeartbeats 4000000
namespace Go.Proofs.YtifendlpeebofaaGreatDoor
open Go.Proofs.Tryz
namespace K
open Go.RowKit
@[go_sem] theorem bits_run (b:Nat) (w:World):(callFunc 68 #[.float .f64 b]).run prog w= .ok (.value (.int .u64 b)) w:=by
  rw [run_callFunc_extern func68 (by kernel_rfl) (by kernel_rfl) (by kernel_rfl) (e:=Extern.MathFloatBits.float64bits) (by kernel_rfl)]
  rfl
@[go_sem] theorem from_run (n:Int) (w:World):(callFunc 172 #[.int .u64 n]).run prog w= .ok (.value (.float .f64 n.toNat)) w:=by
  rw [run_callFunc_extern func172 (by kernel_rfl) (by kernel_rfl) (by kernel_rfl) (e:=Extern.MathFloatBits.float64frombits) (by kernel_rfl)]
  rfl
theorem below_drewN {B:Nat} {a w:World} (h:Below B a w):∀q,Below B a (w.drewN q)
 |0=>h
 |q+1=>(below_drewN h q).drew
theorem bel_box (w:World) (c:Array Value) (t:TypeId):Below w.heap.size w (w.alloc (.cells c t)):=(Below.refl _ _).alloc (Nat.le_refl _) _
namespace V
def by8 (s:ByteArray) (k:Nat):Nat:=(s.data.toList.getD k 0).toNat
theorem by8_lt (s:ByteArray) (k:Nat):by8 s k<256:=by unfold by8;exact (s.data.toList.getD k 0).toNat_lt
theorem index_str (s:ByteArray) (k:Nat) (w:World) (h:k<s.size):(Instr.index 9 (.string s) (.int .i64 (k:Int))).run prog w= .ok (.int .u8 (by8 s k:Int)) w:=by
 have hd:s.data.toList[k]? =some (s[k]'h):=by simp [h];rfl
 have e:by8 s k=(s[k]'h).toNat:=by
  unfold by8
  rw [List.getD_eq_getElem?_getD,hd]
  rfl
 rw [e]
 simp [Instr.index,asIntOf,run_underlying underlying9,h]
def TailP (s:ByteArray) (n lo hi:Nat):Prop:=n≤s.size∧lo≤by8 s 1∧by8 s 1≤hi∧∀i,2≤i→i<n→128≤by8 s i∧by8 s i≤191
def TailOut (s:ByteArray) (n lo hi:Nat) (w:World) (e:Ending) (w':World):Prop:=∃b,e= .returned (.bool b)∧(b=true↔TailP s n lo hi)∧w'=w
theorem tail_no {s:ByteArray} {n lo hi:Nat} {w:World} (h:¬TailP s n lo hi):TailOut s n lo hi w (.returned (.bool false)) w:=⟨false,rfl,⟨fun e=>(by cases e),fun e=>absurd e h⟩,rfl⟩
theorem tail_yes {s:ByteArray} {n lo hi:Nat} {w:World} (h:TailP s n lo hi):TailOut s n lo hi w (.returned (.bool true)) w:=⟨true,rfl,⟨fun _=>h,fun _=>rfl⟩,rfl⟩
theorem tail_any (s:ByteArray) (n lo hi:Nat) (w:World) (hn:2≤n) (hn2:n≤4) (hlo:lo<256) (hhi:hi<256) :
 Calls prog 150 #[.string s, .int .i64 (n:Int), .int .u8 (lo:Int), .int .u8 (hi:Int)] w (TailOut s n lo hi w):=by
 by_cases h1:s.size<n
 ·have h1':(s.size:Int)<(n:Int):=by omega
  go_enter func150,ntmps150
  go_wp2
  go_ret
  exact tail_no (fun h=>(by have:=h.1;omega))
 have h1':¬(s.size:Int)<(n:Int):=by omega
 have i1:=index_str s 1 w (by omega)
 simp only [Int.cast_ofNat_Int] at i1
 by_cases h2:by8 s 1<lo
 ·have h2':(by8 s 1:Int)<(lo:Int):=by omega
  go_enter func150,ntmps150
  go_wp2
  go_ret
  exact tail_no (fun h=>(by have:=h.2.1;omega))
 have h2':¬(by8 s 1:Int)<(lo:Int):=by omega
 by_cases h3:hi<by8 s 1
 ·have h3':(hi:Int)<(by8 s 1:Int):=by omega
  go_enter func150,ntmps150
  go_wp2
  go_ret
  exact tail_no (fun h=>(by have:=h.2.2.1;omega))
 have h3':¬(hi:Int)<(by8 s 1:Int):=by omega
 go_enter func150,ntmps150
 go_wp2
 go_loopw [9] (fun i wr=> ∃k:Nat,2≤k∧k≤n∧i= .int .i64 k∧wr=w∧∀j,2≤j→j<k→128≤by8 s j∧by8 s j≤191) (fun i _=>n-(intOf i).toNat)
 case atStart=>exact ⟨2,by omega,by omega,rfl,rfl,fun j _ _=>by omega⟩
 case round =>
  obtain ⟨k,hk2,hkn,rfl,rfl,hj⟩:=hrel
  by_cases h4:k<n
  ·have h4':(k:Int)<(n:Int):=by omega
   have ik:=index_str s k wr (by omega)
   by_cases h5:by8 s k<128
   ·have h5':(by8 s k:Int)<128:=by omega
    go_wp2
    go_ret
    exact tail_no (fun h=>(by have:=h.2.2.2 k hk2 h4;omega))
   have h5':¬(by8 s k:Int)<128:=by omega
   by_cases h6:191<by8 s k
   ·have h6':(191:Int)<(by8 s k:Int):=by omega
    go_wp2
    go_ret
    exact tail_no (fun h=>(by have:=h.2.2.2 k hk2 h4;omega))
   have h6':¬(191:Int)<(by8 s k:Int):=by omega
   go_wp2
   go_roundw
   case rel =>
        refine ⟨k+1,by omega,by omega,by go_num,by trivial,fun j hj1 hj2=> ?_⟩
        rcases Nat.lt_or_ge j k with h|h
        ·exact hj j hj1 h
        ·have:j=k:=by omega
         subst this
         omega
   case measure=>simp [intOf];omega
  ·have h4':¬(k:Int)<(n:Int):=by omega
   obtain rfl:k=n:=by omega
   go_wp2
   go_ret
   exact tail_yes ⟨by omega,by omega,by omega,hj⟩
end V
namespace V
def wideN (s:ByteArray):Nat :=
 if by8 s 0<128 then 1 else (Lib.checkN s.size (by8 s 1) (by8 s 2) (by8 s 3) (Lib.firstT (by8 s 0) % 8) (Lib.accLo (Lib.firstT (by8 s 0) / 16)) (Lib.accHi (Lib.firstT (by8 s 0) / 16))).getD 0
theorem tail_2 (s:ByteArray) (lo hi:Nat):(TailP s 2 lo hi→Lib.checkN s.size (by8 s 1) (by8 s 2) (by8 s 3) 2 lo hi=some 2)∧(¬TailP s 2 lo hi→Lib.checkN s.size (by8 s 1) (by8 s 2) (by8 s 3) 2 lo hi=none):=by
 unfold TailP Lib.checkN
 constructor
 ·rintro ⟨h1,h2,h3,h4⟩
  rw [if_pos rfl,if_neg (by omega)]
 ·intro h
  rw [if_pos rfl,if_pos]
  apply Classical.byContradiction
  intro hc
  exact h ⟨by omega,by omega,by omega,fun i _ _=>by omega⟩
theorem tail_3 (s:ByteArray) (lo hi:Nat):(TailP s 3 lo hi→Lib.checkN s.size (by8 s 1) (by8 s 2) (by8 s 3) 3 lo hi=some 3)∧(¬TailP s 3 lo hi→Lib.checkN s.size (by8 s 1) (by8 s 2) (by8 s 3) 3 lo hi=none):=by
 unfold TailP Lib.checkN
 constructor
 ·rintro ⟨h1,h2,h3,h4⟩
  have:=h4 2 (by omega) (by omega)
  rw [if_neg (by omega),if_pos rfl,if_neg (by omega)]
 ·intro h
  rw [if_neg (by omega),if_pos rfl,if_pos]
  apply Classical.byContradiction
  intro hc
  refine h ⟨by omega,by omega,by omega,fun i h1 h2=> ?_⟩
  obtain rfl:i=2:=by omega
  omega
theorem tail_4 (s:ByteArray) (lo hi:Nat):(TailP s 4 lo hi→Lib.checkN s.size (by8 s 1) (by8 s 2) (by8 s 3) 4 lo hi=some 4)∧(¬TailP s 4 lo hi→Lib.checkN s.size (by8 s 1) (by8 s 2) (by8 s 3) 4 lo hi=none):=by
 unfold TailP Lib.checkN
 constructor
 ·rintro ⟨h1,h2,h3,h4⟩
  have:=h4 2 (by omega) (by omega)
  have:=h4 3 (by omega) (by omega)
  rw [if_neg (by omega),if_neg (by omega),if_pos rfl,if_neg (by omega)]
 ·intro h
  rw [if_neg (by omega),if_neg (by omega),if_pos rfl,if_pos]
  apply Classical.byContradiction
  intro hc
  refine h ⟨by omega,by omega,by omega,fun i h1 h2=> ?_⟩
  rcases (show i=2∨i=3 by omega) with rfl|rfl <;>omega
theorem tail_true {s:ByteArray} {n lo hi:Nat} (h:TailP s n lo hi) (hn:2≤n) (hn2:n≤4) (hlo:lo<256) (hhi:hi<256) (w:World) :
 Calls prog 150 #[.string s, .int .i64 (n:Int), .int .u8 (lo:Int), .int .u8 (hi:Int)] w fun e w'=>e= .returned (.bool true)∧w'=w :=
 (tail_any s n lo hi w hn hn2 hlo hhi).mono fun e w' ⟨b,he,hb,hw⟩=>⟨by rw [he,hb.2 h],hw⟩
theorem tail_false {s:ByteArray} {n lo hi:Nat} (h:¬TailP s n lo hi) (hn:2≤n) (hn2:n≤4) (hlo:lo<256) (hhi:hi<256) (w:World) :
 Calls prog 150 #[.string s, .int .i64 (n:Int), .int .u8 (lo:Int), .int .u8 (hi:Int)] w fun e w'=>e= .returned (.bool false)∧w'=w :=
 (tail_any s n lo hi w hn hn2 hlo hhi).mono fun e w' ⟨b,he,hb,hw⟩=>⟨by rw [he];cases b with |false=>rfl|true=>exact absurd (hb.1 rfl) h,hw⟩
theorem not_empty (s:ByteArray) (h:0<s.size):s.toList.isEmpty=false:=by
 rw [ByteArray.toList_eq]
 cases hq:s.data.toList with
 |nil =>
  have:s.data.toList.length=s.size:=by simp
  rw [hq] at this
  simp at this
  omega
 |cons=>rfl
theorem wide_asc (s:ByteArray) (w:World) (h0:0<s.size) (hc:by8 s 0<128) :
 Calls prog 118 #[.string s] w fun e w'=>e= .returned (.int .i64 1)∧w'=w:=by
 have hne:=not_empty s h0
 have i0:=index_str s 0 w h0
 simp only [Int.cast_ofNat_Int] at i0
 have c128:(by8 s 0:Int)<128:=by omega
 go_enter func118,ntmps118
 go_wp2
 go_ret
 exact ⟨rfl,rfl⟩
theorem wide_lo (s:ByteArray) (w:World) (c:Nat) (h0:0<s.size) (hc:by8 s 0=c) (ha:128≤c) (hb:c≤193) :
 Calls prog 118 #[.string s] w fun e w'=>e= .returned (.int .i64 0)∧w'=w:=by
 have hne:=not_empty s h0
 have i0:=index_str s 0 w h0
 simp only [Int.cast_ofNat_Int] at i0
 rw [hc] at i0
 have c128:¬((c:Int)<128):=by omega
 have g194:¬(194≤(c:Int)):=by omega
 have l223:((c:Int)≤223):=by omega
 have e224:¬((c:Int)=224):=by omega
 have g225:¬(225≤(c:Int)):=by omega
 have l239:((c:Int)≤239):=by omega
 have e237:¬((c:Int)=237):=by omega
 have e240:¬((c:Int)=240):=by omega
 have g241:¬(241≤(c:Int)):=by omega
 have l243:((c:Int)≤243):=by omega
 have e244:¬((c:Int)=244):=by omega
 clear hc ha hb h0
 go_enter func118,ntmps118
 go_wp2
 go_ret
 exact ⟨rfl,rfl⟩
theorem wide_two_t (s:ByteArray) (w:World) (c:Nat) (h0:0<s.size) (hc:by8 s 0=c) (ha:194≤c) (hb:c≤223) (hT:TailP s 2 128 191) :
 Calls prog 118 #[.string s] w fun e w'=>e= .returned (.int .i64 2)∧w'=w:=by
 have hne:=not_empty s h0
 have i0:=index_str s 0 w h0
 simp only [Int.cast_ofNat_Int] at i0
 rw [hc] at i0
 have c128:¬((c:Int)<128):=by omega
 have g194:(194≤(c:Int)):=by omega
 have l223:((c:Int)≤223):=by omega
 have e224:¬((c:Int)=224):=by omega
 have g225:¬(225≤(c:Int)):=by omega
 have l239:((c:Int)≤239):=by omega
 have e237:¬((c:Int)=237):=by omega
 have e240:¬((c:Int)=240):=by omega
 have g241:¬(241≤(c:Int)):=by omega
 have l243:((c:Int)≤243):=by omega
 have e244:¬((c:Int)=244):=by omega
 have T:Hid (∀wx,Calls prog 150 #[.string s, .int .i64 2, .int .u8 128, .int .u8 191] wx fun e w'=>e= .returned (.bool true)∧w'=wx):=fun wx=>tail_true hT (by omega) (by omega) (by omega) (by omega) wx
 clear hT
 clear hc ha hb h0
 go_enter func118,ntmps118
 go_wp2_with (first|(go_at_call 150;refine (T.out _).mono ?_;rintro e _ ⟨rfl,rfl⟩)|fail)
 go_ret
 exact ⟨rfl,rfl⟩
theorem wide_two_f (s:ByteArray) (w:World) (c:Nat) (h0:0<s.size) (hc:by8 s 0=c) (ha:194≤c) (hb:c≤223) (hT:¬TailP s 2 128 191) :
 Calls prog 118 #[.string s] w fun e w'=>e= .returned (.int .i64 0)∧w'=w:=by
 have hne:=not_empty s h0
 have i0:=index_str s 0 w h0
 simp only [Int.cast_ofNat_Int] at i0
 rw [hc] at i0
 have c128:¬((c:Int)<128):=by omega
 have g194:(194≤(c:Int)):=by omega
 have l223:((c:Int)≤223):=by omega
 have e224:¬((c:Int)=224):=by omega
 have g225:¬(225≤(c:Int)):=by omega
 have l239:((c:Int)≤239):=by omega
 have e237:¬((c:Int)=237):=by omega
 have e240:¬((c:Int)=240):=by omega
 have g241:¬(241≤(c:Int)):=by omega
 have l243:((c:Int)≤243):=by omega
 have e244:¬((c:Int)=244):=by omega
 have T:Hid (∀wx,Calls prog 150 #[.string s, .int .i64 2, .int .u8 128, .int .u8 191] wx fun e w'=>e= .returned (.bool false)∧w'=wx):=fun wx=>tail_false hT (by omega) (by omega) (by omega) (by omega) wx
 clear hT
 clear hc ha hb h0
 go_enter func118,ntmps118
 go_wp2_with (first|(go_at_call 150;refine (T.out _).mono ?_;rintro e _ ⟨rfl,rfl⟩)|fail)
 go_ret
 exact ⟨rfl,rfl⟩
theorem wide_e0_t (s:ByteArray) (w:World) (c:Nat) (h0:0<s.size) (hc:by8 s 0=c) (ha:224≤c) (hb:c≤224) (hT:TailP s 3 160 191) :
 Calls prog 118 #[.string s] w fun e w'=>e= .returned (.int .i64 3)∧w'=w:=by
 have hne:=not_empty s h0
 have i0:=index_str s 0 w h0
 simp only [Int.cast_ofNat_Int] at i0
 rw [hc] at i0
 have c128:¬((c:Int)<128):=by omega
 have g194:(194≤(c:Int)):=by omega
 have l223:¬((c:Int)≤223):=by omega
 have e224:((c:Int)=224):=by omega
 have g225:¬(225≤(c:Int)):=by omega
 have l239:((c:Int)≤239):=by omega
 have e237:¬((c:Int)=237):=by omega
 have e240:¬((c:Int)=240):=by omega
 have g241:¬(241≤(c:Int)):=by omega
 have l243:((c:Int)≤243):=by omega
 have e244:¬((c:Int)=244):=by omega
 have T:Hid (∀wx,Calls prog 150 #[.string s, .int .i64 3, .int .u8 160, .int .u8 191] wx fun e w'=>e= .returned (.bool true)∧w'=wx):=fun wx=>tail_true hT (by omega) (by omega) (by omega) (by omega) wx
 clear hT
 clear hc ha hb h0
 go_enter func118,ntmps118
 go_wp2_with (first|(go_at_call 150;refine (T.out _).mono ?_;rintro e _ ⟨rfl,rfl⟩)|fail)
 go_ret
 exact ⟨rfl,rfl⟩
theorem wide_e0_f (s:ByteArray) (w:World) (c:Nat) (h0:0<s.size) (hc:by8 s 0=c) (ha:224≤c) (hb:c≤224) (hT:¬TailP s 3 160 191) :
 Calls prog 118 #[.string s] w fun e w'=>e= .returned (.int .i64 0)∧w'=w:=by
 have hne:=not_empty s h0
 have i0:=index_str s 0 w h0
 simp only [Int.cast_ofNat_Int] at i0
 rw [hc] at i0
 have c128:¬((c:Int)<128):=by omega
 have g194:(194≤(c:Int)):=by omega
 have l223:¬((c:Int)≤223):=by omega
 have e224:((c:Int)=224):=by omega
 have g225:¬(225≤(c:Int)):=by omega
 have l239:((c:Int)≤239):=by omega
 have e237:¬((c:Int)=237):=by omega
 have e240:¬((c:Int)=240):=by omega
 have g241:¬(241≤(c:Int)):=by omega
 have l243:((c:Int)≤243):=by omega
 have e244:¬((c:Int)=244):=by omega
 have T:Hid (∀wx,Calls prog 150 #[.string s, .int .i64 3, .int .u8 160, .int .u8 191] wx fun e w'=>e= .returned (.bool false)∧w'=wx):=fun wx=>tail_false hT (by omega) (by omega) (by omega) (by omega) wx
 clear hT
 clear hc ha hb h0
 go_enter func118,ntmps118
 go_wp2_with (first|(go_at_call 150;refine (T.out _).mono ?_;rintro e _ ⟨rfl,rfl⟩)|fail)
 go_ret
 exact ⟨rfl,rfl⟩
theorem wide_e1_t (s:ByteArray) (w:World) (c:Nat) (h0:0<s.size) (hc:by8 s 0=c) (ha:225≤c) (hb:c≤236) (hT:TailP s 3 128 191) :
 Calls prog 118 #[.string s] w fun e w'=>e= .returned (.int .i64 3)∧w'=w:=by
 have hne:=not_empty s h0
 have i0:=index_str s 0 w h0
 simp only [Int.cast_ofNat_Int] at i0
 rw [hc] at i0
 have c128:¬((c:Int)<128):=by omega
 have g194:(194≤(c:Int)):=by omega
 have l223:¬((c:Int)≤223):=by omega
 have e224:¬((c:Int)=224):=by omega
 have g225:(225≤(c:Int)):=by omega
 have l239:((c:Int)≤239):=by omega
 have e237:¬((c:Int)=237):=by omega
 have e240:¬((c:Int)=240):=by omega
 have g241:¬(241≤(c:Int)):=by omega
 have l243:((c:Int)≤243):=by omega
 have e244:¬((c:Int)=244):=by omega
 have T:Hid (∀wx,Calls prog 150 #[.string s, .int .i64 3, .int .u8 128, .int .u8 191] wx fun e w'=>e= .returned (.bool true)∧w'=wx):=fun wx=>tail_true hT (by omega) (by omega) (by omega) (by omega) wx
 clear hT
 clear hc ha hb h0
 go_enter func118,ntmps118
 go_wp2_with (first|(go_at_call 150;refine (T.out _).mono ?_;rintro e _ ⟨rfl,rfl⟩)|fail)
 go_ret
 exact ⟨rfl,rfl⟩
theorem wide_e1_f (s:ByteArray) (w:World) (c:Nat) (h0:0<s.size) (hc:by8 s 0=c) (ha:225≤c) (hb:c≤236) (hT:¬TailP s 3 128 191) :
 Calls prog 118 #[.string s] w fun e w'=>e= .returned (.int .i64 0)∧w'=w:=by
 have hne:=not_empty s h0
 have i0:=index_str s 0 w h0
 simp only [Int.cast_ofNat_Int] at i0
 rw [hc] at i0
 have c128:¬((c:Int)<128):=by omega
 have g194:(194≤(c:Int)):=by omega
 have l223:¬((c:Int)≤223):=by omega
 have e224:¬((c:Int)=224):=by omega
 have g225:(225≤(c:Int)):=by omega
 have l239:((c:Int)≤239):=by omega
 have e237:¬((c:Int)=237):=by omega
 have e240:¬((c:Int)=240):=by omega
 have g241:¬(241≤(c:Int)):=by omega
 have l243:((c:Int)≤243):=by omega
 have e244:¬((c:Int)=244):=by omega
 have T:Hid (∀wx,Calls prog 150 #[.string s, .int .i64 3, .int .u8 128, .int .u8 191] wx fun e w'=>e= .returned (.bool false)∧w'=wx):=fun wx=>tail_false hT (by omega) (by omega) (by omega) (by omega) wx
 clear hT
 clear hc ha hb h0
 go_enter func118,ntmps118
 go_wp2_with (first|(go_at_call 150;refine (T.out _).mono ?_;rintro e _ ⟨rfl,rfl⟩)|fail)
 go_ret
 exact ⟨rfl,rfl⟩
theorem wide_ed_t (s:ByteArray) (w:World) (c:Nat) (h0:0<s.size) (hc:by8 s 0=c) (ha:237≤c) (hb:c≤237) (hT:TailP s 3 128 159) :
 Calls prog 118 #[.string s] w fun e w'=>e= .returned (.int .i64 3)∧w'=w:=by
 have hne:=not_empty s h0
 have i0:=index_str s 0 w h0
 simp only [Int.cast_ofNat_Int] at i0
 rw [hc] at i0
 have c128:¬((c:Int)<128):=by omega
 have g194:(194≤(c:Int)):=by omega
 have l223:¬((c:Int)≤223):=by omega
 have e224:¬((c:Int)=224):=by omega
 have g225:(225≤(c:Int)):=by omega
 have l239:((c:Int)≤239):=by omega
 have e237:((c:Int)=237):=by omega
 have e240:¬((c:Int)=240):=by omega
 have g241:¬(241≤(c:Int)):=by omega
 have l243:((c:Int)≤243):=by omega
 have e244:¬((c:Int)=244):=by omega
 have T:Hid (∀wx,Calls prog 150 #[.string s, .int .i64 3, .int .u8 128, .int .u8 159] wx fun e w'=>e= .returned (.bool true)∧w'=wx):=fun wx=>tail_true hT (by omega) (by omega) (by omega) (by omega) wx
 clear hT
 clear hc ha hb h0
 go_enter func118,ntmps118
 go_wp2_with (first|(go_at_call 150;refine (T.out _).mono ?_;rintro e _ ⟨rfl,rfl⟩)|fail)
 go_ret
 exact ⟨rfl,rfl⟩
theorem wide_ed_f (s:ByteArray) (w:World) (c:Nat) (h0:0<s.size) (hc:by8 s 0=c) (ha:237≤c) (hb:c≤237) (hT:¬TailP s 3 128 159) :
 Calls prog 118 #[.string s] w fun e w'=>e= .returned (.int .i64 0)∧w'=w:=by
 have hne:=not_empty s h0
 have i0:=index_str s 0 w h0
 simp only [Int.cast_ofNat_Int] at i0
 rw [hc] at i0
 have c128:¬((c:Int)<128):=by omega
 have g194:(194≤(c:Int)):=by omega
 have l223:¬((c:Int)≤223):=by omega
 have e224:¬((c:Int)=224):=by omega
 have g225:(225≤(c:Int)):=by omega
 have l239:((c:Int)≤239):=by omega
 have e237:((c:Int)=237):=by omega
 have e240:¬((c:Int)=240):=by omega
 have g241:¬(241≤(c:Int)):=by omega
 have l243:((c:Int)≤243):=by omega
 have e244:¬((c:Int)=244):=by omega
 have T:Hid (∀wx,Calls prog 150 #[.string s, .int .i64 3, .int .u8 128, .int .u8 159] wx fun e w'=>e= .returned (.bool false)∧w'=wx):=fun wx=>tail_false hT (by omega) (by omega) (by omega) (by omega) wx
 clear hT
 clear hc ha hb h0
 go_enter func118,ntmps118
 go_wp2_with (first|(go_at_call 150;refine (T.out _).mono ?_;rintro e _ ⟨rfl,rfl⟩)|fail)
 go_ret
 exact ⟨rfl,rfl⟩
theorem wide_ee_t (s:ByteArray) (w:World) (c:Nat) (h0:0<s.size) (hc:by8 s 0=c) (ha:238≤c) (hb:c≤239) (hT:TailP s 3 128 191) :
 Calls prog 118 #[.string s] w fun e w'=>e= .returned (.int .i64 3)∧w'=w:=by
 have hne:=not_empty s h0
 have i0:=index_str s 0 w h0
 simp only [Int.cast_ofNat_Int] at i0
 rw [hc] at i0
 have c128:¬((c:Int)<128):=by omega
 have g194:(194≤(c:Int)):=by omega
 have l223:¬((c:Int)≤223):=by omega
 have e224:¬((c:Int)=224):=by omega
 have g225:(225≤(c:Int)):=by omega
 have l239:((c:Int)≤239):=by omega
 have e237:¬((c:Int)=237):=by omega
 have e240:¬((c:Int)=240):=by omega
 have g241:¬(241≤(c:Int)):=by omega
 have l243:((c:Int)≤243):=by omega
 have e244:¬((c:Int)=244):=by omega
 have T:Hid (∀wx,Calls prog 150 #[.string s, .int .i64 3, .int .u8 128, .int .u8 191] wx fun e w'=>e= .returned (.bool true)∧w'=wx):=fun wx=>tail_true hT (by omega) (by omega) (by omega) (by omega) wx
 clear hT
 clear hc ha hb h0
 go_enter func118,ntmps118
 go_wp2_with (first|(go_at_call 150;refine (T.out _).mono ?_;rintro e _ ⟨rfl,rfl⟩)|fail)
 go_ret
 exact ⟨rfl,rfl⟩
theorem wide_ee_f (s:ByteArray) (w:World) (c:Nat) (h0:0<s.size) (hc:by8 s 0=c) (ha:238≤c) (hb:c≤239) (hT:¬TailP s 3 128 191) :
 Calls prog 118 #[.string s] w fun e w'=>e= .returned (.int .i64 0)∧w'=w:=by
 have hne:=not_empty s h0
 have i0:=index_str s 0 w h0
 simp only [Int.cast_ofNat_Int] at i0
 rw [hc] at i0
 have c128:¬((c:Int)<128):=by omega
 have g194:(194≤(c:Int)):=by omega
 have l223:¬((c:Int)≤223):=by omega
 have e224:¬((c:Int)=224):=by omega
 have g225:(225≤(c:Int)):=by omega
 have l239:((c:Int)≤239):=by omega
 have e237:¬((c:Int)=237):=by omega
 have e240:¬((c:Int)=240):=by omega
 have g241:¬(241≤(c:Int)):=by omega
 have l243:((c:Int)≤243):=by omega
 have e244:¬((c:Int)=244):=by omega
 have T:Hid (∀wx,Calls prog 150 #[.string s, .int .i64 3, .int .u8 128, .int .u8 191] wx fun e w'=>e= .returned (.bool false)∧w'=wx):=fun wx=>tail_false hT (by omega) (by omega) (by omega) (by omega) wx
 clear hT
 clear hc ha hb h0
 go_enter func118,ntmps118
 go_wp2_with (first|(go_at_call 150;refine (T.out _).mono ?_;rintro e _ ⟨rfl,rfl⟩)|fail)
 go_ret
 exact ⟨rfl,rfl⟩
theorem wide_f0_t (s:ByteArray) (w:World) (c:Nat) (h0:0<s.size) (hc:by8 s 0=c) (ha:240≤c) (hb:c≤240) (hT:TailP s 4 144 191) :
 Calls prog 118 #[.string s] w fun e w'=>e= .returned (.int .i64 4)∧w'=w:=by
 have hne:=not_empty s h0
 have i0:=index_str s 0 w h0
 simp only [Int.cast_ofNat_Int] at i0
 rw [hc] at i0
 have c128:¬((c:Int)<128):=by omega
 have g194:(194≤(c:Int)):=by omega
 have l223:¬((c:Int)≤223):=by omega
 have e224:¬((c:Int)=224):=by omega
 have g225:(225≤(c:Int)):=by omega
 have l239:¬((c:Int)≤239):=by omega
 have e237:¬((c:Int)=237):=by omega
 have e240:((c:Int)=240):=by omega
 have g241:¬(241≤(c:Int)):=by omega
 have l243:((c:Int)≤243):=by omega
 have e244:¬((c:Int)=244):=by omega
 have T:Hid (∀wx,Calls prog 150 #[.string s, .int .i64 4, .int .u8 144, .int .u8 191] wx fun e w'=>e= .returned (.bool true)∧w'=wx):=fun wx=>tail_true hT (by omega) (by omega) (by omega) (by omega) wx
 clear hT
 clear hc ha hb h0
 go_enter func118,ntmps118
 go_wp2_with (first|(go_at_call 150;refine (T.out _).mono ?_;rintro e _ ⟨rfl,rfl⟩)|fail)
 go_ret
 exact ⟨rfl,rfl⟩
theorem wide_f0_f (s:ByteArray) (w:World) (c:Nat) (h0:0<s.size) (hc:by8 s 0=c) (ha:240≤c) (hb:c≤240) (hT:¬TailP s 4 144 191) :
 Calls prog 118 #[.string s] w fun e w'=>e= .returned (.int .i64 0)∧w'=w:=by
 have hne:=not_empty s h0
 have i0:=index_str s 0 w h0
 simp only [Int.cast_ofNat_Int] at i0
 rw [hc] at i0
 have c128:¬((c:Int)<128):=by omega
 have g194:(194≤(c:Int)):=by omega
 have l223:¬((c:Int)≤223):=by omega
 have e224:¬((c:Int)=224):=by omega
 have g225:(225≤(c:Int)):=by omega
 have l239:¬((c:Int)≤239):=by omega
 have e237:¬((c:Int)=237):=by omega
 have e240:((c:Int)=240):=by omega
 have g241:¬(241≤(c:Int)):=by omega
 have l243:((c:Int)≤243):=by omega
 have e244:¬((c:Int)=244):=by omega
 have T:Hid (∀wx,Calls prog 150 #[.string s, .int .i64 4, .int .u8 144, .int .u8 191] wx fun e w'=>e= .returned (.bool false)∧w'=wx):=fun wx=>tail_false hT (by omega) (by omega) (by omega) (by omega) wx
 clear hT
 clear hc ha hb h0
 go_enter func118,ntmps118
 go_wp2_with (first|(go_at_call 150;refine (T.out _).mono ?_;rintro e _ ⟨rfl,rfl⟩)|fail)
 go_ret
 exact ⟨rfl,rfl⟩
theorem wide_f1_t (s:ByteArray) (w:World) (c:Nat) (h0:0<s.size) (hc:by8 s 0=c) (ha:241≤c) (hb:c≤243) (hT:TailP s 4 128 191) :
 Calls prog 118 #[.string s] w fun e w'=>e= .returned (.int .i64 4)∧w'=w:=by
 have hne:=not_empty s h0
 have i0:=index_str s 0 w h0
 simp only [Int.cast_ofNat_Int] at i0
 rw [hc] at i0
 have c128:¬((c:Int)<128):=by omega
 have g194:(194≤(c:Int)):=by omega
 have l223:¬((c:Int)≤223):=by omega
 have e224:¬((c:Int)=224):=by omega
 have g225:(225≤(c:Int)):=by omega
 have l239:¬((c:Int)≤239):=by omega
 have e237:¬((c:Int)=237):=by omega
 have e240:¬((c:Int)=240):=by omega
 have g241:(241≤(c:Int)):=by omega
 have l243:((c:Int)≤243):=by omega
 have e244:¬((c:Int)=244):=by omega
 have T:Hid (∀wx,Calls prog 150 #[.string s, .int .i64 4, .int .u8 128, .int .u8 191] wx fun e w'=>e= .returned (.bool true)∧w'=wx):=fun wx=>tail_true hT (by omega) (by omega) (by omega) (by omega) wx
 clear hT
 clear hc ha hb h0
 go_enter func118,ntmps118
 go_wp2_with (first|(go_at_call 150;refine (T.out _).mono ?_;rintro e _ ⟨rfl,rfl⟩)|fail)
 go_ret
 exact ⟨rfl,rfl⟩
theorem wide_f1_f (s:ByteArray) (w:World) (c:Nat) (h0:0<s.size) (hc:by8 s 0=c) (ha:241≤c) (hb:c≤243) (hT:¬TailP s 4 128 191) :
 Calls prog 118 #[.string s] w fun e w'=>e= .returned (.int .i64 0)∧w'=w:=by
 have hne:=not_empty s h0
 have i0:=index_str s 0 w h0
 simp only [Int.cast_ofNat_Int] at i0
 rw [hc] at i0
 have c128:¬((c:Int)<128):=by omega
 have g194:(194≤(c:Int)):=by omega
 have l223:¬((c:Int)≤223):=by omega
 have e224:¬((c:Int)=224):=by omega
 have g225:(225≤(c:Int)):=by omega
 have l239:¬((c:Int)≤239):=by omega
 have e237:¬((c:Int)=237):=by omega
 have e240:¬((c:Int)=240):=by omega
 have g241:(241≤(c:Int)):=by omega
 have l243:((c:Int)≤243):=by omega
 have e244:¬((c:Int)=244):=by omega
 have T:Hid (∀wx,Calls prog 150 #[.string s, .int .i64 4, .int .u8 128, .int .u8 191] wx fun e w'=>e= .returned (.bool false)∧w'=wx):=fun wx=>tail_false hT (by omega) (by omega) (by omega) (by omega) wx
 clear hT
 clear hc ha hb h0
 go_enter func118,ntmps118
 go_wp2_with (first|(go_at_call 150;refine (T.out _).mono ?_;rintro e _ ⟨rfl,rfl⟩)|fail)
 go_ret
 exact ⟨rfl,rfl⟩
theorem wide_f4_t (s:ByteArray) (w:World) (c:Nat) (h0:0<s.size) (hc:by8 s 0=c) (ha:244≤c) (hb:c≤244) (hT:TailP s 4 128 143) :
 Calls prog 118 #[.string s] w fun e w'=>e= .returned (.int .i64 4)∧w'=w:=by
 have hne:=not_empty s h0
 have i0:=index_str s 0 w h0
 simp only [Int.cast_ofNat_Int] at i0
 rw [hc] at i0
 have c128:¬((c:Int)<128):=by omega
 have g194:(194≤(c:Int)):=by omega
 have l223:¬((c:Int)≤223):=by omega
 have e224:¬((c:Int)=224):=by omega
 have g225:(225≤(c:Int)):=by omega
 have l239:¬((c:Int)≤239):=by omega
 have e237:¬((c:Int)=237):=by omega
 have e240:¬((c:Int)=240):=by omega
 have g241:(241≤(c:Int)):=by omega
 have l243:¬((c:Int)≤243):=by omega
 have e244:((c:Int)=244):=by omega
 have T:Hid (∀wx,Calls prog 150 #[.string s, .int .i64 4, .int .u8 128, .int .u8 143] wx fun e w'=>e= .returned (.bool true)∧w'=wx):=fun wx=>tail_true hT (by omega) (by omega) (by omega) (by omega) wx
 clear hT
 clear hc ha hb h0
 go_enter func118,ntmps118
 go_wp2_with (first|(go_at_call 150;refine (T.out _).mono ?_;rintro e _ ⟨rfl,rfl⟩)|fail)
 go_ret
 exact ⟨rfl,rfl⟩
theorem wide_f4_f (s:ByteArray) (w:World) (c:Nat) (h0:0<s.size) (hc:by8 s 0=c) (ha:244≤c) (hb:c≤244) (hT:¬TailP s 4 128 143) :
 Calls prog 118 #[.string s] w fun e w'=>e= .returned (.int .i64 0)∧w'=w:=by
 have hne:=not_empty s h0
 have i0:=index_str s 0 w h0
 simp only [Int.cast_ofNat_Int] at i0
 rw [hc] at i0
 have c128:¬((c:Int)<128):=by omega
 have g194:(194≤(c:Int)):=by omega
 have l223:¬((c:Int)≤223):=by omega
 have e224:¬((c:Int)=224):=by omega
 have g225:(225≤(c:Int)):=by omega
 have l239:¬((c:Int)≤239):=by omega
 have e237:¬((c:Int)=237):=by omega
 have e240:¬((c:Int)=240):=by omega
 have g241:(241≤(c:Int)):=by omega
 have l243:¬((c:Int)≤243):=by omega
 have e244:((c:Int)=244):=by omega
 have T:Hid (∀wx,Calls prog 150 #[.string s, .int .i64 4, .int .u8 128, .int .u8 143] wx fun e w'=>e= .returned (.bool false)∧w'=wx):=fun wx=>tail_false hT (by omega) (by omega) (by omega) (by omega) wx
 clear hT
 clear hc ha hb h0
 go_enter func118,ntmps118
 go_wp2_with (first|(go_at_call 150;refine (T.out _).mono ?_;rintro e _ ⟨rfl,rfl⟩)|fail)
 go_ret
 exact ⟨rfl,rfl⟩
theorem wide_hi (s:ByteArray) (w:World) (c:Nat) (h0:0<s.size) (hc:by8 s 0=c) (ha:245≤c) (hb:c≤255) :
 Calls prog 118 #[.string s] w fun e w'=>e= .returned (.int .i64 0)∧w'=w:=by
 have hne:=not_empty s h0
 have i0:=index_str s 0 w h0
 simp only [Int.cast_ofNat_Int] at i0
 rw [hc] at i0
 have c128:¬((c:Int)<128):=by omega
 have g194:(194≤(c:Int)):=by omega
 have l223:¬((c:Int)≤223):=by omega
 have e224:¬((c:Int)=224):=by omega
 have g225:(225≤(c:Int)):=by omega
 have l239:¬((c:Int)≤239):=by omega
 have e237:¬((c:Int)=237):=by omega
 have e240:¬((c:Int)=240):=by omega
 have g241:(241≤(c:Int)):=by omega
 have l243:¬((c:Int)≤243):=by omega
 have e244:¬((c:Int)=244):=by omega
 clear hc ha hb h0
 go_enter func118,ntmps118
 go_wp2
 go_ret
 exact ⟨rfl,rfl⟩
end V
namespace V
theorem check_none (n b1 b2 b3 c lo hi:Nat) (h:c≠2) (h3:c≠3) (h4:c≠4):Lib.checkN n b1 b2 b3 c lo hi=none:=by
 unfold Lib.checkN
 rw [if_neg h,if_neg h3,if_neg h4]
theorem wideN_of (s:ByteArray) (c sz lo hi:Nat) (hc:by8 s 0=c) (h:¬c<128) (e1:Lib.firstT c % 8=sz) (e2:Lib.accLo (Lib.firstT c / 16)=lo) (e3:Lib.accHi (Lib.firstT c / 16)=hi) :
 wideN s=(Lib.checkN s.size (by8 s 1) (by8 s 2) (by8 s 3) sz lo hi).getD 0:=by
 unfold wideN
 rw [hc,if_neg h,e1,e2,e3]
theorem wide_any (s:ByteArray) (w:World) (h0:0<s.size) :
 Calls prog 118 #[.string s] w fun e w'=>e= .returned (.int .i64 (wideN s:Int))∧w'=w:=by
 by_cases h1:by8 s 0<128
 ·have e:wideN s=1:=by unfold wideN;rw [if_pos h1]
  rw [e]
  exact wide_asc s w h0 h1
 obtain ⟨c,hc⟩:∃c,by8 s 0=c:=⟨_,rfl⟩
 have hlt:=by8_lt s 0
 rw [hc] at h1 hlt
 by_cases c0:c≤193
 ·have e1:Lib.firstT c % 8=1:=by simp [Lib.firstT,show ¬c<128 by omega,show c<194 by omega,show c<224 by omega,show c<237 by omega,show c<240 by omega,show c<244 by omega,show ¬c=224 by omega,show ¬c=237 by omega,show ¬c=240 by omega,show ¬c=244 by omega]
  have e:wideN s=0:=by rw [wideN_of s c _ _ _ hc h1 e1 rfl rfl,check_none _ _ _ _ _ _ _ (by decide) (by decide) (by decide)];rfl
  rw [e]
  exact wide_lo s w c h0 hc (by omega) (by omega)
 by_cases c1:c≤223
 ·have e:wideN s=(Lib.checkN s.size (by8 s 1) (by8 s 2) (by8 s 3) 2 128 191).getD 0:=wideN_of s c _ _ _ hc h1 (by simp [Lib.firstT,show ¬c<128 by omega,show ¬c<194 by omega,show c<224 by omega,show c<237 by omega,show c<240 by omega,show c<244 by omega,show ¬c=224 by omega,show ¬c=237 by omega,show ¬c=240 by omega,show ¬c=244 by omega]) (by simp [Lib.firstT,Lib.accLo,show ¬c<128 by omega,show ¬c<194 by omega,show c<224 by omega,show c<237 by omega,show c<240 by omega,show c<244 by omega,show ¬c=224 by omega,show ¬c=237 by omega,show ¬c=240 by omega,show ¬c=244 by omega]) (by simp [Lib.firstT,Lib.accHi,show ¬c<128 by omega,show ¬c<194 by omega,show c<224 by omega,show c<237 by omega,show c<240 by omega,show c<244 by omega,show ¬c=224 by omega,show ¬c=237 by omega,show ¬c=240 by omega,show ¬c=244 by omega])
  rw [e]
  by_cases hT:TailP s 2 128 191
  ·rw [(tail_2 s 128 191).1 hT]
   exact wide_two_t s w c h0 hc (by omega) (by omega) hT
  ·rw [(tail_2 s 128 191).2 hT]
   exact wide_two_f s w c h0 hc (by omega) (by omega) hT
 by_cases c2:c≤224
 ·have e:wideN s=(Lib.checkN s.size (by8 s 1) (by8 s 2) (by8 s 3) 3 160 191).getD 0:=wideN_of s c _ _ _ hc h1 (by simp [Lib.firstT,show ¬c<128 by omega,show ¬c<194 by omega,show ¬c<224 by omega,show c<237 by omega,show c<240 by omega,show c<244 by omega,show ¬c=237 by omega,show ¬c=240 by omega,show ¬c=244 by omega,show c=224 by omega]) (by simp [Lib.firstT,Lib.accLo,show ¬c<128 by omega,show ¬c<194 by omega,show ¬c<224 by omega,show c<237 by omega,show c<240 by omega,show c<244 by omega,show ¬c=237 by omega,show ¬c=240 by omega,show ¬c=244 by omega,show c=224 by omega]) (by simp [Lib.firstT,Lib.accHi,show ¬c<128 by omega,show ¬c<194 by omega,show ¬c<224 by omega,show c<237 by omega,show c<240 by omega,show c<244 by omega,show ¬c=237 by omega,show ¬c=240 by omega,show ¬c=244 by omega,show c=224 by omega])
  rw [e]
  by_cases hT:TailP s 3 160 191
  ·rw [(tail_3 s 160 191).1 hT]
   exact wide_e0_t s w c h0 hc (by omega) (by omega) hT
  ·rw [(tail_3 s 160 191).2 hT]
   exact wide_e0_f s w c h0 hc (by omega) (by omega) hT
 by_cases c3:c≤236
 ·have e:wideN s=(Lib.checkN s.size (by8 s 1) (by8 s 2) (by8 s 3) 3 128 191).getD 0:=wideN_of s c _ _ _ hc h1 (by simp [Lib.firstT,show ¬c<128 by omega,show ¬c<194 by omega,show ¬c<224 by omega,show c<237 by omega,show c<240 by omega,show c<244 by omega,show ¬c=224 by omega,show ¬c=237 by omega,show ¬c=240 by omega,show ¬c=244 by omega]) (by simp [Lib.firstT,Lib.accLo,show ¬c<128 by omega,show ¬c<194 by omega,show ¬c<224 by omega,show c<237 by omega,show c<240 by omega,show c<244 by omega,show ¬c=224 by omega,show ¬c=237 by omega,show ¬c=240 by omega,show ¬c=244 by omega]) (by simp [Lib.firstT,Lib.accHi,show ¬c<128 by omega,show ¬c<194 by omega,show ¬c<224 by omega,show c<237 by omega,show c<240 by omega,show c<244 by omega,show ¬c=224 by omega,show ¬c=237 by omega,show ¬c=240 by omega,show ¬c=244 by omega])
  rw [e]
  by_cases hT:TailP s 3 128 191
  ·rw [(tail_3 s 128 191).1 hT]
   exact wide_e1_t s w c h0 hc (by omega) (by omega) hT
  ·rw [(tail_3 s 128 191).2 hT]
   exact wide_e1_f s w c h0 hc (by omega) (by omega) hT
 by_cases c4:c≤237
 ·have e:wideN s=(Lib.checkN s.size (by8 s 1) (by8 s 2) (by8 s 3) 3 128 159).getD 0:=wideN_of s c _ _ _ hc h1 (by simp [Lib.firstT,show ¬c<128 by omega,show ¬c<194 by omega,show ¬c<224 by omega,show ¬c<237 by omega,show c<240 by omega,show c<244 by omega,show ¬c=224 by omega,show ¬c=240 by omega,show ¬c=244 by omega,show c=237 by omega]) (by simp [Lib.firstT,Lib.accLo,show ¬c<128 by omega,show ¬c<194 by omega,show ¬c<224 by omega,show ¬c<237 by omega,show c<240 by omega,show c<244 by omega,show ¬c=224 by omega,show ¬c=240 by omega,show ¬c=244 by omega,show c=237 by omega]) (by simp [Lib.firstT,Lib.accHi,show ¬c<128 by omega,show ¬c<194 by omega,show ¬c<224 by omega,show ¬c<237 by omega,show c<240 by omega,show c<244 by omega,show ¬c=224 by omega,show ¬c=240 by omega,show ¬c=244 by omega,show c=237 by omega])
  rw [e]
  by_cases hT:TailP s 3 128 159
  ·rw [(tail_3 s 128 159).1 hT]
   exact wide_ed_t s w c h0 hc (by omega) (by omega) hT
  ·rw [(tail_3 s 128 159).2 hT]
   exact wide_ed_f s w c h0 hc (by omega) (by omega) hT
 by_cases c5:c≤239
 ·have e:wideN s=(Lib.checkN s.size (by8 s 1) (by8 s 2) (by8 s 3) 3 128 191).getD 0:=wideN_of s c _ _ _ hc h1 (by simp [Lib.firstT,show ¬c<128 by omega,show ¬c<194 by omega,show ¬c<224 by omega,show ¬c<237 by omega,show c<240 by omega,show c<244 by omega,show ¬c=224 by omega,show ¬c=237 by omega,show ¬c=240 by omega,show ¬c=244 by omega]) (by simp [Lib.firstT,Lib.accLo,show ¬c<128 by omega,show ¬c<194 by omega,show ¬c<224 by omega,show ¬c<237 by omega,show c<240 by omega,show c<244 by omega,show ¬c=224 by omega,show ¬c=237 by omega,show ¬c=240 by omega,show ¬c=244 by omega]) (by simp [Lib.firstT,Lib.accHi,show ¬c<128 by omega,show ¬c<194 by omega,show ¬c<224 by omega,show ¬c<237 by omega,show c<240 by omega,show c<244 by omega,show ¬c=224 by omega,show ¬c=237 by omega,show ¬c=240 by omega,show ¬c=244 by omega])
  rw [e]
  by_cases hT:TailP s 3 128 191
  ·rw [(tail_3 s 128 191).1 hT]
   exact wide_ee_t s w c h0 hc (by omega) (by omega) hT
  ·rw [(tail_3 s 128 191).2 hT]
   exact wide_ee_f s w c h0 hc (by omega) (by omega) hT
 by_cases c6:c≤240
 ·have e:wideN s=(Lib.checkN s.size (by8 s 1) (by8 s 2) (by8 s 3) 4 144 191).getD 0:=wideN_of s c _ _ _ hc h1 (by simp [Lib.firstT,show ¬c<128 by omega,show ¬c<194 by omega,show ¬c<224 by omega,show ¬c<237 by omega,show ¬c<240 by omega,show c<244 by omega,show ¬c=224 by omega,show ¬c=237 by omega,show ¬c=244 by omega,show c=240 by omega]) (by simp [Lib.firstT,Lib.accLo,show ¬c<128 by omega,show ¬c<194 by omega,show ¬c<224 by omega,show ¬c<237 by omega,show ¬c<240 by omega,show c<244 by omega,show ¬c=224 by omega,show ¬c=237 by omega,show ¬c=244 by omega,show c=240 by omega]) (by simp [Lib.firstT,Lib.accHi,show ¬c<128 by omega,show ¬c<194 by omega,show ¬c<224 by omega,show ¬c<237 by omega,show ¬c<240 by omega,show c<244 by omega,show ¬c=224 by omega,show ¬c=237 by omega,show ¬c=244 by omega,show c=240 by omega])
  rw [e]
  by_cases hT:TailP s 4 144 191
  ·rw [(tail_4 s 144 191).1 hT]
   exact wide_f0_t s w c h0 hc (by omega) (by omega) hT
  ·rw [(tail_4 s 144 191).2 hT]
   exact wide_f0_f s w c h0 hc (by omega) (by omega) hT
 by_cases c7:c≤243
 ·have e:wideN s=(Lib.checkN s.size (by8 s 1) (by8 s 2) (by8 s 3) 4 128 191).getD 0:=wideN_of s c _ _ _ hc h1 (by simp [Lib.firstT,show ¬c<128 by omega,show ¬c<194 by omega,show ¬c<224 by omega,show ¬c<237 by omega,show ¬c<240 by omega,show c<244 by omega,show ¬c=224 by omega,show ¬c=237 by omega,show ¬c=240 by omega,show ¬c=244 by omega]) (by simp [Lib.firstT,Lib.accLo,show ¬c<128 by omega,show ¬c<194 by omega,show ¬c<224 by omega,show ¬c<237 by omega,show ¬c<240 by omega,show c<244 by omega,show ¬c=224 by omega,show ¬c=237 by omega,show ¬c=240 by omega,show ¬c=244 by omega]) (by simp [Lib.firstT,Lib.accHi,show ¬c<128 by omega,show ¬c<194 by omega,show ¬c<224 by omega,show ¬c<237 by omega,show ¬c<240 by omega,show c<244 by omega,show ¬c=224 by omega,show ¬c=237 by omega,show ¬c=240 by omega,show ¬c=244 by omega])
  rw [e]
  by_cases hT:TailP s 4 128 191
  ·rw [(tail_4 s 128 191).1 hT]
   exact wide_f1_t s w c h0 hc (by omega) (by omega) hT
  ·rw [(tail_4 s 128 191).2 hT]
   exact wide_f1_f s w c h0 hc (by omega) (by omega) hT
 by_cases c8:c≤244
 ·have e:wideN s=(Lib.checkN s.size (by8 s 1) (by8 s 2) (by8 s 3) 4 128 143).getD 0:=wideN_of s c _ _ _ hc h1 (by simp [Lib.firstT,show ¬c<128 by omega,show ¬c<194 by omega,show ¬c<224 by omega,show ¬c<237 by omega,show ¬c<240 by omega,show ¬c<244 by omega,show ¬c=224 by omega,show ¬c=237 by omega,show ¬c=240 by omega,show c=244 by omega]) (by simp [Lib.firstT,Lib.accLo,show ¬c<128 by omega,show ¬c<194 by omega,show ¬c<224 by omega,show ¬c<237 by omega,show ¬c<240 by omega,show ¬c<244 by omega,show ¬c=224 by omega,show ¬c=237 by omega,show ¬c=240 by omega,show c=244 by omega]) (by simp [Lib.firstT,Lib.accHi,show ¬c<128 by omega,show ¬c<194 by omega,show ¬c<224 by omega,show ¬c<237 by omega,show ¬c<240 by omega,show ¬c<244 by omega,show ¬c=224 by omega,show ¬c=237 by omega,show ¬c=240 by omega,show c=244 by omega])
  rw [e]
  by_cases hT:TailP s 4 128 143
  ·rw [(tail_4 s 128 143).1 hT]
   exact wide_f4_t s w c h0 hc (by omega) (by omega) hT
  ·rw [(tail_4 s 128 143).2 hT]
   exact wide_f4_f s w c h0 hc (by omega) (by omega) hT
 have e1:Lib.firstT c % 8=1:=by simp [Lib.firstT,show ¬c<128 by omega,show ¬c<194 by omega,show ¬c<224 by omega,show ¬c<237 by omega,show ¬c<240 by omega,show ¬c<244 by omega,show ¬c=224 by omega,show ¬c=237 by omega,show ¬c=240 by omega,show ¬c=244 by omega]
 have e:wideN s=0:=by rw [wideN_of s c _ _ _ hc h1 e1 rfl rfl,check_none _ _ _ _ _ _ _ (by decide) (by decide) (by decide)];rfl
 rw [e]
 exact wide_hi s w c h0 hc (by omega) (by omega)
theorem check_le {n b1 b2 b3 sz lo hi k:Nat} (h:Lib.checkN n b1 b2 b3 sz lo hi=some k):k≤n∧2≤k:=by
 unfold Lib.checkN at h
 repeat' split at h
 all_goals first|(cases h;done)|(simp at h;omega)
theorem wideN_le (s:ByteArray) (h0:0<s.size):wideN s≤s.size:=by
 unfold wideN
 split
 ·omega
 ·cases hq:Lib.checkN s.size (by8 s 1) (by8 s 2) (by8 s 3) (Lib.firstT (by8 s 0) % 8) (Lib.accLo (Lib.firstT (by8 s 0) / 16)) (Lib.accHi (Lib.firstT (by8 s 0) / 16)) with
  |none=>simp
  |some k=>simpa using (check_le hq).1
theorem ne_nil {s:ByteArray} (h0:0<s.size):s.data.toList≠[]:=by
 intro e
 have:s.data.toList.length=s.size:=by simp
 rw [e] at this
 simp at this
 omega
theorem valid_wide (s:ByteArray) (h0:0<s.size):Lib.validD s.data.toList=if wideN s=0 then false else Lib.validD (s.data.toList.drop (wideN s)):=by
 have hne:=ne_nil h0
 by_cases h1:by8 s 0<128
 ·have e:wideN s=1:=by unfold wideN;rw [if_pos h1]
  rw [e,if_neg (by decide)]
  unfold by8 at h1
  cases hl:s.data.toList with
  |nil=>exact absurd hl hne
  |cons b t =>
   rw [hl] at h1
   exact Lib.validD_cons b t (by simpa using h1)
 ·have h128:128≤(s.data.toList.getD 0 0).toNat:=by unfold by8 at h1;omega
  rw [Lib.validD_lead _ hne h128]
  have hlen:s.data.toList.length=s.size:=by simp
  rw [hlen]
  show (match Lib.checkN s.size (by8 s 1) (by8 s 2) (by8 s 3) (Lib.firstT (by8 s 0) % 8) (Lib.accLo (Lib.firstT (by8 s 0) / 16)) (Lib.accHi (Lib.firstT (by8 s 0) / 16)) with |none=>false|some k=>Lib.validD (s.data.toList.drop k))=_
  cases hq:Lib.checkN s.size (by8 s 1) (by8 s 2) (by8 s 3) (Lib.firstT (by8 s 0) % 8) (Lib.accLo (Lib.firstT (by8 s 0) / 16)) (Lib.accHi (Lib.firstT (by8 s 0) / 16)) with
  |none =>
   have e:wideN s=0:=by unfold wideN;rw [if_neg h1,hq];rfl
   rw [e,if_pos rfl]
  |some k =>
   have e:wideN s=k:=by unfold wideN;rw [if_neg h1,hq];rfl
   have:=(check_le hq).2
   rw [e,if_neg (by omega)]
theorem utf8_any (s:ByteArray) (w:World) (hs:s.size≤140737488355328) :
 Calls prog 93 #[.string s] w fun e w'=>e= .returned (.bool (Lib.validD s.data.toList))∧w'=w:=by
 obtain ⟨A,hA⟩:∃A,Lib.validD s.data.toList=A:=⟨_,rfl⟩
 rw [hA]
 have HA:Hid (Lib.validD s.data.toList=A):=hA
 clear hA
 go_enter func93,ntmps93
 go_wp2
 go_loopw [3] (fun i wr=> ∃k:Nat,k≤s.size∧i= .int .i64 k∧wr=w∧Hid (Lib.validD (s.data.toList.drop k)=A)) (fun i _=>s.size-(intOf i).toNat)
 case atStart=>exact ⟨0,by omega,rfl,rfl,HA⟩
 case round =>
  obtain ⟨k,hk,rfl,rfl,hv⟩:=hrel
  by_cases h1:k<s.size
  ·have h1':(k:Int)<(s.size:Int):=by omega
   obtain ⟨t,ht⟩:∃t,s.extract k s.size=t:=⟨_,rfl⟩
   have zt:t.size=s.size-k:=by rw [←ht,Lib.ext_size]
   have lt:t.data.toList=s.data.toList.drop k:=by rw [←ht,Lib.ext_list]
   have ht':Hid (s.extract k s.size=t):=ht
   have VW:=valid_wide t (by omega)
   have WL:=wideN_le t (by omega)
   have HW:Hid (∀wx,Calls prog 118 #[.string t] wx fun e w'=>e= .returned (.int .i64 (wideN t:Int))∧w'=wx):=fun wx=>wide_any t wx (by omega)
   rw [lt] at VW
   rw [hv.out] at VW
   generalize wideN t=n at *
   have VW':Hid (A=if n=0 then false else Lib.validD ((s.data.toList.drop k).drop n)):=VW
   clear VW HA
   by_cases h0:n=0
   ·subst h0
    obtain rfl:A=false:=VW'.out.trans (if_pos rfl)
    clear VW'
    go_wp2_with fail
    refine (HW.out _).mono ?_
    rintro e _ ⟨rfl,rfl⟩
    go_wp2
    go_ret
    exact ⟨rfl,rfl⟩
   ·have e2:Hid (Lib.validD (s.data.toList.drop (k+n))=A):=by
     show _=_
     rw [VW'.out,if_neg h0,List.drop_drop]
    have hn0:¬(n:Int)=0:=by omega
    clear VW'
    go_wp2_with fail
    refine (HW.out _).mono ?_
    rintro e W ⟨rfl,rfl⟩
    go_wp2
    go_roundw
    case rel=>exact ⟨k+n,by omega,by go_num,by trivial,e2⟩
    case measure=>simp [intOf];omega
  ·have h1':¬(k:Int)<(s.size:Int):=by omega
   obtain rfl:A=true:=by
        rw [←hv.out,List.drop_eq_nil_of_le (by simp;omega)]
        rfl
   clear HA hv
   go_wp2
   go_ret
   exact ⟨rfl,rfl⟩
end V
end K
namespace K
open Go.RowKit Go.Shelf
namespace V
def laysValid_ren:Go.Shelf.Ren:=⟨fun |196=>94|259=>119|n=>n,fun |9=>9|4=>4|3=>3|5=>5|12=>12|119=>177|0=>0|46=>156|139=>180|138=>179|53=>123|n=>n,fun |3=>1|4=>2|n=>n⟩
theorem laysValid:Lays.n196 prog laysValid_ren:={
 mixed:=by kernel_rfl
 f196:=func94.trans (congrArg some (by kernel_rfl))
 f259:=func119.trans (congrArg some (by kernel_rfl))
 t0:=underlying0
 a0:=Tryz.isAgg0
 z0:=Tryz.sizeOf0
 v0:=Tryz.zeroValue0
 t3:=underlying3
 a3:=Tryz.isAgg3
 z3:=Tryz.sizeOf3
 v3:=Tryz.zeroValue3
 t4:=underlying4
 a4:=Tryz.isAgg4
 z4:=Tryz.sizeOf4
 v4:=Tryz.zeroValue4
 t5:=underlying5
 a5:=Tryz.isAgg5
 z5:=Tryz.sizeOf5
 v5:=Tryz.zeroValue5
 t9:=underlying9
 a9:=Tryz.isAgg9
 z9:=Tryz.sizeOf9
 v9:=Tryz.zeroValue9
 t12:=underlying12
 a12:=Tryz.isAgg12
 z12:=Tryz.sizeOf12
 v12:=Tryz.zeroValue12
 t46:=underlying156
 a46:=Tryz.isAgg156
 z46:=Tryz.sizeOf156
 v46:=Tryz.zeroValue156
 t53:=underlying123
 a53:=Tryz.isAgg123
 z53:=Tryz.sizeOf123
 v53:=Tryz.zeroValue123
 t119:=underlying177
 a119:=Tryz.isAgg177
 z119:=Tryz.sizeOf177
 t138:=underlying179
 a138:=Tryz.isAgg179
 z138:=Tryz.sizeOf179
 v138:=Tryz.zeroValue179
 t139:=underlying180
 a139:=Tryz.isAgg180
 z139:=Tryz.sizeOf180
 v139:=Tryz.zeroValue180
 g3:=by kernel_rfl
 g4:=by kernel_rfl}
def Tabs (w:World):Prop:=Lib.Utf8Tabs 1 2 w
theorem Tabs.below {w w':World} (h:Tabs w) (hb:Below w.heap.size w w'):Tabs w':=Utf8Tabs_below h hb
theorem valid_any (s:ByteArray) (w:World) (hs:s.size≤9223372036854775807) (hT:Tabs w) :
 Calls prog 94 #[.string s] w fun e w'=>e= .returned (.bool (Lib.validD s.data.toList))∧Below w.heap.size w w' :=
 Any.utf8_ValidString laysValid s w hs hT
end V
end K
namespace K
open Go.RowKit
namespace V
def rightB (k n:Int) (f:Nat) (s:ByteArray):Bool :=
 if k=1 then (decide (n=0)||decide (n=1))&&decide (f=0)&&s.toList.isEmpty
 else if k=2∨k=7 then decide (f=0)&&s.toList.isEmpty
 else if k=5 then decide (n=0)&&decide (f=0)&&decide ((s.size:Int)≤1000)
 else if k=6 then decide (0≤n)&&decide (n≤9007199254740992)&&decide (f=0)&&s.toList.isEmpty
 else if k≤11 then decide (n=0)&&decide (f=0)&&s.toList.isEmpty else false
theorem right26_0 (n:Int) (f:Nat) (s:ByteArray) (w:World) :
 Calls prog 71 #[.agg #[.int .u8 0, .int .i64 n, .float .f64 f, .string s]] w fun e w'=>e= .returned (.bool (rightB 0 n f s))∧Below w.heap.size w w':=by
 go_enter func71,ntmps71
 go_wp2
 go_quiet (fail)
 go_wp2
 all_goals
  go_ret
  refine ⟨?_, ?_⟩
  ·first|(simp [rightB, *];done)|(simp [rightB, *];omega)
  ·first|exact bel_box _ _ _|exact below_drewN (bel_box _ _ _) _
theorem right26_1 (n:Int) (f:Nat) (s:ByteArray) (w:World) :
 Calls prog 71 #[.agg #[.int .u8 1, .int .i64 n, .float .f64 f, .string s]] w fun e w'=>e= .returned (.bool (rightB 1 n f s))∧Below w.heap.size w w':=by
 go_enter func71,ntmps71
 go_wp2
 go_quiet (fail)
 go_wp2
 all_goals
  go_ret
  refine ⟨?_, ?_⟩
  ·first|(simp [rightB, *];done)|(simp [rightB, *];omega)
  ·first|exact bel_box _ _ _|exact below_drewN (bel_box _ _ _) _
theorem right26_2 (n:Int) (f:Nat) (s:ByteArray) (w:World) :
 Calls prog 71 #[.agg #[.int .u8 2, .int .i64 n, .float .f64 f, .string s]] w fun e w'=>e= .returned (.bool (rightB 2 n f s))∧Below w.heap.size w w':=by
 go_enter func71,ntmps71
 go_wp2
 go_quiet (fail)
 go_wp2
 all_goals
  go_ret
  refine ⟨?_, ?_⟩
  ·first|(simp [rightB, *];done)|(simp [rightB, *];omega)
  ·first|exact bel_box _ _ _|exact below_drewN (bel_box _ _ _) _
theorem right26_5 (n:Int) (f:Nat) (s:ByteArray) (w:World) :
 Calls prog 71 #[.agg #[.int .u8 5, .int .i64 n, .float .f64 f, .string s]] w fun e w'=>e= .returned (.bool (rightB 5 n f s))∧Below w.heap.size w w':=by
 go_enter func71,ntmps71
 go_wp2
 go_quiet (fail)
 go_wp2
 all_goals
  go_ret
  refine ⟨?_, ?_⟩
  ·first|(simp [rightB, *];done)|(simp [rightB, *];omega)
  ·first|exact bel_box _ _ _|exact below_drewN (bel_box _ _ _) _
theorem right26_6 (n:Int) (f:Nat) (s:ByteArray) (w:World) :
 Calls prog 71 #[.agg #[.int .u8 6, .int .i64 n, .float .f64 f, .string s]] w fun e w'=>e= .returned (.bool (rightB 6 n f s))∧Below w.heap.size w w':=by
 go_enter func71,ntmps71
 go_wp2
 go_quiet (fail)
 go_wp2
 all_goals
  go_ret
  refine ⟨?_, ?_⟩
  ·first|(simp [rightB, *];done)|(simp [rightB, *];omega)
  ·first|exact bel_box _ _ _|exact below_drewN (bel_box _ _ _) _
theorem right26_7 (n:Int) (f:Nat) (s:ByteArray) (w:World) :
 Calls prog 71 #[.agg #[.int .u8 7, .int .i64 n, .float .f64 f, .string s]] w fun e w'=>e= .returned (.bool (rightB 7 n f s))∧Below w.heap.size w w':=by
 go_enter func71,ntmps71
 go_wp2
 go_quiet (fail)
 go_wp2
 all_goals
  go_ret
  refine ⟨?_, ?_⟩
  ·first|(simp [rightB, *];done)|(simp [rightB, *];omega)
  ·first|exact bel_box _ _ _|exact below_drewN (bel_box _ _ _) _
theorem right26_8 (n:Int) (f:Nat) (s:ByteArray) (w:World) :
 Calls prog 71 #[.agg #[.int .u8 8, .int .i64 n, .float .f64 f, .string s]] w fun e w'=>e= .returned (.bool (rightB 8 n f s))∧Below w.heap.size w w':=by
 go_enter func71,ntmps71
 go_wp2
 go_quiet (fail)
 go_wp2
 all_goals
  go_ret
  refine ⟨?_, ?_⟩
  ·first|(simp [rightB, *];done)|(simp [rightB, *];omega)
  ·first|exact bel_box _ _ _|exact below_drewN (bel_box _ _ _) _
theorem right26_9 (n:Int) (f:Nat) (s:ByteArray) (w:World) :
 Calls prog 71 #[.agg #[.int .u8 9, .int .i64 n, .float .f64 f, .string s]] w fun e w'=>e= .returned (.bool (rightB 9 n f s))∧Below w.heap.size w w':=by
 go_enter func71,ntmps71
 go_wp2
 go_quiet (fail)
 go_wp2
 all_goals
  go_ret
  refine ⟨?_, ?_⟩
  ·first|(simp [rightB, *];done)|(simp [rightB, *];omega)
  ·first|exact bel_box _ _ _|exact below_drewN (bel_box _ _ _) _
theorem right26_10 (n:Int) (f:Nat) (s:ByteArray) (w:World) :
 Calls prog 71 #[.agg #[.int .u8 10, .int .i64 n, .float .f64 f, .string s]] w fun e w'=>e= .returned (.bool (rightB 10 n f s))∧Below w.heap.size w w':=by
 go_enter func71,ntmps71
 go_wp2
 go_quiet (fail)
 go_wp2
 all_goals
  go_ret
  refine ⟨?_, ?_⟩
  ·first|(simp [rightB, *];done)|(simp [rightB, *];omega)
  ·first|exact bel_box _ _ _|exact below_drewN (bel_box _ _ _) _
theorem right26_11 (n:Int) (f:Nat) (s:ByteArray) (w:World) :
 Calls prog 71 #[.agg #[.int .u8 11, .int .i64 n, .float .f64 f, .string s]] w fun e w'=>e= .returned (.bool (rightB 11 n f s))∧Below w.heap.size w w':=by
 go_enter func71,ntmps71
 go_wp2
 go_quiet (fail)
 go_wp2
 all_goals
  go_ret
  refine ⟨?_, ?_⟩
  ·first|(simp [rightB, *];done)|(simp [rightB, *];omega)
  ·first|exact bel_box _ _ _|exact below_drewN (bel_box _ _ _) _
theorem right27_0 (n:Int) (f:Nat) (s:ByteArray) (w:World) :
 Calls prog 67 #[.agg #[.int .u8 0, .int .i64 n, .float .f64 f, .string s]] w fun e w'=>e= .returned (.bool (rightB 0 n f s))∧Below w.heap.size w w':=by
 go_enter func67,ntmps67
 go_wp2
 go_wp2
 all_goals
  go_ret
  refine ⟨?_, ?_⟩
  ·first|(simp [rightB, *];done)|(simp [rightB, *];omega)
  ·first|exact bel_box _ _ _|exact below_drewN (bel_box _ _ _) _
theorem right27_1 (n:Int) (f:Nat) (s:ByteArray) (w:World) :
 Calls prog 67 #[.agg #[.int .u8 1, .int .i64 n, .float .f64 f, .string s]] w fun e w'=>e= .returned (.bool (rightB 1 n f s))∧Below w.heap.size w w':=by
 go_enter func67,ntmps67
 go_wp2
 go_wp2
 all_goals
  go_ret
  refine ⟨?_, ?_⟩
  ·first|(simp [rightB, *];done)|(simp [rightB, *];omega)
  ·first|exact bel_box _ _ _|exact below_drewN (bel_box _ _ _) _
theorem right27_2 (n:Int) (f:Nat) (s:ByteArray) (w:World) :
 Calls prog 67 #[.agg #[.int .u8 2, .int .i64 n, .float .f64 f, .string s]] w fun e w'=>e= .returned (.bool (rightB 2 n f s))∧Below w.heap.size w w':=by
 go_enter func67,ntmps67
 go_wp2
 go_wp2
 all_goals
  go_ret
  refine ⟨?_, ?_⟩
  ·first|(simp [rightB, *];done)|(simp [rightB, *];omega)
  ·first|exact bel_box _ _ _|exact below_drewN (bel_box _ _ _) _
theorem right27_5 (n:Int) (f:Nat) (s:ByteArray) (w:World) :
 Calls prog 67 #[.agg #[.int .u8 5, .int .i64 n, .float .f64 f, .string s]] w fun e w'=>e= .returned (.bool (rightB 5 n f s))∧Below w.heap.size w w':=by
 go_enter func67,ntmps67
 go_wp2
 go_wp2
 all_goals
  go_ret
  refine ⟨?_, ?_⟩
  ·first|(simp [rightB, *];done)|(simp [rightB, *];omega)
  ·first|exact bel_box _ _ _|exact below_drewN (bel_box _ _ _) _
theorem right27_6 (n:Int) (f:Nat) (s:ByteArray) (w:World) :
 Calls prog 67 #[.agg #[.int .u8 6, .int .i64 n, .float .f64 f, .string s]] w fun e w'=>e= .returned (.bool (rightB 6 n f s))∧Below w.heap.size w w':=by
 go_enter func67,ntmps67
 go_wp2
 go_wp2
 all_goals
  go_ret
  refine ⟨?_, ?_⟩
  ·first|(simp [rightB, *];done)|(simp [rightB, *];omega)
  ·first|exact bel_box _ _ _|exact below_drewN (bel_box _ _ _) _
theorem right27_7 (n:Int) (f:Nat) (s:ByteArray) (w:World) :
 Calls prog 67 #[.agg #[.int .u8 7, .int .i64 n, .float .f64 f, .string s]] w fun e w'=>e= .returned (.bool (rightB 7 n f s))∧Below w.heap.size w w':=by
 go_enter func67,ntmps67
 go_wp2
 go_wp2
 all_goals
  go_ret
  refine ⟨?_, ?_⟩
  ·first|(simp [rightB, *];done)|(simp [rightB, *];omega)
  ·first|exact bel_box _ _ _|exact below_drewN (bel_box _ _ _) _
theorem right27_8 (n:Int) (f:Nat) (s:ByteArray) (w:World) :
 Calls prog 67 #[.agg #[.int .u8 8, .int .i64 n, .float .f64 f, .string s]] w fun e w'=>e= .returned (.bool (rightB 8 n f s))∧Below w.heap.size w w':=by
 go_enter func67,ntmps67
 go_wp2
 go_wp2
 all_goals
  go_ret
  refine ⟨?_, ?_⟩
  ·first|(simp [rightB, *];done)|(simp [rightB, *];omega)
  ·first|exact bel_box _ _ _|exact below_drewN (bel_box _ _ _) _
theorem right27_9 (n:Int) (f:Nat) (s:ByteArray) (w:World) :
 Calls prog 67 #[.agg #[.int .u8 9, .int .i64 n, .float .f64 f, .string s]] w fun e w'=>e= .returned (.bool (rightB 9 n f s))∧Below w.heap.size w w':=by
 go_enter func67,ntmps67
 go_wp2
 go_wp2
 all_goals
  go_ret
  refine ⟨?_, ?_⟩
  ·first|(simp [rightB, *];done)|(simp [rightB, *];omega)
  ·first|exact bel_box _ _ _|exact below_drewN (bel_box _ _ _) _
theorem right27_10 (n:Int) (f:Nat) (s:ByteArray) (w:World) :
 Calls prog 67 #[.agg #[.int .u8 10, .int .i64 n, .float .f64 f, .string s]] w fun e w'=>e= .returned (.bool (rightB 10 n f s))∧Below w.heap.size w w':=by
 go_enter func67,ntmps67
 go_wp2
 go_wp2
 all_goals
  go_ret
  refine ⟨?_, ?_⟩
  ·first|(simp [rightB, *];done)|(simp [rightB, *];omega)
  ·first|exact bel_box _ _ _|exact below_drewN (bel_box _ _ _) _
theorem right27_11 (n:Int) (f:Nat) (s:ByteArray) (w:World) :
 Calls prog 67 #[.agg #[.int .u8 11, .int .i64 n, .float .f64 f, .string s]] w fun e w'=>e= .returned (.bool (rightB 11 n f s))∧Below w.heap.size w w':=by
 go_enter func67,ntmps67
 go_wp2
 go_wp2
 all_goals
  go_ret
  refine ⟨?_, ?_⟩
  ·first|(simp [rightB, *];done)|(simp [rightB, *];omega)
  ·first|exact bel_box _ _ _|exact below_drewN (bel_box _ _ _) _
theorem right26_o (k n:Int) (f:Nat) (s:ByteArray) (w:World) (hk:12≤k) :
 Calls prog 71 #[.agg #[.int .u8 k, .int .i64 n, .float .f64 f, .string s]] w fun e w'=>e= .returned (.bool false)∧Below w.heap.size w w':=by
 have h0:¬k=0:=by omega
 have h1:¬k=1:=by omega
 have h2:¬k=2:=by omega
 have h3:¬k=3:=by omega
 have h4:¬k=4:=by omega
 have h5:¬k=5:=by omega
 have h6:¬k=6:=by omega
 have h7:¬k=7:=by omega
 have h8:¬k=8:=by omega
 have h9:¬k=9:=by omega
 have h10:¬k=10:=by omega
 have h11:¬k=11:=by omega
 go_enter func71,ntmps71
 go_wp2
 go_quiet (fail)
 go_wp2
 all_goals
  go_ret
  refine ⟨?_, ?_⟩
  ·first|rfl|(simp [rightB, *];done)|(simp [rightB, *];omega)
  ·first|exact bel_box _ _ _|exact below_drewN (bel_box _ _ _) _
theorem right27_o (k n:Int) (f:Nat) (s:ByteArray) (w:World) (hk:12≤k) :
 Calls prog 67 #[.agg #[.int .u8 k, .int .i64 n, .float .f64 f, .string s]] w fun e w'=>e= .returned (.bool false)∧Below w.heap.size w w':=by
 have h0:¬k=0:=by omega
 have h1:¬k=1:=by omega
 have h2:¬k=2:=by omega
 have h3:¬k=3:=by omega
 have h4:¬k=4:=by omega
 have h5:¬k=5:=by omega
 have h6:¬k=6:=by omega
 have h7:¬k=7:=by omega
 have h8:¬k=8:=by omega
 have h9:¬k=9:=by omega
 have h10:¬k=10:=by omega
 have h11:¬k=11:=by omega
 go_enter func67,ntmps67
 go_wp2
 go_wp2
 all_goals
  go_ret
  refine ⟨?_, ?_⟩
  ·first|rfl|(simp [rightB, *];done)|(simp [rightB, *];omega)
  ·first|exact bel_box _ _ _|exact below_drewN (bel_box _ _ _) _
end V
end K
namespace K
theorem cmp_congr {a b c d:Int} (h1:a<b↔c<d) (h2:a=b↔c=d):compare a b=compare c d:=by
 simp only [compare,compareOfLessAndEq,h1,h2]
def fval (r:Nat):Nat:=if r<2^52 then r else (2^52+r % 2^52)*2^(r / 2^52-1)
theorem fval_step (r:Nat):fval r<fval (r+1):=by
 unfold fval
 by_cases h:r+1<2^52
 ·rw [if_pos (by omega),if_pos h];omega
 ·by_cases h2:r<2^52
  ·rw [if_pos h2,if_neg h]
   have e:r+1=2^52:=by omega
   rw [e]
   have e2:(2^52+2^52 % 2^52)*2^(2^52 / 2^52-1)=2^52:=by decide
   rw [e2]
   omega
  ·rw [if_neg h2,if_neg h]
   by_cases h3:r % 2^52+1<2^52
   ·have e1:(r+1) % 2^52=r % 2^52+1:=by omega
    have e2:(r+1) / 2^52=r / 2^52:=by omega
    rw [e1,e2]
    exact Nat.mul_lt_mul_of_pos_right (by omega) (Nat.two_pow_pos _)
   ·have e1:(r+1) % 2^52=0:=by omega
    have e2:(r+1) / 2^52-1=(r / 2^52-1)+1:=by omega
    rw [e1,e2]
    generalize r / 2^52-1=k
    rw [Nat.pow_succ 2 k,Nat.mul_comm (2^k) 2, ←Nat.mul_assoc]
    exact Nat.mul_lt_mul_of_pos_right (by omega) (Nat.two_pow_pos _)
theorem fval_lt {r s:Nat} (h:r<s):fval r<fval s:=by
 induction s with
 |zero=>omega
 |succ s ih =>
  rcases Nat.lt_or_ge r s with h1|h1
  ·exact Nat.lt_trans (ih h1) (fval_step s)
  ·have:r=s:=by omega
   subst this
   exact fval_step r
theorem fval_lt_iff (r s:Nat):fval r<fval s↔r<s:=by
 constructor
 ·intro h
  rcases Nat.lt_or_ge r s with h1|h1
  ·exact h1
  ·rcases Nat.eq_or_lt_of_le h1 with h2|h2
   ·subst h2;omega
   ·have:=fval_lt h2;omega
 ·exact fval_lt
theorem fval_inj (r s:Nat):fval r=fval s↔r=s:=by
 have:=fval_lt_iff r s
 have:=fval_lt_iff s r
 omega
theorem fval_zero:fval 0=0:=rfl
def fkey (x:Nat):Int:=if x / 2^63 % 2=1 then -((x % 2^63:Nat):Int) else ((x % 2^63:Nat):Int)
def ffin (x:Nat):Prop:=x % 2^63<2047*2^52
def fplace (r:Nat):Nat:=if r<2^52 then 0 else r / 2^52-1
def fmag (r:Nat):Nat:=if r<2^52 then r else 2^52+r % 2^52
theorem fval_eq (r:Nat):fval r=fmag r*2^fplace r:=by
 unfold fval fmag fplace
 split <;>simp
theorem fread (x:Nat) (h:ffin x):Ieee.double.read x= .number (x / 2^63 % 2==1) (fmag (x % 2^63)) (Ieee.double.leastPlace+(fplace (x % 2^63):Nat)):=by
 unfold ffin at h
 have e1:Ieee.double.signWeight=2^63:=rfl
 have e2:Ieee.double.binade=2^52:=rfl
 have e3:Ieee.double.infRung=2047*2^52:=rfl
 unfold Ieee.Format.read fmag fplace
 rw [e1,e2,e3]
 by_cases h1:x % 2^63<2^52
 ·simp only [if_pos h1];simp
 ·simp only [if_neg h1,if_pos h]
theorem forder (x y:Nat) (hx:ffin x) (hy:ffin y):Ieee.double.order x y=some (compare (fkey x) (fkey y)):=by
 unfold Ieee.Format.order
 rw [fread x hx,fread y hy]
 unfold fkey
 generalize x % 2^63=r
 generalize y % 2^63=s
 simp only [Ieee.Datum.order]
 refine congrArg some ?_
 have hr:=fval_eq r
 have hs:=fval_eq s
 have key:∃c:Nat,0<c∧fval r=fmag r*2^(Ieee.double.leastPlace+(fplace r:Int)-min (Ieee.double.leastPlace+(fplace r:Int)) (Ieee.double.leastPlace+(fplace s:Int))).toNat*c∧fval s=fmag s*2^(Ieee.double.leastPlace+(fplace s:Int)-min (Ieee.double.leastPlace+(fplace r:Int)) (Ieee.double.leastPlace+(fplace s:Int))).toNat*c:=by
  refine ⟨2^min (fplace r) (fplace s),Nat.two_pow_pos _, ?_, ?_⟩
  ·rw [hr,Nat.mul_assoc, ←Nat.pow_add];congr 2;omega
  ·rw [hs,Nat.mul_assoc, ←Nat.pow_add];congr 2;omega
 obtain ⟨c,hc,k1,k2⟩:=key
 simp only [Ieee.signed,Nat.shiftLeft_eq]
 generalize fmag r*2^(Ieee.double.leastPlace+(fplace r:Int)-min (Ieee.double.leastPlace+(fplace r:Int)) (Ieee.double.leastPlace+(fplace s:Int))).toNat=A at *
 generalize fmag s*2^(Ieee.double.leastPlace+(fplace s:Int)-min (Ieee.double.leastPlace+(fplace r:Int)) (Ieee.double.leastPlace+(fplace s:Int))).toNat=B at *
 have a1:A<B↔r<s:=by rw [←fval_lt_iff r s,k1,k2];exact (Nat.mul_lt_mul_right hc).symm
 have a2:B<A↔s<r:=by rw [←fval_lt_iff s r,k1,k2];exact (Nat.mul_lt_mul_right hc).symm
 have a3:A=0↔r=0:=by
  have:=fval_inj r 0
  rw [fval_zero,k1] at this
  rw [←this,Nat.mul_eq_zero]
  omega
 have a4:B=0↔s=0:=by
  have:=fval_inj s 0
  rw [fval_zero,k2] at this
  rw [←this,Nat.mul_eq_zero]
  omega
 clear k1 k2 hr hs
 by_cases p:x / 2^63 % 2=1 <;>by_cases q:y / 2^63 % 2=1 <;>simp only [p,q,beq_self_eq_true,if_true,if_false,beq_iff_eq] <;>exact cmp_congr (by omega) (by omega)
end K
namespace K
open Go.RowKit
theorem isnan_any (f:Nat) (w:World) :
 Calls prog 120 #[.float .f64 f] w fun e w'=>e= .returned (.bool (Ieee.double.order f f !=some .eq))∧w'=w:=by
 go_enter func120,ntmps120
 go_wp2
 go_ret
 exact ⟨rfl,rfl⟩
theorem abs_any (f r:Nat) (w:World) (hr:bits .andNot .u64 (f:Int) 9223372036854775808=(r:Int)) :
 Calls prog 151 #[.float .f64 f] w fun e w'=>e= .returned (.float .f64 r)∧w'=w:=by
 go_enter func151,ntmps151
 go_wp2
 go_ret
 exact ⟨rfl,rfl⟩
theorem isinf_any (f r:Nat) (w:World) (hr:bits .andNot .u64 (f:Int) 9223372036854775808=(r:Int)) :
 Calls prog 121 #[.float .f64 f, .int .i64 0] w fun e w'=>e= .returned (.bool (Ieee.double.order r 9218868437227405311==some .gt))∧w'=w:=by
 have H:=abs_any f r w hr
 clear hr
 go_enter func121,ntmps121
 go_wp2_with fail
 refine H.mono ?_
 rintro e _ ⟨rfl,rfl⟩
 go_wp2
 go_ret
 exact ⟨rfl,rfl⟩
theorem sign_any (f:Nat) (w:World) (hf:f<18446744073709551616) :
 Calls prog 122 #[.float .f64 f] w fun e w'=>e= .returned (.bool (decide (9223372036854775808≤f)))∧w'=w:=by
 go_enter func122,ntmps122
 go_wp2
 go_ret
 refine ⟨?_,rfl⟩
 have e:decide (Go.RowKit.wrap64 (f:Int)<0)=decide (9223372036854775808≤f):=by
  rw [decide_eq_decide]
  unfold Go.RowKit.wrap64
  constructor <;>intro h <;>(try split at h) <;>(try split) <;>omega
 rw [←e]
 rfl
theorem abs_bits (f:Nat) (hf:f<18446744073709551616):bits .andNot .u64 (f:Int) 9223372036854775808=((f % 9223372036854775808:Nat):Int):=by
 have h:=u64_andNot_nat f 9223372036854775808 hf (by omega)
 rw [show ((9223372036854775808:Nat):Int)=9223372036854775808 from rfl] at h
 rw [h,show (18446744073709551615-9223372036854775808:Nat)=2^63-1 by decide,Nat.and_two_pow_sub_one_eq_mod]
theorem ford_self (f:Nat) (h:ffin f):Ieee.double.order f f=some .eq:=by
 rw [forder f f h h]
 simp [compare,compareOfLessAndEq]
theorem ford_nan (f:Nat) (h:9218868437227405312<f % 9223372036854775808):Ieee.double.order f f=none:=by
 have e1:Ieee.double.signWeight=2^63:=rfl
 have e2:Ieee.double.binade=2^52:=rfl
 have e3:Ieee.double.infRung=2047*2^52:=rfl
 unfold Ieee.Format.order Ieee.Format.read
 rw [e1,e2,e3]
 simp only [if_neg (show ¬f % 2^63<2^52 by omega),if_neg (show ¬f % 2^63<2047*2^52 by omega),if_neg (show ¬f % 2^63=2047*2^52 by omega)]
 rfl
theorem ford_inf (f:Nat) (h:f % 9223372036854775808=9218868437227405312):Ieee.double.order f f=some .eq:=by
 have e1:Ieee.double.signWeight=2^63:=rfl
 have e2:Ieee.double.binade=2^52:=rfl
 have e3:Ieee.double.infRung=2047*2^52:=rfl
 unfold Ieee.Format.order Ieee.Format.read
 rw [e1,e2,e3]
 simp only [if_neg (show ¬f % 2^63<2^52 by omega),if_neg (show ¬f % 2^63<2047*2^52 by omega),if_pos (show f % 2^63=2047*2^52 by omega)]
 simp [Ieee.Datum.order,compare,compareOfLessAndEq]
theorem ford_max (r:Nat) (h:r<9218868437227405312):(Ieee.double.order r 9218868437227405311==some .gt)=false:=by
 rw [forder r _ (by unfold ffin;omega) (by unfold ffin;omega)]
 have e1:fkey r=(r:Int):=by unfold fkey;rw [if_neg (by omega)];congr 1;omega
 have e2:fkey 9218868437227405311=9218868437227405311:=by decide
 rw [e1,e2]
 simp only [compare,compareOfLessAndEq]
 split
 ·rfl
 ·split
  ·rfl
  ·omega
theorem ford_infmax:(Ieee.double.order 9218868437227405312 9218868437227405311==some .gt)=true:=by decide +kernel
theorem ford_zero (f:Nat) (h:ffin f) (h0:f % 9223372036854775808≠0):(Ieee.double.order f 0 !=some .eq)=true:=by
 rw [forder f 0 h (by unfold ffin;omega)]
 have e2:fkey 0=0:=by decide
 have e1:fkey f≠0:=by unfold fkey;split <;>omega
 rw [e2]
 simp only [compare,compareOfLessAndEq]
 split
 ·rfl
 ·first|rfl|(rw [if_neg e1];rfl)
namespace V
def finB (f:Nat):Bool:=decide (f % 9223372036854775808<9218868437227405312)&&decide (f≠9223372036854775808)
theorem writ_any (f:Nat) (w:World) (hf:f<18446744073709551616) :
 Calls prog 95 #[.float .f64 f] w fun e w'=>e= .returned (.bool (finB f))∧w'=w:=by
 have HN:=isnan_any f w
 have HI:=isinf_any f (f % 9223372036854775808) w (abs_bits f hf)
 have HS:=sign_any f w hf
 rcases (show 9218868437227405312<f % 9223372036854775808∨f % 9223372036854775808=9218868437227405312∨(f % 9223372036854775808<9218868437227405312∧f % 9223372036854775808≠0)∨f=0∨f=9223372036854775808 by omega) with h|h|h|h|h
 ·rw [ford_nan f h,show (none !=some Ordering.eq)=true from rfl] at HN
  have e:finB f=false:=by unfold finB;rw [decide_eq_false (by omega)];rfl
  rw [e]
  clear HI HS hf h e
  go_enter func95,ntmps95
  go_wp2_with (first|(go_at_call 120;refine HN.mono ?_;rintro e _ ⟨rfl,rfl⟩)|fail)
  go_ret
  exact ⟨rfl,rfl⟩
 ·rw [ford_inf f h,show (some Ordering.eq !=some Ordering.eq)=false from rfl] at HN
  rw [h,ford_infmax] at HI
  have e:finB f=false:=by unfold finB;rw [decide_eq_false (by omega)];rfl
  rw [e]
  clear HS hf h e
  go_enter func95,ntmps95
  go_wp2_with (first|(go_at_call 120;refine HN.mono ?_;rintro e _ ⟨rfl,rfl⟩)|(go_at_call 121;refine HI.mono ?_;rintro e _ ⟨rfl,rfl⟩)|fail)
  go_ret
  exact ⟨rfl,rfl⟩
 ·have hfin:ffin f:=by unfold ffin;omega
  rw [ford_self f hfin,show (some Ordering.eq !=some Ordering.eq)=false from rfl] at HN
  rw [ford_max _ h.1] at HI
  have z:(FloatKind.f64.format.order f 0 !=some .eq)=true:=ford_zero f hfin h.2
  have e:finB f=true:=by unfold finB;rw [decide_eq_true h.1,decide_eq_true (by omega)];rfl
  rw [e]
  clear HS hf h e hfin
  go_enter func95,ntmps95
  go_wp2_with (first|(go_at_call 120;refine HN.mono ?_;rintro e _ ⟨rfl,rfl⟩)|(go_at_call 121;refine HI.mono ?_;rintro e _ ⟨rfl,rfl⟩)|fail)
  go_ret
  exact ⟨rfl,rfl⟩
 ·subst h
  rw [show (Ieee.double.order 0 0 !=some .eq)=false by decide +kernel] at HN
  rw [show (Ieee.double.order (0 % 9223372036854775808) 9218868437227405311==some .gt)=false by decide +kernel] at HI
  rw [show decide (9223372036854775808≤0)=false by decide] at HS
  have z:(FloatKind.f64.format.order 0 0 !=some .eq)=false:=by decide +kernel
  rw [show finB 0=true by decide]
  clear hf
  go_enter func95,ntmps95
  go_wp2_with (first|(go_at_call 120;refine HN.mono ?_;rintro e _ ⟨rfl,rfl⟩)|(go_at_call 121;refine HI.mono ?_;rintro e _ ⟨rfl,rfl⟩)|(go_at_call 122;refine HS.mono ?_;rintro e _ ⟨rfl,rfl⟩)|fail)
  go_ret
  exact ⟨rfl,rfl⟩
 ·subst h
  rw [show (Ieee.double.order 9223372036854775808 9223372036854775808 !=some .eq)=false by decide +kernel] at HN
  rw [show (Ieee.double.order (9223372036854775808 % 9223372036854775808) 9218868437227405311==some .gt)=false by decide +kernel] at HI
  rw [show decide (9223372036854775808≤9223372036854775808)=true by decide] at HS
  have z:(FloatKind.f64.format.order 9223372036854775808 0 !=some .eq)=false:=by decide +kernel
  rw [show finB 9223372036854775808=false by decide]
  clear hf
  go_enter func95,ntmps95
  go_wp2_with (first|(go_at_call 120;refine HN.mono ?_;rintro e _ ⟨rfl,rfl⟩)|(go_at_call 121;refine HI.mono ?_;rintro e _ ⟨rfl,rfl⟩)|(go_at_call 122;refine HS.mono ?_;rintro e _ ⟨rfl,rfl⟩)|fail)
  go_ret
  exact ⟨rfl,rfl⟩
end V
namespace V
def rightF (n:Int) (f:Nat) (s:ByteArray):Bool:=decide (n=0)&&finB f&&s.toList.isEmpty
theorem right26_3 (n:Int) (f:Nat) (s:ByteArray) (w:World) (hf:f<18446744073709551616) :
 Calls prog 71 #[.agg #[.int .u8 3, .int .i64 n, .float .f64 f, .string s]] w fun e w'=>e= .returned (.bool (rightF n f s))∧Below w.heap.size w w':=by
 have H:Hid (∀wx,Calls prog 95 #[.float .f64 f] wx fun e w'=>e= .returned (.bool (finB f))∧w'=wx):=fun wx=>writ_any f wx hf
 unfold rightF
 generalize finB f=F at *
 clear hf
 go_enter func71,ntmps71
 go_wp2
 go_quiet (fail)
 go_wp2_with (first|(go_at_call 95;refine (H.out _).mono ?_;rintro e _ ⟨rfl,rfl⟩)|fail)
 all_goals
  go_ret
  refine ⟨?_, ?_⟩
  ·first|rfl|(simp [*];done)|(simp [*];omega)
  ·first|exact bel_box _ _ _|exact below_drewN (bel_box _ _ _) _
theorem tail_eq {a b c d:Int} (h:¬a=d):((a !=d)&&(b !=c))= !decide (b=c):=by
 have h1:(a !=d)=true:=by simpa using h
 rw [h1,Bool.true_and]
 by_cases e:b=c <;>simp [e]
theorem mask11 (f:Nat) (hf:f<18446744073709551616):bits .and .u64 ((f:Int) / 4503599627370496) 2047=(f:Int) / 4503599627370496 % 2048:=by
 have h:=u64_and_nat (f / 4503599627370496) 2047 (by omega) (by omega)
 rw [show ((2047:Nat):Int)=2047 from rfl,show ((f / 4503599627370496:Nat):Int)=(f:Int) / 4503599627370496 by omega] at h
 rw [h,show (2047:Nat)=2^11-1 by decide,Nat.and_two_pow_sub_one_eq_mod]
 omega
theorem fin_mask (f:Nat) (hf:f<18446744073709551616):finB f=(!decide ((f:Int) / 4503599627370496 % 2048=2047)&& !decide ((f:Int)=9223372036854775808)):=by
 unfold finB
 rw [←decide_not, ←decide_not]
 congr 1
 ·rw [decide_eq_decide];omega
 ·rw [decide_eq_decide];omega
theorem right27_3 (n:Int) (f:Nat) (s:ByteArray) (w:World) (hf:f<18446744073709551616) :
 Calls prog 67 #[.agg #[.int .u8 3, .int .i64 n, .float .f64 f, .string s]] w fun e w'=>e= .returned (.bool (rightF n f s))∧Below w.heap.size w w':=by
 have hm:=mask11 f hf
 have he:=fin_mask f hf
 unfold rightF
 rw [he]
 clear he
 go_enter func67,ntmps67
 go_wp2
 all_goals
  go_ret
  refine ⟨?_, ?_⟩
  ·first|rfl|(simp [*];done)|(simp [*];exact tail_eq (by assumption))
  ·first|exact bel_box _ _ _|exact below_drewN (bel_box _ _ _) _
end V
namespace V
def rightT (n:Int) (f:Nat) (s:ByteArray):Bool:=decide (n=0)&&decide (f=0)&&decide ((s.size:Int)≤1000)&&Lib.validD s.data.toList
theorem right26_4 (n:Int) (f:Nat) (s:ByteArray) (w:World) (hs:s.size≤9223372036854775807) (hT:Tabs w) :
 Calls prog 71 #[.agg #[.int .u8 4, .int .i64 n, .float .f64 f, .string s]] w fun e w'=>e= .returned (.bool (rightT n f s))∧Below w.heap.size w w':=by
 have HV:Hid (∀wx,Below w.heap.size w wx→Calls prog 94 #[.string s] wx fun e w'=>e= .returned (.bool (Lib.validD s.data.toList))∧Below w.heap.size w w'):=fun wx hx=>(valid_any s wx hs (hT.below hx)).mono fun e w' h=>⟨h.1,hx.trans (h.2.mono hx.size)⟩
 have eR:Hid (rightT n f s=(decide (n=0)&&decide (f=0)&&decide ((s.size:Int)≤1000)&&Lib.validD s.data.toList)):=rfl
 rw [eR.out]
 clear eR
 generalize Lib.validD s.data.toList=V at *
 clear hT
 go_enter func71,ntmps71
 go_wp2
 go_quiet (fail)
 go_wp2_with (first|(go_at_call 94;refine (HV.out _ ?_).mono ?_;(first|exact bel_box _ _ _|exact below_drewN (bel_box _ _ _) _);rintro e w1 ⟨rfl,b1⟩)|fail)
 all_goals
  go_ret
  refine ⟨?_, ?_⟩
  ·first|rfl|(simp [*];done)|(simp [*];omega)
  ·first|assumption|exact bel_box _ _ _|exact below_drewN (bel_box _ _ _) _
theorem right27_4 (n:Int) (f:Nat) (s:ByteArray) (w:World) (hs:s.size≤9223372036854775807) :
 Calls prog 67 #[.agg #[.int .u8 4, .int .i64 n, .float .f64 f, .string s]] w fun e w'=>e= .returned (.bool (rightT n f s))∧Below w.heap.size w w':=by
 have eR:Hid (rightT n f s=(decide (n=0)&&decide (f=0)&&decide ((s.size:Int)≤1000)&&Lib.validD s.data.toList)):=rfl
 by_cases h1:(s.size:Int)≤1000
 ·have HV:Hid (∀wx,Calls prog 93 #[.string s] wx fun e w'=>e= .returned (.bool (Lib.validD s.data.toList))∧w'=wx):=fun wx=>utf8_any s wx (by omega)
  rw [eR.out]
  clear eR
  generalize Lib.validD s.data.toList=V at *
  go_enter func67,ntmps67
  go_wp2_with (first|(go_at_call 93;refine (HV.out _).mono ?_;rintro e _ ⟨rfl,rfl⟩)|fail)
  all_goals
   go_ret
   refine ⟨?_, ?_⟩
   ·first|rfl|(simp [*];done)|(simp [*];omega)
   ·first|assumption|exact bel_box _ _ _|exact below_drewN (bel_box _ _ _) _
 ·rw [eR.out]
  clear eR
  generalize Lib.validD s.data.toList=V at *
  go_enter func67,ntmps67
  go_wp2
  all_goals
   go_ret
   refine ⟨?_, ?_⟩
   ·first|rfl|(simp [*];done)|(simp [*];omega)
   ·first|assumption|exact bel_box _ _ _|exact below_drewN (bel_box _ _ _) _
def rightV (k n:Int) (f:Nat) (s:ByteArray):Bool:=if k=3 then rightF n f s else if k=4 then rightT n f s else rightB k n f s
theorem rightB_high (k n:Int) (f:Nat) (s:ByteArray) (h:12≤k):rightB k n f s=false:=by
 unfold rightB
 rw [if_neg (by omega),if_neg (by omega),if_neg (by omega),if_neg (by omega),if_neg (by omega)]
theorem right26_any (k n:Int) (f:Nat) (s:ByteArray) (w:World) (hk:0≤k) (hf:f<18446744073709551616) (hs:s.size≤9223372036854775807) (hT:Tabs w) :
 Calls prog 71 #[.agg #[.int .u8 k, .int .i64 n, .float .f64 f, .string s]] w fun e w'=>e= .returned (.bool (rightV k n f s))∧Below w.heap.size w w':=by
 rcases (show k=0∨k=1∨k=2∨k=3∨k=4∨k=5∨k=6∨k=7∨k=8∨k=9∨k=10∨k=11∨12≤k by omega) with rfl|rfl|rfl|rfl|rfl|rfl|rfl|rfl|rfl|rfl|rfl|rfl|h
 ·exact right26_0 n f s w
 ·exact right26_1 n f s w
 ·exact right26_2 n f s w
 ·exact right26_3 n f s w hf
 ·exact right26_4 n f s w hs hT
 ·exact right26_5 n f s w
 ·exact right26_6 n f s w
 ·exact right26_7 n f s w
 ·exact right26_8 n f s w
 ·exact right26_9 n f s w
 ·exact right26_10 n f s w
 ·exact right26_11 n f s w
 ·have e:rightV k n f s=false:=by unfold rightV;rw [if_neg (by omega),if_neg (by omega)];exact rightB_high k n f s h
  rw [e]
  exact right26_o k n f s w h
theorem right27_any (k n:Int) (f:Nat) (s:ByteArray) (w:World) (hk:0≤k) (hf:f<18446744073709551616) (hs:s.size≤9223372036854775807) :
 Calls prog 67 #[.agg #[.int .u8 k, .int .i64 n, .float .f64 f, .string s]] w fun e w'=>e= .returned (.bool (rightV k n f s))∧Below w.heap.size w w':=by
 rcases (show k=0∨k=1∨k=2∨k=3∨k=4∨k=5∨k=6∨k=7∨k=8∨k=9∨k=10∨k=11∨12≤k by omega) with rfl|rfl|rfl|rfl|rfl|rfl|rfl|rfl|rfl|rfl|rfl|rfl|h
 ·exact right27_0 n f s w
 ·exact right27_1 n f s w
 ·exact right27_2 n f s w
 ·exact right27_3 n f s w hf
 ·exact right27_4 n f s w hs
 ·exact right27_5 n f s w
 ·exact right27_6 n f s w
 ·exact right27_7 n f s w
 ·exact right27_8 n f s w
 ·exact right27_9 n f s w
 ·exact right27_10 n f s w
 ·exact right27_11 n f s w
 ·have e:rightV k n f s=false:=by unfold rightV;rw [if_neg (by omega),if_neg (by omega)];exact rightB_high k n f s h
  rw [e]
  exact right27_o k n f s w h
end V
end K
section
open Go.RowKit
def okC (n:Nat):Bool:=decide (32≤n)&&decide (n≠127)
def Ady (s:ByteArray):Bool:=s.data.toList.all fun c=>okC c.toNat
def rightB (s:ByteArray):Bool:=Ady s&&Lib.validD s.data.toList
def Amv (s:ByteArray):Bool:=decide (0<s.size)&&decide (s.size≤64)&&rightB s
theorem A1p (s:ByteArray) (i:Nat) (hi:i<s.data.toList.length):K.V.by8 s i=(s.data.toList[i]).toNat:=by
 unfold K.V.by8
 rw [List.getD_eq_getElem?_getD,List.getElem?_eq_getElem hi]
 rfl
theorem Agl (s:ByteArray):Ady s=true↔ ∀i,i<s.size→okC (K.V.by8 s i)=true:=by
 unfold Ady
 have hz:s.data.toList.length=s.size:=Array.length_toList
 rw [List.all_eq_true]
 constructor
 ·intro h i hi
  rw [A1p s i (by omega)]
  exact h _ (List.getElem_mem _)
 ·intro h c hc
  obtain ⟨i,hi,rfl⟩:=List.getElem_of_mem hc
  have:=h i (by omega)
  rw [A1p s i hi] at this
  exact this
theorem Amc {s:ByteArray} {i:Nat} (hi:i<s.size) (h:okC (K.V.by8 s i)=false):Ady s=false:=by
 cases hp:Ady s with
 |false=>rfl
 |true=>rw [(Agl s).1 hp i hi] at h;cases h
theorem A01 {n:Nat} (h:okC n=false) (h1:¬(n:Int)<32):(n:Int)=127:=by
 unfold okC at h
 simp at h
 omega
theorem Arx {n:Nat} (h:okC n=true):¬(n:Int)<32∧¬(n:Int)=127:=by
 unfold okC at h
 simp at h
 omega
theorem Aoj (s:ByteArray) (w:World) (hs:s.size≤140737488355328) (hT:K.V.Tabs w) :
 Calls prog 70 #[.string s] w fun e w'=>e= .returned (.bool (rightB s))∧Below w.heap.size w w':=by
 have HV:=Aaa (K.V.valid_any s w (by omega) hT)
 have HP:Hid (Ady s=true→rightB s=Lib.validD s.data.toList):=fun h=>by unfold rightB;rw [h];rfl
 have HF:Hid (Ady s=false→rightB s=false):=fun h=>by unfold rightB;rw [h];rfl
 have HI:=Aaa (Agl s)
 have HN:Hid (∀i,i<s.size→okC (K.V.by8 s i)=false→Ady s=false):=fun i h1 h2=>Amc h1 h2
 have HX:Hid (∀k,k<s.size→∀wx,(Instr.index 9 (.string s) (.int .i64 (k:Int))).run prog wx= .ok (.int .u8 (K.V.by8 s k:Int)) wx):=fun k h wx=>K.V.index_str s k wx h
 have HB:=Aaa (K.V.by8_lt s)
 generalize Lib.validD s.data.toList=D at *
 generalize rightB s=R at *
 clear hT
 go_enter func70,ntmps70
 go_wp2
 go_loopw [6] (fun i wr=> ∃k:Nat,k≤s.size∧i= .int .i64 k∧wr=w∧Hid (∀j,j<k→okC (K.V.by8 s j)=true)) (fun i _=>s.size-(intOf i).toNat)
 case atStart=>exact ⟨0,by omega,rfl,rfl,fun j hj=>by omega⟩
 case round =>
  obtain ⟨k,hk,rfl,rfl,HK⟩:=hrel
  by_cases hks:k<s.size
  ·have hks':(k:Int)<(s.size:Int):=by omega
   have ix:=HX.out k hks
   have hb:=HB.out k
   cases hok:okC (K.V.by8 s k) with
   |true =>
    obtain ⟨o1,o2⟩:=Arx hok
    have HK2:Hid (∀j,j<k+1→okC (K.V.by8 s j)=true):=fun j hj=>by
     rcases Nat.lt_or_ge j k with h|h
     ·exact HK.out j h
     ·obtain rfl:j=k:=by omega
      exact hok
    clear hok HK
    generalize K.V.by8 s k=c at *
    go_wp2
    go_roundw
    case rel=>exact ⟨k+1,by omega,by go_num,by trivial,HK2⟩
    case measure=>simp [intOf];omega
   |false =>
    have HR:Hid (R=false):=HF.out (HN.out k hks hok)
    have ho:= @A01 _ hok
    clear hok HK HF HN HP
    generalize K.V.by8 s k=c at *
    by_cases h1:(c:Int)<32
    ·go_wp2
     go_ret
     exact ⟨by rw [HR.out];rfl,Below.refl _ _⟩
    ·have h2:=ho h1
     clear ho
     go_wp2
     go_ret
     exact ⟨by rw [HR.out];rfl,Below.refl _ _⟩
  ·have hks':¬(k:Int)<(s.size:Int):=by omega
   have HR:Hid (R=D):=HP.out (HI.out.2 fun j hj=>HK.out j (by omega))
   clear HK HF HN HP HX
   go_wp2_with fail
   refine HV.out.mono ?_
   rintro e w1 ⟨rfl,b1⟩
   skip
   go_wp2
   go_ret
   exact ⟨by rw [HR.out];rfl,b1⟩
theorem Aoy (s:ByteArray) (w:World) (hs:s.size≤140737488355328) :
 Calls prog 69 #[.string s] w fun e w'=>e= .returned (.bool (rightB s))∧w'=w:=by
 have HV:=Aaa (K.V.utf8_any s w hs)
 have HP:Hid (Ady s=true→rightB s=Lib.validD s.data.toList):=fun h=>by unfold rightB;rw [h];rfl
 have HF:Hid (Ady s=false→rightB s=false):=fun h=>by unfold rightB;rw [h];rfl
 have HI:=Aaa (Agl s)
 have HN:Hid (∀i,i<s.size→okC (K.V.by8 s i)=false→Ady s=false):=fun i h1 h2=>Amc h1 h2
 have HX:Hid (∀k,k<s.size→∀wx,(Instr.index 9 (.string s) (.int .i64 (k:Int))).run prog wx= .ok (.int .u8 (K.V.by8 s k:Int)) wx):=fun k h wx=>K.V.index_str s k wx h
 have HB:=Aaa (K.V.by8_lt s)
 generalize Lib.validD s.data.toList=D at *
 generalize rightB s=R at *
 skip
 go_enter func69,ntmps69
 go_wp2
 go_loopw [3] (fun i wr=> ∃k:Nat,k≤s.size∧i= .int .i64 k∧wr=w∧Hid (∀j,j<k→okC (K.V.by8 s j)=true)) (fun i _=>s.size-(intOf i).toNat)
 case atStart=>exact ⟨0,by omega,rfl,rfl,fun j hj=>by omega⟩
 case round =>
  obtain ⟨k,hk,rfl,rfl,HK⟩:=hrel
  by_cases hks:k<s.size
  ·have hks':(k:Int)<(s.size:Int):=by omega
   have ix:=HX.out k hks
   have hb:=HB.out k
   cases hok:okC (K.V.by8 s k) with
   |true =>
    obtain ⟨o1,o2⟩:=Arx hok
    have HK2:Hid (∀j,j<k+1→okC (K.V.by8 s j)=true):=fun j hj=>by
     rcases Nat.lt_or_ge j k with h|h
     ·exact HK.out j h
     ·obtain rfl:j=k:=by omega
      exact hok
    clear hok HK
    generalize K.V.by8 s k=c at *
    go_wp2
    go_roundw
    case rel=>exact ⟨k+1,by omega,by go_num,by trivial,HK2⟩
    case measure=>simp [intOf];omega
   |false =>
    have HR:Hid (R=false):=HF.out (HN.out k hks hok)
    have ho:= @A01 _ hok
    clear hok HK HF HN HP
    generalize K.V.by8 s k=c at *
    by_cases h1:(c:Int)<32
    ·go_wp2
     go_ret
     exact ⟨by rw [HR.out];rfl,rfl⟩
    ·have h2:=ho h1
     clear ho
     go_wp2
     go_ret
     exact ⟨by rw [HR.out];rfl,rfl⟩
  ·have hks':¬(k:Int)<(s.size:Int):=by omega
   have HR:Hid (R=D):=HP.out (HI.out.2 fun j hj=>HK.out j (by omega))
   clear HK HF HN HP HX
   go_wp2_with fail
   refine HV.out.mono ?_
   rintro e w1 ⟨rfl,b1⟩
   subst b1
   go_wp2
   go_ret
   exact ⟨by rw [HR.out];rfl,rfl⟩
theorem Awk (s:ByteArray) (w:World) (hT:K.V.Tabs w) :
 Calls prog 40 #[.string s] w fun e w'=>e= .returned (.bool (Amv s))∧Below w.heap.size w w':=by
 have H:=Aaa (fun (hq:s.size≤64)=>Aoj s w (by omega) hT)
 have HK:Hid (Amv s=(decide (0<s.size)&&decide (s.size≤64)&&rightB s)):=rfl
 generalize rightB s=R at *
 generalize Amv s=B at *
 clear hT
 by_cases h0:s.size=0
 ·have HB:Hid (B=false):=by show _=_;rw [HK.out,h0];rfl
  have e0:s.toList.isEmpty=true:=by
   rw [ByteArray.toList_eq,show s.data.toList=[] from List.eq_nil_of_length_eq_zero (by rw [Array.length_toList];exact h0)]
   rfl
  clear H HK
  go_enter func40,ntmps40
  go_wp2
  go_ret
  exact ⟨by rw [HB.out];rfl,Below.refl _ _⟩
 ·have h0':(1:Int)≤(s.size:Int):=by omega
  have e0:s.toList.isEmpty=false:=K.V.not_empty s (by omega)
  by_cases h1:s.size≤64
  ·have h1':(s.size:Int)≤64:=by omega
   have HB:Hid (B=R):=by show _=_;rw [HK.out,decide_eq_true (show 0<s.size by omega),decide_eq_true h1];rfl
   clear HK
   go_enter func40,ntmps40
   go_wp2_with fail
   refine (H.out h1).mono ?_
   rintro e w1 ⟨rfl,b1⟩
   skip
   go_wp2
   go_ret
   exact ⟨by rw [HB.out];rfl,b1⟩
  ·have h1':¬(s.size:Int)≤64:=by omega
   have HB:Hid (B=false):=by show _=_;rw [HK.out,decide_eq_false h1,Bool.and_false];rfl
   clear H HK
   go_enter func40,ntmps40
   go_wp2
   go_ret
   exact ⟨by rw [HB.out];rfl,Below.refl _ _⟩
theorem Axr (s:ByteArray) (w:World) :
 Calls prog 37 #[.string s] w fun e w'=>e= .returned (.bool (Amv s))∧w'=w:=by
 have H:=Aaa (fun (hq:s.size≤64)=>Aoy s w (by omega))
 have HK:Hid (Amv s=(decide (0<s.size)&&decide (s.size≤64)&&rightB s)):=rfl
 generalize rightB s=R at *
 generalize Amv s=B at *
 skip
 by_cases h0:s.size=0
 ·have HB:Hid (B=false):=by show _=_;rw [HK.out,h0];rfl
  have e0:s.toList.isEmpty=true:=by
   rw [ByteArray.toList_eq,show s.data.toList=[] from List.eq_nil_of_length_eq_zero (by rw [Array.length_toList];exact h0)]
   rfl
  clear H HK
  go_enter func37,ntmps37
  go_wp2
  go_ret
  exact ⟨by rw [HB.out];rfl,rfl⟩
 ·have h0':(1:Int)≤(s.size:Int):=by omega
  have e0:s.toList.isEmpty=false:=K.V.not_empty s (by omega)
  by_cases h1:s.size≤64
  ·have h1':(s.size:Int)≤64:=by omega
   have HB:Hid (B=R):=by show _=_;rw [HK.out,decide_eq_true (show 0<s.size by omega),decide_eq_true h1];rfl
   clear HK
   go_enter func37,ntmps37
   go_wp2_with fail
   refine (H.out h1).mono ?_
   rintro e w1 ⟨rfl,b1⟩
   subst b1
   go_wp2
   go_ret
   exact ⟨by rw [HB.out];rfl,rfl⟩
  ·have h1':¬(s.size:Int)≤64:=by omega
   have HB:Hid (B=false):=by show _=_;rw [HK.out,decide_eq_false h1,Bool.and_false];rfl
   clear H HK
   go_enter func37,ntmps37
   go_wp2
   go_ret
   exact ⟨by rw [HB.out];rfl,rfl⟩
end
section
open Go.RowKit Sq
def Abz (w:World) (b:Nat) (x:VaV):Prop:=w.heap[b]? =some (.cells x.c.toArray 40 (0,0))
theorem Abz.below {w w':World} {b:Nat} {x:VaV} (h:Abz w b x) (hb:Below w.heap.size w w'):Abz w' b x:=(hb.block b (Array.getElem?_eq_some_iff.1 h).1).trans h
theorem Abv {W:World} {b:Nat} {x:VaV} (h:Abz W b x):(Instr.loadAt 40 (pZ b 0)).run prog W= .ok x.v W :=
 run_loadAt_mid (P:=prog) W b 0 40 x.c _ (Abi h) underlying40 rfl (by rw [VaV.len];exact A39)
theorem Ada {W:World} {b:Nat} {x:VaV} (h:Abz W b x):(Instr.loadAt 37 (pZ b (0+0))).run prog W= .ok (.int .u8 x.k) W:=by
 have hc:W.cell? ⟨b,0,none⟩=some (.int .u8 x.k):=(cell_of_row W b 0 _ _ _ h).trans rfl
 go_simp
def VaV.right (x:VaV):Bool:=K.V.rightV x.k x.n x.f x.s
def vaC (x:VaV):Int:=if x.right=true then 0 else 30
theorem Aom (x:VaV) (hx:x.ok) (w:World) (hT:K.V.Tabs w):Calls prog 41 #[x.v] w fun e w'=>e= .returned (.int .i64 (vaC x))∧Below w.heap.size w w':=by
 have b1:Below w.heap.size w (w.alloc (.cells x.c.toArray 40)):=(Below.refl _ _).alloc (Nat.le_refl _) _
 have n1:Abz (w.alloc (.cells x.c.toArray 40)) w.heap.size x:=heap_alloc_new _ _
 have L1:=Aaa (Abv n1)
 have CR:Hid (Calls prog 71 #[x.v] (w.alloc (.cells x.c.toArray 40)) fun e w'=>e= .returned (.bool x.right)∧Below (w.alloc (.cells x.c.toArray 40)).heap.size (w.alloc (.cells x.c.toArray 40)) w'):=K.V.right26_any x.k x.n x.f x.s _ hx.k0 hx.ff (Nat.le_trans hx.ss (by decide)) (hT.below b1)
 have HE:Hid (vaC x=if x.right=true then 0 else 30):=rfl
 have B1:=Aaa b1
 clear b1 n1 hT hx
 generalize vaC x=res at *
 generalize x.right=g at *
 show Calls prog 41 #[.agg x.c.toArray] w _
 go_enter func41,ntmps41
 go_upto_region 1 with fail
 generalize w.alloc (.cells x.c.toArray 40)=w1 at *
 go_wp2_with (first
  |(refine Awj w1 rfl rfl rfl L1.out rfl ?_)
  |(go_at_call 71;refine CR.out.mono ?_;rintro e w2 ⟨rfl,b2⟩;have B2:=Aaa b2;clear b2)
  |fail)
 all_goals
  go_ret
  exact ⟨by rw [HE.out];cases g <;>simp_all,B1.out.trans (B2.out.mono B1.out.size)⟩
theorem Akm (k:Int) (w:World):Calls prog 42 #[.int .u8 k] w fun e w'=>e= .returned (.bool (decide (k≤7)))∧w'=w:=by
 go_enter func42,ntmps42
 go_wp2
 go_ret
 exact ⟨rfl,rfl⟩
theorem Akt (x:VaV) (hx:x.ok) (w:World):Calls prog 44 #[x.v] w fun e w'=>e= .returned (.int .i64 (vaC x))∧Below w.heap.size w w':=by
 have b1:Below w.heap.size w (w.alloc (.cells x.c.toArray 40)):=(Below.refl _ _).alloc (Nat.le_refl _) _
 have n1:Abz (w.alloc (.cells x.c.toArray 40)) w.heap.size x:=heap_alloc_new _ _
 have L1:=Aaa (Abv n1)
 have CR:Hid (Calls prog 67 #[x.v] (w.alloc (.cells x.c.toArray 40)) fun e w'=>e= .returned (.bool x.right)∧Below (w.alloc (.cells x.c.toArray 40)).heap.size (w.alloc (.cells x.c.toArray 40)) w'):=K.V.right27_any x.k x.n x.f x.s _ hx.k0 hx.ff (Nat.le_trans hx.ss (by decide))
 have HE:Hid (vaC x=if x.right=true then 0 else 30):=rfl
 have B1:=Aaa b1
 clear b1 n1 hx
 generalize vaC x=res at *
 generalize x.right=g at *
 show Calls prog 44 #[.agg x.c.toArray] w _
 go_enter func44,ntmps44
 go_upto_region 1 with fail
 generalize w.alloc (.cells x.c.toArray 40)=w1 at *
 go_wp2_with (first
  |(refine Awj w1 rfl rfl rfl L1.out rfl ?_)
  |(go_at_call 67;refine CR.out.mono ?_;rintro e w2 ⟨rfl,b2⟩;have B2:=Aaa b2;clear b2)
  |fail)
 all_goals
  go_ret
  exact ⟨by rw [HE.out];cases g <;>simp_all,B1.out.trans (B2.out.mono B1.out.size)⟩
theorem Ai5 (k:Int) (w:World):Calls prog 45 #[.int .u8 k] w fun e w'=>e= .returned (.bool (decide (k≤7)))∧w'=w:=by
 go_enter func45,ntmps45
 go_wp2
 go_ret
 exact ⟨rfl,rfl⟩
structure Mx where
 mb:Nat
 lv:Value
 ib:Nat
 L:List MkV
def unV:Value:= .agg #[]
def idE (L:List MkV):List (IdK × Value):=L.map (fun x=>(x.id,unV))
structure Acl (w:World) (base:Nat) (m:Mx):Prop where
 cell:w.heap[m.mb]? =some (.cells #[m.lv, .map (some m.ib)] 87 (0,0))
 lo:RM.Lo w base m.lv m.L
 ok:∀x∈m.L,x.ok∧(0≤x.sd∧x.sd≤3)
 map:M.MapAt w m.ib IdK.v IdK.ok (idE m.L)
 n:m.L.length≤900000000000
theorem Acl.below {w w':World} {base:Nat} {m:Mx} (h:Acl w base m) (b:Below w.heap.size w w'):Acl w' base m :=
 ⟨(b.block _ (Array.getElem?_eq_some_iff.1 h.cell).1).trans h.cell,h.lo.below b,h.ok,h.map.below (b.block _ h.map.lt),h.n⟩
theorem Am1 (L:List MkV) (k:IdK):M.look (idE L) k=if (∃x∈L,x.id=k) then some unV else none:=by
 induction L with
 |nil=>simp [idE,M.look_nil]
 |cons x L ih =>
  show M.look ((x.id,unV)::idE L) k=_
  rw [M.look_cons,ih]
  by_cases e:k=x.id
  ·rw [if_pos e,if_pos ⟨x,by simp,e.symm⟩]
  ·rw [if_neg e]
   by_cases q:∃y∈L,y.id=k
   ·rw [if_pos q,if_pos (by obtain ⟨y,hy,r⟩:=q;exact ⟨y,by simp [hy],r⟩)]
   ·rw [if_neg q,if_neg (fun r=>by
       obtain ⟨y,hy,r⟩:=r
       rcases List.mem_cons.1 hy with rfl|hy
       ·exact e r.symm
       ·exact q ⟨y,hy,r⟩)]
def Afs (L:List MkV) (k:IdK):Bool:=L.any fun x=>decide (x.id=k)
theorem Adl {L:List MkV} {k:IdK}:Afs L k=true↔ ∃x∈L,x.id=k:=by simp [Afs]
theorem A0m (w:World):(zeroValue 96).run prog w= .ok unV w:=by kernel_rfl
section
variable {w:World} {base:Nat} {m:Mx}
theorem Acl.lookk (h:Acl w base m) {k:IdK} (hk:k.ok):(Instr.lookup 84 (.map (some m.ib)) k.v true).run prog w= .ok (.tuple #[.agg #[], .bool (Afs m.L k)]) w:=by
 rw [M.run_look Asq underlying84 h.map k hk (A0m w) true,M.has_look,Am1]
 by_cases q:∃x∈m.L,x.id=k
 ·rw [if_pos q,Adl.2 q];rfl
 ·rw [if_neg q]
  have:Afs m.L k=false:=by
   cases e:Afs m.L k with
   |false=>rfl
   |true=>exact absurd (Adl.1 e) q
  rw [this];rfl
theorem Acl.ldm (h:Acl w base m):(Instr.loadAt 84 (pZ m.mb (0+1))).run prog w= .ok (.map (some m.ib)) w:=by
 have hc:w.cell? ⟨m.mb,1,none⟩=some (.map (some m.ib)):=(cell_of_row w m.mb 1 _ _ _ h.cell).trans rfl
 go_simp
theorem Acl.lvS (h:Acl w base m):∃a c,m.lv= .slice a m.L.length c∧RM.At w a m.L:=by
 obtain ⟨a,c,e,hat,_⟩:=h.lo.open Acs (fun x hx=>(h.ok x hx).1)
 exact ⟨a,c,e,hat⟩
theorem Acl.ldl (h:Acl w base m):(Instr.loadAt 85 (pZ m.mb (0+0))).run prog w= .ok m.lv w:=by
 obtain ⟨a,c,e,_⟩:=h.lvS
 have hc:w.cell? ⟨m.mb,0,none⟩=some (.slice a m.L.length c):=by rw [←e];exact (cell_of_row w m.mb 0 _ _ _ h.cell).trans rfl
 rw [e]
 go_simp
theorem A0r (W:World):∃w1 w2,(Instr.alloc 96 true (.tuple #[])).run prog W= .ok (pZ W.heap.size 0) w1∧Below W.heap.size W w1∧(Instr.storeAt 96 (pZ W.heap.size 0) (.agg #[])).run prog w1= .ok () w2∧Below W.heap.size W w2:=by
 have b1:Below W.heap.size W (W.alloc (.cells #[] 96)):=(Below.refl _ _).alloc (Nat.le_refl _) _
 have hc:(W.alloc (.cells #[] 96)).heap[W.heap.size]? =some (.cells #[] 96 (0,0)):=heap_alloc_new _ _
 have e2:=run_storeVar_row (P:=prog) (W.alloc (.cells #[] 96)) W.heap.size 96 96 #[] #[] hc (by kernel_rfl) rfl (by simp)
 refine ⟨W.alloc (.cells #[] 96),_,by kernel_rfl,b1, ?_,b1.trans (Aby #[] b1.size (Nat.le_refl _))⟩
 simp only [Instr.storeAt,Instr.sureAddr,Sem.run_bind,Sem.run_pure,Result.andThen_ok,e2]
theorem Amq (h:Acl w base m) {k:IdK} (hk:k.ok):Calls prog 39 #[(pZ m.mb 0),k.v] w fun e w'=>e= .returned (.bool (Afs m.L k))∧Below w.heap.size w w':=by
 have bx:Below w.heap.size w (w.alloc (.cells k.c.toArray 36)):=(Below.refl _ _).alloc (Nat.le_refl _) _
 have hx:=Acg w k
 show Calls prog 39 #[(pZ m.mb 0), .agg k.c.toArray] w _
 go_enter func39,ntmps39
 go_upto_region 1 with fail
 generalize w.alloc (.cells k.c.toArray 36)=wx at *
 have h1:=h.below bx
 have HX:=Aaa hx
 obtain ⟨w1,w2,e1,b1,e2,b2⟩:=A0r wx.drew
 have bd:Below wx.heap.size wx wx.drew:=(Below.refl _ _).drew
 have bd1:=bd.trans (b1.mono bd.size)
 have bd2:=bd.trans (b2.mono bd.size)
 clear hx
 refine A9j (k:=k) (r:=Afs m.L k) (ib:=m.ib) (eb:=wx.heap.size) (w1:=w1) (w2:=w2) (fun W=>Below wx.heap.size wx W) _ wx _ rfl rfl rfl bd (fun W b=>(h1.below b).ldm) (fun W b=>Aah hk (HX.out.below b)) (fun W b=>(h1.below b).lookk hk) e1 bd1 e2 bd2 ?_
 intro a' w3 hw ha
 subst ha
 simp only [Act.put,qsA,qsB,qsC]
 clear e1 e2 b1 b2 bd bd1 bd2
 go_wp2
 go_ret
 exact ⟨rfl,bx.trans (hw.mono bx.size)⟩
end
theorem Aod (w:World):(Instr.build 96 #[]).run prog w= .ok (.agg #[]) w:=by kernel_rfl
theorem Ab2 (w:World) (a b:Int) (nm:ByteArray) (v:VaV):(Instr.build 65 #[(0, .int .i64 a),(1, .int .i64 b),(2, .string nm),(3,v.v)]).run prog w= .ok (SpV.a ⟨a,b,nm,v⟩) w:=by
 obtain ⟨k,n,f,s⟩:=v
 kernel_rfl
theorem Avx (w:World) (a0 a1 a2 a3 a4 a5 a6 a7 a8 a9 a10 a11 a12 a13 a14 a15 a16 a17 a18 a19 a20 a21 a22 a23 a24 a25 a26 a27 a28 a29 a30 a31 a32 b0 b1 b2 b3 b4 b5 b6 b7 b8 b9 b10 b11 b12 b13 b14 b15 b16 b17 b18 b19 b20 b21 b22 b23 b24 b25 b26 b27 b28 b29 b30 b31 b32 c0 c1 c2 c3 c4 c5 c6 c7 c8 c9 c10 c11 c12 c13 c14 c15 c16 c17 c18 c19 c20 c21 c22 c23 c24 c25 c26 c27 c28 c29 c30 c31 c32:Value) (nm:ByteArray) (k n sd:Int) (f:Nat) (t:ByteArray):(Instr.build 95 #[(0, .agg #[a0,a1,a2,a3,a4,a5,a6,a7,a8,a9,a10,a11,a12,a13,a14,a15,a16,a17,a18,a19,a20,a21,a22,a23,a24,a25,a26,a27,a28,a29,a30,a31,a32]),(1, .string nm),(2, .agg #[.int .u8 k, .int .i64 n, .float .f64 f, .string t]),(3, .agg #[b0,b1,b2,b3,b4,b5,b6,b7,b8,b9,b10,b11,b12,b13,b14,b15,b16,b17,b18,b19,b20,b21,b22,b23,b24,b25,b26,b27,b28,b29,b30,b31,b32]),(4, .agg #[c0,c1,c2,c3,c4,c5,c6,c7,c8,c9,c10,c11,c12,c13,c14,c15,c16,c17,c18,c19,c20,c21,c22,c23,c24,c25,c26,c27,c28,c29,c30,c31,c32]),(5, .int .i64 sd)]).run prog w= .ok (.agg #[a0,a1,a2,a3,a4,a5,a6,a7,a8,a9,a10,a11,a12,a13,a14,a15,a16,a17,a18,a19,a20,a21,a22,a23,a24,a25,a26,a27,a28,a29,a30,a31,a32, .string nm, .int .u8 k, .int .i64 n, .float .f64 f, .string t,b0,b1,b2,b3,b4,b5,b6,b7,b8,b9,b10,b11,b12,b13,b14,b15,b16,b17,b18,b19,b20,b21,b22,b23,b24,b25,b26,b27,b28,b29,b30,b31,b32,c0,c1,c2,c3,c4,c5,c6,c7,c8,c9,c10,c11,c12,c13,c14,c15,c16,c17,c18,c19,c20,c21,c22,c23,c24,c25,c26,c27,c28,c29,c30,c31,c32, .int .i64 sd]) w:=by kernel_rfl
theorem A0a (w:World) {x:MkV} (hx:x.ok):(Instr.build 95 #[(0,x.id.v),(1, .string x.nm),(2,x.v.v),(3,x.fr.v),(4,x.to.v),(5, .int .i64 x.sd)]).run prog w= .ok x.a w:=by
 have h1:=IdK.len hx.i
 have h2:=IdK.len hx.fr
 have h3:=IdK.len hx.to
 unfold MkV.a MkV.c IdK.v VaV.v VaV.c
 generalize x.id.c=l at *
 generalize x.fr.c=m at *
 generalize x.to.c=r at *
 match l,h1,m,h2,r,h3 with
 |a0::a1::a2::a3::a4::a5::a6::a7::a8::a9::a10::a11::a12::a13::a14::a15::a16::a17::a18::a19::a20::a21::a22::a23::a24::a25::a26::a27::a28::a29::a30::a31::a32::[],_,b0::b1::b2::b3::b4::b5::b6::b7::b8::b9::b10::b11::b12::b13::b14::b15::b16::b17::b18::b19::b20::b21::b22::b23::b24::b25::b26::b27::b28::b29::b30::b31::b32::[],_,c0::c1::c2::c3::c4::c5::c6::c7::c8::c9::c10::c11::c12::c13::c14::c15::c16::c17::c18::c19::c20::c21::c22::c23::c24::c25::c26::c27::c28::c29::c30::c31::c32::[],_=>exact Avx w a0 a1 a2 a3 a4 a5 a6 a7 a8 a9 a10 a11 a12 a13 a14 a15 a16 a17 a18 a19 a20 a21 a22 a23 a24 a25 a26 a27 a28 a29 a30 a31 a32 b0 b1 b2 b3 b4 b5 b6 b7 b8 b9 b10 b11 b12 b13 b14 b15 b16 b17 b18 b19 b20 b21 b22 b23 b24 b25 b26 b27 b28 b29 b30 b31 b32 c0 c1 c2 c3 c4 c5 c6 c7 c8 c9 c10 c11 c12 c13 c14 c15 c16 c17 c18 c19 c20 c21 c22 c23 c24 c25 c26 c27 c28 c29 c30 c31 c32 x.nm x.v.k x.v.n x.sd x.v.f x.v.s
theorem Avw (w:World) (a0 a1 a2 a3 a4 a5 a6 a7 a8 a9 a10 a11 a12 a13 a14 a15 a16 a17 a18 a19 a20 a21 a22 a23 a24 a25 a26 a27 a28 a29 a30 a31 a32 b0 b1 b2 b3 b4 b5 b6 b7 b8 b9 b10 b11 b12 b13 b14 b15 b16 b17 b18 b19 b20 b21 b22 b23 b24 b25 b26 b27 b28 b29 b30 b31 b32 c0 c1 c2 c3 c4 c5 c6 c7 c8 c9 c10 c11 c12 c13 c14 c15 c16 c17 c18 c19 c20 c21 c22 c23 c24 c25 c26 c27 c28 c29 c30 c31 c32:Value) (nm:ByteArray) (k n sd:Int) (f:Nat) (t:ByteArray):(Instr.build 99 #[(0, .agg #[a0,a1,a2,a3,a4,a5,a6,a7,a8,a9,a10,a11,a12,a13,a14,a15,a16,a17,a18,a19,a20,a21,a22,a23,a24,a25,a26,a27,a28,a29,a30,a31,a32]),(1, .string nm),(2, .agg #[.int .u8 k, .int .i64 n, .float .f64 f, .string t]),(3, .agg #[b0,b1,b2,b3,b4,b5,b6,b7,b8,b9,b10,b11,b12,b13,b14,b15,b16,b17,b18,b19,b20,b21,b22,b23,b24,b25,b26,b27,b28,b29,b30,b31,b32]),(4, .agg #[c0,c1,c2,c3,c4,c5,c6,c7,c8,c9,c10,c11,c12,c13,c14,c15,c16,c17,c18,c19,c20,c21,c22,c23,c24,c25,c26,c27,c28,c29,c30,c31,c32]),(5, .int .i64 sd)]).run prog w= .ok (.agg #[a0,a1,a2,a3,a4,a5,a6,a7,a8,a9,a10,a11,a12,a13,a14,a15,a16,a17,a18,a19,a20,a21,a22,a23,a24,a25,a26,a27,a28,a29,a30,a31,a32, .string nm, .int .u8 k, .int .i64 n, .float .f64 f, .string t,b0,b1,b2,b3,b4,b5,b6,b7,b8,b9,b10,b11,b12,b13,b14,b15,b16,b17,b18,b19,b20,b21,b22,b23,b24,b25,b26,b27,b28,b29,b30,b31,b32,c0,c1,c2,c3,c4,c5,c6,c7,c8,c9,c10,c11,c12,c13,c14,c15,c16,c17,c18,c19,c20,c21,c22,c23,c24,c25,c26,c27,c28,c29,c30,c31,c32, .int .i64 sd]) w:=by kernel_rfl
theorem Az8 (w:World) {x:MkV} (hx:x.ok):(Instr.build 99 #[(0,x.id.v),(1, .string x.nm),(2,x.v.v),(3,x.fr.v),(4,x.to.v),(5, .int .i64 x.sd)]).run prog w= .ok x.a w:=by
 have h1:=IdK.len hx.i
 have h2:=IdK.len hx.fr
 have h3:=IdK.len hx.to
 unfold MkV.a MkV.c IdK.v VaV.v VaV.c
 generalize x.id.c=l at *
 generalize x.fr.c=m at *
 generalize x.to.c=r at *
 match l,h1,m,h2,r,h3 with
 |a0::a1::a2::a3::a4::a5::a6::a7::a8::a9::a10::a11::a12::a13::a14::a15::a16::a17::a18::a19::a20::a21::a22::a23::a24::a25::a26::a27::a28::a29::a30::a31::a32::[],_,b0::b1::b2::b3::b4::b5::b6::b7::b8::b9::b10::b11::b12::b13::b14::b15::b16::b17::b18::b19::b20::b21::b22::b23::b24::b25::b26::b27::b28::b29::b30::b31::b32::[],_,c0::c1::c2::c3::c4::c5::c6::c7::c8::c9::c10::c11::c12::c13::c14::c15::c16::c17::c18::c19::c20::c21::c22::c23::c24::c25::c26::c27::c28::c29::c30::c31::c32::[],_=>exact Avw w a0 a1 a2 a3 a4 a5 a6 a7 a8 a9 a10 a11 a12 a13 a14 a15 a16 a17 a18 a19 a20 a21 a22 a23 a24 a25 a26 a27 a28 a29 a30 a31 a32 b0 b1 b2 b3 b4 b5 b6 b7 b8 b9 b10 b11 b12 b13 b14 b15 b16 b17 b18 b19 b20 b21 b22 b23 b24 b25 b26 b27 b28 b29 b30 b31 b32 c0 c1 c2 c3 c4 c5 c6 c7 c8 c9 c10 c11 c12 c13 c14 c15 c16 c17 c18 c19 c20 c21 c22 c23 c24 c25 c26 c27 c28 c29 c30 c31 c32 x.nm x.v.k x.v.n x.sd x.v.f x.v.s
end
section
open Go.RowKit
theorem Aae.lo_pushT {κ:Type} {R:Aae κ} (I:R.Is) (w:World) (base:Nat) (v:Value) (L:List κ) (okL:∀h∈L,R.ok h) (x:κ) (hown:R.Lo w base v L) (tight:∀a n c,v= .slice a n c→c=n) (ok:R.ok x) (h63:L.length+1≤maxLen) (h:((L.length+1)+(L.length+1) / 4+192)*R.bytes≤281474976710656) (hbase:base≤w.heap.size) {sv v':Value} {w1 w':World}
 (e1:(Instr.buildSlice R.t 1 #[(0, .agg (R.c x).toArray)]).run prog w= .ok sv w1) (e2:(Builtin.append_ #[R.t,R.t] R.t #[v,sv]).run prog w1= .ok v' w') (g0:w1.grownBy w' v.ownBlock) (q0:v'.ownBlock=v.ownBlock∨v'.ownBlock=some w1.heap.size):w1.grownBy w' none∧∀j,v'.ownBlock=some j→w1.heap.size≤j:=by
 rcases hown with ⟨rfl,rfl⟩|⟨g,cap,cur,rfl,hbg,hg,hnc,hcm,hcs,htake⟩
 ·exact ⟨g0,fun j hj=>by
   rcases q0 with q|q
   ·rw [q] at hj;cases hj
   ·rw [q] at hj;injection hj with hj;omega⟩
 ·obtain rfl:=tight _ _ _ rfl
  have hb0:=Aae.run_bs I x ok w
  rw [hb0] at e1
  cases e1
  have hl:=Aae.lit R w x R.e
  have b1:Below w.heap.size w (w.alloc (.cells (R.c x).toArray R.e)):=(Below.refl _ _).alloc (Nat.le_refl _) _
  have hg1:=(b1.block _ (Array.getElem?_eq_some_iff.1 hg).1).trans hg
  generalize w.alloc (.cells (R.c x).toArray R.e)=w1 at *
  obtain ⟨i,hi,hz,hs,hby⟩:=info_parts I.info
  have okM:∀y∈[x],R.ok y:=fun y hy=>by rw [List.mem_singleton.1 hy];exact ok
  have zc:(Value.agg (R.c R.z).toArray).cells.size=R.k:=by
   show (R.c R.z).toArray.size=R.k
   rw [List.size_toArray,I.len _ I.zok]
  have lL:=Aae.flat_len I okL
  have lM:=Aae.flat_len I okM
  have hnews:∀j u,(R.flat [x])[j]? =some u→w1.cell? ((⟨w.heap.size,0,none⟩:Addr).add j)=some u:=fun j u hj=>by
   rcases hl with q|⟨b,off,e,_,hc⟩
   ·cases q
   ·cases e
    obtain ⟨k,y,r,rfl,hx,hr⟩:=Aae.flat_inv I okM hj
    rw [Addr.add_mid, ←Nat.add_assoc]
    exact hc k y hx r u hr
  have holds:∀j u,(R.flat L)[j]? =some u→w1.cell? ((⟨g,0,none⟩:Addr).add j)=some u:=fun j u hj=>by
   rw [Addr.add_mid,Nat.zero_add,cell_of_row w1 g _ cur R.e (0,0) hg1]
   rw [←htake,List.getElem?_take] at hj
   split at hj
   ·simpa using hj
   ·cases hj
  have hr:=run_append_grow (P:=prog) w1 R.t R.t R.e i _ I.und hi hz ⟨g,0,none⟩ L.length L.length (R.flat L) (by rw [lL,hs,Nat.mul_comm]) holds ⟨w.heap.size,0,none⟩ 1 1 (R.flat [x]) (by rw [lM,hs,Nat.mul_comm];rfl) hnews (by omega) (by simp only [maxLen] at h63;omega) (by rw [hby];exact growslice_fits_wide (by omega) h)
  have e3:=e2.symm.trans hr
  injection e3 with e4 e5
  subst e5
  refine ⟨⟨rfl,rfl,rfl,by simp,fun k hk _=>heap_alloc_old w1.drew _ hk⟩,fun j hj=> ?_⟩
  rw [e4] at hj
  injection hj with hj
  exact Nat.le_of_eq hj
end
section
open Go.RowKit Sq
def Ais (L:List MkV) (x:MkV):Int:=if x.id.n<1 then 2 else if x.sd<0 then 2 else if x.sd>3 then 2 else if Afs L x.id=true then 5 else if Amv x.nm=false then 41 else if x.v.right=false then 30 else if x.v.k≤7 then 0 else 30
def Apr (L:List MkV) (x:MkV):List MkV:=if Ais L x=0 then L++[x] else L
def MkN (m:Mx) (base:Nat) (L':List MkV) (w w':World):Prop:=∃m',Acl w' base m'∧m'.mb=m.mb∧m'.ib=m.ib∧m'.L=L'∧(m'.lv.ownBlock=m.lv.ownBlock∨∀j,m'.lv.ownBlock=some j→w.heap.size≤j)∧Tch (fun j=>j=m.mb∨j=m.ib∨m.lv.ownBlock=some j) w w'
def tgt (v:Value):Prop:=∀a n c,v= .slice a n c→c=n
def MkT (m:Mx) (base:Nat) (L':List MkV) (w w':World):Prop:=∃m',Acl w' base m'∧m'.mb=m.mb∧m'.ib=m.ib∧m'.L=L'∧(m'.lv.ownBlock=m.lv.ownBlock∨∀j,m'.lv.ownBlock=some j→w.heap.size≤j)∧Tch (fun j=>j=m.mb∨j=m.ib∨m.lv.ownBlock=some j) w w'∧(tgt m.lv→Tch (fun j=>j=m.mb∨j=m.ib) w w'∧(tgt m'.lv∨∀j,m'.lv.ownBlock=some j→w.heap.size≤j))
theorem Aag {w:World} {j:Nat} {c c':Array Value} {t t':TypeId} {f f':Nat × Nat} (h:w.heap[j]? =some (.cells c t f)) (h':w.heap[j]? =some (.cells c' t' f')):t=t':=by
 rw [h] at h'
 injection h' with h'
 injection h' with _ h' _
theorem A0l {L:List MkV} {k:IdK} (h:Afs L k=false):M.put (idE L) k unV=idE L++[(k,unV)]:=by
 have hn:M.look (idE L) k=none:=by
  rw [Am1,if_neg (fun q=>by rw [Adl.2 q] at h;cases h)]
 unfold M.look at hn
 unfold M.put
 cases e:M.fnd (idE L) k 0 with
 |none=>rfl
 |some q=>rw [e] at hn;cases hn
section
variable {w W:World} {base:Nat} {m:Mx}
theorem MkT.same (h:Acl w base m) (b:Below w.heap.size w W):MkT m base m.L w W:=⟨m,h.below b,rfl,rfl,rfl, .inl rfl,Aan b _,fun t=>⟨Aan b _, .inl t⟩⟩
theorem Acl.apart (h:Acl w base m):m.lv.ownBlock≠some m.mb∧m.lv.ownBlock≠some m.ib∧m.mb≠m.ib:=by
 refine ⟨fun e=> ?_,fun e=> ?_,fun e=> ?_⟩
 ·obtain ⟨_,c,hc⟩:=h.lo.cells e
  have:=Aag hc h.cell
  revert this;decide
 ·obtain ⟨_,c,hc⟩:=h.lo.cells e
  obtain ⟨⟨es,c2,hm,_⟩,_⟩:=h.map
  rw [hm] at hc
  cases hc
 ·obtain ⟨⟨es,c2,hm,_⟩,_⟩:=h.map
  have:=h.cell
  rw [e,hm] at this
  cases this
theorem Aqd {lv:Value} {b i:Nat} {a:Option Addr} {n c:Nat} (h:W.heap[b]? =some (.cells #[lv, .map (some i)] 87 (0,0))) (hl:∃a n c,lv= .slice a n c):∃W',(Instr.storeAt 85 (pZ b (0+0)) (.slice a n c)).run prog W= .ok () W'∧W'.heap[b]? =some (.cells #[.slice a n c, .map (some i)] 87 (0,0))∧Tch (fun j=>j=b) W W':=by
 obtain ⟨a0,n0,c0,rfl⟩:=hl
 have c2:W.cell? ⟨b,0,none⟩=some (.slice a0 n0 c0):=(cell_of_row W b 0 _ _ _ h).trans rfl
 have f2:=frozen_of_row W b 0 _ _ h
 refine ⟨W.setCell ⟨b,0,none⟩ (.slice a n c), ?_, ?_,⟨rfl,rfl,rfl,by simp [World.setCell],fun j _ hj=>Go.heap_setCell_other _ _ _ _ hj⟩⟩
 ·go_simp
 ·obtain ⟨hl2,hv⟩:=Array.getElem?_eq_some_iff.1 h
  simp [World.setCell,hl2,Array.getElem_modify_self,hv]
def Aoh (m:Mx) (x:MkV) (b1 b2 b3 b4:Nat) (W:World):Prop:=W.heap[m.mb]? =some (.cells #[m.lv, .map (some m.ib)] 87 (0,0))∧Aaz W b1 x.id∧Abz W b2 x.v∧Aaz W b3 x.fr∧Aaz W b4 x.to
theorem Aoh.below {x:MkV} {b1 b2 b3 b4:Nat} {W':World} (h:Aoh m x b1 b2 b3 b4 W) (b:Below W.heap.size W W'):Aoh m x b1 b2 b3 b4 W' :=
 ⟨(b.block _ (Array.getElem?_eq_some_iff.1 h.1).1).trans h.1,h.2.1.below b,h.2.2.1.below b,h.2.2.2.1.below b,h.2.2.2.2.below b⟩
theorem A0h (h:Acl W base m) (hb:base≤W.heap.size) {x:MkV} (hx:x.ok) (hn:m.L.length+1≤900000000000) {b1 b2 b3 b4:Nat} (hS:Aoh m x b1 b2 b3 b4 W) :
 ∃sv w1 v2 w2 w3,(Instr.buildSlice 85 1 #[(0,x.a)]).run prog W= .ok sv w1∧Aoh m x b1 b2 b3 b4 w1∧(Builtin.append_ #[85,85] 85 #[m.lv,sv]).run prog w1= .ok v2 w2∧Aoh m x b1 b2 b3 b4 w2∧(Instr.storeAt 85 (pZ m.mb (0+0)) v2).run prog w2= .ok () w3 ∧
  w3.heap[m.mb]? =some (.cells #[v2, .map (some m.ib)] 87 (0,0))∧RM.Lo w3 base v2 (m.L++[x])∧(v2.ownBlock=m.lv.ownBlock∨∀j,v2.ownBlock=some j→W.heap.size≤j)∧Tch (fun j=>j=m.mb∨m.lv.ownBlock=some j) W w3∧(tgt m.lv→Tch (fun j=>j=m.mb) W w3∧∀j,v2.ownBlock=some j→W.heap.size≤j):=by
 have okL:∀y∈m.L,y.ok:=fun y hy=>(h.ok y hy).1
 obtain ⟨sv,w1,v2,w2,e1,e2,lo,bl1,z1,g,q,_⟩:=Aae.lo_push Acs W base m.lv m.L okL x h.lo hx (by unfold maxLen;omega) (by show _*184≤_;omega) hb
 have okx:∀y∈m.L++[x],y.ok:=fun y hy=>by
  rcases List.mem_append.1 hy with hy|hy
  ·exact okL y hy
  ·rw [List.mem_singleton.1 hy];exact hx
 have S1:=hS.below bl1
 have own:∀j,m.lv.ownBlock=some j→∃c,w1.heap[j]? =some (.cells c 95 (0,0)):=fun j hj=>((h.below bl1).lo.cells hj).2
 have keep:∀{j:Nat} {c:Array Value} {t:TypeId} {f:Nat × Nat},w1.heap[j]? =some (.cells c t f)→t≠95→w2.heap[j]? =some (.cells c t f):=fun hj ht =>
  (g.block _ (Array.getElem?_eq_some_iff.1 hj).1 (fun e=>by
   obtain ⟨c2,hc2⟩:=own _ e.symm
   exact ht (Aag hj hc2))).trans hj
 have S2:Aoh m x b1 b2 b3 b4 w2:=⟨keep S1.1 (by decide),keep S1.2.1 (by decide),keep S1.2.2.1 (by decide),keep S1.2.2.2.1 (by decide),keep S1.2.2.2.2 (by decide)⟩
 obtain ⟨a2,c2,ev,_⟩:=lo.open Acs okx
 obtain ⟨a0,c0,e0,_⟩:=h.lvS
 obtain ⟨w3,e3,n3,t3⟩:=Aqd (a:=a2) (n:=(m.L++[x]).length) (c:=c2) S2.1 ⟨a0,_,c0,e0⟩
 have n2:v2.ownBlock≠some m.mb:=fun e=>by
  obtain ⟨_,c,hc⟩:=lo.cells e
  have:=Aag hc S2.1
  revert this;decide
 refine ⟨sv,w1,v2,w2,w3,e1,S1,e2,S2,by rw [ev];exact e3,by rw [ev];exact n3,lo.keep (fun j hj=>t3.block j (lo.lt hj) (fun e=>n2 (by rw [←e];exact hj))),q.imp id (fun q j hj=>by rw [q] at hj;injection hj with hj;have:=bl1.size;omega), ?_,fun t=> ?_⟩
 ·have t1:Tch (fun j=>j=m.mb∨m.lv.ownBlock=some j) W w1:=Aan bl1 _
  have t2:Tch (fun j=>j=m.mb∨m.lv.ownBlock=some j) w1 w2:=⟨g.os,g.tape,g.output,g.size,fun j hj hO=>g.block j hj (fun e=>hO (.inr e.symm))⟩
  exact (t1.trans t2).trans (t3.mono (fun j _ e=> .inl e))
 ·obtain ⟨gn,qn⟩:=Aae.lo_pushT Acs W base m.lv m.L okL x h.lo t hx (by unfold maxLen;omega) (by show _*184≤_;omega) hb e1 e2 g q
  have t1:Tch (fun j=>j=m.mb) W w1:=Aan bl1 _
  have t2:Tch (fun j=>j=m.mb) w1 w2:=⟨gn.os,gn.tape,gn.output,gn.size,fun j hj _=>gn.block j hj (by simp)⟩
  exact ⟨(t1.trans t2).trans t3,fun j hj=>Nat.le_trans bl1.size (qn j hj)⟩
end
theorem Ahh (w:World) (k:IdK) (v:VaV) (f t:IdK):∃wx,wx=(((w.alloc (.cells k.c.toArray 36)).alloc (.cells v.c.toArray 40)).alloc (.cells f.c.toArray 36)).alloc (.cells t.c.toArray 36)∧Aaz wx w.heap.size k∧Abz wx (w.heap.size+1) v∧Aaz wx (w.heap.size+2) f∧Aaz wx (w.heap.size+3) t∧Below w.heap.size w wx∧wx.heap.size=w.heap.size+4:=by
 have al:∀(W:World) (o:Obj),(W.alloc o).heap.size=W.heap.size+1:=fun W o=>by simp
 have b1:∀(W:World) (o:Obj),Below W.heap.size W (W.alloc o):=fun W o=>(Below.refl _ _).alloc (Nat.le_refl _) _
 obtain ⟨w1,h1⟩:∃W,w.alloc (.cells k.c.toArray 36)=W:=⟨_,rfl⟩
 obtain ⟨w2,h2⟩:∃W,w1.alloc (.cells v.c.toArray 40)=W:=⟨_,rfl⟩
 obtain ⟨w3,h3⟩:∃W,w2.alloc (.cells f.c.toArray 36)=W:=⟨_,rfl⟩
 obtain ⟨w4,h4⟩:∃W,w3.alloc (.cells t.c.toArray 36)=W:=⟨_,rfl⟩
 have z1:w1.heap.size=w.heap.size+1:=by rw [←h1];exact al _ _
 have z2:w2.heap.size=w.heap.size+2:=by rw [←h2,al,z1]
 have z3:w3.heap.size=w.heap.size+3:=by rw [←h3,al,z2]
 have z4:w4.heap.size=w.heap.size+4:=by rw [←h4,al,z3]
 have B1:Below w.heap.size w w1:=by rw [←h1];exact b1 _ _
 have B2:Below w1.heap.size w1 w2:=by rw [←h2];exact b1 _ _
 have B3:Below w2.heap.size w2 w3:=by rw [←h3];exact b1 _ _
 have B4:Below w3.heap.size w3 w4:=by rw [←h4];exact b1 _ _
 have i1:Aaz w1 w.heap.size k:=by rw [←h1];exact heap_alloc_new _ _
 have i2:Abz w2 (w.heap.size+1) v:=by rw [←h2, ←z1];exact heap_alloc_new _ _
 have i3:Aaz w3 (w.heap.size+2) f:=by rw [←h3, ←z2];exact heap_alloc_new _ _
 have i4:Aaz w4 (w.heap.size+3) t:=by rw [←h4, ←z3];exact heap_alloc_new _ _
 refine ⟨w4,by rw [←h4, ←h3, ←h2, ←h1],((i1.below B2).below B3).below B4,(i2.below B3).below B4,i3.below B4,i4, ?_,z4⟩
 exact ((B1.trans (B2.mono (by omega))).trans (B3.mono (by omega))).trans (B4.mono (by omega))
section
variable {w:World} {base:Nat} {m:Mx}
theorem A0i (h:Acl w base m) (hb:base≤w.heap.size) (hT:K.V.Tabs w) {x:MkV} (hx:x.ok) (hn:m.L.length+1≤900000000000) :
 Calls prog 12 #[(pZ m.mb 0),x.id.v, .string x.nm,x.v.v,x.fr.v,x.to.v, .int .i64 x.sd] w fun e w'=>e= .returned (.int .i64 (Ais m.L x))∧MkT m base (Apr m.L x) w w':=by
 obtain ⟨wx,ewx,i1,i2,i3,i4,bx,zx⟩:=Ahh w x.id x.v x.fr x.to
 have HX:=Aaa (And.intro i1 (And.intro i2 (And.intro i3 i4)))
 have HH:=Aaa h
 have HT:=Aaa hT
 have HK:=Aaa hx
 have HB:=Aaa hb
 have HNN:=Aaa hn
 have BX:=Aaa bx
 have ZX:=Aaa zx
 have hlt:m.mb<w.heap.size:=(Array.getElem?_eq_some_iff.1 h.cell).1
 have HLT:=Aaa hlt
 have HC:Hid (Ais m.L x=if x.id.n<1 then 2 else if x.sd<0 then 2 else if x.sd>3 then 2 else if Afs m.L x.id=true then 5 else if Amv x.nm=false then 41 else if x.v.right=false then 30 else if x.v.k≤7 then 0 else 30):=rfl
 have HR:Hid (Apr m.L x=if Ais m.L x=0 then m.L++[x] else m.L):=rfl
 have HW:=Aaa ewx
 have SAME:Hid (∀(W:World) (c:Int),Below w.heap.size w W→Ais m.L x=c→c≠0→(Ending.returned (.int .i64 c):Ending)= .returned (.int .i64 (Ais m.L x))∧MkT m base (Apr m.L x) w W):=fun W c b e hc=>by
  refine ⟨by rw [e], ?_⟩
  rw [HR.out,if_neg (by rw [e];exact hc)]
  exact MkT.same h b
 clear i1 i2 i3 i4 bx zx h hT hx hb hn hlt ewx
 show Calls prog 12 #[(pZ m.mb 0), .agg x.id.c.toArray, .string x.nm, .agg x.v.c.toArray, .agg x.fr.c.toArray, .agg x.to.c.toArray, .int .i64 x.sd] w _
 generalize Apr m.L x=rr at *
 generalize Ais m.L x=cc at *
 go_enter func12,ntmps12
 go_upto_region 3 with fail
 rw [←HW.out]
 cases hn1:decide (x.id.n<1) with
 |true =>
  have HN:=Aaa hn1
  clear hn1
  refine En.zqc tab rfl (En.st (((show ∀W,W=wx→(Instr.loadAt 3 (pZ w.heap.size (0+32))).run prog W= .ok (.int .i64 x.id.n) W from (fun W e=>by rw [e,Nat.zero_add];exact Awc HK.out.i HX.out.1)) _ rfl)) (En.cm (c':=true) (HN.out) (En.fi ?_)))
  intro a' w2 hw ha
  obtain rfl:wx=w2:=hw.symm
  subst ha
  simp only [En.pM,En.pU,Act.put,qsA,qsB,qsC]
  clear HX
  go_wp2
  go_ret
  exact SAME.out _ _ BX.out (by rw [HC.out,if_pos (of_decide_eq_true HN.out)]) (by decide)
 |false =>
  have HN:=Aaa hn1
  clear hn1
  cases hs0:decide (x.sd<0) with
  |true =>
   have H0:=Aaa hs0
   clear hs0
   refine En.zqc tab rfl (En.st (((show ∀W,W=wx→(Instr.loadAt 3 (pZ w.heap.size (0+32))).run prog W= .ok (.int .i64 x.id.n) W from (fun W e=>by rw [e,Nat.zero_add];exact Awc HK.out.i HX.out.1)) _ rfl)) (En.cm (c':=false) (HN.out) (En.cm (c':=true) (H0.out) (En.fi ?_))))
   intro a' w2 hw ha
   obtain rfl:wx=w2:=hw.symm
   subst ha
   simp only [En.pM,En.pU,Act.put,qsA,qsB,qsC]
   clear HX
   go_wp2
   go_ret
   exact SAME.out _ _ BX.out (by rw [HC.out,if_neg (of_decide_eq_false HN.out),if_pos (of_decide_eq_true H0.out)]) (by decide)
  |false =>
   have H0:=Aaa hs0
   clear hs0
   obtain ⟨r3,hr3⟩:∃r,decide (x.sd>3)=r:=⟨_,rfl⟩
   have H3:=Aaa hr3
   clear hr3
   refine En.zqc tab rfl (En.st (((show ∀W,W=wx→(Instr.loadAt 3 (pZ w.heap.size (0+32))).run prog W= .ok (.int .i64 x.id.n) W from (fun W e=>by rw [e,Nat.zero_add];exact Awc HK.out.i HX.out.1)) _ rfl)) (En.cm (c':=false) (HN.out) (En.cm (c':=false) (H0.out) (En.cm (c':=r3) (H3.out) (En.fi ?_)))))
   intro a' w2 hw ha
   obtain rfl:wx=w2:=hw.symm
   subst ha
   simp only [En.pM,En.pU,Act.put,qsA,qsB,qsC]
   cases r3 with
   |true =>
    clear HX
    go_wp2
    go_ret
    exact SAME.out _ _ BX.out (by rw [HC.out,if_neg (of_decide_eq_false HN.out),if_neg (of_decide_eq_false H0.out),if_pos (of_decide_eq_true H3.out)]) (by decide)
   |false =>
    have C0:Hid (cc=if Afs m.L x.id=true then 5 else if Amv x.nm=false then 41 else if x.v.right=false then 30 else if x.v.k≤7 then 0 else 30):=by
        show cc=_
        rw [HC.out,if_neg (of_decide_eq_false HN.out),if_neg (of_decide_eq_false H0.out),if_neg (of_decide_eq_false H3.out)]
    have HSD:Hid (0≤x.sd∧x.sd≤3):=by
        have h1:=of_decide_eq_false H0.out
        have h2:=of_decide_eq_false H3.out
        show 0≤x.sd∧x.sd≤3
        omega
    clear HC H3 H0
    go_upto_region 5 with fail
    refine A9k (k:=x.id) (b1:=w.heap.size) (r:=Afs m.L x.id) (fun W=>Below wx.heap.size wx W) _ wx _ rfl rfl rfl (fun W e=>by rw [e];exact Aah HK.out.i HX.out.1) (Amq (HH.out.below BX.out) HK.out.i) ?_
    intro a' w3 hf ha
    subst ha
    simp only [Act.put,qsA,qsB,qsC]
    have B3:Hid (Below w.heap.size w w3):=BX.out.trans (hf.mono BX.out.size)
    have X3:Hid (Aaz w3 w.heap.size x.id∧Abz w3 (w.heap.size+1) x.v∧Aaz w3 (w.heap.size+2) x.fr∧Aaz w3 (w.heap.size+3) x.to):=⟨HX.out.1.below hf,HX.out.2.1.below hf,HX.out.2.2.1.below hf,HX.out.2.2.2.below hf⟩
    clear hf HX
    cases hq:Afs m.L x.id with
    |true =>
     have HQ:=Aaa hq
     clear hq
     go_wp2
     go_ret
     exact SAME.out _ _ B3.out (by rw [C0.out,if_pos HQ.out]) (by decide)
    |false =>
     have HQ:=Aaa hq
     clear hq
     go_upto_region 7 with fail
     obtain ⟨kb,hkb⟩:∃r,Amv x.nm=r:=⟨_,rfl⟩
     have CK:Hid (Calls prog 40 #[.string x.nm] w3 fun e w'=>e= .returned (.bool kb)∧Below w3.heap.size w3 w'):=by rw [←hkb];exact Awk x.nm w3 (HT.out.below B3.out)
     have HKB:=Aaa hkb
     clear hkb
     refine En.zqc tab rfl (En.ca (CK.out) ?_)
     rintro _ w4_ ⟨rfl,HF⟩
     refine ⟨_,rfl,En.fi ?_⟩
     intro a' w4 hf0 ha
     have hf:=HF
     obtain rfl:w4=w4_:=hf0
     subst ha
     simp only [En.pM,En.pU,Act.put,qsA,qsB,qsC]
     have B4:Hid (Below w.heap.size w w4):=B3.out.trans (hf.mono B3.out.size)
     have X4:Hid (Aaz w4 w.heap.size x.id∧Abz w4 (w.heap.size+1) x.v∧Aaz w4 (w.heap.size+2) x.fr∧Aaz w4 (w.heap.size+3) x.to):=⟨X3.out.1.below hf,X3.out.2.1.below hf,X3.out.2.2.1.below hf,X3.out.2.2.2.below hf⟩
     clear hf CK X3 B3
     cases kb with
     |false =>
      go_wp2
      go_ret
      exact SAME.out _ _ B4.out (by rw [C0.out,if_neg (by rw [HQ.out];decide),if_pos HKB.out]) (by decide)
     |true =>
      have C1:Hid (cc=if x.v.right=false then 30 else if x.v.k≤7 then 0 else 30):=by
          show cc=_
          rw [C0.out,if_neg (by rw [HQ.out];decide),if_neg (by rw [HKB.out];decide)]
      clear C0 HKB
      go_upto_region 9 with fail
      have CR:=Aaa (Aom x.v HK.out.v w4 (HT.out.below B4.out))
      cases hr:x.v.right with
      |false =>
       have ez:vaC x.v=30:=by unfold vaC;rw [hr];rfl
       rw [ez] at CR
       have HRR:=Aaa hr
       clear hr ez
       refine En.zqc tab rfl (En.st (((show ∀W,W=w4→(Instr.loadAt 40 (pZ (w.heap.size+1) 0)).run prog W= .ok (x.v.v) W from (fun W e=>by rw [e];exact Abv X4.out.2.1)) _ rfl)) (En.ca (CR.out) ?_))
       rintro _ w5_ ⟨rfl,HF⟩
       refine ⟨_,rfl,En.cm (En.neB ((show decide (30≠0)=true from (by decide)))) (En.fi ?_)⟩
       intro a' w5 hf0 ha
       have hf:=HF
       obtain rfl:w5=w5_:=hf0
       subst ha
       simp only [En.pM,En.pU,Act.put,qsA,qsB,qsC]
       have B5:Hid (Below w.heap.size w w5):=B4.out.trans (hf.mono B4.out.size)
       clear hf CR X4
       go_wp2
       go_ret
       exact SAME.out _ _ B5.out (by rw [C1.out,if_pos HRR.out]) (by decide)
      |true =>
       have ez:vaC x.v=0:=by unfold vaC;rw [hr];rfl
       rw [ez] at CR
       have HRR:=Aaa hr
       clear hr ez
       obtain ⟨sc,hsc⟩:∃r,decide (x.v.k≤7)=r:=⟨_,rfl⟩
       have HSC:=Aaa hsc
       clear hsc
       refine En.zqc tab rfl (En.st (((show ∀W,W=w4→(Instr.loadAt 40 (pZ (w.heap.size+1) 0)).run prog W= .ok (x.v.v) W from (fun W e=>by rw [e];exact Abv X4.out.2.1)) _ rfl)) (En.ca ((show Calls prog 41 #[x.v.v] w4 fun e w'=>e= .returned (.int .i64 0)∧(Instr.loadAt 37 (pZ (w.heap.size+1) (0+0))).run prog w'= .ok (.int .u8 x.v.k) w'∧Calls prog 42 #[.int .u8 x.v.k] w' fun e w2=>e= .returned (.bool sc)∧(fun W=>Below w4.heap.size w4 W) w2 from (CR.out.mono ?_))) ?_))
       ·rintro e W ⟨rfl,b⟩
        refine ⟨rfl,Ada (X4.out.2.1.below b),(Akm x.v.k W).mono ?_⟩
        rintro e W' ⟨rfl,rfl⟩
        exact ⟨by rw [HSC.out],b⟩
       rintro _ w5_ ⟨rfl,LKD,CS⟩
       refine ⟨_,rfl,En.cm (En.neB ((show decide (0≠0)=false from (by decide)))) (En.st (LKD) (En.ca (CS) ?_))⟩
       rintro _ w5_ ⟨rfl,HF⟩
       refine ⟨_,rfl,En.fi ?_⟩
       intro a' w5 hf0 ha
       have hf:=HF
       obtain rfl:w5=w5_:=hf0
       subst ha
       simp only [En.pM,En.pU,Act.put,qsA,qsB,qsC]
       have B5:Hid (Below w.heap.size w w5):=B4.out.trans (hf.mono B4.out.size)
       have X5:Hid (Aaz w5 w.heap.size x.id∧Abz w5 (w.heap.size+1) x.v∧Aaz w5 (w.heap.size+2) x.fr∧Aaz w5 (w.heap.size+3) x.to):=⟨X4.out.1.below hf,X4.out.2.1.below hf,X4.out.2.2.1.below hf,X4.out.2.2.2.below hf⟩
       clear hf CR X4 B4
       cases sc with
       |false =>
        go_wp2
        go_ret
        exact SAME.out _ _ B5.out (by rw [C1.out,if_neg (by rw [HRR.out];decide),if_neg (of_decide_eq_false HSC.out)]) (by decide)
       |true =>
        have C2:Hid (cc=0):=by show cc=0;rw [C1.out,if_neg (by rw [HRR.out];decide),if_pos (of_decide_eq_true HSC.out)]
        clear C1 HSC HRR SAME
        have bd:Below w5.heap.size w5 w5.drew:=(Below.refl _ _).drew
        have B6:Hid (Below w.heap.size w w5.drew):=B5.out.drew
        have SA:Hid (Aoh m x w.heap.size (w.heap.size+1) (w.heap.size+2) (w.heap.size+3) w5.drew):=⟨(HH.out.below B6.out).cell,X5.out.1.below bd,X5.out.2.1.below bd,X5.out.2.2.1.below bd,X5.out.2.2.2.below bd⟩
        obtain ⟨sv,y1,v2,y2,y3,e1,s1,e2,s2,e3,n3,lo3,q3,t3,tt⟩:=A0h (HH.out.below B6.out) (Nat.le_trans HB.out B6.out.size) HK.out HNN.out SA.out
        have E:=Aaa (And.intro e1 (And.intro s1 (And.intro e2 (And.intro s2 e3))))
        have LDL:Hid (∀W,Aoh m x w.heap.size (w.heap.size+1) (w.heap.size+2) (w.heap.size+3) W→(Instr.loadAt 85 (pZ m.mb (0+0))).run prog W= .ok m.lv W):=fun W hS=>by
            obtain ⟨a,c,e,_⟩:=HH.out.lvS
            have hc:W.cell? ⟨m.mb,0,none⟩=some (.slice a m.L.length c):=by rw [←e];exact (cell_of_row W m.mb 0 _ _ _ hS.1).trans rfl
            rw [e]
            go_simp
        have mp3:M.MapAt y3 m.ib IdK.v IdK.ok (idE m.L):=(HH.out.below B6.out).map.below (t3.block _ (HH.out.below B6.out).map.lt (fun q=>by
            have ap:=(HH.out.below B6.out).apart
            rcases q with q|q
            ·exact ap.2.2 q.symm
            ·exact ap.2.1 q))
        obtain ⟨ob,ep,mp4⟩:=M.run_put (P:=prog) (w:=y3.drew) Asq underlying84 (mp3.below rfl) x.id HK.out.i (.agg #[])
        have PUT:Hid (MkT m base rr w (M.setM y3.drew m.ib ob)):=by
            show MkT m base rr w (M.setM y3.drew m.ib ob)
            rw [HR.out,if_pos C2.out]
            have ap:=(HH.out.below B6.out).apart
            have nib:∀j,v2.ownBlock=some j→j≠m.ib:=fun j hj e=>by
             obtain ⟨_,c,hc⟩:=lo3.cells hj
             obtain ⟨⟨es,c2,hm2,_⟩,_⟩:=mp3
             rw [e,hm2] at hc
             cases hc
            have em:=A0l HQ.out
            have mp5:M.MapAt (M.setM y3.drew m.ib ob) m.ib IdK.v IdK.ok (idE (m.L++[x])):=by
             have e5:idE (m.L++[x])=M.put (idE m.L) x.id (.agg #[]):=by
              rw [show M.put (idE m.L) x.id (.agg #[])=M.put (idE m.L) x.id unV from rfl,em]
              simp [idE]
             rw [e5]
             exact mp4
            refine ⟨⟨m.mb,v2,m.ib,m.L++[x]⟩,⟨(M.setM_other ob ap.2.2).trans n3,lo3.keep (fun j hj=>M.setM_other ob (nib j hj)),fun y hy=> ?_,mp5,by simp only [List.length_append,List.length_singleton];exact HNN.out⟩,rfl,rfl,rfl,q3.imp id (fun q j hj=>Nat.le_trans B6.out.size (q j hj)), ?_,fun t=> ?_⟩
            ·rcases List.mem_append.1 hy with hy|hy
             ·exact HH.out.ok y hy
             ·rw [List.mem_singleton.1 hy];exact ⟨HK.out,HSD.out⟩
            ·have t0:Tch (fun j=>j=m.mb∨j=m.ib∨m.lv.ownBlock=some j) w w5.drew:=Aan B6.out _
             have t4:Tch (fun j=>j=m.mb∨j=m.ib∨m.lv.ownBlock=some j) w5.drew y3:=t3.mono (fun j _ e=>e.elim .inl (fun q=> .inr (.inr q)))
             have t5:Tch (fun j=>j=m.mb∨j=m.ib∨m.lv.ownBlock=some j) y3 (M.setM y3.drew m.ib ob):=⟨rfl,rfl,rfl,by rw [M.setM_size];exact Nat.le_refl _,fun j _ hj=>M.setM_other ob (fun e=>hj (.inr (.inl e)))⟩
             exact (t0.trans t4).trans t5
            ·obtain ⟨u1,u2⟩:=tt t
             have t0:Tch (fun j=>j=m.mb∨j=m.ib) w w5.drew:=Aan B6.out _
             have t4:Tch (fun j=>j=m.mb∨j=m.ib) w5.drew y3:=u1.mono (fun j _ e=> .inl e)
             have t5:Tch (fun j=>j=m.mb∨j=m.ib) y3 (M.setM y3.drew m.ib ob):=⟨rfl,rfl,rfl,by rw [M.setM_size];exact Nat.le_refl _,fun j _ hj=>M.setM_other ob (fun e=>hj (.inr e))⟩
             exact ⟨(t0.trans t4).trans t5, .inr (fun j hj=>Nat.le_trans B6.out.size (u2 j hj))⟩
        have EP:=Aaa ep
        have XY:Hid (Aaz y3.drew w.heap.size x.id∧y3.drew.heap[m.mb]? =some (.cells #[v2, .map (some m.ib)] 87 (0,0))):=⟨(t3.block _ (SA.out.2.1.lt) (fun q=>by
             rcases q with q|q
             ·have:=HLT.out;omega
             ·obtain ⟨_,c,hc⟩:=HH.out.lo.cells q
              have:=(Array.getElem?_eq_some_iff.1 hc).1
              omega)).trans SA.out.2.1,n3⟩
        clear e1 s1 e2 s2 e3 n3 lo3 q3 t3 tt mp3 ep mp4 bd X5 B5
        go_upto_region 11 with fail
        refine En.zyc tab [0,1,2,3,4,5,6,7,8,9,10,11,12,13,14,15,16] 16 (fun w'=>(Aoh m x w.heap.size (w.heap.size+1) (w.heap.size+2) (w.heap.size+3)) w') (hS:=(SA.out)) (h:=En.sty (fun Xw Xh=>(LDL.out _ Xh)) (En.sty (fun Xw Xh=>((show ∀W,(Aoh m x w.heap.size (w.heap.size+1) (w.heap.size+2) (w.heap.size+3)) W→(Instr.loadAt 36 (pZ w.heap.size 0)).run prog W= .ok (x.id.v) W from (fun W hS=>Aah HK.out.i hS.2.1)) _ Xh)) (En.sty (fun Xw Xh=>((show ∀W,(Aoh m x w.heap.size (w.heap.size+1) (w.heap.size+2) (w.heap.size+3)) W→(Instr.loadAt 40 (pZ (w.heap.size+1) 0)).run prog W= .ok (x.v.v) W from (fun W hS=>Abv hS.2.2.1)) _ Xh)) (En.sty (fun Xw Xh=>((show ∀W,(Aoh m x w.heap.size (w.heap.size+1) (w.heap.size+2) (w.heap.size+3)) W→(Instr.loadAt 36 (pZ (w.heap.size+2) 0)).run prog W= .ok (x.fr.v) W from (fun W hS=>Aah HK.out.fr hS.2.2.2.1)) _ Xh)) (En.sty (fun Xw Xh=>((show ∀W,(Aoh m x w.heap.size (w.heap.size+1) (w.heap.size+2) (w.heap.size+3)) W→(Instr.loadAt 36 (pZ (w.heap.size+3) 0)).run prog W= .ok (x.to.v) W from (fun W hS=>Aah HK.out.to hS.2.2.2.2)) _ Xh)) (En.sty (fun Xw Xh=>((show ∀W,(Instr.build 95 #[(0,x.id.v),(1, .string x.nm),(2,x.v.v),(3,x.fr.v),(4,x.to.v),(5, .int .i64 x.sd)]).run prog W= .ok x.a W from (fun W=>A0a W HK.out)) _)) (En.efy (E.out.1) (E.out.2.1) (En.efy (E.out.2.2.1) (E.out.2.2.2.1) (En.eu (E.out.2.2.2.2) (En.fi ?_))))))))))
        intro a' w6 hw ha
        obtain rfl:y3=w6:=hw.symm
        subst ha
        simp only [En.pM,En.pU,Act.put,qsA,qsB,qsC]
        clear E LDL SA
        go_upto_region 12 with fail
        refine En.zyc tab [0,1,2,3,4,5,6] 6 (fun w'=>(fun W=>W=y3.drew) w') (hS:=(rfl)) (h:=En.sty (fun Xw Xh=>((show ∀W,(fun W=>W=y3.drew) W→(Instr.loadAt 84 (pZ m.mb (0+1))).run prog W= .ok (.map (some m.ib)) W from (fun W e=> ?_)) _ Xh)) (En.sty (fun Xw Xh=>((show ∀W,(fun W=>W=y3.drew) W→(Instr.loadAt 36 (pZ w.heap.size 0)).run prog W= .ok (x.id.v) W from (fun W e=>by rw [e];exact Aah HK.out.i XY.out.1)) _ Xh)) (En.sty (fun Xw Xh=>((show ∀W,(Instr.build 96 #[]).run prog W= .ok (.agg #[]) W from (fun W=>Aod W)) _)) (En.eu (EP.out) (En.fi ?_)))))
        ·have hc:W.cell? ⟨m.mb,1,none⟩=some (.map (some m.ib)):=by rw [e];exact (cell_of_row y3.drew m.mb 1 _ _ _ XY.out.2).trans rfl
         clear e
         go_simp
        intro a' w6 hw ha
        obtain rfl:M.setM y3.drew m.ib ob=w6:=hw.symm
        subst ha
        simp only [En.pM,En.pU,Act.put,qsA,qsB,qsC]
        clear EP XY
        go_wp2
        go_ret
        exact ⟨by rw [C2.out];rfl,PUT.out⟩
end
end
section
open Go.RowKit
theorem A1a (a:Option Addr) (m c:Nat) (w:World):(Builtin.len_ #[85] 3 #[.slice a m c]).run prog w= .ok (.int .i64 (m:Int)) w:=by go_simp
theorem Ays {b o n c i:Nat} (hi:i<n) (hm:n≤9223372036854775807) (W:World):(Instr.indexAt 85 (.slice (some ⟨b,o,none⟩) n c) (.int .i64 (i:Int))).run prog W= .ok (pZ b (o+105*i)) W:=by
 rw [Nat.mul_comm]
 go_simp
theorem qcR {l n:Nat} {P:Program} {ops:Array Oper} {rest:List Oper} {o:Oper} {a:Act} {w:World} {Q:Exit→Act→World→Prop} {f:Nat} {vs:Array Value} {R:Ending→World→Prop} {d:Nat} (h1:1≤n) (hw:Region.wanted o (yielded ops a.tmps)=true) (hr:(execOp a.eval o).run P w= .ok (.enter f vs) w) (hC:Calls P f vs w R) (h:∀e w',R e w'→∃v,e= .returned v∧∀a',a'=a.put (some d) v→wpListIn (Fence.wide.inRound l) n P ops Q rest a' w') (hd:o.dst=some d:=by rfl) (hn:∀c,o.op≠ .defer c:=by intro c h;cases h):wpListIn (Fence.wide.inRound l) n P ops Q (o::rest) a w :=
 wpListIn_step fun K hK=>by
  rw [if_pos hw]
  refine ⟨fun f _=>trivial, ?_⟩
  rw [Oper.semAt_plain _ _ _ hn,hr,Oper.uponIn_enter]
  refine ⟨fun _=>h1,(CallsIn.inRound l (callsIn_wide.2 hC)).mono ?_⟩
  intro e w' hp
  obtain ⟨v,rfl,hh⟩:=h e w' hp
  exact hK _ _ (by rw [hd];exact hh _ rfl)
def Az5:Array Oper:=(⟨_,rfl⟩:{o // some o=rgB Tryz.f101 0}).1
theorem Bab {bs n c:Nat} {la:Option Addr} (a:Act) (w:World) (Q:Exit→Act→World→Prop) (zz:a.tmps.size=19)
 (t1:a.tmps.getD 1 undef= (pZ bs 0))
 (hb: -9223372036854775808≤(n:Int)-1∧(n:Int)-1≤9223372036854775807) (LB:∀W,W=w→(Instr.loadAt 85 (pZ bs 0)).run prog W= .ok (.slice la n c) W)
 (h:∀a' w',w'=w→a'=(((a.put (some 4) (.slice la n c)).put (some 5) (.int .i64 (n:Int))).put (some 6) (.int .i64 ((n:Int)-1))).put (some 3) (.int .i64 ((n:Int)-1))→Q .normal a' w') :
 (Code.region 0 Az5 false).wp prog Q a w:=by
 refine z0 rfl ?_
 refine zv rfl (xld rfl (zi t1 rfl) (LB _ rfl)) ?_
 refine zv rfl (Af4 rfl (zg zz rfl) (A1a _ _ _ _)) ?_
 refine zv (v:= .int .i64 ((n:Int)-1)) rfl (Atp rfl (zg zz rfl) rfl hb) ?_
 refine zv rfl (xas rfl (zg zz rfl)) ?_
 exact ze rfl (h _ _ (rfl) rfl)
def Avu:Oper:=⟨some 11, .move (.tmp 0),159,"iter.go:29", #[],none⟩
def Avt:Oper:=⟨some 12, .move (.tmp 3),3,"iter.go:29", #[],none⟩
def Avs:Oper:=⟨some 13, .load 85 (.tmp 1),85,"iter.go:29", #[],none⟩
def Avr:Oper:=⟨some 14, .move (.tmp 3),3,"iter.go:29", #[],none⟩
def Avq:Oper:=⟨some 15, .indexAddr 85 (.tmp 13) (.tmp 14),0,"iter.go:29", #[⟨2, .data⟩,⟨3, .data⟩],none⟩
def Avp:Oper:=⟨some 16, .load 95 (.tmp 15),95,"iter.go:29", #[⟨4, .data⟩],none⟩
def All:Oper:=⟨some 17, .call {callee:=Callee.value (.tmp 11),args:= #[.tmp 12, .tmp 16],argTypes:= #[3,95]},4,"iter.go:29", #[⟨0, .data⟩,⟨1, .data⟩,⟨5, .data⟩],none⟩
def Alk:Oper:=⟨some 18, .unOp UnOp.not 4 (.tmp 17),4,"iter.go:29", #[⟨6, .data⟩],none⟩
def Az4:Array Oper:= #[Avu,Avt,Avs,Avr,Avq,Avp,All,Alk]
theorem Baa {bs g o n c i l n0:Nat} {x:MkV} (Fin:Bool→World→Prop) (a:Act) (w:World) (Q:Exit→Act→World→Prop) (hsz:a.tmps.size=19)
 (t0:a.tmps.getD 0 undef= .func (.yield l) #[] #[])
 (t1:a.tmps.getD 1 undef= (pZ bs 0))
 (t3:a.tmps.getD 3 undef= .int .i64 (i:Int))
 (hi:i<n) (hm:n≤9223372036854775807) (LB:(Instr.loadAt 85 (pZ bs 0)).run prog w= .ok (.slice (some ⟨g,o,none⟩) n c) w) (LX:(Instr.loadAt 95 (pZ g (o+105*i))).run prog w= .ok x.a w) (CY:YieldAt Fence.wide (n0-1) prog l #[.int .i64 (i:Int),x.a] w fun e w'=> ∃b,e= .returned (.bool b)∧Fin b w')
 (h:∀(b:Bool) a' w',Fin b w'→a'=(((((((a.put (some 11) (.func (.yield l) #[] #[])).put (some 12) (.int .i64 (i:Int))).put (some 13) (.slice (some ⟨g,o,none⟩) n c)).put (some 14) (.int .i64 (i:Int))).put (some 15) (pZ g (o+105*i))).put (some 16) (x.a)).put (some 17) (.bool b)).put (some 18) (.bool (!b))→Q .normal a' w') :
 (Code.region 3 Az4 false).wpIn Fence.wide n0 prog Q a w:=by
 refine wpIn_region_list ?_
 change wpListIn _ _ _ _ _ [Avu,Avt,Avs,Avr,Avq,Avp,All,Alk] _ _
 refine qvI (v:= .func (.yield l) #[] #[]) (by rfl) (xmv rfl t0) (fun a0 e0=> ?_)
 rw [←e0] at h
 have z0:=pz e0 hsz
 replace t1:=pk e0 t1
 replace t3:=pk e0 t3
 clear t0
 have t11:=pq e0 hsz
 clear e0 hsz
 refine qvI (v:= .int .i64 (i:Int)) (by rfl) (xmv rfl t3) (fun a1 e1=> ?_)
 rw [←e1] at h
 have z1:=pz e1 z0
 replace t1:=pk e1 t1
 replace t3:=pk e1 t3
 replace t11:=pk e1 t11
 have t12:=pq e1 z0
 clear e1 z0
 refine qvI (v:= .slice (some ⟨g,o,none⟩) n c) (by rfl) (xld rfl t1 LB) (fun a2 e2=> ?_)
 rw [←e2] at h
 have z2:=pz e2 z1
 replace t3:=pk e2 t3
 replace t11:=pk e2 t11
 replace t12:=pk e2 t12
 clear t1
 have t13:=pq e2 z1
 clear e2 z1
 refine qvI (v:= .int .i64 (i:Int)) (by rfl) (xmv rfl t3) (fun a3 e3=> ?_)
 rw [←e3] at h
 have z3:=pz e3 z2
 replace t11:=pk e3 t11
 replace t12:=pk e3 t12
 replace t13:=pk e3 t13
 clear t3
 have t14:=pq e3 z2
 clear e3 z2
 refine qvI (v:= (pZ g (o+105*i))) (by rfl) (xia rfl t13 t14 (Ays hi hm _)) (fun a4 e4=> ?_)
 rw [←e4] at h
 have z4:=pz e4 z3
 replace t11:=pk e4 t11
 replace t12:=pk e4 t12
 clear t13 t14
 have t15:=pq e4 z3
 clear e4 z3
 refine qvI (v:=x.a) (by rfl) (xld rfl t15 LX) (fun a5 e5=> ?_)
 rw [←e5] at h
 have z5:=pz e5 z4
 replace t11:=pk e5 t11
 replace t12:=pk e5 t12
 clear t15
 have t16:=pq e5 z4
 clear e5 z4
 refine qyI (by rfl) (by unfold All;go_simp) (CY) (fun e x6 hx=> ?_)
 obtain ⟨b,rfl,HF⟩:=hx
 replace h:=h b
 refine ⟨_,rfl,fun a6 e6=> ?_⟩
 rw [←e6] at h
 have z6:=pz e6 z5
 clear t11 t12 t16
 have t17:=pq e6 z5
 clear e6 z5
 refine qvI (v:= .bool (!b)) (by rfl) (by unfold Alk;go_simp) (fun a7 e7=> ?_)
 rw [←e7] at h
 have z7:=pz e7 z6
 clear t17
 clear e7 z6
 exact wpListIn_nil (h _ _ (HF) rfl)
def Azu:Array Oper:=(⟨_,rfl⟩:{o // some o=rgB Tryz.f56 3}).1
theorem A98 {mb:Nat} {lv:Value} (Fin:Value→World→Prop) (a:Act) (w:World) (Q:Exit→Act→World→Prop) (zz:a.tmps.size=53)
 (t0:a.tmps.getD 0 undef= (pZ mb 0))
 (LL:∀W,W=w→(Instr.loadAt 85 (pZ mb (0+0))).run prog W= .ok (lv) W) (CB:Calls prog 80 #[lv] w fun e w'=> ∃v,e= .returned v∧Fin v w')
 (h:∀(v:Value) a' w',Fin v w'→a'=((((a.put (some 16) (pZ mb 0)).put (some 17) (pZ mb 0)).put (some 18) (pZ mb (0+0))).put (some 19) (lv)).put (some 20) (v)→Q .normal a' w') :
 (Code.region 3 Azu false).wp prog Q a w:=by
 refine z0 rfl ?_
 refine zv rfl (xmv rfl (zi t0 rfl)) ?_
 refine zv rfl (xnc rfl (zg zz rfl)) ?_
 refine zv rfl (xfa rfl (zg zz rfl) (Ak8 _ _ _)) ?_
 refine zv rfl (xld rfl (zg zz rfl) (LL _ rfl)) ?_
 refine zc rfl (Adc rfl (zg zz rfl)) (CB) (fun e x4 hx=> ?_)
 obtain ⟨v,rfl,HF⟩:=hx
 replace h:=h v
 refine ⟨_,rfl, ?_⟩
 exact ze rfl (h _ _ (HF) rfl)
def Avb:Oper:=⟨some 10, .alloc 95,0,"tell.go:33", #[],none⟩
def Ava:Oper:=⟨none, .store 95 (.tmp 10) (.tmp 22),0,"tell.go:33", #[⟨0, .data⟩,⟨0, .phase⟩],none⟩
def Azt:Array Oper:= #[Avb,Ava]
theorem A97 {l n eb:Nat} {v:Value} {w1 w2:World} (a:Act) (w:World) (Q:Exit→Act→World→Prop) (hsz:a.tmps.size=53)
 (t22:a.tmps.getD 22 undef=v)
 (EA:(Instr.alloc 95 true (.tuple #[])).run prog w= .ok (pZ eb 0) w1) (ES:(Instr.storeAt 95 (pZ eb 0) v).run prog w1= .ok () w2)
 (h:∀a' w',w'=w2→a'=a.put (some 10) (pZ eb 0)→Q .normal a' w') :
 (Code.region 4 Azt false).wpIn (Fence.wide.inRound l) n prog Q a w:=by
 refine wpIn_region_list ?_
 change wpListIn _ _ _ _ _ [Avb,Ava] _ _
 refine qkI (v:= (pZ eb 0)) (by rfl) (Abd rfl EA) (fun a0 e0=> ?_)
 rw [←e0] at h
 have z0:=pz e0 hsz
 replace t22:=pk e0 t22
 have t10:=pq e0 hsz
 clear e0 hsz
 refine qsI (by rfl) (Aai rfl t10 t22 ES) ?_
 exact wpListIn_nil (h _ _ (rfl) rfl)
def Au9:Oper:=⟨some 24, .load 136 (.tmp 8),136,"tell.go:34", #[],none⟩
def Au8:Oper:=⟨some 25, .fieldAddr 95 (.tmp 10) 1,0,"tell.go:34", #[],none⟩
def Au7:Oper:=⟨some 26, .load 9 (.tmp 25),9,"tell.go:34", #[⟨1, .data⟩],none⟩
def Au6:Oper:=⟨some 27, .lookup 136 (.tmp 24) (.tmp 26) true,125,"tell.go:34", #[⟨0, .data⟩,⟨2, .data⟩],none⟩
def Au5:Oper:=⟨some 23, .move (.tmp 27),125,"tell.go:34", #[⟨3, .data⟩],none⟩
def Au4:Oper:=⟨some 28, .extract (.tmp 23) 0,96,"tell.go:34", #[⟨4, .data⟩],none⟩
def Au3:Oper:=⟨some 29, .extract (.tmp 23) 1,4,"tell.go:34", #[⟨4, .data⟩,{on:=8,ground:=Ground.gcOnly Departure.lateStores}],none⟩
def Au2:Oper:=⟨some 11, .alloc 96,0,"tell.go:34", #[],none⟩
def Au1:Oper:=⟨none, .store 96 (.tmp 11) (.tmp 28),0,"tell.go:34", #[⟨7, .data⟩,⟨5, .data⟩,⟨0, .phase⟩,⟨1, .phase⟩,⟨2, .phase⟩,⟨3, .phase⟩,⟨4, .phase⟩,⟨5, .phase⟩,{on:=6,ground:=Ground.textOnly Departure.lateStores},⟨7, .phase⟩],none⟩
def Au0:Oper:=⟨some 12, .assign (.tmp 29),4,"tell.go:34", #[⟨6, .data⟩,⟨8, .chain⟩,⟨0, .phase⟩,⟨1, .phase⟩,⟨2, .phase⟩,⟨3, .phase⟩,⟨4, .phase⟩,⟨5, .phase⟩,⟨6, .phase⟩,⟨7, .phase⟩,⟨8, .phase⟩],none⟩
def Azs:Array Oper:= #[Au9,Au8,Au7,Au6,Au5,Au4,Au3,Au2,Au1,Au0]
theorem A96 {l n eb b8 fm ub:Nat} {nm:ByteArray} {r:Bool} {w1 w2:World} (a:Act) (w:World) (Q:Exit→Act→World→Prop) (hsz:a.tmps.size=53)
 (t8:a.tmps.getD 8 undef= (pZ b8 0))
 (t10:a.tmps.getD 10 undef= (pZ eb 0))
 (L0:(Instr.loadAt 136 (pZ b8 0)).run prog w= .ok (.map (some fm)) w) (L1:(Instr.loadAt 9 (pZ eb (0+33))).run prog w= .ok (.string nm) w) (LK:(Instr.lookup 136 (.map (some fm)) (.string nm) true).run prog w= .ok (.tuple #[.agg #[], .bool r]) w) (EA:(Instr.alloc 96 true (.tuple #[])).run prog w= .ok (pZ ub 0) w1) (ES:(Instr.storeAt 96 (pZ ub 0) (.agg #[])).run prog w1= .ok () w2)
 (h:∀a' w',w'=w2→a'=((((((((a.put (some 24) (.map (some fm))).put (some 25) (pZ eb (0+33))).put (some 26) (.string nm)).put (some 27) (.tuple #[.agg #[], .bool r])).put (some 23) (.tuple #[.agg #[], .bool r])).put (some 28) (.agg #[])).put (some 29) (.bool r)).put (some 11) (pZ ub 0)).put (some 12) (.bool r)→Q .normal a' w') :
 (Code.region 5 Azs false).wpIn (Fence.wide.inRound l) n prog Q a w:=by
 refine wpIn_region_list ?_
 change wpListIn _ _ _ _ _ [Au9,Au8,Au7,Au6,Au5,Au4,Au3,Au2,Au1,Au0] _ _
 refine qvI (v:= .map (some fm)) (by rfl) (xld rfl t8 L0) (fun a0 e0=> ?_)
 rw [←e0] at h
 have z0:=pz e0 hsz
 replace t10:=pk e0 t10
 clear t8
 have t24:=pq e0 hsz
 clear e0 hsz
 refine qvI (v:= (pZ eb (0+33))) (by rfl) (xfa rfl t10 (Ags _ _ _)) (fun a1 e1=> ?_)
 rw [←e1] at h
 have z1:=pz e1 z0
 replace t24:=pk e1 t24
 clear t10
 have t25:=pq e1 z0
 clear e1 z0
 refine qvI (v:= .string nm) (by rfl) (xld rfl t25 L1) (fun a2 e2=> ?_)
 rw [←e2] at h
 have z2:=pz e2 z1
 replace t24:=pk e2 t24
 clear t25
 have t26:=pq e2 z1
 clear e2 z1
 refine qvI (v:= .tuple #[.agg #[], .bool r]) (by rfl) (Ac1 rfl t24 t26 LK) (fun a3 e3=> ?_)
 rw [←e3] at h
 have z3:=pz e3 z2
 clear t24 t26
 have t27:=pq e3 z2
 clear e3 z2
 refine qvI (v:= .tuple #[.agg #[], .bool r]) (by rfl) (xmv rfl t27) (fun a4 e4=> ?_)
 rw [←e4] at h
 have z4:=pz e4 z3
 clear t27
 have t23:=pq e4 z3
 clear e4 z3
 refine qvI (v:= .agg #[]) (by rfl) (Aal rfl t23 rfl) (fun a5 e5=> ?_)
 rw [←e5] at h
 have z5:=pz e5 z4
 replace t23:=pk e5 t23
 have t28:=pq e5 z4
 clear e5 z4
 refine qvI (v:= .bool r) (by rfl) (Aal rfl t23 rfl) (fun a6 e6=> ?_)
 rw [←e6] at h
 have z6:=pz e6 z5
 replace t28:=pk e6 t28
 clear t23
 have t29:=pq e6 z5
 clear e6 z5
 refine qkI (v:= (pZ ub 0)) (by rfl) (Abd rfl EA) (fun a7 e7=> ?_)
 rw [←e7] at h
 have z7:=pz e7 z6
 replace t28:=pk e7 t28
 replace t29:=pk e7 t29
 have t11:=pq e7 z6
 clear e7 z6
 refine qsI (by rfl) (Aai rfl t11 t28 ES) ?_
 refine qvI (v:= .bool r) (by rfl) (xas rfl t29) (fun a9 e9=> ?_)
 rw [←e9] at h
 have z9:=pz e9 z7
 clear t28 t29 t11
 clear e9 z7
 exact wpListIn_nil (h _ _ (rfl) rfl)
def Auz:Oper:=⟨some 30, .move (.tmp 12),4,"tell.go:34", #[],none⟩
def Azr:Array Oper:= #[Auz]
theorem A95 {l n:Nat} {r:Bool} (a:Act) (w:World) (Q:Exit→Act→World→Prop) (hsz:a.tmps.size=53)
 (t12:a.tmps.getD 12 undef= .bool r)
 (h:∀a' w',w'=w→a'=a.put (some 30) (.bool r)→Q .normal a' w') :
 (Code.region 6 Azr false).wpIn (Fence.wide.inRound l) n prog Q a w:=by
 refine wpIn_region_list ?_
 change wpListIn _ _ _ _ _ [Auz] _ _
 refine qvI (v:= .bool r) (by rfl) (xmv rfl t12) (fun a0 e0=> ?_)
 rw [←e0] at h
 have z0:=pz e0 hsz
 clear t12
 clear e0 hsz
 exact wpListIn_nil (h _ _ (rfl) rfl)
def Auy:Oper:=⟨some 32, .load 23 (.tmp 4),23,"tell.go:37", #[],none⟩
def Alg:Oper:=⟨some 33, .call {callee:=Callee.value (Operand.func 81),args:= #[.tmp 10, .tmp 32],argTypes:= #[95,23]},140,"tell.go:37", #[⟨0, .data⟩],none⟩
def Aux:Oper:=⟨some 31, .move (.tmp 33),140,"tell.go:37", #[⟨1, .data⟩],none⟩
def Auw:Oper:=⟨some 34, .extract (.tmp 31) 0,3,"tell.go:37", #[⟨2, .data⟩],none⟩
def Auv:Oper:=⟨some 35, .extract (.tmp 31) 1,3,"tell.go:37", #[⟨2, .data⟩,{on:=5,ground:=Ground.gcOnly Departure.lateStores}],none⟩
def Auu:Oper:=⟨some 13, .assign (.tmp 34),3,"tell.go:37", #[⟨3, .data⟩,⟨1, .chain⟩,⟨0, .phase⟩,⟨1, .phase⟩,⟨2, .phase⟩,⟨3, .phase⟩,{on:=4,ground:=Ground.textOnly Departure.lateStores}],none⟩
def Aut:Oper:=⟨some 14, .assign (.tmp 35),3,"tell.go:37", #[⟨4, .data⟩,⟨5, .chain⟩,⟨0, .phase⟩,⟨1, .phase⟩,⟨2, .phase⟩,⟨3, .phase⟩,⟨4, .phase⟩,⟨5, .phase⟩],none⟩
def Azq:Array Oper:= #[Auy,Alg,Aux,Auw,Auv,Auu,Aut]
theorem A94 {l n eb b4:Nat} {sp:Value} {f u:Int} (Fin:World→Prop) (a:Act) (w:World) (Q:Exit→Act→World→Prop) (hsz:a.tmps.size=53)
 (t4:a.tmps.getD 4 undef= (pZ b4 0))
 (t10:a.tmps.getD 10 undef= (pZ eb 0))
 (h1:1≤n) (L0:(Instr.loadAt 23 (pZ b4 0)).run prog w= .ok sp w) (CR:Calls prog 81 #[(pZ eb 0),sp] w fun e w'=>e= .returned (.tuple #[.int .i64 f, .int .i64 u])∧Fin w')
 (h:∀a' w',Fin w'→a'=((((((a.put (some 32) (sp)).put (some 33) (.tuple #[.int .i64 f, .int .i64 u])).put (some 31) (.tuple #[.int .i64 f, .int .i64 u])).put (some 34) (.int .i64 f)).put (some 35) (.int .i64 u)).put (some 13) (.int .i64 f)).put (some 14) (.int .i64 u)→Q .normal a' w') :
 (Code.region 7 Azq false).wpIn (Fence.wide.inRound l) n prog Q a w:=by
 refine wpIn_region_list ?_
 change wpListIn _ _ _ _ _ [Auy,Alg,Aux,Auw,Auv,Auu,Aut] _ _
 refine qvI (v:=sp) (by rfl) (xld rfl t4 L0) (fun a0 e0=> ?_)
 rw [←e0] at h
 have z0:=pz e0 hsz
 replace t10:=pk e0 t10
 clear t4
 have t32:=pq e0 hsz
 clear e0 hsz
 refine qcR h1 (by rfl) (by unfold Alg;go_simp) (CR) (fun e x1 hx=> ?_)
 obtain ⟨rfl,HF⟩:=hx
 refine ⟨_,rfl,fun a1 e1=> ?_⟩
 rw [←e1] at h
 have z1:=pz e1 z0
 clear t10 t32
 have t33:=pq e1 z0
 clear e1 z0
 refine qvI (v:= .tuple #[.int .i64 f, .int .i64 u]) (by rfl) (xmv rfl t33) (fun a2 e2=> ?_)
 rw [←e2] at h
 have z2:=pz e2 z1
 clear t33
 have t31:=pq e2 z1
 clear e2 z1
 refine qvI (v:= .int .i64 f) (by rfl) (Aal rfl t31 rfl) (fun a3 e3=> ?_)
 rw [←e3] at h
 have z3:=pz e3 z2
 replace t31:=pk e3 t31
 have t34:=pq e3 z2
 clear e3 z2
 refine qvI (v:= .int .i64 u) (by rfl) (Aal rfl t31 rfl) (fun a4 e4=> ?_)
 rw [←e4] at h
 have z4:=pz e4 z3
 replace t34:=pk e4 t34
 clear t31
 have t35:=pq e4 z3
 clear e4 z3
 refine qvI (v:= .int .i64 f) (by rfl) (xas rfl t34) (fun a5 e5=> ?_)
 rw [←e5] at h
 have z5:=pz e5 z4
 replace t35:=pk e5 t35
 clear t34
 clear e5 z4
 refine qvI (v:= .int .i64 u) (by rfl) (xas rfl t35) (fun a6 e6=> ?_)
 rw [←e6] at h
 have z6:=pz e6 z5
 clear t35
 clear e6 z5
 exact wpListIn_nil (h _ _ (HF) rfl)
def Aik:Oper:=⟨some 36, .move (.tmp 13),3,"tell.go:37", #[],none⟩
def Aij:Oper:=⟨some 37, .load 3 (.tmp 5),3,"tell.go:37", #[],none⟩
def Aii:Oper:=⟨some 38, .binOp BinOp.leq 3 (.tmp 36) (.tmp 37) 3,4,"tell.go:37", #[⟨0, .data⟩,⟨1, .data⟩],none⟩
def Acq:Oper:=⟨some 39, .move (.tmp 38),4,"tell.go:37", #[⟨2, .data⟩],none⟩
def Ae6:Oper:=⟨some 40, .load 3 (.tmp 5),3,"tell.go:37", #[⟨3, .guard⟩],some (3,true)⟩
def Ae5:Oper:=⟨some 41, .move (.tmp 14),3,"tell.go:37", #[⟨3, .guard⟩],some (3,true)⟩
def Ae4:Oper:=⟨some 42, .binOp BinOp.lss 3 (.tmp 40) (.tmp 41) 3,4,"tell.go:37", #[⟨4, .data⟩,⟨5, .data⟩,⟨3, .guard⟩],some (3,true)⟩
def Ae3:Oper:=⟨some 43, .pick (.tmp 39) (.tmp 42) (Operand.const (Value.bool false)),4,"tell.go:37", #[⟨3, .data⟩,⟨6, .data⟩],none⟩
def Aci:Array Oper:= #[Aik,Aij,Aii,Acq,Ae6,Ae5,Ae4,Ae3]
theorem A8f {l n b5:Nat} {f r:Int} (a:Act) (w:World) (Q:Exit→Act→World→Prop) (hsz:a.tmps.size=53)
 (t5:a.tmps.getD 5 undef= (pZ b5 0))
 (t13:a.tmps.getD 13 undef= .int .i64 f)
 (hf:decide (f≤r)=false) (L5:(Instr.loadAt 3 (pZ b5 0)).run prog w= .ok (.int .i64 r) w)
 (h:∀a' w',w'=w→a'=(((((((a.put (some 36) (.int .i64 f)).put (some 37) (.int .i64 r)).put (some 38) (.bool false)).put (some 39) (.bool false)).put (some 40) (undef)).put (some 41) (undef)).put (some 42) (undef)).put (some 43) (.bool false)→Q .normal a' w') :
 (Code.region 8 Aci false).wpIn (Fence.wide.inRound l) n prog Q a w:=by
 refine wpIn_region_list ?_
 change wpListIn _ _ _ _ _ [Aik,Aij,Aii,Acq,Ae6,Ae5,Ae4,Ae3] _ _
 refine qvI (v:= .int .i64 f) (by rfl) (xmv rfl t13) (fun a0 e0=> ?_)
 rw [←e0] at h
 have z0:=pz e0 hsz
 replace t5:=pk e0 t5
 clear t13
 have t36:=pq e0 hsz
 clear e0 hsz
 refine qvI (v:= .int .i64 r) (by rfl) (xld rfl t5 L5) (fun a1 e1=> ?_)
 rw [←e1] at h
 have z1:=pz e1 z0
 replace t5:=pk e1 t5
 replace t36:=pk e1 t36
 have t37:=pq e1 z0
 clear e1 z0
 refine qvI (v:= .bool false) (by rfl) (Atu rfl t36 t37 hf) (fun a2 e2=> ?_)
 rw [←e2] at h
 have z2:=pz e2 z1
 replace t5:=pk e2 t5
 clear t36 t37
 have t38:=pq e2 z1
 clear e2 z1
 refine qvI (v:= .bool false) (by rfl) (xmv rfl t38) (fun a3 e3=> ?_)
 rw [←e3] at h
 have z3:=pz e3 z2
 replace t5:=pk e3 t5
 clear t38
 have t39:=pq e3 z2
 clear e3 z2
 refine qnI (by simp [Region.wanted,yielded,Aci,Ae6,Acq,Abk z3 (by decide) t39]) (fun a4 e4=> ?_)
 rw [←e4] at h
 have z4:=pz e4 z3
 replace t39:=pk e4 t39
 clear t5
 have t40:=pq e4 z3
 clear e4 z3
 refine qnI (by simp [Region.wanted,yielded,Aci,Ae5,Acq,Abk z4 (by decide) t39]) (fun a5 e5=> ?_)
 rw [←e5] at h
 have z5:=pz e5 z4
 replace t39:=pk e5 t39
 replace t40:=pk e5 t40
 have t41:=pq e5 z4
 clear e5 z4
 refine qnI (by simp [Region.wanted,yielded,Aci,Ae4,Acq,Abk z5 (by decide) t39]) (fun a6 e6=> ?_)
 rw [←e6] at h
 have z6:=pz e6 z5
 replace t39:=pk e6 t39
 clear t40 t41
 have t42:=pq e6 z5
 clear e6 z5
 refine qvI (v:= .bool false) (by rfl) (by unfold Ae3;go_simp) (fun a7 e7=> ?_)
 rw [←e7] at h
 have z7:=pz e7 z6
 clear t39 t42
 clear e7 z6
 exact wpListIn_nil (h _ _ (rfl) rfl)
theorem A8e {l n b5:Nat} {f u r:Int} {z:Bool} (a:Act) (w:World) (Q:Exit→Act→World→Prop) (hsz:a.tmps.size=53)
 (t5:a.tmps.getD 5 undef= (pZ b5 0))
 (t13:a.tmps.getD 13 undef= .int .i64 f)
 (t14:a.tmps.getD 14 undef= .int .i64 u)
 (hf:decide (f≤r)=true) (hu:decide (r<u)=z) (L5:(Instr.loadAt 3 (pZ b5 0)).run prog w= .ok (.int .i64 r) w)
 (h:∀a' w',w'=w→a'=(((((((a.put (some 36) (.int .i64 f)).put (some 37) (.int .i64 r)).put (some 38) (.bool true)).put (some 39) (.bool true)).put (some 40) (.int .i64 r)).put (some 41) (.int .i64 u)).put (some 42) (.bool z)).put (some 43) (.bool z)→Q .normal a' w') :
 (Code.region 8 Aci false).wpIn (Fence.wide.inRound l) n prog Q a w:=by
 refine wpIn_region_list ?_
 change wpListIn _ _ _ _ _ [Aik,Aij,Aii,Acq,Ae6,Ae5,Ae4,Ae3] _ _
 refine qvI (v:= .int .i64 f) (by rfl) (xmv rfl t13) (fun a0 e0=> ?_)
 rw [←e0] at h
 have z0:=pz e0 hsz
 replace t5:=pk e0 t5
 replace t14:=pk e0 t14
 clear t13
 have t36:=pq e0 hsz
 clear e0 hsz
 refine qvI (v:= .int .i64 r) (by rfl) (xld rfl t5 L5) (fun a1 e1=> ?_)
 rw [←e1] at h
 have z1:=pz e1 z0
 replace t5:=pk e1 t5
 replace t14:=pk e1 t14
 replace t36:=pk e1 t36
 have t37:=pq e1 z0
 clear e1 z0
 refine qvI (v:= .bool true) (by rfl) (Atu rfl t36 t37 hf) (fun a2 e2=> ?_)
 rw [←e2] at h
 have z2:=pz e2 z1
 replace t5:=pk e2 t5
 replace t14:=pk e2 t14
 clear t36 t37
 have t38:=pq e2 z1
 clear e2 z1
 refine qvI (v:= .bool true) (by rfl) (xmv rfl t38) (fun a3 e3=> ?_)
 rw [←e3] at h
 have z3:=pz e3 z2
 replace t5:=pk e3 t5
 replace t14:=pk e3 t14
 clear t38
 have t39:=pq e3 z2
 clear e3 z2
 refine qvI (v:= .int .i64 r) (by simp [Region.wanted,yielded,Aci,Ae6,Acq,Abk z3 (by decide) t39]) (xld rfl t5 L5) (fun a4 e4=> ?_)
 rw [←e4] at h
 have z4:=pz e4 z3
 replace t14:=pk e4 t14
 replace t39:=pk e4 t39
 clear t5
 have t40:=pq e4 z3
 clear e4 z3
 refine qvI (v:= .int .i64 u) (by simp [Region.wanted,yielded,Aci,Ae5,Acq,Abk z4 (by decide) t39]) (xmv rfl t14) (fun a5 e5=> ?_)
 rw [←e5] at h
 have z5:=pz e5 z4
 replace t39:=pk e5 t39
 replace t40:=pk e5 t40
 clear t14
 have t41:=pq e5 z4
 clear e5 z4
 refine qvI (v:= .bool z) (by simp [Region.wanted,yielded,Aci,Ae4,Acq,Abk z5 (by decide) t39]) (Att rfl t40 t41 hu) (fun a6 e6=> ?_)
 rw [←e6] at h
 have z6:=pz e6 z5
 replace t39:=pk e6 t39
 clear t40 t41
 have t42:=pq e6 z5
 clear e6 z5
 refine qvI (v:= .bool z) (by rfl) (by unfold Ae3;go_simp) (fun a7 e7=> ?_)
 rw [←e7] at h
 have z7:=pz e7 z6
 clear t39 t42
 clear e7 z6
 exact wpListIn_nil (h _ _ (rfl) rfl)
def Aus:Oper:=⟨some 44, .load 136 (.tmp 8),136,"tell.go:38", #[],none⟩
def Aur:Oper:=⟨some 45, .fieldAddr 95 (.tmp 10) 1,0,"tell.go:38", #[],none⟩
def Auq:Oper:=⟨some 46, .load 9 (.tmp 45),9,"tell.go:38", #[⟨1, .data⟩],none⟩
def Aup:Oper:=⟨some 47, .build 96 #[],96,"tell.go:38", #[],none⟩
def Auo:Oper:=⟨none, .mapUpdate 136 (.tmp 44) (.tmp 46) (.tmp 47),0,"tell.go:38", #[⟨0, .data⟩,⟨2, .data⟩,⟨3, .data⟩,⟨0, .phase⟩,⟨1, .phase⟩,⟨2, .phase⟩,⟨3, .phase⟩],none⟩
def Azp:Array Oper:= #[Aus,Aur,Auq,Aup,Auo]
theorem A93 {l n eb b8 fm:Nat} {nm:ByteArray} {w1:World} (a:Act) (w:World) (Q:Exit→Act→World→Prop) (hsz:a.tmps.size=53)
 (t8:a.tmps.getD 8 undef= (pZ b8 0))
 (t10:a.tmps.getD 10 undef= (pZ eb 0))
 (L0:(Instr.loadAt 136 (pZ b8 0)).run prog w= .ok (.map (some fm)) w) (L1:(Instr.loadAt 9 (pZ eb (0+33))).run prog w= .ok (.string nm) w) (HU:(Instr.build 96 #[]).run prog w= .ok (.agg #[]) w) (EM:(Instr.mapUpdate 136 (.map (some fm)) (.string nm) (.agg #[])).run prog w= .ok () w1)
 (h:∀a' w',w'=w1→a'=(((a.put (some 44) (.map (some fm))).put (some 45) (pZ eb (0+33))).put (some 46) (.string nm)).put (some 47) (.agg #[])→Q .normal a' w') :
 (Code.region 9 Azp false).wpIn (Fence.wide.inRound l) n prog Q a w:=by
 refine wpIn_region_list ?_
 change wpListIn _ _ _ _ _ [Aus,Aur,Auq,Aup,Auo] _ _
 refine qvI (v:= .map (some fm)) (by rfl) (xld rfl t8 L0) (fun a0 e0=> ?_)
 rw [←e0] at h
 have z0:=pz e0 hsz
 replace t10:=pk e0 t10
 clear t8
 have t44:=pq e0 hsz
 clear e0 hsz
 refine qvI (v:= (pZ eb (0+33))) (by rfl) (xfa rfl t10 (Ags _ _ _)) (fun a1 e1=> ?_)
 rw [←e1] at h
 have z1:=pz e1 z0
 replace t44:=pk e1 t44
 clear t10
 have t45:=pq e1 z0
 clear e1 z0
 refine qvI (v:= .string nm) (by rfl) (xld rfl t45 L1) (fun a2 e2=> ?_)
 rw [←e2] at h
 have z2:=pz e2 z1
 replace t44:=pk e2 t44
 clear t45
 have t46:=pq e2 z1
 clear e2 z1
 refine qvI (v:= .agg #[]) (by rfl) (Ac2 rfl HU) (fun a3 e3=> ?_)
 rw [←e3] at h
 have z3:=pz e3 z2
 replace t44:=pk e3 t44
 replace t46:=pk e3 t46
 have t47:=pq e3 z2
 clear e3 z2
 refine qsI (by rfl) (Adb rfl t44 t46 t47 EM) ?_
 exact wpListIn_nil (h _ _ (rfl) rfl)
def An9:Oper:=⟨some 48, .load 85 (.tmp 7),85,"tell.go:39", #[],none⟩
def An8:Oper:=⟨some 49, .load 95 (.tmp 10),95,"tell.go:39", #[],none⟩
def An7:Oper:=⟨some 50, .buildSlice 85 1 #[(0, .tmp 49)],85,"tell.go:39", #[⟨1, .data⟩],none⟩
def An6:Oper:=⟨some 51, .call {callee:=Callee.builtin Builtin.append,args:= #[.tmp 48, .tmp 50],argTypes:= #[85,85]},85,"tell.go:39", #[⟨0, .data⟩,⟨2, .data⟩],none⟩
def An5:Oper:=⟨none, .store 85 (.tmp 7) (.tmp 51),0,"tell.go:39", #[⟨3, .data⟩,⟨3, .chain⟩,⟨0, .phase⟩,⟨1, .phase⟩,⟨2, .phase⟩,⟨3, .phase⟩],none⟩
def Avc:Array Oper:= #[An9,An8,An7,An6,An5]
theorem A8g {l n eb b7:Nat} {x:MkV} {u sv u2:Value} {w1 w2 w3:World} (a:Act) (w:World) (Q:Exit→Act→World→Prop) (hsz:a.tmps.size=53)
 (t7:a.tmps.getD 7 undef= (pZ b7 0))
 (t10:a.tmps.getD 10 undef= (pZ eb 0))
 (L0:(Instr.loadAt 85 (pZ b7 0)).run prog w= .ok u w) (L1:(Instr.loadAt 95 (pZ eb 0)).run prog w= .ok x.a w) (EB:(Instr.buildSlice 85 1 #[(0,x.a)]).run prog w= .ok sv w1) (EA:(Builtin.append_ #[85,85] 85 #[u,sv]).run prog w1= .ok u2 w2) (ES:(Instr.storeAt 85 (pZ b7 0) u2).run prog w2= .ok () w3)
 (h:∀a' w',w'=w3→a'=(((a.put (some 48) (u)).put (some 49) (x.a)).put (some 50) (sv)).put (some 51) (u2)→Q .normal a' w') :
 (Code.region 10 Avc false).wpIn (Fence.wide.inRound l) n prog Q a w:=by
 refine wpIn_region_list ?_
 change wpListIn _ _ _ _ _ [An9,An8,An7,An6,An5] _ _
 refine qvI (v:=u) (by rfl) (xld rfl t7 L0) (fun a0 e0=> ?_)
 rw [←e0] at h
 have z0:=pz e0 hsz
 replace t7:=pk e0 t7
 replace t10:=pk e0 t10
 have t48:=pq e0 hsz
 clear e0 hsz
 refine qvI (v:=x.a) (by rfl) (xld rfl t10 L1) (fun a1 e1=> ?_)
 rw [←e1] at h
 have z1:=pz e1 z0
 replace t7:=pk e1 t7
 replace t48:=pk e1 t48
 clear t10
 have t49:=pq e1 z0
 clear e1 z0
 refine qkI (v:=sv) (by rfl) (Aba rfl t49 EB) (fun a2 e2=> ?_)
 rw [←e2] at h
 have z2:=pz e2 z1
 replace t7:=pk e2 t7
 replace t48:=pk e2 t48
 clear t49
 have t50:=pq e2 z1
 clear e2 z1
 refine qkI (v:=u2) (by rfl) (Ab1 rfl t48 t50 EA) (fun a3 e3=> ?_)
 rw [←e3] at h
 have z3:=pz e3 z2
 replace t7:=pk e3 t7
 clear t48 t50
 have t51:=pq e3 z2
 clear e3 z2
 refine qsI (by rfl) (Aai rfl t7 t51 ES) ?_
 exact wpListIn_nil (h _ _ (rfl) rfl)
end
section
open Go.RowKit Go.Shelf Sq
def Kl (l:List Nat) (W W':World):Prop:=∀j∈l,W'.heap[j]? =W.heap[j]?
theorem Kl.trans {l:List Nat} {A B C:World} (h:Kl l A B) (k:Kl l B C):Kl l A C:=fun j hj=>(k j hj).trans (h j hj)
theorem Kl.put {l:List Nat} {w:World} (hl:∀j∈l,j<w.heap.size) (W:World) (b:Nat) (o o':Obj) (hb:w.heap.size≤b) (h:W.heap[b]? =some o) (h1:o.isCells=false) (h2:o.isWalk=false):Kl l W (W.putObj b o'):=fun j hj=>by
 have:=hl j hj
 exact World.putObj_heap_other (by omega)
def bkZ {κ:Type} (L:List κ):List (κ × Nat):=L.zipIdx.reverse
theorem Alm {κ:Type} (L:List κ):(bkZ L).length=L.length:=by simp [bkZ]
theorem Av1 {κ:Type} {L:List κ} {j:Nat} {x:κ} (hx:L[j]? =some x):(bkZ L)[L.length-1-j]? =some (x,j):=by
 have hj:=(List.getElem?_eq_some_iff.1 hx).1
 unfold bkZ
 rw [List.getElem?_reverse (by simp;omega),List.length_zipIdx,List.getElem?_zipIdx,show L.length-1-(L.length-1-j)=j by omega,hx]
 simp
theorem A0c {κ:Type} {L:List κ} {j:Nat} {x:κ} (hx:L[j]? =some x):(bkZ L).take (L.length-j)=(bkZ L).take (L.length-(j+1))++[(x,j)]:=by
 have hj:=(List.getElem?_eq_some_iff.1 hx).1
 have:=Av1 hx
 rw [show L.length-j=(L.length-1-j)+1 by omega,show L.length-(j+1)=L.length-1-j by omega,List.take_add_one,this]
 rfl
abbrev OkM:={x:MkV // x.ok∧(0≤x.sd∧x.sd≤3)}
theorem Ak0 {κ:Type} {P:κ→Prop}:∀(L:List κ),(∀x∈L,P x)→∃LK:List {x // P x},LK.map (·.1)=L
 |[],_=>⟨[],rfl⟩
 |x::L,h=>by
  obtain ⟨LK,e⟩:=Ak0 L (fun y hy=>h y (by simp [hy]))
  exact ⟨⟨x,h x (by simp)⟩::LK,by simp [e]⟩
def adB (a:Option Addr):List Nat:=match a with |some ad=>[ad.block]|none=>[]
theorem Aj9 (w:World) (la:Option Addr) (n c:Nat):Calls prog 80 #[.slice la n c] w fun e w'=>e= .returned (.func (.func 101) #[] #[(pZ w.heap.size 0)])∧w'.heap.size=w.heap.size+1∧w'.heap[w.heap.size]? =some (.cells #[.slice la n c] 85 (0,0))∧Below w.heap.size w w':=by
 go_enter func80,ntmps80
 go_wp2
 go_ret
 exact ⟨rfl,by simp,heap_alloc_new _ _,(Below.refl _ _).alloc (Nat.le_refl _) _⟩
theorem Avo (n0 bs:Nat) (L:List OkM) (hn:L.length≤900000000000) {la:Option Addr} {c:Nat} (w:World) (hc:w.cell? ⟨bs,0,none⟩=some (.slice la L.length c)) (hat:RM.At w la (L.map (·.1))) :
 SeqStopsK Fence.wide n0 prog 101 #[(pZ bs 0)] (fun x:OkM × Nat=> #[.int .i64 (x.2:Int),x.1.1.a]) (Kl (bs::adB la)) (fun xs=>xs=bkZ L) (fun _=>True) L.length w:=by
 intro l J Jx W hW hJ hJx hY h0
 have l1:=block_lt_of_cell hc
 have hla:∀j∈adB la,L≠[]→j<w.heap.size:=fun j hj hne=>by
  rcases hat with e|⟨b,off,e,hb,_⟩
  ·exact absurd (List.map_eq_nil_iff.1 e) hne
  ·rw [e] at hj
   simp [adB] at hj
   omega
 have HC:Hid (∀W',Kl (bs::adB la) W W'→W'.cell? ⟨bs,0,none⟩=some (.slice la L.length c)):=fun W' hk=>(World.cell?_of_block (a:=⟨bs,0,none⟩) (hk bs (by simp))).trans ((hW.cell (p:=⟨bs,0,none⟩) l1).trans hc)
 have HX:Hid (∀(W':World) (j:Nat) (x:OkM),Kl (bs::adB la) W W'→L[j]? =some x→∃g o,la=some ⟨g,o,none⟩∧(Instr.loadAt 95 (pZ g (o+105*j))).run prog W'= .ok x.1.a W'):=fun W' j x hk hx=>by
  rcases hat with e|⟨b,off,e,hb,hr⟩
  ·rw [List.map_eq_nil_iff.1 e] at hx;cases hx
  ·refine ⟨b,off,e,Aae.ld Acs x.2.1 (Aar (Aar (hr j x.1 (by rw [List.getElem?_map,hx];rfl)) (hW.block _ hb)) (hk b (by rw [e];simp [adB])))⟩
 have HY:=Aaa hY
 have H0:=Aaa h0
 obtain ⟨n,hnn⟩:∃n,L.length=n:=⟨_,rfl⟩
 have HN:=Aaa hnn
 rw [hnn] at hn HC
 clear hY h0 hc hat hnn hla
 refine callsIn_of_wp func101 rfl trivial ?_ rfl
 simp only [ntmps101,List.size_toArray,List.length_cons,List.length_nil,Nat.reduceAdd,Nat.reduceSub,Array.replicate_succ,Array.replicate_zero,List.push_toArray,List.append_toArray,List.nil_append,List.cons_append]
 refine wpIn_wide.2 ?_
 have hlb0:(Instr.loadAt 85 (pZ bs 0)).run prog W= .ok (.slice la n c) W:=by
  have hc:=HC.out W (fun _ _=>rfl)
  go_simp
 go_upto_region 0 with fail
 refine Bab (bs:=bs) (n:=n) (c:=c) (la:=la) _ W _ rfl rfl (by omega) (fun W' e=>by rw [e];exact hlb0) ?_
 intro a' w1 hw ha
 obtain rfl:W=w1:=hw.symm
 subst ha
 simp only [Act.put,qsA,qsB,qsC]
 clear hlb0
 go_wp2
 go_loopw [3] (fun v3 wr=> ∃k:Nat,v3= .int .i64 ((k:Int)-1)∧k≤n∧Hid (J ((bkZ L).take (L.length-k)) wr∧Kl (bs::adB la) W wr)) (fun v3 _=>(match v3 with | .int _ i=>(i+1).toNat|_=>0))
 case atStart=>exact ⟨n,rfl,Nat.le_refl _,by rw [HN.out,Nat.sub_self];exact H0.out,fun _ _=>rfl⟩
 case round =>
  obtain ⟨k,rfl,hk,HI⟩:=hrel
  cases k with
  |zero =>
   go_upto_region 1 with fail
   refine En.zqc tab rfl (En.cm (c':=false) ((by decide)) (En.fi ?_))
   intro a' w1 hw ha
   obtain rfl:wr=w1:=hw.symm
   subst ha
   simp only [En.pM,En.pU,Act.put,qsA,qsB,qsC]
   go_wp2
   go_end0
   refine ⟨⟨_,rfl⟩, .inl ?_⟩
   have:=HI.out.1
   rw [Nat.sub_zero, ←Alm,List.take_length] at this
   exact this
  |succ j =>
   obtain ⟨x,hx⟩:∃x,L[j]? =some x:=⟨_,List.getElem?_eq_getElem (by rw [HN.out];omega)⟩
   have hz:((j+1:Nat):Int)-1=(j:Int):=by omega
   rw [hz]
   go_upto_region 1 with fail
   refine En.zqc tab rfl (En.cm (c':=true) ((decide_eq_true (by omega))) (En.fi ?_))
   intro a' w1 hw ha
   obtain rfl:wr=w1:=hw.symm
   subst ha
   simp only [En.pM,En.pU,Act.put,qsA,qsB,qsC]
   obtain ⟨g,o,rfl,hld⟩:=HX.out wr j x HI.out.2 hx
   have hlb:(Instr.loadAt 85 (pZ bs 0)).run prog wr= .ok (.slice (some ⟨g,o,none⟩) n c) wr:=by
        have hc:=HC.out wr HI.out.2
        go_simp
   have h63:n≤9223372036854775807:=by omega
   have hst:=A0c hx
   have CY:=HY.out ((bkZ L).take (L.length-(j+1))) (x,j) wr HI.out.1 (by rw [List.length_take,Alm,HN.out];omega)
   rw [←hst] at CY
   have HK:=Aaa HI.out.2
   clear HI hst hz
   go_upto_region 3 with fail
   refine (wpIn_wide (n:=n0)).1 ?_
   refine Baa (bs:=bs) (g:=g) (o:=o) (n:=n) (c:=c) (i:=j) (l:=l) (x:=x.1) (fun b W'=>(b=true∧J ((bkZ L).take (L.length-j)) W'∧Kl (bs::adB (some ⟨g,o,none⟩)) wr W')∨(b=false∧Jx ((bkZ L).take (L.length-j)) W')) _ wr _ rfl rfl rfl rfl hk h63 hlb hld (CY.mono ?_) ?_
   ·rintro e W' (⟨rfl,q1,q2⟩|⟨rfl,q1⟩)
    ·exact ⟨true,rfl, .inl ⟨rfl,q1,q2⟩⟩
    ·exact ⟨false,rfl, .inr ⟨rfl,q1⟩⟩
   intro b a' w2 hP ha
   subst ha
   simp only [Act.put,qsA,qsB,qsC]
   clear hlb hld CY
   rcases hP with ⟨rfl,q1,q2⟩|⟨rfl,q1⟩
   ·have Q1:=Aaa q1
    have Q2:=Aaa (HK.out.trans q2)
    clear q1 q2 HK
    go_upto_region 2 with fail
    refine En.zqc tab rfl (En.ar (En.wI ((by omega))) (En.fi ?_))
    intro a' w3 hw ha
    obtain rfl:w2=w3:=hw.symm
    subst ha
    simp only [En.pM,En.pU,Act.put,qsA,qsB,qsC]
    go_wp2
    refine ⟨⟨j,rfl,by omega,Q1.out,Q2.out⟩, ?_⟩
    show ((j:Int)-1+1).toNat<((j:Int)+1).toNat
    omega
   ·have Q1:=Aaa q1
    clear q1 HK
    go_wp2
    refine bodyPost_ret (results_none rfl _ _ _) rfl ?_
    exact ⟨⟨_,rfl⟩, .inr ⟨_,Q1.out⟩⟩
theorem Aka {a b:ByteArray} (h:a.toList=b.toList):a=b:=by
 rw [ByteArray.toList_eq,ByteArray.toList_eq] at h
 cases a;cases b
 congr 1
 exact Array.toList_inj.1 h
def tx (s:ByteArray):Value:= .string s
theorem Awv:M.KeyOk prog 9 tx (fun s=>s.size≤maxLen):={
 chk:=fun b k w hk=>MapKept.run_checkKey (d:= .string) (k:= .string k) underlying9 trivial b 9999
 eq:=fun a b w ha hb=>by
  have:(Op.equal 9 (.string a) (.string b)).run prog w= .ok (a.toList==b.toList) w:=by
    unfold Op.equal Op.maxDepth
    exact run_equalIn_string w 9999 9 _ _ underlying9
  have e:decide (a=b)=(a.toList==b.toList):=by
    rw [Bool.eq_iff_iff]
    simp only [decide_eq_true_eq,beq_iff_eq]
    constructor
    ·rintro rfl;rfl
    ·exact Aka
  rw [e]
  exact this
 und:=⟨_,underlying9, .inr fun a b=>by
  have e:(a==b)=decide (a=b):=by rw [Bool.eq_iff_iff,MapKept.bytes_beq,decide_eq_true_eq]
  rw [←e]
  rfl⟩
 bits:=fun k=>by
  simp only [tx,Instr.sameBits]
  exact (MapKept.bytes_beq k k).2 rfl}
def Ako (s:ByteArray):Prop:=s.size≤maxLen
def Abc (E:List Elt) (r:Int) (acc:List MkV) (x:MkV):List MkV:=if (acc.any fun y=>decide (y.nm=x.nm))=true then acc else if (Abo E x).1≤r∧r<(Abo E x).2 then acc++[x] else acc
def Agv (E:List Elt) (r:Int) (pre:List (OkM × Nat)):List MkV:=(pre.map (·.1.1)).foldl (Abc E r) []
def Agw (E:List Elt) (L:List MkV) (r:Int):List MkV:=L.reverse.foldl (Abc E r) []
theorem Azo (E:List Elt) (L:List OkM) (r:Int):Agv E r (bkZ L)=Agw E (L.map (·.1)) r:=by
 unfold Agv Agw bkZ
 have:L.zipIdx.map (fun p=>p.1.1)=L.map (·.1):=by
  rw [←List.zipIdx_map_fst 0 L,List.map_map]
  simp [Function.comp]
 rw [List.map_reverse,this]
theorem Aun (E:List Elt) (r:Int) (pre:List (OkM × Nat)) (x:OkM × Nat):Agv E r (pre++[x])=Abc E r (Agv E r pre) x.1.1:=by
 unfold Agv
 rw [List.map_append,List.foldl_append]
 rfl
theorem Ale {E:List Elt} {r:Int} {acc:List MkV} {x y:MkV} (h:y∈Abc E r acc x):y∈acc∨y=x:=by
 unfold Abc at h
 split at h
 ·exact .inl h
 ·split at h
  ·rcases List.mem_append.1 h with h|h
   ·exact .inl h
   ·exact .inr (List.mem_singleton.1 h)
  ·exact .inl h
theorem Ae2 {E:List Elt} {r:Int}:∀{l:List MkV} {acc:List MkV} {y:MkV},y∈l.foldl (Abc E r) acc→y∈acc∨y∈l
 |[],acc,y,h=> .inl h
 |x::l,acc,y,h=>by
  rcases Ae2 (l:=l) h with h|h
  ·rcases Ale h with h|rfl
   ·exact .inl h
   ·exact .inr (by simp)
  ·exact .inr (by simp [h])
theorem Alf {E:List Elt} {r:Int} {acc:List MkV} {x:MkV}:(Abc E r acc x).length≤acc.length+1:=by
 unfold Abc
 split
 ·omega
 ·split <;>simp
theorem Aih {E:List Elt} {r:Int}:∀(l:List MkV) (acc:List MkV),(l.foldl (Abc E r) acc).length≤acc.length+l.length
 |[],acc=>by simp
 |x::l,acc=>by
  have:=Aih (E:=E) (r:=r) l (Abc E r acc x)
  have:=Alf (E:=E) (r:=r) (acc:=acc) (x:=x)
  simp only [List.foldl_cons,List.length_cons]
  omega
def nmE (L:List MkV):List (ByteArray × Value):=L.map fun x=>(x.nm,unV)
def Asu (L:List MkV) (s:ByteArray):Bool:=L.any fun y=>decide (y.nm=s)
theorem Amm (L:List MkV) (k:ByteArray):M.look (nmE L) k=if Asu L k=true then some unV else none:=by
 induction L with
 |nil=>simp [nmE,M.look_nil,Asu]
 |cons x L ih =>
  show M.look ((x.nm,unV)::nmE L) k=_
  rw [M.look_cons,ih]
  by_cases e:k=x.nm
  ·rw [if_pos e,if_pos (by simp [Asu,e])]
  ·rw [if_neg e]
   have:Asu (x::L) k=Asu L k:=by simp [Asu,show ¬x.nm=k from fun q=>e q.symm]
   rw [this]
theorem A0k {L:List MkV} {k:ByteArray} (h:Asu L k=false):M.put (nmE L) k unV=nmE L++[(k,unV)]:=by
 have hn:M.look (nmE L) k=none:=by rw [Amm,h];rfl
 unfold M.look at hn
 unfold M.put
 cases e:M.fnd (nmE L) k 0 with
 |none=>rfl
 |some q=>rw [e] at hn;cases hn
structure LC (w wl:World) (b4 b5 b7 b8 fm:Nat) (sp:Value) (r:Int) (acc:List MkV) (W:World):Prop where
 v:∃v,W.heap[b7]? =some (.cells #[v] 85 (0,0))∧RM.Lo W w.heap.size v acc
 m:W.heap[b8]? =some (.cells #[.map (some fm)] 136 (0,0))
 f:M.MapAt W fm tx Ako (nmE acc)
 s:W.heap[b4]? =some (.cells #[sp] 23 (0,0))
 r:W.heap[b5]? =some (.cells #[.int .i64 r] 3 (0,0))
 bel:Below w.heap.size w W
 sz:wl.heap.size≤W.heap.size
section
variable {w wl W W':World} {b4 b5 b7 b8 fm:Nat} {sp:Value} {r:Int} {acc:List MkV}
theorem LC.keep (h:LC w wl b4 b5 b7 b8 fm sp r acc W) (b:Below w.heap.size W W') (hk:∀(j:Nat) (c:Array Value) (t:TypeId) (z:Nat × Nat),W.heap[j]? =some (.cells c t z)→W'.heap[j]? =W.heap[j]?) (hf:W'.heap[fm]? =W.heap[fm]?):LC w wl b4 b5 b7 b8 fm sp r acc W':=by
 obtain ⟨v,v1,v2⟩:=h.v
 exact ⟨⟨v,(hk _ _ _ _ v1).trans v1,v2.keep (fun k hk2=>by obtain ⟨_,c,hc⟩:=v2.cells hk2;exact hk _ _ _ _ hc)⟩,(hk _ _ _ _ h.m).trans h.m,h.f.below hf,(hk _ _ _ _ h.s).trans h.s,(hk _ _ _ _ h.r).trans h.r,h.bel.trans b,Nat.le_trans h.sz b.size⟩
theorem LC.below (h:LC w wl b4 b5 b7 b8 fm sp r acc W) (b:Below W.heap.size W W'):LC w wl b4 b5 b7 b8 fm sp r acc W' :=
 h.keep (b.mono h.bel.size) (fun j c t z hj=>b.block j (Array.getElem?_eq_some_iff.1 hj).1) (b.block _ h.f.lt)
theorem LC.own {α:Type} (w wl:World) (b4 b5 b7 b8 fm:Nat) (sp:Value) (r:Int) (f:List α→List MkV) (hw:w.heap.size≤wl.heap.size) (hfm:fm<wl.heap.size):OwnFrom wl.heap.size (fun pre W=>LC w wl b4 b5 b7 b8 fm sp r (f pre) W):=by
 intro pre W W' row hs hg hr
 have h:=hs
 refine h.keep ⟨hg.os,hg.tape,hg.output,hg.size,fun k hk=>hg.block k (Nat.lt_of_lt_of_le hk h.bel.size) (fun e=>by have:=(hr k e.symm).1;omega)⟩ (fun j c t z hj=>hg.block j (Array.getElem?_eq_some_iff.1 hj).1 (fun e=> ?_)) (hg.block _ h.f.lt (fun e=>by have:=(hr fm e.symm).1;omega))
 obtain ⟨_,o,ho,hc⟩:=hr j e.symm
 rw [hj] at ho;cases ho;cases hc
theorem LC.lookn (h:LC w wl b4 b5 b7 b8 fm sp r acc W) {k:ByteArray} (hk:k.size≤maxLen):(Instr.lookup 136 (.map (some fm)) (.string k) true).run prog W= .ok (.tuple #[.agg #[], .bool (Asu acc k)]) W:=by
 have:=M.run_look Awv underlying136 h.f k hk (A0m W) true
 rw [show (Value.string k)=tx k from rfl,this,M.has_look,Amm]
 cases Asu acc k <;>rfl
theorem Ar1 {b:Nat} {v:Value} (h:W.heap[b]? =some (.cells #[v] 85 (0,0))) (hv:∃a n c,v= .slice a n c):(Instr.loadAt 85 (pZ b 0)).run prog W= .ok v W:=by
 obtain ⟨a,n,c,rfl⟩:=hv
 have hc:W.cell? ⟨b,0,none⟩=some (.slice a n c):=(cell_of_row W b 0 _ _ _ h).trans rfl
 go_simp
theorem Ayi {b:Nat} {v:Value} (h:W.heap[b]? =some (.cells #[v] 85 (0,0))) (hv:∃a n c,v= .slice a n c) (a:Option Addr) (n c:Nat):(Instr.storeAt 85 (pZ b 0) (.slice a n c)).run prog W= .ok () (W.setCell ⟨b,0,none⟩ (.slice a n c))∧(W.setCell ⟨b,0,none⟩ (.slice a n c)).heap[b]? =some (.cells #[.slice a n c] 85 (0,0)):=by
 obtain ⟨a0,n0,c0,rfl⟩:=hv
 have hc:W.cell? ⟨b,0,none⟩=some (.slice a0 n0 c0):=(cell_of_row W b 0 _ _ _ h).trans rfl
 have hf:=frozen_of_row W b 0 _ _ h
 exact ⟨by go_simp,Go.heap_setCell_same _ _ 0 _ _ _ h⟩
theorem LC.more (h:LC w wl b4 b5 b7 b8 fm sp r acc W) {x:MkV} (hx:x.ok) (okA:∀y∈acc,y.ok) (hn:acc.length+1≤900000000000) (hnew:Asu acc x.nm=false) (hw:w.heap.size≤wl.heap.size) (hfm:w.heap.size≤fm∧fm<wl.heap.size) (h7:w.heap.size≤b7) :
 ∃wa v sv wb v2 wc wd,(Instr.mapUpdate 136 (.map (some fm)) (.string x.nm) (.agg #[])).run prog W= .ok () wa∧(∀(j:Nat) (c:Array Value) (t:TypeId) (z:Nat × Nat),W.heap[j]? =some (.cells c t z)→wa.heap[j]? =W.heap[j]?)∧(Instr.loadAt 85 (pZ b7 0)).run prog wa= .ok v wa ∧
  (Instr.buildSlice 85 1 #[(0,x.a)]).run prog wa= .ok sv wb∧(Builtin.append_ #[85,85] 85 #[v,sv]).run prog wb= .ok v2 wc∧(Instr.storeAt 85 (pZ b7 0) v2).run prog wc= .ok () wd ∧
  LC w wl b4 b5 b7 b8 fm sp r (acc++[x]) wd∧KeepsFrom wl.heap.size W wd∧Below w.heap.size W wd∧(∀(j:Nat) (c:Array Value) (t:TypeId) (z:Nat × Nat),W.heap[j]? =some (.cells c t z)→t≠95→j≠b7→wd.heap[j]? =W.heap[j]?):=by
 obtain ⟨v,v1,v2⟩:=h.v
 obtain ⟨ob,ep,mp⟩:=M.run_put (P:=prog) (w:=W) Awv underlying136 h.f x.nm hx.nm (.agg #[])
 have ca:∀(j:Nat) (c:Array Value) (t:TypeId) (z:Nat × Nat),W.heap[j]? =some (.cells c t z)→(M.setM W fm ob).heap[j]? =W.heap[j]? :=fun j c t z hj=>M.setM_other ob (fun e=>by
  obtain ⟨⟨es,cc,hm,_⟩,_⟩:=h.f
  rw [e,hm] at hj
  cases hj)
 have za:(M.setM W fm ob).heap.size=W.heap.size:=M.setM_size _ _ _
 have la:RM.Lo (M.setM W fm ob) w.heap.size v acc:=v2.keep (fun k hk=>by obtain ⟨_,c,hc⟩:=v2.cells hk;exact ca _ _ _ _ hc)
 obtain ⟨wa,hwa⟩:∃wa,M.setM W fm ob=wa:=⟨_,rfl⟩
 rw [hwa] at ca za la mp ep
 have b0:=h.bel.size
 obtain ⟨sv,wb,u,wc,e1,e2,lo,bl1,z1,g,q,_⟩:=Aae.lo_push Acs wa w.heap.size v acc okA x la hx (by unfold maxLen;omega) (by show _*184≤_;omega) (by omega)
 have va:wa.heap[b7]? =some (.cells #[v] 85 (0,0)):=(ca _ _ _ _ v1).trans v1
 have okx:∀y∈acc++[x],y.ok:=fun y hy=>by
  rcases List.mem_append.1 hy with hy|hy
  ·exact okA y hy
  ·rw [List.mem_singleton.1 hy];exact hx
 obtain ⟨sa,sc,ev,_⟩:=la.open Acs okA
 obtain ⟨ua,uc,eu,_⟩:=lo.open Acs okx
 have kb:∀(j:Nat) (c:Array Value) (t:TypeId) (z:Nat × Nat),wb.heap[j]? =some (.cells c t z)→t≠95→wc.heap[j]? =some (.cells c t z):=fun j c t z hj ht=>(g.block j (Array.getElem?_eq_some_iff.1 hj).1 (fun e=>by
  obtain ⟨_,c2,hc2⟩:=(la.below bl1).cells e.symm
  exact ht (Aag hj hc2))).trans hj
 have vb:wb.heap[b7]? =some (.cells #[v] 85 (0,0)):=(bl1.block _ (Array.getElem?_eq_some_iff.1 va).1).trans va
 have vc:=kb _ _ _ _ vb (by decide)
 obtain ⟨es,vd⟩:=Ayi vc ⟨sa,_,sc,ev⟩ ua (acc++[x]).length uc
 obtain ⟨wd,hwd⟩:∃wd,wc.setCell ⟨b7,0,none⟩ (.slice ua (acc++[x]).length uc)=wd:=⟨_,rfl⟩
 have od:∀j,j≠b7→wd.heap[j]? =wc.heap[j]? :=fun j hj=>by rw [←hwd];exact Below.heap_setCell _ _ _ _ hj
 rw [hwd] at es vd
 have zd:wd.heap.size=wc.heap.size:=by rw [←hwd];simp [World.setCell]
 have kd:∀(j:Nat) (c:Array Value) (t:TypeId) (z:Nat × Nat),W.heap[j]? =some (.cells c t z)→t≠95→j≠b7→wd.heap[j]? =W.heap[j]? :=fun j c t z hj ht h7=>by
  have a1:=(ca j c t z hj).trans hj
  have a2:=(bl1.block j (Array.getElem?_eq_some_iff.1 a1).1).trans a1
  exact ((od j h7).trans (kb j c t z a2 ht)).trans hj.symm
 have fd:wd.heap[fm]? =wa.heap[fm]? :=by
  have hlt:=mp.lt
  obtain ⟨⟨es2,cc,hm,_⟩,_⟩:=mp
  have a2:=(bl1.block fm (Array.getElem?_eq_some_iff.1 hm).1).trans hm
  have a3:wc.heap[fm]? =wb.heap[fm]? :=g.block fm (Array.getElem?_eq_some_iff.1 a2).1 (fun e=>by
   obtain ⟨_,c2,hc2⟩:=(la.below bl1).cells e.symm
   rw [a2] at hc2
   cases hc2)
  have n7:fm≠b7:=fun e=>by
   rw [e] at hm
   rw [va] at hm
   cases hm
  exact ((od fm n7).trans a3).trans (a2.trans hm.symm)
 have n2:u.ownBlock≠some b7:=fun e=>by
  obtain ⟨_,c,hc⟩:=lo.cells e
  have:=Aag hc vc
  revert this;decide
 have bd:Below w.heap.size W wd:=by
  refine ⟨?_, ?_, ?_,by have:=bl1.size;have:=g.size;omega,fun k hk=> ?_⟩
  ·rw [←hwd];exact g.os.trans (bl1.os.trans (by rw [←hwa];rfl))
  ·rw [←hwd];exact g.tape.trans (bl1.tape.trans (by rw [←hwa];rfl))
  ·rw [←hwd];exact g.output.trans (bl1.output.trans (by rw [←hwa];rfl))
  ·rw [od k (by omega),g.block k (by have:=bl1.size;omega) (fun e=>by have:=((la.below bl1).cells e.symm).1;omega),bl1.block k (by omega), ←hwa,M.setM_other ob (by omega)]
 refine ⟨wa,v,sv,wb,u,wc,wd,ep,ca,Ar1 va ⟨sa,_,sc,ev⟩,e1,e2,by rw [eu];exact es,⟨⟨u,by rw [eu];exact vd,lo.keep (fun j hj=>od j (fun e=>n2 (by rw [←e];exact hj)))⟩,(kd _ _ _ _ h.m (by decide) (fun e=> ?_)).trans h.m, ?_,(kd _ _ _ _ h.s (by decide) (fun e=> ?_)).trans h.s,(kd _ _ _ _ h.r (by decide) (fun e=> ?_)).trans h.r,h.bel.trans bd,Nat.le_trans h.sz bd.size⟩,⟨bd.size,fun k o hB hk ho=> ?_⟩,bd,kd⟩
 ·have:=h.m
  rw [e] at this
  have:=Aag this v1
  revert this;decide
 ·have e5:nmE (acc++[x])=M.put (nmE acc) x.nm (.agg #[]):=by
   rw [show M.put (nmE acc) x.nm (.agg #[])=M.put (nmE acc) x.nm unV from rfl,A0k hnew]
   simp [nmE]
  rw [e5]
  exact mp.below fd
 ·have:=h.s
  rw [e] at this
  have:=Aag this v1
  revert this;decide
 ·have:=h.r
  rw [e] at this
  have:=Aag this v1
  revert this;decide
 ·have hkl:=(Array.getElem?_eq_some_iff.1 hk).1
  have a1:wa.heap[k]? =some o:=by rw [←hwa,M.setM_other ob (by omega)];exact hk
  have a2:=(bl1.block k (Array.getElem?_eq_some_iff.1 a1).1).trans a1
  have a3:wc.heap[k]? =some o:=(g.block k (Array.getElem?_eq_some_iff.1 a2).1 (fun e=>by
   obtain ⟨_,c2,hc2⟩:=(la.below bl1).cells e.symm
   rw [a2] at hc2
   cases hc2
   cases ho)).trans a2
  rw [od k (fun e=>by
   rw [e,vc] at a3
   cases a3
   cases ho)]
  exact a3
end
attribute [local go_sem] Oper.semAt_some
theorem Aff {a:Act} {j:Nat} {v:Value}:(a.put (some j) v).tmps.size=a.tmps.size:=by simp [Act.put]
theorem Ac0 {a:Act} {i j:Nat} {v:Value}:(a.put (some j) v).tmps.getD i undef=if i=j then (if j<a.tmps.size then v else undef) else a.tmps.getD i undef:=by
 simp only [Act.put,Array.getD_eq_getD_getElem?,Array.getElem?_setIfInBounds]
 by_cases e:j=i
 ·subst e
  by_cases q:j<a.tmps.size <;>simp [q]
 ·rw [if_neg e,if_neg (fun q:i=j=>e q.symm)]
theorem Aev {P:Program} (t:TypeId) (v:Value) (w:World):(Instr.box t v).run P w= .ok (pZ w.heap.size 0) (w.alloc (.cells v.cells t)):=by
 simp only [Instr.box,newVar,newRow,newObj,Sem.run_bind,Sem.run_pure,Result.andThen_ok]
 rfl
theorem Aum (w:World) (sb:Nat) (r:Int):∃w1 w2 w3 w4 w5 w6,(Instr.box 23 (pZ sb 0)).run prog w= .ok (pZ w.heap.size 0) w1∧(Instr.box 3 (.int .i64 r)).run prog w1= .ok (pZ (w.heap.size+1) 0) w2∧(Instr.alloc 85 true (.tuple #[])).run prog w2= .ok (pZ (w.heap.size+2) 0) w3∧(Instr.makeMap 136 none).run prog w3= .ok (.map (some (w.heap.size+3))) w4 ∧
 (Instr.alloc 136 true (.tuple #[])).run prog w4= .ok (pZ (w.heap.size+4) 0) w5∧(Instr.storeAt 136 (pZ (w.heap.size+4) 0) (.map (some (w.heap.size+3)))).run prog w5= .ok () w6 ∧
 LC w w6 w.heap.size (w.heap.size+1) (w.heap.size+2) (w.heap.size+4) (w.heap.size+3) (pZ sb 0) r [] w6∧w6.heap.size=w.heap.size+5:=by
 have al:∀(W:World) (o:Obj),(W.alloc o).heap.size=W.heap.size+1:=fun W o=>by simp
 have bl:∀(W:World) (o:Obj),Below W.heap.size W (W.alloc o):=fun W o=>(Below.refl _ _).alloc (Nat.le_refl _) _
 obtain ⟨w1,h1⟩:∃W,w.alloc (.cells #[.pointer (some ⟨sb,0,none⟩)] 23)=W:=⟨_,rfl⟩
 obtain ⟨w2,h2⟩:∃W,w1.alloc (.cells #[.int .i64 r] 3)=W:=⟨_,rfl⟩
 obtain ⟨w3,h3⟩:∃W,w2.alloc (.cells #[.slice none 0 0] 85)=W:=⟨_,rfl⟩
 obtain ⟨w4,h4⟩:∃W,w3.alloc (.map #[] 0)=W:=⟨_,rfl⟩
 obtain ⟨w5,h5⟩:∃W,w4.alloc (.cells #[.map none] 136)=W:=⟨_,rfl⟩
 have z1:w1.heap.size=w.heap.size+1:=by rw [←h1,al]
 have z2:w2.heap.size=w.heap.size+2:=by rw [←h2,al,z1]
 have z3:w3.heap.size=w.heap.size+3:=by rw [←h3,al,z2]
 have z4:w4.heap.size=w.heap.size+4:=by rw [←h4,al,z3]
 have z5:w5.heap.size=w.heap.size+5:=by rw [←h5,al,z4]
 have b1:Below w.heap.size w w1:=by rw [←h1];exact bl _ _
 have b2:Below w1.heap.size w1 w2:=by rw [←h2];exact bl _ _
 have b3:Below w2.heap.size w2 w3:=by rw [←h3];exact bl _ _
 have b4:Below w3.heap.size w3 w4:=by rw [←h4];exact bl _ _
 have b5:Below w4.heap.size w4 w5:=by rw [←h5];exact bl _ _
 have i1:w1.heap[w.heap.size]? =some (.cells #[(pZ sb 0)] 23 (0,0)):=by rw [←h1];exact heap_alloc_new _ _
 have i2:w2.heap[w.heap.size+1]? =some (.cells #[.int .i64 r] 3 (0,0)):=by rw [←h2, ←z1];exact heap_alloc_new _ _
 have i3:w3.heap[w.heap.size+2]? =some (.cells #[.slice none 0 0] 85 (0,0)):=by rw [←h3, ←z2];exact heap_alloc_new _ _
 have i4:M.MapAt w4 (w.heap.size+3) tx Ako (nmE []):=by rw [←h4, ←z3];exact M.MapAt.new w3 tx Ako
 have i5:w5.heap[w.heap.size+4]? =some (.cells #[.map none] 136 (0,0)):=by rw [←h5, ←z4];exact heap_alloc_new _ _
 have hc:w5.cell? ⟨w.heap.size+4,0,none⟩=some (.map none):=(cell_of_row w5 (w.heap.size+4) 0 _ _ _ i5).trans rfl
 have hf:=frozen_of_row w5 (w.heap.size+4) 0 _ _ i5
 have i6:=Go.heap_setCell_same w5 (w.heap.size+4) 0 _ _ (Value.map (some (w.heap.size+3))) i5
 have k6:∀j,j≠w.heap.size+4→(w5.setCell ⟨w.heap.size+4,0,none⟩ (.map (some (w.heap.size+3)))).heap[j]? =w5.heap[j]? :=fun j hj=>Below.heap_setCell _ _ _ _ hj
 have z6:(w5.setCell ⟨w.heap.size+4,0,none⟩ (.map (some (w.heap.size+3)))).heap.size=w.heap.size+5:=by simp [World.setCell];exact z5
 have c1:=(b2.block _ (by omega)).trans i1
 have c1:=(b3.block _ (by omega)).trans c1
 have c1:=(b4.block _ (by omega)).trans c1
 have c1:=(b5.block _ (by omega)).trans c1
 have c2:=(b3.block _ (by omega)).trans i2
 have c2:=(b4.block _ (by omega)).trans c2
 have c2:=(b5.block _ (by omega)).trans c2
 have c3:=(b4.block _ (by omega)).trans i3
 have c3:=(b5.block _ (by omega)).trans c3
 have c4:=i4.below (b5.block _ (by omega))
 have bw:Below w.heap.size w w5:=(((b1.trans (b2.mono (by omega))).trans (b3.mono (by omega))).trans (b4.mono (by omega))).trans (b5.mono (by omega))
 refine ⟨w1,w2,w3,w4,w5,_, ?_, ?_, ?_, ?_, ?_, ?_,⟨⟨.slice none 0 0,(k6 _ (by omega)).trans c3,Aae.lo_nil RM _ _⟩,i6,c4.below (k6 _ (by omega)),(k6 _ (by omega)).trans c1,(k6 _ (by omega)).trans c2,bw.setCell (p:=⟨w.heap.size+4,0,none⟩) (by show w.heap.size≤w.heap.size+4;omega) _,Nat.le_refl _⟩,z6⟩
 ·rw [Aev, ←h1];rfl
 ·rw [Aev, ←h2,z1];rfl
 ·rw [←h3, ←z2];kernel_rfl
 ·rw [←h4, ←z3];simp [Instr.makeMap,run_underlying underlying136]
 ·rw [←h5, ←z4];kernel_rfl
 ·clear h1 h2 h3 h4 h5 b1 b2 b3 b4 b5 i1 i2 i3 i4 c1 c2 c3 c4 bw z6 k6 i6
  go_simp
def AxM (b4 b5 b7 b8:Nat) (x:OkM × Nat) (a:Act) (W:World):Prop:=∃eb,a.tmps.size=53∧a.tmps.getD 4 undef= (pZ b4 0)∧a.tmps.getD 5 undef= (pZ b5 0)∧a.tmps.getD 7 undef= (pZ b7 0)∧a.tmps.getD 8 undef= (pZ b8 0)∧a.tmps.getD 10 undef= (pZ eb 0)∧RM.Bx W eb x.1.1
theorem AxM.own (b4 b5 b7 b8 B:Nat) (x:OkM × Nat) (a:Act):OwnFrom B (fun (_:Unit) W=>AxM b4 b5 b7 b8 x a W):=by
 intro _ W W' row hs hg hr
 obtain ⟨eb,h0,h1,h2,h3,h4,h5,h6⟩:=hs
 refine ⟨eb,h0,h1,h2,h3,h4,h5,(hg.block eb (Array.getElem?_eq_some_iff.1 h6).1 (fun e=> ?_)).trans h6⟩
 obtain ⟨_,o,ho,hc⟩:=hr eb e.symm
 rw [show W.heap[eb]? =_ from h6] at ho;cases ho;cases hc
theorem Ab9 {B:Nat} {W W':World} (b:Below W.heap.size W W'):KeepsFrom B W W':=⟨b.size,fun k o _ hk _=>(b.block k (Array.getElem?_eq_some_iff.1 hk).1).trans hk⟩
end
end Go.Proofs.YtifendlpeebofaaGreatDoor
