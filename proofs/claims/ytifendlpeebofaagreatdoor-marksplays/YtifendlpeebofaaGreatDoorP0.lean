import Derived.Test.YtifendlpeebofaaGreatDoorHl
import Derived.Test.YtifendlpeebofaaGreatDoorMa
import Derived.DeepKeys3
import Derived.Deep.RegionHeld3
import Derived.Deep.MidRow
import Derived.Deep.Cut
import Derived.Laws.Tables
import Derived.Laws.MakeOwn
import Derived.Laws.CopyRow
import Derived.Great.BuildSlice
import Derived.Deep.DeepAppendWide
import Derived.Maps.AppendAt
import Derived.OwnWalk
import Derived.Deep.RegionLaw
import Derived.StillTailTactics
import Derived.Test.YtifendlpeebofaaGreatDoorXea
import Derived.Test.YtifendlpeebofaaGreatDoorRows
import Derived.WalkKit
import Derived.ProofKit
import Derived.OpenShut
import Derived.ShutString
import Derived.ChangeOld
import Derived.Below
import Derived.SizedLaws
import Derived.Deep.Slices
set_option linter.unusedSectionVars false
set_option linter.unusedSimpArgs false
set_option linter.unusedVariables false
set_option maxRecDepth 100000
set_option maxHeartbeats 4000000
namespace Go.Proofs.YtifendlpeebofaaGreatDoor
open Go.RowKit
theorem qsA {α:Type} (l:List α) (i:Nat) (a:α):l.toArray.setIfInBounds i a=(l.set i a).toArray:=by simp
theorem qsB {α:Type} (x:α) (l:List α) (a:α):(x::l).set 0 a=a::l:=rfl
theorem qsC {α:Type} (x:α) (l:List α) (n:Nat) (a:α):(x::l).set (n+1) a=x::l.set n a:=rfl
structure IdK where
 h:List UInt8
 n:Int
 deriving DecidableEq
structure IdK.ok (k:IdK):Prop where
 l:k.h.length=32
 lo: -9223372036854775808≤k.n
 hi:k.n≤9223372036854775807
def IdK.c (k:IdK):List Value:=hcs k.h++[.int .i64 k.n]
def IdK.v (k:IdK):Value:= .agg k.c.toArray
def zId:IdK:=⟨List.replicate 32 0,0⟩
theorem zId_ok:zId.ok:=⟨by simp [zId],by simp [zId],by simp [zId]⟩
theorem IdK.len {k:IdK} (h:k.ok):k.c.length=33:=by simp [IdK.c,hcs_len,h.l]
theorem IdK.one (k:IdK):∀v∈k.c,v.oneCell'=true:=by
 intro v hv
 simp only [IdK.c,List.mem_append,List.mem_singleton] at hv
 rcases hv with h|rfl
 ·exact hcs_one _ v h
 ·rfl
theorem m_sub {xs A B C:List Value} {off n:Nat} (e:xs=A++(B++C)) (hA:A.length=off) (hB:B.length=n):xs.toArray.extract off (off+n)=B.toArray:=by
 subst e hA hB
 apply Array.toList_inj.1
 simp
theorem m_get {xs A C:List Value} {v:Value} {off:Nat} (e:xs=A++(v::C)) (hA:A.length=off):xs.toArray[off]? =some v:=by
 subst e hA
 simp
section
variable {w:World}
theorem m_agg {t:TypeId} {xs:Array Value} {off n:Nat} {B:Array Value} (hu:(isAgg t).run Tryz.prog w= .ok true w) (hs:(sizeOf t).run Tryz.prog w= .ok n w) (e:xs.extract off (off+n)=B):(Go.part t xs off).run Tryz.prog w= .ok (.agg B) w:=by
 simp only [Go.part,Sem.run_bind,hu,Result.andThen_ok,if_true,hs,Sem.run_pure,e]
theorem m_one {t:TypeId} {xs:Array Value} {off:Nat} {v:Value} (hu:(isAgg t).run Tryz.prog w= .ok false w) (e:xs[off]? =some v):(Go.part t xs off).run Tryz.prog w= .ok v w:=by
 simp only [Go.part,Sem.run_bind,hu,Result.andThen_ok,Bool.false_eq_true,if_false,e,Sem.run_pure]
theorem m_eqF {d:Nat} {xs ys:Array Value} {f:Field} {fs:List Field} {a b:Value} {r r':Bool} (hn:f.name≠ "_") (h1:(Go.part f.type xs f.offset).run Tryz.prog w= .ok a w) (h2:(Go.part f.type ys f.offset).run Tryz.prog w= .ok b w)
 (h3:(Op.equalIn d f.type a b).run Tryz.prog w= .ok r w) (h4:(Op.eqFields d xs ys fs).run Tryz.prog w= .ok r' w):(Op.eqFields d xs ys (f::fs)).run Tryz.prog w= .ok (r&&r') w:=by
 unfold Op.eqFields
 rw [if_pos hn]
 simp only [Sem.run_bind,h1,h2,h3,Result.andThen_ok]
 cases r with
 |false=>simp
 |true=>simp [h4]
end
theorem m_sz {t n:Nat} (h:(Tryz.prog.info? t).map (·.size)=some n) (w:World):(sizeOf t).run Tryz.prog w= .ok n w:=by
 cases hq:Tryz.prog.info? t with
 |none=>rw [hq] at h;simp at h
 |some i =>
  rw [hq] at h
  simp at h
  simp [sizeOf,typeInfo,hq,h]
theorem agHash (w:World):(isAgg 34).run Tryz.prog w= .ok true w:=by simp [isAgg,run_underlying Tryz.underlying34]
theorem szHash (w:World):(sizeOf 34).run Tryz.prog w= .ok 32 w:=m_sz (by kernel_rfl) w
theorem agInt (w:World):(isAgg 3).run Tryz.prog w= .ok false w:=by simp [isAgg,run_underlying Tryz.underlying3]
theorem flId:(Tryz.prog.fieldsOf 36).toList=[⟨"Hash",34,0,false,"","",0⟩,⟨"N",3,32,false,"","",32⟩]:=by simp [Program.fieldsOf,Tryz.underlying36]
theorem m_eqHash (d:Nat) (a b:List UInt8) (ha:a.length=32) (hb:b.length=32) (w:World):(Op.equalIn (d+2) 34 (.agg (hcs a).toArray) (.agg (hcs b).toArray)).run Tryz.prog w= .ok (decide (a=b)) w:=by
 rw [hcs_arr,hcs_arr]
 obtain ⟨i,hi⟩:∃i,Tryz.prog.info? 5=some i:=by
  cases h:Tryz.prog.info? 5 with
  |none=>have:(Tryz.prog.info? 5).isSome=true:=by kernel_rfl
         rw [h] at this;cases this
  |some i=>exact ⟨i,rfl⟩
 exact eq_bytes d Tryz.underlying34 hi (by kernel_rfl) Tryz.underlying5 a b ha hb w
theorem eqId (d:Nat) (a b:IdK) (ha:a.ok) (hb:b.ok) (w:World):(Op.equalIn (d+3) 36 a.v b.v).run Tryz.prog w= .ok (decide (a=b)) w:=by
 unfold IdK.v
 rw [run_equalIn_agg w (d+2) 36 _ _ (by simp [Program.fieldsOf,Tryz.underlying36]) (by kernel_rfl),flId]
 have e:decide (a=b)=(decide (a.h=b.h)&&(a.n==b.n&&true)):=by
  rw [Bool.eq_iff_iff]
  obtain ⟨h1,n1⟩:=a
  obtain ⟨h2,n2⟩:=b
  simp
 rw [e]
 refine m_eqF (by decide) (m_agg (agHash w) (szHash w) (m_sub (A:=[]) (B:=hcs a.h) (C:=[.int .i64 a.n]) rfl rfl (by rw [hcs_len,ha.l]))) (m_agg (agHash w) (szHash w) (m_sub (A:=[]) (B:=hcs b.h) (C:=[.int .i64 b.n]) rfl rfl (by rw [hcs_len,hb.l]))) (m_eqHash d _ _ ha.l hb.l w) ?_
 refine m_eqF (by decide) (m_one (agInt w) (m_get (A:=hcs a.h) (C:=[]) rfl (by simp [hcs_len,ha.l]))) (m_one (agInt w) (m_get (A:=hcs b.h) (C:=[]) rfl (by simp [hcs_len,hb.l]))) (run_equalIn_int w (d+1) 3 .i64 .i64 _ _ Tryz.underlying3) ?_
 simp [Op.eqFields]
theorem same_bits:∀(l:List Value),(∀v∈l,∃q n,v= .int q n)→((l.zip l).all fun x=>Instr.sameBits 9999 x.1 x.2)=true:=by
 intro l hl
 rw [List.all_eq_true]
 intro x hx
 obtain ⟨i,hi⟩:=List.getElem?_of_mem hx
 rw [List.getElem?_zip_eq_some] at hi
 have e:x.1=x.2:=Option.some.inj (hi.1.symm.trans hi.2)
 obtain ⟨q,n,hv⟩:=hl x.1 (List.mem_of_getElem? hi.1)
 rw [←e,hv]
 simp [Instr.sameBits]
theorem hcs_int (h:List UInt8):∀v∈hcs h,∃n:Nat,n<256∧v= .int .u8 (n:Int):=by
 intro v hv
 simp only [hcs,bs,List.mem_map,List.mem_toArray,Array.mem_toList_iff] at hv
 obtain ⟨b,_,rfl⟩:=hv
 exact ⟨b.toNat,b.toNat_lt,rfl⟩
theorem id_bits (k:IdK):Instr.sameBits 10000 k.v k.v=true:=by
 unfold IdK.v
 rw [Instr.sameBits]
 simp only [BEq.rfl,Bool.true_and]
 refine same_bits _ (fun v hv=> ?_)
 simp only [IdK.c,List.mem_append,List.mem_singleton] at hv
 rcases hv with h|rfl
 ·obtain ⟨n,_,e⟩:=hcs_int _ v h
  exact ⟨_,_,e⟩
 ·exact ⟨_,_,rfl⟩
theorem mapM_some {α β:Type} (f:α→Option β):∀(l:List α),(∀x∈l,∃y,f x=some y)→∃ys,l.mapM f=some ys
 |[],_=>⟨[],rfl⟩
 |a::l,h=>by
  obtain ⟨y,hy⟩:=h a (by simp)
  obtain ⟨ys,hys⟩:=mapM_some f l (fun x hx=>h x (List.mem_cons_of_mem _ hx))
  exact ⟨y::ys,by simp [List.mapM_cons,hy,hys]⟩
theorem hash_lits (D:Nat) (h:List UInt8) (hl:h.length=32):∃la,Tryz.prog.keyLits (D+2) 34 (hcs h)=some la:=by
 have hc:Tryz.prog.cellsOf 34=32:=by kernel_rfl
 have hc5:Tryz.prog.cellsOf 5=1:=by kernel_rfl
 unfold Program.keyLits
 simp only [Tryz.underlying34]
 rw [if_pos (by rw [hcs_len,hl,hc])]
 obtain ⟨ys,hys⟩:=mapM_some (fun i=>Tryz.prog.keyLits (D+1) 5 (((hcs h).drop (i*Tryz.prog.cellsOf 5)).take (Tryz.prog.cellsOf 5))) (List.range 32) (fun i hi=>by
  have hi':=List.mem_range.1 hi
  have hlen:i<(hcs h).length:=by rw [hcs_len,hl];exact hi'
  rw [hc5,Nat.mul_one,List.drop_eq_getElem_cons hlen,List.take_succ_cons,List.take_zero]
  obtain ⟨n,hn,e⟩:=hcs_int h _ (List.getElem_mem hlen)
  rw [e]
  unfold Program.keyLits
  simp only [Tryz.underlying5]
  rw [if_pos (by simp [Lit.wf,IntKind.min,IntKind.max,IntKind.bits,IntKind.signed];omega)]
  exact ⟨_,rfl⟩)
 rw [hys]
 exact ⟨_,rfl⟩
theorem id_lits (D:Nat) (k:IdK) (hk:k.ok):∃la,Tryz.prog.keyLits (D+3) 36 k.c=some la:=by
 have hc:Tryz.prog.cellsOf 36=33:=by kernel_rfl
 have hch:Tryz.prog.cellsOf 34=32:=by kernel_rfl
 have hc3:Tryz.prog.cellsOf 3=1:=by kernel_rfl
 obtain ⟨la,hla⟩:=hash_lits D k.h hk.l
 have e1:(k.c.drop 0).take 32=hcs k.h:=by
  rw [List.drop_zero,IdK.c, ←hk.l, ←hcs_len,List.take_left]
 have e2:(k.c.drop 32).take 1=[.int .i64 k.n]:=by
  have hl:(hcs k.h).length=32:=by rw [hcs_len,hk.l]
  rw [IdK.c, ←hl,List.drop_left]
  rfl
 have e3:Tryz.prog.keyLits (D+2) 3 [.int .i64 k.n]=some [.int .i64 k.n]:=by
  unfold Program.keyLits
  simp only [Tryz.underlying3]
  have:=hk.lo
  have:=hk.hi
  rw [if_pos (by simp [Lit.wf,IntKind.min,IntKind.max,IntKind.bits,IntKind.signed];omega)]
 unfold Program.keyLits
 simp only [Tryz.underlying36]
 rw [if_pos ⟨by rw [IdK.len hk,hc],by simp⟩]
 rw [List.drop_zero] at e1
 simp [hch,hc3,e1,e2,hla,e3]
theorem id_chk (b:Bool) (k:IdK) (w:World) (hk:k.ok):(Instr.checkKey b 10000 36 k.v).run Tryz.prog w= .ok () w:=by
 obtain ⟨la,h⟩:=id_lits 0 k hk
 have hf:k.v.formed Tryz.prog 36=true:=by
  unfold IdK.v Value.formed
  simp only [Tryz.underlying36]
  rw [List.size_toArray,IdK.len hk]
  kernel_rfl
 exact run_checkKey_deep b 9990 10 36 (by kernel_rfl) w 3 k.v la hf (by simpa [IdK.v,Value.cells] using h)
theorem idKey:M.KeyOk Tryz.prog 36 IdK.v IdK.ok:={
 chk:=fun b k w hk=>id_chk b k w hk
 eq:=fun a b w ha hb=>eqId 9997 a b ha hb w
 und:=⟨_,Tryz.underlying36, .inl fun a b=>rfl⟩
 bits:=id_bits}
section
variable {P:Program} {w w2:World} {a:Act} {o:Oper}
theorem xmv {x:Operand} {v:Value} (ho:o.op= .move x) (hp:a.eval x=v):(execOp a.eval o).run P w= .ok (.value v) w:=by
 unfold execOp;simp only [ho,hp,Sem.run_pure]
theorem xas {x:Operand} {v:Value} (ho:o.op= .assign x) (hp:a.eval x=v):(execOp a.eval o).run P w= .ok (.value v) w:=by
 unfold execOp;simp only [ho,hp,Sem.run_pure]
theorem xnc {x:Operand} {p:Addr} (ho:o.op= .nilCheck x) (hp:a.eval x= .pointer (some p)):(execOp a.eval o).run P w= .ok (.value (.pointer (some p))) w:=by
 unfold execOp;simp only [ho,hp,Sem.run_pure]
theorem xfa {s i:Nat} {x:Operand} {u v:Value} (ho:o.op= .fieldAddr s x i) (hp:a.eval x=u) (hl:(Instr.fieldAt s u i).run P w= .ok v w):(execOp a.eval o).run P w= .ok (.value v) w:=by
 unfold execOp;simp only [ho,hp,Sem.run_bind,hl,Result.andThen_ok,Sem.run_pure]
theorem xld {t:TypeId} {x:Operand} {u v:Value} (ho:o.op= .load t x) (hp:a.eval x=u) (hl:(Instr.loadAt t u).run P w= .ok v w):(execOp a.eval o).run P w= .ok (.value v) w:=by
 unfold execOp;simp only [ho,hp,Sem.run_bind,hl,Result.andThen_ok,Sem.run_pure]
theorem exec_lookup {t:TypeId} {m x:Operand} {c:Bool} {mv xv v:Value} (ho:o.op= .lookup t m x c) (hm:a.eval m=mv) (hx:a.eval x=xv) (hl:(Instr.lookup t mv xv c).run P w= .ok v w):(execOp a.eval o).run P w= .ok (.value v) w:=by
 unfold execOp;simp only [ho,hm,hx,Sem.run_bind,hl,Result.andThen_ok,Sem.run_pure]
theorem exec_extract {x:Operand} {i:Nat} {vs:Array Value} {v:Value} (ho:o.op= .extract x i) (hx:a.eval x= .tuple vs) (hv:vs[i]? =some v):(execOp a.eval o).run P w= .ok (.value v) w:=by
 unfold execOp;simp only [ho,hx,Instr.extract,hv,Sem.run_bind,Result.andThen_ok,Sem.run_pure]
theorem exec_build0 {t:TypeId} {v:Value} (ho:o.op= .build t #[]) (hl:(Instr.build t #[]).run P w= .ok v w):(execOp a.eval o).run P w= .ok (.value v) w:=by
 unfold execOp;simp only [ho,List.map_toArray,List.map_nil,Sem.run_bind,hl,Result.andThen_ok,Sem.run_pure]
theorem exec_binOp {b:BinOp} {t t2:TypeId} {x y:Operand} {xv yv v:Value} (ho:o.op= .binOp b t x y t2) (hx:a.eval x=xv) (hy:a.eval y=yv) (hg:(eqGuard b t x y xv yv).run P w= .ok () w) (hl:(binOp b t xv yv).run P w= .ok v w):(execOp a.eval o).run P w= .ok (.value v) w:=by
 unfold execOp;simp only [ho,hx,hy,Sem.run_bind,hg,hl,Result.andThen_ok,Sem.run_pure]
theorem exec_len {x:Operand} {ts:Array TypeId} {xv v:Value} (ho:o.op= .call {callee:= .builtin .len,args:= #[x],argTypes:=ts}) (hx:a.eval x=xv) (hl:(Builtin.len_ ts o.type #[xv]).run P w= .ok v w):(execOp a.eval o).run P w= .ok (.value v) w:=by
 unfold execOp
 simp only [ho,resolve,invoke,builtin,List.map_toArray,List.map_cons,List.map_nil,hx,Sem.run_bind,Sem.run_pure,hl,Result.andThen_ok]
theorem exec_delete {x y:Operand} {ts:Array TypeId} {xv yv:Value} (ho:o.op= .call {callee:= .builtin .delete,args:= #[x,y],argTypes:=ts}) (hx:a.eval x=xv) (hy:a.eval y=yv) (hl:(Builtin.delete_ ts o.type #[xv,yv]).run P w= .ok (.tuple #[]) w2):(execOp a.eval o).run P w= .ok (.value (.tuple #[])) w2:=by
 unfold execOp
 simp only [ho,resolve,invoke,builtin,List.map_toArray,List.map_cons,List.map_nil,hx,hy,Sem.run_bind,Sem.run_pure,hl,Result.andThen_ok]
theorem exec_alloc {t:TypeId} {v:Value} (ho:o.op= .alloc t) (hl:(Instr.alloc t true (.tuple #[])).run P w= .ok v w2):(execOp a.eval o).run P w= .ok (.value v) w2:=by
 unfold execOp;simp only [ho,Sem.run_bind,hl,Result.andThen_ok,Sem.run_pure]
theorem exec_makeMap {t:TypeId} {v:Value} (ho:o.op= .makeMap t none) (hl:(Instr.makeMap t none).run P w= .ok v w2):(execOp a.eval o).run P w= .ok (.value v) w2:=by
 unfold execOp;simp only [ho,Option.map_none,Sem.run_bind,hl,Result.andThen_ok,Sem.run_pure]
theorem exec_store {t:TypeId} {x y:Operand} {xv yv:Value} (ho:o.op= .store t x y) (hx:a.eval x=xv) (hy:a.eval y=yv) (hl:(Instr.storeAt t xv yv).run P w= .ok () w2):(execOp a.eval o).run P w= .ok .skip w2:=by
 unfold execOp;simp only [ho,hx,hy,Sem.run_bind,hl,Result.andThen_ok,Sem.run_pure]
theorem exec_mapUpdate {t:TypeId} {m x y:Operand} {mv xv yv:Value} (ho:o.op= .mapUpdate t m x y) (hm:a.eval m=mv) (hx:a.eval x=xv) (hy:a.eval y=yv) (hl:(Instr.mapUpdate t mv xv yv).run P w= .ok () w2):(execOp a.eval o).run P w= .ok .skip w2:=by
 unfold execOp;simp only [ho,hm,hx,hy,Sem.run_bind,hl,Result.andThen_ok,Sem.run_pure]
variable {ops:Array Oper} {K:Act→World→Prop} {Q:Exit→Act→World→Prop} {E:Prop}
end
theorem put_same (a:Act) (d:Nat) (v:Value) (h:d<a.tmps.size):(a.put (some d) v).tmps.getD d undef=v:=by
 simp [Act.put,Array.getD_eq_getD_getElem?,h]
theorem put_ne (a:Act) (d e:Nat) (v:Value) (h:d≠e):(a.put (some d) v).tmps.getD e undef=a.tmps.getD e undef:=by
 simp [Act.put,Array.getD_eq_getD_getElem?,Array.getElem?_setIfInBounds,h]
theorem put_size (a:Act) (d:Option Nat) (v:Value):(a.put d v).tmps.size=a.tmps.size:=by
 cases d <;>simp [Act.put]
theorem szId:(Tryz.prog.info? 36).map (·.size)=some 33:=by kernel_rfl
structure Tch (O:Nat→Prop) (w w':World):Prop where
 os:w'.os=w.os
 tape:w'.tape=w.tape
 output:w'.output=w.output
 size:w.heap.size≤w'.heap.size
 block:∀k,k<w.heap.size→¬O k→w'.heap[k]? =w.heap[k]?
theorem Tch.refl (O:Nat→Prop) (w:World):Tch O w w:=⟨rfl,rfl,rfl,Nat.le_refl _,fun _ _ _=>rfl⟩
theorem Tch.trans {O:Nat→Prop} {a b c:World} (h:Tch O a b) (k:Tch O b c):Tch O a c :=
 ⟨k.os.trans h.os,k.tape.trans h.tape,k.output.trans h.output,Nat.le_trans h.size k.size,fun i hi ho=>(k.block i (Nat.lt_of_lt_of_le hi h.size) ho).trans (h.block i hi ho)⟩
theorem Tch.trans' {O O':Nat→Prop} {a b c:World} (h:Tch O a b) (k:Tch O' b c) (ho:∀i,i<a.heap.size→O' i→O i):Tch O a c :=
 ⟨k.os.trans h.os,k.tape.trans h.tape,k.output.trans h.output,Nat.le_trans h.size k.size,fun i hi hn=>(k.block i (Nat.lt_of_lt_of_le hi h.size) (fun q=>hn (ho i hi q))).trans (h.block i hi hn)⟩
theorem Tch.of_below {B:Nat} {O:Nat→Prop} {w w':World} (h:Below B w w') (ho:∀k,k<w.heap.size→B≤k→O k):Tch O w w' :=
 ⟨h.os,h.tape,h.output,h.size,fun k hk hn=>h.block k (Nat.lt_of_not_le (fun q=>hn (ho k hk q)))⟩
theorem Tch.below {O:Nat→Prop} {w w':World} (h:Tch O w w') {B:Nat} (hB:B≤w.heap.size) (ho:∀k,O k→B≤k):Below B w w' :=
 ⟨h.os,h.tape,h.output,h.size,fun k hk=>h.block k (by omega) (fun q=>by have:=ho k q;omega)⟩
theorem Tch.mono {O O':Nat→Prop} {w w':World} (h:Tch O w w') (ho:∀k,k<w.heap.size→O k→O' k):Tch O' w w' :=
 ⟨h.os,h.tape,h.output,h.size,fun k hk hn=>h.block k hk (fun q=>hn (ho k hk q))⟩
theorem Tch.drew {O:Nat→Prop} {a w:World} (h:Tch O a w):Tch O a w.drew:=⟨h.os,h.tape,h.output,h.size,h.block⟩
theorem Tch.setM {O:Nat→Prop} {a w:World} (h:Tch O a w) {b:Nat} (hb:a.heap.size≤b∨O b) (o:Obj):Tch O a (M.setM w b o) :=
 ⟨h.os,h.tape,h.output,by rw [M.setM_size];exact h.size,fun k hk hn=>by
  rw [M.setM_other o (fun e=>by subst e;rcases hb with q|q; · omega
                                ·exact hn q)]
  exact h.block k hk hn⟩
def IdAt (w:World) (b:Nat) (k:IdK):Prop:=w.heap[b]? =some (.cells k.c.toArray 36 (0,0))
theorem cells_range {w:World} {b:Nat} {cs:List Value} {t:TypeId} {z:Nat × Nat} (h:w.heap[b]? =some (.cells cs.toArray t z)):w.rangeAt b 0 cs:=fun j v hv=>by
 rw [Nat.zero_add,cell_of_row _ _ j _ _ _ h]
 simpa using hv
theorem load_id {w:World} {b:Nat} {k:IdK} (hk:k.ok) (h:IdAt w b k):(Instr.loadAt 36 (.pointer (some ⟨b,0,none⟩))).run Tryz.prog w= .ok k.v w :=
 run_loadAt_mid (P:=Tryz.prog) w b 0 36 k.c _ (cells_range h) Tryz.underlying36 rfl (by rw [IdK.len hk];exact szId)
theorem wpList_val {P:Program} {ops:Array Oper} {rest:List Oper} {o:Oper} {a:Act} {w:World} {Q:Exit→Act→World→Prop} {v:Value} (hw:Region.wanted o (yielded ops a.tmps)=true) (hr:(execOp a.eval o).run P w= .ok (.value v) w) (h:wpList P ops Q rest (a.put o.dst v) w):wpList P ops Q (o::rest) a w :=
 wpList_step fun K hK=>by
  rw [if_pos hw]
  unfold Oper.wp
  rw [hr]
  exact hK _ _ h
theorem wpList_skip {P:Program} {ops:Array Oper} {rest:List Oper} {o:Oper} {a:Act} {w w2:World} {Q:Exit→Act→World→Prop} (hw:Region.wanted o (yielded ops a.tmps)=true) (hd:o.dst=none) (hr:(execOp a.eval o).run P w= .ok .skip w2) (h:wpList P ops Q rest a w2):wpList P ops Q (o::rest) a w :=
 wpList_step fun K hK=>by
  rw [if_pos hw]
  unfold Oper.wp
  rw [hr]
  show K (a.put o.dst undef) w2
  rw [hd]
  exact hK _ _ h
theorem wpList_run {P:Program} {ops:Array Oper} {rest:List Oper} {o:Oper} {a:Act} {w w2:World} {Q:Exit→Act→World→Prop} {v:Value} (hw:Region.wanted o (yielded ops a.tmps)=true) (hr:(execOp a.eval o).run P w= .ok (.value v) w2) (h:wpList P ops Q rest (a.put o.dst v) w2):wpList P ops Q (o::rest) a w :=
 wpList_step fun K hK=>by
  rw [if_pos hw]
  unfold Oper.wp
  rw [hr]
  exact hK _ _ h
theorem still_val {P:Program} {ops:Array Oper} {w:World} {Q:Act→Prop} {rest:List Oper} {o:Oper} {a:Act} {v:Value} (hw:Region.wanted o (yielded ops a.tmps)=true) (hr:(execOp a.eval o).run P w= .ok (.value v) w) (h:wpStill P ops w Q rest (a.put o.dst v)):wpStill P ops w Q (o::rest) a :=
 wpStill_step fun K hK=>by
  rw [if_pos hw]
  unfold Oper.still
  rw [hr]
  exact ⟨rfl,hK _ h⟩
theorem exec_build {P:Program} {w:World} {a:Act} {o:Oper} {t:TypeId} {parts:Array (Nat × Operand)} {pv:Array (Nat × Value)} {v:Value} (ho:o.op= .build t parts) (hp:(parts.map fun (i,x)=>(i,a.eval x))=pv) (hl:(Instr.build t pv).run P w= .ok v w):(execOp a.eval o).run P w= .ok (.value v) w:=by
 unfold execOp;simp only [ho,hp,Sem.run_bind,hl,Result.andThen_ok,Sem.run_pure]
section
variable {P:Program} {w w2:World} {a:Act} {o:Oper}
theorem exec_buildSlice {t n:Nat} {x:Operand} {xv v:Value} (ho:o.op= .buildSlice t n #[(0,x)]) (hx:a.eval x=xv) (hl:(Instr.buildSlice t n #[(0,xv)]).run P w= .ok v w2):(execOp a.eval o).run P w= .ok (.value v) w2:=by
 unfold execOp;simp only [ho,List.map_toArray,List.map_cons,List.map_nil,hx,Sem.run_bind,hl,Result.andThen_ok,Sem.run_pure]
theorem exec_append {x y:Operand} {ts:Array TypeId} {xv yv v:Value} (ho:o.op= .call {callee:= .builtin .append,args:= #[x,y],argTypes:=ts}) (hx:a.eval x=xv) (hy:a.eval y=yv) (hl:(Builtin.append_ ts o.type #[xv,yv]).run P w= .ok v w2):(execOp a.eval o).run P w= .ok (.value v) w2:=by
 unfold execOp
 simp only [ho,resolve,invoke,builtin,List.map_toArray,List.map_cons,List.map_nil,hx,hy,Sem.run_bind,Sem.run_pure,hl,Result.andThen_ok]
theorem exec_makeSlice {t:TypeId} {x y:Operand} {xv yv v:Value} (ho:o.op= .makeSlice t x y) (hx:a.eval x=xv) (hy:a.eval y=yv) (hl:(Instr.makeSlice t xv yv).run P w= .ok v w2):(execOp a.eval o).run P w= .ok (.value v) w2:=by
 unfold execOp;simp only [ho,hx,hy,Sem.run_bind,hl,Result.andThen_ok,Sem.run_pure]
theorem exec_slice {t:TypeId} {x:Operand} {lo hi mx:Option Operand} {xv v:Value} {lov hiv mxv:Option Value} (ho:o.op= .slice t x lo hi mx) (hx:a.eval x=xv) (h1:lo.map a.eval=lov) (h2:hi.map a.eval=hiv) (h3:mx.map a.eval=mxv) (hl:(Instr.sliceAt t xv lov hiv mxv).run P w= .ok v w):(execOp a.eval o).run P w= .ok (.value v) w:=by
 unfold execOp;simp only [ho,hx,h1,h2,h3,Sem.run_bind,hl,Result.andThen_ok,Sem.run_pure]
theorem xia {t:TypeId} {x y:Operand} {xv yv v:Value} (ho:o.op= .indexAddr t x y) (hx:a.eval x=xv) (hy:a.eval y=yv) (hl:(Instr.indexAt t xv yv).run P w= .ok v w):(execOp a.eval o).run P w= .ok (.value v) w:=by
 unfold execOp;simp only [ho,hx,hy,Sem.run_bind,hl,Result.andThen_ok,Sem.run_pure]
end
theorem rangeAt_keep {w w':World} {b o:Nat} {cs:List Value} (h:w.rangeAt b o cs) (e:w'.heap[b]? =w.heap[b]?):w'.rangeAt b o cs:=fun j v hj=>(World.cell?_of_block (a:=⟨b,o+j,none⟩) e).trans (h j v hj)
theorem cell_new (w:World) (l:List Value) (t:TypeId) (j:Nat) (v:Value) (h:l[j]? =some v):(w.alloc (.cells l.toArray t)).cell? ⟨w.heap.size,j,none⟩=some v:=by
 rw [cell_of_row _ w.heap.size j _ _ _ (heap_alloc_new w _)]
 simpa using h
theorem app_at {P:Program} (w:World) (base:Nat) (t ty e:TypeId) (i:TypeInfo) (z:Value) (size bytes:Nat) (ht:P.underlying t=some (.slice e)) (hi:P.info? e=some i) (hz:i.zero=some z)
 (hsize:i.size=size) (hby:i.bytes=bytes) (hzs:z.cells.size=size) (hsz:0<size) (v:Value) (n:Nat) (xs:List Value) (hown:w.ownsRow base e size v n xs)
 (a:Addr) (m c:Nat) (news:List Value) (hl:news.length=m*size) (hnews:∀j u,news[j]? =some u→w.cell? (a.add j)=some u) (h1:∀u∈news,u.oneCell'=true)
 (h63:n+m≤maxLen) (hbytes:((n+m)+(n+m) / 4+192)*bytes≤281474976710656) (hbase:base≤w.heap.size) :
 ∃v' w',(Builtin.append_ #[t,t] ty #[v, .slice (some a) m c]).run P w= .ok v' w'∧w'.ownsRow base e size v' (n+m) (xs++news)∧w.grownBy w' v.ownBlock∧(v'.ownBlock=v.ownBlock∨v'.ownBlock=some w.heap.size):=by
 obtain ⟨v',w',hr,h2,h3,h4⟩:=run_append_own_wide (P:=P) w base t ty e i z size bytes ht hi hz hsize hby hzs hsz v n xs hown a m c news hl hnews h1 h63 hbytes hbase
 refine ⟨v',w',hr,h2,h3, ?_⟩
 have hx:=hown.1
 subst hsize
 subst hby
 have hbig:n+m≤9223372036854775807:=by simp only [maxLen] at h63;omega
 rcases hown.2 with ⟨rfl,rfl⟩|⟨g,cap,cur,rfl,hbg,hg,hnc,hcm,hcs,htake⟩
 ·by_cases hm:m=0
  ·left;rw [(h4.2 ⟨rfl,hm⟩)]
  ·have hk:=run_append_nil (P:=P) w t ty e i z ht hi hz a m c news hl hnews (by omega) (by omega) (Nat.le_trans (Nat.mul_le_mul_right _ (by omega)) hbytes)
   rw [hr] at hk
   simp only [Result.ok.injEq] at hk
   rw [hk.1]
   exact .inr rfl
 ·by_cases hroom:n+m≤cap
  ·have hk:=run_append_room (P:=P) w t ty e i ht hi g n cap cur hg a m c news hl hnews h1 hroom (by rw [hl,hcs, ←Nat.add_mul];exact Nat.mul_le_mul_right _ hroom)
   rw [hr] at hk
   simp only [Result.ok.injEq] at hk
   rw [hk.1]
   exact .inl rfl
  ·have hk:=run_append_grow (P:=P) w t ty e i z ht hi hz ⟨g,0,none⟩ n cap xs hx (hown.cells (g:=g) rfl) a m c news hl hnews (by omega) (by omega) (growslice_fits_wide (by omega) hbytes)
   rw [hr] at hk
   simp only [Result.ok.injEq] at hk
   rw [hk.1]
   exact .inr rfl
theorem take_seg {α:Type} {cur FA y FB x:List α} {N o:Nat} (h:cur.take N=FA++y++FB) (hN:N=FA.length+y.length+FB.length) (ho:FA.length=o) (hx:x.length=y.length):(cur.take o++x++cur.drop (o+x.length)).take N=FA++x++FB:=by
 obtain ⟨R,hR⟩:∃R,cur=FA++y++FB++R:=⟨cur.drop N,by rw [←h,List.take_append_drop]⟩
 subst hR
 have e1:(FA++y++FB++R).take o=FA:=by rw [←ho];simp [List.append_assoc]
 have e2:(FA++y++FB++R).drop (o+x.length)=FB++R:=by
  rw [←ho,hx, ←List.length_append,List.append_assoc (FA++y),List.drop_left]
 rw [e1,e2,hN]
 rw [show FA++x++(FB++R)=(FA++x++FB)++R by simp]
 rw [show FA.length+y.length+FB.length=(FA++x++FB).length by simp [hx];omega]
 exact List.take_left
theorem setRow_tch (w:World) (g:Nat) (cs:Array Value):Tch (fun j=>some g=some j) w (w.setRow g cs) :=
 ⟨rfl,rfl,rfl,by simp [World.setRow],fun k hk hn=>by
  have hne:g≠k:=fun e=>hn (by rw [e])
  simp [World.setRow,Array.getElem?_modify,hne]⟩
theorem grown_below {w w':World} (h:w.grownBy w' none):Below w.heap.size w w':=⟨h.os,h.tape,h.output,h.size,fun k hk=>h.block k hk (by simp)⟩
theorem pk {a a':Act} {i j:Nat} {u v:Value} (e:a'=a.put (some j) v) (h:a.tmps.getD i undef=u) (hij:i≠j:=by decide):a'.tmps.getD i undef=u:=by
 rw [e,put_ne _ _ _ _ (Ne.symm hij)];exact h
theorem pz {a a':Act} {j n:Nat} {v:Value} (e:a'=a.put (some j) v) (h:a.tmps.size=n):a'.tmps.size=n:=by
 rw [e,put_size];exact h
theorem pq {a a':Act} {j n:Nat} {v:Value} (e:a'=a.put (some j) v) (h:a.tmps.size=n) (hj:j<n:=by decide):a'.tmps.getD j undef=v:=by
 rw [e];exact put_same _ _ _ (by omega)
section
variable {P:Program} {ops:Array Oper} {rest:List Oper} {o:Oper} {a:Act} {w w2:World} {Q:Exit→Act→World→Prop}
theorem qk {v:Value} {d:Nat} (hw:Region.wanted o (yielded ops a.tmps)=true) (hr:(execOp a.eval o).run P w= .ok (.value v) w2) (h:∀a',a'=a.put (some d) v→wpList P ops Q rest a' w2) (hd:o.dst=some d:=by rfl):wpList P ops Q (o::rest) a w :=
 wpList_step fun K hK=>by
  rw [if_pos hw]
  unfold Oper.wp
  rw [hr]
  exact hK _ _ (by rw [hd];exact h _ rfl)
theorem qs (hw:Region.wanted o (yielded ops a.tmps)=true) (hr:(execOp a.eval o).run P w= .ok .skip w2) (h:wpList P ops Q rest a w2) (hd:o.dst=none:=by rfl):wpList P ops Q (o::rest) a w :=
 wpList_step fun K hK=>by
  rw [if_pos hw]
  unfold Oper.wp
  rw [hr]
  exact hK _ _ (by rw [hd];exact h)
end
section
variable {P:Program} {ops:Array Oper} {rest:List Oper} {o:Oper} {a:Act} {w w2:World} {Q:Exit→Act→World→Prop}
theorem qd {v:Value} (hw:Region.wanted o (yielded ops a.tmps)=true) (hr:(execOp a.eval o).run P w= .ok (.value v) w2) (h:wpList P ops Q rest a w2) (hd:o.dst=none:=by rfl):wpList P ops Q (o::rest) a w :=
 wpList_step fun K hK=>by
  rw [if_pos hw]
  unfold Oper.wp
  rw [hr]
  exact hK _ _ (by rw [hd];exact h)
theorem qv {v:Value} {d:Nat} (hw:Region.wanted o (yielded ops a.tmps)=true) (hr:(execOp a.eval o).run P w= .ok (.value v) w) (h:∀a',a'=a.put (some d) v→wpList P ops Q rest a' w) (hd:o.dst=some d:=by rfl):wpList P ops Q (o::rest) a w:=qk hw hr h hd
theorem qn {d:Nat} (hw:Region.wanted o (yielded ops a.tmps)=false) (h:∀a',a'=a.put (some d) undef→wpList P ops Q rest a' w) (hd:o.dst=some d:=by rfl):wpList P ops Q (o::rest) a w :=
 wpList_step fun K hK=>by
  rw [if_neg (by rw [hw];decide),hd]
  exact hK _ _ (h _ rfl)
theorem qc {F:Nat} {vs:Array Value} {R:Ending→World→Prop} {d:Nat} (hw:Region.wanted o (yielded ops a.tmps)=true) (hr:(execOp a.eval o).run P w= .ok (.enter F vs) w) (hC:Calls P F vs w R) (h:∀e w',R e w'→∃v,e= .returned v∧∀a',a'=a.put (some d) v→wpList P ops Q rest a' w') (hd:o.dst=some d:=by rfl):wpList P ops Q (o::rest) a w :=
 wpList_step fun K hK=>by
  rw [if_pos hw]
  unfold Oper.wp
  rw [hr,Oper.upon_enter]
  refine hC.mono ?_
  intro e w' hp
  obtain ⟨v,rfl,hh⟩:=h e w' hp
  exact hK _ _ (by rw [hd];exact hh _ rfl)
end
section
variable {P:Program} {ops:Array Oper} {rest:List Oper} {o:Oper} {a:Act} {w w2:World} {Q:Exit→Act→World→Prop}
theorem wload (w0:World) {t:TypeId} {x:Operand} {u v:Value} (ho:o.op= .load t x) (hw:w=w0) (hp:a.eval x=u) (hl:(Instr.loadAt t u).run P w0= .ok v w0) (hn:Region.wanted o (yielded ops a.tmps)=true) (h:wpList P ops Q rest (a.put o.dst v) w):wpList P ops Q (o::rest) a w:=by subst hw;exact wpList_val hn (xld ho hp hl) h
theorem wbuild0 {t:TypeId} {v:Value} (ho:o.op= .build t #[]) (hl:(Instr.build t #[]).run P w= .ok v w) (hn:Region.wanted o (yielded ops a.tmps)=true) (h:wpList P ops Q rest (a.put o.dst v) w):wpList P ops Q (o::rest) a w:=wpList_val hn (exec_build0 ho hl) h
end
def rgn:Code→Nat→Option (Array Oper)
 | .region i ops _,k=>cond (Nat.beq i k) (some ops) none
 | .seq a b,k=>(rgn a k).or (rgn b k)
 | .cond _ a b,k=>(rgn a k).or (rgn b k)
 | .block _ b,k=>rgn b k
 | .loop b,k=>rgn b k
 | .rangeFunc _ _ a b,k=>(rgn a k).or (rgn b k)
 | .scope b,k=>rgn b k
 |_,_=>none
def rgB (f:Func) (k:Nat):Option (Array Oper):=f.body.bind fun c=>rgn c k
def putsR (a:Act):List (Nat × Value)→Act
 |[]=>a
 |(k,u)::L=>(putsR a L).put (some k) u
def lkp:List (Nat × Value)→Nat→Option Value
 |[],_=>none
 |(k,u)::L,i=>cond (Nat.beq k i) (some u) (lkp L i)
section
variable {a:Act} {n:Nat} {L:List (Nat × Value)} {i:Nat} {v:Value}
theorem putsR_size (z:a.tmps.size=n):∀L,(putsR a L).tmps.size=n
 |[]=>z
 |(k,u)::L=>pz (a:=putsR a L) rfl (putsR_size z L)
theorem zgD (z:a.tmps.size=n) (hi:Nat.blt i n=true):∀{L:List (Nat × Value)},lkp L i=some v→(putsR a L).tmps.getD i undef=v
 |[],h=>by cases h
 |(k,u)::L,h=>by
  unfold lkp at h
  by_cases e:k=i
  ·rw [show Nat.beq k i=true by rw [e];exact Nat.beq_refl i] at h
   have h':some u=some v:=h
   cases h'
   subst e
   exact pq (a:=putsR a L) rfl (putsR_size z L) (Nat.le_of_ble_eq_true hi)
  ·rw [show Nat.beq k i=false by cases q:Nat.beq k i with |false=>rfl|true=>exact absurd (Nat.eq_of_beq_eq_true q) e] at h
   exact pk (a:=putsR a L) rfl (zgD z hi h) (Ne.symm e)
theorem zg (z:a.tmps.size=n) (h:lkp L i=some v) (hi:Nat.blt i n=true:=by rfl):(putsR a L).eval (.tmp i)=v:=zgD z hi h
theorem ziD (h0:a.tmps.getD i undef=v):∀{L:List (Nat × Value)},lkp L i=none→(putsR a L).tmps.getD i undef=v
 |[],_=>h0
 |(k,u)::L,h=>by
  unfold lkp at h
  by_cases e:k=i
  ·rw [show Nat.beq k i=true by rw [e];exact Nat.beq_refl i] at h
   cases h
  ·rw [show Nat.beq k i=false by cases q:Nat.beq k i with |false=>rfl|true=>exact absurd (Nat.eq_of_beq_eq_true q) e] at h
   exact pk (a:=putsR a L) rfl (ziD h0 h) (Ne.symm e)
theorem zi (h0:a.tmps.getD i undef=v) (h:lkp L i=none):(putsR a L).eval (.tmp i)=v:=ziD h0 h
def notB:Value→Bool→Bool
 | .bool c,b=>c !=b
 |_,_=>true
variable {ops:Array Oper} {o og:Oper} {k d:Nat} {b:Bool}
theorem zw (z:a.tmps.size=n) (hg:o.guard=some (k,b)) (ho:ops[k]? =some og) (hd:og.dst=some d) (h:(putsR a L).eval (.tmp d)= .bool b) (hi:Nat.blt d n=true:=by rfl):Region.wanted o (yielded ops (putsR a L).tmps)=true:=by
 have hd2:d<(putsR a L).tmps.size:=by rw [putsR_size z L];exact Nat.le_of_ble_eq_true hi
 have e:(putsR a L).tmps[d]? =some (.bool b):=by
  have h':(putsR a L).tmps.getD d undef= .bool b:=h
  rw [Array.getD_eq_getD_getElem?,Array.getElem?_eq_getElem hd2] at h'
  rw [Array.getElem?_eq_getElem hd2]
  exact congrArg some h'
 simp [Region.wanted,hg,yielded,ho,hd,e]
theorem zx (z:a.tmps.size=n) (hg:o.guard=some (k,b)) (ho:ops[k]? =some og) (hd:og.dst=some d) (h:(putsR a L).eval (.tmp d)=v) (hv:notB v b=true:=by rfl) (hi:Nat.blt d n=true:=by rfl):Region.wanted o (yielded ops (putsR a L).tmps)=false:=by
 have hd2:d<(putsR a L).tmps.size:=by rw [putsR_size z L];exact Nat.le_of_ble_eq_true hi
 have e:(putsR a L).tmps[d]? =some v:=by
  have h':(putsR a L).tmps.getD d undef=v:=h
  rw [Array.getD_eq_getD_getElem?,Array.getElem?_eq_getElem hd2] at h'
  rw [Array.getElem?_eq_getElem hd2]
  exact congrArg some h'
 unfold Region.wanted yielded
 rw [hg]
 simp only [ho,Option.bind_some,hd,e]
 cases v with
 |bool c=>cases c <;>cases b <;>first|rfl|cases hv
 |_=>rfl
end
structure ZL (P:Program) (ops:Array Oper) (Q:Exit→Act→World→Prop) (rest:List Oper) (a:Act) (L:List (Nat × Value)) (w:World):Prop where
 out:wpList P ops Q rest (putsR a L) w
structure YL (P:Program) (md:Region.Mode) (ops:Array Oper) (Q:Exit→Act→World→Prop) (S:World→Prop) (fuel:Nat) (listed:Array Bool) (a:Act) (L:List (Nat × Value)) (w:World):Prop where
 out:wpAnyH P md ops (NoPanic Q) S fuel listed (putsR a L) w
structure XL (P:Program) (md:Region.Mode) (ops:Array Oper) (Q:Exit→Act→World→Prop) (S:World→Prop) (m fuel:Nat) (listed:Array Bool) (a:Act) (L:List (Nat × Value)) (w:World):Prop where
 out:wpAnyE P md ops (NoPanic Q) S m fuel listed (putsR a L) w
section
variable {P:Program} {ops:Array Oper} {rest:List Oper} {o:Oper} {a:Act} {w w2:World} {Q:Exit→Act→World→Prop} {L:List (Nat × Value)} {d:Nat} {v:Value}
theorem z0 {ops':List Oper} {id:Nat} (hl:ops.toList=ops') (h:ZL P ops Q ops' a [] w):(Code.region id ops false).wp P Q a w:=wp_region_list (by rw [hl];exact h.out)
theorem ze {a':Act} (e:putsR a L=a') (h:Q .normal a' w):ZL P ops Q [] a L w:=⟨wpList_nil (by rw [e];exact h)⟩
theorem zv (hw:Region.wanted o (yielded ops (putsR a L).tmps)=true) (hr:(execOp (putsR a L).eval o).run P w= .ok (.value v) w2) (h:ZL P ops Q rest a ((d,v)::L) w2) (hd:o.dst=some d:=by rfl):ZL P ops Q (o::rest) a L w:=⟨qk hw hr (fun a' e=>by subst e;exact h.out) hd⟩
theorem zn (hw:Region.wanted o (yielded ops (putsR a L).tmps)=false) (h:ZL P ops Q rest a ((d,undef)::L) w) (hd:o.dst=some d:=by rfl):ZL P ops Q (o::rest) a L w:=⟨qn hw (fun a' e=>by subst e;exact h.out) hd⟩
theorem zs (hw:Region.wanted o (yielded ops (putsR a L).tmps)=true) (hr:(execOp (putsR a L).eval o).run P w= .ok .skip w2) (h:ZL P ops Q rest a L w2) (hd:o.dst=none:=by rfl):ZL P ops Q (o::rest) a L w:=⟨qs hw hr h.out hd⟩
theorem zd (hw:Region.wanted o (yielded ops (putsR a L).tmps)=true) (hr:(execOp (putsR a L).eval o).run P w= .ok (.value v) w2) (h:ZL P ops Q rest a L w2) (hd:o.dst=none:=by rfl):ZL P ops Q (o::rest) a L w:=⟨qd hw hr h.out hd⟩
theorem zc {F:Nat} {vs:Array Value} {R:Ending→World→Prop} (hw:Region.wanted o (yielded ops (putsR a L).tmps)=true) (hr:(execOp (putsR a L).eval o).run P w= .ok (.enter F vs) w) (hC:Calls P F vs w R) (h:∀e w',R e w'→∃v,e= .returned v∧ZL P ops Q rest a ((d,v)::L) w') (hd:o.dst=some d:=by rfl):ZL P ops Q (o::rest) a L w :=
 ⟨qc hw hr hC (fun e w' r=>by obtain ⟨v,e1,h1⟩:=h e w' r;exact ⟨v,e1,fun a' q=>by subst q;exact h1.out⟩) hd⟩
end
section
variable {P:Program} {w:World} {a:Act} {o:Oper} {F:Nat} {ts:Array TypeId}
theorem exec_c1 {x1:Operand} {v1:Value} (ho:o.op= .call {callee:= .value (.func F),args:= #[x1],argTypes:=ts}) (h1:a.eval x1=v1) (hf:(callFunc F #[v1]).run P w= .ok (.enter F #[v1]) w:=by go_simp):(execOp a.eval o).run P w= .ok (.enter F #[v1]) w:=by
 have e0:a.eval (.func F)= .func (.func F) #[] #[]:=rfl
 unfold execOp;simp [ho,resolve,invoke,h1,e0,Deferred.ofValue,Result.andThen,hf]
theorem exec_c2 {x1 x2:Operand} {v1 v2:Value} (ho:o.op= .call {callee:= .value (.func F),args:= #[x1,x2],argTypes:=ts}) (h1:a.eval x1=v1) (h2:a.eval x2=v2) (hf:(callFunc F #[v1,v2]).run P w= .ok (.enter F #[v1,v2]) w:=by go_simp):(execOp a.eval o).run P w= .ok (.enter F #[v1,v2]) w:=by
 have e0:a.eval (.func F)= .func (.func F) #[] #[]:=rfl
 unfold execOp;simp [ho,resolve,invoke,h1,h2,e0,Deferred.ofValue,Result.andThen,hf]
theorem exec_c3 {x1 x2 x3:Operand} {v1 v2 v3:Value} (ho:o.op= .call {callee:= .value (.func F),args:= #[x1,x2,x3],argTypes:=ts}) (h1:a.eval x1=v1) (h2:a.eval x2=v2) (h3:a.eval x3=v3) (hf:(callFunc F #[v1,v2,v3]).run P w= .ok (.enter F #[v1,v2,v3]) w:=by go_simp):(execOp a.eval o).run P w= .ok (.enter F #[v1,v2,v3]) w:=by
 have e0:a.eval (.func F)= .func (.func F) #[] #[]:=rfl
 unfold execOp;simp [ho,resolve,invoke,h1,h2,h3,e0,Deferred.ofValue,Result.andThen,hf]
theorem exec_c4 {x1 x2 x3 x4:Operand} {v1 v2 v3 v4:Value} (ho:o.op= .call {callee:= .value (.func F),args:= #[x1,x2,x3,x4],argTypes:=ts}) (h1:a.eval x1=v1) (h2:a.eval x2=v2) (h3:a.eval x3=v3) (h4:a.eval x4=v4) (hf:(callFunc F #[v1,v2,v3,v4]).run P w= .ok (.enter F #[v1,v2,v3,v4]) w:=by go_simp):(execOp a.eval o).run P w= .ok (.enter F #[v1,v2,v3,v4]) w:=by
 have e0:a.eval (.func F)= .func (.func F) #[] #[]:=rfl
 unfold execOp;simp [ho,resolve,invoke,h1,h2,h3,h4,e0,Deferred.ofValue,Result.andThen,hf]
theorem zu1 {L:List (Nat × Value)} {R:Result Next} {i:Nat} {v:Value} (h1:(putsR a L).eval (.tmp i)=v) (h:∀b:Act,b.tmps.getD i undef=v→(execOp b.eval o).run P w=R):(execOp (putsR a L).eval o).run P w=R:=h _ h1
theorem exec_not {t:TypeId} {x:Operand} {b:Bool} (ho:o.op= .unOp .not t x) (hx:a.eval x= .bool b):(execOp a.eval o).run P w= .ok (.value (.bool (!b))) w:=by
 unfold execOp;simp only [ho,hx];go_simp
theorem exec_pickT {c x y:Operand} {v:Value} (ho:o.op= .pick c x y) (hc:a.eval c= .bool true) (hx:a.eval x=v):(execOp a.eval o).run P w= .ok (.value v) w:=by
 unfold execOp;simp only [ho,hc,hx];go_simp
theorem exec_pickF {c x y:Operand} {v:Value} (ho:o.op= .pick c x y) (hc:a.eval c= .bool false) (hy:a.eval y=v):(execOp a.eval o).run P w= .ok (.value v) w:=by
 unfold execOp;simp only [ho,hc,hy];go_simp
end
section
variable {P:Program} {md:Region.Mode} {ops:Array Oper} {Q:Exit→Act→World→Prop} {S:World→Prop} {fuel:Nat} {listed:Array Bool} {a:Act} {w w2:World} {L:List (Nat × Value)} {o:Oper} {d:Nat} {v:Value}
theorem y0 {id n:Nat} {rep:Array Bool} (S:World→Prop) (hS:S w.drew) (h:S w.drew→YL P .any ops Q S n rep a [] w.drew) (hn:ops.size=n:=by rfl) (hr:Array.replicate n false=rep:=by rfl) (hm:P.follows .mixedOrders=true:=by kernel_rfl):(Code.region id ops true).wp P Q a w :=
 wp_region_noPanic (wp_region_held_drew hm hS (fun q=>by rw [hn,hr];exact (h q).out))
theorem x0 {id n:Nat} {rep:Array Bool} (m:Nat) (S:World→Prop) (hS:S w.drew) (h:S w.drew→XL P .any ops Q S m n rep a [] w.drew) (hn:ops.size=n:=by rfl) (hr:Array.replicate n false=rep:=by rfl) (hm:P.follows .mixedOrders=true:=by kernel_rfl):(Code.region id ops true).wp P Q a w :=
 wp_region_noPanic (wp_region_E m hm hS (fun q=>by rw [hn,hr];exact (h q).out))
theorem yv (i:Nat) (hi:ops[i]? =some o) (hw:Region.wanted o (yielded ops (putsR a L).tmps)=true) (hr:∀w1,S w1→(execOp (putsR a L).eval o).run P w1= .ok (.value v) w1) (hS:S w) (h:YL P md ops Q S fuel (listed.setIfInBounds i true) a ((d,v)::L) w)
 (hd:o.dst=some d:=by rfl) (hs:Region.noSelect ops=true:=by kernel_rfl) (hf:Region.free md ops listed i=true:=by kernel_rfl) (hy:(Region.ready md ops listed).contains i=true:=by kernel_rfl):YL P md ops Q S (fuel+1) listed a L w :=
 ⟨wpAnyH_take hi hs hf hy (fun _ _ _ h=>h) (Or.inl ⟨hw,hr⟩) hS (by rw [hd];exact h.out)⟩
theorem yn (i:Nat) (hi:ops[i]? =some o) (hw:Region.wanted o (yielded ops (putsR a L).tmps)=false) (hS:S w) (h:YL P md ops Q S fuel (listed.setIfInBounds i true) a ((d,undef)::L) w)
 (hd:o.dst=some d:=by rfl) (hs:Region.noSelect ops=true:=by kernel_rfl) (hf:Region.free md ops listed i=true:=by kernel_rfl) (hy:(Region.ready md ops listed).contains i=true:=by kernel_rfl):YL P md ops Q S (fuel+1) listed a L w :=
 ⟨wpAnyH_take (v:=undef) hi hs hf hy (fun _ _ _ h=>h) (Or.inr ⟨hw,rfl⟩) hS (by rw [hd];exact h.out)⟩
theorem yc (i:Nat) (hi:ops[i]? =some o) {F:Nat} {vs:Array Value} {R:Ending→World→Prop} (hw:Region.wanted o (yielded ops (putsR a L).tmps)=true) (hr:(execOp (putsR a L).eval o).run P w= .ok (.enter F vs) w) (hC:Calls P F vs w R) (h:∀e w',R e w'→∃v,e= .returned v∧S w'∧(S w'→YL P md ops Q S fuel (listed.setIfInBounds i true) a ((d,v)::L) w'))
 (hd:o.dst=some d:=by rfl) (hy:Region.ready md ops listed=[i]:=by kernel_rfl):YL P md ops Q S (fuel+1) listed a L w :=
 ⟨wpAnyH_ready hy (by simp) (AllReadyH.cons hi (fun K hK=>by
  rw [if_pos hw]
  unfold Oper.wp
  rw [hr,Oper.upon_enter]
  refine hC.mono ?_
  intro e w' hp
  obtain ⟨v,rfl,hs,hh⟩:=h e w' hp
  exact hK.out _ _ hs (fun q=>by rw [hd];exact (hh q).out)) AllReadyH.nil)⟩
theorem yr (i:Nat) (hi:ops[i]? =some o) (hw:Region.wanted o (yielded ops (putsR a L).tmps)=true) (hr:(execOp (putsR a L).eval o).run P w= .ok (.value v) w2) (hs:S w2) (h:S w2→YL P md ops Q S fuel (listed.setIfInBounds i true) a ((d,v)::L) w2)
 (hd:o.dst=some d:=by rfl) (hy:Region.ready md ops listed=[i]:=by kernel_rfl):YL P md ops Q S (fuel+1) listed a L w :=
 ⟨wpAnyH_ready hy (by simp) (AllReadyH.cons hi (fun K hK=>by
  rw [if_pos hw]
  unfold Oper.wp
  rw [hr]
  exact hK.out _ _ hs (fun q=>by rw [hd];exact (h q).out)) AllReadyH.nil)⟩
theorem ys (i:Nat) (hi:ops[i]? =some o) (hw:Region.wanted o (yielded ops (putsR a L).tmps)=true) (hr:(execOp (putsR a L).eval o).run P w= .ok .skip w2) (hs:S w2) (h:S w2→YL P md ops Q S fuel (listed.setIfInBounds i true) a L w2)
 (hd:o.dst=none:=by rfl) (hy:Region.ready md ops listed=[i]:=by kernel_rfl):YL P md ops Q S (fuel+1) listed a L w :=
 ⟨wpAnyH_ready hy (by simp) (AllReadyH.cons hi (fun K hK=>by
  rw [if_pos hw]
  unfold Oper.wp
  rw [hr]
  exact hK.out _ _ hs (fun q=>by rw [hd];exact (h q).out)) AllReadyH.nil)⟩
theorem ye {a':Act} (e:putsR a L=a') (h:Q .normal a' w) (hy:Region.ready md ops listed=[]:=by kernel_rfl):YL P md ops Q S fuel listed a L w:=⟨wpAnyH_done hy (NoPanic.normal (by rw [e];exact h)) _⟩
variable {m:Nat}
theorem xv (i:Nat) (hi:ops[i]? =some o) (hw:Region.wanted o (yielded ops (putsR a L).tmps)=true) (hr:∀w1,S w1→(execOp (putsR a L).eval o).run P w1= .ok (.value v) w1) (hS:S w) (h:XL P md ops Q S m fuel (listed.setIfInBounds i true) a ((d,v)::L) w)
 (hd:o.dst=some d:=by rfl) (hs:Region.noSelect ops=true:=by kernel_rfl) (hf:Region.free md ops listed i=true:=by kernel_rfl) (hy:(Region.ready md ops listed).contains i=true:=by kernel_rfl) (ht:waitsB md ops listed ops.size i m=true:=by kernel_rfl):XL P md ops Q S m (fuel+1) listed a L w :=
 ⟨wpAnyE_take ops.size hi hs hf hy ht (fun _ _ _ h=>h) (Or.inl ⟨hw,hr⟩) hS (by rw [hd];exact h.out)⟩
theorem xc (i:Nat) (hi:ops[i]? =some o) {F:Nat} {vs:Array Value} {R:Ending→World→Prop} (hw:Region.wanted o (yielded ops (putsR a L).tmps)=true) (hr:(execOp (putsR a L).eval o).run P w= .ok (.enter F vs) w) (hC:Calls P F vs w R) (h:∀e w',R e w'→∃v,e= .returned v∧(i≠m→S w')∧((i≠m→S w')→XL P md ops Q S m fuel (listed.setIfInBounds i true) a ((d,v)::L) w'))
 (hd:o.dst=some d:=by rfl) (hy:Region.ready md ops listed=[i]:=by kernel_rfl):XL P md ops Q S m (fuel+1) listed a L w :=
 ⟨wpAnyE_one hy hi (fun K hK=>by
  rw [if_pos hw]
  unfold Oper.wp
  rw [hr,Oper.upon_enter]
  refine hC.mono ?_
  intro e w' hp
  obtain ⟨v,rfl,hs,hh⟩:=h e w' hp
  exact hK.out _ _ hs (fun q=>by rw [hd];exact (hh q).out))⟩
theorem xr (i:Nat) (hi:ops[i]? =some o) (hw:Region.wanted o (yielded ops (putsR a L).tmps)=true) (hr:(execOp (putsR a L).eval o).run P w= .ok (.value v) w2) (hs:i≠m→S w2) (h:(i≠m→S w2)→XL P md ops Q S m fuel (listed.setIfInBounds i true) a ((d,v)::L) w2)
 (hd:o.dst=some d:=by rfl) (hy:Region.ready md ops listed=[i]:=by kernel_rfl):XL P md ops Q S m (fuel+1) listed a L w :=
 ⟨wpAnyE_one hy hi (fun K hK=>by
  rw [if_pos hw]
  unfold Oper.wp
  rw [hr]
  exact hK.out _ _ hs (fun q=>by rw [hd];exact (h q).out))⟩
theorem xs (i:Nat) (hi:ops[i]? =some o) (hw:Region.wanted o (yielded ops (putsR a L).tmps)=true) (hr:(execOp (putsR a L).eval o).run P w= .ok .skip w2) (hs:i≠m→S w2) (h:(i≠m→S w2)→XL P md ops Q S m fuel (listed.setIfInBounds i true) a L w2)
 (hd:o.dst=none:=by rfl) (hy:Region.ready md ops listed=[i]:=by kernel_rfl):XL P md ops Q S m (fuel+1) listed a L w :=
 ⟨wpAnyE_one hy hi (fun K hK=>by
  rw [if_pos hw]
  unfold Oper.wp
  rw [hr]
  exact hK.out _ _ hs (fun q=>by rw [hd];exact (h q).out))⟩
theorem xd (i:Nat) (hi:ops[i]? =some o) (hw:Region.wanted o (yielded ops (putsR a L).tmps)=true) (hr:(execOp (putsR a L).eval o).run P w= .ok (.value v) w2) (hs:i≠m→S w2) (h:(i≠m→S w2)→XL P md ops Q S m fuel (listed.setIfInBounds i true) a L w2)
 (hd:o.dst=none:=by rfl) (hy:Region.ready md ops listed=[i]:=by kernel_rfl):XL P md ops Q S m (fuel+1) listed a L w :=
 ⟨wpAnyE_one hy hi (fun K hK=>by
  rw [if_pos hw]
  unfold Oper.wp
  rw [hr]
  exact hK.out _ _ hs (fun q=>by rw [hd];exact (h q).out))⟩
theorem xe {a':Act} (e:putsR a L=a') (h:Q .normal a' w) (hy:Region.ready md ops listed=[]:=by kernel_rfl):XL P md ops Q S m fuel listed a L w:=⟨wpAnyE_done hy (NoPanic.normal (by rw [e];exact h)) _⟩
end
end Go.Proofs.YtifendlpeebofaaGreatDoor
namespace Go.Proofs.YtifendlpeebofaaGreatDoor
open Go.ChangeShapes Go.WideShapes Go.ChangeAt Go.RowKit
theorem ownKb:ownKnob Tryz.prog.godebug=none:=by kernel_rfl
theorem laidOut:laidOutB Tryz.prog=true:=by kernel_rfl
end Go.Proofs.YtifendlpeebofaaGreatDoor
namespace Go.Proofs.YtifendlpeebofaaGreatDoor
open Go.RowKit
def IdsAt (w:World) (a:Option Addr) (L:List IdK):Prop:=L=[]∨∃b off,a=some ⟨b,off,none⟩∧b<w.heap.size∧∀i h,L[i]? =some h→w.rangeAt b (off+33*i) (IdK.c h)
def flatI (L:List IdK):List Value:=L.flatMap IdK.c
theorem flatI_len:∀{L:List IdK},(∀h∈L,h.ok)→(flatI L).length=33*L.length
 |[],_=>rfl
 |x::L,ok=>by
  have:=flatI_len (L:=L) (fun h hh=>ok h (by simp [hh]))
  simp only [flatI,List.flatMap_cons,List.length_append,IdK.len (ok x (by simp)),List.length_cons] at this ⊢
  omega
theorem flatI_get:∀{L:List IdK},(∀h∈L,h.ok)→∀{i:Nat} {h:IdK},L[i]? =some h→∀{j:Nat} {v:Value},(IdK.c h)[j]? =some v→(flatI L)[33*i+j]? =some v
 |x::L,ok,0,h,hi,j,v,hj=>by
  simp only [List.getElem?_cons_zero,Option.some.injEq] at hi
  subst hi
  have hl:=(List.getElem?_eq_some_iff.1 hj).1
  rw [Nat.mul_zero,Nat.zero_add,flatI,List.flatMap_cons,List.getElem?_append_left hl]
  exact hj
 |x::L,ok,i+1,h,hi,j,v,hj=>by
  simp only [List.getElem?_cons_succ] at hi
  have:=flatI_get (L:=L) (fun h hh=>ok h (by simp [hh])) hi hj
  have l:=IdK.len (ok x (by simp))
  rw [flatI,List.flatMap_cons,List.getElem?_append_right (by omega),l,show 33*(i+1)+j-33=33*i+j by omega]
  exact this
 |[],_,i,h,hi,_,_,_=>by simp at hi
theorem flatI_inv:∀{L:List IdK},(∀h∈L,h.ok)→∀{p:Nat} {u:Value},(flatI L)[p]? =some u→∃i h j,p=33*i+j∧L[i]? =some h∧(IdK.c h)[j]? =some u
 |[],_,p,u,hp=>by simp [flatI] at hp
 |x::L,ok,p,u,hp=>by
  have l:=IdK.len (ok x (by simp))
  rw [flatI,List.flatMap_cons,List.getElem?_append] at hp
  by_cases h:p<(IdK.c x).length
  ·rw [if_pos h] at hp
   exact ⟨0,x,p,by omega,rfl,hp⟩
  ·rw [if_neg h] at hp
   obtain ⟨i,y,j,e,hi,hj⟩:=flatI_inv (L:=L) (fun h hh=>ok h (by simp [hh])) hp
   exact ⟨i+1,y,j,by omega,hi,hj⟩
theorem flatI_one (L:List IdK):∀u∈flatI L,u.oneCell'=true:=by
 intro u hu
 simp only [flatI,List.mem_flatMap] at hu
 obtain ⟨h,_,hv⟩:=hu
 exact IdK.one h u hv
theorem flatI_app (L M:List IdK):flatI (L++M)=flatI L++flatI M:=by simp [flatI]
def OwnI (w:World) (base:Nat) (v:Value) (L:List IdK):Prop:=w.ownsRow base 36 33 v L.length (flatI L)
theorem OwnI.below {w w':World} {base:Nat} {v:Value} {L:List IdK} (h:OwnI w base v L) (hb:Below w.heap.size w w'):OwnI w' base v L:=by
 refine ⟨h.1, ?_⟩
 rcases h.2 with hn|⟨g,cap,cur,rfl,hbg,hg,rest⟩
 ·exact .inl hn
 ·exact .inr ⟨g,cap,cur,rfl,hbg,by rw [hb.block g (Array.getElem?_eq_some_iff.1 hg).1];exact hg,rest⟩
theorem OwnI.keep {w w':World} {base:Nat} {v:Value} {L:List IdK} (h:OwnI w base v L) (hk:∀k,v.ownBlock=some k→w'.heap[k]? =w.heap[k]?):OwnI w' base v L:=by
 refine ⟨h.1, ?_⟩
 rcases h.2 with hn|⟨g,cap,cur,rfl,hbg,hg,rest⟩
 ·exact .inl hn
 ·exact .inr ⟨g,cap,cur,rfl,hbg,by rw [hk g rfl];exact hg,rest⟩
theorem OwnI.open {w:World} {base:Nat} {v:Value} {L:List IdK} (h:OwnI w base v L) (ok:∀h∈L,h.ok):∃a c,v= .slice a L.length c∧IdsAt w a L∧L.length≤c:=by
 rcases h.2 with ⟨rfl,hn⟩|⟨g,cap,cur,rfl,hbg,hg,hnc,hcm,hcs,htake⟩
 ·obtain rfl:L=[]:=List.eq_nil_of_length_eq_zero hn
  exact ⟨none,0,rfl, .inl rfl,Nat.le_refl _⟩
 ·refine ⟨some ⟨g,0,none⟩,cap,rfl, .inr ⟨g,0,rfl,(Array.getElem?_eq_some_iff.1 hg).1,fun i x hx j u hj=> ?_⟩,hnc⟩
  have e:=flatI_get ok hx hj
  rw [Nat.zero_add,cell_of_row w g _ cur 36 (0,0) hg]
  rw [←htake,List.getElem?_take] at e
  split at e
  ·simpa using e
  ·cases e
theorem infoI:(Tryz.prog.info? 36).map (fun i=>(i.zero,i.size,i.bytes))=some (some (.agg (IdK.c zId).toArray),33,40):=by kernel_rfl
theorem zcellsI:(Value.agg (IdK.c zId).toArray).cells.size=33:=by
 show (IdK.c zId).toArray.size=33
 rw [List.size_toArray,IdK.len zId_ok]
theorem run_appI (w:World) (base:Nat) (v:Value) (L:List IdK) (a:Option Addr) (M:List IdK) (c:Nat) (hown:OwnI w base v L) (hb:IdsAt w a M) (ok:∀h∈M,h.ok) (h:L.length+M.length≤5600000000000) (hbase:base≤w.heap.size) :
 ∃v' w',(Builtin.append_ #[56,56] 56 #[v, .slice a M.length c]).run Tryz.prog w= .ok v' w'∧OwnI w' base v' (L++M)∧w.grownBy w' v.ownBlock∧(v'.ownBlock=v.ownBlock∨v'.ownBlock=some w.heap.size):=by
 obtain ⟨i,hi,hz,hs,hby⟩:=info_parts infoI
 cases a with
 |some ad =>
  have hnews:∀j u,(flatI M)[j]? =some u→w.cell? (ad.add j)=some u:=fun j u hj=>by
   rcases hb with rfl|⟨b,off,e,_,hc⟩
   ·simp [flatI] at hj
   ·cases e
    obtain ⟨k,x,r,rfl,hx,hr⟩:=flatI_inv ok hj
    rw [Addr.add_mid, ←Nat.add_assoc]
    exact hc k x hx r u hr
  obtain ⟨v',w',hr,h2,h3,h5⟩:=app_at (P:=Tryz.prog) w base 56 56 36 i _ 33 40 Tryz.underlying56 hi hz hs hby zcellsI (by decide) v L.length (flatI L) hown ad M.length c (flatI M) (by rw [flatI_len ok,Nat.mul_comm]) hnews (flatI_one M) (by unfold maxLen;omega) (by omega) hbase
  refine ⟨v',w',hr, ?_,h3,h5⟩
  unfold OwnI
  rw [List.length_append,flatI_app]
  exact h2
 |none =>
  obtain rfl:M=[]:=by
   rcases hb with rfl|⟨b,off,e,_⟩
   ·rfl
   ·cases e
  rcases hown.2 with ⟨rfl,hn⟩|⟨g,cap,cur,rfl,hbg,hg,hnc,rest⟩
  ·refine ⟨.slice none 0 0,w, ?_,by rw [List.append_nil];exact hown,⟨rfl,rfl,rfl,Nat.le_refl _,fun _ _ _=>rfl⟩, .inl rfl⟩
   simp [Builtin.append_,run_underlying Tryz.underlying56,sizeOf,typeInfo,hi,Builtin.lenOf,Builtin.firstCells,loadCells,loadCellsFrom]
  ·refine ⟨.slice (some ⟨g,0,none⟩) L.length cap,w, ?_,by rw [List.append_nil];exact hown,⟨rfl,rfl,rfl,Nat.le_refl _,fun _ _ _=>rfl⟩, .inl rfl⟩
   simp [Builtin.append_,run_underlying Tryz.underlying56,sizeOf,typeInfo,hi,Builtin.lenOf,Builtin.firstCells,hnc,storeCells]
theorem ids_lit (w:World) (h:IdK) (t:TypeId):IdsAt (w.alloc (.cells (IdK.c h).toArray t)) (some ⟨w.heap.size,0,none⟩) [h] :=
 .inr ⟨w.heap.size,0,rfl,by simp,fun i x hx j v hj=>by
  have hl:=(List.getElem?_eq_some_iff.1 hx).1
  obtain rfl:i=0:=by simp at hl;omega
  simp at hx
  subst hx
  rw [Nat.mul_zero,Nat.add_zero,Nat.zero_add]
  exact cell_new w (IdK.c h) t j v hj⟩
theorem run_bsI (h:IdK) (ok:h.ok) (w:World):(Instr.buildSlice 56 1 #[(0, .agg (IdK.c h).toArray)]).run Tryz.prog w= .ok (.slice (some ⟨w.heap.size,0,none⟩) 1 1) (w.alloc (.cells (IdK.c h).toArray 36)):=by
 obtain ⟨ie,hi,hz,hs,hby⟩:=info_parts infoI
 refine run_buildSlice w 56 36 1 _ (IdK.c h).toArray ie _ Tryz.underlying56 hi hz (by rw [hs];decide) (by rw [hs];decide) ?_
 rw [hs]
 have:=Go.Great.fill_whole (s:=33) (by decide) [.agg (IdK.c h).toArray] ((Array.range (1*33)).map ((Value.agg (IdK.c zId).toArray).cells[· % (Value.agg (IdK.c zId).toArray).cells.size]!)) (by intro v hv;simp at hv;subst hv;show (IdK.c h).toArray.size=33;rw [List.size_toArray,IdK.len ok]) (by simp)
 simpa [Value.cells] using this
section
variable {ops:Array Oper} {rest:List Oper} {o:Oper} {a:Act} {w:World} {Q:Exit→Act→World→Prop} {K:Act→World→Prop} {E:Prop}
end
structure RowT (κ:Type) where
 c:κ→List Value
 ok:κ→Prop
 k:Nat
 bytes:Nat
 e:TypeId
 t:TypeId
 z:κ
structure RowT.Is {κ:Type} (R:RowT κ):Prop where
 zok:R.ok R.z
 len:∀x,R.ok x→(R.c x).length=R.k
 one:∀x,∀v∈R.c x,v.oneCell'=true
 und:Tryz.prog.underlying R.t=some (.slice R.e)
 info:(Tryz.prog.info? R.e).map (fun i=>(i.zero,i.size,i.bytes))=some (some (.agg (R.c R.z).toArray),R.k,R.bytes)
 row:∃d,Tryz.prog.underlying R.e=some d∧d.isRow=true
 kpos:0<R.k
 kmax:R.k≤100000
section
variable {κ:Type} {R:RowT κ}
def RowT.At (R:RowT κ) (w:World) (a:Option Addr) (L:List κ):Prop:=L=[]∨∃b off,a=some ⟨b,off,none⟩∧b<w.heap.size∧∀i h,L[i]? =some h→w.rangeAt b (off+R.k*i) (R.c h)
theorem RowT.At.keepB {w w':World} {a:Option Addr} {L:List κ} (h:R.At w a L) (hs:w.heap.size≤w'.heap.size) (hk:∀b o,a=some ⟨b,o,none⟩→b<w.heap.size→w'.heap[b]? =w.heap[b]?):R.At w' a L:=by
 rcases h with h|⟨b,off,e,hl,hr⟩
 ·exact .inl h
 ·exact .inr ⟨b,off,e,Nat.lt_of_lt_of_le hl hs,fun i x hx=>rangeAt_keep (hr i x hx) (hk b off e hl)⟩
theorem RowT.At.below {w w':World} {a:Option Addr} {L:List κ} (h:R.At w a L) (hb:Below w.heap.size w w'):R.At w' a L:=h.keepB hb.size (fun b _ _ hl=>hb.block b hl)
theorem RowT.At.get {w:World} {a:Option Addr} {L:List κ} (h:R.At w a L) {i:Nat} (hi:i<L.length):∃b o,a=some ⟨b,o,none⟩∧b<w.heap.size∧w.rangeAt b (o+R.k*i) (R.c L[i]):=by
 rcases h with h|⟨b,off,e,hl,hr⟩
 ·subst h;cases hi
 ·exact ⟨b,off,e,hl,hr i _ (List.getElem?_eq_getElem hi)⟩
def RowT.flat (R:RowT κ) (L:List κ):List Value:=L.flatMap R.c
theorem RowT.flat_app (L M:List κ):R.flat (L++M)=R.flat L++R.flat M:=by simp [RowT.flat]
theorem RowT.flat_cons (x:κ) (L:List κ):R.flat (x::L)=R.c x++R.flat L:=rfl
theorem RowT.flat_len (I:R.Is):∀{L:List κ},(∀h∈L,R.ok h)→(R.flat L).length=R.k*L.length
 |[],_=>rfl
 |x::L,ok=>by
  have:=RowT.flat_len I (L:=L) (fun h hh=>ok h (by simp [hh]))
  rw [RowT.flat_cons,List.length_append,I.len x (ok x (by simp)),this,List.length_cons,Nat.mul_succ,Nat.add_comm]
theorem RowT.flat_get (I:R.Is):∀{L:List κ},(∀h∈L,R.ok h)→∀{i:Nat} {h:κ},L[i]? =some h→∀{j:Nat} {v:Value},(R.c h)[j]? =some v→(R.flat L)[R.k*i+j]? =some v
 |x::L,ok,0,h,hi,j,v,hj=>by
  simp only [List.getElem?_cons_zero,Option.some.injEq] at hi
  subst hi
  have hl:=(List.getElem?_eq_some_iff.1 hj).1
  rw [Nat.mul_zero,Nat.zero_add,RowT.flat_cons,List.getElem?_append_left hl]
  exact hj
 |x::L,ok,i+1,h,hi,j,v,hj=>by
  simp only [List.getElem?_cons_succ] at hi
  have:=RowT.flat_get I (L:=L) (fun h hh=>ok h (by simp [hh])) hi hj
  have l:=I.len x (ok x (by simp))
  rw [RowT.flat_cons,List.getElem?_append_right (by rw [l,Nat.mul_succ];omega),l,show R.k*(i+1)+j-R.k=R.k*i+j by rw [Nat.mul_succ];omega]
  exact this
 |[],_,i,h,hi,_,_,_=>by simp at hi
theorem RowT.flat_inv (I:R.Is):∀{L:List κ},(∀h∈L,R.ok h)→∀{p:Nat} {u:Value},(R.flat L)[p]? =some u→∃i h j,p=R.k*i+j∧L[i]? =some h∧(R.c h)[j]? =some u
 |[],_,p,u,hp=>by simp [RowT.flat] at hp
 |x::L,ok,p,u,hp=>by
  have l:=I.len x (ok x (by simp))
  rw [RowT.flat_cons,List.getElem?_append] at hp
  by_cases h:p<(R.c x).length
  ·rw [if_pos h] at hp
   exact ⟨0,x,p,by simp,rfl,hp⟩
  ·rw [if_neg h] at hp
   obtain ⟨i,y,j,e,hi,hj⟩:=RowT.flat_inv I (L:=L) (fun h hh=>ok h (by simp [hh])) hp
   exact ⟨i+1,y,j,by rw [Nat.mul_succ];omega,hi,hj⟩
theorem RowT.flat_one (I:R.Is) (L:List κ):∀u∈R.flat L,u.oneCell'=true:=by
 intro u hu
 simp only [RowT.flat,List.mem_flatMap] at hu
 obtain ⟨h,_,hv⟩:=hu
 exact I.one h u hv
def RowT.Own (R:RowT κ) (w:World) (base:Nat) (v:Value) (L:List κ):Prop:=w.ownsRow base R.e R.k v L.length (R.flat L)
theorem RowT.Own.keep {w w':World} {base:Nat} {v:Value} {L:List κ} (h:R.Own w base v L) (hk:∀k,v.ownBlock=some k→w'.heap[k]? =w.heap[k]?):R.Own w' base v L:=by
 refine ⟨h.1, ?_⟩
 rcases h.2 with hn|⟨g,cap,cur,rfl,hbg,hg,rest⟩
 ·exact .inl hn
 ·exact .inr ⟨g,cap,cur,rfl,hbg,by rw [hk g rfl];exact hg,rest⟩
theorem RowT.Own.cells {w:World} {base:Nat} {v:Value} {L:List κ} (h:R.Own w base v L) {k:Nat} (hk:v.ownBlock=some k):base≤k∧∃c,w.heap[k]? =some (.cells c R.e (0,0)):=by
 rcases h.2 with ⟨rfl,_⟩|⟨g,cap,cur,rfl,hb,hg,_⟩
 ·cases hk
 ·simp only [Value.ownBlock,Option.some.injEq] at hk
  subst hk
  exact ⟨hb,_,hg⟩
theorem RowT.Own.lt {w:World} {base:Nat} {v:Value} {L:List κ} (h:R.Own w base v L) {k:Nat} (hk:v.ownBlock=some k):k<w.heap.size:=by
 obtain ⟨_,c,e⟩:=h.cells hk
 exact (Array.getElem?_eq_some_iff.1 e).1
theorem RowT.Own.below {w w':World} {base:Nat} {v:Value} {L:List κ} (h:R.Own w base v L) (hb:Below w.heap.size w w'):R.Own w' base v L:=h.keep (fun k hk=>hb.block k (h.lt hk))
theorem RowT.Own.open {w:World} {base:Nat} {v:Value} {L:List κ} (I:R.Is) (h:R.Own w base v L) (ok:∀h∈L,R.ok h):∃a c,v= .slice a L.length c∧R.At w a L∧L.length≤c∧(∀b o,a=some ⟨b,o,none⟩→v.ownBlock=some b):=by
 rcases h.2 with ⟨rfl,hn⟩|⟨g,cap,cur,rfl,hbg,hg,hnc,hcm,hcs,htake⟩
 ·obtain rfl:L=[]:=List.eq_nil_of_length_eq_zero hn
  exact ⟨none,0,rfl, .inl rfl,Nat.le_refl _,fun b o e=>by cases e⟩
 ·refine ⟨some ⟨g,0,none⟩,cap,rfl, .inr ⟨g,0,rfl,(Array.getElem?_eq_some_iff.1 hg).1,fun i x hx j u hj=> ?_⟩,hnc,fun b o e=>by cases e;rfl⟩
  have e:=RowT.flat_get I ok hx hj
  rw [Nat.zero_add,cell_of_row w g _ cur R.e (0,0) hg]
  rw [←htake,List.getElem?_take] at e
  split at e
  ·simpa using e
  ·cases e
theorem RowT.own_nil (R:RowT κ) (w:World) (base:Nat):R.Own w base (.slice none 0 0) []:=⟨by simp [RowT.flat], .inl ⟨rfl,rfl⟩⟩
theorem RowT.Own.mono {w:World} {base b2:Nat} {v:Value} {L:List κ} (h:R.Own w base v L) (hb:b2≤base):R.Own w b2 v L:=by
 refine ⟨h.1, ?_⟩
 rcases h.2 with hn|⟨g,cap,cur,rfl,hbg,rest⟩
 ·exact .inl hn
 ·exact .inr ⟨g,cap,cur,rfl,Nat.le_trans hb hbg,rest⟩
theorem RowT.run_app (I:R.Is) (w:World) (base:Nat) (v:Value) (L:List κ) (a:Option Addr) (M:List κ) (c:Nat) (hown:R.Own w base v L) (hb:R.At w a M) (ok:∀h∈M,R.ok h) (h63:L.length+M.length≤maxLen) (h:((L.length+M.length)+(L.length+M.length) / 4+192)*R.bytes≤281474976710656) (hbase:base≤w.heap.size) :
 ∃v' w',(Builtin.append_ #[R.t,R.t] R.t #[v, .slice a M.length c]).run Tryz.prog w= .ok v' w'∧R.Own w' base v' (L++M)∧w.grownBy w' v.ownBlock∧(v'.ownBlock=v.ownBlock∨v'.ownBlock=some w.heap.size):=by
 obtain ⟨i,hi,hz,hs,hby⟩:=info_parts I.info
 have zc:(Value.agg (R.c R.z).toArray).cells.size=R.k:=by
  show (R.c R.z).toArray.size=R.k
  rw [List.size_toArray,I.len _ I.zok]
 cases a with
 |some ad =>
  have hnews:∀j u,(R.flat M)[j]? =some u→w.cell? (ad.add j)=some u:=fun j u hj=>by
   rcases hb with rfl|⟨b,off,e,_,hc⟩
   ·simp [RowT.flat] at hj
   ·cases e
    obtain ⟨k,x,r,rfl,hx,hr⟩:=RowT.flat_inv I ok hj
    rw [Addr.add_mid, ←Nat.add_assoc]
    exact hc k x hx r u hr
  obtain ⟨v',w',hr,h2,h3,h5⟩:=app_at (P:=Tryz.prog) w base R.t R.t R.e i _ R.k R.bytes I.und hi hz hs hby zc I.kpos v L.length (R.flat L) hown ad M.length c (R.flat M) (by rw [RowT.flat_len I ok,Nat.mul_comm]) hnews (RowT.flat_one I M) h63 h hbase
  refine ⟨v',w',hr, ?_,h3,h5⟩
  unfold RowT.Own
  rw [List.length_append,RowT.flat_app]
  exact h2
 |none =>
  obtain rfl:M=[]:=by
   rcases hb with rfl|⟨b,off,e,_⟩
   ·rfl
   ·cases e
  rcases hown.2 with ⟨rfl,hn⟩|⟨g,cap,cur,rfl,hbg,hg,hnc,rest⟩
  ·refine ⟨.slice none 0 0,w, ?_,by rw [List.append_nil];exact hown,⟨rfl,rfl,rfl,Nat.le_refl _,fun _ _ _=>rfl⟩, .inl rfl⟩
   simp [Builtin.append_,run_underlying I.und,sizeOf,typeInfo,hi,Builtin.lenOf,Builtin.firstCells,loadCells,loadCellsFrom]
  ·refine ⟨.slice (some ⟨g,0,none⟩) L.length cap,w, ?_,by rw [List.append_nil];exact hown,⟨rfl,rfl,rfl,Nat.le_refl _,fun _ _ _=>rfl⟩, .inl rfl⟩
   simp [Builtin.append_,run_underlying I.und,sizeOf,typeInfo,hi,Builtin.lenOf,Builtin.firstCells,hnc,storeCells]
theorem RowT.lit (R:RowT κ) (w:World) (h:κ) (t:TypeId):R.At (w.alloc (.cells (R.c h).toArray t)) (some ⟨w.heap.size,0,none⟩) [h] :=
 .inr ⟨w.heap.size,0,rfl,by simp,fun i x hx j v hj=>by
  have hl:=(List.getElem?_eq_some_iff.1 hx).1
  obtain rfl:i=0:=by simp at hl;omega
  simp at hx
  subst hx
  rw [Nat.mul_zero,Nat.add_zero,Nat.zero_add]
  exact cell_new w (R.c h) t j v hj⟩
theorem RowT.run_bs (I:R.Is) (h:κ) (ok:R.ok h) (w:World):(Instr.buildSlice R.t 1 #[(0, .agg (R.c h).toArray)]).run Tryz.prog w= .ok (.slice (some ⟨w.heap.size,0,none⟩) 1 1) (w.alloc (.cells (R.c h).toArray R.e)):=by
 obtain ⟨ie,hi,hz,hs,hby⟩:=info_parts I.info
 refine run_buildSlice w R.t R.e 1 _ (R.c h).toArray ie _ I.und hi hz (by rw [hs];have:=I.kmax;have:=I.kpos;omega) (by rw [hs];have:=I.kmax;have:=I.kpos;omega) ?_
 rw [hs]
 have:=Go.Great.fill_whole (s:=R.k) I.kpos [.agg (R.c h).toArray] ((Array.range (1*R.k)).map ((Value.agg (R.c R.z).toArray).cells[· % (Value.agg (R.c R.z).toArray).cells.size]!)) (by intro v hv;simp at hv;subst hv;show (R.c h).toArray.size=R.k;rw [List.size_toArray,I.len _ ok]) (by simp)
 simpa [Value.cells] using this
theorem RowT.run_push (I:R.Is) (w:World) (base:Nat) (v:Value) (L:List κ) (x:κ) (hown:R.Own w base v L) (ok:R.ok x) (h63:L.length+1≤maxLen) (h:((L.length+1)+(L.length+1) / 4+192)*R.bytes≤281474976710656) (hbase:base≤w.heap.size) :
 ∃sv w1 v' w',(Instr.buildSlice R.t 1 #[(0, .agg (R.c x).toArray)]).run Tryz.prog w= .ok sv w1∧(Builtin.append_ #[R.t,R.t] R.t #[v,sv]).run Tryz.prog w1= .ok v' w'∧R.Own w' base v' (L++[x])∧Below w.heap.size w w1∧w1.heap.size=w.heap.size+1∧w1.grownBy w' v.ownBlock∧(v'.ownBlock=v.ownBlock∨v'.ownBlock=some w1.heap.size):=by
 have b1:Below w.heap.size w (w.alloc (.cells (R.c x).toArray R.e)):=(Below.refl _ _).alloc (Nat.le_refl _) _
 obtain ⟨v',w',e,o,g,q⟩:=RowT.run_app I _ base v L _ [x] 1 (hown.below b1) (RowT.lit R w x R.e) (fun y hy=>by rw [List.mem_singleton.1 hy];exact ok) h63 h (Nat.le_trans hbase b1.size)
 exact ⟨_,_,v',w',RowT.run_bs I x ok w,e,o,b1,by simp,g,q⟩
theorem RowT.sz (I:R.Is):(Tryz.prog.info? R.e).map (·.size)=some R.k:=by
 have:=I.info
 cases q:Tryz.prog.info? R.e with
 |none=>rw [q] at this;cases this
 |some i=>rw [q] at this;simp at this ⊢;exact this.2.1
theorem RowT.ld (I:R.Is) {w:World} {b o:Nat} {x:κ} (hx:R.ok x) (h:w.rangeAt b o (R.c x)):(Instr.loadAt R.e (.pointer (some ⟨b,o,none⟩))).run Tryz.prog w= .ok (.agg (R.c x).toArray) w:=by
 obtain ⟨d,hd,hr⟩:=I.row
 exact run_loadAt_mid (P:=Tryz.prog) w b o R.e (R.c x) d h hd hr (by rw [I.len x hx];exact RowT.sz I)
theorem RowT.take_seg {α:Type} {cur FA y FB x:List α} {N o:Nat} (h:cur.take N=FA++y++FB) (hN:N=FA.length+y.length+FB.length) (ho:FA.length=o) (hx:x.length=y.length):(cur.take o++x++cur.drop (o+x.length)).take N=FA++x++FB:=by
 obtain ⟨R,hR⟩:∃R,cur=FA++y++FB++R:=⟨cur.drop N,by rw [←h,List.take_append_drop]⟩
 subst hR
 have e1:(FA++y++FB++R).take o=FA:=by rw [←ho];simp [List.append_assoc]
 have e2:(FA++y++FB++R).drop (o+x.length)=FB++R:=by
  rw [←ho,hx, ←List.length_append,List.append_assoc (FA++y),List.drop_left]
 rw [e1,e2,hN]
 rw [show FA++x++(FB++R)=(FA++x++FB)++R by simp]
 rw [show FA.length+y.length+FB.length=(FA++x++FB).length by simp [hx];omega]
 exact List.take_left
theorem RowT.own_set (I:R.Is) {w:World} {base:Nat} {v:Value} {L:List κ} (own:R.Own w base v L) (ok:∀x∈L,R.ok x) {i:Nat} (hi:i<L.length) {x:κ} (hx:R.ok x) :
 ∃g cap,v= .slice (some ⟨g,0,none⟩) L.length cap∧g<w.heap.size∧∃w',(Instr.storeAt R.e (.pointer (some ⟨g,R.k*i,none⟩)) (.agg (R.c x).toArray)).run Tryz.prog w= .ok () w'∧R.Own w' base v (L.set i x)∧Tch (fun j=>v.ownBlock=some j) w w'∧w'.heap.size=w.heap.size:=by
 rcases own.2 with ⟨rfl,hn⟩|⟨g,cap,cur,rfl,hbg,hg,hnc,hcm,hcs,htake⟩
 ·omega
 ·have hkn:R.k*i+R.k≤R.k*cap:=by rw [←Nat.mul_succ];exact Nat.mul_le_mul_left _ (by omega)
  refine ⟨g,cap,rfl,(Array.getElem?_eq_some_iff.1 hg).1,w.setRow g (cur.toList.take (R.k*i)++R.c x++cur.toList.drop (R.k*i+(R.c x).length)).toArray, ?_, ?_,setRow_tch w g _,by simp [World.setRow]⟩
  ·have hlen:=I.len x hx
   have hb:R.k*i+R.k≤cur.size:=by rw [hcs,Nat.mul_comm cap];exact hkn
   have h:=run_storeCells_at Tryz.prog g (R.k*i) R.e (R.c x) 0 cur w hg (by rw [hlen];omega) (fun v hv=>I.one x v hv)
   rw [Nat.add_zero] at h
   have hs:=RowT.sz I
   cases hq:Tryz.prog.info? R.e with
   |none=>rw [hq] at hs;simp at hs
   |some ii =>
    rw [hq] at hs
    simp at hs
    have hcz:(R.c x).toArray.size=ii.size:=by simp [hlen,hs]
    simp only [Instr.storeAt,Instr.sureAddr,Sem.run_bind,Sem.run_pure,Result.andThen_ok,storeVar,sizeOf,typeInfo,hq,Value.cells]
    simp [typeInfo,hq,hlen,hs,h]
  ·have hA:∃A y B,L=A++y::B∧A.length=i:=⟨L.take i,L[i],L.drop (i+1),by rw [←List.drop_eq_getElem_cons hi,List.take_append_drop],by simp;omega⟩
   obtain ⟨A,y,B,rfl,hA⟩:=hA
   have okA:∀x∈A,R.ok x:=fun x hx=>ok x (by simp [hx])
   have okB:∀x∈B,R.ok x:=fun x hx=>ok x (by simp [hx])
   have oky:R.ok y:=ok y (by simp)
   have hset:(A++y::B).set i x=A++x::B:=by rw [←hA,List.set_append_right _ _ (Nat.le_refl _)];simp
   rw [hset]
   have hfl:R.flat (A++x::B)=R.flat A++R.c x++R.flat B:=by rw [RowT.flat_app,RowT.flat_cons];simp
   have hfl':R.flat (A++y::B)=R.flat A++R.c y++R.flat B:=by rw [RowT.flat_app,RowT.flat_cons];simp
   rw [hfl'] at htake
   have hlA:=RowT.flat_len I okA
   have hlB:=RowT.flat_len I okB
   have l1:=I.len y oky
   have l2:=I.len x hx
   have hlenx:(A++x::B).length=(A++y::B).length:=by simp
   have hsum:R.k*(A++y::B).length=R.k*A.length+R.k+R.k*B.length:=by
        simp only [List.length_append,List.length_cons,Nat.mul_add,Nat.mul_one];omega
   refine ⟨?_,Or.inr ⟨g,cap,_,by rw [hlenx],hbg,setRow_heap w g cur _ R.e (0,0) hg,by rw [hlenx];exact hnc,hcm, ?_, ?_⟩⟩
   ·rw [hfl,hlenx,Nat.mul_comm,hsum];simp only [List.length_append];omega
   ·rw [←hcs]
    have:cur.toList.length=cur.size:=by simp
    have hb:R.k*i+R.k≤cur.size:=by rw [hcs,Nat.mul_comm cap];exact hkn
    simp only [List.size_toArray,List.length_append,List.length_take,List.length_drop]
    omega
   ·rw [List.toList_toArray,hfl,hlenx]
    refine RowT.take_seg htake ?_ (by rw [hlA,hA]) (by omega)
    rw [Nat.mul_comm,hsum]
    omega
end
section
variable {κ:Type} {R:RowT κ}
def RowT.Lo (R:RowT κ) (w:World) (base:Nat) (v:Value) (L:List κ):Prop :=
 (v= .slice none 0 0∧L=[])∨∃g cap cur,v= .slice (some ⟨g,0,none⟩) L.length cap∧base≤g∧w.heap[g]? =some (.cells cur R.e (0,0))∧L.length≤cap∧cap≤maxLen∧cap*R.k≤cur.size∧cur.toList.take (L.length*R.k)=R.flat L
theorem RowT.Own.lo {w:World} {base:Nat} {v:Value} {L:List κ} (h:R.Own w base v L):R.Lo w base v L:=by
 rcases h.2 with ⟨rfl,hn⟩|⟨g,cap,cur,rfl,hbg,hg,hnc,hcm,hcs,ht⟩
 ·exact .inl ⟨rfl,List.eq_nil_of_length_eq_zero hn⟩
 ·exact .inr ⟨g,cap,cur,rfl,hbg,hg,hnc,hcm,by omega,ht⟩
theorem RowT.lo_nil (R:RowT κ) (w:World) (base:Nat):R.Lo w base (.slice none 0 0) []:= .inl ⟨rfl,rfl⟩
theorem RowT.Lo.keep {w w':World} {base:Nat} {v:Value} {L:List κ} (h:R.Lo w base v L) (hk:∀k,v.ownBlock=some k→w'.heap[k]? =w.heap[k]?):R.Lo w' base v L:=by
 rcases h with hn|⟨g,cap,cur,rfl,hbg,hg,rest⟩
 ·exact .inl hn
 ·exact .inr ⟨g,cap,cur,rfl,hbg,by rw [hk g rfl];exact hg,rest⟩
theorem RowT.Lo.cells {w:World} {base:Nat} {v:Value} {L:List κ} (h:R.Lo w base v L) {k:Nat} (hk:v.ownBlock=some k):base≤k∧∃c,w.heap[k]? =some (.cells c R.e (0,0)):=by
 rcases h with ⟨rfl,_⟩|⟨g,cap,cur,rfl,hb,hg,_⟩
 ·cases hk
 ·simp only [Value.ownBlock,Option.some.injEq] at hk
  subst hk
  exact ⟨hb,_,hg⟩
theorem RowT.Lo.lt {w:World} {base:Nat} {v:Value} {L:List κ} (h:R.Lo w base v L) {k:Nat} (hk:v.ownBlock=some k):k<w.heap.size:=by
 obtain ⟨_,c,e⟩:=h.cells hk
 exact (Array.getElem?_eq_some_iff.1 e).1
theorem RowT.Lo.below {w w':World} {base:Nat} {v:Value} {L:List κ} (h:R.Lo w base v L) (hb:Below w.heap.size w w'):R.Lo w' base v L:=h.keep (fun k hk=>hb.block k (h.lt hk))
theorem RowT.Lo.mono {w:World} {base b2:Nat} {v:Value} {L:List κ} (h:R.Lo w base v L) (hb:b2≤base):R.Lo w b2 v L:=by
 rcases h with hn|⟨g,cap,cur,rfl,hbg,rest⟩
 ·exact .inl hn
 ·exact .inr ⟨g,cap,cur,rfl,Nat.le_trans hb hbg,rest⟩
theorem RowT.Lo.open {w:World} {base:Nat} {v:Value} {L:List κ} (I:R.Is) (h:R.Lo w base v L) (ok:∀h∈L,R.ok h):∃a c,v= .slice a L.length c∧R.At w a L∧L.length≤c∧c≤maxLen∧(∀b o,a=some ⟨b,o,none⟩→v.ownBlock=some b):=by
 rcases h with ⟨rfl,rfl⟩|⟨g,cap,cur,rfl,hbg,hg,hnc,hcm,hcs,htake⟩
 ·exact ⟨none,0,rfl, .inl rfl,Nat.le_refl _,by decide,fun b o e=>by cases e⟩
 ·refine ⟨some ⟨g,0,none⟩,cap,rfl, .inr ⟨g,0,rfl,(Array.getElem?_eq_some_iff.1 hg).1,fun i x hx j u hj=> ?_⟩,hnc,hcm,fun b o e=>by cases e;rfl⟩
  have e:=RowT.flat_get I ok hx hj
  rw [Nat.zero_add,cell_of_row w g _ cur R.e (0,0) hg]
  rw [←htake,List.getElem?_take] at e
  split at e
  ·simpa using e
  ·cases e
theorem RowT.lo_app (I:R.Is) (w:World) (base:Nat) (v:Value) (L:List κ) (okL:∀h∈L,R.ok h) (a:Option Addr) (M:List κ) (c:Nat) (hown:R.Lo w base v L) (hb:R.At w a M) (ok:∀h∈M,R.ok h) (h63:L.length+M.length≤maxLen) (h:((L.length+M.length)+(L.length+M.length) / 4+192)*R.bytes≤281474976710656) (hbase:base≤w.heap.size) :
 ∃v' w',(Builtin.append_ #[R.t,R.t] R.t #[v, .slice a M.length c]).run Tryz.prog w= .ok v' w'∧R.Lo w' base v' (L++M)∧w.grownBy w' v.ownBlock∧(v'.ownBlock=v.ownBlock∨v'.ownBlock=some w.heap.size)∧R.Lo w' base v L:=by
 have hown0:=hown
 rcases hown with ⟨rfl,rfl⟩|⟨g,cap,cur,rfl,hbg,hg,hnc,hcm,hcs,htake⟩
 ·obtain ⟨v',w',e,o,g,q⟩:=RowT.run_app I w base (.slice none 0 0) [] a M c (RowT.own_nil R w base) hb ok h63 h hbase
  exact ⟨v',w',e,o.lo,g,q, .inl ⟨rfl,rfl⟩⟩
 ·obtain ⟨i,hi,hz,hs,hby⟩:=info_parts I.info
  have zc:(Value.agg (R.c R.z).toArray).cells.size=R.k:=by
   show (R.c R.z).toArray.size=R.k
   rw [List.size_toArray,I.len _ I.zok]
  have lL:=RowT.flat_len I okL
  have lM:=RowT.flat_len I ok
  have fa:R.flat (L++M)=R.flat L++R.flat M:=RowT.flat_app L M
  have hbig:L.length+M.length≤9223372036854775807:=by simp only [maxLen] at h63;omega
  cases a with
  |none =>
   obtain rfl:M=[]:=by
        rcases hb with rfl|⟨b,off,e,_⟩
        ·rfl
        ·cases e
   refine ⟨.slice (some ⟨g,0,none⟩) L.length cap,w, ?_,by rw [List.append_nil];exact .inr ⟨g,cap,cur,rfl,hbg,hg,hnc,hcm,hcs,htake⟩,⟨rfl,rfl,rfl,Nat.le_refl _,fun _ _ _=>rfl⟩, .inl rfl,hown0⟩
   simp [Builtin.append_,run_underlying I.und,sizeOf,typeInfo,hi,Builtin.lenOf,Builtin.firstCells,hnc,storeCells]
  |some ad =>
   have hnews:∀j u,(R.flat M)[j]? =some u→w.cell? (ad.add j)=some u:=fun j u hj=>by
        rcases hb with rfl|⟨b,off,e,_,hc⟩
        ·simp [RowT.flat] at hj
        ·cases e
         obtain ⟨k,x,r,rfl,hx,hr⟩:=RowT.flat_inv I ok hj
         rw [Addr.add_mid, ←Nat.add_assoc]
         exact hc k x hx r u hr
   by_cases hroom:L.length+M.length≤cap
   ·have hfit:L.length*i.size+(R.flat M).length≤cur.size:=by
     rw [lM,hs,Nat.mul_comm R.k, ←Nat.add_mul]
     exact Nat.le_trans (Nat.mul_le_mul_right _ hroom) hcs
    have hr:=run_append_room (P:=Tryz.prog) w R.t R.t R.e i I.und hi g L.length cap cur hg ad M.length c (R.flat M) (by rw [lM,hs,Nat.mul_comm]) hnews (RowT.flat_one I M) hroom hfit
    refine ⟨_,_,hr, .inr ⟨g,cap,_,by rw [List.length_append],hbg,setRow_heap w g cur _ R.e _ hg,by rw [List.length_append];exact hroom,hcm, ?_, ?_⟩,⟨rfl,rfl,rfl,by simp,fun k _ hk=>setRow_other w g k _ (fun e=>hk (by simp [Value.ownBlock,e]))⟩, .inl rfl, .inr ⟨g,cap,_,rfl,hbg,setRow_heap w g cur _ R.e _ hg,hnc,hcm, ?_, ?_⟩⟩
    ·simp only [List.size_toArray,List.length_append,List.length_take,List.length_drop,Array.length_toList]
     omega
    ·rw [List.toList_toArray,hs,htake,fa,List.length_append,Nat.add_mul,show L.length*R.k+M.length*R.k=(R.flat L++R.flat M).length by rw [List.length_append,lL,lM,Nat.mul_comm R.k,Nat.mul_comm R.k]]
     exact List.take_left
    ·simp only [List.size_toArray,List.length_append,List.length_take,List.length_drop,Array.length_toList]
     omega
    ·rw [List.toList_toArray,hs,htake,List.append_assoc,show L.length*R.k=(R.flat L).length by rw [lL,Nat.mul_comm]]
     exact List.take_left
   ·have holds:∀j u,(R.flat L)[j]? =some u→w.cell? ((⟨g,0,none⟩:Addr).add j)=some u:=fun j u hj=>by
     rw [Addr.add_mid,Nat.zero_add,cell_of_row w g _ cur R.e (0,0) hg]
     rw [←htake,List.getElem?_take] at hj
     split at hj
     ·simpa using hj
     ·cases hj
    have hr:=run_append_grow (P:=Tryz.prog) w R.t R.t R.e i _ I.und hi hz ⟨g,0,none⟩ L.length cap (R.flat L) (by rw [lL,hs,Nat.mul_comm]) holds ad M.length c (R.flat M) (by rw [lM,hs,Nat.mul_comm]) hnews (by omega) (by omega) (by rw [hby];exact growslice_fits_wide (by omega) h)
    have hge:=grownCap_ge w (L.length+M.length) cap R.e
    have hcm2:grownCap w (L.length+M.length) cap R.e≤maxLen:=grownCap_le_maxLen w (L.length+M.length) cap R.e h63
    refine ⟨_,_,hr, .inr ⟨w.heap.size,_,_,by rw [List.length_append],hbase,heap_alloc_new w.drew _,by rw [List.length_append];exact hge,hcm2, ?_, ?_⟩,⟨rfl,rfl,rfl,by simp,fun k hk _=>heap_alloc_old w.drew _ hk⟩, .inr rfl,hown0.keep (fun k hk=>heap_alloc_old w.drew _ (hown0.lt hk))⟩
    ·simp only [Array.size_append,List.size_toArray,size_zeroCells,zc,lL,lM]
     rw [Nat.mul_comm R.k,Nat.mul_comm R.k, ←Nat.add_mul, ←Nat.add_mul]
     refine Nat.mul_le_mul_right _ ?_
     omega
    ·simp only [Array.toList_append,List.append_assoc]
     rw [←List.append_assoc,fa,List.length_append,Nat.add_mul,show L.length*R.k+M.length*R.k=(R.flat L++R.flat M).length by rw [List.length_append,lL,lM,Nat.mul_comm R.k,Nat.mul_comm R.k]]
     exact List.take_left
theorem RowT.lo_push (I:R.Is) (w:World) (base:Nat) (v:Value) (L:List κ) (okL:∀h∈L,R.ok h) (x:κ) (hown:R.Lo w base v L) (ok:R.ok x) (h63:L.length+1≤maxLen) (h:((L.length+1)+(L.length+1) / 4+192)*R.bytes≤281474976710656) (hbase:base≤w.heap.size) :
 ∃sv w1 v' w',(Instr.buildSlice R.t 1 #[(0, .agg (R.c x).toArray)]).run Tryz.prog w= .ok sv w1∧(Builtin.append_ #[R.t,R.t] R.t #[v,sv]).run Tryz.prog w1= .ok v' w'∧R.Lo w' base v' (L++[x])∧Below w.heap.size w w1∧w1.heap.size=w.heap.size+1∧w1.grownBy w' v.ownBlock∧(v'.ownBlock=v.ownBlock∨v'.ownBlock=some w1.heap.size)∧R.Lo w' base v L:=by
 have b1:Below w.heap.size w (w.alloc (.cells (R.c x).toArray R.e)):=(Below.refl _ _).alloc (Nat.le_refl _) _
 obtain ⟨v',w',e,o,g,q,ol⟩:=RowT.lo_app I _ base v L okL _ [x] 1 (hown.below b1) (RowT.lit R w x R.e) (fun y hy=>by rw [List.mem_singleton.1 hy];exact ok) h63 h (Nat.le_trans hbase b1.size)
 exact ⟨_,_,v',w',RowT.run_bs I x ok w,e,o,b1,by simp,g,q,ol⟩
theorem RowT.Lo.cut (I:R.Is) {w:World} {base:Nat} {v:Value} {L:List κ} (okL:∀h∈L,R.ok h) (h:R.Lo w base v L) {n:Nat} (hn:n≤L.length):∃v',(∀a c,v= .slice a L.length c→v'= .slice a n n)∧R.Lo w base v' (L.take n)∧v'.ownBlock=v.ownBlock:=by
 rcases h with ⟨rfl,rfl⟩|⟨g,cap,cur,rfl,hbg,hg,hnc,hcm,hcs,htake⟩
 ·have:n=0:=by simpa using hn
  subst this
  exact ⟨.slice none 0 0,fun a c e=>by cases e;rfl, .inl ⟨rfl,rfl⟩,rfl⟩
 ·have hl:(L.take n).length=n:=by simp;omega
  refine ⟨.slice (some ⟨g,0,none⟩) n n,fun a c e=>by cases e;rfl, .inr ⟨g,n,cur,by rw [hl],hbg,hg,by omega,by omega,Nat.le_trans (Nat.mul_le_mul_right _ (by omega)) hcs, ?_⟩,rfl⟩
  have hf:R.flat L=R.flat (L.take n)++R.flat (L.drop n):=by rw [←RowT.flat_app,List.take_append_drop]
  have lt:=RowT.flat_len I (L:=L.take n) (fun x hx=>okL x (List.mem_of_mem_take hx))
  rw [hl] at lt
  rw [hl]
  have h1:cur.toList.take (n*R.k)=(cur.toList.take (L.length*R.k)).take (n*R.k):=by rw [List.take_take,Nat.min_eq_left (Nat.mul_le_mul_right _ hn)]
  rw [h1,htake,hf,show n*R.k=(R.flat (L.take n)).length by rw [lt,Nat.mul_comm]]
  exact List.take_left
end
section
variable {κ:Type} {R:RowT κ}
theorem RowT.szR (I:R.Is) (W:World):(sizeOf R.e).run Tryz.prog W= .ok R.k W:=m_sz (RowT.sz I) W
theorem RowT.sl_upto (I:R.Is) (a:Option Addr) {n c m:Nat} (hm:m≤c) (W:World):(Instr.sliceAt R.t (.slice a n c) none (some (.int .i64 (m:Int))) none).run Tryz.prog W= .ok (.slice a m c) W:=by
 have h1:(0:Int)≤(m:Int)∧(m:Int)≤(c:Int):=by omega
 cases a with
 |none =>
  simp only [Instr.sliceAt,Instr.slice,Instr.sliceBounds,Instr.sliceBound,run_underlying I.und,asIntOf,Sem.run_bind,Sem.run_pure,Result.andThen_ok,RowT.szR I]
  rw [if_pos h1]
  simp only [Sem.run_bind,Sem.run_pure,Result.andThen_ok,Int.toNat_natCast]
  simp
 |some ad =>
  simp only [Instr.sliceAt,Instr.slice,Instr.sliceBounds,Instr.sliceBound,run_underlying I.und,asIntOf,Sem.run_bind,Sem.run_pure,Result.andThen_ok,RowT.szR I]
  rw [if_pos h1]
  simp only [Sem.run_bind,Sem.run_pure,Result.andThen_ok,Int.toNat_natCast]
  obtain ⟨b,o,sp⟩:=ad
  simp [Addr.add]
theorem RowT.sl_cut (I:R.Is) (a:Option Addr) {n c m:Nat} (hm:m≤c) (W:World):(Instr.sliceAt R.t (.slice a n c) none (some (.int .i64 (m:Int))) (some (.int .i64 (m:Int)))).run Tryz.prog W= .ok (.slice a m m) W:=by
 have h1:(0:Int)≤(m:Int)∧(m:Int)≤(c:Int):=by omega
 have h2:(0:Int)≤(m:Int)∧(m:Int)≤(m:Int):=by omega
 cases a with
 |none =>
  simp only [Instr.sliceAt,Instr.slice,Instr.sliceBounds,Instr.sliceBound,run_underlying I.und,asIntOf,Sem.run_bind,Sem.run_pure,Result.andThen_ok,RowT.szR I]
  rw [if_pos h1]
  simp only [Sem.run_bind,Sem.run_pure,Result.andThen_ok,Int.toNat_natCast]
  rw [if_pos h2]
  simp only [Sem.run_bind,Sem.run_pure,Result.andThen_ok,Int.toNat_natCast]
  simp
 |some ad =>
  simp only [Instr.sliceAt,Instr.slice,Instr.sliceBounds,Instr.sliceBound,run_underlying I.und,asIntOf,Sem.run_bind,Sem.run_pure,Result.andThen_ok,RowT.szR I]
  rw [if_pos h1]
  simp only [Sem.run_bind,Sem.run_pure,Result.andThen_ok,Int.toNat_natCast]
  rw [if_pos h2]
  simp only [Sem.run_bind,Sem.run_pure,Result.andThen_ok,Int.toNat_natCast]
  obtain ⟨b,o,sp⟩:=ad
  simp [Addr.add]
def RowT.Bx (R:RowT κ) (w:World) (b:Nat) (x:κ):Prop:=w.heap[b]? =some (.cells (R.c x).toArray R.e (0,0))
theorem RowT.Bx.rng {w:World} {b:Nat} {x:κ} (h:R.Bx w b x):w.rangeAt b 0 (R.c x):=fun j v hv=>by
 rw [Nat.zero_add,cell_of_row _ _ j _ _ _ h]
 simpa using hv
theorem RowT.Bx.below {w w':World} {b:Nat} {x:κ} (h:R.Bx w b x) (hb:Below w.heap.size w w'):R.Bx w' b x:=(hb.block b (Array.getElem?_eq_some_iff.1 h).1).trans h
theorem RowT.zeroR (I:R.Is) (w:World):(zeroValue R.e).run Tryz.prog w= .ok (.agg (R.c R.z).toArray) w:=by
 obtain ⟨i,hi,hz,hs,hby⟩:=info_parts I.info
 simp [zeroValue,typeInfo,hi,hz]
theorem RowT.bx_zero (I:R.Is) (w:World):(Instr.alloc R.e true (.tuple #[])).run Tryz.prog w= .ok (.pointer (some ⟨w.heap.size,0,none⟩)) (w.alloc (.cells (R.c R.z).toArray R.e)):=by
 simp only [Instr.alloc,newVar,newRow,newObj,Sem.run_bind,RowT.zeroR I,Result.andThen_ok,Value.cells]
 rfl
theorem RowT.bx_store (I:R.Is) {w:World} {b:Nat} {x u:κ} (hx:R.ok x) (hu:R.ok u) (h:R.Bx w b x):(Instr.storeAt R.e (.pointer (some ⟨b,0,none⟩)) (.agg (R.c u).toArray)).run Tryz.prog w= .ok () (w.setRow b (R.c u).toArray):=by
 have e2:=run_storeVar_row (P:=Tryz.prog) w b R.e R.e (R.c x).toArray (R.c u).toArray h (by rw [List.size_toArray,I.len u hu];exact RowT.sz I)
  (by rw [List.size_toArray,List.size_toArray,I.len u hu,I.len x hx]) (by rw [List.all_toArray,List.all_eq_true];exact I.one u)
 simp only [Instr.storeAt,Instr.sureAddr,Sem.run_bind,Sem.run_pure,Result.andThen_ok,e2]
theorem RowT.bx_new (I:R.Is) (w:World) {u:κ} (hu:R.ok u):(Instr.storeAt R.e (.pointer (some ⟨w.heap.size,0,none⟩)) (.agg (R.c u).toArray)).run Tryz.prog (w.alloc (.cells (R.c R.z).toArray R.e))= .ok () (w.alloc (.cells (R.c u).toArray R.e)):=by
 have:=RowT.bx_store I (w:=w.alloc (.cells (R.c R.z).toArray R.e)) (b:=w.heap.size) I.zok hu (heap_alloc_new _ _)
 rw [World.setRow_alloc_new] at this
 exact this
theorem RowT.bx_is (R:RowT κ) (w:World) (u:κ):R.Bx (w.alloc (.cells (R.c u).toArray R.e)) w.heap.size u∧Below w.heap.size w (w.alloc (.cells (R.c u).toArray R.e)):=⟨heap_alloc_new _ _,(Below.refl _ _).alloc (Nat.le_refl _) _⟩
end
end Go.Proofs.YtifendlpeebofaaGreatDoor
namespace Go.Proofs.YtifendlpeebofaaGreatDoor.Sq
structure KpV where
 id:IdK
 bh:IdK
 fol:Int
structure Sp where
 kp:KpV
 sh:Bool
 up:Nat
 l:Nat
 r:Nat
 ca:Nat
 cl:Nat
section
def zK:KpV:=⟨zId,zId,0⟩
def zSp:Sp:=⟨zK,false,0,0,0,0,0⟩
def gt (L:List Sp) (i:Nat):Sp:=L.getD i zSp
def md (L:List Sp) (i:Nat) (f:Sp→Sp):List Sp:=L.modify i f
@[simp] theorem md_len (L:List Sp) (i:Nat) (f:Sp→Sp):(md L i f).length=L.length:=by simp [md]
theorem gt_md (L:List Sp) (i j:Nat) (f:Sp→Sp):gt (md L i f) j=if i=j∧i<L.length then f (gt L j) else gt L j:=by
 unfold gt md
 rw [List.getD_eq_getElem?_getD,List.getD_eq_getElem?_getD,List.getElem?_modify]
 by_cases h:i=j
 ·subst h
  by_cases h2:i<L.length
  ·simp [h2]
  ·simp [h2]
 ·simp [h]
def dn (s:Sp) (b:Bool):Nat:=if b then s.r else s.l
def setDn (s:Sp) (b:Bool) (x:Nat):Sp:=if b then {s with r:=x} else {s with l:=x}
def ct (s:Sp) (w:Bool):Nat:=if w then s.cl else s.ca
def hangD (L:List Sp) (u:Nat) (b:Bool) (p:Nat):List Sp:=md L u (setDn · b p)
def setUp (L:List Sp) (p u:Nat):List Sp:=md L p (fun s=>{s with up:=u})
def hang (L:List Sp) (u:Nat) (b:Bool) (p:Nat):List Sp:=if p=0 then hangD L u b p else setUp (hangD L u b p) p u
def sideOf (L:List Sp) (a:Nat):Bool:= !((gt L (gt L a).up).l==a)
def repl (L:List Sp) (a p:Nat):List Sp:=hang L (gt L a).up (sideOf L a) p
def own (L:List Sp) (a:Nat) (w:Bool):Nat:=if w=false∨(gt L a).sh=true then 1 else 0
def under (L:List Sp) (a:Nat) (b w:Bool):Nat:=ct (gt L (dn (gt L a) b)) w
def upTo (L:List Sp) (a:Nat) (w:Bool):Nat:=under L a false w+own L a w
def tallyW (L:List Sp) (a:Nat) (w:Bool):List Sp:=md L a (fun s=>if w then {s with cl:=upTo L a w+under L a true w} else {s with ca:=upTo L a w+under L a true w})
def tally (L:List Sp) (a:Nat):List Sp:=tallyW (tallyW L a false) a true
def wt (L:List Sp) (a:Nat):Nat:=(gt L a).ca+1
def lift0 (L:List Sp) (a:Nat):List Sp :=
 let u:=(gt L a).up
 let s:=sideOf L a
 let L1:=repl L u a
 let L2:=hang L1 u s (dn (gt L1 a) (!s))
 hang L2 a (!s) u
def lift (L:List Sp) (a:Nat):List Sp:=tally (tally (lift0 L a) (gt L a).up) a
def heavyAt (L:List Sp) (a:Nat) (s:Bool):Bool:=decide (3*wt L (dn (gt L a) (!s))<wt L (dn (gt L a) s))
def evenAt (L:List Sp) (a:Nat) (s:Bool):List Sp × Nat :=
 let p:=dn (gt L a) s
 let inn:=dn (gt L p) (!s)
 let out:=dn (gt L p) s
 if 2*wt L out≤wt L inn then (lift (lift L inn) inn,inn) else (lift L p,p)
def even (L:List Sp) (a:Nat):List Sp × Nat :=
 if heavyAt L a false then evenAt L a false else if heavyAt L a true then evenAt L a true else (L,a)
inductive T where
 |nil
 |nd (i:Nat) (l r:T)
def T.ix:T→Nat
 | .nil=>0
 | .nd i _ _=>i
def T.ids:T→List Nat
 | .nil=>[]
 | .nd i l r=>l.ids++i::r.ids
def Rep (L:List Sp):Nat→T→Prop
 |_, .nil=>True
 |p, .nd i l r=>i≠0∧i<L.length∧(gt L i).up=p∧(gt L i).l=l.ix∧(gt L i).r=r.ix∧Rep L i l∧Rep L i r
def cnt (L:List Sp) (w:Bool) (t:T):Nat:=t.ids.countP (fun i=> !w||(gt L i).sh)
def Cnt (L:List Sp):T→Prop
 | .nil=>True
 | .nd i l r=>(∀w,ct (gt L i) w=cnt L w (.nd i l r))∧Cnt L l∧Cnt L r
abbrev Ctx:=List (Nat × Bool × T)
def mk (i:Nat) (s:Bool) (t o:T):T:=if s then .nd i o t else .nd i t o
def plug:Ctx→T→T
 |[],t=>t
 |(i,s,o)::c,t=>plug c (mk i s t o)
def upOf:Ctx→Nat
 |[]=>0
 |(i,_,_)::_=>i
def RepC (L:List Sp):Ctx→Nat→Prop
 |[],h=>0<L.length∧(gt L 0).r=h∧(gt L 0).l=0
 |(i,s,o)::c,h=>i≠0∧i<L.length∧(gt L i).up=upOf c∧dn (gt L i) s=h∧dn (gt L i) (!s)=o.ix∧Rep L i o∧RepC L c i
def CntC (L:List Sp):Ctx→Prop
 |[]=>True
 |(_,_,o)::c=>Cnt L o∧CntC L c
def cids:Ctx→List Nat
 |[]=>[]
 |(i,_,o)::c=>i::(o.ids++cids c)
structure Alike (L L':List Sp) (i:Nat):Prop where
 up:(gt L' i).up=(gt L i).up
 l:(gt L' i).l=(gt L i).l
 r:(gt L' i).r=(gt L i).r
theorem Rep.same {L L':List Sp} (hl:L'.length=L.length):∀{t:T} {p:Nat},Rep L p t→(∀i∈t.ids,Alike L L' i)→Rep L' p t
 | .nil,_,_,_=>trivial
 | .nd i l r,p,h,hs=>by
   obtain ⟨h1,h2,h3,h4,h5,h6,h7⟩:=h
   have e:=hs i (by simp [T.ids])
   refine ⟨h1,by rw [hl];exact h2,by rw [e.up];exact h3,by rw [e.l];exact h4,by rw [e.r];exact h5, ?_, ?_⟩
   ·exact Rep.same hl h6 (fun j hj=>hs j (by simp [T.ids,hj]))
   ·exact Rep.same hl h7 (fun j hj=>hs j (by simp [T.ids,hj]))
theorem cnt_same {L L':List Sp} {w:Bool} {t:T} (hs:∀i∈t.ids,(gt L' i).sh=(gt L i).sh):cnt L' w t=cnt L w t:=by
 unfold cnt
 refine List.countP_congr fun i hi=> ?_
 rw [hs i hi]
theorem Cnt.same {L L':List Sp}:∀{t:T},Cnt L t→(∀i∈t.ids,(gt L' i).sh=(gt L i).sh∧∀w,ct (gt L' i) w=ct (gt L i) w)→Cnt L' t
 | .nil,_,_=>trivial
 | .nd i l r,h,hs=>by
   obtain ⟨h1,h6,h7⟩:=h
   have e:=hs i (by simp [T.ids])
   refine ⟨fun w=> ?_, ?_, ?_⟩
   ·rw [e.2 w,h1 w,cnt_same (fun j hj=>(hs j hj).1)]
   ·exact Cnt.same h6 (fun j hj=>hs j (by simp [T.ids,hj]))
   ·exact Cnt.same h7 (fun j hj=>hs j (by simp [T.ids,hj]))
theorem Cnt.at {L:List Sp} {t:T} (h:Cnt L t) (h0:∀w,ct (gt L 0) w=0) (w:Bool):ct (gt L t.ix) w=cnt L w t:=by
 cases t with
 |nil=>rw [T.ix,h0 w];simp [cnt,T.ids]
 |nd i l r=>exact h.1 w
theorem cnt_nd (L:List Sp) (w:Bool) (i:Nat) (l r:T):cnt L w (.nd i l r)=cnt L w l+(if w=false∨(gt L i).sh=true then 1 else 0)+cnt L w r:=by
 unfold cnt
 rw [T.ids,List.countP_append,List.countP_cons]
 cases w <;>cases h:(gt L i).sh <;>simp [h] <;>omega
theorem RepC.same {L L':List Sp} (hl:L'.length=L.length):∀{c:Ctx} {h:Nat},RepC L c h→(∀i∈cids c,Alike L L' i)→((gt L' 0).l=(gt L 0).l∧(gt L' 0).r=(gt L 0).r)→RepC L' c h
 |[],h,⟨a,b,d⟩,_,h0=>⟨by omega,by rw [h0.2];exact b,by rw [h0.1];exact d⟩
 |(i,s,o)::c,h,⟨h1,h2,h3,h4,h5,h6,h7⟩,hs,h0=>by
  have e:=hs i (by simp [cids])
  refine ⟨h1,by omega,by rw [e.up];exact h3, ?_, ?_,Rep.same hl h6 (fun j hj=>hs j (by simp [cids,hj])),RepC.same hl h7 (fun j hj=>hs j (by simp [cids,hj])) h0⟩
  ·simp only [dn,e.l,e.r] at h4 ⊢;exact h4
  ·simp only [dn,e.l,e.r] at h5 ⊢;exact h5
theorem CntC.same {L L':List Sp}:∀{c:Ctx},CntC L c→(∀i∈cids c,(gt L' i).sh=(gt L i).sh∧∀w,ct (gt L' i) w=ct (gt L i) w)→CntC L' c
 |[],_,_=>trivial
 |(i,s,o)::c,⟨h1,h2⟩,hs=>⟨Cnt.same h1 (fun j hj=>hs j (by simp [cids,hj])),CntC.same h2 (fun j hj=>hs j (by simp [cids,hj]))⟩
theorem mk_perm (i:Nat) (s:Bool) (t o:T):(mk i s t o).ids.Perm (i::(t.ids++o.ids)):=by
 cases s
 ·simp only [mk,T.ids,Bool.false_eq_true,if_false]
  exact List.perm_middle
 ·simp only [mk,T.ids,if_true]
  refine List.perm_middle.trans (List.Perm.cons _ List.perm_append_comm)
theorem plug_perm:∀(c:Ctx) (t:T),(plug c t).ids.Perm (t.ids++cids c)
 |[],t=>by simp [plug,cids]
 |(i,s,o)::c,t=>by
  rw [plug,cids]
  refine (plug_perm c _).trans ?_
  refine ((mk_perm i s t o).append_right _).trans ?_
  rw [List.cons_append,List.append_assoc]
  exact (List.perm_middle (l₁:=t.ids) (l₂:=o.ids++cids c) (a:=i)).symm
def pre:Ctx→List Nat
 |[]=>[]
 |(i,s,o)::c=>pre c++(if s then o.ids++[i] else [])
def post:Ctx→List Nat
 |[]=>[]
 |(i,s,o)::c=>(if s then [] else i::o.ids)++post c
theorem plug_ids:∀(c:Ctx) (t:T),(plug c t).ids=pre c++t.ids++post c
 |[],t=>by simp [plug,pre,post]
 |(i,s,o)::c,t=>by
  rw [plug,plug_ids c]
  cases s <;>simp [mk,T.ids,pre,post]
theorem rep_ix {L:List Sp} {p:Nat} {t:T} (h:Rep L p t):t.ix=0↔t= .nil:=by
 cases t with
 |nil=>simp [T.ix]
 |nd i l r=>simp [T.ix];exact h.1
theorem ix_mem {t:T} (h:t.ix≠0):t.ix∈t.ids:=by
 cases t with
 |nil=>simp [T.ix] at h
 |nd i l r=>simp [T.ix,T.ids]
theorem Rep.mem {L:List Sp}:∀{t:T} {p:Nat},Rep L p t→∀i∈t.ids,i≠0∧i<L.length
 | .nil,_,_,i,hi=>by simp [T.ids] at hi
 | .nd j l r,p,h,i,hi=>by
   simp only [T.ids,List.mem_append,List.mem_cons] at hi
   rcases hi with hi|rfl|hi
   ·exact Rep.mem h.2.2.2.2.2.1 i hi
   ·exact ⟨h.1,h.2.1⟩
   ·exact Rep.mem h.2.2.2.2.2.2 i hi
theorem RepC.mem {L:List Sp}:∀{c:Ctx} {h:Nat},RepC L c h→∀i∈cids c,i≠0∧i<L.length
 |[],_,_,i,hi=>by simp [cids] at hi
 |(j,s,o)::c,h,hc,i,hi=>by
  obtain ⟨h1,h2,h3,h4,h5,h6,h7⟩:=hc
  simp only [cids,List.mem_append,List.mem_cons] at hi
  rcases hi with rfl|hi|hi
  ·exact ⟨h1,h2⟩
  ·exact h6.mem i hi
  ·exact RepC.mem h7 i hi
theorem RepC.pos {L:List Sp}:∀{c:Ctx} {h:Nat},RepC L c h→0<L.length
 |[],_,h=>h.1
 |(i,s,o)::c,h,hc=>RepC.pos hc.2.2.2.2.2.2
end
section
theorem dn_setDn (s:Sp) (b b':Bool) (x:Nat):dn (setDn s b x) b'=if b'=b then x else dn s b':=by
 cases b <;>cases b' <;>simp [dn,setDn]
theorem setDn_up (s:Sp) (b:Bool) (x:Nat):(setDn s b x).up=s.up∧(setDn s b x).sh=s.sh∧(setDn s b x).kp=s.kp∧∀w,ct (setDn s b x) w=ct s w:=by
 cases b <;>simp [setDn,ct]
theorem hang_len (L:List Sp) (u:Nat) (b:Bool) (p:Nat):(hang L u b p).length=L.length:=by
 unfold hang hangD setUp
 split <;>simp
theorem hang_up (L:List Sp) (u:Nat) (b:Bool) (p j:Nat):(gt (hang L u b p) j).up=if p=j∧p≠0∧p<L.length then u else (gt L j).up:=by
 unfold hang
 split
 ·next h =>
  subst h
  rw [if_neg (by simp)]
  unfold hangD
  rw [gt_md]
  split
  ·exact (setDn_up _ _ _).1
  ·rfl
 ·next h =>
  unfold setUp hangD
  rw [gt_md,md_len]
  by_cases e:p=j∧p<L.length
  ·rw [if_pos e,if_pos ⟨e.1,h,e.2⟩]
  ·rw [if_neg e,if_neg (fun q=>e ⟨q.1,q.2.2⟩),gt_md]
   split
   ·exact (setDn_up _ _ _).1
   ·rfl
theorem hang_dn (L:List Sp) (u:Nat) (b:Bool) (p j:Nat) (b':Bool):dn (gt (hang L u b p) j) b'=if u=j∧b'=b∧u<L.length then p else dn (gt L j) b':=by
 have key:dn (gt (hangD L u b p) j) b'=if u=j∧b'=b∧u<L.length then p else dn (gt L j) b':=by
  unfold hangD
  rw [gt_md]
  by_cases e:u=j∧u<L.length
  ·rw [if_pos e,dn_setDn]
   by_cases e2:b'=b
   ·rw [if_pos e2,if_pos ⟨e.1,e2,e.2⟩]
   ·rw [if_neg e2,if_neg (fun q=>e2 q.2.1)]
  ·rw [if_neg e,if_neg (fun q=>e ⟨q.1,q.2.2⟩)]
 unfold hang
 split
 ·exact key
 ·rw [←key]
  unfold setUp
  rw [gt_md]
  split
  ·cases b' <;>simp [dn]
  ·rfl
theorem hang_rest (L:List Sp) (u:Nat) (b:Bool) (p j:Nat):(gt (hang L u b p) j).sh=(gt L j).sh∧(gt (hang L u b p) j).kp=(gt L j).kp∧∀w,ct (gt (hang L u b p) j) w=ct (gt L j) w:=by
 have key:(gt (hangD L u b p) j).sh=(gt L j).sh∧(gt (hangD L u b p) j).kp=(gt L j).kp∧∀w,ct (gt (hangD L u b p) j) w=ct (gt L j) w:=by
  unfold hangD
  rw [gt_md]
  split
  ·exact (setDn_up _ _ _).2
  ·exact ⟨rfl,rfl,fun _=>rfl⟩
 unfold hang
 split
 ·exact key
 ·unfold setUp
  rw [gt_md]
  split
  ·exact key
  ·exact key
structure Hg (L L':List Sp) (i:Nat):Prop where
 up:(gt L' i).up=(gt L i).up
 dn:∀b,dn (gt L' i) b=dn (gt L i) b
theorem Hg.alike {L L':List Sp} {i:Nat} (h:Hg L L' i):Alike L L' i :=
 ⟨h.up,by have:=h.dn false;simpa [Sq.dn] using this,by have:=h.dn true;simpa [Sq.dn] using this⟩
theorem rep_mk {L:List Sp} {p i:Nat} {s:Bool} {t o:T}:Rep L p (mk i s t o)↔i≠0∧i<L.length∧(gt L i).up=p∧dn (gt L i) s=t.ix∧dn (gt L i) (!s)=o.ix∧Rep L i t∧Rep L i o:=by
 cases s
 ·simp only [mk,Rep,dn,Bool.false_eq_true,if_false,Bool.not_false,if_true]
 ·simp only [mk,Rep,dn,Bool.not_true,Bool.false_eq_true,if_false,if_true]
  constructor
  ·rintro ⟨a,b,c,d,e,f,g⟩;exact ⟨a,b,c,e,d,g,f⟩
  ·rintro ⟨a,b,c,d,e,f,g⟩;exact ⟨a,b,c,e,d,g,f⟩
theorem mk_ix (i:Nat) (s:Bool) (t o:T):(mk i s t o).ix=i:=by cases s <;>simp [mk,T.ix]
theorem mk_mem {i:Nat} {s:Bool} {t o:T} {j:Nat}:j∈(mk i s t o).ids↔j=i∨j∈t.ids∨j∈o.ids:=by
 rw [(mk_perm i s t o).mem_iff];simp
theorem Rep.moved {L L':List Sp} (hl:L'.length=L.length) {t:T} {p p':Nat} (h:Rep L p t) (hn:t.ids.Nodup) (hs:∀i∈t.ids,(∀b,dn (gt L' i) b=dn (gt L i) b)∧(i≠t.ix→(gt L' i).up=(gt L i).up)) (hp:t.ix≠0→(gt L' t.ix).up=p'):Rep L' p' t:=by
 cases t with
 |nil=>trivial
 |nd i l r =>
  obtain ⟨h1,h2,h3,h4,h5,h6,h7⟩:=h
  have e:=hs i (by simp [T.ids])
  have e0:=e.1 false
  have e1:=e.1 true
  simp only [dn,Bool.false_eq_true,if_false,if_true] at e0 e1
  simp only [T.ids,List.nodup_append,List.nodup_cons] at hn
  refine ⟨h1,by omega,hp h1,by rw [e0];exact h4,by rw [e1];exact h5,h6.same hl (fun j hj=> ?_),h7.same hl (fun j hj=> ?_)⟩
  ·have q:=hs j (by simp [T.ids,hj])
   exact Hg.alike ⟨q.2 (fun e=>hn.2.2 j hj i (by simp) (by simpa [T.ix] using e)),q.1⟩
  ·have q:=hs j (by simp [T.ids,hj])
   exact Hg.alike ⟨q.2 (fun e=>hn.2.1.1 (by have:j=i:=by simpa [T.ix] using e
                                            rw [←this];exact hj)),q.1⟩
structure Zip (L:List Sp) (c:Ctx) (t:T):Prop where
 rep:Rep L (upOf c) t
 repc:RepC L c t.ix
 nd:(t.ids++cids c).Nodup
 z:∀w,ct (gt L 0) w=0
def sd:Ctx→Bool
 |[]=>true
 |(_,s,_)::_=>s
theorem upOf_mem (c:Ctx):upOf c=0∨upOf c∈cids c:=by
 cases c with
 |nil=>exact .inl rfl
 |cons f c=>obtain ⟨i,s,o⟩:=f;exact .inr (by simp [upOf,cids])
theorem RepC.up_lt {L:List Sp} {c:Ctx} {h:Nat} (hc:RepC L c h):upOf c<L.length:=by
 rcases upOf_mem c with e|e
 ·rw [e];exact hc.pos
 ·exact (hc.mem _ e).2
theorem Zip.side {L:List Sp} {c:Ctx} {t:T} (z:Zip L c t) (h:t.ix≠0):sideOf L t.ix=sd c:=by
 have hu:(gt L t.ix).up=upOf c:=by
  have:=z.rep
  cases t with
  |nil=>simp [T.ix] at h
  |nd i l r=>exact this.2.2.1
 unfold sideOf
 rw [hu]
 cases c with
 |nil =>
  have:=z.repc.2.2
  simp only [upOf,sd,this]
  simp;omega
 |cons f c =>
  obtain ⟨i,s,o⟩:=f
  obtain ⟨h1,h2,h3,h4,h5,h6,h7⟩:=z.repc
  cases s
  ·simp only [Sq.dn,Bool.false_eq_true,if_false] at h4
   simp [upOf,sd,h4]
  ·simp only [Sq.dn,Bool.not_true,Bool.false_eq_true,if_false] at h5
   simp only [upOf,sd,h5]
   have:o.ix≠t.ix:=by
        intro e
        have a:=ix_mem h
        have b:=ix_mem (t:=o) (by rw [e];exact h)
        have:=z.nd
        rw [List.nodup_append] at this
        exact this.2.2 _ a _ (by simp [cids];exact .inr (.inl b)) e.symm
   simpa using this
theorem Zip.up {L:List Sp} {c:Ctx} {t:T} (z:Zip L c t) (h:t.ix≠0):(gt L t.ix).up=upOf c:=by
 have:=z.rep
 cases t with
 |nil=>simp [T.ix] at h
 |nd i l r=>exact this.2.2.1
theorem hang_ctx {L:List Sp} {c:Ctx} {h:Nat} (hc:RepC L c h) (hcn:(cids c).Nodup) {t:T} {p:Nat} (ht:Rep L p t) (htn:t.ids.Nodup) (hd:∀i∈t.ids,i∉cids c) :
 Rep (hang L (upOf c) (sd c) t.ix) (upOf c) t∧RepC (hang L (upOf c) (sd c) t.ix) c t.ix:=by
 have hu:=hc.up_lt
 have hix:t.ix≠0→t.ix∈t.ids∧t.ix<L.length:=fun h=>⟨ix_mem h,(ht.mem _ (ix_mem h)).2⟩
 have hun:∀i∈t.ids,upOf c≠i:=fun i hi e=>by
  rcases upOf_mem c with e0|e0
  ·exact (ht.mem i hi).1 (by omega)
  ·exact hd i hi (e▸e0)
 refine ⟨ht.moved (hang_len _ _ _ _) htn (fun i hi=>⟨fun b=> ?_,fun hne=> ?_⟩) (fun hne=> ?_), ?_⟩
 ·rw [hang_dn,if_neg (fun q=>hun i hi q.1)]
 ·rw [hang_up,if_neg (fun q=>hne q.1.symm)]
 ·rw [hang_up,if_pos ⟨rfl,hne,(hix hne).2⟩]
 ·cases c with
  |nil =>
   obtain ⟨a,b,d⟩:=hc
   refine ⟨by rw [hang_len];exact a, ?_, ?_⟩
   ·have:=hang_dn L 0 true t.ix 0 true
    rw [if_pos ⟨rfl,rfl,a⟩] at this
    exact this
   ·have:=hang_dn L 0 true t.ix 0 false
    rw [if_neg (by simp)] at this
    exact this.trans d
  |cons f c =>
   obtain ⟨i,s,o⟩:=f
   obtain ⟨h1,h2,h3,h4,h5,h6,h7⟩:=hc
   have hcn':=hcn
   simp only [cids,List.nodup_cons,List.mem_append,not_or,List.nodup_append] at hcn
   have hni:∀j,j∈cids ((i,s,o)::c)→¬(t.ix=j∧t.ix≠0∧t.ix<L.length):=fun j hj q=>hd t.ix (hix q.2.1).1 (q.1▸hj)
   have hg:∀j,j∈o.ids∨j∈cids c→Hg L (hang L i s t.ix) j:=fun j hj=>by
        refine ⟨?_,fun b=> ?_⟩
        ·rw [hang_up,if_neg (hni j (by simp [cids];rcases hj with h|h <;>simp [h]))]
        ·rw [hang_dn,if_neg (fun (q:i=j∧b=s∧i<L.length)=>hj.elim (fun h=>hcn.1.1 (q.1▸h)) (fun h=>hcn.1.2 (q.1▸h)))]
   refine ⟨h1,by rw [hang_len];exact h2, ?_, ?_, ?_,h6.same (hang_len _ _ _ _) (fun j hj=>(hg j (.inl hj)).alike),h7.same (hang_len _ _ _ _) (fun j hj=>(hg j (.inr hj)).alike) ?_⟩
   ·simp only [upOf,sd]
    rw [hang_up,if_neg (hni i (by simp [cids]))]
    exact h3
   ·simp only [upOf,sd]
    rw [hang_dn,if_pos ⟨rfl,rfl,h2⟩]
   ·simp only [upOf,sd]
    rw [hang_dn,if_neg (fun q=>by cases s <;>simp at q)]
    exact h5
   ·simp only [upOf,sd]
    have e0:=hang_dn L i s t.ix 0 false
    have e1:=hang_dn L i s t.ix 0 true
    rw [if_neg (fun q=>h1 q.1)] at e0 e1
    exact ⟨e0,e1⟩
end
section
theorem Zip.into {L:List Sp} {c:Ctx} {i:Nat} {s:Bool} {t o:T} (z:Zip L c (Sq.mk i s t o)):Zip L ((i,s,o)::c) t:=by
 obtain ⟨h1,h2,h3,h4,h5,h6,h7⟩:=rep_mk.1 z.rep
 refine ⟨h6,⟨h1,h2,h3,h4,h5,h7,by have:=z.repc;rwa [mk_ix] at this⟩, ?_,z.z⟩
 have p:=((mk_perm i s t o).append_right (cids c)).nodup_iff.1 z.nd
 rw [cids]
 refine (List.Perm.nodup_iff ?_).2 p
 rw [List.cons_append,List.append_assoc]
 exact List.perm_middle
theorem Zip.out {L:List Sp} {c:Ctx} {i:Nat} {s:Bool} {t o:T} (z:Zip L ((i,s,o)::c) t):Zip L c (Sq.mk i s t o):=by
 obtain ⟨h1,h2,h3,h4,h5,h6,h7⟩:=z.repc
 refine ⟨rep_mk.2 ⟨h1,h2,h3,h4,h5,z.rep,h6⟩,by rw [mk_ix];exact h7, ?_,z.z⟩
 have p:=z.nd
 rw [cids] at p
 refine (List.Perm.nodup_iff ((mk_perm i s t o).append_right (cids c))).2 ((List.Perm.nodup_iff ?_).1 p)
 rw [List.cons_append,List.append_assoc]
 exact List.perm_middle
structure Kept (L L':List Sp):Prop where
 len:L'.length=L.length
 sh:∀j,(gt L' j).sh=(gt L j).sh
 kp:∀j,(gt L' j).kp=(gt L j).kp
theorem Kept.refl (L:List Sp):Kept L L:=⟨rfl,fun _=>rfl,fun _=>rfl⟩
theorem Kept.trans {A B C:List Sp} (h:Kept A B) (g:Kept B C):Kept A C:=⟨g.len.trans h.len,fun j=>(g.sh j).trans (h.sh j),fun j=>(g.kp j).trans (h.kp j)⟩
theorem hang_kept (L:List Sp) (u:Nat) (b:Bool) (p:Nat):Kept L (hang L u b p):=⟨hang_len _ _ _ _,fun j=>(hang_rest L u b p j).1,fun j=>(hang_rest L u b p j).2.1⟩
theorem lift0_zip {L:List Sp} {c:Ctx} {a b:Nat} {s:Bool} {P Q Z:T} (z:Zip L c (mk a s (mk b s P Q) Z)) :
 Zip (lift0 L b) c (mk b s P (mk a s Q Z))∧Kept L (lift0 L b)∧(∀j w,ct (gt (lift0 L b) j) w=ct (gt L j) w)∧(gt L b).up=a:=by
 have zi:=z.into
 obtain ⟨a1,a2,a3,a4,a5,a6,a7⟩:=rep_mk.1 z.rep
 obtain ⟨b1,b2,b3,b4,b5,b6,b7⟩:=rep_mk.1 a6
 rw [mk_ix] at a4
 have sb:sideOf L b=s:=by have:=zi.side (by rw [mk_ix];exact b1);rwa [mk_ix] at this
 have sa:sideOf L a=sd c:=by have:=z.side (by rw [mk_ix];exact a1);rwa [mk_ix] at this
 have nd:=zi.nd
 have nd2:(b::(P.ids++Q.ids)++cids ((a,s,Z)::c)).Nodup:=((mk_perm b s P Q).append_right _).nodup_iff.1 nd
 simp only [cids,List.cons_append,List.nodup_cons,List.mem_append,List.mem_cons,not_or,List.nodup_append] at nd2
 obtain ⟨⟨⟨nbP,nbQ⟩,nba,nbZ,nbC⟩,⟨nP,nQ,nPQ⟩,⟨⟨naZ,naC⟩,nZ,nC,nZC⟩,nX⟩:=nd2
 have nPa:∀i∈P.ids,i≠a:=fun i hi=>nX i (.inl hi) a (.inl rfl)
 have nQa:∀i∈Q.ids,i≠a:=fun i hi=>nX i (.inr hi) a (.inl rfl)
 have nPZ:∀i∈P.ids,i∉Z.ids:=fun i hi hz=>nX i (.inl hi) i (.inr (.inl hz)) rfl
 have nQZ:∀i∈Q.ids,i∉Z.ids:=fun i hi hz=>nX i (.inr hi) i (.inr (.inl hz)) rfl
 have nPC:∀i∈P.ids,i∉cids c:=fun i hi hz=>nX i (.inl hi) i (.inr (.inr hz)) rfl
 have nQC:∀i∈Q.ids,i∉cids c:=fun i hi hz=>nX i (.inr hi) i (.inr (.inr hz)) rfl
 have hc:RepC L c a:=by have:=z.repc;rwa [mk_ix] at this
 have hu:=hc.up_lt
 have uN:∀i,i≠0→i∉cids c→upOf c≠i:=fun i h0 hi e=>by
  rcases upOf_mem c with e0|e0
  ·omega
  ·exact hi (e▸e0)
 have ua:=uN a a1 naC
 have ub:=uN b b1 nbC
 have nab:a≠b:=fun e=>nba e.symm
 obtain ⟨L1,hL1⟩:∃L1,L1=hang L (upOf c) (sd c) b:=⟨_,rfl⟩
 obtain ⟨L2,hL2⟩:∃L2,L2=hang L1 a s Q.ix:=⟨_,rfl⟩
 have l1:L1.length=L.length:=by rw [hL1];exact hang_len _ _ _ _
 have l2:L2.length=L.length:=by rw [hL2,hang_len];exact l1
 have e1:dn (gt L1 b) (!s)=Q.ix:=by rw [hL1,hang_dn,if_neg (fun q=>ub q.1)];exact b5
 have el:lift0 L b=hang L2 b (!s) a:=by
  unfold lift0 repl
  simp only [b3,sb,sa,a3]
  rw [←hL1,e1, ←hL2]
 have up1:∀j,(gt L1 j).up=if b=j then upOf c else (gt L j).up:=fun j=>by
  rw [hL1,hang_up]
  by_cases e:b=j
  ·rw [if_pos ⟨e,b1,b2⟩,if_pos e]
  ·rw [if_neg (fun q=>e q.1),if_neg e]
 have dn1:∀j d,dn (gt L1 j) d=if upOf c=j∧d=sd c then b else dn (gt L j) d:=fun j d=>by
  rw [hL1,hang_dn]
  by_cases e:upOf c=j∧d=sd c
  ·rw [if_pos ⟨e.1,e.2,hu⟩,if_pos e]
  ·rw [if_neg (fun q=>e ⟨q.1,q.2.1⟩),if_neg e]
 have qlt:Q.ix≠0→Q.ix<L.length:=fun h=>(b7.mem _ (ix_mem h)).2
 have up2:∀j,(gt L2 j).up=if Q.ix=j∧Q.ix≠0 then a else (gt L1 j).up:=fun j=>by
  rw [hL2,hang_up]
  by_cases e:Q.ix=j∧Q.ix≠0
  ·rw [if_pos ⟨e.1,e.2,by rw [l1];exact qlt e.2⟩,if_pos e]
  ·rw [if_neg (fun q=>e ⟨q.1,q.2.1⟩),if_neg e]
 have dn2:∀j d,dn (gt L2 j) d=if a=j∧d=s then Q.ix else dn (gt L1 j) d:=fun j d=>by
  rw [hL2,hang_dn]
  by_cases e:a=j∧d=s
  ·rw [if_pos ⟨e.1,e.2,by rw [l1];exact a2⟩,if_pos e]
  ·rw [if_neg (fun q=>e ⟨q.1,q.2.1⟩),if_neg e]
 have up3:∀j,(gt (lift0 L b) j).up=if a=j then b else (gt L2 j).up:=fun j=>by
  rw [el,hang_up]
  by_cases e:a=j
  ·rw [if_pos ⟨e,a1,by rw [l2];exact a2⟩,if_pos e]
  ·rw [if_neg (fun q=>e q.1),if_neg e]
 have dn3:∀j d,dn (gt (lift0 L b) j) d=if b=j∧d=(!s) then a else dn (gt L2 j) d:=fun j d=>by
  rw [el,hang_dn]
  by_cases e:b=j∧d=(!s)
  ·rw [if_pos ⟨e.1,e.2,by rw [l2];exact b2⟩,if_pos e]
  ·rw [if_neg (fun q=>e ⟨q.1,q.2.1⟩),if_neg e]
 have l3:(lift0 L b).length=L.length:=by rw [el,hang_len];exact l2
 have kept:Kept L (lift0 L b):=by
  rw [el]
  refine Kept.trans (B:=L1) (by rw [hL1];exact hang_kept _ _ _ _) (Kept.trans (B:=L2) (by rw [hL2];exact hang_kept _ _ _ _) (hang_kept _ _ _ _))
 have cts:∀j w,ct (gt (lift0 L b) j) w=ct (gt L j) w:=fun j w=>by
  rw [el,(hang_rest _ _ _ _ _).2.2 w,hL2,(hang_rest _ _ _ _ _).2.2 w,hL1,(hang_rest _ _ _ _ _).2.2 w]
 have qb:Q.ix≠0→Q.ix≠b:=fun h e=>nbQ (e▸ix_mem h)
 have qa:Q.ix≠0→Q.ix≠a:=fun h e=>nQa _ (ix_mem h) e
 have stay:∀j,j≠a→j≠b→(Q.ix≠0→Q.ix≠j)→(upOf c≠j)→Hg L (lift0 L b) j:=fun j ja jb jq ju=>by
  refine ⟨?_,fun d=> ?_⟩
  ·rw [up3,if_neg (Ne.symm ja),up2,if_neg (fun q=>jq q.2 q.1),up1,if_neg (Ne.symm jb)]
  ·rw [dn3,if_neg (fun q=>jb q.1.symm),dn2,if_neg (fun q=>ja q.1.symm),dn1,if_neg (fun q=>ju q.1)]
 have rP:Rep (lift0 L b) b P:=b6.same l3 (fun i hi=>(stay i (nPa i hi) (fun e=>nbP (e▸hi)) (fun h e=>nPQ i hi _ (ix_mem h) e.symm) (uN i (b6.mem i hi).1 (nPC i hi))).alike)
 have rZ:Rep (lift0 L b) a Z:=a7.same l3 (fun i hi=>(stay i (fun e=>naZ (e▸hi)) (fun e=>nbZ (e▸hi)) (fun h e=>nQZ _ (ix_mem h) (e▸hi)) (uN i (a7.mem i hi).1 (fun hh=>nZC i hi i hh rfl))).alike)
 have rQ:Rep (lift0 L b) a Q:=b7.moved l3 nQ (fun i hi=>⟨fun d=> ?_,fun hne=> ?_⟩) (fun hne=> ?_)
 ·refine ⟨⟨rep_mk.2 ⟨b1,by omega, ?_, ?_, ?_,rP,rep_mk.2 ⟨a1,by omega, ?_, ?_, ?_,rQ,rZ⟩⟩, ?_, ?_,fun w=>by rw [cts];exact z.z w⟩,kept,cts,b3⟩
  ·rw [up3,if_neg nab,up2,if_neg (fun q=>qb q.2 q.1),up1,if_pos rfl]
  ·rw [dn3,if_neg (fun q=>by cases s <;>simp at q),dn2,if_neg (fun q=>nab q.1),dn1,if_neg (fun q=>ub q.1),b4]
  ·rw [dn3,if_pos ⟨rfl,rfl⟩,mk_ix]
  ·rw [up3,if_pos rfl]
  ·rw [dn3,if_neg (fun q=>nba q.1),dn2,if_pos ⟨rfl,rfl⟩]
  ·rw [dn3,if_neg (fun q=>nba q.1),dn2,if_neg (fun q=>by cases s <;>simp at q),dn1,if_neg (fun q=>ua q.1),a5]
  ·rw [mk_ix]
   have h1:RepC L1 c b:=by
        have:=(hang_ctx hc nC a6 (by have:=(mk_perm b s P Q).nodup_iff.2 (List.nodup_cons.2 ⟨by simp [nbP,nbQ],List.nodup_append.2 ⟨nP,nQ,nPQ⟩⟩);exact this) (fun i hi=>by
         rcases mk_mem.1 hi with e|h|h
         ·rw [e];exact nbC
         ·exact nPC i h
         ·exact nQC i h)).2
        rw [mk_ix, ←hL1] at this
        exact this
   refine h1.same (by omega) (fun j hj=>Hg.alike ⟨?_,fun d=> ?_⟩) ⟨?_, ?_⟩
   ·rw [up3,if_neg (fun (e:a=j)=>naC (e▸hj)),up2,if_neg (fun (q:Q.ix=j∧Q.ix≠0)=>nQC _ (ix_mem q.2) (q.1▸hj))]
   ·rw [dn3,if_neg (fun (q:b=j∧d=(!s))=>nbC (q.1▸hj)),dn2,if_neg (fun (q:a=j∧d=s)=>naC (q.1▸hj))]
   ·have:=dn3 0 false
    rw [if_neg (fun q=>b1 q.1),dn2,if_neg (fun q=>a1 q.1)] at this
    simpa [dn] using this
   ·have:=dn3 0 true
    rw [if_neg (fun q=>b1 q.1),dn2,if_neg (fun q=>a1 q.1)] at this
    simpa [dn] using this
  ·refine (List.Perm.nodup_iff (List.Perm.append_right (cids c) ?_)).1 z.nd
   refine (mk_perm a s _ Z).trans (List.Perm.trans ?_ (mk_perm b s P _).symm)
   refine (List.Perm.cons _ ((mk_perm b s P Q).append_right _)).trans ?_
   refine List.Perm.trans ?_ (List.Perm.cons _ ((mk_perm a s Q Z).symm.append_left _))
   rw [List.cons_append]
   refine (List.Perm.swap _ _ _).trans (List.Perm.cons _ ?_)
   rw [List.append_assoc]
   exact List.perm_middle.symm
 ·rw [dn3,if_neg (fun (q:b=i∧d=(!s))=>nbQ (q.1▸hi)),dn2,if_neg (fun q=>nQa i hi q.1.symm),dn1,if_neg (fun q=>uN i (b7.mem i hi).1 (nQC i hi) q.1)]
 ·rw [up3,if_neg (fun e=>nQa i hi e.symm),up2,if_neg (fun q=>hne q.1.symm),up1,if_neg (fun (e:b=i)=>nbQ (e▸hi))]
 ·rw [up3,if_neg (fun e=>qa hne e.symm),up2,if_pos ⟨rfl,hne⟩]
theorem mk_turn (a b:Nat) (s:Bool) (P Q Z:T):(mk b s P (mk a s Q Z)).ids=(mk a s (mk b s P Q) Z).ids:=by
 cases s <;>simp [mk,T.ids]
end
section
theorem tallyW_len (L:List Sp) (a:Nat) (w:Bool):(tallyW L a w).length=L.length:=by simp [tallyW]
theorem tallyW_rest (L:List Sp) (a:Nat) (w:Bool) (j:Nat):(gt (tallyW L a w) j).up=(gt L j).up∧(gt (tallyW L a w) j).l=(gt L j).l∧(gt (tallyW L a w) j).r=(gt L j).r∧(gt (tallyW L a w) j).sh=(gt L j).sh∧(gt (tallyW L a w) j).kp=(gt L j).kp:=by
 unfold tallyW
 rw [gt_md]
 split
 ·cases w <;>simp
 ·simp
theorem tallyW_ct (L:List Sp) (a:Nat) (w:Bool) (j:Nat) (w':Bool):ct (gt (tallyW L a w) j) w'=if a=j∧w'=w∧a<L.length then upTo L a w+under L a true w else ct (gt L j) w':=by
 unfold tallyW
 rw [gt_md]
 by_cases e:a=j∧a<L.length
 ·obtain ⟨rfl,e2⟩:=e
  cases w <;>cases w' <;>simp [ct,e2]
 ·rw [if_neg e,if_neg (fun q=>e ⟨q.1,q.2.2⟩)]
theorem tally_len (L:List Sp) (a:Nat):(tally L a).length=L.length:=by unfold tally;rw [tallyW_len,tallyW_len]
theorem tally_kept (L:List Sp) (a:Nat):Kept L (tally L a):=by
 refine ⟨tally_len _ _,fun j=> ?_,fun j=> ?_⟩
 ·unfold tally;rw [(tallyW_rest _ _ _ _).2.2.2.1,(tallyW_rest _ _ _ _).2.2.2.1]
 ·unfold tally;rw [(tallyW_rest _ _ _ _).2.2.2.2,(tallyW_rest _ _ _ _).2.2.2.2]
theorem tally_alike (L:List Sp) (a j:Nat):Alike L (tally L a) j:=by
 unfold tally
 exact ⟨by rw [(tallyW_rest _ _ _ _).1,(tallyW_rest _ _ _ _).1],by rw [(tallyW_rest _ _ _ _).2.1,(tallyW_rest _ _ _ _).2.1],by rw [(tallyW_rest _ _ _ _).2.2.1,(tallyW_rest _ _ _ _).2.2.1]⟩
theorem tally_ct (L:List Sp) (a j:Nat) (w:Bool):ct (gt (tally L a) j) w=if a=j∧a<L.length then upTo L a w+under L a true w else ct (gt L j) w:=by
 unfold tally
 rw [tallyW_ct,tallyW_len]
 cases w with
 |true =>
  by_cases e:a=j∧a<L.length
  ·rw [if_pos ⟨e.1,rfl,e.2⟩,if_pos e]
   unfold upTo under own
   simp only [dn]
   rw [(tallyW_rest _ _ _ _).2.1,(tallyW_rest _ _ _ _).2.2.1,(tallyW_rest _ _ _ _).2.2.2.1]
   simp [tallyW_ct]
  ·rw [if_neg (fun q=>e ⟨q.1,q.2.2⟩),if_neg e,tallyW_ct,if_neg (fun q=>by simp at q)]
 |false =>
  rw [if_neg (fun q=>by simp at q),tallyW_ct]
  by_cases e:a=j∧a<L.length
  ·rw [if_pos ⟨e.1,rfl,e.2⟩,if_pos e]
  ·rw [if_neg (fun q=>e ⟨q.1,q.2.2⟩),if_neg e]
theorem Zip.tally {L:List Sp} {c:Ctx} {t:T} (z:Zip L c t) {a:Nat} (h:a≠0):Zip (tally L a) c t:=by
 refine ⟨z.rep.same (tally_len _ _) (fun i _=>tally_alike L a i),z.repc.same (tally_len _ _) (fun i _=>tally_alike L a i) ⟨(tally_alike L a 0).l,(tally_alike L a 0).r⟩,z.nd,fun w=> ?_⟩
 rw [tally_ct,if_neg (fun q=>h q.1)]
 exact z.z w
theorem Cnt.tally {L:List Sp} {t:T} (h:Cnt L t) {a:Nat} (ha:a∉t.ids):Cnt (tally L a) t :=
 h.same (fun i hi=>⟨(tally_kept L a).sh i,fun w=>by rw [tally_ct,if_neg (fun (q:a=i∧_)=>ha (q.1▸hi))]⟩)
theorem CntC.tally {L:List Sp} {c:Ctx} (h:CntC L c) {a:Nat} (ha:a∉cids c):CntC (tally L a) c :=
 h.same (fun i hi=>⟨(tally_kept L a).sh i,fun w=>by rw [tally_ct,if_neg (fun (q:a=i∧_)=>ha (q.1▸hi))]⟩)
theorem mk_flip (i:Nat) (s:Bool) (t o:T):mk i s t o=mk i (!s) o t:=by cases s <;>simp [mk]
theorem cnt_mk {L:List Sp} {i:Nat} {s:Bool} {t o:T}:Cnt L (mk i s t o)↔(∀w,ct (gt L i) w=cnt L w t+(if w=false∨(gt L i).sh=true then 1 else 0)+cnt L w o)∧Cnt L t∧Cnt L o:=by
 cases s
 ·simp only [mk,Bool.false_eq_true,if_false,Cnt]
  constructor
  ·rintro ⟨a,b⟩;exact ⟨fun w=>by rw [a w,cnt_nd],b⟩
  ·rintro ⟨a,b⟩;exact ⟨fun w=>by rw [a w,cnt_nd],b⟩
 ·simp only [mk,if_true,Cnt]
  constructor
  ·rintro ⟨a,b,d⟩;exact ⟨fun w=>by rw [a w,cnt_nd];omega,d,b⟩
  ·rintro ⟨a,b,d⟩;exact ⟨fun w=>by rw [a w,cnt_nd];omega,d,b⟩
theorem tally_cnt {L:List Sp} {c:Ctx} {i:Nat} {s:Bool} {t o:T} (z:Zip L c (mk i s t o)) (ht:Cnt L t) (ho:Cnt L o):Cnt (tally L i) (mk i s t o):=by
 obtain ⟨h1,h2,h3,h4,h5,h6,h7⟩:=rep_mk.1 z.rep
 have nd:=(((mk_perm i s t o).append_right _).nodup_iff.1 z.nd)
 simp only [List.cons_append,List.nodup_cons,List.mem_append,not_or,List.nodup_append] at nd
 have a1:=ht.tally nd.1.1.1
 have a2:=ho.tally nd.1.1.2
 refine cnt_mk.2 ⟨fun w=> ?_,a1,a2⟩
 rw [tally_ct,if_pos ⟨rfl,h2⟩,cnt_same (t:=t) (fun j _=>(tally_kept L i).sh j),cnt_same (t:=o) (fun j _=>(tally_kept L i).sh j),(tally_kept L i).sh]
 have e1:=ht.at z.z w
 have e2:=ho.at z.z w
 rw [←h4] at e1
 rw [←h5] at e2
 unfold upTo under own
 cases s
 ·simp only [Bool.not_false] at e2
  rw [e1,e2]
 ·simp only [Bool.not_true] at e2
  rw [e1,e2];omega
theorem lift_zip {L:List Sp} {c:Ctx} {a b:Nat} {s:Bool} {P Q Z:T} (z:Zip L c (mk a s (mk b s P Q) Z)) (hP:Cnt L P) (hQ:Cnt L Q) (hZ:Cnt L Z) :
 Zip (lift L b) c (mk b s P (mk a s Q Z))∧Cnt (lift L b) (mk b s P (mk a s Q Z))∧Kept L (lift L b)∧(∀j,j≠a→j≠b→∀w,ct (gt (lift L b) j) w=ct (gt L j) w):=by
 obtain ⟨z1,k1,c1,e1⟩:=lift0_zip z
 have nd:=(((mk_perm b s P _).append_right _).nodup_iff.1 z1.nd)
 simp only [List.cons_append,List.nodup_cons,List.mem_append,not_or,List.nodup_append,mk_mem] at nd
 have hb:b≠0:=(rep_mk.1 z1.rep).1
 have ha:a≠0:=(rep_mk.1 (rep_mk.1 z1.rep).2.2.2.2.2.2).1
 have sm:∀{t:T},Cnt L t→Cnt (lift0 L b) t:=fun h=>h.same (fun i _=>⟨k1.sh i,fun w=>c1 i w⟩)
 have zin:Zip (lift0 L b) ((b, !s,P)::c) (mk a s Q Z):=by
  rw [mk_flip b] at z1;exact z1.into
 have c2:=tally_cnt zin (sm hQ) (sm hZ)
 have z2:=z1.tally ha
 have naP:a∉P.ids:=fun h=>nd.2.1.2.2 a h a (.inl rfl) rfl
 have cP2:=(sm hP).tally naP
 have c3:=tally_cnt z2 cP2 c2
 unfold lift
 rw [e1]
 refine ⟨z2.tally hb,c3,k1.trans ((tally_kept _ _).trans (tally_kept _ _)),fun j ja jb w=> ?_⟩
 rw [tally_ct,if_neg (fun q=>jb q.1.symm),tally_ct,if_neg (fun q=>ja q.1.symm),c1]
theorem wt_pos (L:List Sp) (a:Nat):1≤wt L a:=by unfold wt;omega
theorem wt_nil {L:List Sp} (h:∀w,ct (gt L 0) w=0):wt L 0=1:=by
 have:=h false
 simp [ct] at this
 simp [wt,this]
theorem as_mk (s:Bool) {t:T} (h:t.ix≠0):∃P Q,t=mk t.ix s P Q:=by
 cases t with
 |nil=>simp [T.ix] at h
 |nd i l r =>
  cases s
  ·exact ⟨l,r,rfl⟩
  ·exact ⟨r,l,rfl⟩
theorem evenAt_zip {L:List Sp} {c:Ctx} {i:Nat} {s:Bool} {B Z:T} (z:Zip L c (mk i s B Z)) (hc:Cnt L (mk i s B Z)) (hcc:CntC L c) (hh:heavyAt L i s=true) :
 ∃t',(evenAt L i s).2=t'.ix∧t'.ix≠0∧Zip (evenAt L i s).1 c t'∧Cnt (evenAt L i s).1 t'∧CntC (evenAt L i s).1 c∧Kept L (evenAt L i s).1∧t'.ids=(mk i s B Z).ids:=by
 obtain ⟨h1,h2,h3,h4,h5,h6,h7⟩:=rep_mk.1 z.rep
 obtain ⟨_,cB,cZ⟩:=cnt_mk.1 hc
 have hB:B.ix≠0:=fun e=>by
  unfold heavyAt at hh
  rw [h4,h5,e,wt_nil z.z] at hh
  have:=wt_pos L Z.ix
  simp at hh
  omega
 obtain ⟨P,Q,eB⟩:=as_mk s hB
 have hp:∃p,B.ix=p:=⟨_,rfl⟩
 obtain ⟨p,hp⟩:=hp
 rw [hp] at eB hB h4
 subst eB
 rw [mk_ix] at hp
 obtain ⟨b1,b2,b3,b4,b5,b6,b7⟩:=rep_mk.1 h6
 obtain ⟨_,cP,cQ⟩:=cnt_mk.1 cB
 have nd:=((mk_perm i s _ Z).append_right (cids c)).nodup_iff.1 z.nd
 simp only [List.cons_append,List.nodup_cons,List.mem_append,not_or,List.nodup_append,mk_mem] at nd
 obtain ⟨⟨⟨⟨nip,niP,niQ⟩,niZ⟩,niC⟩,⟨⟨nB,nZ,nBZ⟩,nC,nBC⟩⟩:=nd
 have ccs:∀(L':List Sp),(∀j,(gt L' j).sh=(gt L j).sh)→(∀j∈cids c,∀w,ct (gt L' j) w=ct (gt L j) w)→CntC L' c:=fun L' a b=>hcc.same (fun j hj=>⟨a j,b j hj⟩)
 unfold evenAt
 simp only [h4,b4,b5]
 by_cases hin:2*wt L P.ix≤wt L Q.ix
 ·rw [if_pos hin]
  have hQ:Q.ix≠0:=fun e=>by
   rw [e,wt_nil z.z] at hin
   have:=wt_pos L P.ix
   omega
  obtain ⟨P',Q',eQ⟩:=as_mk (!s) hQ
  have hq:∃q,Q.ix=q:=⟨_,rfl⟩
  obtain ⟨q,hq⟩:=hq
  rw [hq] at eQ hQ b5
  subst eQ
  simp only [mk_ix]
  obtain ⟨_,cP',cQ'⟩:=cnt_mk.1 cQ
  have zin:Zip L ((i,s,Z)::c) (mk p (!s) (mk q (!s) P' Q') P):=by
   have:=z.into
   rwa [mk_flip p] at this
  obtain ⟨z1,c1,k1,e1⟩:=lift_zip zin cP' cQ' cP
  have z1o:=z1.out
  rw [mk_flip q (!s),Bool.not_not] at z1o c1
  obtain ⟨_,cX,cP1⟩:=cnt_mk.1 c1
  have nqZ:∀j∈Z.ids,j≠p∧j≠q:=fun j hj=>⟨fun e=>nBZ p (.inl rfl) j hj e.symm,fun e=>nBZ q (.inr (.inr (mk_mem.2 (.inl rfl)))) j hj e.symm⟩
  have cZ1:Cnt (lift L q) Z:=cZ.same (fun j hj=>⟨k1.sh j,fun w=>e1 j (nqZ j hj).1 (nqZ j hj).2 w⟩)
  obtain ⟨z2,c2,k2,e2⟩:=lift_zip z1o cX cP1 cZ1
  refine ⟨_,(mk_ix _ _ _ _).symm,by rw [mk_ix];exact hQ,z2,c2,ccs _ (fun j=>(k1.trans k2).sh j) (fun j hj w=> ?_),k1.trans k2, ?_⟩
  ·have x1:j≠i:=fun e=>niC (e▸hj)
   have x2:j≠p:=fun e=>nBC p (.inl (.inl rfl)) j hj e.symm
   have x3:j≠q:=fun e=>nBC q (.inl (.inr (.inr (mk_mem.2 (.inl rfl))))) j hj e.symm
   rw [e2 j x1 x3,e1 j x2 x3]
  ·rw [mk_turn]
   cases s <;>simp [mk,T.ids]
 ·rw [if_neg hin]
  obtain ⟨z1,c1,k1,e1⟩:=lift_zip z cP cQ cZ
  refine ⟨_,(mk_ix _ _ _ _).symm,by rw [mk_ix];exact b1,z1,c1,ccs _ k1.sh (fun j hj w=> ?_),k1,mk_turn _ _ _ _ _ _⟩
  exact e1 j (fun e=>niC (e▸hj)) (fun e=>nBC p (.inl (.inl rfl)) j hj e.symm) w
theorem even_zip {L:List Sp} {c:Ctx} {i:Nat} {l r:T} (z:Zip L c (.nd i l r)) (hc:Cnt L (.nd i l r)) (hcc:CntC L c) :
 ∃t',(even L i).2=t'.ix∧t'.ix≠0∧Zip (even L i).1 c t'∧Cnt (even L i).1 t'∧CntC (even L i).1 c∧Kept L (even L i).1∧t'.ids=(T.nd i l r).ids:=by
 unfold even
 split
 ·next h=>exact evenAt_zip (s:=false) (B:=l) (Z:=r) z hc hcc h
 ·split
  ·next h=>exact evenAt_zip (s:=true) (B:=r) (Z:=l) z hc hcc h
  ·exact ⟨.nd i l r,rfl,z.rep.1,z,hc,hcc,Kept.refl _,rfl⟩
def Mid (L:List Sp) (c:Ctx) (t:T):Prop:=Zip L c t∧CntC L c∧∃i l r,t= .nd i l r∧Cnt L l∧Cnt L r
def Up (L:List Sp) (c:Ctx) (t:T):Prop:=Zip L c t∧CntC L c∧Cnt L t
theorem Mid.step {L:List Sp} {c:Ctx} {t:T} (m:Mid L c t):∃t',(even (tally L t.ix) t.ix).2=t'.ix∧(gt (even (tally L t.ix) t.ix).1 t'.ix).up=upOf c∧t'.ix≠0∧Up (even (tally L t.ix) t.ix).1 c t'∧Kept L (even (tally L t.ix) t.ix).1∧t'.ids=t.ids:=by
 obtain ⟨z,hcc,i,l,r,rfl,hl,hr⟩:=m
 have hi:i≠0:=z.rep.1
 have nd:i∉cids c:=fun h=>by
  have:=z.nd
  rw [List.nodup_append] at this
  exact this.2.2 i (by simp [T.ids]) i h rfl
 obtain ⟨t',e,h0,z',c',cc',k',ids⟩:=even_zip (z.tally hi) (tally_cnt (s:=false) z hl hr) (hcc.tally nd)
 exact ⟨t',e,z'.up h0,h0,⟨z',cc',c'⟩,(tally_kept _ _).trans k',ids⟩
theorem Up.next {L:List Sp} {c:Ctx} {t:T} (u:Up L c t):(c=[]∧upOf c=0)∨∃i s o c',c=(i,s,o)::c'∧upOf c=i∧i≠0∧Mid L c' (mk i s t o):=by
 cases c with
 |nil=>exact .inl ⟨rfl,rfl⟩
 |cons f c =>
  obtain ⟨i,s,o⟩:=f
  obtain ⟨z,⟨co,cc⟩,ct⟩:=u
  refine .inr ⟨i,s,o,c,rfl,rfl,z.repc.1,z.out,cc, ?_⟩
  cases s
  ·exact ⟨i,t,o,rfl,ct,co⟩
  ·exact ⟨i,o,t,rfl,co,ct⟩
def dep (f:Nat→Nat):Nat→Nat→Nat
 |0,_=>0
 |n+1,a=>if a=0 then 0 else dep f n (f a)+1
theorem dep_ctx {L:List Sp} (f:Nat→Nat) (hf:∀a,a<L.length→f a=(gt L a).up):∀(c:Ctx) (h n:Nat),RepC L c h→c.length≤n→dep f n (upOf c)=c.length
 |[],h,n,_,_=>by cases n <;>simp [dep,upOf]
 |(i,s,o)::c,h,0,hc,hn=>by simp at hn
 |(i,s,o)::c,h,n+1,hc,hn=>by
  obtain ⟨h1,h2,h3,h4,h5,h6,h7⟩:=hc
  simp only [dep,upOf,if_neg h1,List.length_cons]
  rw [hf i h2,h3,dep_ctx f hf c i n h7 (by simpa using hn)]
  simp [h1]
theorem ctx_len {L:List Sp} {c:Ctx} {h:Nat} (hc:RepC L c h) (hn:(cids c).Nodup):c.length<L.length:=by
 have h1:c.length≤(cids c).length:=by
  clear hc hn
  induction c with
  |nil=>simp [cids]
  |cons f c ih=>obtain ⟨i,s,o⟩:=f;simp [cids];omega
 have h2:(cids c).length<L.length:=by
  have:(0::cids c).Nodup:=List.nodup_cons.2 ⟨fun h=>(hc.mem 0 h).1 rfl,hn⟩
  have:=this.length_le_of_subset (l₂:=List.range L.length) (fun i hi=>by
   rcases List.mem_cons.1 hi with rfl|hi
   ·exact List.mem_range.2 hc.pos
   ·exact List.mem_range.2 (hc.mem i hi).2)
  simp at this
  omega
 omega
end
section
theorem gt_app (L:List Sp) (x:Sp) {i:Nat} (h:i<L.length):gt (L++[x]) i=gt L i:=by
 unfold gt
 rw [List.getD_eq_getElem?_getD,List.getD_eq_getElem?_getD,List.getElem?_append_left h]
theorem gt_new (L:List Sp) (x:Sp):gt (L++[x]) L.length=x:=by
 unfold gt
 simp
theorem Rep.same' {L L':List Sp}:∀{t:T} {p:Nat},Rep L p t→(∀i∈t.ids,i<L'.length∧Alike L L' i)→Rep L' p t
 | .nil,_,_,_=>trivial
 | .nd i l r,p,h,hs=>by
   obtain ⟨h1,h2,h3,h4,h5,h6,h7⟩:=h
   obtain ⟨hl,e⟩:=hs i (by simp [T.ids])
   refine ⟨h1,hl,by rw [e.up];exact h3,by rw [e.l];exact h4,by rw [e.r];exact h5, ?_, ?_⟩
   ·exact Rep.same' h6 (fun j hj=>hs j (by simp [T.ids,hj]))
   ·exact Rep.same' h7 (fun j hj=>hs j (by simp [T.ids,hj]))
theorem RepC.same' {L L':List Sp}:∀{c:Ctx} {h:Nat},RepC L c h→(∀i∈cids c,i<L'.length∧Alike L L' i)→(0<L'.length∧(gt L' 0).l=(gt L 0).l∧(gt L' 0).r=(gt L 0).r)→RepC L' c h
 |[],h,⟨a,b,d⟩,_,h0=>⟨h0.1,by rw [h0.2.2];exact b,by rw [h0.2.1];exact d⟩
 |(i,s,o)::c,h,⟨h1,h2,h3,h4,h5,h6,h7⟩,hs,h0=>by
  obtain ⟨hl,e⟩:=hs i (by simp [cids])
  refine ⟨h1,hl,by rw [e.up];exact h3, ?_, ?_,Rep.same' h6 (fun j hj=>hs j (by simp [cids,hj])),RepC.same' h7 (fun j hj=>hs j (by simp [cids,hj])) h0⟩
  ·simp only [Sq.dn,e.l,e.r] at h4 ⊢;exact h4
  ·simp only [Sq.dn,e.l,e.r] at h5 ⊢;exact h5
theorem Zip.app {L:List Sp} {c:Ctx} {t:T} (z:Zip L c t) (x:Sp):Zip (L++[x]) c t:=by
 have al:∀i,i<L.length→i<(L++[x]).length∧Alike L (L++[x]) i:=fun i hi=>⟨by simp;omega,by rw [gt_app L x hi] <;>exact hi,by rw [gt_app L x hi] <;>exact hi,by rw [gt_app L x hi] <;>exact hi⟩
 refine ⟨z.rep.same' (fun i hi=>al i (z.rep.mem i hi).2),z.repc.same' (fun i hi=>al i (z.repc.mem i hi).2) ⟨by simp, ?_, ?_⟩,z.nd,fun w=> ?_⟩
 ·rw [gt_app L x z.repc.pos]
 ·rw [gt_app L x z.repc.pos]
 ·rw [gt_app L x z.repc.pos];exact z.z w
theorem CntC.app {L:List Sp} {c:Ctx} {k:Nat} (h:CntC L c) (r:RepC L c k) (x:Sp):CntC (L++[x]) c :=
 h.same (fun i hi=>by rw [gt_app L x (r.mem i hi).2];exact ⟨rfl,fun _=>rfl⟩)
theorem Zip.unplug {L:List Sp}:∀{c:Ctx} {t:T},Zip L [] (Sq.plug c t)→Zip L c t
 |[],t,z=>z
 |(i,s,o)::c,t,z=>(Zip.unplug (c:=c) z).into
theorem Cnt.unplug {L:List Sp}:∀{c:Ctx} {t:T},Cnt L (plug c t)→CntC L c∧Cnt L t
 |[],t,h=>⟨trivial,h⟩
 |(i,s,o)::c,t,h=>by
  obtain ⟨a,b⟩:=Cnt.unplug (c:=c) (t:=mk i s t o) h
  obtain ⟨_,b1,b2⟩:=cnt_mk.1 b
  exact ⟨⟨b2,a⟩,b1⟩
theorem focus:∀{t:T} {i:Nat} (c0:Ctx),i∈t.ids→∃c l r,plug c0 t=plug c (.nd i l r)
 | .nil,i,c0,h=>by simp [T.ids] at h
 | .nd j l r,i,c0,h=>by
   simp only [T.ids,List.mem_append,List.mem_cons] at h
   rcases h with h|rfl|h
   ·obtain ⟨c,a,b,e⟩:=focus ((j,false,r)::c0) h
    exact ⟨c,a,b,by rw [←e];rfl⟩
   ·exact ⟨c0,l,r,rfl⟩
   ·obtain ⟨c,a,b,e⟩:=focus ((j,true,l)::c0) h
    exact ⟨c,a,b,by rw [←e];rfl⟩
def lft:T→Ctx→Ctx
 | .nil,c=>c
 | .nd i l r,c=>lft l ((i,false,r)::c)
theorem lft_plug:∀(t:T) (c:Ctx),plug (lft t c) .nil=plug c t
 | .nil,c=>rfl
 | .nd i l r,c=>by rw [lft,lft_plug l];rfl
theorem lft_pre:∀(t:T) (c:Ctx),pre (lft t c)=pre c
 | .nil,c=>rfl
 | .nd i l r,c=>by rw [lft,lft_pre l];simp [pre]
theorem lft_post:∀(t:T) (c:Ctx),post (lft t c)=t.ids++post c
 | .nil,c=>by simp [lft,T.ids]
 | .nd i l r,c=>by rw [lft,lft_post l];simp [post,T.ids]
theorem lft_zip {L:List Sp}:∀{t:T} {c:Ctx},Zip L c t→Zip L (lft t c) .nil
 | .nil,c,z=>z
 | .nd i l r,c,z=>lft_zip (t:=l) (Zip.into (s:=false) z)
theorem lft_cnt {L:List Sp}:∀{t:T} {c:Ctx},CntC L c→Cnt L t→CntC L (lft t c)
 | .nil,c,a,_=>a
 | .nd i l r,c,a,b=>lft_cnt (t:=l) (c:=(i,false,r)::c) ⟨b.2.2,a⟩ b.2.1
theorem lft_sd:∀(t:T) (c:Ctx),t≠ .nil→sd (lft t c)=false
 | .nil,c,h=>absurd rfl h
 | .nd i .nil r,c,_=>rfl
 | .nd i (.nd j a b) r,c,_=>lft_sd (.nd j a b) _ (by simp)
def lsp:T→Nat
 | .nil=>0
 | .nd _ l _=>lsp l+1
theorem dep_lsp {L:List Sp}:∀(t:T) (p n:Nat),Rep L p t→lsp t≤n→dep (fun a=>(gt L a).l) n t.ix=lsp t
 | .nil,p,n,_,_=>by cases n <;>simp [dep,T.ix,lsp]
 | .nd i l r,p,0,_,hn=>by simp [lsp] at hn
 | .nd i l r,p,n+1,h,hn=>by
   obtain ⟨h1,h2,h3,h4,h5,h6,h7⟩:=h
   show (if i=0 then 0 else dep (fun a=>(gt L a).l) n (gt L i).l+1)=lsp l+1
   rw [if_neg h1,h4,dep_lsp l i n h6 (by simpa [lsp] using hn)]
theorem lsp_le:∀(t:T),lsp t≤t.ids.length
 | .nil=>by simp [lsp]
 | .nd i l r=>by simp [lsp,T.ids];have:=lsp_le l;omega
def put0 (L:List Sp) (u:Nat) (b:Bool) (k:KpV):List Sp:=hang (L++[⟨k,true,0,0,0,0,0⟩]) u b L.length
theorem put0_mid {L:List Sp} {c:Ctx} (z:Zip L c .nil) (hc:CntC L c) (k:KpV):Mid (put0 L (upOf c) (sd c) k) c (.nd L.length .nil .nil):=by
 obtain ⟨x,hx⟩:∃x:Sp,x=⟨k,true,0,0,0,0,0⟩:=⟨_,rfl⟩
 have hp:=z.repc.pos
 have z1:=z.app x
 have nC:(cids c).Nodup:=by have:=z.nd;simpa [T.ids] using this
 have g:=gt_new L x
 have rt:Rep (L++[x]) 0 (.nd L.length .nil .nil):=⟨by omega,by simp,by rw [g,hx],by rw [g,hx];rfl,by rw [g,hx];rfl,trivial,trivial⟩
 have nl:L.length∉cids c:=fun h=>by have:=(z.repc.mem _ h).2;omega
 obtain ⟨a,b⟩:=hang_ctx z1.repc nC rt (by simp [T.ids]) (fun i hi=>by
  have:i=L.length:=by simpa [T.ids] using hi
  rw [this];exact nl)
 unfold put0
 rw [←hx]
 refine ⟨⟨a,b,by simp [T.ids];exact ⟨nl,nC⟩,fun w=> ?_⟩, ?_,_,_,_,rfl,trivial,trivial⟩
 ·have:=(hang_rest (L++[x]) (upOf c) (sd c) L.length 0).2.2 w
  exact this.trans (z1.z w)
 ·exact (hc.app z.repc x).same (fun i _=>⟨(hang_rest _ _ _ _ i).1,(hang_rest _ _ _ _ i).2.2⟩)
theorem put0_kept (L:List Sp) (u:Nat) (b:Bool) (k:KpV):Kept (L++[⟨k,true,0,0,0,0,0⟩]) (put0 L u b k):=hang_kept _ _ _ _
end
section
end
section
def move (L:List Sp) (f e:Nat):List Sp :=
 let L1:=repl L e f
 let L2:=md L1 f (fun _=>gt L1 e)
 hang (hang L2 f false (gt L2 f).l) f true (gt L2 f).r
def fill (L:List Sp) (f:Nat):List Sp:=(if f=L.length-1 then L else move L f (L.length-1)).take (L.length-1)
end
end Go.Proofs.YtifendlpeebofaaGreatDoor.Sq
namespace Go.Proofs.YtifendlpeebofaaGreatDoor
open Go.RowKit Sq
def KpV.c (k:KpV):List Value:=k.id.c++(k.bh.c++[.int .i64 k.fol])
def KpV.v (k:KpV):Value:= .agg (KpV.c k).toArray
structure KpV.ok (k:KpV):Prop where
 id:k.id.ok
 bh:k.bh.ok
theorem KpV.len {k:KpV} (h:KpV.ok k):(KpV.c k).length=67:=by simp [KpV.c,IdK.len h.id,IdK.len h.bh]
theorem KpV.one (k:KpV):∀v∈KpV.c k,v.oneCell'=true:=by
 intro v hv
 simp only [KpV.c,List.mem_append,List.mem_singleton] at hv
 rcases hv with h|h|rfl
 ·exact IdK.one _ v h
 ·exact IdK.one _ v h
 ·rfl
def Sp.t (s:Sp):List Value:=[.bool s.sh, .int .i64 (s.up:Int), .int .i64 (s.l:Int), .int .i64 (s.r:Int), .int .i64 (s.ca:Int), .int .i64 (s.cl:Int)]
def Sp.c (s:Sp):List Value:=KpV.c s.kp++Sp.t s
def Sp.v (s:Sp):Value:= .agg (Sp.c s).toArray
theorem Sp.len {s:Sp} (h:KpV.ok s.kp):(Sp.c s).length=73:=by simp [Sp.c,KpV.len h,Sp.t]
theorem Sp.one (s:Sp):∀v∈Sp.c s,v.oneCell'=true:=by
 intro v hv
 simp only [Sp.c,Sp.t,List.mem_append,List.mem_cons,List.not_mem_nil,or_false] at hv
 rcases hv with h|rfl|rfl|rfl|rfl|rfl|rfl
 ·exact KpV.one _ v h
 all_goals rfl
theorem zK_ok:KpV.ok zK:=⟨zId_ok,zId_ok⟩
def flatS (L:List Sp):List Value:=L.flatMap Sp.c
def OkS (L:List Sp):Prop:=∀s∈L,KpV.ok s.kp
theorem flatS_len:∀{L:List Sp},OkS L→(flatS L).length=73*L.length
 |[],_=>rfl
 |x::L,ok=>by
  have:=flatS_len (L:=L) (fun h hh=>ok h (by simp [hh]))
  simp only [flatS,List.flatMap_cons,List.length_append,Sp.len (ok x (by simp)),List.length_cons] at this ⊢
  omega
theorem flatS_get:∀{L:List Sp},OkS L→∀{i:Nat} {h:Sp},L[i]? =some h→∀{j:Nat} {v:Value},(Sp.c h)[j]? =some v→(flatS L)[73*i+j]? =some v
 |x::L,ok,0,h,hi,j,v,hj=>by
  simp only [List.getElem?_cons_zero,Option.some.injEq] at hi
  subst hi
  have hl:=(List.getElem?_eq_some_iff.1 hj).1
  rw [Nat.mul_zero,Nat.zero_add,flatS,List.flatMap_cons,List.getElem?_append_left hl]
  exact hj
 |x::L,ok,i+1,h,hi,j,v,hj=>by
  simp only [List.getElem?_cons_succ] at hi
  have:=flatS_get (L:=L) (fun h hh=>ok h (by simp [hh])) hi hj
  have l:=Sp.len (ok x (by simp))
  rw [flatS,List.flatMap_cons,List.getElem?_append_right (by omega),l,show 73*(i+1)+j-73=73*i+j by omega]
  exact this
 |[],_,i,h,hi,_,_,_=>by simp at hi
theorem flatS_app (L M:List Sp):flatS (L++M)=flatS L++flatS M:=by simp [flatS]
theorem gt_at {L:List Sp} {i:Nat} (h:i<L.length):L[i]? =some (gt L i):=by
 unfold gt
 rw [List.getD_eq_getElem?_getD,List.getElem?_eq_getElem h]
 rfl
theorem OkS.gt {L:List Sp} (h:OkS L) {i:Nat} (hi:i<L.length):KpV.ok (Sq.gt L i).kp:=h _ (List.mem_of_getElem? (gt_at hi))
structure SqAt (w:World) (rb ro g cap:Nat) (L:List Sp):Prop where
 hd:w.cell? ⟨rb,ro,none⟩=some (.slice (some ⟨g,0,none⟩) L.length cap)
 own:w.ownsRow 0 128 73 (.slice (some ⟨g,0,none⟩) L.length cap) L.length (flatS L)
 ok:OkS L
 ne:rb≠g
 len:L.length≤1400000000000
 bk:∃cs t,w.heap[rb]? =some (.cells cs t (0,0))
theorem SqAt.blk {w:World} {rb ro g cap:Nat} {L:List Sp} (h:SqAt w rb ro g cap L):∃cur,w.heap[g]? =some (.cells cur 128 (0,0))∧L.length≤cap∧cap≤maxLen∧cur.size=cap*73∧cur.toList.take (L.length*73)=flatS L:=by
 rcases h.own.2 with ⟨e,_⟩|⟨g',cap',cur,e,_,hg,r1,r2,r3,r4⟩
 ·cases e
 ·simp only [Value.slice.injEq,Option.some.injEq,Addr.mk.injEq] at e
  obtain ⟨⟨rfl,_⟩,_,rfl⟩:=e
  exact ⟨cur,hg,r1,r2,r3,r4⟩
theorem SqAt.keep {w w':World} {rb ro g cap:Nat} {L:List Sp} (h:SqAt w rb ro g cap L) (h1:w'.heap[rb]? =w.heap[rb]?) (h2:w'.heap[g]? =w.heap[g]?):SqAt w' rb ro g cap L:=by
 refine ⟨(World.cell?_of_block (a:=⟨rb,ro,none⟩) h1).trans h.hd,⟨h.own.1, ?_⟩,h.ok,h.ne,h.len,by rw [h1];exact h.bk⟩
 rcases h.own.2 with ⟨e,hn⟩|⟨g',cap',cur,e,hb,hg,r⟩
 ·exact .inl ⟨e,hn⟩
 ·have e2:=e
  simp only [Value.slice.injEq,Option.some.injEq,Addr.mk.injEq] at e2
  obtain ⟨⟨rfl,_⟩,_,rfl⟩:=e2
  exact .inr ⟨g,cap,cur,e,hb,h2.trans hg,r⟩
theorem SqAt.lt {w:World} {rb ro g cap:Nat} {L:List Sp} (h:SqAt w rb ro g cap L):rb<w.heap.size∧g<w.heap.size:=by
 obtain ⟨cur,hg,_⟩:=h.blk
 exact ⟨block_lt_of_cell h.hd,(Array.getElem?_eq_some_iff.1 hg).1⟩
theorem SqAt.drew {w:World} {rb ro g cap:Nat} {L:List Sp} (h:SqAt w rb ro g cap L):SqAt w.drew rb ro g cap L:=h.keep rfl rfl
theorem SqAt.range {w:World} {rb ro g cap:Nat} {L:List Sp} (h:SqAt w rb ro g cap L) {i:Nat} (hi:i<L.length):w.rangeAt g (73*i) (Sp.c (gt L i)):=fun j v hj=>by
 obtain ⟨cur,hg,_,_,_,ht⟩:=h.blk
 have e:=flatS_get h.ok (gt_at hi) hj
 rw [cell_of_row w g _ cur _ (0,0) hg]
 rw [←ht,List.getElem?_take] at e
 split at e
 ·simpa using e
 ·cases e
section
variable {w:World} {rb ro g cap i:Nat} {L:List Sp}
theorem R_sl (h:SqAt w rb ro g cap L):(Instr.loadAt 73 (.pointer (some ⟨rb,ro+0,none⟩))).run Tryz.prog w= .ok (.slice (some ⟨g,0,none⟩) L.length cap) w:=by
 have:=h.hd
 go_simp
theorem R_ix (hi:i<L.length) (hl:L.length≤1400000000000) (W:World):(Instr.indexAt 73 (.slice (some ⟨g,0,none⟩) L.length cap) (.int .i64 (i:Int))).run Tryz.prog W= .ok (.pointer (some ⟨g,73*i,none⟩)) W:=by
 have:(Instr.indexAt 73 (.slice (some ⟨g,0,none⟩) L.length cap) (.int .i64 (i:Int))).run Tryz.prog W= .ok (.pointer (some ⟨g,0+i*73,none⟩)) W:=by go_simp
 rw [this,Nat.zero_add,Nat.mul_comm]
theorem R_cell (h:SqAt w rb ro g cap L) (hi:i<L.length) (k:Nat) (v:Value) (hk:(Sp.t (gt L i))[k]? =some v):w.cell? ⟨g,73*i+(67+k),none⟩=some v:=by
 refine h.range hi (67+k) v ?_
 rw [Sp.c,List.getElem?_append_right (by rw [KpV.len (h.ok.gt hi)];omega),KpV.len (h.ok.gt hi),show 67+k-67=k by omega]
 exact hk
theorem R_sh (h:SqAt w rb ro g cap L) (hi:i<L.length):(Instr.loadAt 4 (.pointer (some ⟨g,73*i+67,none⟩))).run Tryz.prog w= .ok (.bool (gt L i).sh) w:=by
 have:=R_cell h hi 0 _ rfl
 go_simp
theorem R_up (h:SqAt w rb ro g cap L) (hi:i<L.length):(Instr.loadAt 3 (.pointer (some ⟨g,73*i+68,none⟩))).run Tryz.prog w= .ok (.int .i64 ((gt L i).up:Int)) w:=by
 have:=R_cell h hi 1 _ rfl
 go_simp
def nb (b:Bool):Nat:=if b then 1 else 0
theorem R_dn (h:SqAt w rb ro g cap L) (hi:i<L.length) (b:Bool):(Instr.loadAt 3 (.pointer (some ⟨g,73*i+69+nb b,none⟩))).run Tryz.prog w= .ok (.int .i64 (dn (gt L i) b:Int)) w:=by
 have:=R_cell h hi (2+nb b) (.int .i64 (dn (gt L i) b:Int)) (by cases b <;>rfl)
 rw [show 73*i+(67+(2+nb b))=73*i+69+nb b by omega] at this
 go_simp
theorem R_ct (h:SqAt w rb ro g cap L) (hi:i<L.length) (b:Bool):(Instr.loadAt 3 (.pointer (some ⟨g,73*i+71+nb b,none⟩))).run Tryz.prog w= .ok (.int .i64 (ct (gt L i) b:Int)) w:=by
 have:=R_cell h hi (4+nb b) (.int .i64 (ct (gt L i) b:Int)) (by cases b <;>rfl)
 rw [show 73*i+(67+(4+nb b))=73*i+71+nb b by omega] at this
 go_simp
theorem R_down (h:SqAt w rb ro g cap L) (hi:i<L.length):(Instr.loadAt 126 (.pointer (some ⟨g,73*i+69,none⟩))).run Tryz.prog w= .ok (.agg #[.int .i64 ((gt L i).l:Int), .int .i64 ((gt L i).r:Int)]) w:=by
 refine run_loadAt_mid (P:=Tryz.prog) w g (73*i+69) 126 [.int .i64 ((gt L i).l:Int), .int .i64 ((gt L i).r:Int)] _ (fun j v hv=> ?_) Tryz.underlying126 rfl (by kernel_rfl)
 have hj:j<2:=(List.getElem?_eq_some_iff.1 hv).1
 rw [show 73*i+69+j=73*i+(67+(2+j)) by omega]
 refine R_cell h hi (2+j) v ?_
 have:j=0∨j=1:=by omega
 rcases this with rfl|rfl <;>exact hv
theorem szK:(Tryz.prog.info? 78).map (·.size)=some 67:=by kernel_rfl
theorem R_kp (h:SqAt w rb ro g cap L) (hi:i<L.length):(Instr.loadAt 78 (.pointer (some ⟨g,73*i+0,none⟩))).run Tryz.prog w= .ok (KpV.v (gt L i).kp) w:=by
 refine run_loadAt_mid (P:=Tryz.prog) w g (73*i) 78 (KpV.c (gt L i).kp) _ (fun j v hv=> ?_) Tryz.underlying78 rfl (by rw [KpV.len (h.ok.gt hi)];exact szK)
 refine h.range hi j v ?_
 rw [Sp.c,List.getElem?_append_left (List.getElem?_eq_some_iff.1 hv).1]
 exact hv
theorem ix_ar (o:Nat) (b:Bool) (W:World):(Instr.indexAt 126 (.pointer (some ⟨g,o,none⟩)) (.int .i64 (nb b:Int))).run Tryz.prog W= .ok (.pointer (some ⟨g,o+nb b,none⟩)) W:=by
 cases b <;>simp only [nb,Bool.false_eq_true,if_false,if_true] <;>go_simp
theorem ix_a0 (o:Nat) (W:World):(Instr.indexAt 126 (.pointer (some ⟨g,o,none⟩)) (.int .i64 0)).run Tryz.prog W= .ok (.pointer (some ⟨g,o+nb false,none⟩)) W:=ix_ar o false W
theorem ix_a1 (o:Nat) (W:World):(Instr.indexAt 126 (.pointer (some ⟨g,o,none⟩)) (.int .i64 1)).run Tryz.prog W= .ok (.pointer (some ⟨g,o+nb true,none⟩)) W:=ix_ar o true W
theorem fg_75_0 (b o:Nat) (W:World):(Instr.fieldAt 75 (.pointer (some ⟨b,o,none⟩)) 0).run Tryz.prog W= .ok (.pointer (some ⟨b,o+0,none⟩)) W:=by go_simp
theorem fg_128_0 (b o:Nat) (W:World):(Instr.fieldAt 128 (.pointer (some ⟨b,o,none⟩)) 0).run Tryz.prog W= .ok (.pointer (some ⟨b,o+0,none⟩)) W:=by go_simp
theorem fg_128_1 (b o:Nat) (W:World):(Instr.fieldAt 128 (.pointer (some ⟨b,o,none⟩)) 1).run Tryz.prog W= .ok (.pointer (some ⟨b,o+67,none⟩)) W:=by go_simp
theorem fg_128_2 (b o:Nat) (W:World):(Instr.fieldAt 128 (.pointer (some ⟨b,o,none⟩)) 2).run Tryz.prog W= .ok (.pointer (some ⟨b,o+68,none⟩)) W:=by go_simp
theorem fg_128_3 (b o:Nat) (W:World):(Instr.fieldAt 128 (.pointer (some ⟨b,o,none⟩)) 3).run Tryz.prog W= .ok (.pointer (some ⟨b,o+69,none⟩)) W:=by go_simp
theorem fg_128_4 (b o:Nat) (W:World):(Instr.fieldAt 128 (.pointer (some ⟨b,o,none⟩)) 4).run Tryz.prog W= .ok (.pointer (some ⟨b,o+71,none⟩)) W:=by go_simp
end
theorem st_at {w:World} {g o n:Nat} {t ty:TypeId} {cur:Array Value} {v:Value} {vs:List Value} (hs:(Tryz.prog.info? t).map (·.size)=some n) (hv:v.cells=vs.toArray) (hl:vs.length=n) (h1:∀x∈vs,x.oneCell'=true) (hg:w.heap[g]? =some (.cells cur ty (0,0))) (hb:o+n≤cur.size) :
 (Instr.storeAt t (.pointer (some ⟨g,o,none⟩)) v).run Tryz.prog w= .ok () (w.setRow g (cur.toList.take o++vs++cur.toList.drop (o+vs.length)).toArray):=by
 have h:=run_storeCells_at Tryz.prog g o ty vs 0 cur w hg (by rw [hl];omega) h1
 rw [Nat.add_zero] at h
 cases hq:Tryz.prog.info? t with
 |none=>rw [hq] at hs;simp at hs
 |some ii =>
  rw [hq] at hs
  simp at hs
  have hcz:v.cells.size=ii.size:=by rw [hv];simp [hl,hs]
  simp only [Instr.storeAt,Instr.sureAddr,Sem.run_bind,Sem.run_pure,Result.andThen_ok,storeVar,sizeOf,typeInfo,hq,hv]
  simp [typeInfo,hq,hl,hs,h]
theorem setRow_heap_same {w:World} {g:Nat} {cur:Array Value} {t:TypeId} {fr:Nat × Nat} (cs:Array Value) (h:w.heap[g]? =some (.cells cur t fr)):(w.setRow g cs).heap[g]? =some (.cells cs t fr):=setRow_heap w g cur _ t _ h
theorem modify_mid (f:Sp→Sp) (y:Sp) (B:List Sp):∀(A:List Sp),(A++y::B).modify A.length f=A++f y::B
 |[]=>by simp
 |a::A=>by
  have:=modify_mid f y B A
  simp [this]
theorem gt_mid {A B:List Sp} {y:Sp}:gt (A++y::B) A.length=y:=by
 unfold gt
 simp
theorem OkS.mid {A B:List Sp} {y:Sp} (hA:OkS A) (hy:KpV.ok y.kp) (hB:OkS B):OkS (A++y::B):=fun x hx=>by
 rcases List.mem_append.1 hx with q|q
 ·exact hA x q
 ·rcases List.mem_cons.1 q with rfl|q
  ·exact hy
  ·exact hB x q
theorem SqAt.seg {w:World} {rb ro g cap:Nat} {L:List Sp} (h:SqAt w rb ro g cap L) {i k n:Nat} (hi:i<L.length) (f:Sp→Sp) (vs:List Value) (hn:vs.length=n) (hf:Sp.c (f (gt L i))=(Sp.c (gt L i)).take k++vs++(Sp.c (gt L i)).drop (k+n)) (hk:k+n≤73) (hok:KpV.ok (f (gt L i)).kp) (h1:∀x∈vs,x.oneCell'=true) {t:TypeId} {v:Value} (hs:(Tryz.prog.info? t).map (·.size)=some n) (hv:v.cells=vs.toArray) :
 ∃w',(Instr.storeAt t (.pointer (some ⟨g,73*i+k,none⟩)) v).run Tryz.prog w= .ok () w'∧SqAt w' rb ro g cap (md L i f)∧Tch (fun j=>j=g) w w'∧w'.heap.size=w.heap.size:=by
 obtain ⟨cur,hg,r1,r2,r3,r4⟩:=h.blk
 have hb:73*i+k+n≤cur.size:=by rw [r3];omega
 have e:=st_at hs hv hn h1 hg (o:=73*i+k) hb
 have tc:=setRow_tch w g (cur.toList.take (73*i+k)++vs++cur.toList.drop (73*i+k+vs.length)).toArray
 have hA:∃A y B,L=A++y::B∧A.length=i:=⟨L.take i,L[i],L.drop (i+1),by rw [←List.drop_eq_getElem_cons hi,List.take_append_drop],by simp;omega⟩
 obtain ⟨A,y,B,hL,hA⟩:=hA
 have hy:gt L i=y:=by rw [hL, ←hA];exact gt_mid
 have hset:md L i f=A++f y::B:=by rw [hL,md, ←hA];exact modify_mid f y B A
 have okA:OkS A:=fun x hx=>h.ok x (by rw [hL];simp [hx])
 have okB:OkS B:=fun x hx=>h.ok x (by rw [hL];simp [hx])
 have oky:KpV.ok y.kp:=h.ok y (by rw [hL];simp)
 rw [hy] at hf hok
 have okN:OkS (md L i f):=by rw [hset];exact okA.mid hok okB
 refine ⟨_,e,⟨?_,⟨?_, .inr ⟨g,cap,_,by rw [md_len],Nat.zero_le _,setRow_heap_same _ hg,by rw [md_len];exact r1,r2, ?_, ?_⟩⟩,okN,h.ne,by rw [md_len];exact h.len,by rw [tc.block rb h.lt.1 (fun q=>h.ne (by simpa using q.symm))];exact h.bk⟩,tc.mono (fun j _ q=>by simpa using q.symm),by simp [World.setRow]⟩
 ·rw [md_len]
  exact (World.cell?_of_block (a:=⟨rb,ro,none⟩) (tc.block rb h.lt.1 (fun q=>h.ne (by simpa using q.symm)))).trans h.hd
 ·rw [flatS_len okN,md_len,Nat.mul_comm]
 ·simp;omega
 ·rw [md_len,hset]
  have hlA:=flatS_len okA
  have hlB:=flatS_len okB
  have ly:=Sp.len oky
  have fc:flatS (A++f y::B)=(flatS A++(Sp.c y).take k)++vs++((Sp.c y).drop (k+n)++flatS B):=by
   rw [flatS_app,show flatS (f y::B)=Sp.c (f y)++flatS B from rfl,hf]
   simp
  have fc':flatS L=(flatS A++(Sp.c y).take k)++((Sp.c y).drop k).take n++((Sp.c y).drop (k+n)++flatS B):=by
   rw [hL,flatS_app,show flatS (y::B)=Sp.c y++flatS B from rfl]
   have:Sp.c y=(Sp.c y).take k++(((Sp.c y).drop k).take n++(Sp.c y).drop (k+n)):=by
      rw [←List.drop_drop,List.take_append_drop,List.take_append_drop]
   conv=>lhs;rw [this]
   simp
  rw [fc]
  rw [fc'] at r4
  have hLl:=congrArg List.length hL
  simp at hLl
  refine take_seg r4 ?_ ?_ ?_
  ·simp only [List.length_append,List.length_take,List.length_drop,hlA,hlB,ly]
   omega
  ·simp only [List.length_append,List.length_take,hlA,ly,hA]
   omega
  ·simp only [List.length_take,List.length_drop,ly,hn]
   omega
theorem SqAt.num {w:World} {rb ro g cap:Nat} {L:List Sp} (h:SqAt w rb ro g cap L) {i k:Nat} (hi:i<L.length) (f:Sp→Sp) {v:Value} (hkp:(f (gt L i)).kp=(gt L i).kp) (hf:Sp.t (f (gt L i))=(Sp.t (gt L i)).take k++[v]++(Sp.t (gt L i)).drop (k+1)) (hk:k<6) {t:TypeId} (hs:(Tryz.prog.info? t).map (·.size)=some 1) (hv:v.cells= #[v]) (h1:v.oneCell'=true) :
 ∃w',(Instr.storeAt t (.pointer (some ⟨g,73*i+(67+k),none⟩)) v).run Tryz.prog w= .ok () w'∧SqAt w' rb ro g cap (md L i f)∧Tch (fun j=>j=g) w w'∧w'.heap.size=w.heap.size:=by
 have l:=KpV.len (h.ok.gt hi)
 refine h.seg (n:=1) hi f [v] rfl ?_ (by omega) (by rw [hkp];exact h.ok.gt hi) (by simp [h1]) hs (by rw [hv])
 have e1:(KpV.c (gt L i).kp).take (67+k)=KpV.c (gt L i).kp:=List.take_of_length_le (by omega)
 have e2:(KpV.c (gt L i).kp).drop (67+k+1)=[]:=List.drop_of_length_le (by omega)
 rw [Sp.c,hkp,hf,Sp.c,List.take_append,List.drop_append,l,show 67+k-67=k by omega,show 67+k+1-67=k+1 by omega,e1,e2]
 simp
theorem tget {n:Nat} {t:Array Value} {d:Nat} {v:Value} (hs:t.size=n) (hd:d<n) (h:t.getD d undef=v):t[d]? =some v:=by
 have hl:d<t.size:=by omega
 rw [Array.getD_eq_getD_getElem?,Array.getElem?_eq_getElem hl] at h
 rw [Array.getElem?_eq_getElem hl]
 simpa using h
theorem hidMk {p:Prop} (h:p):Hid p:=h
structure Qt (w w':World):Prop where
 os:w'.os=w.os
 tape:w'.tape=w.tape
 output:w'.output=w.output
 heap:w'.heap=w.heap
theorem Qt.refl (w:World):Qt w w:=⟨rfl,rfl,rfl,rfl⟩
theorem Qt.trans {a b c:World} (h:Qt a b) (k:Qt b c):Qt a c:=⟨k.os.trans h.os,k.tape.trans h.tape,k.output.trans h.output,k.heap.trans h.heap⟩
theorem Qt.drew (w:World):Qt w w.drew:=⟨rfl,rfl,rfl,rfl⟩
theorem Qt.tch {w w':World} (h:Qt w w') (O:Nat→Prop):Tch O w w':=⟨h.os,h.tape,h.output,by rw [h.heap];exact Nat.le_refl _,fun k _ _=>by rw [h.heap]⟩
theorem Qt.size {w w':World} (h:Qt w w'):w'.heap.size=w.heap.size:=by rw [h.heap]
theorem Qt.below {w w':World} (h:Qt w w') (B:Nat):Below B w w':=⟨h.os,h.tape,h.output,by rw [h.heap];exact Nat.le_refl _,fun k _=>by rw [h.heap]⟩
theorem SqAt.qt {w w':World} {rb ro g cap:Nat} {L:List Sp} (h:SqAt w rb ro g cap L) (q:Qt w w'):SqAt w' rb ro g cap L:=h.keep (by rw [q.heap]) (by rw [q.heap])
theorem wrap64 {z:Int} (h1: -9223372036854775808≤z) (h2:z≤9223372036854775807):IntKind.i64.wrap z=z:=by
 simp only [IntKind.wrap,IntKind.bits,IntKind.signed]
 simp
 omega
section
variable {w:World} {a:Act} {o:Oper} {x y:Operand} {p q:Int}
theorem ex_add (ho:o.op= .binOp .add 3 x y 3) (hx:a.eval x= .int .i64 p) (hy:a.eval y= .int .i64 q) (h: -9223372036854775808≤p+q∧p+q≤9223372036854775807):(execOp a.eval o).run Tryz.prog w= .ok (.value (.int .i64 (p+q))) w:=by
 obtain ⟨h1,h2⟩:=h
 unfold execOp
 rw [ho]
 simp only [hx,hy]
 go_simp
 rw [wrap64 h1 h2]
theorem ex_sub (ho:o.op= .binOp .sub 3 x y 3) (hx:a.eval x= .int .i64 p) (hy:a.eval y= .int .i64 q) (h: -9223372036854775808≤p-q∧p-q≤9223372036854775807):(execOp a.eval o).run Tryz.prog w= .ok (.value (.int .i64 (p-q))) w:=by
 obtain ⟨h1,h2⟩:=h
 unfold execOp
 rw [ho]
 simp only [hx,hy]
 go_simp
 rw [wrap64 h1 h2]
theorem ex_mul (ho:o.op= .binOp .mul 3 x y 3) (hx:a.eval x= .int .i64 p) (hy:a.eval y= .int .i64 q) (h: -9223372036854775808≤p*q∧p*q≤9223372036854775807):(execOp a.eval o).run Tryz.prog w= .ok (.value (.int .i64 (p*q))) w:=by
 obtain ⟨h1,h2⟩:=h
 unfold execOp
 rw [ho]
 simp only [hx,hy]
 go_simp
 rw [wrap64 h1 h2]
theorem ex_addN {p q:Nat} (ho:o.op= .binOp .add 3 x y 3) (hx:a.eval x= .int .i64 (p:Int)) (hy:a.eval y= .int .i64 (q:Int)) (h:p+q≤9223372036854775807):(execOp a.eval o).run Tryz.prog w= .ok (.value (.int .i64 ((p+q:Nat):Int))) w:=by
 rw [Int.natCast_add]
 exact ex_add ho hx hy (by omega)
theorem ex_mulN {p q:Nat} (ho:o.op= .binOp .mul 3 x y 3) (hx:a.eval x= .int .i64 (p:Int)) (hy:a.eval y= .int .i64 (q:Int)) (h:p*q≤9223372036854775807):(execOp a.eval o).run Tryz.prog w= .ok (.value (.int .i64 ((p*q:Nat):Int))) w:=by
 have e:((p*q:Nat):Int)=(p:Int)*(q:Int):=Int.natCast_mul p q
 rw [e]
 refine ex_mul ho hx hy ?_
 rw [←e]
 omega
theorem ex_eql {r:Bool} (ho:o.op= .binOp .eql 3 x y 3) (hx:a.eval x= .int .i64 p) (hy:a.eval y= .int .i64 q) (h:decide (p=q)=r):(execOp a.eval o).run Tryz.prog w= .ok (.value (.bool r)) w:=by
 subst h
 unfold execOp
 rw [ho]
 simp only [hx,hy]
 go_simp
 rfl
theorem ex_neq {r:Bool} (ho:o.op= .binOp .neq 3 x y 3) (hx:a.eval x= .int .i64 p) (hy:a.eval y= .int .i64 q) (h:decide (p≠q)=r):(execOp a.eval o).run Tryz.prog w= .ok (.value (.bool r)) w:=by
 subst h
 unfold execOp
 rw [ho]
 simp only [hx,hy]
 go_simp
 rfl
theorem ex_lss {r:Bool} (ho:o.op= .binOp .lss 3 x y 3) (hx:a.eval x= .int .i64 p) (hy:a.eval y= .int .i64 q) (h:decide (p<q)=r):(execOp a.eval o).run Tryz.prog w= .ok (.value (.bool r)) w:=by
 subst h
 unfold execOp
 rw [ho]
 simp only [hx,hy]
 go_simp
theorem ex_leq {r:Bool} (ho:o.op= .binOp .leq 3 x y 3) (hx:a.eval x= .int .i64 p) (hy:a.eval y= .int .i64 q) (h:decide (p≤q)=r):(execOp a.eval o).run Tryz.prog w= .ok (.value (.bool r)) w:=by
 subst h
 unfold execOp
 rw [ho]
 simp only [hx,hy]
 go_simp
theorem ex_geq {r:Bool} (ho:o.op= .binOp .geq 3 x y 3) (hx:a.eval x= .int .i64 p) (hy:a.eval y= .int .i64 q) (h:decide (p≥q)=r):(execOp a.eval o).run Tryz.prog w= .ok (.value (.bool r)) w:=by
 subst h
 unfold execOp
 rw [ho]
 simp only [hx,hy]
 go_simp
theorem ex_gtr {r:Bool} (ho:o.op= .binOp .gtr 3 x y 3) (hx:a.eval x= .int .i64 p) (hy:a.eval y= .int .i64 q) (h:decide (p>q)=r):(execOp a.eval o).run Tryz.prog w= .ok (.value (.bool r)) w:=by
 subst h
 unfold execOp
 rw [ho]
 simp only [hx,hy]
 go_simp
end
end Go.Proofs.YtifendlpeebofaaGreatDoor
