import Derived.Deep.RegionHeld3
import Derived.WalkKit
import Derived.ChangeKeysEq
import Derived.Test.YtifendlpeebofaaGreatDoorRows
import Derived.Laws.BitsAllLaws
import Derived.Laws.Rows
import Derived.Deep.WholeRow
import Derived.Deep.MidRow
import Derived.BigQuiet
import Derived.Deep.Upon
import Derived.Deep.OwnRows
import Derived.WalkSpells
import Derived.Maps.OwnSet
import Derived.Maps.OwnOps
import Derived.Below
import Derived.DeepKeys3
import Derived.Deep.Cut
import Derived.Laws.Tables
import Derived.Laws.MakeOwn
import Derived.Laws.CopyRow
import Derived.Great.BuildSlice
import Derived.Deep.DeepAppendWide
import Derived.Maps.AppendAt
import Derived.OwnWalk
import Derived.Deep.RegionLaw
import Derived.StillTailTactics
set_option linter.unusedSimpArgs false
set_option linter.unusedVariables false
set_option maxRecDepth 100000
set_option maxHeartbeats 4000000
namespace Go.Proofs.YtifendlpeebofaaGreatDoor
open Go.Proofs.Tryz
abbrev pZ (b o:Nat):Value:= .pointer (some ⟨b,o,none⟩)
section
open Go
theorem qsA {α:Type} (l:List α) (i:Nat) (a:α):l.toArray.setIfInBounds i a=(l.set i a).toArray:=by simp
theorem qsB {α:Type} (x:α) (l:List α) (a:α):(x::l).set 0 a=a::l:=rfl
theorem qsC {α:Type} (x:α) (l:List α) (n:Nat) (a:α):(x::l).set (n+1) a=x::l.set n a:=rfl
section
variable {P:Program} {ops:Array Oper} {Q:Exit→Act→World→Prop} {md:Region.Mode} {S:World→Prop} {k:Nat}
def Ab3 (md:Region.Mode) (ops:Array Oper) (listed:Array Bool):Nat→Nat→Nat→Bool
 |0,_,_=>false
 |f+1,i,j=>match ops[j]? with
  |none=>false
  |some o=>o.after.toList.any fun e=>Region.binds md e&&(e.on==i||(listed.getD e.on true==false&&Ab3 md ops listed f i e.on))
theorem Aeb {listed:Array Bool} {i:Nat} (hi:listed.getD i true=false):∀(f j:Nat),Ab3 md ops listed f i j=true→j∉Region.ready md ops listed
 |0,j,h=>by simp [Ab3] at h
 |f+1,j,h=>by
  intro hr
  obtain ⟨_,o,ho,hall⟩:=mem_ready.1 hr
  rw [Ab3] at h
  simp only [ho,List.any_eq_true,Bool.and_eq_true,Bool.or_eq_true,beq_iff_eq] at h
  obtain ⟨e,he,hb,hc⟩:=h
  have hl:=hall e (by simpa using he) hb
  have hf:listed.getD e.on true=false:=by
   rcases hc with q|q
   ·rw [q];exact hi
   ·exact q.1
  rcases Nat.lt_or_ge e.on listed.size with h'|h'
  ·simp [h'] at hl hf;rw [hl] at hf;cases hf
  ·simp [Array.getElem?_eq_none h'] at hl
theorem Adh {listed:Array Bool} {i m:Nat} (hi:listed.getD i true=false) (hm:m∈Region.ready md ops listed):∀(f j:Nat),Ab3 md ops listed f i j=true→Ab3 md ops (listed.setIfInBounds m true) f i j=true
 |0,j,h=>by simp [Ab3] at h
 |f+1,j,h=>by
  rw [Ab3] at h ⊢
  cases ho:ops[j]? with
  |none=>rw [ho] at h;exact absurd h (by simp)
  |some o =>
   rw [ho] at h
   simp only [List.any_eq_true,Bool.and_eq_true,Bool.or_eq_true,beq_iff_eq] at h ⊢
   obtain ⟨e,he,hb,hc⟩:=h
   refine ⟨e,he,hb, ?_⟩
   rcases hc with q|q
   ·exact .inl q
   ·refine .inr ⟨?_,Adh hi hm f e.on q.2⟩
    have hne:m≠e.on:=fun x=>Aeb hi f e.on q.2 (x▸hm)
    rw [getD_set_ne true hne]
    exact q.1
def Acd (P:Program) (md:Region.Mode) (ops:Array Oper) (Q:Exit→Act→World→Prop) (S:World→Prop) (k:Nat):Nat→Array Bool→Act→World→Prop
 |0,listed,a,w=>Region.ready md ops listed=[]∧Q .normal a w
 |fuel+1,listed,a,w =>
  (Region.ready md ops listed=[]→Q .normal a w) ∧
  ∀i∈Region.ready md ops listed,wpOp P ops Q i (fun a' w'=>(i≠k→S w')∧Acd P md ops Q S k fuel (listed.setIfInBounds i true) a' w') a w
theorem Ag3:∀(fuel:Nat) (listed:Array Bool) (a:Act) (w:World),Acd P md ops Q S k fuel listed a w→wpAny P md ops Q fuel listed a w
 |0,_,_,_,h=>h
 |fuel+1,_,_,_,h=>⟨h.1,fun i hi=>wpOp_mono (fun a' w' h'=>Ag3 fuel _ a' w' h'.2) (h.2 i hi)⟩
theorem Aiu {i f:Nat} {oi:Oper} {v:Value} (hi:ops[i]? =some oi) (hsel:∀(j:Nat) (o:Oper) cs b,ops[j]? =some o→o.op≠ .select cs b)
 (hQ:∀c a w,Q (.panic c) (a.put oi.dst v) w→Q (.panic c) a w) :
 ∀(fuel:Nat) (listed:Array Bool) (a:Act) (w:World),
  (∀j oj,ops[j]? =some oj→j≠i→listed.getD j true=false→(∀e∈oj.after,Region.binds md e=true→e.on≠i)→oi.apart ops oj=true) →
  i∈Region.ready md ops listed→Ab3 md ops listed f i k=true→YieldsIf P ops S oi v a→S w →
  Acd P md ops Q S k fuel (listed.setIfInBounds i true) (a.put oi.dst v) w→Acd P md ops Q S k (fuel+1) listed a w:=by
 intro fuel
 induction fuel with
 |zero =>
  intro listed a w _ hr hwt hy hS H
  refine ⟨fun h=>(by rw [h] at hr;cases hr),fun j hj=> ?_⟩
  by_cases hji:j=i
  ·subst hji;exact hy.wpOp hi hS ⟨fun _=>hS,H⟩
  ·have:=ready_mono hj hji
   rw [H.1] at this
   cases this
 |succ fuel ih =>
  intro listed a w hfree hr hwt hy hS H
  refine ⟨fun h=>(by rw [h] at hr;cases hr),fun j hj=> ?_⟩
  have hiu:=(mem_ready.1 hr).1
  by_cases hji:j=i
  ·subst hji;exact hy.wpOp hi hS ⟨fun _=>hS,H⟩
  ·have hjk:j≠k:=fun e=>Aeb hiu f k hwt (e▸hj)
   have h1:=H.2 j (ready_mono hj hji)
   obtain ⟨hjun,oj,hoj,hall⟩:=mem_ready.1 hj
   have hnot:∀e∈oj.after,Region.binds md e=true→e.on≠i:=fun e he hb heq=>by
        have h1:=hall e he hb
        have h0:=hiu
        rw [heq] at h1
        rcases Nat.lt_or_ge i listed.size with h'|h'
        ·simp [h'] at h0 h1;rw [h0] at h1;cases h1
        ·simp [Array.getElem?_eq_none h'] at h1
   have h2:=wpOp_putIf hoj (hfree j oj hoj hji hjun hnot) (fun cs b=>hsel i oi cs b hi) (fun cs b=>hsel j oj cs b hoj) hQ hy h1
   have hfree':∀k ok,ops[k]? =some ok→k≠i→(listed.setIfInBounds j true).getD k true=false →
    (∀e∈ok.after,Region.binds md e=true→e.on≠i)→oi.apart ops ok=true:=fun k ok hk hki hun hno=>by
        refine hfree k ok hk hki ?_ hno
        by_cases hjk:j=k
        ·subst hjk;exact hjun
        ·rw [getD_set_ne true hjk] at hun;exact hun
   refine wpOp_mono (fun a' w' h3=>⟨h3.2.1,ih (listed.setIfInBounds j true) a' w' hfree' (ready_mono hr (Ne.symm hji)) (Adh hiu hj f k hwt) h3.1 (h3.2.1 hjk) ?_⟩) h2
   rw [Array.setIfInBounds_comm _ _ hji]
   exact h3.2.2
theorem Akj {i:Nat} {oi:Oper} {v:Value} {fuel:Nat} {listed:Array Bool} {a:Act} {w:World} (f:Nat) (hi:ops[i]? =some oi)
 (hs:Region.noSelect ops=true) (hf:Region.free md ops listed i=true) (hr:(Region.ready md ops listed).contains i=true) (hwt:Ab3 md ops listed f i k=true)
 (hQ:∀c a w,Q (.panic c) (a.put oi.dst v) w→Q (.panic c) a w) (hy:YieldsIf P ops S oi v a) (hS:S w)
 (h:Acd P md ops Q S k fuel (listed.setIfInBounds i true) (a.put oi.dst v) w):Acd P md ops Q S k (fuel+1) listed a w :=
 Aiu hi (Region.noSelect_spec hs) hQ fuel listed a w (Region.free_spec hi hf) (by simpa using hr) hwt hy hS h
theorem Aea {j:Nat} {o:Oper} {fuel:Nat} {listed:Array Bool} {a:Act} {w:World} (hr:Region.ready md ops listed=[j]) (ho:ops[j]? =some o)
 (h:∀K':Act→World→Prop,Shut (∀a w,(j≠k→S w)→((j≠k→S w)→Acd P md ops Q S k fuel (listed.setIfInBounds j true) a w)→K' a w)→if Region.wanted o (yielded ops a.tmps)=true then Oper.wp P o a w K' Q else K' (a.put o.dst undef) w):Acd P md ops Q S k (fuel+1) listed a w :=
 And.intro (fun h0=>absurd (hr.symm.trans h0) (by simp)) fun i hi=>by
  rw [hr] at hi
  obtain rfl:i=j:=by simpa using hi
  exact wpOp_step ho (fun K' hK=>h K' (fun a w hS hW=>hK a w ⟨hS,hW hS⟩))
theorem Agb {listed:Array Bool} {a:Act} {w:World} (hr:Region.ready md ops listed=[]) (h:Q .normal a w) :
 ∀fuel,Acd P md ops Q S k fuel listed a w
 |0=>⟨hr,h⟩
 |_+1=>⟨fun _=>h,by rw [hr];simp⟩
theorem Aek {id:Nat} {a:Act} {w:World} (k:Nat) (hm:P.follows .mixedOrders=true) (hS:S w.drew)
 (h:S w.drew→Acd P .any ops Q S k ops.size (Array.replicate ops.size false) a w.drew):(Code.region id ops true).wp P Q a w :=
 wp_region_any hm (Ag3 _ _ _ _ (h hS))
end
end
namespace En
open Go Go.RowKit
def lk:List (Nat × Value)→Nat→Option Value
 |[],_=>none
 |(k,u)::L,i=>cond (Nat.beq k i) (some u) (lk L i)
def nth {α:Type}:List α→Nat→Option α
 |[],_=>none
 |x::_,0=>some x
 |_::l,n+1=>nth l n
def pU (a:Act):List (Nat × Value)→Act
 |[]=>a
 |(k,u)::L=>(pU a L).put (some k) u
def pM (d:Option Nat) (v:Value) (M:List (Nat × Value)):List (Nat × Value) :=
 match d with
 |some k=>(k,v)::M
 |none=>M
structure Tb (P:Program) where
 fa:List ((Nat × Nat) × Nat)
 fa_ok:∀e∈fa,∀b o w,(Instr.fieldAt e.1.1 (pZ b o) e.1.2).run P w= .ok (pZ b (o+e.2)) w
 ln:List Nat
 ln_ok:∀t∈ln,∀r a n c w,(Builtin.len_ #[t] r #[.slice a n c]).run P w= .ok (.int .i64 (n:Int)) w
 fn:List Nat
 fn_ok:∀f∈fn,∀vs w,(callFunc f vs).run P w= .ok (.enter f vs) w
def faL:List ((Nat × Nat) × Nat)→Nat→Nat→Option Nat
 |[],_,_=>none
 |((s,f),d)::l,t,g=>cond (Nat.beq s t) (cond (Nat.beq f g) (some d) (faL l t g)) (faL l t g)
def inL:List Nat→Nat→Bool
 |[],_=>false
 |k::l,t=>cond (Nat.beq k t) true (inL l t)
theorem inL_mem:∀{l:List Nat} {t},inL l t=true→t∈l
 |k::l,t,h=>by
  unfold inL at h
  cases e:Nat.beq k t with
  |true=>rw [Nat.eq_of_beq_eq_true e];simp
  |false=>rw [e] at h;exact List.mem_cons_of_mem _ (inL_mem h)
theorem faL_mem:∀{l:List ((Nat × Nat) × Nat)} {s f d},faL l s f=some d→((s,f),d)∈l
 |((s',f'),d')::l,s,f,d,h=>by
  unfold faL at h
  cases e:Nat.beq s' s with
  |false=>rw [e] at h;exact List.mem_cons_of_mem _ (faL_mem h)
  |true =>
   cases e2:Nat.beq f' f with
   |false=>rw [e,e2] at h;exact List.mem_cons_of_mem _ (faL_mem h)
   |true =>
    rw [e,e2] at h
    cases h
    rw [Nat.eq_of_beq_eq_true e,Nat.eq_of_beq_eq_true e2]
    simp
section
variable (G:Nat→Option Value) (M:List (Nat × Value))
def opK (x:Operand) (k:Value→Prop):Prop :=
 match x with
 | .tmp i=>match lk M i with
   |some v=>k v
   |none=>match G i with
    |some v=>k v
    |none=>False
 | .const v=>k v
 | .global g=>k (pZ g 0)
 | .func f=>k (.func (.func f) #[] #[])
def opsK:List Operand→(List Value→Prop)→Prop
 |[],k=>k []
 |x::xs,k=>opK G M x fun v=>opsK xs fun vs=>k (v::vs)
def partsK:List (Nat × Operand)→(List (Nat × Value)→Prop)→Prop
 |[],k=>k []
 |(i,x)::xs,k=>opK G M x fun v=>partsK xs fun vs=>k ((i,v)::vs)
def opOK (x:Option Operand) (k:Option Value→Prop):Prop :=
 match x with
 |none=>k none
 |some x=>opK G M x fun v=>k (some v)
structure CmW (c:Bool) (N:Value→Prop):Prop where
 out:∃c',c=c'∧N (.bool c')
structure ArW (k:IntKind) (e:Int) (N:Value→Prop):Prop where
 out:∃z,k.wrap e=z∧N (.int k z)
def ikN:IntKind→Nat
 | .i8=>0| .i16=>1| .i32=>2| .i64=>3| .u8=>4| .u16=>5| .u32=>6| .u64=>7
theorem ikN_eq {k k':IntKind} (h:Nat.beq (ikN k) (ikN k')=true):k=k':=by
 cases k <;>cases k' <;>first|rfl|cases h
def cmpK (op:BinOp) (a b:Int) (kp:Value→Prop) (ar:Int→Prop) (no:Prop):Prop :=
 match op with
 | .eql=>CmW (decide (a=b)) kp
 | .neq=>CmW (!decide (a=b)) kp
 | .lss=>CmW (decide (a<b)) kp
 | .leq=>CmW (decide (a≤b)) kp
 | .gtr=>CmW (decide (a>b)) kp
 | .geq=>CmW (decide (a≥b)) kp
 | .add=>ar (a+b)
 | .sub=>ar (a-b)
 | .mul=>ar (a*b)
 |_=>no
def viewK {P:Program} (T:Tb P) (o:Oper) (kp:Value→Prop) (ks ke:Sem Value→Prop) (ku:Sem Unit→Prop) (kc:Nat→Array Value→Prop):Prop :=
 match o.op with
 | .move x=>opK G M x kp
 | .assign x=>opK G M x kp
 | .pick c x y=>opK G M c fun v=>match v with
   | .bool true=>opK G M x kp
   | .bool false=>opK G M y kp
   |_=>False
 | .nilCheck x=>opK G M x fun v=>match v with
   | .pointer (some p)=>kp (.pointer (some p))
   | .map r=>kp (.map r)
   | .iface t u=>kp (.iface t u)
   |_=>False
 | .extract x i=>opK G M x fun v=>match v with
   | .tuple vs=>match nth vs.toList i with
     |some u=>kp u
     |none=>False
   |_=>False
 | .fieldAddr s x f=>opK G M x fun v=>match v with
   | .pointer (some ⟨b,o,none⟩)=>match faL T.fa s f with
     |some d=>kp (pZ b (o+d))
     |none=>False
   |_=>False
 | .unOp .not _ x=>opK G M x fun v=>match v with
   | .bool b=>kp (.bool (!b))
   |_=>False
 | .binOp op t x y _=>opK G M x fun xv=>opK G M y fun yv=>match xv with
   | .int k a=>match yv with
     | .int k' b=>cond (Nat.beq (ikN k) (ikN k')) (cmpK op a b kp (fun e=>ArW k e kp) (ks (do eqGuard op t x y (.int k a) (.int k' b);binOp op t (.int k a) (.int k' b)))) (ks (do eqGuard op t x y (.int k a) (.int k' b);binOp op t (.int k a) (.int k' b)))
     |_=>False
   |xv=>ks (do eqGuard op t x y xv yv;binOp op t xv yv)
 | .load t x=>opK G M x fun v=>ks (Instr.loadAt t v)
 | .indexAddr t x i=>opK G M x fun v=>opK G M i fun u=>ks (Instr.indexAt t v u)
 | .index t x i=>opK G M x fun v=>opK G M i fun u=>ks (Instr.index t v u)
 | .field t x f=>opK G M x fun v=>ks (Instr.field t v f)
 | .lookup t m k c=>opK G M m fun v=>opK G M k fun u=>ks (Instr.lookup t v u c)
 | .build t ps=>partsK G M ps.toList fun vs=>ks (Instr.build t vs.toArray)
 | .makeInterface t x=>opK G M x fun v=>ks (Instr.makeInterface t v)
 | .makeFunc f xs ys=>opsK G M xs.toList fun vs=>opsK G M ys.toList fun us=>ks (Instr.makeFunc f vs.toArray us.toArray)
 | .slice t x l h m=>opK G M x fun v=>opOK G M l fun lv=>opOK G M h fun hv=>opOK G M m fun mv=>ks (Instr.sliceAt t v lv hv mv)
 | .convert s d x=>opK G M x fun v=>ke (convert s d v)
 | .typeAssert x t u c=>opK G M x fun v=>ks (Instr.typeAssert v t u c)
 | .entry x=>opK G M x fun v=>ks (Instr.entry v)
 | .buildSlice t n ps=>partsK G M ps.toList fun vs=>ke (Instr.buildSlice t n vs.toArray)
 | .alloc t=>ke (Instr.alloc t true (.tuple #[]))
 | .box t x=>opK G M x fun v=>ke (Instr.box t v)
 | .makeMap t r=>opOK G M r fun v=>ke (Instr.makeMap t v)
 | .makeSlice t l c=>opK G M l fun v=>opK G M c fun u=>ke (Instr.makeSlice t v u)
 | .range t x=>opK G M x fun v=>ke (Instr.range t v)
 | .next x s=>opK G M x fun v=>ke (Instr.next v s o.type)
 | .store t p x=>opK G M p fun v=>opK G M x fun u=>ku (Instr.storeAt t v u)
 | .mapUpdate t m k x=>opK G M m fun v=>opK G M k fun u=>opK G M x fun y=>ku (Instr.mapUpdate t v u y)
 | .insert t m k x=>opK G M m fun v=>opK G M k fun u=>opK G M x fun y=>ku (Instr.mapUpdate t v u y)
 | .call c=>match c.callee with
   | .value (.func F)=>cond (inL T.fn F) (opsK G M c.args.toList fun vs=>kc F vs.toArray) False
   | .value x=>opK G M x fun v=>match v with
     | .func (.func F) xs ys=>cond (inL T.fn F) (opsK G M c.args.toList fun vs=>kc F (xs++vs.toArray++ys)) False
     |_=>False
   | .builtin .len=>opsK G M c.args.toList fun vs=>match vs with
     |[.slice a n k]=>match c.argTypes.toList with
      |[t]=>cond (inL T.ln t) (kp (.int .i64 (n:Int))) (ks (Builtin.len_ #[t] o.type #[.slice a n k]))
      |_=>False
     |vs=>ks (Builtin.len_ c.argTypes o.type vs.toArray)
   | .builtin .append=>opsK G M c.args.toList fun vs=>ke (Builtin.append_ c.argTypes o.type vs.toArray)
   | .builtin .delete=>opsK G M c.args.toList fun vs=>ke (Builtin.delete_ c.argTypes o.type vs.toArray)
   | .builtin .copy=>opsK G M c.args.toList fun vs=>ke (Builtin.copy_ c.argTypes o.type vs.toArray)
   |_=>False
 |_=>False
def guardK (ops:List Oper) (o:Oper) (go by_:Prop):Prop :=
 match o.guard with
 |none=>go
 |some (k,b)=>match nth ops k with
  |none=>False
  |some og=>match og.dst with
   |none=>False
   |some d=>opK G M (.tmp d) fun v=>match v with
    | .bool true=>cond b go by_
    | .bool false=>cond b by_ go
    | .tuple _=>by_
    |_=>False
end
section
variable {a:Act} {n:Nat} {G:Nat→Option Value} {M:List (Nat × Value)} {P:Program}
structure Fr (a:Act) (n:Nat) (G:Nat→Option Value) (M:List (Nat × Value)):Prop where
 size:a.tmps.size=n
 given:∀i v,G i=some v→a.tmps.getD i undef=v∧i<n
 keys:∀p∈M,p.1<n
theorem puts_size (h:Fr a n G M):(pU a M).tmps.size=n:=by
 have:∀M:List (Nat × Value),(pU a M).tmps.size=a.tmps.size:=by
  intro M
  induction M with
  |nil=>rfl
  |cons p M ih=>obtain ⟨k,u⟩:=p;simp [pU,Act.put,ih]
 rw [this];exact h.size
theorem puts_lk:∀{M:List (Nat × Value)},Fr a n G M→∀{i v},lk M i=some v→(pU a M).tmps.getD i undef=v∧i<n
 |[],_,_,_,h=>by cases h
 |(k,u)::M,f,i,v,h=>by
  have f':Fr a n G M:=⟨f.size,f.given,fun p hp=>f.keys p (List.mem_cons_of_mem _ hp)⟩
  have hk:k<n:=f.keys (k,u) (by simp)
  have hs:=puts_size f'
  unfold lk at h
  cases e:Nat.beq k i with
  |true =>
   rw [e] at h
   cases h
   obtain rfl:=Nat.eq_of_beq_eq_true e
   refine ⟨?_,hk⟩
   show ((pU a M).put (some k) u).tmps.getD k undef=u
   simp [Act.put,hs,hk]
  |false =>
   rw [e] at h
   have hne:k≠i:=fun q=>by rw [q,Nat.beq_refl] at e;cases e
   obtain ⟨h1,h2⟩:=puts_lk f' h
   refine ⟨?_,h2⟩
   rw [←h1]
   show ((pU a M).put (some k) u).tmps.getD i undef=_
   simp only [Act.put,Array.getD_eq_getD_getElem?]
   rw [Array.getElem?_setIfInBounds_ne hne]
theorem puts_none:∀{M:List (Nat × Value)} {i},lk M i=none→(pU a M).tmps.getD i undef=a.tmps.getD i undef
 |[],_,_=>rfl
 |(k,u)::M,i,h=>by
  unfold lk at h
  cases e:Nat.beq k i with
  |true=>rw [e] at h;cases h
  |false =>
   rw [e] at h
   have hne:k≠i:=fun q=>by rw [q,Nat.beq_refl] at e;cases e
   rw [←puts_none h]
   show ((pU a M).put (some k) u).tmps.getD i undef=_
   simp only [Act.put,Array.getD_eq_getD_getElem?]
   rw [Array.getElem?_setIfInBounds_ne hne]
theorem opK_out (f:Fr a n G M) {x:Operand} {k:Value→Prop} (h:opK G M x k):k ((pU a M).eval x):=by
 unfold opK at h
 cases x with
 |tmp i =>
  simp only at h
  cases e:lk M i with
  |some v=>rw [e] at h;simp only at h;have:=(puts_lk f e).1;show k ((pU a M).tmps.getD i undef);rw [this];exact h
  |none =>
   rw [e] at h
   simp only at h
   cases g:G i with
   |some v=>rw [g] at h;simp only at h;show k ((pU a M).tmps.getD i undef);rw [puts_none e,(f.given i v g).1];exact h
   |none=>rw [g] at h;exact h.elim
 |const v=>exact h
 |global g=>exact h
 |func g=>exact h
theorem opK_tmp (f:Fr a n G M) {i:Nat} {k:Value→Prop} (h:opK G M (.tmp i) k):i<n:=by
 unfold opK at h
 simp only at h
 cases e:lk M i with
 |some v=>exact (puts_lk f e).2
 |none =>
  rw [e] at h
  simp only at h
  cases g:G i with
  |some v=>exact (f.given i v g).2
  |none=>rw [g] at h;exact h.elim
theorem opsK_out (f:Fr a n G M):∀{xs:List Operand} {k:List Value→Prop},opsK G M xs k→k (xs.map (pU a M).eval)
 |[],_,h=>h
 |x::xs,k,h=>opsK_out f (xs:=xs) (k:=fun vs=>k ((pU a M).eval x::vs)) (opK_out f (x:=x) h)
theorem partsK_out (f:Fr a n G M):∀{xs:List (Nat × Operand)} {k:List (Nat × Value)→Prop},partsK G M xs k→k (xs.map fun p=>(p.1,(pU a M).eval p.2))
 |[],_,h=>h
 |(i,x)::xs,k,h=>partsK_out f (xs:=xs) (k:=fun vs=>k ((i,(pU a M).eval x)::vs)) (opK_out f (x:=x) h)
theorem opOK_out (f:Fr a n G M) {x:Option Operand} {k:Option Value→Prop} (h:opOK G M x k):k (x.map (pU a M).eval):=by
 cases x with
 |none=>exact h
 |some x=>exact opK_out f (x:=x) h
theorem nth_get {α:Type}:∀{l:List α} {i:Nat} {x:α},nth l i=some x→l[i]? =some x
 |[],_,_,h=>by cases h
 |y::l,0,x,h=>by cases h;rfl
 |y::l,i+1,x,h=>by simpa using nth_get (l:=l) h
theorem map_list {α β:Type} (g:α→β) (xs:Array α):(xs.toList.map g).toArray=xs.map g:=by rw [←Array.toList_map]
def effB (o:Oper):Bool :=
 match o.op with
 | .convert .. | .buildSlice .. | .alloc _| .box .. | .makeMap .. | .makeSlice .. | .range .. | .next .. | .store .. | .mapUpdate .. | .insert .. =>true
 | .call c=>match c.callee with
   | .builtin .len=>false
   |_=>true
 |_=>false
inductive Did (P:Program) (a:Act) (o:Oper) (kp:Value→Prop) (ks ke:Sem Value→Prop) (ku:Sem Unit→Prop) (kc:Nat→Array Value→Prop):Prop where
 |pure (v:Value) (h:∀w,(execOp a.eval o).run P w= .ok (.value v) w) (k:kp v)
 |still (E:Sem Value) (h:∀w v w',E.run P w= .ok v w'→(execOp a.eval o).run P w= .ok (.value v) w') (k:ks E)
 |eff (E:Sem Value) (e:effB o=true) (h:∀w v w',E.run P w= .ok v w'→(execOp a.eval o).run P w= .ok (.value v) w') (k:ke E)
 |unit (E:Sem Unit) (e:effB o=true) (h:∀w w',E.run P w= .ok () w'→(execOp a.eval o).run P w= .ok .skip w') (k:ku E)
 |call (F:Nat) (vs:Array Value) (e:effB o=true) (h:∀w,(execOp a.eval o).run P w= .ok (.enter F vs) w) (k:kc F vs)
section
variable {o:Oper} {kp:Value→Prop} {ks ke:Sem Value→Prop} {ku:Sem Unit→Prop} {kc:Nat→Array Value→Prop}
theorem Did.st {E:Sem Value} (he:execOp a.eval o=(E >>= fun v=>Pure.pure (Next.value v))) (k:ks E):Did P a o kp ks ke ku kc :=
 .still E (fun w v w' h=>by rw [he,Sem.run_bind,h];rfl) k
theorem Did.ef {E:Sem Value} (h0:effB o=true) (he:execOp a.eval o=(E >>= fun v=>Pure.pure (Next.value v))) (k:ke E):Did P a o kp ks ke ku kc :=
 .eff E h0 (fun w v w' h=>by rw [he,Sem.run_bind,h];rfl) k
theorem Did.un {E:Sem Unit} (h0:effB o=true) (he:execOp a.eval o=(E >>= fun _=>Pure.pure Next.skip)) (k:ku E):Did P a o kp ks ke ku kc :=
 .unit E h0 (fun w w' h=>by rw [he,Sem.run_bind,h];rfl) k
theorem Did.pv {v:Value} (he:execOp a.eval o=Pure.pure (Next.value v)) (k:kp v):Did P a o kp ks ke ku kc :=
 .pure v (fun w=>by rw [he];rfl) k
end
theorem viewK_out (f:Fr a n G M) (T:Tb P) {o:Oper} {kp:Value→Prop} {ks ke:Sem Value→Prop} {ku:Sem Unit→Prop} {kc:Nat→Array Value→Prop}
 (h:viewK G M T o kp ks ke ku kc):Did P (pU a M) o kp ks ke ku kc:=by
 obtain ⟨dst,op,ty,pos,aft,gd⟩:=o
 unfold viewK at h
 cases op <;>simp only at h <;>try exact h.elim
 case move x=>exact .pv rfl (opK_out f h)
 case assign x=>exact .pv rfl (opK_out f h)
 case pick c x y =>
  have h:=opK_out f h
  generalize hc:(pU a M).eval c=cv at h
  cases cv with
  |bool b =>
   cases b with
   |true=>exact .pure _ (fun w=>by simp [execOp,hc,asBool]) (opK_out f h)
   |false=>exact .pure _ (fun w=>by simp [execOp,hc,asBool]) (opK_out f h)
  |_=>exact h.elim
 case nilCheck x =>
  have h:=opK_out f h
  generalize hx:(pU a M).eval x=v at h
  cases v with
  |pointer p =>
   cases p with
   |none=>exact h.elim
   |some p=>exact .pure _ (fun w=>by simp [execOp,hx]) h
  |map r=>exact .pure _ (fun w=>by simp [execOp,hx]) h
  |iface t u=>exact .pure _ (fun w=>by simp [execOp,hx]) h
  |_=>exact h.elim
 case extract x i =>
  have h:=opK_out f h
  generalize hx:(pU a M).eval x=v at h
  cases v with
  |tuple vs =>
   simp only at h
   cases e:nth vs.toList i with
   |none=>rw [e] at h;exact h.elim
   |some u =>
    rw [e] at h
    have e2:vs[i]? =some u:=by rw [←Array.getElem?_toList];exact nth_get e
    exact .pure u (fun w=>by simp [execOp,hx,Instr.extract,e2]) h
  |_=>exact h.elim
 case fieldAddr s x i =>
  have h:=opK_out f h
  generalize hx:(pU a M).eval x=v at h
  cases v with
  |pointer p =>
   cases p with
   |none=>exact h.elim
   |some p =>
    obtain ⟨b,o,sp⟩:=p
    cases sp with
    |some _=>exact h.elim
    |none =>
     simp only at h
     cases e:faL T.fa s i with
     |none=>rw [e] at h;exact h.elim
     |some d =>
      rw [e] at h
      exact .pure _ (fun w=>by simp [execOp,hx,T.fa_ok _ (faL_mem e) b o w]) h
  |_=>exact h.elim
 case unOp op t x =>
  cases op <;>simp only at h <;>try exact h.elim
  have h:=opK_out f h
  generalize hx:(pU a M).eval x=v at h
  cases v with
  |bool b=>exact .pure _ (fun w=>by simp [execOp,hx,Op.unary]) h
  |_=>exact h.elim
 case binOp op t x y t2 =>
  have h:=opK_out f (opK_out f h)
  have HE:execOp (pU a M).eval ⟨dst, .binOp op t x y t2,ty,pos,aft,gd⟩=((do eqGuard op t x y ((pU a M).eval x) ((pU a M).eval y);binOp op t ((pU a M).eval x) ((pU a M).eval y)) >>= fun v=>Pure.pure (Next.value v)):=rfl
  generalize hx:(pU a M).eval x=xv at h HE
  generalize hy:(pU a M).eval y=yv at h HE
  cases xv with
  |int k z =>
   cases yv with
   |int k' z' =>
    simp only at h
    cases e:Nat.beq (ikN k) (ikN k') with
    |true =>
     obtain rfl:=ikN_eq e
     rw [e] at h
     unfold cmpK at h
     cases op <;>first
        |exact .st HE h
        |(obtain ⟨⟨z2,e2,h⟩⟩:=(h:ArW _ _ _);exact .pure _ (fun w=>by rw [HE];simp [eqGuard,binOp,Op.intArith,e2]) h)
        |(obtain ⟨⟨z2,e2,h⟩⟩:=(h:CmW _ _);subst e2;exact .pure _ (fun w=>by rw [HE];simp [eqGuard,binOp,Op.intCmp] <;>rfl) h)
    |false =>
     rw [e] at h
     exact .st HE h
   |_=>exact h.elim
  |_=>exact .st HE h
 case load t x=>exact .st rfl (opK_out f h)
 case indexAddr t x i=>exact .st rfl (opK_out f (opK_out f h))
 case index t x i=>exact .st rfl (opK_out f (opK_out f h))
 case field t x i=>exact .st rfl (opK_out f h)
 case lookup t m k c=>exact .st rfl (opK_out f (opK_out f h))
 case build t ps =>
  have h:=partsK_out f h
  rw [map_list] at h
  exact .st rfl h
 case makeInterface t x=>exact .st rfl (opK_out f h)
 case makeFunc g xs ys =>
  have h:=opsK_out f (opsK_out f h)
  rw [map_list,map_list] at h
  exact .st rfl h
 case slice t x l hh m=>exact .st rfl (opOK_out f (opOK_out f (opOK_out f (opK_out f h))))
 case convert s d x=>exact .ef rfl rfl (opK_out f h)
 case typeAssert x t u c=>exact .st rfl (opK_out f h)
 case entry x=>exact .st rfl (opK_out f h)
 case buildSlice t l ps =>
  have h:=partsK_out f h
  rw [map_list] at h
  exact .ef rfl rfl h
 case alloc t=>exact .ef rfl rfl h
 case box t x=>exact .ef rfl rfl (opK_out f h)
 case makeMap t r=>exact .ef rfl rfl (opOK_out f h)
 case makeSlice t l c=>exact .ef rfl rfl (opK_out f (opK_out f h))
 case range t x=>exact .ef rfl rfl (opK_out f h)
 case next x s=>exact .ef rfl rfl (opK_out f h)
 case store t p x=>exact .un rfl rfl (opK_out f (opK_out f h))
 case mapUpdate t m k x=>exact .un rfl rfl (opK_out f (opK_out f (opK_out f h)))
 case insert t m k x=>exact .un rfl rfl (opK_out f (opK_out f (opK_out f h)))
 case call c =>
  obtain ⟨cl,args,ats⟩:=c
  cases cl with
  |invoke r m=>exact h.elim
  |builtin b =>
   have HB:∀E:Sem Value,(builtin b ats ty (args.map fun | .const _=>true|_=>false) (args.map (pU a M).eval))=(E >>= fun v=>Pure.pure (Next.value v))→execOp (pU a M).eval ⟨dst, .call ⟨.builtin b,args,ats⟩,ty,pos,aft,gd⟩=(E >>= fun v=>Pure.pure (Next.value v)):=fun E hE=>hE
   cases b <;>simp only at h <;>try exact h.elim
   case append =>
        have h:=opsK_out f h
        rw [map_list] at h
        exact .ef rfl (HB _ rfl) h
   case delete =>
        have h:=opsK_out f h
        rw [map_list] at h
        exact .ef rfl (HB _ rfl) h
   case copy =>
        have h:=opsK_out f h
        rw [map_list] at h
        exact .ef rfl (HB _ rfl) h
   case len =>
        have h2:=opsK_out f h
        clear h
        rename _=>h
        have hm:=map_list (pU a M).eval args
        generalize hv:args.toList.map (pU a M).eval=vs at h hm
        have gen:ks (Builtin.len_ ats ty vs.toArray)→Did P (pU a M) ⟨dst, .call ⟨.builtin .len,args,ats⟩,ty,pos,aft,gd⟩ kp ks ke ku kc:=fun h=> .st (HB _ (by rw [hm];rfl)) h
        split at h
        ·rename_i b n k
         cases ea:ats.toList with
         |nil=>rw [ea] at h;exact h.elim
         |cons t l =>
          rw [ea] at h
          cases l with
          |cons _ _=>exact h.elim
          |nil =>
           simp only at h
           obtain rfl:ats= #[t]:=by rw [←Array.toList_inj];exact ea
           cases e:inL T.ln t with
           |false=>rw [e] at h;exact gen h
           |true =>
            rw [e] at h
            refine .pure _ (fun w=> ?_) h
            rw [HB (Builtin.len_ #[t] ty #[.slice b n k]) (by rw [←hm];rfl),Sem.run_bind,T.ln_ok t (inL_mem e) ty b n k w]
            rfl
        ·exact gen h
  |value x =>
   have HV:∀(F:Nat) (xs ys:Array Value),(pU a M).eval x= .func (.func F) xs ys→execOp (pU a M).eval ⟨dst, .call ⟨.value x,args,ats⟩,ty,pos,aft,gd⟩=callFunc F (xs++args.map (pU a M).eval++ys):=by
        intro F xs ys e
        show (Deferred.ofValue ((pU a M).eval x) (args.map (pU a M).eval) >>= fun d=>invoke d.target d.args)=_
        rw [e]
        rfl
   have HF:(pU a M).eval x=(pU a M).eval x:=rfl
   have gen:opK G M x (fun v=>match v with
    | .func (.func F) xs ys=>cond (inL T.fn F) (opsK G M args.toList fun vs=>kc F (xs++vs.toArray++ys)) False
    |_=>False)→Did P (pU a M) ⟨dst, .call ⟨.value x,args,ats⟩,ty,pos,aft,gd⟩ kp ks ke ku kc:=by
        intro h
        have h:=opK_out f h
        generalize hx:(pU a M).eval x=v at h
        cases v with
        |func fn xs ys =>
         cases fn with
         |func F =>
          simp only at h
          cases e:inL T.fn F with
          |false=>rw [e] at h;exact h.elim
          |true =>
           rw [e] at h
           have h:=opsK_out f (k:=fun vs=>kc F (xs++vs.toArray++ys)) h
           rw [map_list] at h
           exact .call F _ rfl (fun w=>by rw [HV F xs ys hx];exact T.fn_ok F (inL_mem e) _ w) h
         |_=>exact h.elim
        |_=>exact h.elim
   cases x with
   |func F =>
    simp only at h
    cases e:inL T.fn F with
    |false=>rw [e] at h;exact h.elim
    |true =>
     rw [e] at h
     have h:=opsK_out f (k:=fun vs=>kc F vs.toArray) h
     rw [map_list] at h
     exact .call F _ rfl (fun w=>by rw [HV F #[] #[] rfl];simp only [Array.empty_append,Array.append_empty];exact T.fn_ok F (inL_mem e) _ w) h
   |tmp i=>exact gen h
   |const v=>exact gen h
   |global g=>exact gen h
end
structure Fi (p:Prop):Prop where
 out:p
theorem fi {p:Prop} (h:p):Fi p:=⟨h⟩
def St (P:Program) (E:Sem Value) (w:World) (N:Value→Prop):Prop:=∃v,E.run P w= .ok v w∧N v
def Ef (P:Program) (E:Sem Value) (w:World) (N:Value→World→Prop):Prop:=∃v w',E.run P w= .ok v w'∧N v w'
def Eu (P:Program) (E:Sem Unit) (w:World) (N:World→Prop):Prop:=∃w',E.run P w= .ok () w'∧N w'
def Ca (P:Program) (F:Nat) (vs:Array Value) (w:World) (N:Value→World→Prop):Prop:=Calls P F vs w fun e w'=> ∃v,e= .returned v∧N v w'
section
variable {P:Program} {w w':World} {v:Value}
theorem st {E:Sem Value} {N:Value→Prop} (h:E.run P w= .ok v w) (k:N v):St P E w N:=⟨v,h,k⟩
theorem ef {E:Sem Value} {N:Value→World→Prop} (h:E.run P w= .ok v w') (k:N v w'):Ef P E w N:=⟨v,w',h,k⟩
theorem eu {E:Sem Unit} {N:World→Prop} (h:E.run P w= .ok () w') (k:N w'):Eu P E w N:=⟨w',h,k⟩
theorem ca {F:Nat} {vs:Array Value} {N:Value→World→Prop} {R:Ending→World→Prop} (h:Calls P F vs w R) (k:∀e w',R e w'→∃v,e= .returned v∧N v w'):Ca P F vs w N:=h.mono k
theorem cm {c c':Bool} {N:Value→Prop} (h:c=c') (q:N (.bool c')):CmW c N:=⟨c',h,q⟩
theorem ar {k:IntKind} {e z:Int} {N:Value→Prop} (h:k.wrap e=z) (q:N (.int k z)):ArW k e N:=⟨z,h,q⟩
end
def ObQ {P:Program} (T:Tb P) (ops:List Oper) (G:Nat→Option Value) (K:List (Nat × Value)→World→Prop):List Oper→List (Nat × Value)→World→Prop
 |[],M,w=>K M w
 |o::os,M,w =>
  guardK G M ops o
   (viewK G M T o (fun v=>ObQ T ops G K os (pM o.dst v M) w) (fun E=>St P E w fun v=>ObQ T ops G K os (pM o.dst v M) w) (fun E=>Ef P E w fun v w'=>ObQ T ops G K os (pM o.dst v M) w')
        (fun E=>Eu P E w fun w'=>ObQ T ops G K os (pM o.dst undef M) w') (fun F vs=>Ca P F vs w fun v w'=>ObQ T ops G K os (pM o.dst v M) w'))
   (ObQ T ops G K os (pM o.dst undef M) w)
def dOk (n:Nat):Option Nat→Bool
 |none=>true
 |some d=>Nat.blt d n
def dstB (n:Nat):List Oper→Bool
 |[]=>true
 |o::os=>dOk n o.dst&&dstB n os
theorem dstB_mem {n:Nat} {os:List Oper} (h:dstB n os=true) {o:Oper} (ho:o∈os):dOk n o.dst=true:=by
 induction os with
 |nil=>cases ho
 |cons o' os ih =>
  unfold dstB at h
  rw [Bool.and_eq_true] at h
  rcases List.mem_cons.1 ho with e|ho
  ·rw [e];exact h.1
  ·exact ih h.2 ho
section
variable {P:Program} {a:Act} {n:Nat} {G:Nat→Option Value} {Q:Exit→Act→World→Prop}
theorem Fr.put {M:List (Nat × Value)} (f:Fr a n G M) {d:Option Nat} {v:Value} (hd:dOk n d=true):Fr a n G (pM d v M):=by
 cases d with
 |none=>exact f
 |some d =>
  refine ⟨f.size,f.given,fun p hp=> ?_⟩
  rcases List.mem_cons.1 hp with rfl|hp
  ·exact Nat.le_of_ble_eq_true hd
  ·exact f.keys p hp
theorem puts_putM {M:List (Nat × Value)} {d:Option Nat} {v:Value}:pU a (pM d v M)=(pU a M).put d v:=by
 cases d <;>rfl
theorem guardK_out {M:List (Nat × Value)} (f:Fr a n G M) {ops:Array Oper} {o:Oper} {go by_:Prop} (h:guardK G M ops.toList o go by_) :
 (Region.wanted o (yielded ops (pU a M).tmps)=true∧go)∨(Region.wanted o (yielded ops (pU a M).tmps)=false∧by_):=by
 unfold guardK at h
 cases hg:o.guard with
 |none=>rw [hg] at h;exact .inl ⟨by simp [Region.wanted,hg],h⟩
 |some kb =>
  obtain ⟨k,b⟩:=kb
  rw [hg] at h
  simp only at h
  cases e1:nth ops.toList k with
  |none=>rw [e1] at h;exact h.elim
  |some og =>
   rw [e1] at h
   simp only at h
   cases e2:og.dst with
   |none=>rw [e2] at h;exact h.elim
   |some d =>
    rw [e2] at h
    simp only at h
    have hd:=opK_tmp f h
    have h3:=opK_out f h
    have e4:ops[k]? =some og:=by rw [←Array.getElem?_toList];exact nth_get e1
    have hs:=puts_size f
    have e5:(pU a M).tmps[d]? =some ((pU a M).eval (.tmp d)):=by
     show _=some ((pU a M).tmps.getD d undef)
     rw [Array.getD_eq_getD_getElem?,Array.getElem?_eq_getElem (by omega)]
     rfl
    have e6:yielded ops (pU a M).tmps k=(match (pU a M).eval (.tmp d) with | .bool b=>some b|_=>none):=by
     unfold yielded
     simp only [e4,Option.bind_some,e2,e5]
     cases (pU a M).eval (.tmp d) <;>rfl
    generalize (pU a M).eval (.tmp d)=v at h3 e6
    unfold Region.wanted
    rw [hg]
    simp only [e6]
    cases v with
    |bool c=>cases c <;>cases b <;>first|exact .inl ⟨rfl,h3⟩|exact .inr ⟨rfl,h3⟩
    |tuple vs=>exact .inr ⟨rfl,h3⟩
    |_=>exact h3.elim
theorem obq_out (T:Tb P) {ops:Array Oper} {K:List (Nat × Value)→World→Prop} (hK:∀M w,Fr a n G M→K M w→Q .normal (pU a M) w) :
 ∀(os:List Oper) {M:List (Nat × Value)} {w:World},Fr a n G M→dstB n os=true→ObQ T ops.toList G K os M w→wpList P ops Q os (pU a M) w
 |[],M,w,f,_,h=>hK M w f h
 |o::os,M,w,f,hd,h=>by
  unfold ObQ at h
  unfold dstB at hd
  rw [Bool.and_eq_true] at hd
  have f':∀v,Fr a n G (pM o.dst v M):=fun v=>f.put hd.1
  refine wpList_step fun K' hK'=> ?_
  have go:∀v w',ObQ T ops.toList G K os (pM o.dst v M) w'→K' ((pU a M).put o.dst v) w':=fun v w' h=>hK' _ _ (by rw [←puts_putM];exact obq_out T hK os (f' v) hd.2 h)
  rcases guardK_out f h with ⟨hw,h⟩|⟨hw,h⟩
  ·rw [if_pos hw]
   unfold Oper.wp
   cases viewK_out f T h with
   |pure v hr k=>rw [hr];exact go v w k
   |still E hr k=>obtain ⟨v,e,k⟩:=k;rw [hr w v w e];exact go v w k
   |eff E _ hr k=>obtain ⟨v,w',e,k⟩:=k;rw [hr w v w' e];exact go v w' k
   |unit E _ hr k=>obtain ⟨w',e,k⟩:=k;rw [hr w w' e];exact go undef w' k
   |call F vs _ hr k =>
    rw [hr,Oper.upon_enter]
    refine Calls.mono k fun e w' p=> ?_
    obtain ⟨v,rfl,k⟩:=p
    exact go v w' k
  ·rw [if_neg (by rw [hw];decide)]
   exact go undef w h
def Glit (l:List Value):Nat→Option Value:=nth l
theorem fr_lit (l:List Value) (ds:List Deferred):Fr ⟨l.toArray,ds⟩ l.length (Glit l) [] :=
 ⟨by simp,fun i v h=>by
  have e:=nth_get h
  have:=(List.getElem?_eq_some_iff.1 e)
  refine ⟨?_,this.1⟩
  rw [Array.getD_eq_getD_getElem?]
  simp [e],fun p hp=>by cases hp⟩
theorem zq (T:Tb P) {l:List Value} {ds:List Deferred} {id:Nat} {os:List Oper} {w:World} (hd:dstB l.length os=true)
 (h:ObQ T os (Glit l) (fun M w=>Fi (Q .normal (pU ⟨l.toArray,ds⟩ M) w)) os [] w):(Code.region id os.toArray false).wp P Q ⟨l.toArray,ds⟩ w :=
 wp_region_list (obq_out (ops:=os.toArray) T (fun M w _ h=>h.out) os (fr_lit l ds) hd h)
end
section
variable {P:Program} {ops:Array Oper} {Q:Exit→Act→World→Prop} {md:Region.Mode} {S:World→Prop} {k:Nat}
theorem wpAnyE_firstG {i f:Nat} {oi:Oper} {v:Value} (hi:ops[i]? =some oi) (hsel:∀(j:Nat) (o:Oper) cs b,ops[j]? =some o→o.op≠ .select cs b)
 (hQ:∀c a w,Q (.panic c) (a.put oi.dst v) w→Q (.panic c) a w) :
 ∀(fuel:Nat) (listed:Array Bool) (a:Act) (w:World),
  (∀j oj,ops[j]? =some oj→j≠i→listed.getD j true=false→(∀e∈oj.after,Region.binds md e=true→e.on≠i)→oi.apart ops oj=true) →
  i∈Region.ready md ops listed→(Ab3 md ops listed f i k=true∨ops.size≤k)→YieldsIf P ops S oi v a→S w →
  Acd P md ops Q S k fuel (listed.setIfInBounds i true) (a.put oi.dst v) w→Acd P md ops Q S k (fuel+1) listed a w:=by
 intro fuel
 induction fuel with
 |zero =>
  intro listed a w _ hr hwt hy hS H
  refine ⟨fun h=>(by rw [h] at hr;cases hr),fun j hj=> ?_⟩
  by_cases hji:j=i
  ·subst hji;exact hy.wpOp hi hS ⟨fun _=>hS,H⟩
  ·have:=ready_mono hj hji
   rw [H.1] at this
   cases this
 |succ fuel ih =>
  intro listed a w hfree hr hwt hy hS H
  refine ⟨fun h=>(by rw [h] at hr;cases hr),fun j hj=> ?_⟩
  have hiu:=(mem_ready.1 hr).1
  by_cases hji:j=i
  ·subst hji;exact hy.wpOp hi hS ⟨fun _=>hS,H⟩
  ·have hjk:j≠k:=fun e=>by
        rcases hwt with hwt|hwt
        ·exact Aeb hiu f k hwt (e▸hj)
        ·obtain ⟨_,oj,hoj,_⟩:=mem_ready.1 hj
         have:=(Array.getElem?_eq_some_iff.1 hoj).1
         omega
   have h1:=H.2 j (ready_mono hj hji)
   obtain ⟨hjun,oj,hoj,hall⟩:=mem_ready.1 hj
   have hnot:∀e∈oj.after,Region.binds md e=true→e.on≠i:=fun e he hb heq=>by
        have h1:=hall e he hb
        have h0:=hiu
        rw [heq] at h1
        rcases Nat.lt_or_ge i listed.size with h'|h'
        ·simp [h'] at h0 h1;rw [h0] at h1;cases h1
        ·simp [Array.getElem?_eq_none h'] at h1
   have h2:=wpOp_putIf hoj (hfree j oj hoj hji hjun hnot) (fun cs b=>hsel i oi cs b hi) (fun cs b=>hsel j oj cs b hoj) hQ hy h1
   have hfree':∀k ok,ops[k]? =some ok→k≠i→(listed.setIfInBounds j true).getD k true=false →
    (∀e∈ok.after,Region.binds md e=true→e.on≠i)→oi.apart ops ok=true:=fun k ok hk hki hun hno=>by
        refine hfree k ok hk hki ?_ hno
        by_cases hjk:j=k
        ·subst hjk;exact hjun
        ·rw [getD_set_ne true hjk] at hun;exact hun
   have hwt':Ab3 md ops (listed.setIfInBounds j true) f i k=true∨ops.size≤k:=hwt.imp (fun q=>Adh hiu hj f k q) id
   refine wpOp_mono (fun a' w' h3=>⟨h3.2.1,ih (listed.setIfInBounds j true) a' w' hfree' (ready_mono hr (Ne.symm hji)) hwt' h3.1 (h3.2.1 hjk) ?_⟩) h2
   rw [Array.setIfInBounds_comm _ _ hji]
   exact h3.2.2
end
def StY (P:Program) (E:Sem Value) (S:World→Prop) (N:Value→Prop):Prop:=∃v,(∀w,S w→E.run P w= .ok v w)∧N v
def EfY (P:Program) (E:Sem Value) (S:World→Prop) (w:World) (N:Value→World→Prop):Prop:=∃v w',E.run P w= .ok v w'∧S w'∧N v w'
def EuY (P:Program) (E:Sem Unit) (S:World→Prop) (w:World) (N:World→Prop):Prop:=∃w',E.run P w= .ok () w'∧S w'∧N w'
def CaY (P:Program) (F:Nat) (vs:Array Value) (S:World→Prop) (w:World) (N:Value→World→Prop):Prop:=Calls P F vs w fun e w'=> ∃v,e= .returned v∧S w'∧N v w'
section
variable {P:Program} {w w':World} {v:Value} {S:World→Prop}
theorem sty {E:Sem Value} {N:Value→Prop} (h:∀w,S w→E.run P w= .ok v w) (k:N v):StY P E S N:=⟨v,h,k⟩
theorem se {E:Sem Value} {N:Value→Prop} {w0:World} (h:E.run P w0= .ok v w0) (k:N v):StY P E (fun W=>W=w0) N:=⟨v,fun w e=>by rw [e];exact h,k⟩
theorem efy {E:Sem Value} {N:Value→World→Prop} (h:E.run P w= .ok v w') (s:S w') (k:N v w'):EfY P E S w N:=⟨v,w',h,s,k⟩
theorem euy {E:Sem Unit} {N:World→Prop} (h:E.run P w= .ok () w') (s:S w') (k:N w'):EuY P E S w N:=⟨w',h,s,k⟩
theorem cay {F:Nat} {vs:Array Value} {N:Value→World→Prop} {R:Ending→World→Prop} (h:Calls P F vs w R) (k:∀e w',R e w'→∃v,e= .returned v∧S w'∧N v w'):CaY P F vs S w N:=h.mono k
end
inductive Ord where
 |nil
 |one (i:Nat) (t:Ord)
 |two (i:Nat) (t:Ord) (j:Nat) (u:Ord)
def Ord.of:List Nat→Ord
 |[]=> .nil
 |i::is=> .one i (Ord.of is)
def Ord.dep:Ord→Nat
 | .nil=>0
 | .one _ t=>t.dep+1
 | .two _ t _ u=>max t.dep u.dep+1
def Ord.end:Ord→Bool
 | .nil=>true
 |_=>false
structure Bo (p q:Prop):Prop where
 a:p
 b:q
def StpY {P:Program} (T:Tb P) (ops:List Oper) (G:Nat→Option Value) (S:World→Prop) (k:Nat) (nf:List Nat) (i:Nat) (R:List (Nat × Value)→World→Prop) (M:List (Nat × Value)) (w:World):Prop :=
 match nth ops i with
 |none=>False
 |some o =>
  guardK G M ops o
   (cond (inL nf i) False (viewK G M T o (fun v=>R (pM o.dst v M) w) (fun E=>StY P E S fun v=>R (pM o.dst v M) w)
    (fun E=>cond (Nat.beq i k) (Ef P E w fun v w'=>R (pM o.dst v M) w') (EfY P E S w fun v w'=>R (pM o.dst v M) w'))
    (fun E=>cond (Nat.beq i k) (Eu P E w fun w'=>R (pM o.dst undef M) w') (EuY P E S w fun w'=>R (pM o.dst undef M) w'))
    (fun F vs=>cond (Nat.beq i k) (Ca P F vs w fun v w'=>R (pM o.dst v M) w') (CaY P F vs S w fun v w'=>R (pM o.dst v M) w'))))
   (R (pM o.dst undef M) w)
def ObY {P:Program} (T:Tb P) (ops:List Oper) (G:Nat→Option Value) (S:World→Prop) (k:Nat) (nf:List Nat) (K:List (Nat × Value)→World→Prop):Ord→List (Nat × Value)→World→Prop
 | .nil,M,w=>K M w
 | .one i t,M,w=>StpY T ops G S k nf i (fun M w=>ObY T ops G S k nf K t M w) M w
 | .two i t j u,M,w=>Bo (StpY T ops G S k nf i (fun M w=>ObY T ops G S k nf K t M w) M w) (StpY T ops G S k nf j (fun M w=>ObY T ops G S k nf K u M w) M w)
def okY (ops:Array Oper) (k:Nat) (nf:List Nat):Ord→Array Bool→Bool
 | .nil,listed=>(Region.ready .any ops listed).isEmpty
 | .one i t,listed=>(match ops[i]? with
   |none=>false
   |some o=>cond (effB o&& !inL nf i) (Region.ready .any ops listed==[i]) (Region.free .any ops listed i&&(Region.ready .any ops listed).contains i&&(Nat.ble ops.size k||Ab3 .any ops listed ops.size i k)))&&(cond (Nat.beq i k) t.end true)&&okY ops k nf t (listed.setIfInBounds i true)
 | .two i t j u,listed=>(Region.ready .any ops listed==[i,j])&& !inL nf i&& !inL nf j&&(cond (Nat.beq i k) t.end true)&&(cond (Nat.beq j k) u.end true)&&okY ops k nf t (listed.setIfInBounds i true)&&okY ops k nf u (listed.setIfInBounds j true)
section
variable {P:Program} {a:Act} {n:Nat} {G:Nat→Option Value} {Q:Exit→Act→World→Prop} {S:World→Prop}
theorem step_out (T:Tb P) {ops:Array Oper} {k:Nat} {nf:List Nat} {R:List (Nat × Value)→World→Prop} {W:Act→World→Prop} {i:Nat} {M:List (Nat × Value)} {w:World} (f:Fr a n G M) (hS:S w) (hnf:inL nf i=false)
 (go:∀o,ops[i]? =some o→∀v w',(i≠k→S w')→R (pM o.dst v M) w'→W ((pU a M).put o.dst v) w')
 (h:StpY T ops.toList G S k nf i R M w):wpOp P ops Q i (fun a' w'=>(i≠k→S w')∧W a' w') (pU a M) w:=by
 unfold StpY at h
 cases e0:nth ops.toList i with
 |none=>rw [e0] at h;exact h.elim
 |some o =>
 rw [e0] at h
 simp only at h
 have hi:ops[i]? =some o:=by rw [←Array.getElem?_toList];exact nth_get e0
 replace go:=go o hi
 refine wpOp_step hi (fun K' hK=> ?_)
 have hK':∀a w,(i≠k→S w)→((i≠k→S w)→W a w)→K' a w:=fun a w h1 h2=>hK a w ⟨h1,h2 h1⟩
 rcases guardK_out f h with ⟨hw,h⟩|⟨hw,h⟩
 ·rw [if_pos hw]
  rw [hnf,cond_false] at h
  unfold Oper.wp
  cases viewK_out f T h with
  |pure v hr k=>rw [hr];exact hK' _ _ (fun _=>hS) (fun s=>go v w s k)
  |still E hr k=>obtain ⟨v,e,k⟩:=k;rw [hr w v w (e w hS)];exact hK' _ _ (fun _=>hS) (fun s=>go v w s k)
  |eff E _ hr q =>
   cases e:Nat.beq i k with
   |true =>
    rw [e] at q
    have e:=Nat.eq_of_beq_eq_true e
    obtain ⟨v,w',e1,q⟩:=q
    rw [hr w v w' e1]
    exact hK' _ _ (fun hne=>absurd e hne) (fun s=>go v w' s q)
   |false =>
    rw [e] at q
    obtain ⟨v,w',e1,s1,q⟩:=q
    rw [hr w v w' e1]
    exact hK' _ _ (fun _=>s1) (fun s=>go v w' s q)
  |unit E _ hr q =>
   cases e:Nat.beq i k with
   |true =>
    rw [e] at q
    have e:=Nat.eq_of_beq_eq_true e
    obtain ⟨w',e1,q⟩:=q
    rw [hr w w' e1]
    exact hK' _ _ (fun hne=>absurd e hne) (fun s=>go undef w' s q)
   |false =>
    rw [e] at q
    obtain ⟨w',e1,s1,q⟩:=q
    rw [hr w w' e1]
    exact hK' _ _ (fun _=>s1) (fun s=>go undef w' s q)
  |call F vs _ hr q =>
   rw [hr,Oper.upon_enter]
   cases e:Nat.beq i k with
   |true =>
    rw [e] at q
    have e:=Nat.eq_of_beq_eq_true e
    refine Calls.mono q fun en w' p=> ?_
    obtain ⟨v,rfl,p⟩:=p
    exact hK' _ _ (fun hne=>absurd e hne) (fun s=>go v w' s p)
   |false =>
    rw [e] at q
    refine Calls.mono q fun en w' p=> ?_
    obtain ⟨v,rfl,s1,p⟩:=p
    exact hK' _ _ (fun _=>s1) (fun s=>go v w' s p)
 ·rw [if_neg (by rw [hw];decide)]
  exact hK' _ _ (fun _=>hS) (fun s=>go undef w s h)
theorem end_nil {t:Ord} (h:t.end=true):t= .nil:=by
 cases t with
 |nil=>rfl
 |one _ _=>cases h
 |two _ _ _ _=>cases h
theorem oby_out (T:Tb P) {ops:Array Oper} {k:Nat} {nf:List Nat} {K:List (Nat × Value)→World→Prop} (hK:∀M w,Fr a n G M→K M w→Q .normal (pU a M) w)
 (hQ:∀c a a' w,Q (.panic c) a w→Q (.panic c) a' w) (hsel:Region.noSelect ops=true) (hd:dstB n ops.toList=true) :
 ∀(is:Ord) (fuel:Nat) {listed:Array Bool} {M:List (Nat × Value)} {w:World},Fr a n G M→is.dep≤fuel→okY ops k nf is listed=true→(is≠ .nil→S w)→ObY T ops.toList G S k nf K is M w→Acd P .any ops Q S k fuel listed (pU a M) w
 | .nil,fuel,listed,M,w,f,_,ho,_,h=>Agb (by unfold okY at ho;simpa using ho) (hK M w f h) fuel
 | .one i t,0,listed,M,w,f,hl,ho,hS,h=>by simp [Ord.dep] at hl
 | .two i t j u,0,listed,M,w,f,hl,ho,hS,h=>by simp [Ord.dep] at hl
 | .one i t,fuel+1,listed,M,w,f,hl,ho,hS0,h=>by
   have hS:=hS0 (by simp)
   unfold ObY at h
   unfold okY at ho
   simp only [Bool.and_eq_true] at ho
   obtain ⟨⟨ho1,hlast⟩,ho2⟩:=ho
   have hl':t.dep≤fuel:=by simp [Ord.dep] at hl;omega
   have go:∀o,ops[i]? =some o→∀v w',(i≠k→S w')→ObY T ops.toList G S k nf K t (pM o.dst v M) w'→Acd P .any ops Q S k fuel (listed.setIfInBounds i true) ((pU a M).put o.dst v) w':=fun o hi v w' s h=>by
    have hdo:dOk n o.dst=true:=dstB_mem hd (List.mem_of_getElem? (by rw [Array.getElem?_toList];exact hi))
    rw [←puts_putM]
    refine oby_out T hK hQ hsel hd t fuel (f.put hdo) hl' ho2 (fun hne=>s (fun e=> ?_)) h
    rw [e,Nat.beq_refl] at hlast
    exact hne (end_nil hlast)
   have hu:=h
   unfold StpY at h
   cases e0:nth ops.toList i with
   |none=>rw [e0] at h;exact h.elim
   |some o =>
    rw [e0] at h
    simp only at h
    have hi:ops[i]? =some o:=by rw [←Array.getElem?_toList];exact nth_get e0
    rw [hi] at ho1
    simp only at ho1
    by_cases hfl:(effB o&& !inL nf i)=true
    ·rw [hfl] at ho1
     have hr:Region.ready .any ops listed=[i]:=by simpa using ho1
     have hnf:inL nf i=false:=by simp at hfl;exact hfl.2
     refine ⟨fun h0=>absurd (hr.symm.trans h0) (by simp),fun i' hi'=> ?_⟩
     rw [hr] at hi'
     obtain rfl:i'=i:=by simpa using hi'
     exact step_out T f hS hnf go hu
    ·have hfl:(effB o&& !inL nf i)=false:=by simpa using hfl
     rw [hfl] at ho1
     simp only [cond_false,Bool.and_eq_true,Bool.or_eq_true] at ho1
     obtain ⟨⟨hfree,hready⟩,hwt⟩:=ho1
     have hwt:Ab3 .any ops listed ops.size i k=true∨ops.size≤k:=hwt.elim (fun q=> .inr (Nat.le_of_ble_eq_true q)) .inl
     have first:∀v,YieldsIf P ops S o v (pU a M)→ObY T ops.toList G S k nf K t (pM o.dst v M) w→Acd P .any ops Q S k (fuel+1) listed (pU a M) w:=fun v hy q =>
      wpAnyE_firstG hi (Region.noSelect_spec hsel) (fun c a w q=>hQ c _ _ w q) fuel listed _ w (Region.free_spec hi hfree) (by simpa using hready) hwt hy hS (go o hi v w (fun _=>hS) q)
     rcases guardK_out f h with ⟨hw,h⟩|⟨hw,h⟩
     ·cases hnf:inL nf i with
      |true=>rw [hnf] at h;exact h.elim
      |false =>
       rw [hnf,cond_false] at h
       have hef:effB o=false:=by rw [hnf] at hfl;simpa using hfl
       cases viewK_out f T h with
       |pure v hr k=>exact first v (.inl ⟨hw,fun w1 _=>hr w1⟩) k
       |still E hr k=>obtain ⟨v,e,k⟩:=k;exact first v (.inl ⟨hw,fun w1 s=>hr w1 v w1 (e w1 s)⟩) k
       |eff E e _ _=>rw [hef] at e;cases e
       |unit E e _ _=>rw [hef] at e;cases e
       |call F vs e _ _=>rw [hef] at e;cases e
     ·exact first undef (.inr ⟨hw,rfl⟩) h
 | .two i t j u,fuel+1,listed,M,w,f,hl,ho,hS0,h=>by
   have hS:=hS0 (by simp)
   unfold ObY at h
   unfold okY at ho
   simp only [Bool.and_eq_true,Bool.not_eq_true'] at ho
   obtain ⟨⟨⟨⟨⟨⟨hr,nfi⟩,nfj⟩,hli⟩,hlj⟩,hoi⟩,hoj⟩:=ho
   have hr:Region.ready .any ops listed=[i,j]:=by simpa using hr
   obtain ⟨ha,hb⟩:=h
   have hlt:t.dep≤fuel∧u.dep≤fuel:=by simp [Ord.dep] at hl;omega
   have one:∀(i:Nat) (t:Ord),t.dep≤fuel→(cond (Nat.beq i k) t.end true)=true→okY ops k nf t (listed.setIfInBounds i true)=true →
        ∀o,ops[i]? =some o→∀v w',(i≠k→S w')→ObY T ops.toList G S k nf K t (pM o.dst v M) w'→Acd P .any ops Q S k fuel (listed.setIfInBounds i true) ((pU a M).put o.dst v) w':=fun i t ht hlast ho2 o hi v w' s h=>by
    have hdo:dOk n o.dst=true:=dstB_mem hd (List.mem_of_getElem? (by rw [Array.getElem?_toList];exact hi))
    rw [←puts_putM]
    refine oby_out T hK hQ hsel hd t fuel (f.put hdo) ht ho2 (fun hne=>s (fun e=> ?_)) h
    rw [e,Nat.beq_refl] at hlast
    exact hne (end_nil hlast)
   refine ⟨fun h0=>absurd (hr.symm.trans h0) (by simp),fun q hq=> ?_⟩
   rw [hr] at hq
   rcases List.mem_cons.1 hq with rfl|hq
   ·exact step_out T f hS nfi (one q t hlt.1 hli hoi) ha
   ·obtain rfl:q=j:=by simpa using hq
    exact step_out T f hS nfj (one q u hlt.2 hlj hoj) hb
termination_by is fuel=>fuel
theorem zo (T:Tb P) (is:Ord) (k:Nat) (S:World→Prop) {l:List Value} {ds:List Deferred} {id:Nat} {os:List Oper} {w:World} (nf:List Nat:=[]) (hS:S w.drew)
 (h:ObY T os (Glit l) S k nf (fun M w=>Fi (Q .normal (pU ⟨l.toArray,ds⟩ M) w)) is [] w.drew)
 (hk:okY os.toArray k nf is (Array.replicate os.length false)=true:=by kernel_rfl) (hd:dstB l.length os=true:=by kernel_rfl) (hs:Region.noSelect os.toArray=true:=by kernel_rfl) (hm:P.follows .mixedOrders=true:=by kernel_rfl) (hl:Nat.ble is.dep os.length=true:=by kernel_rfl) :
 (Code.region id os.toArray true).wp P Q ⟨l.toArray,ds⟩ w :=
 wp_region_noPanic (Aek k hm hS (fun s=>oby_out (ops:=os.toArray) T (fun M w _ h=>NoPanic.normal h.out) (fun _ _ _ _ q=>q) hs hd is _ (fr_lit l ds) (by have:=Nat.le_of_ble_eq_true hl;simpa using this) hk (fun _=>s) h))
theorem zy (T:Tb P) (is:List Nat) (k:Nat) (S:World→Prop) {l:List Value} {ds:List Deferred} {id:Nat} {os:List Oper} {w:World} (nf:List Nat:=[]) (hS:S w.drew)
 (h:ObY T os (Glit l) S k nf (fun M w=>Fi (Q .normal (pU ⟨l.toArray,ds⟩ M) w)) (Ord.of is) [] w.drew)
 (hk:okY os.toArray k nf (Ord.of is) (Array.replicate os.length false)=true:=by kernel_rfl) (hd:dstB l.length os=true:=by kernel_rfl) (hs:Region.noSelect os.toArray=true:=by kernel_rfl) (hm:P.follows .mixedOrders=true:=by kernel_rfl) (hl:Nat.ble (Ord.of is).dep os.length=true:=by kernel_rfl) :
 (Code.region id os.toArray true).wp P Q ⟨l.toArray,ds⟩ w:=zo T (Ord.of is) k S nf hS h hk hd hs hm hl
end
section
variable {P:Program}
def faB (P:Program) (s f d:Nat):Bool :=
 match P.underlying s with
 |some (.struct fs)=>match fs[f]? with
  |some fd=>Nat.beq fd.offset d&&match P.info? fd.type with
   |some i=> !Nat.beq (P.cellsOf fd.type) 0
   |none=>false
  |none=>false
 |_=>false
theorem faB_out {s f d:Nat} (h:faB P s f d=true) (b o:Nat) (w:World):(Instr.fieldAt s (pZ b o) f).run P w= .ok (pZ b (o+d)) w:=by
 unfold faB at h
 cases e1:P.underlying s with
 |none=>rw [e1] at h;cases h
 |some t =>
  rw [e1] at h
  cases t <;>simp only at h <;>try cases h
  rename_i fs
  cases e2:fs[f]? with
  |none=>rw [e2] at h;cases h
  |some fd =>
   rw [e2] at h
   simp only [Bool.and_eq_true] at h
   obtain ⟨h1,h2⟩:=h
   cases e3:P.info? fd.type with
   |none=>rw [e3] at h2;cases h2
   |some i =>
    rw [e3] at h2
    simp only [Bool.not_eq_true'] at h2
    have h1:=Nat.eq_of_beq_eq_true h1
    have h2:P.cellsOf fd.type≠0:=fun q=>by rw [q] at h2;cases h2
    unfold Instr.fieldAt
    simp only [underlying,Sem.run_bind,run_program,Result.andThen_ok,e1,Sem.run_pure,e2,Instr.sureAddr,fieldPlace,run_sizeOf _ e3,Addr.add,h1]
    by_cases hd:d=0
    ·simp [hd,h2]
    ·simp [hd,h2]
def lnB (P:Program) (t:Nat):Bool:=match P.underlying t with |some (.slice _)=>true|_=>false
theorem lnB_out {t:Nat} (h:lnB P t=true) (r:TypeId) (a:Option Addr) (n c:Nat) (w:World):(Builtin.len_ #[t] r #[.slice a n c]).run P w= .ok (.int .i64 (n:Int)) w:=by
 unfold lnB at h
 cases e1:P.underlying t with
 |none=>rw [e1] at h;cases h
 |some d =>
  rw [e1] at h
  cases d <;>simp only at h <;>try cases h
  unfold Builtin.len_
  simp [underlying,e1,goInt]
def fnB (P:Program) (f:Nat):Bool:=match P.funcs[f]? with |some fn=> !(fn.name== "runtime.NumGoroutine")&&fn.body.isSome|none=>false
theorem fnB_out {f:Nat} (h:fnB P f=true) (vs:Array Value) (w:World):(callFunc f vs).run P w= .ok (.enter f vs) w:=by
 unfold fnB at h
 cases e1:P.funcs[f]? with
 |none=>rw [e1] at h;cases h
 |some fn =>
  rw [e1] at h
  simp only [Bool.and_eq_true,Bool.not_eq_true'] at h
  obtain ⟨h1,h2⟩:=h
  have h4:fn.name≠ "runtime.NumGoroutine" :=by simpa using h1
  have h5:fn.body≠none:=by intro q;rw [q] at h2;cases h2
  unfold callFunc
  simp [e1,h4,h5]
def tbOf (P:Program) (fa:List ((Nat × Nat) × Nat)) (ln fn:List Nat) (h:(fa.all (fun e=>faB P e.1.1 e.1.2 e.2)&&ln.all (lnB P)&&fn.all (fnB P))=true):Tb P :=
 {fa:=fa
  fa_ok:=fun e he=>by rw [Bool.and_eq_true,Bool.and_eq_true] at h;exact faB_out (List.all_eq_true.1 h.1.1 e he)
  ln:=ln
  ln_ok:=fun t ht=>by rw [Bool.and_eq_true,Bool.and_eq_true] at h;exact lnB_out (List.all_eq_true.1 h.1.2 t ht)
  fn:=fn
  fn_ok:=fun f hf=>by rw [Bool.and_eq_true,Bool.and_eq_true] at h;exact fnB_out (List.all_eq_true.1 h.2 f hf)}
end
end En
section
def tab:En.Tb prog:=En.tbOf prog [((36,1),32),((40,0),0),((40,1),1),((40,2),2),((40,3),3),((42,0),0),((42,1),1),((42,2),34),((42,3),67),((42,4),100),((42,5),101),((42,6),105),((65,0),0),((65,1),1),((65,2),2),((65,3),3),((75,0),0),((78,0),0),((78,2),66),((80,0),0),((80,1),1),((83,0),0),((87,0),0),((87,1),1),((90,0),0),((95,0),0),((95,1),33),((95,2),34),((95,3),38),((95,4),71),((95,5),104),((99,0),0),((99,1),33),((99,2),34),((99,3),38),((99,4),71),((99,5),104),((105,0),0),((105,1),33),((105,2),66),((128,0),0),((128,1),67),((128,2),68),((128,3),69),((128,4),71),((152,0),0),((152,1),1),((152,2),2),((179,0),0),((179,1),1)] [22,31,49,56,73,81,85,88,113,150] [8,9,10,11,12,13,14,15,16,17,18,19,20,21,22,23,24,25,26,27,28,29,30,31,32,33,34,35,36,37,38,39,40,41,42,43,44,45,46,47,48,49,50,51,52,53,54,55,56,57,58,59,60,61,62,63,64,65,66,67,69,70,71,72,73,74,76,77,78,79,80,81,82,84,85,86,87,88,89,90,91,92,93,94,95,96,97,98,99,100,101,102,103,104,105,106,107,108,109,110,111,112,113,114,115,116,117,118,119,120,121,122,123,124,125,126,127,128,129,130,131,132,133,134,135,136,137,138,140,141,142,143,144,145,146,147,148,149,150,151,152,153,154,155,156,157,158,159,160,161,162,163,164,165,166,167,168,169,170,171,173,174,175,176,177] (by kernel_rfl)
end
namespace En
open Go Go.RowKit
section
variable {P:Program} {Q:Exit→Act→World→Prop}
theorem zqc (T:Tb P) {l:List Value} {ds:List Deferred} {id:Nat} {os:List Oper} {w:World} (hd:dstB l.length os=true)
 (h:ObQ T os (Glit l) (fun M w=>Fi (∀a' W',W'=w→a'=pU ⟨l.toArray,ds⟩ M→Q .normal a' W')) os [] w):(Code.region id os.toArray false).wp P Q ⟨l.toArray,ds⟩ w :=
 wp_region_list (obq_out (ops:=os.toArray) T (fun M w _ h=>h.out _ _ rfl rfl) os (fr_lit l ds) hd h)
theorem zyc (T:Tb P) (is:List Nat) (k:Nat) (S:World→Prop) {l:List Value} {ds:List Deferred} {id:Nat} {os:List Oper} {w:World} (nf:List Nat:=[]) (hS:S w.drew)
 (h:ObY T os (Glit l) S k nf (fun M w=>Fi (∀a' W',W'=w→a'=pU ⟨l.toArray,ds⟩ M→Q .normal a' W')) (Ord.of is) [] w.drew)
 (hk:okY os.toArray k nf (Ord.of is) (Array.replicate os.length false)=true:=by kernel_rfl) (hd:dstB l.length os=true:=by kernel_rfl) (hs:Region.noSelect os.toArray=true:=by kernel_rfl) (hm:P.follows .mixedOrders=true:=by kernel_rfl) (hl:Nat.ble (Ord.of is).dep os.length=true:=by kernel_rfl) :
 (Code.region id os.toArray true).wp P Q ⟨l.toArray,ds⟩ w :=
 wp_region_noPanic (Aek k hm hS (fun s=>oby_out (ops:=os.toArray) T (fun M w _ h=>NoPanic.normal (h.out _ _ rfl rfl)) (fun _ _ _ _ q=>q) hs hd (Ord.of is) _ (fr_lit l ds) (by have:=Nat.le_of_ble_eq_true hl;simpa using this) hk (fun _=>s) h))
end
theorem neB {p q:Int} {r:Bool} (h:decide (p≠q)=r):(!decide (p=q))=r:=by
 rw [←h]
 by_cases e:p=q <;>simp [e]
theorem wI {z:Int} (h: -9223372036854775808≤z∧z≤9223372036854775807):IntKind.i64.wrap z=z:=by rw [IntKind.wrap_i64];omega
theorem wN {p q:Nat} (h:p+q≤9223372036854775807):IntKind.i64.wrap ((p:Int)+(q:Int))=((p+q:Nat):Int):=by rw [wI (by omega)];omega
theorem wE {p k:Nat} (h:(p:Int)+1=(k:Int)) (hb:(k:Int)≤9223372036854775807):IntKind.i64.wrap ((p:Int)+1)=(k:Int):=by rw [wI (by omega),h]
theorem wD {n:Nat} (h:n≤1400000000001):IntKind.i64.wrap (((n+1:Nat):Int)-1)=(n:Int):=by rw [wI (by omega)];omega
end En
section
open Go.RowKit
def bs (h:List UInt8):Array Value:=(h.map (fun b=>Value.int .u8 (b.toNat:Int))).toArray
def at8 (h:List UInt8) (k:Nat):Int:=((h.getD k 0).toNat:Int)
theorem A1q (h:List UInt8) (k:Nat) (hk:k<h.length):(bs h)[k]? =some (.int .u8 (at8 h k)):=by
 simp [bs,at8,List.getElem?_eq_getElem hk]
end
section
open Go.RowKit
section
variable {P:Program}
end
end
section
open Go.RowKit
section
variable {P:Program}
theorem Ayt (d:Nat) (e:TypeId) (he:P.underlying e=some (.int .u8)) (a b:List UInt8) (w:World) (is:List Nat)
 (h:∀i∈is,i<a.length∧i<b.length) :
 (Op.eqItems (d+1) e 1 (bs a) (bs b) is).run P w= .ok (is.all (fun i=>at8 a i==at8 b i)) w:=by
 have hpk:P.plainKey e=true:=by simp [Program.plainKey,he]
 induction is with
 |nil=>simp [Op.eqItems]
 |cons i is ih =>
  have hi:=h i (by simp)
  have p1:=run_part_plain w hpk (off:=i) (A1q a i hi.1)
  have p2:=run_part_plain w hpk (off:=i) (A1q b i hi.2)
  simp only [Op.eqItems,Nat.mul_one,Sem.run_bind,p1,p2,Result.andThen_ok,run_equalIn_int w d e .u8 .u8 _ _ he,List.all_cons]
  rw [Sem.run_ite]
  cases hq:(at8 a i==at8 b i) with
  |false=>simp
  |true =>
   simp only [Bool.not_true,Bool.false_eq_true,if_false,Bool.true_and]
   exact ih (fun j hj=>h j (by simp [hj]))
theorem A35 {a b:List UInt8} (n:Nat) (ha:a.length=n) (hb:b.length=n) (h:∀i,i<n→at8 a i=at8 b i):a=b:=by
 apply List.ext_getElem (by omega)
 intro i h1 h2
 have:=h i (by omega)
 simp only [at8,List.getD_eq_getElem?_getD,List.getElem?_eq_getElem h1,List.getElem?_eq_getElem h2,Option.getD_some] at this
 exact UInt8.toNat_inj.1 (by omega)
theorem A6w (n:Nat) (a b:List UInt8) (ha:a.length=n) (hb:b.length=n):(List.range n).all (fun i=>at8 a i==at8 b i)=decide (a=b):=by
 rw [Bool.eq_iff_iff]
 simp only [List.all_eq_true,List.mem_range,beq_iff_eq,decide_eq_true_eq]
 exact ⟨A35 n ha hb,fun h i _=>by rw [h]⟩
theorem Azf (d:Nat) {t e:TypeId} {n:Nat} {i:TypeInfo} (hu:P.underlying t=some (.array n e)) (hi:P.info? e=some i) (hc:P.cellsOf e=1) (he:P.underlying e=some (.int .u8))
 (a b:List UInt8) (ha:a.length=n) (hb:b.length=n) (w:World) :
 (Op.equalIn (d+2) t (.agg (bs a)) (.agg (bs b))).run P w= .ok (decide (a=b)) w:=by
 rw [run_equalIn_array w (d+1) (bs a) (bs b) hu hi,hc,Ayt d e he a b w _ (fun j hj=>by have:=List.mem_range.1 hj;omega),A6w n a b ha hb]
end
def z32:List UInt8:=List.replicate 32 0
def hcs (h:List UInt8):List Value:=(bs h).toList
theorem Acz (h:List UInt8):(hcs h).length=h.length:=by simp [hcs,bs]
theorem Ass (h:List UInt8):(hcs h).toArray=bs h:=by simp [hcs]
theorem A3i (h:List UInt8):∀v∈hcs h,v.oneCell'=true:=by
 intro v hv
 simp [hcs,bs] at hv
 obtain ⟨b,_,rfl⟩:=hv
 rfl
theorem Ahy {B:Nat} {w w':World} {b o:Nat} {cs:List Value} (h:w.rangeAt b o cs) (hb:Below B w w') (hB:b<B):w'.rangeAt b o cs:=fun j v hv=>by
 rw [hb.cell (p:=⟨b,o+j,none⟩) hB];exact h j v hv
def part (P:List (List UInt8)) (m k:Nat):List (List UInt8):=P.take k++List.replicate (m-k) z32
end
namespace M
open Go.RowKit
theorem map_erase {α β:Type} (f:α→β):∀(l:List α) (i:Nat),(l.eraseIdx i).map f=(l.map f).eraseIdx i
 |[],i=>by simp
 |a::l,0=>by simp
 |a::l,i+1=>by simp [map_erase f l i]
section
variable {P:Program} {κ:Type}
def Stamps (l:List Nat) (c:Nat):Prop:=(∀n∈l,n<c)∧l.Nodup
def MapAt (w:World) (b:Nat) (enc:κ→Value) (V:κ→Prop) (E:List (κ × Value)):Prop :=
 (∃es clock,w.heap[b]? =some (.map es clock)∧es.toList.map (fun e=>(e.key,e.val))=E.map (fun p=>(enc p.1,p.2))∧Stamps (es.toList.map (·.born)) clock)∧(E.map (·.1)).Nodup∧∀p∈E,V p.1
theorem MapAt.below {w w':World} {b:Nat} {enc:κ→Value} {V:κ→Prop} {E:List (κ × Value)} (h:MapAt w b enc V E) (hb:w'.heap[b]? =w.heap[b]?):MapAt w' b enc V E:=by
 obtain ⟨⟨es,c,h1,h2,h4⟩,h3⟩:=h
 exact ⟨⟨es,c,hb.trans h1,h2,h4⟩,h3⟩
theorem MapAt.lt {w:World} {b:Nat} {enc:κ→Value} {V:κ→Prop} {E:List (κ × Value)} (h:MapAt w b enc V E):b<w.heap.size:=by
 obtain ⟨⟨es,c,h1,_⟩,_⟩:=h
 exact (Array.getElem?_eq_some_iff.1 h1).1
theorem MapAt.new (w:World) (enc:κ→Value) (V:κ→Prop):MapAt (w.alloc (.map #[] 0)) w.heap.size enc V [] :=
 ⟨⟨#[],0,heap_alloc_new _ _,rfl,by simp [Stamps]⟩,by simp,by simp⟩
def setM (w:World) (b:Nat) (o:Obj):World:={w with heap:=w.heap.setIfInBounds b o}
theorem setM_same {w:World} {b:Nat} (o:Obj) (h:b<w.heap.size):(setM w b o).heap[b]? =some o:=by simp [setM,h]
theorem setM_other {w:World} {b k:Nat} (o:Obj) (h:k≠b):(setM w b o).heap[k]? =w.heap[k]? :=by simp [setM,Array.getElem?_setIfInBounds,Ne.symm h]
theorem setM_size (w:World) (b:Nat) (o:Obj):(setM w b o).heap.size=w.heap.size:=by simp [setM]
theorem setM_below {base:Nat} {w0 w:World} {b:Nat} (o:Obj) (h:Below base w0 w) (hb:base≤b):Below base w0 (setM w b o) :=
 ⟨h.os,h.tape,h.output,by rw [setM_size];exact h.size,fun k hk=>(setM_other o (by omega)).trans (h.block k hk)⟩
end
section
variable {P:Program} {κ:Type} [DecidableEq κ]
structure KeyOk (P:Program) (kt:TypeId) (enc:κ→Value) (V:κ→Prop):Prop where
 chk:∀b k w,V k→(Instr.checkKey b 10000 kt (enc k)).run P w= .ok () w
 eq:∀a b w,V a→V b→(Op.equal kt (enc a) (enc b)).run P w= .ok (decide (a=b)) w
 und:∃u,P.underlying kt=some u∧((∀a b,Instr.sameNow u (enc a) (enc b)=none)∨∀a b,Instr.sameNow u (enc a) (enc b)=some (decide (a=b)))
 bits:∀k,Instr.sameBits 10000 (enc k) (enc k)=true
variable {β:Type}
def fnd:List (κ × β)→κ→Nat→Option (Nat × β)
 |[],_,_=>none
 |p::E,k,i=>if k=p.1 then some (i,p.2) else fnd E k (i+1)
def look (E:List (κ × β)) (k:κ):Option β:=(fnd E k 0).map (·.2)
def has (E:List (κ × β)) (k:κ):Bool:=(fnd E k 0).isSome
def put (E:List (κ × β)) (k:κ) (v:β):List (κ × β):=match fnd E k 0 with |some (i,_)=>E.set i (k,v)|none=>E++[(k,v)]
def del (E:List (κ × β)) (k:κ):List (κ × β):=match fnd E k 0 with |some (i,_)=>E.eraseIdx i|none=>E
theorem fnd_shift (E:List (κ × β)) (k:κ) (i:Nat):fnd E k i=(fnd E k 0).map fun p=>(p.1+i,p.2):=by
 induction E generalizing i with
 |nil=>rfl
 |cons p E ih =>
  unfold fnd
  split
  ·simp
  ·rw [ih (i+1),ih (0+1)]
   cases fnd E k 0 with
   |none=>rfl
   |some q=>simp;omega
theorem look_nil (k:κ):look ([]:List (κ × β)) k=none:=rfl
theorem look_cons (p:κ × β) (E:List (κ × β)) (k:κ):look (p::E) k=if k=p.1 then some p.2 else look E k:=by
 unfold look
 rw [fnd]
 split
 ·rfl
 ·rw [fnd_shift]
  cases fnd E k 0 <;>rfl
theorem has_look (E:List (κ × β)) (k:κ):has E k=(look E k).isSome:=by unfold has look;cases fnd E k 0 <;>rfl
theorem fnd_some {E:List (κ × β)} {k:κ} {i:Nat} {v:β} (h:fnd E k 0=some (i,v)):E[i]? =some (k,v)∧i<E.length:=by
 induction E generalizing i with
 |nil=>cases h
 |cons p E ih =>
  unfold fnd at h
  split at h
  ·next e=>cases h;subst e;simp
  ·rw [fnd_shift] at h
   cases hf:fnd E k 0 with
   |none=>rw [hf] at h;cases h
   |some q =>
    rw [hf] at h
    obtain ⟨j,u⟩:=q
    simp at h
    obtain ⟨rfl,rfl⟩:=h
    have:=ih hf
    simpa using this
theorem fnd_none {E:List (κ × β)} {k:κ} (h:fnd E k 0=none):∀p∈E,p.1≠k:=by
 induction E with
 |nil=>intro p hp;cases hp
 |cons q E ih =>
  unfold fnd at h
  split at h
  ·cases h
  ·next e =>
   rw [fnd_shift] at h
   cases hf:fnd E k 0 with
   |some r=>rw [hf] at h;cases h
   |none =>
    intro p hp
    rcases List.mem_cons.1 hp with rfl|hp
    ·exact fun e2=>e e2.symm
    ·exact ih hf p hp
theorem look_app (E F:List (κ × β)) (k:κ):look (E++F) k=(look E k).or (look F k):=by
 induction E with
 |nil=>rw [List.nil_append,look_nil];rfl
 |cons p E ih =>
  rw [List.cons_append,look_cons,look_cons]
  split
  ·rfl
  ·exact ih
theorem look_mem {E:List (κ × β)} {k:κ} {v:β} (h:look E k=some v):(k,v)∈E:=by
 unfold look at h
 cases hf:fnd E k 0 with
 |none=>rw [hf] at h;cases h
 |some q =>
  rw [hf] at h
  obtain ⟨i,u⟩:=q
  cases h
  exact List.mem_of_getElem? (fnd_some hf).1
theorem look_of_mem {E:List (κ × β)} (hn:(E.map (·.1)).Nodup) {k:κ} {v:β} (h:(k,v)∈E):look E k=some v:=by
 induction E with
 |nil=>cases h
 |cons p E ih =>
  rw [List.map_cons,List.nodup_cons] at hn
  rw [look_cons]
  rcases List.mem_cons.1 h with rfl|h
  ·rw [if_pos rfl]
  ·rw [if_neg]
   ·exact ih hn.2 h
   ·intro e
    exact hn.1 (by rw [←e];exact List.mem_map.2 ⟨_,h,rfl⟩)
theorem put_keys (E:List (κ × β)) (k:κ) (v:β) (hn:(E.map (·.1)).Nodup):((put E k v).map (·.1)).Nodup:=by
 unfold put
 cases hf:fnd E k 0 with
 |none =>
  simp only []
  rw [List.map_append,List.nodup_append]
  refine ⟨hn,by simp,fun a ha b hb e=> ?_⟩
  obtain ⟨p,hp,rfl⟩:=List.mem_map.1 ha
  simp at hb
  subst hb
  exact fnd_none hf p hp e
 |some q =>
  obtain ⟨i,u⟩:=q
  simp only []
  have h:=fnd_some hf
  have e:(E.set i (k,v)).map (·.1)=E.map (·.1):=by
   apply List.ext_getElem?
   intro j
   rw [List.getElem?_map,List.getElem?_map,List.getElem?_set]
   split
   ·next e2 =>
    subst e2
    rw [h.1]
    simp [h.2]
   ·rfl
  rw [e]
  exact hn
theorem look_set {E:List (κ × β)} {i:Nat} {k:κ} {v:β} {u:β} (h:fnd E k 0=some (i,u)) (hn:(E.map (·.1)).Nodup) (k':κ):look (E.set i (k,v)) k'=if k'=k then some v else look E k':=by
 induction E generalizing i with
 |nil=>cases h
 |cons p E ih =>
  rw [fnd] at h
  split at h
  ·next e =>
   cases h
   rw [List.set_cons_zero,look_cons,look_cons, ←e]
   split <;>rfl
  ·next e =>
   rw [fnd_shift] at h
   rw [List.map_cons,List.nodup_cons] at hn
   cases hf:fnd E k 0 with
   |none=>rw [hf] at h;cases h
   |some q =>
    rw [hf] at h
    obtain ⟨j,u2⟩:=q
    simp at h
    obtain ⟨rfl,rfl⟩:=h
    rw [List.set_cons_succ,look_cons,look_cons,ih hf hn.2]
    by_cases e1:k'=k
    ·subst e1;simp [e]
    ·simp [e1]
theorem put_look (E:List (κ × β)) (k:κ) (v:β) (hn:(E.map (·.1)).Nodup) (k':κ):look (put E k v) k'=if k'=k then some v else look E k':=by
 unfold put
 cases hf:fnd E k 0 with
 |none =>
  simp only []
  rw [look_app,look_cons,look_nil]
  by_cases e:k'=k
  ·subst e
   have:look E k'=none:=by unfold look;rw [hf];rfl
   rw [this]
   simp
  ·rw [if_neg e,if_neg e]
   cases look E k' <;>rfl
 |some q =>
  obtain ⟨i,u⟩:=q
  exact look_set hf hn k'
theorem del_keys (E:List (κ × β)) (k:κ) (hn:(E.map (·.1)).Nodup):((del E k).map (·.1)).Nodup:=by
 unfold del
 cases hf:fnd E k 0 with
 |none=>exact hn
 |some q =>
  obtain ⟨i,u⟩:=q
  simp only []
  rw [map_erase]
  exact hn.sublist (List.eraseIdx_sublist _ _)
theorem put_ok {V:κ→Prop} {E:List (κ × β)} (h:∀p∈E,V p.1) {k:κ} (hk:V k) (v:β):∀p∈put E k v,V p.1:=by
 unfold put
 split
 ·intro p hp
  rcases List.mem_or_eq_of_mem_set hp with hp|rfl
  ·exact h p hp
  ·exact hk
 ·intro p hp
  rcases List.mem_append.1 hp with hp|hp
  ·exact h p hp
  ·rw [List.mem_singleton.1 hp];exact hk
theorem del_ok {V:κ→Prop} {E:List (κ × β)} (h:∀p∈E,V p.1) (k:κ):∀p∈del E k,V p.1:=by
 unfold del
 split
 ·intro p hp
  exact h p (List.mem_of_mem_eraseIdx hp)
 ·exact h
def onV {β γ:Type} (f:β→γ) (E:List (κ × β)):List (κ × γ):=E.map fun p=>(p.1,f p.2)
omit [DecidableEq κ] in
theorem onV_keys {γ:Type} (f:β→γ) (E:List (κ × β)):(onV f E).map (·.1)=E.map (·.1):=by unfold onV;rw [List.map_map];rfl
theorem fnd_on {γ:Type} (f:β→γ) (E:List (κ × β)) (k:κ) (i:Nat):fnd (onV f E) k i=(fnd E k i).map fun q=>(q.1,f q.2):=by
 induction E generalizing i with
 |nil=>rfl
 |cons p E ih =>
  show fnd ((p.1,f p.2)::onV f E) k i=_
  rw [fnd,fnd]
  split
  ·rfl
  ·exact ih _
theorem look_on {γ:Type} (f:β→γ) (E:List (κ × β)) (k:κ):look (onV f E) k=(look E k).map f:=by
 unfold look
 rw [fnd_on]
 cases fnd E k 0 <;>rfl
theorem put_on {γ:Type} (f:β→γ) (E:List (κ × β)) (k:κ) (v:β):put (onV f E) k (f v)=onV f (put E k v):=by
 unfold put
 rw [fnd_on]
 cases fnd E k 0 with
 |none=>simp [onV]
 |some q=>obtain ⟨i,u⟩:=q;simp [onV,List.map_set]
theorem run_findAsking {kt:TypeId} {enc:κ→Value} {V:κ→Prop} (K:KeyOk P kt enc V) (w:World) (k:κ) (hk:V k):∀(l:List MapEntry) (E:List (κ × Value)) (i:Nat),l.map (fun e=>(e.key,e.val))=E.map (fun p=>(enc p.1,p.2))→(∀p∈E,V p.1)→(Instr.findAsking kt (enc k) l i).run P w= .ok (fnd E k i) w
 |[],[],i,_,_=>rfl
 |[],p::E,i,h,_=>by simp at h
 |e::l,[],i,h,_=>by simp at h
 |e::l,p::E,i,h,hV=>by
  rw [List.map_cons,List.map_cons,List.cons.injEq] at h
  obtain ⟨h1,h2⟩:=h
  have hkey:e.key=enc p.1:=(Prod.mk.inj h1).1
  have hval:e.val=p.2:=(Prod.mk.inj h1).2
  rw [Instr.findAsking,Sem.run_bind,hkey,K.eq k p.1 w hk (hV p (by simp)),Result.andThen_ok,Sem.run_ite,fnd]
  by_cases hp:k=p.1
  ·rw [if_pos (by simpa using hp),if_pos hp,hval]
   rfl
  ·rw [if_neg (by simpa using hp),if_neg hp]
   exact run_findAsking K w k hk l E (i+1) h2 (fun q hq=>hV q (List.mem_cons_of_mem _ hq))
theorem run_findNow {enc:κ→Value} {u:TypeDesc} (hs:∀a b,Instr.sameNow u (enc a) (enc b)=some (decide (a=b))) (k:κ):∀(l:List MapEntry) (E:List (κ × Value)) (i:Nat),l.map (fun e=>(e.key,e.val))=E.map (fun p=>(enc p.1,p.2))→Instr.findNow u (enc k) l i=some (fnd E k i)
 |[],[],i,_=>rfl
 |[],p::E,i,h=>by simp at h
 |e::l,[],i,h=>by simp at h
 |e::l,p::E,i,h=>by
  rw [List.map_cons,List.map_cons,List.cons.injEq] at h
  obtain ⟨h1,h2⟩:=h
  have hkey:e.key=enc p.1:=(Prod.mk.inj h1).1
  have hval:e.val=p.2:=(Prod.mk.inj h1).2
  rw [Instr.findNow,hkey,hs k p.1,fnd]
  by_cases hp:k=p.1
  ·rw [if_pos hp,decide_eq_true hp,hval]
  ·rw [if_neg hp,decide_eq_false hp]
   exact run_findNow hs k l E (i+1) h2
theorem run_findKey {kt:TypeId} {enc:κ→Value} {V:κ→Prop} (K:KeyOk P kt enc V) (w:World) (k:κ) (hk:V k) {l:List MapEntry} {E:List (κ × Value)} (h:l.map (fun e=>(e.key,e.val))=E.map (fun p=>(enc p.1,p.2))) (hV:∀p∈E,V p.1):(Instr.findKey kt (enc k) l).run P w= .ok (fnd E k 0) w:=by
 obtain ⟨u,hu,hno|hyes⟩:=K.und
 rotate_left
 ·unfold Instr.findKey
  rw [Sem.run_bind,run_underlying hu,Result.andThen_ok,run_findNow hyes k l E 0 h]
  rfl
 have hf:=run_findAsking K w k hk l E 0 h hV
 unfold Instr.findKey
 rw [Sem.run_bind,run_underlying hu,Result.andThen_ok]
 cases l with
 |nil =>
  cases E with
  |nil=>rfl
  |cons p E=>simp at h
 |cons e l =>
  cases E with
  |nil=>simp at h
  |cons p E =>
   rw [List.map_cons,List.map_cons,List.cons.injEq] at h
   have hkey:e.key=enc p.1:=(Prod.mk.inj h.1).1
   rw [Instr.findNow,hkey,hno k p.1]
   exact hf
theorem run_look {kt et mt:TypeId} {enc:κ→Value} {V:κ→Prop} (K:KeyOk P kt enc V) (hm:P.underlying mt=some (.map kt et)) {w:World} {b:Nat} {E:List (κ × Value)} (h:MapAt w b enc V E) (k:κ) (hk:V k) {z:Value} (hz:(zeroValue et).run P w= .ok z w) (ok:Bool) :
 (Instr.lookup mt (.map (some b)) (enc k) ok).run P w= .ok (if ok=true then .tuple #[(look E k).getD z, .bool (has E k)] else (look E k).getD z) w:=by
 obtain ⟨⟨es,c,hb,he,hst0⟩,_,hV⟩:=h
 have hf:=run_findKey K w k hk he hV
 unfold look has
 cases hq:fnd E k 0 with
 |none =>
  rw [hq] at hf
  simp [Instr.lookup,run_underlying hm,MapKept.run_getObj_map hb,K.chk _ k w hk,hf,hz,Result.andThen]
 |some q =>
  obtain ⟨i,v⟩:=q
  rw [hq] at hf
  simp [Instr.lookup,run_underlying hm,MapKept.run_getObj_map hb,K.chk _ k w hk,hf,Result.andThen]
theorem run_put {kt et mt:TypeId} {enc:κ→Value} {V:κ→Prop} (K:KeyOk P kt enc V) (hm:P.underlying mt=some (.map kt et)) {w:World} {b:Nat} {E:List (κ × Value)} (h:MapAt w b enc V E) (k:κ) (hk:V k) (v:Value) :
 ∃o,(Instr.mapUpdate mt (.map (some b)) (enc k) v).run P w= .ok () (setM w b o)∧MapAt (setM w b o) b enc V (put E k v):=by
 have hlt:=h.lt
 obtain ⟨⟨es,c,hb,he,hst0⟩,hn,hV⟩:=h
 have hf:=run_findKey K w k hk he hV
 have hkeys:=put_keys E k v hn
 have hoks:=put_ok hV hk v
 cases hq:fnd E k 0 with
 |none =>
  rw [hq] at hf
  refine ⟨.map (es.push {key:=enc k,val:=v,born:=c}) (c+1), ?_,⟨_,_,setM_same _ hlt, ?_, ?_⟩,hkeys,hoks⟩
  ·simp [Instr.mapUpdate,run_underlying hm,MapKept.run_getObj_map hb,K.chk _ k w hk,hf,MapKept.run_setObj_map _ hb,Result.andThen,setM]
  ·have e:put E k v=E++[(k,v)]:=by unfold put;rw [hq]
   rw [e]
   simp [he]
  ·rw [Array.toList_push,List.map_append]
   refine ⟨fun n hn=> ?_,List.nodup_append.2 ⟨hst0.2,by simp,fun a ha b hb e=> ?_⟩⟩
   ·rcases List.mem_append.1 hn with hn|hn
    ·have:=hst0.1 n hn;omega
    ·simp at hn;omega
   ·simp at hb
    have:=hst0.1 a ha
    omega
 |some q =>
  obtain ⟨i,u⟩:=q
  rw [hq] at hf
  obtain ⟨hEi,hil⟩:=fnd_some hq
  have hes:es.toList.length=E.length:=by have:=congrArg List.length he;simpa using this
  have hi2:i<es.size:=by rw [←Array.length_toList];omega
  have hke:(es[i]?).map (·.key)=some (enc k):=by
   have:=congrArg (fun l=>l[i]?) he
   simp only [List.getElem?_map,hEi] at this
   simp at this
   rw [Array.getElem?_eq_getElem hi2] at this ⊢
   simp at this ⊢
   exact this.1
  have hst:(Instr.keyThatStays (enc k) (enc k)).run P w= .ok (enc k) w:=by
   unfold Instr.keyThatStays
   rw [Sem.run_ite,if_pos (K.bits k)]
   rfl
  refine ⟨.map (es.modify i fun e=>{e with key:=enc k,val:=v}) c, ?_,⟨_,_,setM_same _ hlt, ?_, ?_⟩,hkeys,hoks⟩
  ·simp [Instr.mapUpdate,run_underlying hm,MapKept.run_getObj_map hb,K.chk _ k w hk,hf,hke,hst,MapKept.run_setObj_map _ hb,Result.andThen,setM]
  ·have e:put E k v=E.set i (k,v):=by unfold put;rw [hq]
   rw [e]
   apply List.ext_getElem?
   intro j
   have hj:=congrArg (fun l=>l[j]?) he
   simp only [List.getElem?_map] at hj
   rw [List.getElem?_map,List.getElem?_map,Array.getElem?_toList,Array.getElem?_modify,List.getElem?_set]
   by_cases ej:i=j
   ·subst ej
    rw [if_pos rfl,if_pos rfl,Array.getElem?_eq_getElem hi2]
    simp [hil]
   ·rw [if_neg ej,if_neg ej]
    rw [Array.getElem?_toList] at hj
    exact hj
  ·have e:(es.modify i fun e=>{e with key:=enc k,val:=v}).toList.map (·.born)=es.toList.map (·.born):=by
        apply List.ext_getElem?
        intro j
        rw [List.getElem?_map,List.getElem?_map,Array.getElem?_toList,Array.getElem?_modify,Array.getElem?_toList]
        by_cases ej:i=j
        ·rw [if_pos ej,Option.map_map];rfl
        ·rw [if_neg ej]
   rw [e]
   exact hst0
theorem run_del {kt et mt ty:TypeId} {enc:κ→Value} {V:κ→Prop} (K:KeyOk P kt enc V) (hm:P.underlying mt=some (.map kt et)) {w:World} {b:Nat} {E:List (κ × Value)} (h:MapAt w b enc V E) (k:κ) (hk:V k) :
 ∃o,(Builtin.delete_ #[mt,kt] ty #[.map (some b),enc k]).run P w= .ok (.tuple #[]) (setM w b o)∧MapAt (setM w b o) b enc V (del E k):=by
 have hlt:=h.lt
 obtain ⟨⟨es,c,hb,he,hst0⟩,hn,hV⟩:=h
 have hf:=run_findKey K w k hk he hV
 have hkeys:=del_keys E k hn
 have hoks:=del_ok hV k
 cases hq:fnd E k 0 with
 |none =>
  rw [hq] at hf
  refine ⟨.map es c, ?_,⟨_,_,setM_same _ hlt, ?_,hst0⟩,hkeys,hoks⟩
  ·simp [Builtin.delete_,run_underlying hm,MapKept.run_getObj_map hb,K.chk _ k w hk,hf,MapKept.run_setObj_map _ hb,Result.andThen,setM]
  ·have e:del E k=E:=by unfold del;rw [hq]
   rw [e]
   exact he
 |some q =>
  obtain ⟨i,u⟩:=q
  rw [hq] at hf
  refine ⟨.map (es.eraseIdxIfInBounds i) c, ?_,⟨_,_,setM_same _ hlt, ?_, ?_⟩,hkeys,hoks⟩
  ·simp [Builtin.delete_,run_underlying hm,MapKept.run_getObj_map hb,K.chk _ k w hk,hf,MapKept.run_setObj_map _ hb,Result.andThen,setM]
  ·have e:del E k=E.eraseIdx i:=by unfold del;rw [hq]
   rw [e,map_erase, ←he, ←map_erase]
   congr 1
   have hes:es.toList.length=E.length:=by have:=congrArg List.length he;simpa using this
   have hi2:i<es.size:=by rw [←Array.length_toList];have:=(fnd_some hq).2;omega
   simp [Array.eraseIdxIfInBounds,hi2]
  ·have hes:es.toList.length=E.length:=by have:=congrArg List.length he;simpa using this
   have hi2:i<es.size:=by rw [←Array.length_toList];have:=(fnd_some hq).2;omega
   have e:(es.eraseIdxIfInBounds i).toList.map (·.born)=(es.toList.map (·.born)).eraseIdx i:=by
        rw [←map_erase]
        congr 1
        simp [Array.eraseIdxIfInBounds,hi2]
   rw [e]
   exact ⟨fun n hn=>hst0.1 n (List.mem_of_mem_eraseIdx hn),hst0.2.sublist (List.eraseIdx_sublist _ _)⟩
end
end M
section
open Go.RowKit
structure IdK where
 h:List UInt8
 n:Int
 deriving DecidableEq
structure IdK.ok (k:IdK):Prop where
 l:k.h.length=32
 lo: -9223372036854775808≤k.n
 hi:k.n≤9223372036854775807
def IdK.c (k:IdK):List Value:=hcs k.h++[.int .i64 k.n]
def IdK.v (k:IdK):Value:= .agg k.c.toArray
def zId:IdK:=⟨List.replicate 32 0,0⟩
theorem Aay:zId.ok:=⟨by simp [zId],by simp [zId],by simp [zId]⟩
theorem IdK.len {k:IdK} (h:k.ok):k.c.length=33:=by simp [IdK.c,Acz,h.l]
theorem IdK.one (k:IdK):∀v∈k.c,v.oneCell'=true:=by
 intro v hv
 simp only [IdK.c,List.mem_append,List.mem_singleton] at hv
 rcases hv with h|rfl
 ·exact A3i _ v h
 ·rfl
theorem A5l {xs A B C:List Value} {off n:Nat} (e:xs=A++(B++C)) (hA:A.length=off) (hB:B.length=n):xs.toArray.extract off (off+n)=B.toArray:=by
 subst e hA hB
 apply Array.toList_inj.1
 simp
theorem A5m {xs A C:List Value} {v:Value} {off:Nat} (e:xs=A++(v::C)) (hA:A.length=off):xs.toArray[off]? =some v:=by
 subst e hA
 simp
section
variable {w:World}
theorem A5o {t:TypeId} {xs:Array Value} {off n:Nat} {B:Array Value} (hu:(isAgg t).run prog w= .ok true w) (hs:(sizeOf t).run prog w= .ok n w) (e:xs.extract off (off+n)=B):(Go.part t xs off).run prog w= .ok (.agg B) w:=by
 simp only [Go.part,Sem.run_bind,hu,Result.andThen_ok,if_true,hs,Sem.run_pure,e]
theorem Aym {t:TypeId} {xs:Array Value} {off:Nat} {v:Value} (hu:(isAgg t).run prog w= .ok false w) (e:xs[off]? =some v):(Go.part t xs off).run prog w= .ok v w:=by
 simp only [Go.part,Sem.run_bind,hu,Result.andThen_ok,Bool.false_eq_true,if_false,e,Sem.run_pure]
theorem A5n {d:Nat} {xs ys:Array Value} {f:Field} {fs:List Field} {a b:Value} {r r':Bool} (hn:f.name≠ "_") (h1:(Go.part f.type xs f.offset).run prog w= .ok a w) (h2:(Go.part f.type ys f.offset).run prog w= .ok b w)
 (h3:(Op.equalIn d f.type a b).run prog w= .ok r w) (h4:(Op.eqFields d xs ys fs).run prog w= .ok r' w):(Op.eqFields d xs ys (f::fs)).run prog w= .ok (r&&r') w:=by
 unfold Op.eqFields
 rw [if_pos hn]
 simp only [Sem.run_bind,h1,h2,h3,Result.andThen_ok]
 cases r with
 |false=>simp
 |true=>simp [h4]
end
theorem A5k {t n:Nat} (h:(prog.info? t).map (·.size)=some n) (w:World):(sizeOf t).run prog w= .ok n w:=by
 cases hq:prog.info? t with
 |none=>rw [hq] at h;simp at h
 |some i =>
  rw [hq] at h
  simp at h
  simp [sizeOf,typeInfo,hq,h]
theorem A1r (w:World):(isAgg 34).run prog w= .ok true w:=by simp [isAgg,run_underlying underlying34]
theorem A0t (w:World):(sizeOf 34).run prog w= .ok 32 w:=A5k (by kernel_rfl) w
theorem A0g (w:World):(isAgg 3).run prog w= .ok false w:=by simp [isAgg,run_underlying underlying3]
theorem A9w:(prog.fieldsOf 36).toList=[⟨"Hash",34,0,false,"","",0⟩,⟨"N",3,32,false,"","",32⟩]:=by simp [Program.fieldsOf,underlying36]
theorem Ayn (d:Nat) (a b:List UInt8) (ha:a.length=32) (hb:b.length=32) (w:World):(Op.equalIn (d+2) 34 (.agg (hcs a).toArray) (.agg (hcs b).toArray)).run prog w= .ok (decide (a=b)) w:=by
 rw [Ass,Ass]
 obtain ⟨i,hi⟩:∃i,prog.info? 5=some i:=by
  cases h:prog.info? 5 with
  |none=>have:(prog.info? 5).isSome=true:=by kernel_rfl
         rw [h] at this;cases this
  |some i=>exact ⟨i,rfl⟩
 exact Azf d underlying34 hi (by kernel_rfl) underlying5 a b ha hb w
theorem A8a (d:Nat) (a b:IdK) (ha:a.ok) (hb:b.ok) (w:World):(Op.equalIn (d+3) 36 a.v b.v).run prog w= .ok (decide (a=b)) w:=by
 unfold IdK.v
 rw [run_equalIn_agg w (d+2) 36 _ _ (by simp [Program.fieldsOf,underlying36]) (by kernel_rfl),A9w]
 have e:decide (a=b)=(decide (a.h=b.h)&&(a.n==b.n&&true)):=by
  rw [Bool.eq_iff_iff]
  obtain ⟨h1,n1⟩:=a
  obtain ⟨h2,n2⟩:=b
  simp
 rw [e]
 refine A5n (by decide) (A5o (A1r w) (A0t w) (A5l (A:=[]) (B:=hcs a.h) (C:=[.int .i64 a.n]) rfl rfl (by rw [Acz,ha.l]))) (A5o (A1r w) (A0t w) (A5l (A:=[]) (B:=hcs b.h) (C:=[.int .i64 b.n]) rfl rfl (by rw [Acz,hb.l]))) (Ayn d _ _ ha.l hb.l w) ?_
 refine A5n (by decide) (Aym (A0g w) (A5m (A:=hcs a.h) (C:=[]) rfl (by simp [Acz,ha.l]))) (Aym (A0g w) (A5m (A:=hcs b.h) (C:=[]) rfl (by simp [Acz,hb.l]))) (run_equalIn_int w (d+1) 3 .i64 .i64 _ _ underlying3) ?_
 simp [Op.eqFields]
theorem Aqx:∀(l:List Value),(∀v∈l,∃q n,v= .int q n)→((l.zip l).all fun x=>Instr.sameBits 9999 x.1 x.2)=true:=by
 intro l hl
 rw [List.all_eq_true]
 intro x hx
 obtain ⟨i,hi⟩:=List.getElem?_of_mem hx
 rw [List.getElem?_zip_eq_some] at hi
 have e:x.1=x.2:=Option.some.inj (hi.1.symm.trans hi.2)
 obtain ⟨q,n,hv⟩:=hl x.1 (List.mem_of_getElem? hi.1)
 rw [←e,hv]
 simp [Instr.sameBits]
theorem Asr (h:List UInt8):∀v∈hcs h,∃n:Nat,n<256∧v= .int .u8 (n:Int):=by
 intro v hv
 simp only [hcs,bs,List.mem_map,List.mem_toArray,Array.mem_toList_iff] at hv
 obtain ⟨b,_,rfl⟩:=hv
 exact ⟨b.toNat,b.toNat_lt,rfl⟩
theorem A3h (k:IdK):Instr.sameBits 10000 k.v k.v=true:=by
 unfold IdK.v
 rw [Instr.sameBits]
 simp only [BEq.rfl,Bool.true_and]
 refine Aqx _ (fun v hv=> ?_)
 simp only [IdK.c,List.mem_append,List.mem_singleton] at hv
 rcases hv with h|rfl
 ·obtain ⟨n,_,e⟩:=Asr _ v h
  exact ⟨_,_,e⟩
 ·exact ⟨_,_,rfl⟩
theorem Ajk {α β:Type} (f:α→Option β):∀(l:List α),(∀x∈l,∃y,f x=some y)→∃ys,l.mapM f=some ys
 |[],_=>⟨[],rfl⟩
 |a::l,h=>by
  obtain ⟨y,hy⟩:=h a (by simp)
  obtain ⟨ys,hys⟩:=Ajk f l (fun x hx=>h x (List.mem_cons_of_mem _ hx))
  exact ⟨y::ys,by simp [List.mapM_cons,hy,hys]⟩
theorem Ast (D:Nat) (h:List UInt8) (hl:h.length=32):∃la,prog.keyLits (D+2) 34 (hcs h)=some la:=by
 have hc:prog.cellsOf 34=32:=by kernel_rfl
 have hc5:prog.cellsOf 5=1:=by kernel_rfl
 unfold Program.keyLits
 simp only [underlying34]
 rw [if_pos (by rw [Acz,hl,hc])]
 obtain ⟨ys,hys⟩:=Ajk (fun i=>prog.keyLits (D+1) 5 (((hcs h).drop (i*prog.cellsOf 5)).take (prog.cellsOf 5))) (List.range 32) (fun i hi=>by
  have hi':=List.mem_range.1 hi
  have hlen:i<(hcs h).length:=by rw [Acz,hl];exact hi'
  rw [hc5,Nat.mul_one,List.drop_eq_getElem_cons hlen,List.take_succ_cons,List.take_zero]
  obtain ⟨n,hn,e⟩:=Asr h _ (List.getElem_mem hlen)
  rw [e]
  unfold Program.keyLits
  simp only [underlying5]
  rw [if_pos (by simp [Lit.wf,IntKind.min,IntKind.max,IntKind.bits,IntKind.signed];omega)]
  exact ⟨_,rfl⟩)
 rw [hys]
 exact ⟨_,rfl⟩
theorem A3g (D:Nat) (k:IdK) (hk:k.ok):∃la,prog.keyLits (D+3) 36 k.c=some la:=by
 have hc:prog.cellsOf 36=33:=by kernel_rfl
 have hch:prog.cellsOf 34=32:=by kernel_rfl
 have hc3:prog.cellsOf 3=1:=by kernel_rfl
 obtain ⟨la,hla⟩:=Ast D k.h hk.l
 have e1:(k.c.drop 0).take 32=hcs k.h:=by
  rw [List.drop_zero,IdK.c, ←hk.l, ←Acz,List.take_left]
 have e2:(k.c.drop 32).take 1=[.int .i64 k.n]:=by
  have hl:(hcs k.h).length=32:=by rw [Acz,hk.l]
  rw [IdK.c, ←hl,List.drop_left]
  rfl
 have e3:prog.keyLits (D+2) 3 [.int .i64 k.n]=some [.int .i64 k.n]:=by
  unfold Program.keyLits
  simp only [underlying3]
  have:=hk.lo
  have:=hk.hi
  rw [if_pos (by simp [Lit.wf,IntKind.min,IntKind.max,IntKind.bits,IntKind.signed];omega)]
 unfold Program.keyLits
 simp only [underlying36]
 rw [if_pos ⟨by rw [IdK.len hk,hc],by simp⟩]
 rw [List.drop_zero] at e1
 simp [hch,hc3,e1,e2,hla,e3]
theorem A54 (b:Bool) (k:IdK) (w:World) (hk:k.ok):(Instr.checkKey b 10000 36 k.v).run prog w= .ok () w:=by
 obtain ⟨la,h⟩:=A3g 0 k hk
 have hf:k.v.formed prog 36=true:=by
  unfold IdK.v Value.formed
  simp only [underlying36]
  rw [List.size_toArray,IdK.len hk]
  kernel_rfl
 exact run_checkKey_deep b 9990 10 36 (by kernel_rfl) w 3 k.v la hf (by simpa [IdK.v,Value.cells] using h)
theorem Asq:M.KeyOk prog 36 IdK.v IdK.ok:={
 chk:=fun b k w hk=>A54 b k w hk
 eq:=fun a b w ha hb=>A8a 9997 a b ha hb w
 und:=⟨_,underlying36, .inl fun a b=>rfl⟩
 bits:=A3h}
section
variable {P:Program} {w w2:World} {a:Act} {o:Oper}
theorem xmv {x:Operand} {v:Value} (ho:o.op= .move x) (hp:a.eval x=v):(execOp a.eval o).run P w= .ok (.value v) w:=by
 unfold execOp;simp only [ho,hp,Sem.run_pure]
theorem xas {x:Operand} {v:Value} (ho:o.op= .assign x) (hp:a.eval x=v):(execOp a.eval o).run P w= .ok (.value v) w:=by
 unfold execOp;simp only [ho,hp,Sem.run_pure]
theorem xnc {x:Operand} {p:Addr} (ho:o.op= .nilCheck x) (hp:a.eval x= .pointer (some p)):(execOp a.eval o).run P w= .ok (.value (.pointer (some p))) w:=by
 unfold execOp;simp only [ho,hp,Sem.run_pure]
theorem xfa {s i:Nat} {x:Operand} {u v:Value} (ho:o.op= .fieldAddr s x i) (hp:a.eval x=u) (hl:(Instr.fieldAt s u i).run P w= .ok v w):(execOp a.eval o).run P w= .ok (.value v) w:=by
 unfold execOp;simp only [ho,hp,Sem.run_bind,hl,Result.andThen_ok,Sem.run_pure]
theorem xld {t:TypeId} {x:Operand} {u v:Value} (ho:o.op= .load t x) (hp:a.eval x=u) (hl:(Instr.loadAt t u).run P w= .ok v w):(execOp a.eval o).run P w= .ok (.value v) w:=by
 unfold execOp;simp only [ho,hp,Sem.run_bind,hl,Result.andThen_ok,Sem.run_pure]
theorem Ac1 {t:TypeId} {m x:Operand} {c:Bool} {mv xv v:Value} (ho:o.op= .lookup t m x c) (hm:a.eval m=mv) (hx:a.eval x=xv) (hl:(Instr.lookup t mv xv c).run P w= .ok v w):(execOp a.eval o).run P w= .ok (.value v) w:=by
 unfold execOp;simp only [ho,hm,hx,Sem.run_bind,hl,Result.andThen_ok,Sem.run_pure]
theorem Aal {x:Operand} {i:Nat} {vs:Array Value} {v:Value} (ho:o.op= .extract x i) (hx:a.eval x= .tuple vs) (hv:vs[i]? =some v):(execOp a.eval o).run P w= .ok (.value v) w:=by
 unfold execOp;simp only [ho,hx,Instr.extract,hv,Sem.run_bind,Result.andThen_ok,Sem.run_pure]
theorem Ac2 {t:TypeId} {v:Value} (ho:o.op= .build t #[]) (hl:(Instr.build t #[]).run P w= .ok v w):(execOp a.eval o).run P w= .ok (.value v) w:=by
 unfold execOp;simp only [ho,List.map_toArray,List.map_nil,Sem.run_bind,hl,Result.andThen_ok,Sem.run_pure]
theorem Aca {b:BinOp} {t t2:TypeId} {x y:Operand} {xv yv v:Value} (ho:o.op= .binOp b t x y t2) (hx:a.eval x=xv) (hy:a.eval y=yv) (hg:(eqGuard b t x y xv yv).run P w= .ok () w) (hl:(binOp b t xv yv).run P w= .ok v w):(execOp a.eval o).run P w= .ok (.value v) w:=by
 unfold execOp;simp only [ho,hx,hy,Sem.run_bind,hg,hl,Result.andThen_ok,Sem.run_pure]
theorem Af4 {x:Operand} {ts:Array TypeId} {xv v:Value} (ho:o.op= .call {callee:= .builtin .len,args:= #[x],argTypes:=ts}) (hx:a.eval x=xv) (hl:(Builtin.len_ ts o.type #[xv]).run P w= .ok v w):(execOp a.eval o).run P w= .ok (.value v) w:=by
 unfold execOp
 simp only [ho,resolve,invoke,builtin,List.map_toArray,List.map_cons,List.map_nil,hx,Sem.run_bind,Sem.run_pure,hl,Result.andThen_ok]
theorem Alb {x y:Operand} {ts:Array TypeId} {xv yv:Value} (ho:o.op= .call {callee:= .builtin .delete,args:= #[x,y],argTypes:=ts}) (hx:a.eval x=xv) (hy:a.eval y=yv) (hl:(Builtin.delete_ ts o.type #[xv,yv]).run P w= .ok (.tuple #[]) w2):(execOp a.eval o).run P w= .ok (.value (.tuple #[])) w2:=by
 unfold execOp
 simp only [ho,resolve,invoke,builtin,List.map_toArray,List.map_cons,List.map_nil,hx,hy,Sem.run_bind,Sem.run_pure,hl,Result.andThen_ok]
theorem Abd {t:TypeId} {v:Value} (ho:o.op= .alloc t) (hl:(Instr.alloc t true (.tuple #[])).run P w= .ok v w2):(execOp a.eval o).run P w= .ok (.value v) w2:=by
 unfold execOp;simp only [ho,Sem.run_bind,hl,Result.andThen_ok,Sem.run_pure]
theorem Aft {t:TypeId} {v:Value} (ho:o.op= .makeMap t none) (hl:(Instr.makeMap t none).run P w= .ok v w2):(execOp a.eval o).run P w= .ok (.value v) w2:=by
 unfold execOp;simp only [ho,Option.map_none,Sem.run_bind,hl,Result.andThen_ok,Sem.run_pure]
theorem Aai {t:TypeId} {x y:Operand} {xv yv:Value} (ho:o.op= .store t x y) (hx:a.eval x=xv) (hy:a.eval y=yv) (hl:(Instr.storeAt t xv yv).run P w= .ok () w2):(execOp a.eval o).run P w= .ok .skip w2:=by
 unfold execOp;simp only [ho,hx,hy,Sem.run_bind,hl,Result.andThen_ok,Sem.run_pure]
theorem Adb {t:TypeId} {m x y:Operand} {mv xv yv:Value} (ho:o.op= .mapUpdate t m x y) (hm:a.eval m=mv) (hx:a.eval x=xv) (hy:a.eval y=yv) (hl:(Instr.mapUpdate t mv xv yv).run P w= .ok () w2):(execOp a.eval o).run P w= .ok .skip w2:=by
 unfold execOp;simp only [ho,hm,hx,hy,Sem.run_bind,hl,Result.andThen_ok,Sem.run_pure]
variable {ops:Array Oper} {K:Act→World→Prop} {Q:Exit→Act→World→Prop} {E:Prop}
end
theorem Ax3 (a:Act) (d:Nat) (v:Value) (h:d<a.tmps.size):(a.put (some d) v).tmps.getD d undef=v:=by
 simp [Act.put,Array.getD_eq_getD_getElem?,h]
theorem A4u (a:Act) (d e:Nat) (v:Value) (h:d≠e):(a.put (some d) v).tmps.getD e undef=a.tmps.getD e undef:=by
 simp [Act.put,Array.getD_eq_getD_getElem?,Array.getElem?_setIfInBounds,h]
theorem Ax2 (a:Act) (d:Option Nat) (v:Value):(a.put d v).tmps.size=a.tmps.size:=by
 cases d <;>simp [Act.put]
theorem Alv:(prog.info? 36).map (·.size)=some 33:=by kernel_rfl
structure Tch (O:Nat→Prop) (w w':World):Prop where
 os:w'.os=w.os
 tape:w'.tape=w.tape
 output:w'.output=w.output
 size:w.heap.size≤w'.heap.size
 block:∀k,k<w.heap.size→¬O k→w'.heap[k]? =w.heap[k]?
theorem Tch.refl (O:Nat→Prop) (w:World):Tch O w w:=⟨rfl,rfl,rfl,Nat.le_refl _,fun _ _ _=>rfl⟩
theorem Tch.trans {O:Nat→Prop} {a b c:World} (h:Tch O a b) (k:Tch O b c):Tch O a c :=
 ⟨k.os.trans h.os,k.tape.trans h.tape,k.output.trans h.output,Nat.le_trans h.size k.size,fun i hi ho=>(k.block i (Nat.lt_of_lt_of_le hi h.size) ho).trans (h.block i hi ho)⟩
theorem Tch.trans' {O O':Nat→Prop} {a b c:World} (h:Tch O a b) (k:Tch O' b c) (ho:∀i,i<a.heap.size→O' i→O i):Tch O a c :=
 ⟨k.os.trans h.os,k.tape.trans h.tape,k.output.trans h.output,Nat.le_trans h.size k.size,fun i hi hn=>(k.block i (Nat.lt_of_lt_of_le hi h.size) (fun q=>hn (ho i hi q))).trans (h.block i hi hn)⟩
theorem Tch.of_below {B:Nat} {O:Nat→Prop} {w w':World} (h:Below B w w') (ho:∀k,k<w.heap.size→B≤k→O k):Tch O w w' :=
 ⟨h.os,h.tape,h.output,h.size,fun k hk hn=>h.block k (Nat.lt_of_not_le (fun q=>hn (ho k hk q)))⟩
theorem Tch.below {O:Nat→Prop} {w w':World} (h:Tch O w w') {B:Nat} (hB:B≤w.heap.size) (ho:∀k,O k→B≤k):Below B w w' :=
 ⟨h.os,h.tape,h.output,h.size,fun k hk=>h.block k (by omega) (fun q=>by have:=ho k q;omega)⟩
theorem Tch.mono {O O':Nat→Prop} {w w':World} (h:Tch O w w') (ho:∀k,k<w.heap.size→O k→O' k):Tch O' w w' :=
 ⟨h.os,h.tape,h.output,h.size,fun k hk hn=>h.block k hk (fun q=>hn (ho k hk q))⟩
theorem Tch.drew {O:Nat→Prop} {a w:World} (h:Tch O a w):Tch O a w.drew:=⟨h.os,h.tape,h.output,h.size,h.block⟩
theorem Tch.setM {O:Nat→Prop} {a w:World} (h:Tch O a w) {b:Nat} (hb:a.heap.size≤b∨O b) (o:Obj):Tch O a (M.setM w b o) :=
 ⟨h.os,h.tape,h.output,by rw [M.setM_size];exact h.size,fun k hk hn=>by
  rw [M.setM_other o (fun e=>by subst e;rcases hb with q|q; · omega
                                ·exact hn q)]
  exact h.block k hk hn⟩
def Aaz (w:World) (b:Nat) (k:IdK):Prop:=w.heap[b]? =some (.cells k.c.toArray 36 (0,0))
theorem Abi {w:World} {b:Nat} {cs:List Value} {t:TypeId} {z:Nat × Nat} (h:w.heap[b]? =some (.cells cs.toArray t z)):w.rangeAt b 0 cs:=fun j v hv=>by
 rw [Nat.zero_add,cell_of_row _ _ j _ _ _ h]
 simpa using hv
theorem Aah {w:World} {b:Nat} {k:IdK} (hk:k.ok) (h:Aaz w b k):(Instr.loadAt 36 (pZ b 0)).run prog w= .ok k.v w :=
 run_loadAt_mid (P:=prog) w b 0 36 k.c _ (Abi h) underlying36 rfl (by rw [IdK.len hk];exact Alv)
theorem Afg {P:Program} {ops:Array Oper} {rest:List Oper} {o:Oper} {a:Act} {w:World} {Q:Exit→Act→World→Prop} {v:Value} (hw:Region.wanted o (yielded ops a.tmps)=true) (hr:(execOp a.eval o).run P w= .ok (.value v) w) (h:wpList P ops Q rest (a.put o.dst v) w):wpList P ops Q (o::rest) a w :=
 wpList_step fun K hK=>by
  rw [if_pos hw]
  unfold Oper.wp
  rw [hr]
  exact hK _ _ h
theorem Aki {P:Program} {ops:Array Oper} {rest:List Oper} {o:Oper} {a:Act} {w w2:World} {Q:Exit→Act→World→Prop} (hw:Region.wanted o (yielded ops a.tmps)=true) (hd:o.dst=none) (hr:(execOp a.eval o).run P w= .ok .skip w2) (h:wpList P ops Q rest a w2):wpList P ops Q (o::rest) a w :=
 wpList_step fun K hK=>by
  rw [if_pos hw]
  unfold Oper.wp
  rw [hr]
  show K (a.put o.dst undef) w2
  rw [hd]
  exact hK _ _ h
theorem Add {P:Program} {ops:Array Oper} {rest:List Oper} {o:Oper} {a:Act} {w w2:World} {Q:Exit→Act→World→Prop} {v:Value} (hw:Region.wanted o (yielded ops a.tmps)=true) (hr:(execOp a.eval o).run P w= .ok (.value v) w2) (h:wpList P ops Q rest (a.put o.dst v) w2):wpList P ops Q (o::rest) a w :=
 wpList_step fun K hK=>by
  rw [if_pos hw]
  unfold Oper.wp
  rw [hr]
  exact hK _ _ h
theorem Aix {P:Program} {ops:Array Oper} {w:World} {Q:Act→Prop} {rest:List Oper} {o:Oper} {a:Act} {v:Value} (hw:Region.wanted o (yielded ops a.tmps)=true) (hr:(execOp a.eval o).run P w= .ok (.value v) w) (h:wpStill P ops w Q rest (a.put o.dst v)):wpStill P ops w Q (o::rest) a :=
 wpStill_step fun K hK=>by
  rw [if_pos hw]
  unfold Oper.still
  rw [hr]
  exact ⟨rfl,hK _ h⟩
theorem Afo {P:Program} {w:World} {a:Act} {o:Oper} {t:TypeId} {parts:Array (Nat × Operand)} {pv:Array (Nat × Value)} {v:Value} (ho:o.op= .build t parts) (hp:(parts.map fun (i,x)=>(i,a.eval x))=pv) (hl:(Instr.build t pv).run P w= .ok v w):(execOp a.eval o).run P w= .ok (.value v) w:=by
 unfold execOp;simp only [ho,hp,Sem.run_bind,hl,Result.andThen_ok,Sem.run_pure]
section
variable {P:Program} {w w2:World} {a:Act} {o:Oper}
theorem Aba {t n:Nat} {x:Operand} {xv v:Value} (ho:o.op= .buildSlice t n #[(0,x)]) (hx:a.eval x=xv) (hl:(Instr.buildSlice t n #[(0,xv)]).run P w= .ok v w2):(execOp a.eval o).run P w= .ok (.value v) w2:=by
 unfold execOp;simp only [ho,List.map_toArray,List.map_cons,List.map_nil,hx,Sem.run_bind,hl,Result.andThen_ok,Sem.run_pure]
theorem Ab1 {x y:Operand} {ts:Array TypeId} {xv yv v:Value} (ho:o.op= .call {callee:= .builtin .append,args:= #[x,y],argTypes:=ts}) (hx:a.eval x=xv) (hy:a.eval y=yv) (hl:(Builtin.append_ ts o.type #[xv,yv]).run P w= .ok v w2):(execOp a.eval o).run P w= .ok (.value v) w2:=by
 unfold execOp
 simp only [ho,resolve,invoke,builtin,List.map_toArray,List.map_cons,List.map_nil,hx,hy,Sem.run_bind,Sem.run_pure,hl,Result.andThen_ok]
theorem Aej {t:TypeId} {x y:Operand} {xv yv v:Value} (ho:o.op= .makeSlice t x y) (hx:a.eval x=xv) (hy:a.eval y=yv) (hl:(Instr.makeSlice t xv yv).run P w= .ok v w2):(execOp a.eval o).run P w= .ok (.value v) w2:=by
 unfold execOp;simp only [ho,hx,hy,Sem.run_bind,hl,Result.andThen_ok,Sem.run_pure]
theorem Ahi {t:TypeId} {x:Operand} {lo hi mx:Option Operand} {xv v:Value} {lov hiv mxv:Option Value} (ho:o.op= .slice t x lo hi mx) (hx:a.eval x=xv) (h1:lo.map a.eval=lov) (h2:hi.map a.eval=hiv) (h3:mx.map a.eval=mxv) (hl:(Instr.sliceAt t xv lov hiv mxv).run P w= .ok v w):(execOp a.eval o).run P w= .ok (.value v) w:=by
 unfold execOp;simp only [ho,hx,h1,h2,h3,Sem.run_bind,hl,Result.andThen_ok,Sem.run_pure]
theorem xia {t:TypeId} {x y:Operand} {xv yv v:Value} (ho:o.op= .indexAddr t x y) (hx:a.eval x=xv) (hy:a.eval y=yv) (hl:(Instr.indexAt t xv yv).run P w= .ok v w):(execOp a.eval o).run P w= .ok (.value v) w:=by
 unfold execOp;simp only [ho,hx,hy,Sem.run_bind,hl,Result.andThen_ok,Sem.run_pure]
end
theorem Aar {w w':World} {b o:Nat} {cs:List Value} (h:w.rangeAt b o cs) (e:w'.heap[b]? =w.heap[b]?):w'.rangeAt b o cs:=fun j v hj=>(World.cell?_of_block (a:=⟨b,o+j,none⟩) e).trans (h j v hj)
theorem Af9 (w:World) (l:List Value) (t:TypeId) (j:Nat) (v:Value) (h:l[j]? =some v):(w.alloc (.cells l.toArray t)).cell? ⟨w.heap.size,j,none⟩=some v:=by
 rw [cell_of_row _ w.heap.size j _ _ _ (heap_alloc_new w _)]
 simpa using h
theorem Akb {P:Program} (w:World) (base:Nat) (t ty e:TypeId) (i:TypeInfo) (z:Value) (size bytes:Nat) (ht:P.underlying t=some (.slice e)) (hi:P.info? e=some i) (hz:i.zero=some z)
 (hsize:i.size=size) (hby:i.bytes=bytes) (hzs:z.cells.size=size) (hsz:0<size) (v:Value) (n:Nat) (xs:List Value) (hown:w.ownsRow base e size v n xs)
 (a:Addr) (m c:Nat) (news:List Value) (hl:news.length=m*size) (hnews:∀j u,news[j]? =some u→w.cell? (a.add j)=some u) (h1:∀u∈news,u.oneCell'=true)
 (h63:n+m≤maxLen) (hbytes:((n+m)+(n+m) / 4+192)*bytes≤281474976710656) (hbase:base≤w.heap.size) :
 ∃v' w',(Builtin.append_ #[t,t] ty #[v, .slice (some a) m c]).run P w= .ok v' w'∧w'.ownsRow base e size v' (n+m) (xs++news)∧w.grownBy w' v.ownBlock∧(v'.ownBlock=v.ownBlock∨v'.ownBlock=some w.heap.size):=by
 obtain ⟨v',w',hr,h2,h3,h4⟩:=run_append_own_wide (P:=P) w base t ty e i z size bytes ht hi hz hsize hby hzs hsz v n xs hown a m c news hl hnews h1 h63 hbytes hbase
 refine ⟨v',w',hr,h2,h3, ?_⟩
 have hx:=hown.1
 subst hsize
 subst hby
 have hbig:n+m≤9223372036854775807:=by simp only [maxLen] at h63;omega
 rcases hown.2 with ⟨rfl,rfl⟩|⟨g,cap,cur,rfl,hbg,hg,hnc,hcm,hcs,htake⟩
 ·by_cases hm:m=0
  ·left;rw [(h4.2 ⟨rfl,hm⟩)]
  ·have hk:=run_append_nil (P:=P) w t ty e i z ht hi hz a m c news hl hnews (by omega) (by omega) (Nat.le_trans (Nat.mul_le_mul_right _ (by omega)) hbytes)
   rw [hr] at hk
   simp only [Result.ok.injEq] at hk
   rw [hk.1]
   exact .inr rfl
 ·by_cases hroom:n+m≤cap
  ·have hk:=run_append_room (P:=P) w t ty e i ht hi g n cap cur hg a m c news hl hnews h1 hroom (by rw [hl,hcs, ←Nat.add_mul];exact Nat.mul_le_mul_right _ hroom)
   rw [hr] at hk
   simp only [Result.ok.injEq] at hk
   rw [hk.1]
   exact .inl rfl
  ·have hk:=run_append_grow (P:=P) w t ty e i z ht hi hz ⟨g,0,none⟩ n cap xs hx (hown.cells (g:=g) rfl) a m c news hl hnews (by omega) (by omega) (growslice_fits_wide (by omega) hbytes)
   rw [hr] at hk
   simp only [Result.ok.injEq] at hk
   rw [hk.1]
   exact .inr rfl
theorem take_seg {α:Type} {cur FA y FB x:List α} {N o:Nat} (h:cur.take N=FA++y++FB) (hN:N=FA.length+y.length+FB.length) (ho:FA.length=o) (hx:x.length=y.length):(cur.take o++x++cur.drop (o+x.length)).take N=FA++x++FB:=by
 obtain ⟨R,hR⟩:∃R,cur=FA++y++FB++R:=⟨cur.drop N,by rw [←h,List.take_append_drop]⟩
 subst hR
 have e1:(FA++y++FB++R).take o=FA:=by rw [←ho];simp [List.append_assoc]
 have e2:(FA++y++FB++R).drop (o+x.length)=FB++R:=by
  rw [←ho,hx, ←List.length_append,List.append_assoc (FA++y),List.drop_left]
 rw [e1,e2,hN]
 rw [show FA++x++(FB++R)=(FA++x++FB)++R by simp]
 rw [show FA.length+y.length+FB.length=(FA++x++FB).length by simp [hx];omega]
 exact List.take_left
theorem Aec (w:World) (g:Nat) (cs:Array Value):Tch (fun j=>some g=some j) w (w.setRow g cs) :=
 ⟨rfl,rfl,rfl,by simp [World.setRow],fun k hk hn=>by
  have hne:g≠k:=fun e=>hn (by rw [e])
  simp [World.setRow,Array.getElem?_modify,hne]⟩
theorem Ak2 {w w':World} (h:w.grownBy w' none):Below w.heap.size w w':=⟨h.os,h.tape,h.output,h.size,fun k hk=>h.block k hk (by simp)⟩
theorem pk {a a':Act} {i j:Nat} {u v:Value} (e:a'=a.put (some j) v) (h:a.tmps.getD i undef=u) (hij:i≠j:=by decide):a'.tmps.getD i undef=u:=by
 rw [e,A4u _ _ _ _ (Ne.symm hij)];exact h
theorem pz {a a':Act} {j n:Nat} {v:Value} (e:a'=a.put (some j) v) (h:a.tmps.size=n):a'.tmps.size=n:=by
 rw [e,Ax2];exact h
theorem pq {a a':Act} {j n:Nat} {v:Value} (e:a'=a.put (some j) v) (h:a.tmps.size=n) (hj:j<n:=by decide):a'.tmps.getD j undef=v:=by
 rw [e];exact Ax3 _ _ _ (by omega)
section
variable {P:Program} {ops:Array Oper} {rest:List Oper} {o:Oper} {a:Act} {w w2:World} {Q:Exit→Act→World→Prop}
theorem qk {v:Value} {d:Nat} (hw:Region.wanted o (yielded ops a.tmps)=true) (hr:(execOp a.eval o).run P w= .ok (.value v) w2) (h:∀a',a'=a.put (some d) v→wpList P ops Q rest a' w2) (hd:o.dst=some d:=by rfl):wpList P ops Q (o::rest) a w :=
 wpList_step fun K hK=>by
  rw [if_pos hw]
  unfold Oper.wp
  rw [hr]
  exact hK _ _ (by rw [hd];exact h _ rfl)
theorem qs (hw:Region.wanted o (yielded ops a.tmps)=true) (hr:(execOp a.eval o).run P w= .ok .skip w2) (h:wpList P ops Q rest a w2) (hd:o.dst=none:=by rfl):wpList P ops Q (o::rest) a w :=
 wpList_step fun K hK=>by
  rw [if_pos hw]
  unfold Oper.wp
  rw [hr]
  exact hK _ _ (by rw [hd];exact h)
end
section
variable {P:Program} {ops:Array Oper} {rest:List Oper} {o:Oper} {a:Act} {w w2:World} {Q:Exit→Act→World→Prop}
theorem qd {v:Value} (hw:Region.wanted o (yielded ops a.tmps)=true) (hr:(execOp a.eval o).run P w= .ok (.value v) w2) (h:wpList P ops Q rest a w2) (hd:o.dst=none:=by rfl):wpList P ops Q (o::rest) a w :=
 wpList_step fun K hK=>by
  rw [if_pos hw]
  unfold Oper.wp
  rw [hr]
  exact hK _ _ (by rw [hd];exact h)
theorem qv {v:Value} {d:Nat} (hw:Region.wanted o (yielded ops a.tmps)=true) (hr:(execOp a.eval o).run P w= .ok (.value v) w) (h:∀a',a'=a.put (some d) v→wpList P ops Q rest a' w) (hd:o.dst=some d:=by rfl):wpList P ops Q (o::rest) a w:=qk hw hr h hd
theorem qn {d:Nat} (hw:Region.wanted o (yielded ops a.tmps)=false) (h:∀a',a'=a.put (some d) undef→wpList P ops Q rest a' w) (hd:o.dst=some d:=by rfl):wpList P ops Q (o::rest) a w :=
 wpList_step fun K hK=>by
  rw [if_neg (by rw [hw];decide),hd]
  exact hK _ _ (h _ rfl)
theorem qc {F:Nat} {vs:Array Value} {R:Ending→World→Prop} {d:Nat} (hw:Region.wanted o (yielded ops a.tmps)=true) (hr:(execOp a.eval o).run P w= .ok (.enter F vs) w) (hC:Calls P F vs w R) (h:∀e w',R e w'→∃v,e= .returned v∧∀a',a'=a.put (some d) v→wpList P ops Q rest a' w') (hd:o.dst=some d:=by rfl):wpList P ops Q (o::rest) a w :=
 wpList_step fun K hK=>by
  rw [if_pos hw]
  unfold Oper.wp
  rw [hr,Oper.upon_enter]
  refine hC.mono ?_
  intro e w' hp
  obtain ⟨v,rfl,hh⟩:=h e w' hp
  exact hK _ _ (by rw [hd];exact hh _ rfl)
end
section
variable {P:Program} {ops:Array Oper} {rest:List Oper} {o:Oper} {a:Act} {w w2:World} {Q:Exit→Act→World→Prop}
theorem Awj (w0:World) {t:TypeId} {x:Operand} {u v:Value} (ho:o.op= .load t x) (hw:w=w0) (hp:a.eval x=u) (hl:(Instr.loadAt t u).run P w0= .ok v w0) (hn:Region.wanted o (yielded ops a.tmps)=true) (h:wpList P ops Q rest (a.put o.dst v) w):wpList P ops Q (o::rest) a w:=by subst hw;exact Afg hn (xld ho hp hl) h
theorem A10 {t:TypeId} {v:Value} (ho:o.op= .build t #[]) (hl:(Instr.build t #[]).run P w= .ok v w) (hn:Region.wanted o (yielded ops a.tmps)=true) (h:wpList P ops Q rest (a.put o.dst v) w):wpList P ops Q (o::rest) a w:=Afg hn (Ac2 ho hl) h
end
def rgn:Code→Nat→Option (Array Oper)
 | .region i ops _,k=>cond (Nat.beq i k) (some ops) none
 | .seq a b,k=>(rgn a k).or (rgn b k)
 | .cond _ a b,k=>(rgn a k).or (rgn b k)
 | .block _ b,k=>rgn b k
 | .loop b,k=>rgn b k
 | .rangeFunc _ _ a b,k=>(rgn a k).or (rgn b k)
 | .scope b,k=>rgn b k
 |_,_=>none
def rgB (f:Func) (k:Nat):Option (Array Oper):=f.body.bind fun c=>rgn c k
def Aat (a:Act):List (Nat × Value)→Act
 |[]=>a
 |(k,u)::L=>(Aat a L).put (some k) u
def lkp:List (Nat × Value)→Nat→Option Value
 |[],_=>none
 |(k,u)::L,i=>cond (Nat.beq k i) (some u) (lkp L i)
section
variable {a:Act} {n:Nat} {L:List (Nat × Value)} {i:Nat} {v:Value}
theorem Aee (z:a.tmps.size=n):∀L,(Aat a L).tmps.size=n
 |[]=>z
 |(k,u)::L=>pz (a:=Aat a L) rfl (Aee z L)
theorem zgD (z:a.tmps.size=n) (hi:Nat.blt i n=true):∀{L:List (Nat × Value)},lkp L i=some v→(Aat a L).tmps.getD i undef=v
 |[],h=>by cases h
 |(k,u)::L,h=>by
  unfold lkp at h
  by_cases e:k=i
  ·rw [show Nat.beq k i=true by rw [e];exact Nat.beq_refl i] at h
   have h':some u=some v:=h
   cases h'
   subst e
   exact pq (a:=Aat a L) rfl (Aee z L) (Nat.le_of_ble_eq_true hi)
  ·rw [show Nat.beq k i=false by cases q:Nat.beq k i with |false=>rfl|true=>exact absurd (Nat.eq_of_beq_eq_true q) e] at h
   exact pk (a:=Aat a L) rfl (zgD z hi h) (Ne.symm e)
theorem zg (z:a.tmps.size=n) (h:lkp L i=some v) (hi:Nat.blt i n=true:=by rfl):(Aat a L).eval (.tmp i)=v:=zgD z hi h
theorem ziD (h0:a.tmps.getD i undef=v):∀{L:List (Nat × Value)},lkp L i=none→(Aat a L).tmps.getD i undef=v
 |[],_=>h0
 |(k,u)::L,h=>by
  unfold lkp at h
  by_cases e:k=i
  ·rw [show Nat.beq k i=true by rw [e];exact Nat.beq_refl i] at h
   cases h
  ·rw [show Nat.beq k i=false by cases q:Nat.beq k i with |false=>rfl|true=>exact absurd (Nat.eq_of_beq_eq_true q) e] at h
   exact pk (a:=Aat a L) rfl (ziD h0 h) (Ne.symm e)
theorem zi (h0:a.tmps.getD i undef=v) (h:lkp L i=none):(Aat a L).eval (.tmp i)=v:=ziD h0 h
def A9h:Value→Bool→Bool
 | .bool c,b=>c !=b
 |_,_=>true
variable {ops:Array Oper} {o og:Oper} {k d:Nat} {b:Bool}
theorem zw (z:a.tmps.size=n) (hg:o.guard=some (k,b)) (ho:ops[k]? =some og) (hd:og.dst=some d) (h:(Aat a L).eval (.tmp d)= .bool b) (hi:Nat.blt d n=true:=by rfl):Region.wanted o (yielded ops (Aat a L).tmps)=true:=by
 have hd2:d<(Aat a L).tmps.size:=by rw [Aee z L];exact Nat.le_of_ble_eq_true hi
 have e:(Aat a L).tmps[d]? =some (.bool b):=by
  have h':(Aat a L).tmps.getD d undef= .bool b:=h
  rw [Array.getD_eq_getD_getElem?,Array.getElem?_eq_getElem hd2] at h'
  rw [Array.getElem?_eq_getElem hd2]
  exact congrArg some h'
 simp [Region.wanted,hg,yielded,ho,hd,e]
theorem zx (z:a.tmps.size=n) (hg:o.guard=some (k,b)) (ho:ops[k]? =some og) (hd:og.dst=some d) (h:(Aat a L).eval (.tmp d)=v) (hv:A9h v b=true:=by rfl) (hi:Nat.blt d n=true:=by rfl):Region.wanted o (yielded ops (Aat a L).tmps)=false:=by
 have hd2:d<(Aat a L).tmps.size:=by rw [Aee z L];exact Nat.le_of_ble_eq_true hi
 have e:(Aat a L).tmps[d]? =some v:=by
  have h':(Aat a L).tmps.getD d undef=v:=h
  rw [Array.getD_eq_getD_getElem?,Array.getElem?_eq_getElem hd2] at h'
  rw [Array.getElem?_eq_getElem hd2]
  exact congrArg some h'
 unfold Region.wanted yielded
 rw [hg]
 simp only [ho,Option.bind_some,hd,e]
 cases v with
 |bool c=>cases c <;>cases b <;>first|rfl|cases hv
 |_=>rfl
end
structure ZL (P:Program) (ops:Array Oper) (Q:Exit→Act→World→Prop) (rest:List Oper) (a:Act) (L:List (Nat × Value)) (w:World):Prop where
 out:wpList P ops Q rest (Aat a L) w
structure YL (P:Program) (md:Region.Mode) (ops:Array Oper) (Q:Exit→Act→World→Prop) (S:World→Prop) (fuel:Nat) (listed:Array Bool) (a:Act) (L:List (Nat × Value)) (w:World):Prop where
 out:wpAnyH P md ops (NoPanic Q) S fuel listed (Aat a L) w
structure XL (P:Program) (md:Region.Mode) (ops:Array Oper) (Q:Exit→Act→World→Prop) (S:World→Prop) (m fuel:Nat) (listed:Array Bool) (a:Act) (L:List (Nat × Value)) (w:World):Prop where
 out:Acd P md ops (NoPanic Q) S m fuel listed (Aat a L) w
section
variable {P:Program} {ops:Array Oper} {rest:List Oper} {o:Oper} {a:Act} {w w2:World} {Q:Exit→Act→World→Prop} {L:List (Nat × Value)} {d:Nat} {v:Value}
theorem z0 {ops':List Oper} {id:Nat} (hl:ops.toList=ops') (h:ZL P ops Q ops' a [] w):(Code.region id ops false).wp P Q a w:=wp_region_list (by rw [hl];exact h.out)
theorem ze {a':Act} (e:Aat a L=a') (h:Q .normal a' w):ZL P ops Q [] a L w:=⟨wpList_nil (by rw [e];exact h)⟩
theorem zv (hw:Region.wanted o (yielded ops (Aat a L).tmps)=true) (hr:(execOp (Aat a L).eval o).run P w= .ok (.value v) w2) (h:ZL P ops Q rest a ((d,v)::L) w2) (hd:o.dst=some d:=by rfl):ZL P ops Q (o::rest) a L w:=⟨qk hw hr (fun a' e=>by subst e;exact h.out) hd⟩
theorem zn (hw:Region.wanted o (yielded ops (Aat a L).tmps)=false) (h:ZL P ops Q rest a ((d,undef)::L) w) (hd:o.dst=some d:=by rfl):ZL P ops Q (o::rest) a L w:=⟨qn hw (fun a' e=>by subst e;exact h.out) hd⟩
theorem zs (hw:Region.wanted o (yielded ops (Aat a L).tmps)=true) (hr:(execOp (Aat a L).eval o).run P w= .ok .skip w2) (h:ZL P ops Q rest a L w2) (hd:o.dst=none:=by rfl):ZL P ops Q (o::rest) a L w:=⟨qs hw hr h.out hd⟩
theorem zd (hw:Region.wanted o (yielded ops (Aat a L).tmps)=true) (hr:(execOp (Aat a L).eval o).run P w= .ok (.value v) w2) (h:ZL P ops Q rest a L w2) (hd:o.dst=none:=by rfl):ZL P ops Q (o::rest) a L w:=⟨qd hw hr h.out hd⟩
theorem zc {F:Nat} {vs:Array Value} {R:Ending→World→Prop} (hw:Region.wanted o (yielded ops (Aat a L).tmps)=true) (hr:(execOp (Aat a L).eval o).run P w= .ok (.enter F vs) w) (hC:Calls P F vs w R) (h:∀e w',R e w'→∃v,e= .returned v∧ZL P ops Q rest a ((d,v)::L) w') (hd:o.dst=some d:=by rfl):ZL P ops Q (o::rest) a L w :=
 ⟨qc hw hr hC (fun e w' r=>by obtain ⟨v,e1,h1⟩:=h e w' r;exact ⟨v,e1,fun a' q=>by subst q;exact h1.out⟩) hd⟩
end
section
variable {P:Program} {w:World} {a:Act} {o:Oper} {F:Nat} {ts:Array TypeId}
theorem Adc {x1:Operand} {v1:Value} (ho:o.op= .call {callee:= .value (.func F),args:= #[x1],argTypes:=ts}) (h1:a.eval x1=v1) (hf:(callFunc F #[v1]).run P w= .ok (.enter F #[v1]) w:=by go_simp):(execOp a.eval o).run P w= .ok (.enter F #[v1]) w:=by
 have e0:a.eval (.func F)= .func (.func F) #[] #[]:=rfl
 unfold execOp;simp [ho,resolve,invoke,h1,e0,Deferred.ofValue,Result.andThen,hf]
theorem Aap {x1 x2:Operand} {v1 v2:Value} (ho:o.op= .call {callee:= .value (.func F),args:= #[x1,x2],argTypes:=ts}) (h1:a.eval x1=v1) (h2:a.eval x2=v2) (hf:(callFunc F #[v1,v2]).run P w= .ok (.enter F #[v1,v2]) w:=by go_simp):(execOp a.eval o).run P w= .ok (.enter F #[v1,v2]) w:=by
 have e0:a.eval (.func F)= .func (.func F) #[] #[]:=rfl
 unfold execOp;simp [ho,resolve,invoke,h1,h2,e0,Deferred.ofValue,Result.andThen,hf]
theorem Afn {x1 x2 x3:Operand} {v1 v2 v3:Value} (ho:o.op= .call {callee:= .value (.func F),args:= #[x1,x2,x3],argTypes:=ts}) (h1:a.eval x1=v1) (h2:a.eval x2=v2) (h3:a.eval x3=v3) (hf:(callFunc F #[v1,v2,v3]).run P w= .ok (.enter F #[v1,v2,v3]) w:=by go_simp):(execOp a.eval o).run P w= .ok (.enter F #[v1,v2,v3]) w:=by
 have e0:a.eval (.func F)= .func (.func F) #[] #[]:=rfl
 unfold execOp;simp [ho,resolve,invoke,h1,h2,h3,e0,Deferred.ofValue,Result.andThen,hf]
theorem Ad5 {x1 x2 x3 x4:Operand} {v1 v2 v3 v4:Value} (ho:o.op= .call {callee:= .value (.func F),args:= #[x1,x2,x3,x4],argTypes:=ts}) (h1:a.eval x1=v1) (h2:a.eval x2=v2) (h3:a.eval x3=v3) (h4:a.eval x4=v4) (hf:(callFunc F #[v1,v2,v3,v4]).run P w= .ok (.enter F #[v1,v2,v3,v4]) w:=by go_simp):(execOp a.eval o).run P w= .ok (.enter F #[v1,v2,v3,v4]) w:=by
 have e0:a.eval (.func F)= .func (.func F) #[] #[]:=rfl
 unfold execOp;simp [ho,resolve,invoke,h1,h2,h3,h4,e0,Deferred.ofValue,Result.andThen,hf]
theorem zu1 {L:List (Nat × Value)} {R:Result Next} {i:Nat} {v:Value} (h1:(Aat a L).eval (.tmp i)=v) (h:∀b:Act,b.tmps.getD i undef=v→(execOp b.eval o).run P w=R):(execOp (Aat a L).eval o).run P w=R:=h _ h1
theorem Anz {t:TypeId} {x:Operand} {b:Bool} (ho:o.op= .unOp .not t x) (hx:a.eval x= .bool b):(execOp a.eval o).run P w= .ok (.value (.bool (!b))) w:=by
 unfold execOp;simp only [ho,hx];go_simp
theorem Abm {c x y:Operand} {v:Value} (ho:o.op= .pick c x y) (hc:a.eval c= .bool true) (hx:a.eval x=v):(execOp a.eval o).run P w= .ok (.value v) w:=by
 unfold execOp;simp only [ho,hc,hx];go_simp
theorem Aa0 {c x y:Operand} {v:Value} (ho:o.op= .pick c x y) (hc:a.eval c= .bool false) (hy:a.eval y=v):(execOp a.eval o).run P w= .ok (.value v) w:=by
 unfold execOp;simp only [ho,hc,hy];go_simp
end
section
variable {P:Program} {md:Region.Mode} {ops:Array Oper} {Q:Exit→Act→World→Prop} {S:World→Prop} {fuel:Nat} {listed:Array Bool} {a:Act} {w w2:World} {L:List (Nat × Value)} {o:Oper} {d:Nat} {v:Value}
theorem y0 {id n:Nat} {rep:Array Bool} (S:World→Prop) (hS:S w.drew) (h:S w.drew→YL P .any ops Q S n rep a [] w.drew) (hn:ops.size=n:=by rfl) (hr:Array.replicate n false=rep:=by rfl) (hm:P.follows .mixedOrders=true:=by kernel_rfl):(Code.region id ops true).wp P Q a w :=
 wp_region_noPanic (wp_region_held_drew hm hS (fun q=>by rw [hn,hr];exact (h q).out))
theorem x0 {id n:Nat} {rep:Array Bool} (m:Nat) (S:World→Prop) (hS:S w.drew) (h:S w.drew→XL P .any ops Q S m n rep a [] w.drew) (hn:ops.size=n:=by rfl) (hr:Array.replicate n false=rep:=by rfl) (hm:P.follows .mixedOrders=true:=by kernel_rfl):(Code.region id ops true).wp P Q a w :=
 wp_region_noPanic (Aek m hm hS (fun q=>by rw [hn,hr];exact (h q).out))
theorem yv (i:Nat) (hi:ops[i]? =some o) (hw:Region.wanted o (yielded ops (Aat a L).tmps)=true) (hr:∀w1,S w1→(execOp (Aat a L).eval o).run P w1= .ok (.value v) w1) (hS:S w) (h:YL P md ops Q S fuel (listed.setIfInBounds i true) a ((d,v)::L) w)
 (hd:o.dst=some d:=by rfl) (hs:Region.noSelect ops=true:=by kernel_rfl) (hf:Region.free md ops listed i=true:=by kernel_rfl) (hy:(Region.ready md ops listed).contains i=true:=by kernel_rfl):YL P md ops Q S (fuel+1) listed a L w :=
 ⟨wpAnyH_take hi hs hf hy (fun _ _ _ h=>h) (Or.inl ⟨hw,hr⟩) hS (by rw [hd];exact h.out)⟩
theorem yn (i:Nat) (hi:ops[i]? =some o) (hw:Region.wanted o (yielded ops (Aat a L).tmps)=false) (hS:S w) (h:YL P md ops Q S fuel (listed.setIfInBounds i true) a ((d,undef)::L) w)
 (hd:o.dst=some d:=by rfl) (hs:Region.noSelect ops=true:=by kernel_rfl) (hf:Region.free md ops listed i=true:=by kernel_rfl) (hy:(Region.ready md ops listed).contains i=true:=by kernel_rfl):YL P md ops Q S (fuel+1) listed a L w :=
 ⟨wpAnyH_take (v:=undef) hi hs hf hy (fun _ _ _ h=>h) (Or.inr ⟨hw,rfl⟩) hS (by rw [hd];exact h.out)⟩
theorem yc (i:Nat) (hi:ops[i]? =some o) {F:Nat} {vs:Array Value} {R:Ending→World→Prop} (hw:Region.wanted o (yielded ops (Aat a L).tmps)=true) (hr:(execOp (Aat a L).eval o).run P w= .ok (.enter F vs) w) (hC:Calls P F vs w R) (h:∀e w',R e w'→∃v,e= .returned v∧S w'∧(S w'→YL P md ops Q S fuel (listed.setIfInBounds i true) a ((d,v)::L) w'))
 (hd:o.dst=some d:=by rfl) (hy:Region.ready md ops listed=[i]:=by kernel_rfl):YL P md ops Q S (fuel+1) listed a L w :=
 ⟨wpAnyH_ready hy (by simp) (AllReadyH.cons hi (fun K hK=>by
  rw [if_pos hw]
  unfold Oper.wp
  rw [hr,Oper.upon_enter]
  refine hC.mono ?_
  intro e w' hp
  obtain ⟨v,rfl,hs,hh⟩:=h e w' hp
  exact hK.out _ _ hs (fun q=>by rw [hd];exact (hh q).out)) AllReadyH.nil)⟩
theorem yr (i:Nat) (hi:ops[i]? =some o) (hw:Region.wanted o (yielded ops (Aat a L).tmps)=true) (hr:(execOp (Aat a L).eval o).run P w= .ok (.value v) w2) (hs:S w2) (h:S w2→YL P md ops Q S fuel (listed.setIfInBounds i true) a ((d,v)::L) w2)
 (hd:o.dst=some d:=by rfl) (hy:Region.ready md ops listed=[i]:=by kernel_rfl):YL P md ops Q S (fuel+1) listed a L w :=
 ⟨wpAnyH_ready hy (by simp) (AllReadyH.cons hi (fun K hK=>by
  rw [if_pos hw]
  unfold Oper.wp
  rw [hr]
  exact hK.out _ _ hs (fun q=>by rw [hd];exact (h q).out)) AllReadyH.nil)⟩
theorem ys (i:Nat) (hi:ops[i]? =some o) (hw:Region.wanted o (yielded ops (Aat a L).tmps)=true) (hr:(execOp (Aat a L).eval o).run P w= .ok .skip w2) (hs:S w2) (h:S w2→YL P md ops Q S fuel (listed.setIfInBounds i true) a L w2)
 (hd:o.dst=none:=by rfl) (hy:Region.ready md ops listed=[i]:=by kernel_rfl):YL P md ops Q S (fuel+1) listed a L w :=
 ⟨wpAnyH_ready hy (by simp) (AllReadyH.cons hi (fun K hK=>by
  rw [if_pos hw]
  unfold Oper.wp
  rw [hr]
  exact hK.out _ _ hs (fun q=>by rw [hd];exact (h q).out)) AllReadyH.nil)⟩
theorem ye {a':Act} (e:Aat a L=a') (h:Q .normal a' w) (hy:Region.ready md ops listed=[]:=by kernel_rfl):YL P md ops Q S fuel listed a L w:=⟨wpAnyH_done hy (NoPanic.normal (by rw [e];exact h)) _⟩
variable {m:Nat}
theorem xv (i:Nat) (hi:ops[i]? =some o) (hw:Region.wanted o (yielded ops (Aat a L).tmps)=true) (hr:∀w1,S w1→(execOp (Aat a L).eval o).run P w1= .ok (.value v) w1) (hS:S w) (h:XL P md ops Q S m fuel (listed.setIfInBounds i true) a ((d,v)::L) w)
 (hd:o.dst=some d:=by rfl) (hs:Region.noSelect ops=true:=by kernel_rfl) (hf:Region.free md ops listed i=true:=by kernel_rfl) (hy:(Region.ready md ops listed).contains i=true:=by kernel_rfl) (ht:Ab3 md ops listed ops.size i m=true:=by kernel_rfl):XL P md ops Q S m (fuel+1) listed a L w :=
 ⟨Akj ops.size hi hs hf hy ht (fun _ _ _ h=>h) (Or.inl ⟨hw,hr⟩) hS (by rw [hd];exact h.out)⟩
theorem xc (i:Nat) (hi:ops[i]? =some o) {F:Nat} {vs:Array Value} {R:Ending→World→Prop} (hw:Region.wanted o (yielded ops (Aat a L).tmps)=true) (hr:(execOp (Aat a L).eval o).run P w= .ok (.enter F vs) w) (hC:Calls P F vs w R) (h:∀e w',R e w'→∃v,e= .returned v∧(i≠m→S w')∧((i≠m→S w')→XL P md ops Q S m fuel (listed.setIfInBounds i true) a ((d,v)::L) w'))
 (hd:o.dst=some d:=by rfl) (hy:Region.ready md ops listed=[i]:=by kernel_rfl):XL P md ops Q S m (fuel+1) listed a L w :=
 ⟨Aea hy hi (fun K hK=>by
  rw [if_pos hw]
  unfold Oper.wp
  rw [hr,Oper.upon_enter]
  refine hC.mono ?_
  intro e w' hp
  obtain ⟨v,rfl,hs,hh⟩:=h e w' hp
  exact hK.out _ _ hs (fun q=>by rw [hd];exact (hh q).out))⟩
theorem xr (i:Nat) (hi:ops[i]? =some o) (hw:Region.wanted o (yielded ops (Aat a L).tmps)=true) (hr:(execOp (Aat a L).eval o).run P w= .ok (.value v) w2) (hs:i≠m→S w2) (h:(i≠m→S w2)→XL P md ops Q S m fuel (listed.setIfInBounds i true) a ((d,v)::L) w2)
 (hd:o.dst=some d:=by rfl) (hy:Region.ready md ops listed=[i]:=by kernel_rfl):XL P md ops Q S m (fuel+1) listed a L w :=
 ⟨Aea hy hi (fun K hK=>by
  rw [if_pos hw]
  unfold Oper.wp
  rw [hr]
  exact hK.out _ _ hs (fun q=>by rw [hd];exact (h q).out))⟩
theorem xs (i:Nat) (hi:ops[i]? =some o) (hw:Region.wanted o (yielded ops (Aat a L).tmps)=true) (hr:(execOp (Aat a L).eval o).run P w= .ok .skip w2) (hs:i≠m→S w2) (h:(i≠m→S w2)→XL P md ops Q S m fuel (listed.setIfInBounds i true) a L w2)
 (hd:o.dst=none:=by rfl) (hy:Region.ready md ops listed=[i]:=by kernel_rfl):XL P md ops Q S m (fuel+1) listed a L w :=
 ⟨Aea hy hi (fun K hK=>by
  rw [if_pos hw]
  unfold Oper.wp
  rw [hr]
  exact hK.out _ _ hs (fun q=>by rw [hd];exact (h q).out))⟩
theorem xd (i:Nat) (hi:ops[i]? =some o) (hw:Region.wanted o (yielded ops (Aat a L).tmps)=true) (hr:(execOp (Aat a L).eval o).run P w= .ok (.value v) w2) (hs:i≠m→S w2) (h:(i≠m→S w2)→XL P md ops Q S m fuel (listed.setIfInBounds i true) a L w2)
 (hd:o.dst=none:=by rfl) (hy:Region.ready md ops listed=[i]:=by kernel_rfl):XL P md ops Q S m (fuel+1) listed a L w :=
 ⟨Aea hy hi (fun K hK=>by
  rw [if_pos hw]
  unfold Oper.wp
  rw [hr]
  exact hK.out _ _ hs (fun q=>by rw [hd];exact (h q).out))⟩
theorem xe {a':Act} (e:Aat a L=a') (h:Q .normal a' w) (hy:Region.ready md ops listed=[]:=by kernel_rfl):XL P md ops Q S m fuel listed a L w:=⟨Agb hy (NoPanic.normal (by rw [e];exact h)) _⟩
end
def Awa (w:World) (a:Option Addr) (L:List IdK):Prop:=L=[]∨∃b off,a=some ⟨b,off,none⟩∧b<w.heap.size∧∀i h,L[i]? =some h→w.rangeAt b (off+33*i) (IdK.c h)
def Adf (L:List IdK):List Value:=L.flatMap IdK.c
theorem Ajy:∀{L:List IdK},(∀h∈L,h.ok)→(Adf L).length=33*L.length
 |[],_=>rfl
 |x::L,ok=>by
  have:=Ajy (L:=L) (fun h hh=>ok h (by simp [hh]))
  simp only [Adf,List.flatMap_cons,List.length_append,IdK.len (ok x (by simp)),List.length_cons] at this ⊢
  omega
theorem Aj0:∀{L:List IdK},(∀h∈L,h.ok)→∀{i:Nat} {h:IdK},L[i]? =some h→∀{j:Nat} {v:Value},(IdK.c h)[j]? =some v→(Adf L)[33*i+j]? =some v
 |x::L,ok,0,h,hi,j,v,hj=>by
  simp only [List.getElem?_cons_zero,Option.some.injEq] at hi
  subst hi
  have hl:=(List.getElem?_eq_some_iff.1 hj).1
  rw [Nat.mul_zero,Nat.zero_add,Adf,List.flatMap_cons,List.getElem?_append_left hl]
  exact hj
 |x::L,ok,i+1,h,hi,j,v,hj=>by
  simp only [List.getElem?_cons_succ] at hi
  have:=Aj0 (L:=L) (fun h hh=>ok h (by simp [hh])) hi hj
  have l:=IdK.len (ok x (by simp))
  rw [Adf,List.flatMap_cons,List.getElem?_append_right (by omega),l,show 33*(i+1)+j-33=33*i+j by omega]
  exact this
 |[],_,i,h,hi,_,_,_=>by simp at hi
theorem Ajz:∀{L:List IdK},(∀h∈L,h.ok)→∀{p:Nat} {u:Value},(Adf L)[p]? =some u→∃i h j,p=33*i+j∧L[i]? =some h∧(IdK.c h)[j]? =some u
 |[],_,p,u,hp=>by simp [Adf] at hp
 |x::L,ok,p,u,hp=>by
  have l:=IdK.len (ok x (by simp))
  rw [Adf,List.flatMap_cons,List.getElem?_append] at hp
  by_cases h:p<(IdK.c x).length
  ·rw [if_pos h] at hp
   exact ⟨0,x,p,by omega,rfl,hp⟩
  ·rw [if_neg h] at hp
   obtain ⟨i,y,j,e,hi,hj⟩:=Ajz (L:=L) (fun h hh=>ok h (by simp [hh])) hp
   exact ⟨i+1,y,j,by omega,hi,hj⟩
theorem Atf (L:List IdK):∀u∈Adf L,u.oneCell'=true:=by
 intro u hu
 simp only [Adf,List.mem_flatMap] at hu
 obtain ⟨h,_,hv⟩:=hu
 exact IdK.one h u hv
theorem Atg (L M:List IdK):Adf (L++M)=Adf L++Adf M:=by simp [Adf]
def Afd (w:World) (base:Nat) (v:Value) (L:List IdK):Prop:=w.ownsRow base 36 33 v L.length (Adf L)
theorem Afd.below {w w':World} {base:Nat} {v:Value} {L:List IdK} (h:Afd w base v L) (hb:Below w.heap.size w w'):Afd w' base v L:=by
 refine ⟨h.1, ?_⟩
 rcases h.2 with hn|⟨g,cap,cur,rfl,hbg,hg,rest⟩
 ·exact .inl hn
 ·exact .inr ⟨g,cap,cur,rfl,hbg,by rw [hb.block g (Array.getElem?_eq_some_iff.1 hg).1];exact hg,rest⟩
theorem Afd.keep {w w':World} {base:Nat} {v:Value} {L:List IdK} (h:Afd w base v L) (hk:∀k,v.ownBlock=some k→w'.heap[k]? =w.heap[k]?):Afd w' base v L:=by
 refine ⟨h.1, ?_⟩
 rcases h.2 with hn|⟨g,cap,cur,rfl,hbg,hg,rest⟩
 ·exact .inl hn
 ·exact .inr ⟨g,cap,cur,rfl,hbg,by rw [hk g rfl];exact hg,rest⟩
theorem Afd.open {w:World} {base:Nat} {v:Value} {L:List IdK} (h:Afd w base v L) (ok:∀h∈L,h.ok):∃a c,v= .slice a L.length c∧Awa w a L∧L.length≤c:=by
 rcases h.2 with ⟨rfl,hn⟩|⟨g,cap,cur,rfl,hbg,hg,hnc,hcm,hcs,htake⟩
 ·obtain rfl:L=[]:=List.eq_nil_of_length_eq_zero hn
  exact ⟨none,0,rfl, .inl rfl,Nat.le_refl _⟩
 ·refine ⟨some ⟨g,0,none⟩,cap,rfl, .inr ⟨g,0,rfl,(Array.getElem?_eq_some_iff.1 hg).1,fun i x hx j u hj=> ?_⟩,hnc⟩
  have e:=Aj0 ok hx hj
  rw [Nat.zero_add,cell_of_row w g _ cur 36 (0,0) hg]
  rw [←htake,List.getElem?_take] at e
  split at e
  ·simpa using e
  ·cases e
theorem A3b:(prog.info? 36).map (fun i=>(i.zero,i.size,i.bytes))=some (some (.agg (IdK.c zId).toArray),33,40):=by kernel_rfl
theorem A1y:(Value.agg (IdK.c zId).toArray).cells.size=33:=by
 show (IdK.c zId).toArray.size=33
 rw [List.size_toArray,IdK.len Aay]
theorem Al6 (w:World) (base:Nat) (v:Value) (L:List IdK) (a:Option Addr) (M:List IdK) (c:Nat) (hown:Afd w base v L) (hb:Awa w a M) (ok:∀h∈M,h.ok) (h:L.length+M.length≤5600000000000) (hbase:base≤w.heap.size) :
 ∃v' w',(Builtin.append_ #[56,56] 56 #[v, .slice a M.length c]).run prog w= .ok v' w'∧Afd w' base v' (L++M)∧w.grownBy w' v.ownBlock∧(v'.ownBlock=v.ownBlock∨v'.ownBlock=some w.heap.size):=by
 obtain ⟨i,hi,hz,hs,hby⟩:=info_parts A3b
 cases a with
 |some ad =>
  have hnews:∀j u,(Adf M)[j]? =some u→w.cell? (ad.add j)=some u:=fun j u hj=>by
   rcases hb with rfl|⟨b,off,e,_,hc⟩
   ·simp [Adf] at hj
   ·cases e
    obtain ⟨k,x,r,rfl,hx,hr⟩:=Ajz ok hj
    rw [Addr.add_mid, ←Nat.add_assoc]
    exact hc k x hx r u hr
  obtain ⟨v',w',hr,h2,h3,h5⟩:=Akb (P:=prog) w base 56 56 36 i _ 33 40 underlying56 hi hz hs hby A1y (by decide) v L.length (Adf L) hown ad M.length c (Adf M) (by rw [Ajy ok,Nat.mul_comm]) hnews (Atf M) (by unfold maxLen;omega) (by omega) hbase
  refine ⟨v',w',hr, ?_,h3,h5⟩
  unfold Afd
  rw [List.length_append,Atg]
  exact h2
 |none =>
  obtain rfl:M=[]:=by
   rcases hb with rfl|⟨b,off,e,_⟩
   ·rfl
   ·cases e
  rcases hown.2 with ⟨rfl,hn⟩|⟨g,cap,cur,rfl,hbg,hg,hnc,rest⟩
  ·refine ⟨.slice none 0 0,w, ?_,by rw [List.append_nil];exact hown,⟨rfl,rfl,rfl,Nat.le_refl _,fun _ _ _=>rfl⟩, .inl rfl⟩
   simp [Builtin.append_,run_underlying underlying56,sizeOf,typeInfo,hi,Builtin.lenOf,Builtin.firstCells,loadCells,loadCellsFrom]
  ·refine ⟨.slice (some ⟨g,0,none⟩) L.length cap,w, ?_,by rw [List.append_nil];exact hown,⟨rfl,rfl,rfl,Nat.le_refl _,fun _ _ _=>rfl⟩, .inl rfl⟩
   simp [Builtin.append_,run_underlying underlying56,sizeOf,typeInfo,hi,Builtin.lenOf,Builtin.firstCells,hnc,storeCells]
theorem Aso (w:World) (h:IdK) (t:TypeId):Awa (w.alloc (.cells (IdK.c h).toArray t)) (some ⟨w.heap.size,0,none⟩) [h] :=
 .inr ⟨w.heap.size,0,rfl,by simp,fun i x hx j v hj=>by
  have hl:=(List.getElem?_eq_some_iff.1 hx).1
  obtain rfl:i=0:=by simp at hl;omega
  simp at hx
  subst hx
  rw [Nat.mul_zero,Nat.add_zero,Nat.zero_add]
  exact Af9 w (IdK.c h) t j v hj⟩
theorem Aq0 (h:IdK) (ok:h.ok) (w:World):(Instr.buildSlice 56 1 #[(0, .agg (IdK.c h).toArray)]).run prog w= .ok (.slice (some ⟨w.heap.size,0,none⟩) 1 1) (w.alloc (.cells (IdK.c h).toArray 36)):=by
 obtain ⟨ie,hi,hz,hs,hby⟩:=info_parts A3b
 refine run_buildSlice w 56 36 1 _ (IdK.c h).toArray ie _ underlying56 hi hz (by rw [hs];decide) (by rw [hs];decide) ?_
 rw [hs]
 have:=Go.Great.fill_whole (s:=33) (by decide) [.agg (IdK.c h).toArray] ((Array.range (1*33)).map ((Value.agg (IdK.c zId).toArray).cells[· % (Value.agg (IdK.c zId).toArray).cells.size]!)) (by intro v hv;simp at hv;subst hv;show (IdK.c h).toArray.size=33;rw [List.size_toArray,IdK.len ok]) (by simp)
 simpa [Value.cells] using this
section
variable {ops:Array Oper} {rest:List Oper} {o:Oper} {a:Act} {w:World} {Q:Exit→Act→World→Prop} {K:Act→World→Prop} {E:Prop}
end
end
end Go.Proofs.YtifendlpeebofaaGreatDoor
