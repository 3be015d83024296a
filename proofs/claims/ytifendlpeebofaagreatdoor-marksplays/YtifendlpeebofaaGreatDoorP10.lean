import Derived.Test.YtifendlpeebofaaGreatDoorP9
import Derived.Test.YtifendlpeebofaaGreatDoorP5
import Derived.Test.YtifendlpeebofaaGreatDoorP0
import Derived.Test.YtifendlpeebofaaGreatDoorP2
import Derived.Test.YtifendlpeebofaaGreatDoorP4
import Derived.RangeFuncFrom
import Derived.Shelf.Abstract
import Derived.Laws.MakeOwn
import Derived.Test.YtifendlpeebofaaGreatDoorP7
set_option linter.unusedSimpArgs false
set_option linter.unusedVariables false
set_option maxRecDepth 100000
set_option maxHeartbeats 4000000
namespace Go.Proofs.YtifendlpeebofaaGreatDoor
open Go.Proofs.Tryz
section
open Go.RowKit Sq
def pMk (p:Mx × Rx):Value:= (pZ p.1.mb 0)
def pRk (p:Mx × Rx):Value:= (pZ p.2.rb 0)
def PB (s:Sx) (d:Nat) (v:Value) (m:Mx) (r:Rx) (j:Nat):Prop:=j∈s.bl∨rbl d v j∨m.bl j∨r.bl j
structure PQ (n0:Nat) (w0:World) (n:Nat) (W:World) (F0 F:Nat) (s:Sx) (d:Nat) (v:Value) (R:List Elt) (m:Mx) (r:Rx) (P:List (Mx × Rx)):Prop where
 sq:SqP W n0 F0 s d v R
 cur:Adp W F m r
 hF:F0≤F
 bm:∀j,m.bl j→F0≤j
 old:∀p∈P,Ake W F p.1 p.2∧(∀j,p.1.bl j→F0≤j)∧∀j,p.2.bl j→F0≤j
 bel:Below n0 w0 W
 nR:R.length≤n
 nL:m.L.length≤n
 nP:P.length≤n
structure PP (n0:Nat) (w0:World) (n:Nat) (W:World) (F0 F:Nat) (s:Sx) (d:Nat) (v:Value) (R:List Elt) (m:Mx) (r:Rx) (P:List (Mx × Rx)) (ov kv:Value):Prop where
 q:PQ n0 w0 n W F0 F s d v R m r P
 lo:Ab7 W F0 27 ov (P.map pMk)
 lk:Ab7 W F0 29 kv (P.map pRk)
 lob:∀j,ov.ownBlock=some j→j<F
 lkb:∀j,kv.ownBlock=some j→j<F
section
variable {n0 n F0 F d:Nat} {w0 W W' w2:World} {s s':Sx} {v v' ov kv:Value} {R R':List Elt} {m m':Mx} {r r':Rx} {P:List (Mx × Rx)} {k:IdK}
theorem PQ.br (h:PQ n0 w0 n W F0 F s d v R m r P):∀j,r.bl j→F0≤j:=fun j hj=>Nat.le_trans h.hF (h.cur.rk.ge hj)
theorem PQ.lt (h:PQ n0 w0 n W F0 F s d v R m r P) {j:Nat} (hj:PB s d v m r j):j<W.heap.size:=by
 rcases hj with q|(rfl|q)|q|q
 ·exact h.sq.sq.lt j q
 ·exact h.sq.rf.lt
 ·exact Aae.Own.lt h.sq.rf.own q
 ·exact Mx.lt h.cur.pm q
 ·exact h.cur.rk.lt q
theorem PQ.sz (h:PQ n0 w0 n W F0 F s d v R m r P):n0≤W.heap.size:=Nat.le_trans h.sq.nF h.sq.le
theorem PQ.below (h:PQ n0 w0 n W F0 F s d v R m r P) (b:Below W.heap.size W W'):PQ n0 w0 n W' F0 F s d v R m r P :=
 ⟨h.sq.below b,h.cur.below b,h.hF,h.bm,fun p hp=>⟨(h.old p hp).1.below b,(h.old p hp).2⟩,h.bel.trans (b.mono h.sz),h.nR,h.nL,h.nP⟩
theorem PP.below (h:PP n0 w0 n W F0 F s d v R m r P ov kv) (b:Below W.heap.size W W'):PP n0 w0 n W' F0 F s d v R m r P ov kv :=
 ⟨h.q.below b,h.lo.below b,h.lk.below b,h.lob,h.lkb⟩
theorem PP.more (h:PP n0 w0 n W F0 F s d v R m r P ov kv) {n':Nat} (hn:n≤n'):PP n0 w0 n' W F0 F s d v R m r P ov kv :=
 ⟨⟨h.q.sq,h.q.cur,h.q.hF,h.q.bm,h.q.old,h.q.bel,Nat.le_trans h.q.nR hn,Nat.le_trans h.q.nL hn,Nat.le_trans h.q.nP hn⟩,h.lo,h.lk,h.lob,h.lkb⟩
theorem PP.rv (h:PP n0 w0 n W F0 F s d v R m r P ov kv):Aog W 0 (pZ d 0) R:= .inr ⟨d,v,rfl,h.q.sq.rf⟩
theorem Afy {e:TypeId} {u:Value} {X:List Value} (h:SqP W n0 F0 s d v R) (lo:Ab7 W F0 e u X) (he:e=27∨e=29) {j:Nat} (hj:u.ownBlock=some j):¬(j∈s.bl∨rbl d v j):=by
 obtain ⟨ge,c,hc⟩:=lo.ge j hj
 rintro (a|a)
 ·simp only [Sx.bl,List.mem_cons,List.not_mem_nil,or_false] at a
  rcases a with rfl|rfl|rfl
  ·have:=h.sb;omega
  ·have:=h.mb;omega
  ·obtain ⟨cur,hg,_⟩:=h.sq.row.blk
   have:=Aag hg hc
   subst this
   revert he;decide
 ·obtain ⟨c2,t2,z2,e2,ht⟩:=Age h.rf a
  have:=Aag e2 hc
  subst this
  rcases ht with q|q <;>rw [q] at he <;>revert he <;>decide
theorem Amn {e:TypeId} {u:Value} {X:List Value} {b1 b2:Nat} (hm:Acl W b1 m) (hr:Acr W b2 r) (lo:Ab7 W F0 e u X) (he:e=27∨e=29) {j:Nat} (hj:u.ownBlock=some j):¬m.bl j∧¬r.bl j:=by
 obtain ⟨ge,c,hc⟩:=lo.ge j hj
 refine ⟨fun a=> ?_,fun a=> ?_⟩
 ·rcases Akz hm a with ⟨c2,t2,z2,e2,ht⟩|⟨es,c2,e2⟩
  ·have:=Aag e2 hc
   subst this
   rcases ht with q|q <;>rw [q] at he <;>revert he <;>decide
  ·rw [hc] at e2;cases e2
 ·obtain ⟨c2,t2,z2,e2,ht⟩:=Aku hr a
  have:=Aag e2 hc
  subst this
  rcases ht with q|q <;>rw [q] at he <;>revert he <;>decide
theorem PP.marks (h:PP n0 w0 n W F0 F s d v R m r P ov kv) (t:Tch (fun j=>F≤j∧(m.bl j∨r.bl j)) W w2) (c:Adp w2 F m' r') (hbl:∀j,m'.bl j→m.bl j∨W.heap.size≤j) (hl:m'.L.length≤n+1):PP n0 w0 (n+1) w2 F0 F s d v R m' r' P ov kv:=by
 have hF:=h.q.hF
 have hnF:=h.q.sq.nF
 refine ⟨⟨h.q.sq.left t (fun j o a=>o.2.elim (fun o=>Al1 h.q.sq.sq h.q.sq.sb h.q.sq.mb h.q.cur.pm h.q.bm a o) (fun o=>Alx h.q.sq.sq h.q.sq.sb h.q.sq.mb h.q.cur.rk h.q.br a o)) (fun j o a=>o.2.elim (fun o=>Alt h.q.sq.rf h.q.cur.pm a o) (fun o=>Als h.q.sq.rf h.q.cur.rk a o)),c,hF,fun j hj=>(hbl j hj).elim (h.q.bm j) (fun q=>Nat.le_trans h.q.sq.le q),fun p hp=>⟨(h.q.old p hp).1.tch t (fun j o=>o.1),(h.q.old p hp).2⟩,h.q.bel.trans (t.below h.q.sz (fun j o=>by have:=o.1;omega)),Nat.le_succ_of_le h.q.nR,hl,Nat.le_succ_of_le h.q.nP⟩,h.lo.keep (fun j hj=>t.block j (h.lo.lt hj) (fun o=>by have:=h.lob j hj;have:=o.1;omega)),h.lk.keep (fun j hj=>t.block j (h.lk.lt hj) (fun o=>by have:=h.lkb j hj;have:=o.1;omega)),h.lob,h.lkb⟩
theorem PP.seqs (h:PP n0 w0 n W F0 F s d v R m r P ov kv) (hs:SqP w2 n0 F0 s' d v' R') (t:Tch (fun j=>j∈s.bl∨rbl d v j) W w2) (hR:R'.length≤n+1):PP n0 w0 (n+1) w2 F0 F s' d v' R' m r P ov kv:=by
 have hnF:=h.q.sq.nF
 obtain ⟨a1,a2⟩:=h.q.sq.leaves t h.q.cur.pm h.q.cur.rk h.q.bm h.q.br
 have c:=h.q.cur
 refine ⟨⟨hs,⟨a1,a2,c.el,c.mb,c.ib,c.own,c.rt,Nat.le_trans c.le t.size⟩,h.q.hF,h.q.bm,fun p hp=> ?_,h.q.bel.trans (t.below h.q.sz (fun j o=> ?_)),hR,Nat.le_succ_of_le h.q.nL,Nat.le_succ_of_le h.q.nP⟩,h.lo.keep (fun j hj=>t.block j (h.lo.lt hj) (Afy h.q.sq h.lo (.inl rfl) hj)),h.lk.keep (fun j hj=>t.block j (h.lk.lt hj) (Afy h.q.sq h.lk (.inr rfl) hj)),h.lob,h.lkb⟩
 ·obtain ⟨q,q1,q2⟩:=h.q.old p hp
  obtain ⟨z1,z2⟩:=h.q.sq.leaves t q.pm q.rk q1 q2
  exact ⟨⟨z1,z2,q.el,q.bm,q.br,q.rt⟩,q1,q2⟩
 ·rcases o with o|o|o
  ·exact h.q.sq.sn j o
  ·rw [o];exact h.q.sq.dn
  ·exact Nat.le_trans hnF (h.q.sq.own j o)
theorem Aws {L:List MkV}:(Aiv L k).length≤L.length+1:=by
 unfold Aiv
 split <;>simp <;>omega
theorem PP.add (h:PP n0 w0 n W F0 F s d v R m r P ov kv) (hT:K.V.Tabs W) {x:MkV} (hx:x.ok) (hn:n+1≤900000000000) :
 Calls prog 12 #[(pZ m.mb 0),x.id.v, .string x.nm,x.v.v,x.fr.v,x.to.v, .int .i64 x.sd] W fun e w1=>e= .returned (.int .i64 (Ais m.L x))∧Tch (PB s d v m r) W w1∧Calls prog 13 #[(pZ r.rb 0),x.id.v, .string x.nm,x.v.v,x.fr.v,x.to.v, .int .i64 x.sd] w1 fun e w2=>e= .returned (.int .i64 (Ais m.L x))∧Tch (PB s d v m r) W w2∧∃m' r',m'.mb=m.mb∧r'.rb=r.rb∧PP n0 w0 (n+1) w2 F0 F s d v R m' r' P ov kv:=by
 have hl:=h.q.nL
 refine (h.q.cur.add hT hx (by omega)).mono ?_
 rintro e w1 ⟨rfl,t1,hc⟩
 refine ⟨rfl,t1.mono (fun j _ o=> .inr (.inr o.2)),hc.mono ?_⟩
 rintro e w2 ⟨rfl,t2,m',r',e1,e2,hbl,eL,c⟩
 exact ⟨rfl,t2.mono (fun j _ o=> .inr (.inr o.2)),m',r',e1,e2,h.marks t2 c hbl (by rw [eL];have:=A0j (L:=m.L) (x:=x);omega)⟩
theorem PP.undo (h:PP n0 w0 n W F0 F s d v R m r P ov kv) (hk:k.ok) :
 Calls prog 14 #[(pZ m.mb 0),k.v] W fun e w1=>e= .returned (.int .i64 (Aiq m.L k))∧Tch (PB s d v m r) W w1∧Calls prog 15 #[(pZ r.rb 0),k.v] w1 fun e w2=>e= .returned (.int .i64 (Aiq m.L k))∧Tch (PB s d v m r) W w2∧∃m' r',m'.mb=m.mb∧r'.rb=r.rb∧PP n0 w0 (n+1) w2 F0 F s d v R m' r' P ov kv:=by
 have hl:=h.q.nL
 refine (h.q.cur.undo hk).mono ?_
 rintro e w1 ⟨rfl,t1,hc⟩
 refine ⟨rfl,t1.mono (fun j _ o=> .inr (.inr o.2)),hc.mono ?_⟩
 rintro e w2 ⟨rfl,t2,m',r',e1,e2,hbl,eL,c⟩
 exact ⟨rfl,t2.mono (fun j _ o=> .inr (.inr o.2)),m',r',e1,e2,h.marks t2 c hbl (by rw [eL];have:=Aws (L:=m.L) (k:=k);omega)⟩
theorem PP.insert (h:PP n0 w0 n W F0 F s d v R m r P ov kv) (hk:k.ok) {b:IdK} (hb:b.ok) (hn:n+2≤900000000000) :
 Calls prog 16 #[(pZ s.sb 0),k.v,b.v] W fun e w1=>e= .returned (.int .i64 (Afe R k b:Int))∧Tch (PB s d v m r) W w1∧Calls prog 17 #[(pZ d 0),k.v,b.v] w1 fun e w2=>e= .returned (.int .i64 (Afe R k b:Int))∧Tch (PB s d v m r) W w2∧∃s' v',s'.sb=s.sb∧PP n0 w0 (n+1) w2 F0 F s' d v' (Asi R k b) m r P ov kv:=by
 have hl:=h.q.nR
 refine (h.q.sq.insert hk hb (by omega)).mono ?_
 rintro e w1 ⟨rfl,t1,hc⟩
 refine ⟨rfl,t1.mono (fun j _ o=>o.elim .inl (fun o=> .inr (.inl o))),hc.mono ?_⟩
 rintro e w2 ⟨rfl,s',v',e1,hs,t2⟩
 exact ⟨rfl,t2.mono (fun j _ o=>o.elim .inl (fun o=> .inr (.inl o))),s',v',e1,h.seqs hs t2 (Nat.le_trans (Ayy R k b) (by omega))⟩
theorem PP.show (h:PP n0 w0 n W F0 F s d v R m r P ov kv) (hk:k.ok) (b:Bool) :
 Calls prog 18 #[(pZ s.sb 0),k.v, .bool b] W fun e w1=>e= .returned (.int .i64 (Adt R k:Int))∧Tch (PB s d v m r) W w1∧Calls prog 19 #[(pZ d 0),k.v, .bool b] w1 fun e w2=>e= .returned (.int .i64 (Adt R k:Int))∧Tch (PB s d v m r) W w2∧∃s' v',s'.sb=s.sb∧PP n0 w0 (n+1) w2 F0 F s' d v' (Abb R k b) m r P ov kv:=by
 have hl:=h.q.nR
 refine (h.q.sq.show hk b).mono ?_
 rintro e w1 ⟨rfl,t1,hc⟩
 refine ⟨rfl,t1.mono (fun j _ o=>o.elim .inl (fun o=> .inr (.inl o))),hc.mono ?_⟩
 rintro e w2 ⟨rfl,s',v',e1,hs,t2⟩
 exact ⟨rfl,t2.mono (fun j _ o=>o.elim .inl (fun o=> .inr (.inl o))),s',v',e1,h.seqs hs t2 (by rw [Ai2];omega)⟩
theorem Bad (p:Option Addr) (W:World):(Instr.buildSlice 31 1 #[(0, .pointer p)]).run prog W= .ok (.slice (some ⟨W.heap.size,0,none⟩) 1 1) (W.alloc (.cells #[.pointer p] 27)):=by cases p <;>kernel_rfl
theorem Bac (p:Option Addr) (W:World):(Instr.buildSlice 32 1 #[(0, .pointer p)]).run prog W= .ok (.slice (some ⟨W.heap.size,0,none⟩) 1 1) (W.alloc (.cells #[.pointer p] 29)):=by cases p <;>kernel_rfl
theorem PQ.tchV (h:PQ n0 w0 n W F0 F s d v R m r P) {e:TypeId} {u:Value} {X:List Value} (lo:Ab7 W F0 e u X) (he:e=27∨e=29) (t:Tch (fun j=>u.ownBlock=some j) W W'):PQ n0 w0 n W' F0 F s d v R m r P:=by
 have c:=h.cur
 have hnF:=h.sq.nF
 have hc:=fun (j:Nat) (hj:u.ownBlock=some j)=>Amn c.pm c.rk lo he hj
 refine ⟨h.sq.left t (fun j o a=>Afy h.sq lo he o (.inl a)) (fun j o a=>Afy h.sq lo he o (.inr a)),⟨c.pm.keep (fun j hj=>t.block j (Mx.lt c.pm hj) (fun o=>(hc j o).1 hj)),c.rk.keep (fun j hj=>t.block j (c.rk.lt hj) (fun o=>(hc j o).2 hj)),c.el,c.mb,c.ib,c.own,c.rt,Nat.le_trans c.le t.size⟩,h.hF,h.bm,fun p hp=> ?_,h.bel.trans (t.below h.sz (fun j o=>Nat.le_trans hnF (lo.ge j o).1)),h.nR,h.nL,h.nP⟩
 obtain ⟨q,q1,q2⟩:=h.old p hp
 have hc:=fun (j:Nat) (hj:u.ownBlock=some j)=>Amn q.pm q.rk lo he hj
 exact ⟨⟨q.pm.keep (fun j hj=>t.block j (Mx.lt q.pm hj) (fun o=>(hc j o).1 hj)),q.rk.keep (fun j hj=>t.block j (q.rk.lt hj) (fun o=>(hc j o).2 hj)),q.el,q.bm,q.br,q.rt⟩,q1,q2⟩
theorem Alp {X Y:List Value} (lo:Ab7 W F0 27 ov X) (lk:Ab7 W F0 29 kv Y) {j:Nat} (h1:ov.ownBlock=some j) (h2:kv.ownBlock=some j):False:=by
 obtain ⟨_,c,e⟩:=lo.ge j h1
 obtain ⟨_,c2,e2⟩:=lk.ge j h2
 have:=Aag e e2
 revert this;decide
theorem PP.keepO (h:PP n0 w0 n W F0 F s d v R m r P ov kv) (hn:n+1≤900000000000) :
 ∃b1 w1 ov' w2,(Instr.buildSlice 31 1 #[(0, (pZ m.mb 0))]).run prog W= .ok b1 w1∧(Builtin.append_ #[31,31] 31 #[ov,b1]).run prog w1= .ok ov' w2∧PQ n0 w0 n w2 F0 F s d v R m r P∧Ab7 w2 F0 27 ov' ((P++[(m,r)]).map pMk)∧Ab7 w2 F0 29 kv (P.map pRk):=by
 have hl:=h.q.nP
 obtain ⟨b1,w1,ov',w2,e1,e2,o,b,_,g,q⟩:=Ai7 31 27 underlying31 (by kernel_rfl) Bad W F0 ov _ (some ⟨m.mb,0,none⟩) h.lo (by rw [List.length_map];omega) h.q.sq.le
 have h1:=h.below b
 have t:Tch (fun j=>ov.ownBlock=some j) w1 w2:=⟨g.os,g.tape,g.output,g.size,fun j hj hn=>g.block j hj (fun e=>hn e.symm)⟩
 refine ⟨b1,w1,ov',w2,e1,e2,h1.q.tchV h1.lo (.inl rfl) t,by rw [List.map_append];exact o,h1.lk.keep (fun j hj=>t.block j (h1.lk.lt hj) (fun e=>Alp h1.lo h1.lk e hj))⟩
theorem PQ.keepK (h:PQ n0 w0 n W F0 F s d v R m r P) (lo:Ab7 W F0 27 ov ((P++[(m,r)]).map pMk)) (lk:Ab7 W F0 29 kv (P.map pRk)) (hn:n+1≤900000000000) :
 ∃b1 w1 kv' w2,(Instr.buildSlice 32 1 #[(0, (pZ r.rb 0))]).run prog W= .ok b1 w1∧(Builtin.append_ #[32,32] 32 #[kv,b1]).run prog w1= .ok kv' w2∧PQ n0 w0 n w2 F0 F s d v R m r P∧Ab7 w2 F0 27 ov ((P++[(m,r)]).map pMk)∧Ab7 w2 F0 29 kv' ((P++[(m,r)]).map pRk):=by
 have hl:=h.nP
 obtain ⟨b1,w1,kv',w2,e1,e2,o,b,_,g,q⟩:=Ai7 32 29 underlying32 (by kernel_rfl) Bac W F0 kv _ (some ⟨r.rb,0,none⟩) lk (by rw [List.length_map];omega) h.sq.le
 have h1:=h.below b
 have lo1:=lo.below b
 have lk1:=lk.below b
 have t:Tch (fun j=>kv.ownBlock=some j) w1 w2:=⟨g.os,g.tape,g.output,g.size,fun j hj hn=>g.block j hj (fun e=>hn e.symm)⟩
 refine ⟨b1,w1,kv',w2,e1,e2,h1.tchV lk1 (.inr rfl) t,lo1.keep (fun j hj=>t.block j (lo1.lt hj) (fun e=>Alp lo1 lk1 hj e)),by rw [List.map_append];exact o⟩
theorem PQ.fork (h:PQ n0 w0 n W F0 F s d v R m r P) (lo:Ab7 W F0 27 ov ((P++[(m,r)]).map pMk)) (lk:Ab7 W F0 29 kv ((P++[(m,r)]).map pRk)) :
 Calls prog 20 #[(pZ m.mb 0)] W fun e w1=> ∃mb,e= .returned (pZ mb 0)∧Below W.heap.size W w1∧Calls prog 21 #[(pZ r.rb 0)] w1 fun e w2=> ∃rb,e= .returned (pZ rb 0)∧Below W.heap.size W w2∧∃F' m' r',m'.mb=mb∧r'.rb=rb∧PP n0 w0 (n+1) w2 F0 F' s d v R m' r' (P++[(m,r)]) ov kv:=by
 refine h.cur.fork.mono ?_
 rintro e w1 ⟨m',rfl,b1,hc⟩
 refine ⟨m'.mb,rfl,b1,hc.mono ?_⟩
 rintro e w2 ⟨r',rfl,b2,eL,hbl,c,o⟩
 have h2:=h.below b2
 have hle:=h.cur.le
 refine ⟨r'.rb,rfl,b2,W.heap.size,m',r',rfl,rfl,⟨h2.sq,c,h.sq.le,fun j hj=>(hbl j hj).elim (h.bm j) (fun q=>Nat.le_trans h.sq.le q),fun p hp=> ?_,h2.bel,Nat.le_succ_of_le h.nR,by rw [eL];exact Nat.le_succ_of_le h.nL,by rw [List.length_append];exact Nat.succ_le_succ h.nP⟩,lo.below b2,lk.below b2,fun j hj=>lo.lt hj,fun j hj=>lk.lt hj⟩
 rcases List.mem_append.1 hp with q|q
 ·obtain ⟨a,a1,a2⟩:=h2.old p q
  exact ⟨⟨a.pm,a.rk,a.el,fun j hj=>Nat.lt_of_lt_of_le (a.bm j hj) hle,fun j hj=>Nat.lt_of_lt_of_le (a.br j hj) hle,a.rt⟩,a1,a2⟩
 ·rw [List.mem_singleton.1 q]
  exact ⟨o,h.bm,h.br⟩
end
def WS (b1 b2 rb ro:Nat) (c:Bool) (w':World):Prop:=(Instr.loadAt 129 (pZ b1 0)).run prog w'= .ok (pZ rb ro) w'∧(Instr.loadAt 3 (pZ b2 0)).run prog w'= .ok (.int .i64 (nb c:Int)) w'
def Amk:Oper:=⟨some 23, .move (.tmp 0),129,"row.go:261", #[],none⟩
def Amj:Oper:=⟨some 24, .move (.tmp 9),201,"row.go:261", #[],none⟩
def Ami:Oper:=⟨some 25, .nilCheck (.tmp 24),0,"row.go:261", #[⟨1, .data⟩],none⟩
def Amh:Oper:=⟨some 26, .fieldAddr 128 (.tmp 25) 3,0,"row.go:261", #[⟨2, .data⟩],none⟩
def Amg:Oper:=⟨some 27, .indexAddr 126 (.tmp 26) (Operand.const (Value.int IntKind.i64 0)),0,"row.go:261", #[⟨3, .data⟩],none⟩
def Amf:Oper:=⟨some 28, .load 3 (.tmp 27),3,"row.go:261", #[⟨4, .data⟩],none⟩
def Ame:Oper:=⟨some 29, .move (.tmp 2),3,"row.go:261", #[],none⟩
def Amd:Oper:=⟨some 30, .move (.tmp 3),173,"row.go:261", #[],none⟩
def Ah0:Oper:=⟨some 31, .call {callee:=Callee.value (Operand.func 117),args:= #[.tmp 23, .tmp 28, .tmp 29, .tmp 30],argTypes:= #[129,3,3,173]},4,"row.go:261", #[⟨0, .data⟩,⟨5, .data⟩,⟨6, .data⟩,⟨7, .data⟩],none⟩
def Aas:Oper:=⟨some 32, .move (.tmp 31),4,"row.go:261", #[⟨8, .data⟩,⟨8, .chain⟩],none⟩
def Acx:Oper:=⟨some 33, .move (.tmp 0),129,"row.go:261", #[⟨9, .guard⟩],some (9,true)⟩
def Acw:Oper:=⟨some 34, .move (.tmp 1),3,"row.go:261", #[⟨9, .guard⟩],some (9,true)⟩
def Acv:Oper:=⟨some 35, .move (.tmp 2),3,"row.go:261", #[⟨9, .guard⟩],some (9,true)⟩
def Acf:Oper:=⟨some 36, .call {callee:=Callee.value (Operand.func 149),args:= #[.tmp 33, .tmp 34, .tmp 35],argTypes:= #[129,3,3]},3,"row.go:262", #[⟨10, .data⟩,⟨11, .data⟩,⟨12, .data⟩,⟨9, .chain⟩,⟨9, .guard⟩],some (9,true)⟩
def Abu:Oper:=⟨some 37, .binOp BinOp.eql 3 (.tmp 36) (Operand.const (Value.int IntKind.i64 0)) 3,4,"row.go:261", #[⟨13, .data⟩,⟨9, .guard⟩],some (9,true)⟩
def Aaj:Oper:=⟨some 38, .move (.tmp 37),4,"row.go:261", #[⟨14, .data⟩,⟨13, .chain⟩,⟨9, .guard⟩],some (9,true)⟩
def Abt:Oper:=⟨some 39, .move (.tmp 3),173,"row.go:261", #[⟨15, .guard⟩],some (15,false)⟩
def Abs:Oper:=⟨some 40, .move (.tmp 9),201,"row.go:261", #[⟨15, .guard⟩],some (15,false)⟩
def Abr:Oper:=⟨some 41, .nilCheck (.tmp 40),0,"row.go:261", #[⟨17, .data⟩,⟨15, .guard⟩],some (15,false)⟩
def Abq:Oper:=⟨some 42, .fieldAddr 128 (.tmp 41) 0,0,"row.go:261", #[⟨18, .data⟩,⟨15, .guard⟩],some (15,false)⟩
def Abp:Oper:=⟨some 43, .load 78 (.tmp 42),78,"row.go:261", #[⟨19, .data⟩,⟨15, .guard⟩],some (15,false)⟩
def Abl:Oper:=⟨some 44, .call {callee:=Callee.value (.tmp 39),args:= #[.tmp 43],argTypes:= #[78]},4,"row.go:262", #[⟨16, .data⟩,⟨20, .data⟩,⟨15, .chain⟩,⟨15, .guard⟩],some (15,false)⟩
def Aau:Oper:=⟨some 45, .pick (.tmp 38) (Operand.const (Value.bool true)) (.tmp 44),4,"row.go:261", #[⟨15, .data⟩,⟨21, .data⟩,⟨9, .guard⟩],some (9,true)⟩
def Aa9:Oper:=⟨some 46, .pick (.tmp 32) (.tmp 45) (Operand.const (Value.bool false)),4,"row.go:261", #[⟨9, .data⟩,⟨22, .data⟩],none⟩
def Aad:Oper:=⟨some 47, .move (.tmp 46),4,"row.go:261", #[⟨23, .data⟩,⟨21, .chain⟩],none⟩
def Aa8:Oper:=⟨some 48, .move (.tmp 0),129,"row.go:261", #[⟨24, .guard⟩],some (24,true)⟩
def Aa7:Oper:=⟨some 49, .move (.tmp 9),201,"row.go:261", #[⟨24, .guard⟩],some (24,true)⟩
def Aa6:Oper:=⟨some 50, .nilCheck (.tmp 49),0,"row.go:261", #[⟨26, .data⟩,⟨24, .guard⟩],some (24,true)⟩
def Aa5:Oper:=⟨some 51, .fieldAddr 128 (.tmp 50) 3,0,"row.go:261", #[⟨27, .data⟩,⟨24, .guard⟩],some (24,true)⟩
def Aa4:Oper:=⟨some 52, .indexAddr 126 (.tmp 51) (Operand.const (Value.int IntKind.i64 1)),0,"row.go:261", #[⟨28, .data⟩,⟨24, .guard⟩],some (24,true)⟩
def Aa3:Oper:=⟨some 53, .load 3 (.tmp 52),3,"row.go:261", #[⟨29, .data⟩,⟨24, .guard⟩],some (24,true)⟩
def Aa2:Oper:=⟨some 54, .move (.tmp 2),3,"row.go:261", #[⟨24, .guard⟩],some (24,true)⟩
def Aa1:Oper:=⟨some 55, .move (.tmp 3),173,"row.go:261", #[⟨24, .guard⟩],some (24,true)⟩
def Aaw:Oper:=⟨some 56, .call {callee:=Callee.value (Operand.func 117),args:= #[.tmp 48, .tmp 53, .tmp 54, .tmp 55],argTypes:= #[129,3,3,173]},4,"row.go:263", #[⟨25, .data⟩,⟨30, .data⟩,⟨31, .data⟩,⟨32, .data⟩,⟨24, .chain⟩,⟨24, .guard⟩],some (24,true)⟩
def Aav:Oper:=⟨some 57, .pick (.tmp 47) (.tmp 56) (Operand.const (Value.bool false)),4,"row.go:261", #[⟨24, .data⟩,⟨33, .data⟩],none⟩
def Abe:Oper:=⟨some 8, .assign (.tmp 57),4,"row.go:261", #[⟨34, .data⟩,⟨33, .chain⟩,⟨0, .phase⟩,⟨1, .phase⟩,⟨2, .phase⟩,⟨3, .phase⟩,⟨4, .phase⟩,⟨5, .phase⟩,⟨6, .phase⟩,⟨7, .phase⟩,⟨8, .phase⟩,⟨9, .phase⟩,⟨10, .phase⟩,⟨11, .phase⟩,⟨12, .phase⟩,⟨13, .phase⟩,⟨14, .phase⟩,⟨15, .phase⟩,⟨16, .phase⟩,⟨17, .phase⟩,⟨18, .phase⟩,⟨19, .phase⟩,⟨20, .phase⟩,⟨21, .phase⟩,⟨22, .phase⟩,⟨23, .phase⟩,⟨24, .phase⟩,⟨25, .phase⟩,⟨26, .phase⟩,⟨27, .phase⟩,⟨28, .phase⟩,⟨29, .phase⟩,⟨30, .phase⟩,⟨31, .phase⟩,⟨32, .phase⟩,⟨33, .phase⟩,⟨34, .phase⟩],none⟩
def Aab:Array Oper:= #[Amk,Amj,Ami,Amh,Amg,Amf,Ame,Amd,Ah0,Aas,Acx,Acw,Acv,Acf,Abu,Aaj,Abt,Abs,Abr,Abq,Abp,Abl,Aau,Aa9,Aad,Aa8,Aa7,Aa6,Aa5,Aa4,Aa3,Aa2,Aa1,Aaw,Aav,Abe]
theorem A47 {rb ro g cap:Nat} {L:List Sp} {i l n:Nat} {c:Bool} (Fin:Bool→World→Prop) (a:Act) (w:World) (Q:Exit→Act→World→Prop) (hsz:a.tmps.size=58)
 (t0:a.tmps.getD 0 undef= (pZ rb ro))
 (t2:a.tmps.getD 2 undef= .int .i64 (nb c:Int))
 (t3:a.tmps.getD 3 undef= .func (.yield l) #[] #[])
 (t9:a.tmps.getD 9 undef= (pZ g (73*i)))
 (hR:Aax w rb ro g cap L) (hi:i<L.length) (CP:Calls prog 117 #[(pZ rb ro), .int .i64 (dn (gt L i) false:Int), .int .i64 (nb c:Int), .func (.yield l) #[] #[]] w fun e w'=> ∃b,e= .returned (.bool b)∧Fin b w')
 (h:∀(b:Bool) (a':Act) (w':World),Fin b w'→a'=(((((((((a).put (some 23) (pZ rb ro)).put (some 24) (pZ g (73*i))).put (some 25) (pZ g (73*i))).put (some 26) (pZ g (73*i+69))).put (some 27) (pZ g (73*i+69+nb false))).put (some 28) (.int .i64 (dn (gt L i) false:Int))).put (some 29) (.int .i64 (nb c:Int))).put (some 30) (.func (.yield l) #[] #[])).put (some 31) (.bool b)→wpListIn Fence.wide n prog Aab Q [Aas,Acx,Acw,Acv,Acf,Abu,Aaj,Abt,Abs,Abr,Abq,Abp,Abl,Aau,Aa9,Aad,Aa8,Aa7,Aa6,Aa5,Aa4,Aa3,Aa2,Aa1,Aaw,Aav,Abe] a' w') :
 (Code.region 4 Aab false).wpIn Fence.wide n prog Q a w:=by
 refine wpIn_region_list ?_
 change wpListIn _ _ _ _ _ [Amk,Amj,Ami,Amh,Amg,Amf,Ame,Amd,Ah0,Aas,Acx,Acw,Acv,Acf,Abu,Aaj,Abt,Abs,Abr,Abq,Abp,Abl,Aau,Aa9,Aad,Aa8,Aa7,Aa6,Aa5,Aa4,Aa3,Aa2,Aa1,Aaw,Aav,Abe] _ _
 refine qvI (v:= (pZ rb ro)) (by rfl) (xmv rfl t0) (fun a0 e0=> ?_)
 rw [←e0] at h
 have z0:=pz e0 hsz
 replace t2:=pk e0 t2
 replace t3:=pk e0 t3
 replace t9:=pk e0 t9
 clear t0
 have t23:=pq e0 hsz
 clear e0 hsz
 refine qvI (v:= (pZ g (73*i))) (by rfl) (xmv rfl t9) (fun a1 e1=> ?_)
 rw [←e1] at h
 have z1:=pz e1 z0
 replace t2:=pk e1 t2
 replace t3:=pk e1 t3
 replace t23:=pk e1 t23
 clear t9
 have t24:=pq e1 z0
 clear e1 z0
 refine qvI (v:= (pZ g (73*i))) (by rfl) (xnc rfl t24) (fun a2 e2=> ?_)
 rw [←e2] at h
 have z2:=pz e2 z1
 replace t2:=pk e2 t2
 replace t3:=pk e2 t3
 replace t23:=pk e2 t23
 clear t24
 have t25:=pq e2 z1
 clear e2 z1
 refine qvI (v:= (pZ g (73*i+69))) (by rfl) (xfa rfl t25 (Aco _ _ _)) (fun a3 e3=> ?_)
 rw [←e3] at h
 have z3:=pz e3 z2
 replace t2:=pk e3 t2
 replace t3:=pk e3 t3
 replace t23:=pk e3 t23
 clear t25
 have t26:=pq e3 z2
 clear e3 z2
 refine qvI (v:= (pZ g (73*i+69+nb false))) (by rfl) (xia rfl t26 rfl (Apc _ _)) (fun a4 e4=> ?_)
 rw [←e4] at h
 have z4:=pz e4 z3
 replace t2:=pk e4 t2
 replace t3:=pk e4 t3
 replace t23:=pk e4 t23
 clear t26
 have t27:=pq e4 z3
 clear e4 z3
 refine qvI (v:= .int .i64 (dn (gt L i) false:Int)) (by rfl) (xld rfl t27 (Akd hR hi false)) (fun a5 e5=> ?_)
 rw [←e5] at h
 have z5:=pz e5 z4
 replace t2:=pk e5 t2
 replace t3:=pk e5 t3
 replace t23:=pk e5 t23
 clear t27
 have t28:=pq e5 z4
 clear e5 z4
 refine qvI (v:= .int .i64 (nb c:Int)) (by rfl) (xmv rfl t2) (fun a6 e6=> ?_)
 rw [←e6] at h
 have z6:=pz e6 z5
 replace t3:=pk e6 t3
 replace t23:=pk e6 t23
 replace t28:=pk e6 t28
 clear t2
 have t29:=pq e6 z5
 clear e6 z5
 refine qvI (v:= .func (.yield l) #[] #[]) (by rfl) (xmv rfl t3) (fun a7 e7=> ?_)
 rw [←e7] at h
 have z7:=pz e7 z6
 replace t23:=pk e7 t23
 replace t28:=pk e7 t28
 replace t29:=pk e7 t29
 clear t3
 have t30:=pq e7 z6
 clear e7 z6
 refine qcI (by rfl) (by unfold Ah0;go_simp) (CP) (fun e x8 hx=> ?_)
 obtain ⟨b,rfl,HF⟩:=hx
 replace h:=h b
 refine ⟨_,rfl,fun a8 e8=> ?_⟩
 rw [←e8] at h
 have z8:=pz e8 z7
 clear t23 t28 t29 t30
 clear e8 z7
 exact h _ _ (HF) rfl
theorem A44 {n:Nat} (a:Act) (w:World) (Q:Exit→Act→World→Prop) (hsz:a.tmps.size=58)
 (t31:a.tmps.getD 31 undef= .bool false)
 (h:∀(a':Act) (w':World),w'=w→a'=(((((((((((((((((((((((((((a).put (some 32) (.bool false)).put (some 33) (undef)).put (some 34) (undef)).put (some 35) (undef)).put (some 36) (undef)).put (some 37) (undef)).put (some 38) (undef)).put (some 39) (undef)).put (some 40) (undef)).put (some 41) (undef)).put (some 42) (undef)).put (some 43) (undef)).put (some 44) (undef)).put (some 45) (undef)).put (some 46) (.bool false)).put (some 47) (.bool false)).put (some 48) (undef)).put (some 49) (undef)).put (some 50) (undef)).put (some 51) (undef)).put (some 52) (undef)).put (some 53) (undef)).put (some 54) (undef)).put (some 55) (undef)).put (some 56) (undef)).put (some 57) (.bool false)).put (some 8) (.bool false)→Q .normal a' w') :
 wpListIn Fence.wide n prog Aab Q [Aas,Acx,Acw,Acv,Acf,Abu,Aaj,Abt,Abs,Abr,Abq,Abp,Abl,Aau,Aa9,Aad,Aa8,Aa7,Aa6,Aa5,Aa4,Aa3,Aa2,Aa1,Aaw,Aav,Abe] a w:=by
 refine qvI (v:= .bool false) (by rfl) (xmv rfl t31) (fun a9 e9=> ?_)
 rw [←e9] at h
 have z9:=pz e9 hsz
 clear t31
 have t32:=pq e9 hsz
 clear e9 hsz
 refine qnI (by simp [Region.wanted,yielded,Aab,Acx,Aas,Abk z9 (by decide) t32]) (fun a10 e10=> ?_)
 rw [←e10] at h
 have z10:=pz e10 z9
 replace t32:=pk e10 t32
 have t33:=pq e10 z9
 clear e10 z9
 refine qnI (by simp [Region.wanted,yielded,Aab,Acw,Aas,Abk z10 (by decide) t32]) (fun a11 e11=> ?_)
 rw [←e11] at h
 have z11:=pz e11 z10
 replace t32:=pk e11 t32
 replace t33:=pk e11 t33
 have t34:=pq e11 z10
 clear e11 z10
 refine qnI (by simp [Region.wanted,yielded,Aab,Acv,Aas,Abk z11 (by decide) t32]) (fun a12 e12=> ?_)
 rw [←e12] at h
 have z12:=pz e12 z11
 replace t32:=pk e12 t32
 replace t33:=pk e12 t33
 replace t34:=pk e12 t34
 have t35:=pq e12 z11
 clear e12 z11
 refine qnI (by simp [Region.wanted,yielded,Aab,Acf,Aas,Abk z12 (by decide) t32]) (fun a13 e13=> ?_)
 rw [←e13] at h
 have z13:=pz e13 z12
 replace t32:=pk e13 t32
 clear t33 t34 t35
 have t36:=pq e13 z12
 clear e13 z12
 refine qnI (by simp [Region.wanted,yielded,Aab,Abu,Aas,Abk z13 (by decide) t32]) (fun a14 e14=> ?_)
 rw [←e14] at h
 have z14:=pz e14 z13
 replace t32:=pk e14 t32
 clear t36
 have t37:=pq e14 z13
 clear e14 z13
 refine qnI (by simp [Region.wanted,yielded,Aab,Aaj,Aas,Abk z14 (by decide) t32]) (fun a15 e15=> ?_)
 rw [←e15] at h
 have z15:=pz e15 z14
 replace t32:=pk e15 t32
 clear t37
 have t38:=pq e15 z14
 clear e15 z14
 refine qnI (by simp [Region.wanted,yielded,Aab,Abt,Aaj,Abk z15 (by decide) t38,undef]) (fun a16 e16=> ?_)
 rw [←e16] at h
 have z16:=pz e16 z15
 replace t32:=pk e16 t32
 replace t38:=pk e16 t38
 have t39:=pq e16 z15
 clear e16 z15
 refine qnI (by simp [Region.wanted,yielded,Aab,Abs,Aaj,Abk z16 (by decide) t38,undef]) (fun a17 e17=> ?_)
 rw [←e17] at h
 have z17:=pz e17 z16
 replace t32:=pk e17 t32
 replace t38:=pk e17 t38
 replace t39:=pk e17 t39
 have t40:=pq e17 z16
 clear e17 z16
 refine qnI (by simp [Region.wanted,yielded,Aab,Abr,Aaj,Abk z17 (by decide) t38,undef]) (fun a18 e18=> ?_)
 rw [←e18] at h
 have z18:=pz e18 z17
 replace t32:=pk e18 t32
 replace t38:=pk e18 t38
 replace t39:=pk e18 t39
 clear t40
 have t41:=pq e18 z17
 clear e18 z17
 refine qnI (by simp [Region.wanted,yielded,Aab,Abq,Aaj,Abk z18 (by decide) t38,undef]) (fun a19 e19=> ?_)
 rw [←e19] at h
 have z19:=pz e19 z18
 replace t32:=pk e19 t32
 replace t38:=pk e19 t38
 replace t39:=pk e19 t39
 clear t41
 have t42:=pq e19 z18
 clear e19 z18
 refine qnI (by simp [Region.wanted,yielded,Aab,Abp,Aaj,Abk z19 (by decide) t38,undef]) (fun a20 e20=> ?_)
 rw [←e20] at h
 have z20:=pz e20 z19
 replace t32:=pk e20 t32
 replace t38:=pk e20 t38
 replace t39:=pk e20 t39
 clear t42
 have t43:=pq e20 z19
 clear e20 z19
 refine qnI (by simp [Region.wanted,yielded,Aab,Abl,Aaj,Abk z20 (by decide) t38,undef]) (fun a21 e21=> ?_)
 rw [←e21] at h
 have z21:=pz e21 z20
 replace t32:=pk e21 t32
 replace t38:=pk e21 t38
 clear t39 t43
 have t44:=pq e21 z20
 clear e21 z20
 refine qnI (by simp [Region.wanted,yielded,Aab,Aau,Aas,Abk z21 (by decide) t32]) (fun a22 e22=> ?_)
 rw [←e22] at h
 have z22:=pz e22 z21
 replace t32:=pk e22 t32
 clear t38 t44
 have t45:=pq e22 z21
 clear e22 z21
 refine qvI (v:= .bool false) (by rfl) (by unfold Aa9;go_simp) (fun a23 e23=> ?_)
 rw [←e23] at h
 have z23:=pz e23 z22
 clear t32 t45
 have t46:=pq e23 z22
 clear e23 z22
 refine qvI (v:= .bool false) (by rfl) (xmv rfl t46) (fun a24 e24=> ?_)
 rw [←e24] at h
 have z24:=pz e24 z23
 clear t46
 have t47:=pq e24 z23
 clear e24 z23
 refine qnI (by simp [Region.wanted,yielded,Aab,Aa8,Aad,Abk z24 (by decide) t47]) (fun a25 e25=> ?_)
 rw [←e25] at h
 have z25:=pz e25 z24
 replace t47:=pk e25 t47
 have t48:=pq e25 z24
 clear e25 z24
 refine qnI (by simp [Region.wanted,yielded,Aab,Aa7,Aad,Abk z25 (by decide) t47]) (fun a26 e26=> ?_)
 rw [←e26] at h
 have z26:=pz e26 z25
 replace t47:=pk e26 t47
 replace t48:=pk e26 t48
 have t49:=pq e26 z25
 clear e26 z25
 refine qnI (by simp [Region.wanted,yielded,Aab,Aa6,Aad,Abk z26 (by decide) t47]) (fun a27 e27=> ?_)
 rw [←e27] at h
 have z27:=pz e27 z26
 replace t47:=pk e27 t47
 replace t48:=pk e27 t48
 clear t49
 have t50:=pq e27 z26
 clear e27 z26
 refine qnI (by simp [Region.wanted,yielded,Aab,Aa5,Aad,Abk z27 (by decide) t47]) (fun a28 e28=> ?_)
 rw [←e28] at h
 have z28:=pz e28 z27
 replace t47:=pk e28 t47
 replace t48:=pk e28 t48
 clear t50
 have t51:=pq e28 z27
 clear e28 z27
 refine qnI (by simp [Region.wanted,yielded,Aab,Aa4,Aad,Abk z28 (by decide) t47]) (fun a29 e29=> ?_)
 rw [←e29] at h
 have z29:=pz e29 z28
 replace t47:=pk e29 t47
 replace t48:=pk e29 t48
 clear t51
 have t52:=pq e29 z28
 clear e29 z28
 refine qnI (by simp [Region.wanted,yielded,Aab,Aa3,Aad,Abk z29 (by decide) t47]) (fun a30 e30=> ?_)
 rw [←e30] at h
 have z30:=pz e30 z29
 replace t47:=pk e30 t47
 replace t48:=pk e30 t48
 clear t52
 have t53:=pq e30 z29
 clear e30 z29
 refine qnI (by simp [Region.wanted,yielded,Aab,Aa2,Aad,Abk z30 (by decide) t47]) (fun a31 e31=> ?_)
 rw [←e31] at h
 have z31:=pz e31 z30
 replace t47:=pk e31 t47
 replace t48:=pk e31 t48
 replace t53:=pk e31 t53
 have t54:=pq e31 z30
 clear e31 z30
 refine qnI (by simp [Region.wanted,yielded,Aab,Aa1,Aad,Abk z31 (by decide) t47]) (fun a32 e32=> ?_)
 rw [←e32] at h
 have z32:=pz e32 z31
 replace t47:=pk e32 t47
 replace t48:=pk e32 t48
 replace t53:=pk e32 t53
 replace t54:=pk e32 t54
 have t55:=pq e32 z31
 clear e32 z31
 refine qnI (by simp [Region.wanted,yielded,Aab,Aaw,Aad,Abk z32 (by decide) t47]) (fun a33 e33=> ?_)
 rw [←e33] at h
 have z33:=pz e33 z32
 replace t47:=pk e33 t47
 clear t48 t53 t54 t55
 have t56:=pq e33 z32
 clear e33 z32
 refine qvI (v:= .bool false) (by rfl) (by unfold Aav;go_simp) (fun a34 e34=> ?_)
 rw [←e34] at h
 have z34:=pz e34 z33
 clear t47 t56
 have t57:=pq e34 z33
 clear e34 z33
 refine qvI (v:= .bool false) (by rfl) (xas rfl t57) (fun a35 e35=> ?_)
 rw [←e35] at h
 have z35:=pz e35 z34
 clear t57
 clear e35 z34
 exact wpListIn_nil (h _ _ (rfl) rfl)
theorem A46 {rb ro i x n:Nat} {c:Bool} (Fin:World→Prop) (a:Act) (w:World) (Q:Exit→Act→World→Prop) (hsz:a.tmps.size=58)
 (t0:a.tmps.getD 0 undef= (pZ rb ro))
 (t1:a.tmps.getD 1 undef= .int .i64 (i:Int))
 (t2:a.tmps.getD 2 undef= .int .i64 (nb c:Int))
 (t31:a.tmps.getD 31 undef= .bool true)
 (CO:Calls prog 149 #[(pZ rb ro), .int .i64 (i:Int), .int .i64 (nb c:Int)] w fun e w'=>e= .returned (.int .i64 (x:Int))∧Fin w')
 (h:∀(a':Act) (w':World),Fin w'→a'=(((((a).put (some 32) (.bool true)).put (some 33) (pZ rb ro)).put (some 34) (.int .i64 (i:Int))).put (some 35) (.int .i64 (nb c:Int))).put (some 36) (.int .i64 (x:Int))→wpListIn Fence.wide n prog Aab Q [Abu,Aaj,Abt,Abs,Abr,Abq,Abp,Abl,Aau,Aa9,Aad,Aa8,Aa7,Aa6,Aa5,Aa4,Aa3,Aa2,Aa1,Aaw,Aav,Abe] a' w') :
 wpListIn Fence.wide n prog Aab Q [Aas,Acx,Acw,Acv,Acf,Abu,Aaj,Abt,Abs,Abr,Abq,Abp,Abl,Aau,Aa9,Aad,Aa8,Aa7,Aa6,Aa5,Aa4,Aa3,Aa2,Aa1,Aaw,Aav,Abe] a w:=by
 refine qvI (v:= .bool true) (by rfl) (xmv rfl t31) (fun a9 e9=> ?_)
 rw [←e9] at h
 have z9:=pz e9 hsz
 replace t0:=pk e9 t0
 replace t1:=pk e9 t1
 replace t2:=pk e9 t2
 clear t31
 have t32:=pq e9 hsz
 clear e9 hsz
 refine qvI (v:= (pZ rb ro)) (by simp [Region.wanted,yielded,Aab,Acx,Aas,Abk z9 (by decide) t32]) (xmv rfl t0) (fun a10 e10=> ?_)
 rw [←e10] at h
 have z10:=pz e10 z9
 replace t1:=pk e10 t1
 replace t2:=pk e10 t2
 replace t32:=pk e10 t32
 clear t0
 have t33:=pq e10 z9
 clear e10 z9
 refine qvI (v:= .int .i64 (i:Int)) (by simp [Region.wanted,yielded,Aab,Acw,Aas,Abk z10 (by decide) t32]) (xmv rfl t1) (fun a11 e11=> ?_)
 rw [←e11] at h
 have z11:=pz e11 z10
 replace t2:=pk e11 t2
 replace t32:=pk e11 t32
 replace t33:=pk e11 t33
 clear t1
 have t34:=pq e11 z10
 clear e11 z10
 refine qvI (v:= .int .i64 (nb c:Int)) (by simp [Region.wanted,yielded,Aab,Acv,Aas,Abk z11 (by decide) t32]) (xmv rfl t2) (fun a12 e12=> ?_)
 rw [←e12] at h
 have z12:=pz e12 z11
 replace t32:=pk e12 t32
 replace t33:=pk e12 t33
 replace t34:=pk e12 t34
 clear t2
 have t35:=pq e12 z11
 clear e12 z11
 refine qcI (by simp [Region.wanted,yielded,Aab,Acf,Aas,Abk z12 (by decide) t32]) (by unfold Acf;go_simp) (CO) (fun e x13 hx=> ?_)
 obtain ⟨rfl,HF⟩:=hx
 refine ⟨_,rfl,fun a13 e13=> ?_⟩
 rw [←e13] at h
 have z13:=pz e13 z12
 clear t32 t33 t34 t35
 clear e13 z12
 exact h _ _ (HF) rfl
theorem A43 {rb ro g cap:Nat} {L:List Sp} {i l x n:Nat} {c:Bool} (Fin:Bool→World→Prop) (a:Act) (w:World) (Q:Exit→Act→World→Prop) (hsz:a.tmps.size=58)
 (t0:a.tmps.getD 0 undef= (pZ rb ro))
 (t2:a.tmps.getD 2 undef= .int .i64 (nb c:Int))
 (t3:a.tmps.getD 3 undef= .func (.yield l) #[] #[])
 (t9:a.tmps.getD 9 undef= (pZ g (73*i)))
 (t32:a.tmps.getD 32 undef= .bool true)
 (t36:a.tmps.getD 36 undef= .int .i64 (x:Int))
 (hx:decide ((x:Int)=0)=true) (hR:Aax w rb ro g cap L) (hi:i<L.length) (CP:Calls prog 117 #[(pZ rb ro), .int .i64 (dn (gt L i) true:Int), .int .i64 (nb c:Int), .func (.yield l) #[] #[]] w fun e w'=> ∃b,e= .returned (.bool b)∧Fin b w')
 (h:∀(b:Bool) (a':Act) (w':World),Fin b w'→a'=((((((((((((((((((((a).put (some 37) (.bool true)).put (some 38) (.bool true)).put (some 39) (undef)).put (some 40) (undef)).put (some 41) (undef)).put (some 42) (undef)).put (some 43) (undef)).put (some 44) (undef)).put (some 45) (.bool true)).put (some 46) (.bool true)).put (some 47) (.bool true)).put (some 48) (pZ rb ro)).put (some 49) (pZ g (73*i))).put (some 50) (pZ g (73*i))).put (some 51) (pZ g (73*i+69))).put (some 52) (pZ g (73*i+69+nb true))).put (some 53) (.int .i64 (dn (gt L i) true:Int))).put (some 54) (.int .i64 (nb c:Int))).put (some 55) (.func (.yield l) #[] #[])).put (some 56) (.bool b)→wpListIn Fence.wide n prog Aab Q [Aav,Abe] a' w') :
 wpListIn Fence.wide n prog Aab Q [Abu,Aaj,Abt,Abs,Abr,Abq,Abp,Abl,Aau,Aa9,Aad,Aa8,Aa7,Aa6,Aa5,Aa4,Aa3,Aa2,Aa1,Aaw,Aav,Abe] a w:=by
 refine qvI (v:= .bool true) (by simp [Region.wanted,yielded,Aab,Abu,Aas,Abk hsz (by decide) t32]) (Agt rfl t36 rfl hx) (fun a14 e14=> ?_)
 rw [←e14] at h
 have z14:=pz e14 hsz
 replace t0:=pk e14 t0
 replace t2:=pk e14 t2
 replace t3:=pk e14 t3
 replace t9:=pk e14 t9
 replace t32:=pk e14 t32
 clear t36
 have t37:=pq e14 hsz
 clear e14 hsz
 refine qvI (v:= .bool true) (by simp [Region.wanted,yielded,Aab,Aaj,Aas,Abk z14 (by decide) t32]) (xmv rfl t37) (fun a15 e15=> ?_)
 rw [←e15] at h
 have z15:=pz e15 z14
 replace t0:=pk e15 t0
 replace t2:=pk e15 t2
 replace t3:=pk e15 t3
 replace t9:=pk e15 t9
 replace t32:=pk e15 t32
 clear t37
 have t38:=pq e15 z14
 clear e15 z14
 refine qnI (by simp [Region.wanted,yielded,Aab,Abt,Aaj,Abk z15 (by decide) t38]) (fun a16 e16=> ?_)
 rw [←e16] at h
 have z16:=pz e16 z15
 replace t0:=pk e16 t0
 replace t2:=pk e16 t2
 replace t3:=pk e16 t3
 replace t9:=pk e16 t9
 replace t32:=pk e16 t32
 replace t38:=pk e16 t38
 have t39:=pq e16 z15
 clear e16 z15
 refine qnI (by simp [Region.wanted,yielded,Aab,Abs,Aaj,Abk z16 (by decide) t38]) (fun a17 e17=> ?_)
 rw [←e17] at h
 have z17:=pz e17 z16
 replace t0:=pk e17 t0
 replace t2:=pk e17 t2
 replace t3:=pk e17 t3
 replace t9:=pk e17 t9
 replace t32:=pk e17 t32
 replace t38:=pk e17 t38
 replace t39:=pk e17 t39
 have t40:=pq e17 z16
 clear e17 z16
 refine qnI (by simp [Region.wanted,yielded,Aab,Abr,Aaj,Abk z17 (by decide) t38]) (fun a18 e18=> ?_)
 rw [←e18] at h
 have z18:=pz e18 z17
 replace t0:=pk e18 t0
 replace t2:=pk e18 t2
 replace t3:=pk e18 t3
 replace t9:=pk e18 t9
 replace t32:=pk e18 t32
 replace t38:=pk e18 t38
 replace t39:=pk e18 t39
 clear t40
 have t41:=pq e18 z17
 clear e18 z17
 refine qnI (by simp [Region.wanted,yielded,Aab,Abq,Aaj,Abk z18 (by decide) t38]) (fun a19 e19=> ?_)
 rw [←e19] at h
 have z19:=pz e19 z18
 replace t0:=pk e19 t0
 replace t2:=pk e19 t2
 replace t3:=pk e19 t3
 replace t9:=pk e19 t9
 replace t32:=pk e19 t32
 replace t38:=pk e19 t38
 replace t39:=pk e19 t39
 clear t41
 have t42:=pq e19 z18
 clear e19 z18
 refine qnI (by simp [Region.wanted,yielded,Aab,Abp,Aaj,Abk z19 (by decide) t38]) (fun a20 e20=> ?_)
 rw [←e20] at h
 have z20:=pz e20 z19
 replace t0:=pk e20 t0
 replace t2:=pk e20 t2
 replace t3:=pk e20 t3
 replace t9:=pk e20 t9
 replace t32:=pk e20 t32
 replace t38:=pk e20 t38
 replace t39:=pk e20 t39
 clear t42
 have t43:=pq e20 z19
 clear e20 z19
 refine qnI (by simp [Region.wanted,yielded,Aab,Abl,Aaj,Abk z20 (by decide) t38]) (fun a21 e21=> ?_)
 rw [←e21] at h
 have z21:=pz e21 z20
 replace t0:=pk e21 t0
 replace t2:=pk e21 t2
 replace t3:=pk e21 t3
 replace t9:=pk e21 t9
 replace t32:=pk e21 t32
 replace t38:=pk e21 t38
 clear t39 t43
 have t44:=pq e21 z20
 clear e21 z20
 refine qvI (v:= .bool true) (by simp [Region.wanted,yielded,Aab,Aau,Aas,Abk z21 (by decide) t32]) (by unfold Aau;go_simp) (fun a22 e22=> ?_)
 rw [←e22] at h
 have z22:=pz e22 z21
 replace t0:=pk e22 t0
 replace t2:=pk e22 t2
 replace t3:=pk e22 t3
 replace t9:=pk e22 t9
 replace t32:=pk e22 t32
 clear t38 t44
 have t45:=pq e22 z21
 clear e22 z21
 refine qvI (v:= .bool true) (by rfl) (by unfold Aa9;go_simp) (fun a23 e23=> ?_)
 rw [←e23] at h
 have z23:=pz e23 z22
 replace t0:=pk e23 t0
 replace t2:=pk e23 t2
 replace t3:=pk e23 t3
 replace t9:=pk e23 t9
 clear t32 t45
 have t46:=pq e23 z22
 clear e23 z22
 refine qvI (v:= .bool true) (by rfl) (xmv rfl t46) (fun a24 e24=> ?_)
 rw [←e24] at h
 have z24:=pz e24 z23
 replace t0:=pk e24 t0
 replace t2:=pk e24 t2
 replace t3:=pk e24 t3
 replace t9:=pk e24 t9
 clear t46
 have t47:=pq e24 z23
 clear e24 z23
 refine qvI (v:= (pZ rb ro)) (by simp [Region.wanted,yielded,Aab,Aa8,Aad,Abk z24 (by decide) t47]) (xmv rfl t0) (fun a25 e25=> ?_)
 rw [←e25] at h
 have z25:=pz e25 z24
 replace t2:=pk e25 t2
 replace t3:=pk e25 t3
 replace t9:=pk e25 t9
 replace t47:=pk e25 t47
 clear t0
 have t48:=pq e25 z24
 clear e25 z24
 refine qvI (v:= (pZ g (73*i))) (by simp [Region.wanted,yielded,Aab,Aa7,Aad,Abk z25 (by decide) t47]) (xmv rfl t9) (fun a26 e26=> ?_)
 rw [←e26] at h
 have z26:=pz e26 z25
 replace t2:=pk e26 t2
 replace t3:=pk e26 t3
 replace t47:=pk e26 t47
 replace t48:=pk e26 t48
 clear t9
 have t49:=pq e26 z25
 clear e26 z25
 refine qvI (v:= (pZ g (73*i))) (by simp [Region.wanted,yielded,Aab,Aa6,Aad,Abk z26 (by decide) t47]) (xnc rfl t49) (fun a27 e27=> ?_)
 rw [←e27] at h
 have z27:=pz e27 z26
 replace t2:=pk e27 t2
 replace t3:=pk e27 t3
 replace t47:=pk e27 t47
 replace t48:=pk e27 t48
 clear t49
 have t50:=pq e27 z26
 clear e27 z26
 refine qvI (v:= (pZ g (73*i+69))) (by simp [Region.wanted,yielded,Aab,Aa5,Aad,Abk z27 (by decide) t47]) (xfa rfl t50 (Aco _ _ _)) (fun a28 e28=> ?_)
 rw [←e28] at h
 have z28:=pz e28 z27
 replace t2:=pk e28 t2
 replace t3:=pk e28 t3
 replace t47:=pk e28 t47
 replace t48:=pk e28 t48
 clear t50
 have t51:=pq e28 z27
 clear e28 z27
 refine qvI (v:= (pZ g (73*i+69+nb true))) (by simp [Region.wanted,yielded,Aab,Aa4,Aad,Abk z28 (by decide) t47]) (xia rfl t51 rfl (Apb _ _)) (fun a29 e29=> ?_)
 rw [←e29] at h
 have z29:=pz e29 z28
 replace t2:=pk e29 t2
 replace t3:=pk e29 t3
 replace t47:=pk e29 t47
 replace t48:=pk e29 t48
 clear t51
 have t52:=pq e29 z28
 clear e29 z28
 refine qvI (v:= .int .i64 (dn (gt L i) true:Int)) (by simp [Region.wanted,yielded,Aab,Aa3,Aad,Abk z29 (by decide) t47]) (xld rfl t52 (Akd hR hi true)) (fun a30 e30=> ?_)
 rw [←e30] at h
 have z30:=pz e30 z29
 replace t2:=pk e30 t2
 replace t3:=pk e30 t3
 replace t47:=pk e30 t47
 replace t48:=pk e30 t48
 clear t52
 have t53:=pq e30 z29
 clear e30 z29
 refine qvI (v:= .int .i64 (nb c:Int)) (by simp [Region.wanted,yielded,Aab,Aa2,Aad,Abk z30 (by decide) t47]) (xmv rfl t2) (fun a31 e31=> ?_)
 rw [←e31] at h
 have z31:=pz e31 z30
 replace t3:=pk e31 t3
 replace t47:=pk e31 t47
 replace t48:=pk e31 t48
 replace t53:=pk e31 t53
 clear t2
 have t54:=pq e31 z30
 clear e31 z30
 refine qvI (v:= .func (.yield l) #[] #[]) (by simp [Region.wanted,yielded,Aab,Aa1,Aad,Abk z31 (by decide) t47]) (xmv rfl t3) (fun a32 e32=> ?_)
 rw [←e32] at h
 have z32:=pz e32 z31
 replace t47:=pk e32 t47
 replace t48:=pk e32 t48
 replace t53:=pk e32 t53
 replace t54:=pk e32 t54
 clear t3
 have t55:=pq e32 z31
 clear e32 z31
 refine qcI (by simp [Region.wanted,yielded,Aab,Aaw,Aad,Abk z32 (by decide) t47]) (by unfold Aaw;go_simp) (CP) (fun e x33 hx=> ?_)
 obtain ⟨b,rfl,HF⟩:=hx
 replace h:=h b
 refine ⟨_,rfl,fun a33 e33=> ?_⟩
 rw [←e33] at h
 have z33:=pz e33 z32
 clear t47 t48 t53 t54 t55
 clear e33 z32
 exact h _ _ (HF) rfl
theorem A41 {rb ro g cap:Nat} {L:List Sp} {i l x n:Nat} (Fin:Bool→World→Prop) (a:Act) (w:World) (Q:Exit→Act→World→Prop) (hsz:a.tmps.size=58)
 (t3:a.tmps.getD 3 undef= .func (.yield l) #[] #[])
 (t9:a.tmps.getD 9 undef= (pZ g (73*i)))
 (t32:a.tmps.getD 32 undef= .bool true)
 (t36:a.tmps.getD 36 undef= .int .i64 (x:Int))
 (hx:decide ((x:Int)=0)=false) (hR:Aax w rb ro g cap L) (hi:i<L.length) (CY:YieldAt Fence.wide (n-1) prog l #[KpV.v (gt L i).kp] w fun e w'=> ∃b,e= .returned (.bool b)∧Fin b w')
 (h:∀(b:Bool) (a':Act) (w':World),Fin b w'→a'=((((((((a).put (some 37) (.bool false)).put (some 38) (.bool false)).put (some 39) (.func (.yield l) #[] #[])).put (some 40) (pZ g (73*i))).put (some 41) (pZ g (73*i))).put (some 42) (pZ g (73*i+0))).put (some 43) (KpV.v (gt L i).kp)).put (some 44) (.bool b)→wpListIn Fence.wide n prog Aab Q [Aau,Aa9,Aad,Aa8,Aa7,Aa6,Aa5,Aa4,Aa3,Aa2,Aa1,Aaw,Aav,Abe] a' w') :
 wpListIn Fence.wide n prog Aab Q [Abu,Aaj,Abt,Abs,Abr,Abq,Abp,Abl,Aau,Aa9,Aad,Aa8,Aa7,Aa6,Aa5,Aa4,Aa3,Aa2,Aa1,Aaw,Aav,Abe] a w:=by
 refine qvI (v:= .bool false) (by simp [Region.wanted,yielded,Aab,Abu,Aas,Abk hsz (by decide) t32]) (Agt rfl t36 rfl hx) (fun a14 e14=> ?_)
 rw [←e14] at h
 have z14:=pz e14 hsz
 replace t3:=pk e14 t3
 replace t9:=pk e14 t9
 replace t32:=pk e14 t32
 clear t36
 have t37:=pq e14 hsz
 clear e14 hsz
 refine qvI (v:= .bool false) (by simp [Region.wanted,yielded,Aab,Aaj,Aas,Abk z14 (by decide) t32]) (xmv rfl t37) (fun a15 e15=> ?_)
 rw [←e15] at h
 have z15:=pz e15 z14
 replace t3:=pk e15 t3
 replace t9:=pk e15 t9
 clear t32 t37
 have t38:=pq e15 z14
 clear e15 z14
 refine qvI (v:= .func (.yield l) #[] #[]) (by simp [Region.wanted,yielded,Aab,Abt,Aaj,Abk z15 (by decide) t38]) (xmv rfl t3) (fun a16 e16=> ?_)
 rw [←e16] at h
 have z16:=pz e16 z15
 replace t9:=pk e16 t9
 replace t38:=pk e16 t38
 clear t3
 have t39:=pq e16 z15
 clear e16 z15
 refine qvI (v:= (pZ g (73*i))) (by simp [Region.wanted,yielded,Aab,Abs,Aaj,Abk z16 (by decide) t38]) (xmv rfl t9) (fun a17 e17=> ?_)
 rw [←e17] at h
 have z17:=pz e17 z16
 replace t38:=pk e17 t38
 replace t39:=pk e17 t39
 clear t9
 have t40:=pq e17 z16
 clear e17 z16
 refine qvI (v:= (pZ g (73*i))) (by simp [Region.wanted,yielded,Aab,Abr,Aaj,Abk z17 (by decide) t38]) (xnc rfl t40) (fun a18 e18=> ?_)
 rw [←e18] at h
 have z18:=pz e18 z17
 replace t38:=pk e18 t38
 replace t39:=pk e18 t39
 clear t40
 have t41:=pq e18 z17
 clear e18 z17
 refine qvI (v:= (pZ g (73*i+0))) (by simp [Region.wanted,yielded,Aab,Abq,Aaj,Abk z18 (by decide) t38]) (xfa rfl t41 (Aza _ _ _)) (fun a19 e19=> ?_)
 rw [←e19] at h
 have z19:=pz e19 z18
 replace t38:=pk e19 t38
 replace t39:=pk e19 t39
 clear t41
 have t42:=pq e19 z18
 clear e19 z18
 refine qvI (v:=KpV.v (gt L i).kp) (by simp [Region.wanted,yielded,Aab,Abp,Aaj,Abk z19 (by decide) t38]) (xld rfl t42 (Bag hR hi)) (fun a20 e20=> ?_)
 rw [←e20] at h
 have z20:=pz e20 z19
 replace t38:=pk e20 t38
 replace t39:=pk e20 t39
 clear t42
 have t43:=pq e20 z19
 clear e20 z19
 refine qyI (by simp [Region.wanted,yielded,Aab,Abl,Aaj,Abk z20 (by decide) t38]) (by unfold Abl;go_simp) (CY) (fun e x21 hx=> ?_)
 obtain ⟨b,rfl,HF⟩:=hx
 replace h:=h b
 refine ⟨_,rfl,fun a21 e21=> ?_⟩
 rw [←e21] at h
 have z21:=pz e21 z20
 clear t38 t39 t43
 clear e21 z20
 exact h _ _ (HF) rfl
theorem A42 {rb ro g cap:Nat} {L:List Sp} {i l n:Nat} {c:Bool} (Fin:Bool→World→Prop) (a:Act) (w:World) (Q:Exit→Act→World→Prop) (hsz:a.tmps.size=58)
 (t0:a.tmps.getD 0 undef= (pZ rb ro))
 (t2:a.tmps.getD 2 undef= .int .i64 (nb c:Int))
 (t3:a.tmps.getD 3 undef= .func (.yield l) #[] #[])
 (t9:a.tmps.getD 9 undef= (pZ g (73*i)))
 (t32:a.tmps.getD 32 undef= .bool true)
 (t38:a.tmps.getD 38 undef= .bool false)
 (t44:a.tmps.getD 44 undef= .bool true)
 (hR:Aax w rb ro g cap L) (hi:i<L.length) (CP:Calls prog 117 #[(pZ rb ro), .int .i64 (dn (gt L i) true:Int), .int .i64 (nb c:Int), .func (.yield l) #[] #[]] w fun e w'=> ∃b,e= .returned (.bool b)∧Fin b w')
 (h:∀(b:Bool) (a':Act) (w':World),Fin b w'→a'=((((((((((((a).put (some 45) (.bool true)).put (some 46) (.bool true)).put (some 47) (.bool true)).put (some 48) (pZ rb ro)).put (some 49) (pZ g (73*i))).put (some 50) (pZ g (73*i))).put (some 51) (pZ g (73*i+69))).put (some 52) (pZ g (73*i+69+nb true))).put (some 53) (.int .i64 (dn (gt L i) true:Int))).put (some 54) (.int .i64 (nb c:Int))).put (some 55) (.func (.yield l) #[] #[])).put (some 56) (.bool b)→wpListIn Fence.wide n prog Aab Q [Aav,Abe] a' w') :
 wpListIn Fence.wide n prog Aab Q [Aau,Aa9,Aad,Aa8,Aa7,Aa6,Aa5,Aa4,Aa3,Aa2,Aa1,Aaw,Aav,Abe] a w:=by
 refine qvI (v:= .bool true) (by simp [Region.wanted,yielded,Aab,Aau,Aas,Abk hsz (by decide) t32]) (by unfold Aau;go_simp) (fun a22 e22=> ?_)
 rw [←e22] at h
 have z22:=pz e22 hsz
 replace t0:=pk e22 t0
 replace t2:=pk e22 t2
 replace t3:=pk e22 t3
 replace t9:=pk e22 t9
 replace t32:=pk e22 t32
 clear t38 t44
 have t45:=pq e22 hsz
 clear e22 hsz
 refine qvI (v:= .bool true) (by rfl) (by unfold Aa9;go_simp) (fun a23 e23=> ?_)
 rw [←e23] at h
 have z23:=pz e23 z22
 replace t0:=pk e23 t0
 replace t2:=pk e23 t2
 replace t3:=pk e23 t3
 replace t9:=pk e23 t9
 clear t32 t45
 have t46:=pq e23 z22
 clear e23 z22
 refine qvI (v:= .bool true) (by rfl) (xmv rfl t46) (fun a24 e24=> ?_)
 rw [←e24] at h
 have z24:=pz e24 z23
 replace t0:=pk e24 t0
 replace t2:=pk e24 t2
 replace t3:=pk e24 t3
 replace t9:=pk e24 t9
 clear t46
 have t47:=pq e24 z23
 clear e24 z23
 refine qvI (v:= (pZ rb ro)) (by simp [Region.wanted,yielded,Aab,Aa8,Aad,Abk z24 (by decide) t47]) (xmv rfl t0) (fun a25 e25=> ?_)
 rw [←e25] at h
 have z25:=pz e25 z24
 replace t2:=pk e25 t2
 replace t3:=pk e25 t3
 replace t9:=pk e25 t9
 replace t47:=pk e25 t47
 clear t0
 have t48:=pq e25 z24
 clear e25 z24
 refine qvI (v:= (pZ g (73*i))) (by simp [Region.wanted,yielded,Aab,Aa7,Aad,Abk z25 (by decide) t47]) (xmv rfl t9) (fun a26 e26=> ?_)
 rw [←e26] at h
 have z26:=pz e26 z25
 replace t2:=pk e26 t2
 replace t3:=pk e26 t3
 replace t47:=pk e26 t47
 replace t48:=pk e26 t48
 clear t9
 have t49:=pq e26 z25
 clear e26 z25
 refine qvI (v:= (pZ g (73*i))) (by simp [Region.wanted,yielded,Aab,Aa6,Aad,Abk z26 (by decide) t47]) (xnc rfl t49) (fun a27 e27=> ?_)
 rw [←e27] at h
 have z27:=pz e27 z26
 replace t2:=pk e27 t2
 replace t3:=pk e27 t3
 replace t47:=pk e27 t47
 replace t48:=pk e27 t48
 clear t49
 have t50:=pq e27 z26
 clear e27 z26
 refine qvI (v:= (pZ g (73*i+69))) (by simp [Region.wanted,yielded,Aab,Aa5,Aad,Abk z27 (by decide) t47]) (xfa rfl t50 (Aco _ _ _)) (fun a28 e28=> ?_)
 rw [←e28] at h
 have z28:=pz e28 z27
 replace t2:=pk e28 t2
 replace t3:=pk e28 t3
 replace t47:=pk e28 t47
 replace t48:=pk e28 t48
 clear t50
 have t51:=pq e28 z27
 clear e28 z27
 refine qvI (v:= (pZ g (73*i+69+nb true))) (by simp [Region.wanted,yielded,Aab,Aa4,Aad,Abk z28 (by decide) t47]) (xia rfl t51 rfl (Apb _ _)) (fun a29 e29=> ?_)
 rw [←e29] at h
 have z29:=pz e29 z28
 replace t2:=pk e29 t2
 replace t3:=pk e29 t3
 replace t47:=pk e29 t47
 replace t48:=pk e29 t48
 clear t51
 have t52:=pq e29 z28
 clear e29 z28
 refine qvI (v:= .int .i64 (dn (gt L i) true:Int)) (by simp [Region.wanted,yielded,Aab,Aa3,Aad,Abk z29 (by decide) t47]) (xld rfl t52 (Akd hR hi true)) (fun a30 e30=> ?_)
 rw [←e30] at h
 have z30:=pz e30 z29
 replace t2:=pk e30 t2
 replace t3:=pk e30 t3
 replace t47:=pk e30 t47
 replace t48:=pk e30 t48
 clear t52
 have t53:=pq e30 z29
 clear e30 z29
 refine qvI (v:= .int .i64 (nb c:Int)) (by simp [Region.wanted,yielded,Aab,Aa2,Aad,Abk z30 (by decide) t47]) (xmv rfl t2) (fun a31 e31=> ?_)
 rw [←e31] at h
 have z31:=pz e31 z30
 replace t3:=pk e31 t3
 replace t47:=pk e31 t47
 replace t48:=pk e31 t48
 replace t53:=pk e31 t53
 clear t2
 have t54:=pq e31 z30
 clear e31 z30
 refine qvI (v:= .func (.yield l) #[] #[]) (by simp [Region.wanted,yielded,Aab,Aa1,Aad,Abk z31 (by decide) t47]) (xmv rfl t3) (fun a32 e32=> ?_)
 rw [←e32] at h
 have z32:=pz e32 z31
 replace t47:=pk e32 t47
 replace t48:=pk e32 t48
 replace t53:=pk e32 t53
 replace t54:=pk e32 t54
 clear t3
 have t55:=pq e32 z31
 clear e32 z31
 refine qcI (by simp [Region.wanted,yielded,Aab,Aaw,Aad,Abk z32 (by decide) t47]) (by unfold Aaw;go_simp) (CP) (fun e x33 hx=> ?_)
 obtain ⟨b,rfl,HF⟩:=hx
 replace h:=h b
 refine ⟨_,rfl,fun a33 e33=> ?_⟩
 rw [←e33] at h
 have z33:=pz e33 z32
 clear t47 t48 t53 t54 t55
 clear e33 z32
 exact h _ _ (HF) rfl
theorem A45 {n:Nat} (a:Act) (w:World) (Q:Exit→Act→World→Prop) (hsz:a.tmps.size=58)
 (t32:a.tmps.getD 32 undef= .bool true)
 (t38:a.tmps.getD 38 undef= .bool false)
 (t44:a.tmps.getD 44 undef= .bool false)
 (h:∀(a':Act) (w':World),w'=w→a'=((((((((((((((a).put (some 45) (.bool false)).put (some 46) (.bool false)).put (some 47) (.bool false)).put (some 48) (undef)).put (some 49) (undef)).put (some 50) (undef)).put (some 51) (undef)).put (some 52) (undef)).put (some 53) (undef)).put (some 54) (undef)).put (some 55) (undef)).put (some 56) (undef)).put (some 57) (.bool false)).put (some 8) (.bool false)→Q .normal a' w') :
 wpListIn Fence.wide n prog Aab Q [Aau,Aa9,Aad,Aa8,Aa7,Aa6,Aa5,Aa4,Aa3,Aa2,Aa1,Aaw,Aav,Abe] a w:=by
 refine qvI (v:= .bool false) (by simp [Region.wanted,yielded,Aab,Aau,Aas,Abk hsz (by decide) t32]) (by unfold Aau;go_simp) (fun a22 e22=> ?_)
 rw [←e22] at h
 have z22:=pz e22 hsz
 replace t32:=pk e22 t32
 clear t38 t44
 have t45:=pq e22 hsz
 clear e22 hsz
 refine qvI (v:= .bool false) (by rfl) (by unfold Aa9;go_simp) (fun a23 e23=> ?_)
 rw [←e23] at h
 have z23:=pz e23 z22
 clear t32 t45
 have t46:=pq e23 z22
 clear e23 z22
 refine qvI (v:= .bool false) (by rfl) (xmv rfl t46) (fun a24 e24=> ?_)
 rw [←e24] at h
 have z24:=pz e24 z23
 clear t46
 have t47:=pq e24 z23
 clear e24 z23
 refine qnI (by simp [Region.wanted,yielded,Aab,Aa8,Aad,Abk z24 (by decide) t47]) (fun a25 e25=> ?_)
 rw [←e25] at h
 have z25:=pz e25 z24
 replace t47:=pk e25 t47
 have t48:=pq e25 z24
 clear e25 z24
 refine qnI (by simp [Region.wanted,yielded,Aab,Aa7,Aad,Abk z25 (by decide) t47]) (fun a26 e26=> ?_)
 rw [←e26] at h
 have z26:=pz e26 z25
 replace t47:=pk e26 t47
 replace t48:=pk e26 t48
 have t49:=pq e26 z25
 clear e26 z25
 refine qnI (by simp [Region.wanted,yielded,Aab,Aa6,Aad,Abk z26 (by decide) t47]) (fun a27 e27=> ?_)
 rw [←e27] at h
 have z27:=pz e27 z26
 replace t47:=pk e27 t47
 replace t48:=pk e27 t48
 clear t49
 have t50:=pq e27 z26
 clear e27 z26
 refine qnI (by simp [Region.wanted,yielded,Aab,Aa5,Aad,Abk z27 (by decide) t47]) (fun a28 e28=> ?_)
 rw [←e28] at h
 have z28:=pz e28 z27
 replace t47:=pk e28 t47
 replace t48:=pk e28 t48
 clear t50
 have t51:=pq e28 z27
 clear e28 z27
 refine qnI (by simp [Region.wanted,yielded,Aab,Aa4,Aad,Abk z28 (by decide) t47]) (fun a29 e29=> ?_)
 rw [←e29] at h
 have z29:=pz e29 z28
 replace t47:=pk e29 t47
 replace t48:=pk e29 t48
 clear t51
 have t52:=pq e29 z28
 clear e29 z28
 refine qnI (by simp [Region.wanted,yielded,Aab,Aa3,Aad,Abk z29 (by decide) t47]) (fun a30 e30=> ?_)
 rw [←e30] at h
 have z30:=pz e30 z29
 replace t47:=pk e30 t47
 replace t48:=pk e30 t48
 clear t52
 have t53:=pq e30 z29
 clear e30 z29
 refine qnI (by simp [Region.wanted,yielded,Aab,Aa2,Aad,Abk z30 (by decide) t47]) (fun a31 e31=> ?_)
 rw [←e31] at h
 have z31:=pz e31 z30
 replace t47:=pk e31 t47
 replace t48:=pk e31 t48
 replace t53:=pk e31 t53
 have t54:=pq e31 z30
 clear e31 z30
 refine qnI (by simp [Region.wanted,yielded,Aab,Aa1,Aad,Abk z31 (by decide) t47]) (fun a32 e32=> ?_)
 rw [←e32] at h
 have z32:=pz e32 z31
 replace t47:=pk e32 t47
 replace t48:=pk e32 t48
 replace t53:=pk e32 t53
 replace t54:=pk e32 t54
 have t55:=pq e32 z31
 clear e32 z31
 refine qnI (by simp [Region.wanted,yielded,Aab,Aaw,Aad,Abk z32 (by decide) t47]) (fun a33 e33=> ?_)
 rw [←e33] at h
 have z33:=pz e33 z32
 replace t47:=pk e33 t47
 clear t48 t53 t54 t55
 have t56:=pq e33 z32
 clear e33 z32
 refine qvI (v:= .bool false) (by rfl) (by unfold Aav;go_simp) (fun a34 e34=> ?_)
 rw [←e34] at h
 have z34:=pz e34 z33
 clear t47 t56
 have t57:=pq e34 z33
 clear e34 z33
 refine qvI (v:= .bool false) (by rfl) (xas rfl t57) (fun a35 e35=> ?_)
 rw [←e35] at h
 have z35:=pz e35 z34
 clear t57
 clear e35 z34
 exact wpListIn_nil (h _ _ (rfl) rfl)
theorem A0y {b:Bool} {n:Nat} (a:Act) (w:World) (Q:Exit→Act→World→Prop) (hsz:a.tmps.size=58)
 (t47:a.tmps.getD 47 undef= .bool true)
 (t56:a.tmps.getD 56 undef= .bool b)
 (h:∀(a':Act) (w':World),w'=w→a'=((a).put (some 57) (.bool b)).put (some 8) (.bool b)→Q .normal a' w') :
 wpListIn Fence.wide n prog Aab Q [Aav,Abe] a w:=by
 refine qvI (v:= .bool b) (by rfl) (by unfold Aav;go_simp) (fun a34 e34=> ?_)
 rw [←e34] at h
 have z34:=pz e34 hsz
 clear t47 t56
 have t57:=pq e34 hsz
 clear e34 hsz
 refine qvI (v:= .bool b) (by rfl) (xas rfl t57) (fun a35 e35=> ?_)
 rw [←e35] at h
 have z35:=pz e35 z34
 clear t57
 clear e35 z34
 exact wpListIn_nil (h _ _ (rfl) rfl)
def Apx:Array Oper:=(⟨_,rfl⟩:{o // some o=rgB Tryz.f116 0}).1
theorem A69 {rb ro b1 b2 l i:Nat} {c:Bool} (Fin:Bool→World→Prop) (a:Act) (w:World) (Q:Exit→Act→World→Prop) (zz:a.tmps.size=10)
 (t0:a.tmps.getD 0 undef= .func (.yield l) #[] #[])
 (t1:a.tmps.getD 1 undef= (pZ b1 0))
 (t2:a.tmps.getD 2 undef= (pZ b2 0))
 (h0:WS b1 b2 rb ro c w.drew) (CR:Calls prog 115 #[(pZ rb ro)] w.drew fun e w'=>e= .returned (.int .i64 (i:Int))∧WS b1 b2 rb ro c w'∧Calls prog 117 #[(pZ rb ro), .int .i64 (i:Int), .int .i64 (nb c:Int), .func (.yield l) #[] #[]] w' fun e2 w2=> ∃b,e2= .returned (.bool b)∧Fin b w2)
 (h:∀(b:Bool) (a':Act) (w':World),Fin b w'→a'=((((((a).put (some 4) (pZ rb ro)).put (some 5) (pZ rb ro)).put (some 7) (.int .i64 (nb c:Int))).put (some 8) (.func (.yield l) #[] #[])).put (some 6) (.int .i64 (i:Int))).put (some 9) (.bool b)→Q .normal a' w') :
 (Code.region 0 Apx true).wp prog Q a w:=by
 refine x0 5 (fun w'=>WS b1 b2 rb ro c w') (h0) (fun hHeld=> ?_)
 refine xv 0 rfl rfl (fun w1 hw=>xld rfl (zi t1 rfl) hw.1) hHeld ?_
 refine xv 1 rfl rfl (fun w1 hw=>xld rfl (zi t1 rfl) hw.1) hHeld ?_
 refine xv 3 rfl rfl (fun w1 hw=>xld rfl (zi t2 rfl) hw.2) hHeld ?_
 refine xv 4 rfl rfl (fun w1 hw=>xmv rfl (zi t0 rfl)) hHeld ?_
 refine xc 2 rfl rfl (Adc rfl (zg zz rfl)) (CR) (fun e x2 hx=> ?_)
 obtain ⟨rfl,S1,CP⟩:=hx
 refine ⟨_,rfl,fun _=>S1,fun hHeld=> ?_⟩
 replace hHeld:=hHeld (by decide)
 refine xc 5 rfl rfl (Ad5 rfl (zg zz rfl) (zg zz rfl) (zg zz rfl) (zg zz rfl)) (CP) (fun e x5 hx=> ?_)
 obtain ⟨b,rfl,HF⟩:=hx
 replace h:=h b
 refine ⟨_,rfl,fun hne=>absurd rfl hne,fun _=> ?_⟩
 exact xe rfl (h _ _ (HF) rfl)
abbrev OkK:Type:={k:KpV // KpV.ok k}
def kpO {L:List Sp} (ok:OkS L) (i:Nat):OkK:=if h:i<L.length then ⟨(gt L i).kp,ok.gt h⟩ else ⟨zK,Aoi⟩
theorem Ase {L:List Sp} (ok:OkS L) {i:Nat} (h:i<L.length):(kpO ok i).1=(gt L i).kp:=by unfold kpO;rw [dif_pos h]
def Aet {L:List Sp} (ok:OkS L) (c:Bool) (t:T):List OkK:=(vis L c t).map (kpO ok)
theorem A13 {L:List Sp} (ok:OkS L) (c:Bool) (i:Nat) (l r:T):Aet ok c (.nd i l r)=Aet ok c l++((if cq L c i then [kpO ok i] else [])++Aet ok c r):=by
 unfold Aet
 rw [Ap1]
 cases cq L c i <;>simp
theorem Alq {L:List Sp} (ok:OkS L) (c:Bool) (t:T):(Aet ok c t).length=(vis L c t).length:=by simp [Aet]
section
variable {rb ro g cap n N l:Nat} {L:List Sp} {c:Bool}
def Aio (J Jx:List OkK→World→Prop) (rb ro g cap:Nat) (L:List Sp) (xs:List OkK) (b:Bool) (W':World):Prop:=(b=true∧J xs W'∧Aax W' rb ro g cap L)∨(b=false∧∃pre',Jx pre' W')
theorem Ax7 (ok:OkS L) (J Jx:List OkK→World→Prop) (hz:∀w,ct (gt L 0) w=0) (h0:0<L.length) (hJ:∀pre W W',J pre W→Qt W W'→J pre W')
 (hY:∀pre x W1,J pre W1→Aax W1 rb ro g cap L→pre.length<N→YieldAt Fence.wide (n-1) prog l #[KpV.v x.1] W1 fun e W'=> ∃b,e= .returned (.bool b)∧Aio J Jx rb ro g cap L (pre++[x]) b W') :
 ∀(t:T) (p:Nat) (pre:List OkK) (W:World),Rep L p t→Cnt L t→Aax W rb ro g cap L→J pre W→pre.length+(vis L c t).length≤N →
  Calls prog 117 #[(pZ rb ro), .int .i64 (t.ix:Int), .int .i64 (nb c:Int), .func (.yield l) #[] #[]] W fun e W'=> ∃b,e= .returned (.bool b)∧Aio J Jx rb ro g cap L (pre++Aet ok c t) b W':=by
 intro t
 induction t with
 |nil =>
  intro p pre W hr hc h hj hN
  have HP:=Aaa (show Aio J Jx rb ro g cap L (pre++Aet ok c .nil) true W from .inl ⟨rfl,by simpa [Aet,vis,T.ids] using hj,h⟩)
  have hr2:decide ((ct (gt L T.nil.ix) c:Int)=0)=true:=by show decide ((ct (gt L 0) c:Int)=0)=true;rw [hz c];rfl
  have hi:T.nil.ix<L.length:=h0
  go_enter func117,ntmps117
  go_upto_region 1 with fail
  refine En.zqc tab rfl (En.st ((Ado h)) (En.st ((Ad8 hi h.len _)) (En.fi ?_)))
  intro a' w1 hw ha
  subst ha
  obtain rfl:w1=W:=hw
  simp only [En.pM,En.pU,Act.put,qsA,qsB,qsC]
  go_upto_region 2 with fail
  refine En.zqc tab rfl (En.st ((Aei _ c _)) (En.st ((A1u h hi c)) (En.cm (c':=true) (hr2) (En.fi ?_))))
  intro a' w2 hw ha
  subst ha
  obtain rfl:w2=w1:=hw
  simp only [En.pM,En.pU,Act.put,qsA,qsB,qsC]
  go_wp2
  go_ret
  exact ⟨true,rfl,HP.out⟩
 |nd i tl tr ihl ihr =>
  intro p pre W hr hc h hj hN
  obtain ⟨r1,r2,r3,r4,r5,r6,r7⟩:=hr
  have hcc:ct (gt L i) c=(vis L c (.nd i tl tr)).length:=by rw [Ap2];exact hc.1 c
  by_cases hn0:(vis L c (.nd i tl tr)).length=0
  ·have HP:=Aaa (show Aio J Jx rb ro g cap L (pre++Aet ok c (.nd i tl tr)) true W from .inl ⟨rfl,by
        have:Aet ok c (.nd i tl tr)=[]:=List.eq_nil_of_length_eq_zero (by rw [Alq];exact hn0)
        rw [this,List.append_nil];exact hj,h⟩)
   have hr2:decide ((ct (gt L i) c:Int)=0)=true:=by rw [hcc,hn0];rfl
   show Calls prog 117 #[(pZ rb ro), .int .i64 (i:Int), .int .i64 (nb c:Int), .func (.yield l) #[] #[]] W _
   clear hcc hn0 ihl ihr
   go_enter func117,ntmps117
   go_upto_region 1 with fail
   refine En.zqc tab rfl (En.st ((Ado h)) (En.st ((Ad8 r2 h.len _)) (En.fi ?_)))
   intro a' w1 hw ha
   subst ha
   obtain rfl:w1=W:=hw
   simp only [En.pM,En.pU,Act.put,qsA,qsB,qsC]
   go_upto_region 2 with fail
   refine En.zqc tab rfl (En.st ((Aei _ c _)) (En.st ((A1u h r2 c)) (En.cm (c':=true) (hr2) (En.fi ?_))))
   intro a' w2 hw ha
   subst ha
   obtain rfl:w2=w1:=hw
   simp only [En.pM,En.pU,Act.put,qsA,qsB,qsC]
   go_wp2
   go_ret
   exact ⟨true,rfl,HP.out⟩
  ·have hr2:decide ((ct (gt L i) c:Int)=0)=false:=by rw [hcc];simpa using hn0
   have hvn:=Ap1 L c i tl tr
   have hkn:=A13 ok c i tl tr
   have hll:pre.length+(vis L c tl).length+(if cq L c i then 1 else 0)+(vis L c tr).length≤N:=by
        rw [hvn] at hN
        simp only [List.length_append] at hN
        cases hq:cq L c i <;>rw [hq] at hN <;>simp at hN ⊢ <;>omega
   have HL:=Aaa (ihl i pre W r6 hc.2.1 h hj (by omega))
   have HR:=Aaa (fun (pre2:List OkK) (W2:World) (h2:Aax W2 rb ro g cap L) (hj2:J pre2 W2) (hl2:pre2.length+(vis L c tr).length≤N)=>ihr i pre2 W2 r7 hc.2.2 h2 hj2 hl2)
   rw [←r4] at HL
   rw [←r5] at HR
   have HO:=Aaa (fun (W2:World) (h2:Aax W2 rb ro g cap L)=>Arl (c:=c) h2 r2)
   have EO:=Aaa (Ark L i c)
   have HK:=Aaa hkn
   have HLL:=Aaa hll
   have hkl:=Alq ok c tl
   show Calls prog 117 #[(pZ rb ro), .int .i64 (i:Int), .int .i64 (nb c:Int), .func (.yield l) #[] #[]] W _
   clear hcc hn0 ihl ihr hvn hkn hll hN
   go_enter func117,ntmps117
   go_upto_region 1 with fail
   refine En.zqc tab rfl (En.st ((Ado h)) (En.st ((Ad8 r2 h.len _)) (En.fi ?_)))
   intro a' w1 hw ha
   subst ha
   obtain rfl:w1=W:=hw
   simp only [En.pM,En.pU,Act.put,qsA,qsB,qsC]
   go_upto_region 2 with fail
   refine En.zqc tab rfl (En.st ((Aei _ c _)) (En.st ((A1u h r2 c)) (En.cm (c':=false) (hr2) (En.fi ?_))))
   intro a' w2 hw ha
   subst ha
   obtain rfl:w2=w1:=hw
   simp only [En.pM,En.pU,Act.put,qsA,qsB,qsC]
   clear hr2
   go_upto_region 4 with fail
   refine (wpIn_wide (n:=n)).1 ?_
   refine A47 (c:=c) (fun b w'=>Aio J Jx rb ro g cap L (pre++Aet ok c tl) b w') _ _ _ rfl rfl rfl rfl rfl h r2 HL.out ?_
   intro b a' w3 hP ha
   subst ha
   simp only [Act.put,qsA,qsB,qsC]
   clear HL
   rcases hP with ⟨rfl,hj3,h3⟩|⟨rfl,hx⟩
   ·refine A46 (c:=c) (x:=own L i c) (fun w'=>Qt w3 w') _ _ _ rfl rfl rfl rfl rfl (HO.out _ h3) ?_
    intro a' w4 q4 ha
    subst ha
    simp only [Act.put,qsA,qsB,qsC]
    have h4:=h3.qt q4
    have hj4:=hJ _ _ _ hj3 q4
    clear hj3 h3 HO
    cases hq:cq L c i with
    |false =>
     have eo:own L i c=0:=by rw [EO.out,hq];rfl
     rw [eo]
     have HC:=Aaa (HR.out _ _ h4 hj4 (by rw [List.length_append,hkl];have:=HLL.out;rw [hq] at this;simp at this;omega))
     have HK2:=Aaa (show Aet ok c (.nd i tl tr)=Aet ok c tl++Aet ok c tr by rw [HK.out,hq];simp)
     clear eo EO HLL hq HR
     refine A43 (c:=c) (L:=L) (x:=0) (fun b w'=>Aio J Jx rb ro g cap L ((pre++Aet ok c tl)++Aet ok c tr) b w') _ _ _ rfl rfl rfl rfl rfl rfl rfl rfl h4 r2 HC.out ?_
     intro b a' w5 hP5 ha
     subst ha
     simp only [Act.put,qsA,qsB,qsC]
     refine A0y (b:=b) _ _ _ rfl rfl rfl ?_
     intro a' w6 hw ha
     subst ha
     obtain rfl:w6=w5:=hw
     rw [List.append_assoc, ←HK2.out] at hP5
     have HP5:=Aaa hP5
     clear hP5
     simp only [Act.put,qsA,qsB,qsC]
     go_wp2
     go_ret
     exact ⟨b,rfl,HP5.out⟩
    |true =>
     have eo:own L i c=1:=by rw [EO.out,hq];rfl
     rw [eo]
     have hlen:=HLL.out
     rw [hq] at hlen
     simp only [if_true] at hlen
     have HYY:=Aaa (hY (pre++Aet ok c tl) (kpO ok i) w4 hj4 h4 (by rw [List.length_append,hkl];omega))
     rw [Ase ok r2] at HYY
     have HK2:=Aaa (show Aet ok c (.nd i tl tr)=Aet ok c tl++([kpO ok i]++Aet ok c tr) by rw [HK.out,hq];simp)
     have HLN:=Aaa (show ((pre++Aet ok c tl)++[kpO ok i]).length+(vis L c tr).length≤N by simp only [List.length_append,List.length_cons,List.length_nil,hkl];omega)
     clear eo EO HLL hq hlen
     refine A41 (L:=L) (x:=1) (fun b w'=>Aio J Jx rb ro g cap L ((pre++Aet ok c tl)++[kpO ok i]) b w') _ _ _ rfl rfl rfl rfl rfl rfl h4 r2 HYY.out ?_
     intro b a' w5 hP5 ha
     subst ha
     simp only [Act.put,qsA,qsB,qsC]
     clear HYY hj4 h4
     rcases hP5 with ⟨rfl,hj5,h5⟩|⟨rfl,hx⟩
     ·have HC:=Aaa (HR.out _ _ h5 hj5 HLN.out)
      refine A42 (c:=c) (L:=L) (fun b w'=>Aio J Jx rb ro g cap L (((pre++Aet ok c tl)++[kpO ok i])++Aet ok c tr) b w') _ _ _ rfl rfl rfl rfl rfl rfl rfl rfl h5 r2 HC.out ?_
      intro b a' w6 hP6 ha
      subst ha
      simp only [Act.put,qsA,qsB,qsC]
      refine A0y (b:=b) _ _ _ rfl rfl rfl ?_
      intro a' w7 hw ha
      subst ha
      obtain rfl:w7=w6:=hw
      rw [List.append_assoc,List.append_assoc, ←HK2.out] at hP6
      have HP6:=Aaa hP6
      clear hP6
      simp only [Act.put,qsA,qsB,qsC]
      go_wp2
      go_ret
      exact ⟨b,rfl,HP6.out⟩
     ·have HX:=Aaa hx
      clear hx
      refine A45 _ _ _ rfl rfl rfl rfl ?_
      intro a' w6 hw ha
      subst ha
      obtain rfl:w6=w5:=hw
      simp only [Act.put,qsA,qsB,qsC]
      go_wp2
      go_ret
      exact ⟨false,rfl, .inr ⟨rfl,HX.out⟩⟩
   ·have HX:=Aaa hx
    clear hx
    refine A44 _ _ _ rfl rfl ?_
    intro a' w4 hw ha
    subst ha
    obtain rfl:w4=w3:=hw
    simp only [Act.put,qsA,qsB,qsC]
    go_wp2
    go_ret
    exact ⟨false,rfl, .inr ⟨rfl,HX.out⟩⟩
end
end
section
open Go.RowKit Go.Shelf Sq
theorem A67 {w:World} {b1 b2 rb ro:Nat} {c:Bool} (h1:w.cell? ⟨b1,0,none⟩=some (pZ rb ro)) (h2:w.cell? ⟨b2,0,none⟩=some (.int .i64 (nb c:Int))):WS b1 b2 rb ro c w:=by
 unfold WS
 constructor <;>go_simp
theorem Akk (n rb ro g cap b1 b2:Nat) (L:List Sp) (t:T) (c:Bool) (w:World) (hR:Aax w rb ro g cap L) (hg:Ad9 L t) (h1:w.cell? ⟨b1,0,none⟩=some (pZ rb ro)) (h2:w.cell? ⟨b2,0,none⟩=some (.int .i64 (nb c:Int))) :
 SeqStopsK Fence.wide n prog 116 #[(pZ b1 0), (pZ b2 0)] (fun x:OkK=> #[KpV.v x.1]) (Kl [rb,g]) (fun xs=>xs=Aet hR.ok c t) (fun _=>True) (vis L c t).length w:=by
 intro l J Jx W hW hJ hJx hY h0
 have l1:=block_lt_of_cell h1
 have l2:=block_lt_of_cell h2
 have R0:Aax W rb ro g cap L:=hR.keep (hW.block _ hR.lt.1) (hW.block _ hR.lt.2)
 have w1:WS b1 b2 rb ro c W.drew:=A67 ((hW.cell (p:=⟨b1,0,none⟩) l1).trans h1) ((hW.cell (p:=⟨b2,0,none⟩) l2).trans h2)
 have hJq:∀pre W W',J pre W→Qt W W'→J pre W':=fun pre W W' hj q=>hJ pre W W' none hj ⟨q.os,q.tape,q.output,by rw [q.heap];exact Nat.le_refl _,fun k _ _=>by rw [q.heap]⟩ (fun r e=>by cases e)
 have HP:=Aaa (Ax7 (n:=n) (N:=(vis L c t).length) (l:=l) (c:=c) hR.ok J Jx hg.zip.z hg.pos hJq (fun pre x W1 hj hs hl=>by
  obtain ⟨fn,tmps,assign,body,hy,hr⟩:=hY pre x W1 hj hl
  refine ⟨fn,tmps,assign,body,hy,hr.mono ?_⟩
  rintro e W' (⟨rfl,a1,a2⟩|⟨rfl,a1⟩)
  ·exact ⟨true,rfl, .inl ⟨rfl,a1,hs.keep (a2 rb (by simp)) (a2 g (by simp))⟩⟩
  ·exact ⟨false,rfl, .inr ⟨rfl,_,a1⟩⟩) t 0 [] W.drew hg.zip.rep hg.cnt R0.drew (hJq _ _ _ h0 (Qt.drew W)) (by simp))
 have HR:=Aaa (Ahw R0.drew hg)
 refine callsIn_of_wp func116 rfl trivial ?_ rfl
 simp only [ntmps116,List.size_toArray,List.length_cons,List.length_nil,Nat.reduceAdd,Nat.reduceSub,Array.replicate_succ,Array.replicate_zero,List.push_toArray,List.append_toArray,List.nil_append,List.cons_append]
 refine wpIn_wide.2 ?_
 go_upto_region 0 with fail
 refine A69 (i:=t.ix) (c:=c) (l:=l) (fun b w'=>Aio J Jx rb ro g cap L ([]++Aet hR.ok c t) b w') _ _ _ rfl rfl rfl rfl w1 (HR.out.mono ?_) ?_
 ·rintro e w' ⟨rfl,rfl⟩
  exact ⟨rfl,w1,HP.out⟩
 intro b a' W' hP ha
 subst ha
 have HP2:=Aaa hP
 clear hP HP HR
 simp only [Act.put,qsA,qsB,qsC]
 go_end0
 refine ⟨⟨_,rfl⟩, ?_⟩
 rcases HP2.out with ⟨_,a,_⟩|⟨_,p,a⟩
 ·exact .inl ⟨_,rfl,a⟩
 ·exact .inr ⟨p,trivial,a⟩
attribute [local go_sem] Oper.semAt_some
theorem A4d (w:World):(zeroValue 78).run prog w= .ok (KpV.v zK) w:=by kernel_rfl
theorem A6l (w:World) (k:KpV) (hk:KpV.ok k):∃w1,(Instr.alloc 78 true (.tuple #[])).run prog w= .ok (pZ w.heap.size 0) w1∧(Instr.storeAt 78 (pZ w.heap.size 0) (KpV.v k)).run prog w1= .ok () (w.alloc (.cells (KpV.c k).toArray 78)):=by
 have e1:(Instr.alloc 78 true (.tuple #[])).run prog w= .ok (pZ w.heap.size 0) (w.alloc (.cells (KpV.c zK).toArray 78)):=by
  simp only [Instr.alloc,newVar,newRow,newObj,Sem.run_bind,A4d,Result.andThen_ok,KpV.v,Value.cells]
  rfl
 have e2:=run_storeVar_row (P:=prog) (w.alloc (.cells (KpV.c zK).toArray 78)) w.heap.size 78 78 (KpV.c zK).toArray (KpV.c k).toArray (heap_alloc_new _ _) (by rw [List.size_toArray,KpV.len hk];exact szK)
  (by rw [List.size_toArray,List.size_toArray,KpV.len hk,KpV.len Aoi]) (by rw [List.all_toArray,List.all_eq_true];exact KpV.one k)
 rw [World.setRow_alloc_new] at e2
 refine ⟨_,e1, ?_⟩
 simp only [Instr.storeAt,Instr.sureAddr,Sem.run_bind,Sem.run_pure,Result.andThen_ok,KpV.v,e2]
theorem Ams {w:World} {lb:Nat} {v:Value} (h:w.heap[lb]? =some (.cells #[v] 56 (0,0))) (a:Option Addr) (n c:Nat):(Instr.storeAt 56 (pZ lb 0) (.slice a n c)).run prog w= .ok () (w.setCell ⟨lb,0,none⟩ (.slice a n c))∧(w.setCell ⟨lb,0,none⟩ (.slice a n c)).heap[lb]? =some (.cells #[.slice a n c] 56 (0,0)):=by
 have hc:w.cell? ⟨lb,0,none⟩=some v:=(cell_of_row w lb 0 _ _ _ h).trans rfl
 have hf:=frozen_of_row w lb 0 _ _ h
 exact ⟨by go_simp,Go.heap_setCell_same _ _ 0 _ _ _ h⟩
theorem A5p (w:World) (a:Option Addr) (n c:Nat):∃w1 w2,(Instr.alloc 56 true (.tuple #[])).run prog w= .ok (pZ w.heap.size 0) w1∧(Instr.storeAt 56 (pZ w.heap.size 0) (.slice a n c)).run prog w1= .ok () w2∧Below w.heap.size w w2∧w2.heap[w.heap.size]? =some (.cells #[.slice a n c] 56 (0,0))∧w2.heap.size=w.heap.size+1:=by
 have hz:(zeroValue 56).run prog w= .ok (.slice none 0 0) w:=by kernel_rfl
 have e1:(Instr.alloc 56 true (.tuple #[])).run prog w= .ok (pZ w.heap.size 0) (w.alloc (.cells #[.slice none 0 0] 56)):=by
  simp only [Instr.alloc,newVar,newRow,newObj,Sem.run_bind,hz,Result.andThen_ok,Value.cells]
  rfl
 obtain ⟨e2,e3⟩:=Ams (heap_alloc_new w (.cells #[.slice none 0 0] 56)) a n c
 exact ⟨_,_,e1,e2,((Below.refl _ _).alloc (Nat.le_refl _) _).setCell (p:=⟨w.heap.size,0,none⟩) (Nat.le_refl _) _,e3,by simp⟩
theorem Ar9 {w:World} {lb:Nat} {v:Value} (h:w.heap[lb]? =some (.cells #[v] 56 (0,0))):(Instr.loadAt 56 (pZ lb 0)).run prog w= .ok v w:=by
 have hc:w.cell? ⟨lb,0,none⟩=some v:=(cell_of_row w lb 0 _ _ _ h).trans rfl
 go_simp
theorem A30 {w:World} {b:Nat} {k:KpV} (hk:KpV.ok k) (h:w.heap[b]? =some (.cells (KpV.c k).toArray 78 (0,0))):(Instr.loadAt 36 (pZ b 0)).run prog w= .ok k.id.v w :=
 run_loadAt_mid (P:=prog) w b 0 36 k.id.c _ (fun j v hv=>Abi h j v (by rw [KpV.c,List.getElem?_append_left (List.getElem?_eq_some_iff.1 hv).1];exact hv)) underlying36 rfl (by rw [IdK.len hk.id];exact Alv)
theorem Awl (w:World) (rb ro:Nat) (c:Bool):Calls prog 92 #[(pZ rb ro), .int .i64 (nb c:Int)] w fun e w'=>e= .returned (.func (.func 116) #[] #[(pZ w.heap.size 0), (pZ (w.heap.size+1) 0)])∧w'.heap.size=w.heap.size+2∧w'.cell? ⟨w.heap.size,0,none⟩=some (pZ rb ro)∧w'.cell? ⟨w.heap.size+1,0,none⟩=some (.int .i64 (nb c:Int))∧Below w.heap.size w w':=by
 go_enter func92,ntmps92
 go_wp2
 go_ret
 have z:(w.alloc (.cells #[(pZ rb ro)] 129)).heap.size=w.heap.size+1:=by simp
 refine ⟨rfl,by simp, ?_, ?_,((Below.refl _ _).alloc (Nat.le_refl _) _).alloc (by simp) _⟩
 ·exact (World.cell?_of_block (a:=⟨w.heap.size,0,none⟩) (Below.heap_alloc _ _ _ (by simp))).trans ((cell_of_row _ _ 0 _ _ _ (heap_alloc_new _ _)).trans rfl)
 ·rw [←z]
  exact (cell_of_row _ _ 0 _ _ _ (heap_alloc_new _ _)).trans rfl
structure LI (w wl:World) (lb:Nat) (l:List IdK) (W:World):Prop where
 v:∃v,W.heap[lb]? =some (.cells #[v] 56 (0,0))∧Afd W w.heap.size v l∧v.ownBlock≠some lb
 bel:Below w.heap.size w W
 sz:wl.heap.size≤W.heap.size
theorem Afd.cells {w:World} {base:Nat} {v:Value} {l:List IdK} (h:Afd w base v l) {k:Nat} (hk:v.ownBlock=some k):base≤k∧∃c t z,w.heap[k]? =some (.cells c t z):=by
 rcases h.2 with ⟨rfl,_⟩|⟨g,cap,cur,rfl,hb,hg,_⟩
 ·cases hk
 ·simp only [Value.ownBlock,Option.some.injEq] at hk
  subst hk
  exact ⟨hb,cur,_,_,hg⟩
theorem LI.own {α:Type} (w wl:World) (lb:Nat) (f:List α→List IdK) (hw:w.heap.size≤wl.heap.size):OwnFrom wl.heap.size (fun pre W=>LI w wl lb (f pre) W):=by
 intro pre W W' row hs hg hr
 obtain ⟨⟨v,a1,a2,a3⟩,b,z⟩:=hs
 have keep:∀k c t q,W.heap[k]? =some (Obj.cells c t q)→W'.heap[k]? =W.heap[k]? :=fun k c t q hk=>hg.block k (Array.getElem?_eq_some_iff.1 hk).1 (fun e=>by
  obtain ⟨_,o,ho,hc⟩:=hr k e.symm
  rw [hk] at ho;cases ho;cases hc)
 refine ⟨⟨v,(keep _ _ _ _ a1).trans a1,a2.keep (fun k hk=>by obtain ⟨_,c,t,q,e⟩:=a2.cells hk;exact keep _ _ _ _ e),a3⟩, ?_,Nat.le_trans z hg.size⟩
 exact ⟨hg.os.trans b.os,hg.tape.trans b.tape,hg.output.trans b.output,Nat.le_trans b.size hg.size,fun k hk=>(hg.block k (Nat.lt_of_lt_of_le hk b.size) (fun e=>by have:=(hr k e.symm).1;omega)).trans (b.block k hk)⟩
theorem LI.step {w wl W:World} {lb:Nat} {l:List IdK} (h:LI w wl lb l W) (hlb:lb<wl.heap.size) (hwl:w.heap.size≤lb) {k:IdK} (hk:k.ok) (okl:∀x∈l,x.ok) (hlen:l.length+1≤1400000000000):∃v v' w1 w2 w3,(Instr.loadAt 56 (pZ lb 0)).run prog W= .ok v W ∧
 (Instr.buildSlice 56 1 #[(0,k.v)]).run prog W= .ok (.slice (some ⟨W.heap.size,0,none⟩) 1 1) w1∧(Builtin.append_ #[56,56] 56 #[v, .slice (some ⟨W.heap.size,0,none⟩) 1 1]).run prog w1= .ok v' w2∧(Instr.storeAt 56 (pZ lb 0) v').run prog w2= .ok () w3 ∧
 LI w wl lb (l++[k]) w3∧KeepsOthers W w3∧Below w.heap.size W w3:=by
 obtain ⟨⟨v,a1,a2,a3⟩,b,z⟩:=h
 have eb:=Aq0 k hk W
 have o1:Afd (W.alloc (.cells k.c.toArray 36)) w.heap.size v l:=a2.below ((Below.refl _ _).alloc (Nat.le_refl _) _)
 obtain ⟨v',w2,ea,o2,g2,ow⟩:=Al6 (W.alloc (.cells k.c.toArray 36)) w.heap.size v l (some ⟨W.heap.size,0,none⟩) [k] 1 o1 (Aso W k 36) (by simp [hk]) (by simp;omega) (by simp;have:=b.size;omega)
 have zW:(W.alloc (.cells k.c.toArray 36)).heap.size=W.heap.size+1:=by simp
 have l1:(W.alloc (.cells k.c.toArray 36)).heap[lb]? =some (.cells #[v] 56 (0,0)):=(Below.heap_alloc _ _ _ (by omega)).trans a1
 have l2:w2.heap[lb]? =some (.cells #[v] 56 (0,0)):=(g2.block lb (by omega) (fun e=>a3 e.symm)).trans l1
 have n2:v'.ownBlock≠some lb:=by
  rcases ow with e|e
  ·rw [e];exact a3
  ·rw [e,zW];intro q;simp at q;omega
 obtain ⟨sa,sc,rfl,_,_⟩:=o2.open (fun x hx=>by rcases List.mem_append.1 hx with q|q;exact okl x q;simp at q;rw [q];exact hk)
 obtain ⟨es,l3⟩:=Ams l2 sa (l++[k]).length sc
 have b1:Below w.heap.size W (W.alloc (.cells k.c.toArray 36)):=((Below.refl _ _).alloc (Nat.le_refl _) _).mono b.size
 have b2:Below w.heap.size W w2:=b1.trans ⟨g2.os,g2.tape,g2.output,g2.size,fun j hj=>g2.block j (by have:=b.size;omega) (fun e=>by have:=(a2.cells e.symm).1;omega)⟩
 have b3:Below w.heap.size W (w2.setCell ⟨lb,0,none⟩ (.slice sa (l++[k]).length sc)):=b2.setCell (p:=⟨lb,0,none⟩) hwl _
 refine ⟨v,_,_,w2,_,Ar9 a1,eb,ea,es,⟨⟨_,l3,o2.keep (fun j hj=> ?_),n2⟩,b.trans b3,Nat.le_trans z b3.size⟩, ?_,b3⟩
 ·exact Below.heap_setCell _ _ _ _ (fun e=>n2 (by rw [hj];exact congrArg some e))
 ·refine ((KeepsOthers.alloc W _).trans (KeepsOthers.of_grownBy g2 (fun j o e ho=> ?_))).trans (KeepsOthers.setCell _ _ _)
  obtain ⟨_,c,t,q,e2⟩:=o1.cells e
  rw [ho] at e2
  cases e2
  rfl
attribute [local go_sem] Oper.semAt_some
theorem Ajl (w:World) (base n:Nat) (hn:n≤1400000000000) (hb:base≤w.heap.size):∃w',(Instr.makeSlice 56 (.int .i64 0) (.int .i64 (n:Int))).run prog w= .ok (.slice (some ⟨w.heap.size,0,none⟩) 0 n) w'∧Afd w' base (.slice (some ⟨w.heap.size,0,none⟩) 0 n) []∧Below w.heap.size w w'∧w'.heap.size=w.heap.size+1:=by
 obtain ⟨i,hi,hz,hs,hby⟩:=info_parts A3b
 obtain ⟨w',e,o,g⟩:=run_make_own (P:=prog) w base 56 36 i _ 33 underlying56 hi hz hs .i64 .i64 n (by rw [hby];omega) (by unfold maxLen;omega) hb
 have hr:=run_make (P:=prog) w 56 36 i _ underlying56 hi hz .i64 .i64 0 (n:Int) (by omega) (by omega) (by rw [hby];omega) (by omega)
 have hw:=e.symm.trans hr
 simp only [Result.ok.injEq] at hw
 exact ⟨w',e,o,Ak2 g,by rw [hw.2];simp⟩
def AxL (w:World) (lb:Nat) (x:OkK) (a:Act) (W:World):Prop:=∃eb,a.tmps.size=27∧a.tmps.getD 5 undef= (pZ lb 0)∧a.tmps.getD 6 undef= (pZ eb 0)∧W.heap[eb]? =some (.cells (KpV.c x.1).toArray 78 (0,0))
theorem AxL.own (w:World) (lb B:Nat) (x:OkK) (a:Act):OwnFrom B (fun (_:Unit) W=>AxL w lb x a W):=by
 intro _ W W' row hs hg hr
 obtain ⟨eb,h1,h2,h3,h4⟩:=hs
 refine ⟨eb,h1,h2,h3,(hg.block eb (Array.getElem?_eq_some_iff.1 h4).1 (fun e=> ?_)).trans h4⟩
 obtain ⟨_,o,ho,hc⟩:=hr eb e.symm
 rw [h4] at ho;cases ho;cases hc
theorem LI.alloc {w wl W:World} {lb:Nat} {l:List IdK} (h:LI w wl lb l W) (o:Obj):LI w wl lb l (W.alloc o):=by
 obtain ⟨⟨v,a1,a2,a3⟩,b,z⟩:=h
 exact ⟨⟨v,(Below.heap_alloc _ _ _ (Array.getElem?_eq_some_iff.1 a1).1).trans a1,a2.below ((Below.refl _ _).alloc (Nat.le_refl _) _),a3⟩,b.alloc b.size _,by simp;omega⟩
section
variable {w:World} {s:Sx} {E:List Elt}
theorem Awn (h:Lk s E) (ok:OkS s.L) (c:Bool):(Aet ok c s.t).map (fun x=>x.1.id)=(Adg E c).map (·.id):=by
 unfold Aet
 rw [←h.vis c,List.map_map,List.map_map]
 refine List.map_congr_left fun j hj=> ?_
 have hjm:j∈s.t.ids:=(List.mem_filter.1 hj).1
 simp only [Function.comp]
 rw [Ase ok (h.good.lt hjm).2]
 rfl
set_option maxHeartbeats 8000000 in
theorem Ayo (h:Aak w s E) (c:Bool):Calls prog 66 #[(pZ s.sb 0), .int .i64 (nb c:Int)] w fun e w'=> ∃v,e= .returned v∧Afd w' w.heap.size v ((Adg E c).map (·.id))∧Below w.heap.size w w':=by
 have hcnt:=h.lk.cnt c
 have hvl:(Adg E c).length≤E.length:=List.length_filter_le _ _
 have hlen:=h.lk.len
 have hll:=h.row.len
 have hvK:(vis s.L c s.t).length=(Adg E c).length:=by rw [←h.lk.vis c,List.length_map]
 have HIDS:=Aaa (Awn h.lk h.row.ok c)
 obtain ⟨n,hn⟩:∃n,(Adg E c).length=n:=⟨_,rfl⟩
 rw [hn] at hcnt hvl hvK
 have HM:=Aaa (Ai8 h.row h.lk.good c)
 rw [hcnt] at HM
 obtain ⟨wm,em,om,bm,zm⟩:=Ajl w w.heap.size n (by omega) (Nat.le_refl _)
 refine (callsIn_wide (n:=4)).1 ?_
 refine callsIn_of_wp_marks func66 rfl trivial ?_ rfl
 simp only [ntmps66,List.size_toArray,List.length_cons,List.length_nil,Nat.reduceAdd,Nat.reduceSub,Array.replicate_succ,Array.replicate_zero,List.push_toArray,List.append_toArray,List.nil_append,List.cons_append]
 refine wpIn_wide.2 ?_
 have NN:=Aaa hn
 have HN1:=Aaa hvK
 have HN2:=Aaa (show n≤1400000000000 by omega)
 clear hn hvK hcnt hvl hlen hll
 go_upto_region 3 with fail
 have HC3:Hid (Calls prog 91 #[(pZ s.sb 1), .int .i64 (nb c:Int)] w fun e w'=>e= .returned (.int .i64 (n:Int))∧∃y1 y2 y3,(Instr.makeSlice 56 (.int .i64 0) (.int .i64 (n:Int))).run prog w'= .ok (.slice (some ⟨w.heap.size,0,none⟩) 0 n) y1∧(Instr.alloc 56 true (.tuple #[])).run prog y1= .ok (pZ (w.heap.size+1) 0) y2∧(Instr.storeAt 56 (pZ (w.heap.size+1) 0) (.slice (some ⟨w.heap.size,0,none⟩) 0 n)).run prog y2= .ok () y3∧LI w y3 (w.heap.size+1) [] y3∧w.heap.size+1<y3.heap.size):=by
  refine HM.out.mono ?_
  rintro e w' ⟨rfl,q⟩
  have zq:w'.heap.size=w.heap.size:=by rw [q.heap]
  obtain ⟨y1,e1,o1,b1,z1⟩:=Ajl w' w.heap.size n HN2.out (by omega)
  obtain ⟨y2,y3,e2,e3,b3,l3,z3⟩:=A5p y1 (some ⟨w'.heap.size,0,none⟩) 0 n
  rw [zq] at z1 e1 o1 e3 l3
  rw [z1] at e2 e3 b3 l3 z3
  have b13:Below w.heap.size w y3:=((q.below _).trans (b1.mono (by omega))).trans (b3.mono (by omega))
  refine ⟨rfl,y1,y2,y3,e1,e2,e3,⟨⟨_,l3, ?_, ?_⟩,b13,Nat.le_refl _⟩,by omega⟩
  ·exact o1.keep (fun k hk=>b3.block k (by simp only [Value.ownBlock,Option.some.injEq] at hk;omega))
  ·simp [Value.ownBlock]
 refine li3 (fun y=>LI w y (w.heap.size+1) [] y∧w.heap.size+1<y.heap.size) _ _ _ rfl rfl rfl HC3.out ?_
 rintro a' w1 ⟨hL,z1⟩ ha
 subst ha
 clear HC3 HM em om bm zm
 simp only [Act.put,qsA,qsB,qsC]
 go_upto_region 4 with fail
 refine li4 (v:= .func (.func 116) #[] #[(pZ w1.heap.size 0), (pZ (w1.heap.size+1) 0)]) (fun w'=>w'.heap.size=w1.heap.size+2∧w'.cell? ⟨w1.heap.size,0,none⟩=some (pZ s.sb 1)∧w'.cell? ⟨w1.heap.size+1,0,none⟩=some (.int .i64 (nb c:Int))∧Below w1.heap.size w1 w') _ _ _ rfl rfl rfl (Awl w1 s.sb 1 c) ?_
 rintro a' w2 ⟨z2,c1,c2,b2⟩ ha
 subst ha
 simp only [Act.put,qsA,qsB,qsC]
 have b02:Below w.heap.size w w2:=hL.bel.trans (b2.mono hL.bel.size)
 have h2:=h.below b02
 have L2:LI w w2 (w.heap.size+1) [] w2:=by
  obtain ⟨⟨v,a1,a2,a3⟩,b,z⟩:=hL
  exact ⟨⟨v,(b2.block _ z1).trans a1,a2.below b2,a3⟩,b02,Nat.le_refl _⟩
 have ST:=Aaa (Akk (4-1) s.sb 1 s.g s.cap w1.heap.size (w1.heap.size+1) s.L s.t c w2 h2.row h.lk.good c1 c2)
 clear c1 c2
 go_wp2
 refine (wpIn_wide (n:=4)).1 ?_
 refine wpIn_rangeFunc_ownH (F:=Fence.wide) rfl (by omega) (gf:=116) (lb:= #[(pZ w1.heap.size 0), (pZ (w1.heap.size+1) 0)]) rfl trivial (enters_of func116 (by kernel_rfl) rfl)
  ST.out (fun h k=>h.trans k) (Kl.put (fun j hj=>h2.lt j (by revert hj;simp [Sx.bl];intro q;rcases q with q|q <;>simp [q]))) (Below.refl _ _) (fun _=>rfl)
  (fun pre W=>LI w w2 (w.heap.size+1) (pre.map (fun x=>x.1.id)) W)
  (fun _ _ _=>False)
  (LI.own w w2 (w.heap.size+1) (fun pre=>pre.map (fun x:OkK=>x.1.id)) b02.size)
  (fun _ _ _ _ _ hs _ _=>hs)
  L2 (AxL w (w.heap.size+1)) (AxL.own w (w.heap.size+1) w2.heap.size) ?assign ?body ?done ?stop
 case assign =>
  intro l pre x W K hI hK
  obtain ⟨y1,e1,e2⟩:=A6l W x.1 x.2
  have hz:(#[20].zip #[KpV.v x.1]:Array (Tmp × Value))= #[(20,KpV.v x.1)]:=by simp
  rw [hz]
  simp only [List.foldl_toArray',List.foldl_cons,List.foldl_nil,List.setIfInBounds_toArray,List.set_cons_succ,List.set_cons_zero]
  refine li5 (v:=KpV.v x.1) _ _ _ rfl rfl e1 e2 ?_
  intro a' W' hw ha
  obtain rfl:W'=_:=hw
  refine hK _ _ ((KeepsOthers.alloc W _).from _) (fun j hj=> ?_) (hI.alloc _) ⟨W.heap.size, ?_, ?_, ?_,heap_alloc_new _ _⟩
  ·have:j<w.heap.size:=h.lt j (by revert hj;simp [Sx.bl];intro q;rcases q with q|q <;>simp [q])
   exact Below.heap_alloc _ _ _ (Nat.lt_of_lt_of_le this hI.bel.size)
  ·subst ha;rfl
  ·subst ha;rfl
  ·subst ha;rfl
 case body =>
  rintro l pre x a' W hl hr hI ⟨eb,t1,t2,t3,hE⟩ hpl
  have hpn:pre.length<n:=by rw [HN1.out] at hpl;exact hpl
  obtain ⟨v,v',y1,y2,y3,e0,e1,e2,e3,hI',ko,bl⟩:=hI.step (k:=x.1.id) (by omega) (by omega) x.2.id (fun q hq=>by obtain ⟨z,_,rfl⟩:=List.mem_map.1 hq;exact z.2.id) (by rw [List.length_map];have:=HN2.out;omega)
  refine wpIn_block ?_
  refine li6 (k:=x.1.id) _ _ _ t1 t2 t3 e0 (A30 x.2 hE) e1 e2 e3 ?_
  intro a'' W' hw ha
  obtain rfl:W'=y3:=hw
  refine ⟨ko.from _,fun j hj=> ?_, ?_⟩
  ·have:j<w.heap.size:=h.lt j (by revert hj;simp [Sx.bl];intro q;rcases q with q|q <;>simp [q])
   exact bl.block j this
  ·simp only [List.map_append,List.map_cons,List.map_nil]
   exact hI'
 case done =>
  rintro D ys W hD rfl hI hK
  obtain ⟨⟨v,a1,a2,a3⟩,b,z⟩:=hI
  rw [HIDS.out] at a2
  have LV:=Aaa (Ar9 a1)
  have kb:∀k,k≠D→(W.putObj D (.deferred none)).heap[k]? =W.heap[k]? :=fun k hk=>World.putObj_heap_other hk
  have bD:Below w.heap.size W (W.putObj D (.deferred none)):=(Below.refl _ W).grown (grownBy_putObj' W D (.deferred none)) (Nat.le_trans b02.size z) (fun k e=>by cases e;have:=b02.size;omega)
  have RES:=Aaa (show Afd (W.putObj D (.deferred none)) w.heap.size v ((Adg E c).map (·.id)) from a2.keep (fun k hk=>kb k (fun e=>by
   obtain ⟨_,cc,t,q,e2⟩:=a2.cells hk
   rw [e,hK] at e2
   cases e2)))
  have RB:=Aaa (b.trans bD)
  clear a1 a2 a3
  gi_wp2
  go_upto_region 7 with fail
  refine En.zqc tab rfl (En.st (LV.out) (En.fi ?_))
  intro a' w3 hw ha
  subst ha
  obtain rfl:w3=W:=hw
  simp only [En.pM,En.pU,Act.put,qsA,qsB,qsC]
  go_wp2
  refine ⟨by simp, .inl ⟨_,_,rfl,run_takeDeferred hK, ?_⟩⟩
  exact ⟨_,results_tmp (t:=4) rfl _ _ _,v,rfl,RES.out,RB.out⟩
 case stop =>
  rintro D c pre W _ _ h _
  exact h.elim
theorem A3f (h:Aak w s E):Calls prog 30 #[(pZ s.sb 0)] w fun e w'=> ∃v,e= .returned v∧Afd w' w.heap.size v ((Adg E false).map (·.id))∧Below w.heap.size w w':=by
 have HA:Hid (Calls prog 66 #[(pZ s.sb 0), .int .i64 0] w fun e w'=> ∃v,e= .returned v∧Afd w' w.heap.size v ((Adg E false).map (·.id))∧Below w.heap.size w w'):=Ayo h false
 go_enter func30,ntmps30
 go_wp2_with (first
  |(go_at_call 66;refine HA.out.mono ?_;rintro e w' ⟨v,rfl,ho,hb⟩)
  |fail)
 go_ret
 exact ⟨v,rfl,ho,hb⟩
end
end
section
open Go.RowKit Sq
attribute [local go_sem] Oper.semAt_some
theorem Arw {W:World} {b o:Nat} {x:OpM} (h:W.rangeAt b o x.c):(Instr.loadAt 3 (pZ b (o+0))).run prog W= .ok (.int .i64 x.kind) W:=by
 have hc:W.cell? ⟨b,o,none⟩=some (.int .i64 x.kind):=h 0 _ rfl
 rw [Nat.add_zero]
 go_simp
theorem A4z (b:Nat) (x y:Operand) (w:World):(do eqGuard .eql 27 x y (pZ b 0) (.pointer none);binOp .eql 27 (pZ b 0) (.pointer none):Sem Value).run prog w= .ok (.bool false) w:=by
 refine bo rfl ?_
 go_simp
theorem A4w (b:Nat) (x y:Operand) (w:World):(do eqGuard .neq 27 x y (pZ b 0) (.pointer none);binOp .neq 27 (pZ b 0) (.pointer none):Sem Value).run prog w= .ok (.bool true) w:=by
 refine bo rfl ?_
 go_simp
theorem A50 {b o m c i:Nat} (hi:i<m) (hm:m≤9223372036854775807) (W:World):(Instr.indexAt 31 (.slice (some ⟨b,o,none⟩) m c) (.int .i64 (i:Int))).run prog W= .ok (pZ b (o+i)) W:=by go_simp
theorem A5z {b o m c i:Nat} (hi:i<m) (hm:m≤9223372036854775807) (W:World):(Instr.indexAt 32 (.slice (some ⟨b,o,none⟩) m c) (.int .i64 (i:Int))).run prog W= .ok (pZ b (o+i)) W:=by go_simp
section
variable {n0 n F0 F d:Nat} {w0 W W':World} {s:Sx} {v ov kv:Value} {R:List Elt} {m:Mx} {r:Rx} {P:List (Mx × Rx)}
theorem Ax6 {w w1 w2 w3 w4:World} {s:Sx} {m:Mx} {r:Rx} (hs:Aak w1 s []) (c1:∀j∈s.bl,w.heap.size≤j) (b1:Below w.heap.size w w1) (hr:Abj w2 w1.heap.size w1.heap.size (.slice none 0 0) []) (b2:Below w1.heap.size w1 w2) (hm:Acl w3 w2.heap.size m) (eL:m.L=[]) (c3:∀j,m.bl j→w2.heap.size≤j) (b3:Below w2.heap.size w2 w3) (hk:Acr w4 w3.heap.size r) (eR:r.L=[]) (b4:Below w3.heap.size w3 w4):PP w.heap.size w 0 w4 w2.heap.size w2.heap.size s w1.heap.size (.slice none 0 0) [] m r [] (.slice none 0 0) (.slice none 0 0):=by
 have z1:=b1.size
 have z2:=b2.size
 have z3:=b3.size
 have z4:=b4.size
 have b24:Below w2.heap.size w2 w4:=b3.trans (b4.mono z3)
 have b14:Below w1.heap.size w1 w4:=b2.trans (b24.mono z2)
 have hm4:=hm.below b4
 have lt:=hs.lt
 have R4:=hr.below b24
 refine ⟨⟨⟨hs.below b14,⟨R4.c0,R4.own.mono (Nat.zero_le _),R4.ok,Nat.zero_le _,R4.len⟩,Nat.lt_of_lt_of_le (lt s.sb (by simp [Sx.bl])) z2,Nat.lt_of_lt_of_le (lt s.mb (by simp [Sx.bl])) z2,fun j hj=>(by cases hj),by omega,c1,z1,by omega⟩,⟨⟨hm4.cell,hm4.lo.mono (Nat.zero_le _),hm4.ok,hm4.map,hm4.n⟩,⟨hk.cell,hk.row.mono z3,hk.ok,Nat.le_trans z3 hk.b,hk.n⟩,by rw [eL,eR],c3 _ (.inl rfl),c3 _ (.inr (.inl rfl)), .inr fun j hj=>c3 j (.inr (.inr hj)),fun x hx=>by rw [eL] at hx;(cases hx),by omega⟩,Nat.le_refl _,c3,fun p hp=>(by cases hp),b1.trans (b14.mono z1),Nat.zero_le _,by rw [eL];exact Nat.le_refl _,Nat.zero_le _⟩,⟨rfl, .inl ⟨rfl,rfl⟩⟩,⟨rfl, .inl ⟨rfl,rfl⟩⟩,fun j hj=>(by cases hj),fun j hj=>(by cases hj)⟩
theorem PP.ldo (h:PP n0 w0 n W F0 F s d v R m r P ov kv) {i:Nat} {p:Mx × Rx} (hp:P[i]? =some p):∃a c g e,ov= .slice (some ⟨a,0,none⟩) P.length c∧kv= .slice (some ⟨g,0,none⟩) P.length e∧∀X,Below W.heap.size W X→(Instr.loadAt 27 (pZ a (0+i))).run prog X= .ok (pZ p.1.mb 0) X∧(Instr.loadAt 29 (pZ g (0+i))).run prog X= .ok (pZ p.2.rb 0) X:=by
 have hi:=(List.getElem?_eq_some_iff.1 hp).1
 have ep:=(List.getElem?_eq_some_iff.1 hp).2
 obtain ⟨a,c,e1,_⟩:=h.lo.form (i:=i) (by rw [List.length_map];exact hi)
 obtain ⟨g,e,e2,_⟩:=h.lk.form (i:=i) (by rw [List.length_map];exact hi)
 rw [List.length_map] at e1 e2
 refine ⟨a,c,g,e,e1,e2,fun X b=> ?_⟩
 obtain ⟨a',c',e1',q1⟩:=(h.lo.below b).form (i:=i) (by rw [List.length_map];exact hi)
 obtain ⟨g',e',e2',q2⟩:=(h.lk.below b).form (i:=i) (by rw [List.length_map];exact hi)
 rw [List.length_map] at e1' e2'
 rw [e1] at e1'
 rw [e2] at e2'
 cases e1'
 cases e2'
 rw [List.getElem_map,ep] at q1 q2
 rw [Nat.zero_add]
 constructor
 ·have q:X.cell? ⟨a,i,none⟩=some (pZ p.1.mb 0):=q1
  clear q1 q2
  go_simp
 ·have q:X.cell? ⟨g,i,none⟩=some (pZ p.2.rb 0):=q2
  clear q1 q2
  go_simp
theorem PP.form (h:PP n0 w0 n W F0 F s d v R m r P ov kv):∃a c g e,ov= .slice a P.length c∧kv= .slice g P.length e:=by
 obtain ⟨a,c,e1,_⟩:=h.lo.open
 obtain ⟨g,e,e2,_⟩:=h.lk.open
 rw [List.length_map] at e1 e2
 exact ⟨a,c,g,e,e1,e2⟩
theorem PP.ids (h:PP n0 w0 n W F0 F s d v R m r P ov kv) :
 Calls prog 30 #[(pZ s.sb 0)] W fun e w1=> ∃x,e= .returned x∧Below W.heap.size W w1∧Calls prog 31 #[(pZ d 0)] w1 fun e w2=> ∃y,e= .returned y∧Below W.heap.size W w2∧Calls prog 29 #[x,y] w2 fun e w3=>e= .returned (.bool true)∧Below W.heap.size W w3:=by
 have ok:=Asp (Afq h.rv.ok.1) false
 have hl:(Ahg (Ab5 R) false).length≤7000000000000:=by
  have h1:(Ahg (Ab5 R) false).length≤(Ab5 R).length:=by
   unfold Ahg Adg
   rw [List.length_map]
   exact List.length_filter_le _ _
  rw [Adw] at h1
  have:=h.rv.ok.2
  omega
 refine (A3f h.q.sq.sq).mono ?_
 rintro e w1 ⟨x,rfl,o1,b1⟩
 refine ⟨x,rfl,b1,(A3c (h.rv.below b1)).mono ?_⟩
 rintro e w2 ⟨a,c,rfl,o2,b2⟩
 have b:=b1.trans (b2.mono b1.size)
 refine ⟨_,rfl,b, ?_⟩
 obtain ⟨a1,c1,e1,i1,_⟩:=Afd.open (Afd.below (show Afd w1 W.heap.size x (Ahg (Ab5 R) false) from o1) b2) ok
 obtain ⟨a2,c2,e2,i2,_⟩:=Afd.open o2 ok
 cases e2
 subst e1
 refine (Axh _ _ _ _ _ _ w2 i1 i2 ok ok hl).mono ?_
 rintro e w3 ⟨rfl,b3⟩
 exact ⟨by rw [decide_eq_true rfl],b.trans (b3.mono b.size)⟩
end
def PS (w:World) (n:Nat) (W:World) (sb d mb rb:Nat) (ov kv:Value):Prop:=∃F0 F v R m r s P,Sx.sb s=sb∧Mx.mb m=mb∧Rx.rb r=rb∧PP w.heap.size w n W F0 F s d v R m r P ov kv
def PSx (w:World) (n:Nat) (W:World) (sb d mb rb:Nat) (ov kv:Value) (bo:Nat) (x:OpM):Prop:=∃F0 F v R m r s P,Sx.sb s=sb∧Mx.mb m=mb∧Rx.rb r=rb∧PP w.heap.size w n W F0 F s d v R m r P ov kv∧RO.Bx W bo x∧¬PB s d v m r bo
def PF1 (w:World) (n:Nat) (W:World) (sb d mb rb:Nat) (ov kv:Value):Prop:=∃F0 F v R m r s P,Sx.sb s=sb∧Mx.mb m=mb∧Rx.rb r=rb∧PQ w.heap.size w n W F0 F s d v R m r P∧Ab7 W F0 27 ov ((P++[(m,r)]).map pMk)∧Ab7 W F0 29 kv (P.map pRk)
def PF2 (w:World) (n:Nat) (W:World) (sb d mb rb:Nat) (ov kv:Value):Prop:=∃F0 F v R m r s P,Sx.sb s=sb∧Mx.mb m=mb∧Rx.rb r=rb∧PQ w.heap.size w n W F0 F s d v R m r P∧Ab7 W F0 27 ov ((P++[(m,r)]).map pMk)∧Ab7 W F0 29 kv ((P++[(m,r)]).map pRk)
section
variable {w W W':World} {n sb d mb rb bo:Nat} {ov kv:Value} {x:OpM}
theorem PS.bel (h:PS w n W sb d mb rb ov kv):Below w.heap.size w W:=by
 obtain ⟨F0,F,v,R,m,r,s,P,_,_,_,h⟩:=h
 exact h.q.bel
theorem PS.sz (h:PS w n W sb d mb rb ov kv):w.heap.size≤W.heap.size:=h.bel.size
theorem PS.below (h:PS w n W sb d mb rb ov kv) (b:Below W.heap.size W W'):PS w n W' sb d mb rb ov kv:=by
 obtain ⟨F0,F,v,R,m,r,s,P,e1,e2,e3,h⟩:=h
 exact ⟨F0,F,v,R,m,r,s,P,e1,e2,e3,h.below b⟩
theorem PS.more (h:PS w n W sb d mb rb ov kv) {n':Nat} (hn:n≤n'):PS w n' W sb d mb rb ov kv:=by
 obtain ⟨F0,F,v,R,m,r,s,P,e1,e2,e3,h⟩:=h
 exact ⟨F0,F,v,R,m,r,s,P,e1,e2,e3,h.more hn⟩
theorem PSx.ps (h:PSx w n W sb d mb rb ov kv bo x):PS w n W sb d mb rb ov kv:=by
 obtain ⟨F0,F,v,R,m,r,s,P,e1,e2,e3,h,_⟩:=h
 exact ⟨F0,F,v,R,m,r,s,P,e1,e2,e3,h⟩
theorem PSx.bx (h:PSx w n W sb d mb rb ov kv bo x):RO.Bx W bo x:=by
 obtain ⟨F0,F,v,R,m,r,s,P,e1,e2,e3,h,b,_⟩:=h
 exact b
theorem PSx.drew (h:PSx w n W sb d mb rb ov kv bo x):PSx w n W.drew sb d mb rb ov kv bo x:=by
 obtain ⟨F0,F,v,R,m,r,s,P,e1,e2,e3,h,b,nb⟩:=h
 exact ⟨F0,F,v,R,m,r,s,P,e1,e2,e3,h.below ((Below.refl _ _).drew),b,nb⟩
theorem PS.boxed (h:PS w n W sb d mb rb ov kv) (hb:RO.Bx W' W.heap.size x) (b:Below W.heap.size W W'):PSx w n W' sb d mb rb ov kv W.heap.size x:=by
 obtain ⟨F0,F,v,R,m,r,s,P,e1,e2,e3,h⟩:=h
 exact ⟨F0,F,v,R,m,r,s,P,e1,e2,e3,h.below b,hb,fun q=>Nat.lt_irrefl _ (h.q.lt q)⟩
theorem Afu {O:Nat→Prop} (h:RO.Bx W bo x) (t:Tch O W W') (hn:¬O bo):RO.Bx W' bo x:=(t.block bo (Array.getElem?_eq_some_iff.1 h).1 hn).trans h
theorem PSx.add (h:PSx w n W sb d mb rb ov kv bo x) (hT:K.V.Tabs W) (hx:x.ok) (hn:n+1≤900000000000) :
 Calls prog 12 #[(pZ mb 0),x.id.v, .string x.nm,x.v.v,x.fr.v,x.ti.v, .int .i64 x.sd] W fun e w1=> ∃c,e= .returned (.int .i64 c)∧RO.Bx w1 bo x∧Calls prog 13 #[(pZ rb 0),x.id.v, .string x.nm,x.v.v,x.fr.v,x.ti.v, .int .i64 x.sd] w1 fun e w2=>e= .returned (.int .i64 c)∧RO.Bx w2 bo x∧PS w (n+1) w2 sb d mb rb ov kv:=by
 obtain ⟨F0,F,v,R,m,r,s,P,e1,e2,e3,h,b,nb⟩:=h
 subst e1 e2 e3
 refine (h.add hT (OpM.mkok hx) hn).mono ?_
 rintro e w1 ⟨rfl,t1,hc⟩
 refine ⟨_,rfl,Afu b t1 nb,hc.mono ?_⟩
 rintro e w2 ⟨rfl,t2,m',r',q1,q2,h2⟩
 exact ⟨rfl,Afu b t2 nb,F0,F,v,R,m',r',s,P,rfl,q1,q2,h2⟩
theorem PSx.undo (h:PSx w n W sb d mb rb ov kv bo x) (hx:x.ok) :
 Calls prog 14 #[(pZ mb 0),x.id.v] W fun e w1=> ∃c,e= .returned (.int .i64 c)∧RO.Bx w1 bo x∧Calls prog 15 #[(pZ rb 0),x.id.v] w1 fun e w2=>e= .returned (.int .i64 c)∧RO.Bx w2 bo x∧PS w (n+1) w2 sb d mb rb ov kv:=by
 obtain ⟨F0,F,v,R,m,r,s,P,e1,e2,e3,h,b,nb⟩:=h
 subst e1 e2 e3
 refine (h.undo hx.id).mono ?_
 rintro e w1 ⟨rfl,t1,hc⟩
 refine ⟨_,rfl,Afu b t1 nb,hc.mono ?_⟩
 rintro e w2 ⟨rfl,t2,m',r',q1,q2,h2⟩
 exact ⟨rfl,Afu b t2 nb,F0,F,v,R,m',r',s,P,rfl,q1,q2,h2⟩
theorem PSx.insert (h:PSx w n W sb d mb rb ov kv bo x) (hx:x.ok) (hn:n+2≤900000000000) :
 Calls prog 16 #[(pZ sb 0),x.id.v,x.fr.v] W fun e w1=> ∃c,e= .returned (.int .i64 c)∧RO.Bx w1 bo x∧Calls prog 17 #[(pZ d 0),x.id.v,x.fr.v] w1 fun e w2=>e= .returned (.int .i64 c)∧RO.Bx w2 bo x∧PS w (n+1) w2 sb d mb rb ov kv:=by
 obtain ⟨F0,F,v,R,m,r,s,P,e1,e2,e3,h,b,nb⟩:=h
 subst e1 e2 e3
 refine (h.insert hx.id hx.fr hn).mono ?_
 rintro e w1 ⟨rfl,t1,hc⟩
 refine ⟨_,rfl,Afu b t1 nb,hc.mono ?_⟩
 rintro e w2 ⟨rfl,t2,s',v',q1,h2⟩
 exact ⟨rfl,Afu b t2 nb,F0,F,v',_,m,r,s',P,q1,rfl,rfl,h2⟩
theorem PSx.show (h:PSx w n W sb d mb rb ov kv bo x) (hx:x.ok) (y:Bool) :
 Calls prog 18 #[(pZ sb 0),x.id.v, .bool y] W fun e w1=> ∃c,e= .returned (.int .i64 c)∧RO.Bx w1 bo x∧Calls prog 19 #[(pZ d 0),x.id.v, .bool y] w1 fun e w2=>e= .returned (.int .i64 c)∧RO.Bx w2 bo x∧PS w (n+1) w2 sb d mb rb ov kv:=by
 obtain ⟨F0,F,v,R,m,r,s,P,e1,e2,e3,h,b,nb⟩:=h
 subst e1 e2 e3
 refine (h.show hx.id y).mono ?_
 rintro e w1 ⟨rfl,t1,hc⟩
 refine ⟨_,rfl,Afu b t1 nb,hc.mono ?_⟩
 rintro e w2 ⟨rfl,t2,s',v',q1,h2⟩
 exact ⟨rfl,Afu b t2 nb,F0,F,v',_,m,r,s',P,q1,rfl,rfl,h2⟩
theorem PS.keepO (h:PS w n W sb d mb rb ov kv) (hn:n+1≤900000000000):∃b1 w1 ov' w2,(Instr.buildSlice 31 1 #[(0, (pZ mb 0))]).run prog W= .ok b1 w1∧(Builtin.append_ #[31,31] 31 #[ov,b1]).run prog w1= .ok ov' w2∧PF1 w n w2 sb d mb rb ov' kv:=by
 obtain ⟨F0,F,v,R,m,r,s,P,e1,e2,e3,h⟩:=h
 subst e1 e2 e3
 obtain ⟨b1,w1,ov',w2,q1,q2,q3⟩:=h.keepO hn
 exact ⟨b1,w1,ov',w2,q1,q2,F0,F,v,R,m,r,s,P,rfl,rfl,rfl,q3⟩
theorem PF1.keepK (h:PF1 w n W sb d mb rb ov kv) (hn:n+1≤900000000000):∃b1 w1 kv' w2,(Instr.buildSlice 32 1 #[(0, (pZ rb 0))]).run prog W= .ok b1 w1∧(Builtin.append_ #[32,32] 32 #[kv,b1]).run prog w1= .ok kv' w2∧PF2 w n w2 sb d mb rb ov kv':=by
 obtain ⟨F0,F,v,R,m,r,s,P,e1,e2,e3,h,lo,lk⟩:=h
 subst e1 e2 e3
 obtain ⟨b1,w1,kv',w2,q1,q2,q3⟩:=h.keepK lo lk hn
 exact ⟨b1,w1,kv',w2,q1,q2,F0,F,v,R,m,r,s,P,rfl,rfl,rfl,q3⟩
theorem PF2.fork (h:PF2 w n W sb d mb rb ov kv):Calls prog 20 #[(pZ mb 0)] W fun e w1=> ∃mb',e= .returned (pZ mb' 0)∧Calls prog 21 #[(pZ rb 0)] w1 fun e w2=> ∃rb',e= .returned (pZ rb' 0)∧PS w (n+1) w2 sb d mb' rb' ov kv:=by
 obtain ⟨F0,F,v,R,m,r,s,P,e1,e2,e3,h,lo,lk⟩:=h
 subst e1 e2 e3
 refine (h.fork lo lk).mono ?_
 rintro e w1 ⟨mb',rfl,_,hc⟩
 refine ⟨mb',rfl,hc.mono ?_⟩
 rintro e w2 ⟨rb',rfl,_,F',m',r',q1,q2,h2⟩
 exact ⟨rb',rfl,F0,F',v,R,m',r',s,_,rfl,q1,q2,h2⟩
theorem PS.len (h:PS w n W sb d mb rb ov kv):∃l:Int,(Calls prog 27 #[(pZ mb 0)] W fun e w'=>e= .returned (.int .i64 l)∧w'=W)∧Calls prog 28 #[(pZ rb 0)] W fun e w'=>e= .returned (.int .i64 l)∧w'=W:=by
 obtain ⟨F0,F,v,R,m,r,s,P,e1,e2,e3,h⟩:=h
 subst e1 e2 e3
 have:=Al7 h.q.cur.rk
 rw [h.q.cur.el] at this
 exact ⟨_,Amp h.q.cur.pm,this⟩
def Thr (A B C:Nat) (xa xb:Array Value) (W:World):Prop :=
 Calls prog A xa W fun e w1=> ∃v,e= .returned v∧Below W.heap.size W w1∧Calls prog B xb w1 fun e w2=> ∃u,e= .returned u∧Below W.heap.size W w2∧Calls prog C #[v,u] w2 fun e w3=>e= .returned (.bool true)∧Below W.heap.size W w3
theorem PS.spans (h:PS w n W sb d mb rb ov kv) (hT:K.V.Tabs W):Thr 25 26 22 #[(pZ mb 0), (pZ sb 0)] #[(pZ rb 0), (pZ d 0)] W:=by
 obtain ⟨F0,F,v,R,m,r,s,P,e1,e2,e3,h⟩:=h
 subst e1 e2 e3
 exact Ag7 h.q.sq.sq h.q.cur.pm h.q.cur.rk h.rv h.q.cur.el h.q.cur.rt hT
theorem PS.over (h:PS w n W sb d mb rb ov kv) {k:IdK} (hk:k.ok):Thr 23 24 22 #[(pZ mb 0), (pZ sb 0),k.v] #[(pZ rb 0), (pZ d 0),k.v] W:=by
 obtain ⟨F0,F,v,R,m,r,s,P,e1,e2,e3,h⟩:=h
 subst e1 e2 e3
 exact Aro h.q.sq.sq h.q.cur.pm h.q.cur.rk h.rv h.q.cur.el hk
theorem PS.ids (h:PS w n W sb d mb rb ov kv):Thr 30 31 29 #[(pZ sb 0)] #[(pZ d 0)] W:=by
 obtain ⟨F0,F,v,R,m,r,s,P,e1,e2,e3,h⟩:=h
 subst e1 e2 e3
 exact h.ids
theorem PS.olds (h:PS w n W sb d mb rb ov kv):∃(k:Nat) (a g:Option Addr) (c e:Nat),k≤n∧ov= .slice a k c∧kv= .slice g k e∧∀i,i<k→∃ab gb m1 r1,a=some ⟨ab,0,none⟩∧g=some ⟨gb,0,none⟩∧∀X,Below W.heap.size W X→K.V.Tabs X →
 (Instr.loadAt 27 (pZ ab (0+i))).run prog X= .ok (pZ m1 0) X∧(Instr.loadAt 29 (pZ gb (0+i))).run prog X= .ok (pZ r1 0) X ∧
 Thr 25 26 22 #[(pZ m1 0), (pZ sb 0)] #[(pZ r1 0), (pZ d 0)] X ∧
 ∃l:Int,(Calls prog 27 #[(pZ m1 0)] X fun e w'=>e= .returned (.int .i64 l)∧w'=X)∧Calls prog 28 #[(pZ r1 0)] X fun e w'=>e= .returned (.int .i64 l)∧w'=X:=by
 obtain ⟨F0,F,v,R,m,r,s,P,e1,e2,e3,h⟩:=h
 subst e1 e2 e3
 obtain ⟨a,c,g,e,q1,q2⟩:=h.form
 refine ⟨P.length,a,g,c,e,h.q.nP,q1,q2,fun i hi=> ?_⟩
 obtain ⟨p,hp⟩:∃p,P[i]? =some p:=⟨_,List.getElem?_eq_getElem hi⟩
 obtain ⟨ab,c',gb,e',z1,z2,ld⟩:=h.ldo hp
 rw [q1] at z1
 rw [q2] at z2
 cases z1
 cases z2
 refine ⟨ab,gb,p.1.mb,p.2.rb,rfl,rfl,fun X b hT=>⟨(ld X b).1,(ld X b).2, ?_, ?_⟩⟩
 ·have hm:=List.mem_of_getElem? hp
  have o:=((h.below b).q.old p hm).1
  exact Ag7 (h.below b).q.sq.sq o.pm o.rk (h.below b).rv o.el o.rt hT
 ·have o:=((h.below b).q.old p (List.mem_of_getElem? hp)).1
  have:=Al7 o.rk
  rw [o.el] at this
  exact ⟨_,Amp o.pm,this⟩
end
attribute [local go_sem] Oper.semAt_some
set_option maxHeartbeats 16000000 in
theorem Ao6 (w:World) (hT:K.V.Tabs w) {la:Option Addr} {lc:Nat} {O:List OpM} (hat:RO.At w la O) (hok:∀x∈O,x.ok) (hO:O.length≤800000000000):Calls prog 3 #[.slice la O.length lc] w fun e w'=>e= .returned (.bool true)∧Below w.heap.size w w':=by
 have HT:=Aaa (fun (W:World) (b:Below w.heap.size w W)=>hT.below b)
 have HAT:=Aaa (fun (W:World) (b:Below w.heap.size w W)=>hat.below b)
 have HOK:=Aaa hok
 obtain ⟨n,hn⟩:∃n,O.length=n:=⟨_,rfl⟩
 have HN:=Aaa (show O.length=n∧n≤800000000000 from ⟨hn,by omega⟩)
 rw [hn]
 clear hT hat hok hO hn
 have N1:=Aaa (A2t w)
 go_enter func3,ntmps3
 go_upto_region 1 with fail
 refine En.zq tab rfl (En.ca N1.out ?_)
 rintro _ w1 ⟨s,rfl,hs,c1,b1⟩
 refine ⟨_,rfl,En.ca (A2s w1) ?_⟩
 rintro _ w2 ⟨rfl,hr,b2⟩
 refine ⟨_,rfl,En.fi ?_⟩
 simp only [En.pM,En.pU,Act.put,qsA,qsB,qsC]
 clear N1
 go_upto_region 2 with fail
 refine En.zq tab rfl (En.ca (Ayj w2) ?_)
 rintro _ w3 ⟨m,rfl,hm,eL,c3,b3⟩
 refine ⟨_,rfl,En.ca (Ai9 w3) ?_⟩
 rintro _ w4 ⟨r,rfl,hk,eR,b4⟩
 refine ⟨_,rfl,En.fi ?_⟩
 simp only [En.pM,En.pU,Act.put,qsA,qsB,qsC]
 have ST:Hid (PS w 0 w4 s.sb w1.heap.size m.mb r.rb (.slice none 0 0) (.slice none 0 0)):=⟨_,_,_,_,_,_,_,_,rfl,rfl,rfl,Ax6 hs c1 b1 hr b2 hm eL c3 b3 hk eR b4⟩
 clear hs c1 b1 hr b2 hm eL c3 b3 hk eR b4
 generalize s.sb=sb at *
 generalize m.mb=mb0 at *
 generalize r.rb=rb0 at *
 generalize w1.heap.size=d at *
 clear s m r w1 w2 w3
 go_upto_region 3 with fail
 refine En.zq tab rfl (En.st (A0x _ _ _ _) (En.st (A4z _ _ _ _) (En.fi ?_)))
 simp only [En.pM,En.pU,Act.put,qsA,qsB,qsC]
 go_wp2
 go_loopw [5,6,7,8,25] (fun v5 v6 v7 v8 v25 wr=> ∃(i mb rb:Nat) (ov kv:Value),v5= (pZ mb 0)∧v6= (pZ rb 0)∧ov=v7∧kv=v8∧v25= .int .i64 (i:Int)∧i≤n∧Hid (PS w i wr sb d mb rb ov kv)) (fun _ _ _ _ v25 _=>n-(match v25 with | .int _ i=>i.toNat|_=>0))
 case atStart=>exact ⟨0,_,_,_,_,rfl,rfl,rfl,rfl,rfl,Nat.zero_le _,ST⟩
 case round =>
  clear ST
  obtain ⟨i,mb,rb,ov,kv,rfl,rfl,rfl,rfl,rfl,hin,HI⟩:=hrel
  have hn64:n≤9223372036854775807:=by have:=HN.out;omega
  by_cases hi:i<n
  ·obtain ⟨x,hx⟩:∃x,O[i]? =some x:=⟨_,List.getElem?_eq_getElem (by have:=HN.out;omega)⟩
   have okx:=HOK.out x (List.mem_of_getElem? hx)
   obtain ⟨g,o,rfl,_,hr⟩:=(HAT.out wr HI.out.bel).get (i:=i) (by have:=HN.out;omega)
   have hr':wr.rangeAt g (o+106*i) x.c:=by
        have e:O[i]'(by have:=HN.out;omega)=x:=(List.getElem?_eq_some_iff.1 hx).2
        rw [e] at hr;exact hr
   have LX:=Aae.ld A38 okx hr'
   have EA:=Aae.bx_zero A38 wr
   have ES:=Aae.bx_new A38 wr okx
   obtain ⟨hbx,hbl⟩:=Aae.bx_is RO wr x
   have X4:=HI.out.boxed hbx hbl
   have LB:=Aaa (show i+2≤900000000000 by have:=HN.out;omega)
   have MS:=Aaa (show n-(((i+1:Nat):Int)).toNat<n-((i:Nat):Int).toNat by simp only [Int.toNat_natCast];omega)
   obtain ⟨w5,hw5⟩:∃W,wr.alloc (.cells (RO.c x).toArray RO.e)=W:=⟨_,rfl⟩
   rw [hw5] at ES X4
   clear hr hr' hx hbx hbl hw5
   generalize wr.heap.size=bo at *
   go_upto_region 9 with fail
   refine En.zq tab rfl (En.st (A7v hi hn64 _) (En.st LX (En.ef EA (En.eu ES (En.fi ?_)))))
   simp only [En.pM,En.pU,Act.put,qsA,qsB,qsC]
   clear LX EA ES HI
   go_upto_region 11 with fail
   refine En.zq tab rfl (En.st (Arw (Aae.Bx.rng X4.bx)) (En.fi ?_))
   simp only [En.pM,En.pU,Act.put,qsA,qsB,qsC]
   have hb5:=X4.ps.bel
   have T5:=Aaa (HT.out _ ((hb5.trans ((Below.refl _ _).drew)).mono (Nat.le_refl _)))
   have X5:=Aaa X4
   have D5:=Aaa X4.drew
   clear X4 hb5
   have H1:=Aaa (fun (W:World) (q:RO.Bx W bo x)=>A7m (b:=bo) (o:=0) okx (Aae.Bx.rng q))
   have H2:=Aaa (fun (W:World) (q:RO.Bx W bo x)=>A7n (b:=bo) (o:=0) okx (Aae.Bx.rng q))
   have H0:=Aaa (fun (W:World) (q:RO.Bx W bo x)=>Arw (b:=bo) (o:=0) (Aae.Bx.rng q))
   by_cases k0:x.kind=0
   case' pos =>
        have q0:(x.kind==0)=true:=by simp [k0]
        clear k0
        have CA:=Aaa (D5.out.add T5.out okx (by have:=LB.out;omega))
        go_upto_region 14 with fail
        refine En.zy tab [0,1,2,3,4,5,6,7,8,9,10,11,12,14,15,16,17,18,19,20,21,22,23,24,25,26,13,27,28,29] 30 (fun W=>RO.Bx W bo x) (hS:=D5.out.bx) (h:=En.sty (H1.out) (En.sty (fun W q=>A5f okx (Aae.Bx.rng q)) (En.sty (fun W q=>A8p okx (Aae.Bx.rng q)) (En.sty (H2.out) (En.sty (fun W q=>A5d okx (Aae.Bx.rng q)) (En.sty (fun W q=>A5e okx (Aae.Bx.rng q)) (En.sty (H1.out) (En.sty (fun W q=>A5f okx (Aae.Bx.rng q)) (En.sty (fun W q=>A8p okx (Aae.Bx.rng q)) (En.sty (H2.out) (En.sty (fun W q=>A5d okx (Aae.Bx.rng q)) (En.sty (fun W q=>A5e okx (Aae.Bx.rng q)) (En.cay CA.out ?_)))))))))))))
        rintro _ wa ⟨cc,rfl,ba,hc⟩
        refine ⟨_,rfl,ba,En.cay hc ?_⟩
        rintro _ wz ⟨rfl,bz,pz⟩
        refine ⟨_,rfl,bz,En.cm (c':=true) (by simp) (En.fi ?_)⟩
        simp only [En.pM,En.pU,Act.put,qsA,qsB,qsC]
        have HC:=Aaa pz
        clear CA hc ba bz pz H0 H1 H2 X5 D5 T5
   case' neg =>
        have q0:(x.kind==0)=false:=by simp [k0]
        clear k0
        by_cases k1:x.kind=1
        case' pos =>
         have q1:(x.kind==1)=true:=by simp [k1]
         clear k1
         have CA:=Aaa (D5.out.undo okx)
         go_upto_region 16 with fail
         refine En.zy tab [0,1,2,4,5,6,3,7,8,9] 10 (fun W=>RO.Bx W bo x) (hS:=D5.out.bx) (h:=En.sty H1.out (En.sty H1.out (En.cay CA.out ?_)))
         rintro _ wa ⟨cc,rfl,ba,hc⟩
         refine ⟨_,rfl,ba,En.cay hc ?_⟩
         rintro _ wz ⟨rfl,bz,pz⟩
         refine ⟨_,rfl,bz,En.cm (c':=true) (by simp) (En.fi ?_)⟩
         simp only [En.pM,En.pU,Act.put,qsA,qsB,qsC]
         have HC:=Aaa pz
         clear CA hc ba bz pz H0 H1 H2 X5 D5 T5
        case' neg =>
         have q1:(x.kind==1)=false:=by simp [k1]
         clear k1
         by_cases k2:x.kind=2
         case' pos =>
          have q2:(x.kind==2)=true:=by simp [k2]
          clear k2
          have CA:=Aaa (D5.out.insert okx LB.out)
          go_upto_region 18 with fail
          refine En.zy tab [0,1,2,3,4,6,7,8,9,10,5,11,12,13] 14 (fun W=>RO.Bx W bo x) (hS:=D5.out.bx) (h:=En.sty H1.out (En.sty H2.out (En.sty H1.out (En.sty H2.out (En.cay CA.out ?_)))))
          rintro _ wa ⟨cc,rfl,ba,hc⟩
          refine ⟨_,rfl,ba,En.cay hc ?_⟩
          rintro _ wz ⟨rfl,bz,pz⟩
          refine ⟨_,rfl,bz,En.cm (c':=true) (by simp) (En.fi ?_)⟩
          simp only [En.pM,En.pU,Act.put,qsA,qsB,qsC]
          have HC:=Aaa pz
          clear CA hc ba bz pz H0 H1 H2 X5 D5 T5
         case' neg =>
          have q2:(x.kind==2)=false:=by simp [k2]
          clear k2
          by_cases k3:x.kind=3
          case' pos =>
              have q3:(x.kind==3)=true:=by simp [k3]
              clear k3
              have CA:=Aaa (D5.out.show okx (decide (x.kind=4)))
              go_upto_region 21 with fail
              refine En.zy tab [0,1,2,3,4,5,7,8,9,10,11,12,6,13,14,15] 16 (fun W=>RO.Bx W bo x) (hS:=D5.out.bx) (h:=En.sty H1.out (En.sty H0.out (En.cm (c':=decide (x.kind=4)) rfl (En.sty H1.out (En.sty H0.out (En.cm (c':=decide (x.kind=4)) rfl (En.cay CA.out ?_)))))))
              rintro _ wa ⟨cc,rfl,ba,hc⟩
              refine ⟨_,rfl,ba,En.cay hc ?_⟩
              rintro _ wz ⟨rfl,bz,pz⟩
              refine ⟨_,rfl,bz,En.cm (c':=true) (by simp) (En.fi ?_)⟩
              simp only [En.pM,En.pU,Act.put,qsA,qsB,qsC]
              have HC:=Aaa pz
              clear CA hc ba bz pz H0 H1 H2 X5 D5 T5
          case' neg =>
              have q3:(x.kind==3)=false:=by simp [k3]
              clear k3
              by_cases k4:x.kind=4
              case' pos =>
               have q4:(x.kind==4)=true:=by simp [k4]
               clear k4
               have CA:=Aaa (D5.out.show okx (decide (x.kind=4)))
               go_upto_region 21 with fail
               refine En.zy tab [0,1,2,3,4,5,7,8,9,10,11,12,6,13,14,15] 16 (fun W=>RO.Bx W bo x) (hS:=D5.out.bx) (h:=En.sty H1.out (En.sty H0.out (En.cm (c':=decide (x.kind=4)) rfl (En.sty H1.out (En.sty H0.out (En.cm (c':=decide (x.kind=4)) rfl (En.cay CA.out ?_)))))))
               rintro _ wa ⟨cc,rfl,ba,hc⟩
               refine ⟨_,rfl,ba,En.cay hc ?_⟩
               rintro _ wz ⟨rfl,bz,pz⟩
               refine ⟨_,rfl,bz,En.cm (c':=true) (by simp) (En.fi ?_)⟩
               simp only [En.pM,En.pU,Act.put,qsA,qsB,qsC]
               have HC:=Aaa pz
               clear CA hc ba bz pz H0 H1 H2 X5 D5 T5
              case' neg =>
               have q4:(x.kind==4)=false:=by simp [k4]
               clear k4
               by_cases k5:x.kind=5
               case' pos =>
                have q5:(x.kind==5)=true:=by simp [k5]
                clear k5
                obtain ⟨b1,wa,ov',wb,e1,e2,P1⟩:=X5.out.ps.keepO (by have:=LB.out;omega)
                obtain ⟨b2,wc,kv',we,e3,e4,P2⟩:=P1.keepK (by have:=LB.out;omega)
                have F2:=Aaa P2.fork
                clear P1 P2 H0 H1 H2 X5 D5 T5
                go_upto_region 23 with fail
                refine En.zq tab rfl (En.ef e1 (En.ef e2 (En.fi ?_)))
                simp only [En.pM,En.pU,Act.put,qsA,qsB,qsC]
                clear e1 e2
                go_upto_region 24 with fail
                refine En.zq tab rfl (En.ef e3 (En.ef e4 (En.fi ?_)))
                simp only [En.pM,En.pU,Act.put,qsA,qsB,qsC]
                clear e3 e4
                go_upto_region 25 with fail
                refine En.zq tab rfl (En.ca F2.out ?_)
                rintro _ wf ⟨mb',rfl,hc⟩
                refine ⟨_,rfl,En.ca hc ?_⟩
                rintro _ wz ⟨rb',rfl,pz⟩
                refine ⟨_,rfl,En.fi ?_⟩
                simp only [En.pM,En.pU,Act.put,qsA,qsB,qsC]
                have HC:=Aaa pz
                clear hc pz F2
                go_upto_region 26 with fail
                refine En.zq tab rfl (En.st (A4w _ _ _ _) (En.fi ?_))
                simp only [En.pM,En.pU,Act.put,qsA,qsB,qsC]
               case' neg =>
                have q5:(x.kind==5)=false:=by simp [k5]
                clear k5
                by_cases k6:x.kind=6
                case' pos =>
                    have q6:(x.kind==6)=true:=by simp [k6]
                    clear k6
                    have OV:=Aaa (D5.out.ps.over okx.id)
                    go_upto_region 28 with fail
                    refine En.zy tab [0,1,2,3,5,6,7,8,4,9,10,11] 12 (fun W=>RO.Bx W bo x) (hS:=D5.out.bx) (h:=En.sty H1.out (En.sty H1.out (En.cay OV.out ?_)))
                    rintro _ wa ⟨v,rfl,ba,hc⟩
                    refine ⟨_,rfl,Aae.Bx.below D5.out.bx ba,En.cay hc ?_⟩
                    rintro _ wb ⟨u,rfl,bb,hd⟩
                    refine ⟨_,rfl,Aae.Bx.below D5.out.bx bb,En.cay hd ?_⟩
                    rintro _ wz ⟨rfl,bz⟩
                    refine ⟨_,rfl,Aae.Bx.below D5.out.bx bz,En.fi ?_⟩
                    simp only [En.pM,En.pU,Act.put,qsA,qsB,qsC]
                    have HC:=Aaa ((D5.out.ps.below bz).more (Nat.le_succ i))
                    clear OV hc hd ba bb bz H0 H1 H2 X5 D5 T5
                case' neg =>
                    have q6:(x.kind==6)=false:=by simp [k6]
                    clear k6
                    have SP:=Aaa (X5.out.ps.spans (HT.out _ X5.out.ps.bel))
                    go_upto_region 12 with fail
                    refine En.zq tab rfl (En.ca SP.out ?_)
                    rintro _ wa ⟨v,rfl,ba,hc⟩
                    refine ⟨_,rfl,En.ca hc ?_⟩
                    rintro _ wb ⟨u,rfl,bb,hd⟩
                    refine ⟨_,rfl,En.ca hd ?_⟩
                    rintro _ wz ⟨rfl,bz⟩
                    refine ⟨_,rfl,En.fi ?_⟩
                    simp only [En.pM,En.pU,Act.put,qsA,qsB,qsC]
                    have HC:=Aaa ((X5.out.ps.below bz).more (Nat.le_succ i))
                    clear SP hc hd ba bb bz H0 H1 H2 X5 D5 T5
   all_goals (
        obtain ⟨l,L1,L2⟩:=HC.out.len
        have HL1:=Aaa L1
        have HL2:=Aaa L2
        clear L1 L2
        go_upto_region 29 with fail
        refine En.zq tab rfl (En.ca HL1.out ?_)
        rintro _ _ ⟨rfl,rfl⟩
        refine ⟨_,rfl,En.ca HL2.out ?_⟩
        rintro _ _ ⟨rfl,rfl⟩
        refine ⟨_,rfl,En.cm (c':=false) (by simp) (En.fi ?_)⟩
        simp only [En.pM,En.pU,Act.put,qsA,qsB,qsC]
        clear HL1 HL2
        go_wp2
        rw [show ((i:Int)+1)=((i+1:Nat):Int) by omega]
        exact ⟨⟨i+1,_,_,_,_,rfl,rfl,rfl,rfl,rfl,hi,HC⟩,MS.out⟩)
  ·obtain rfl:i=n:=by omega
   generalize wr=wo at *
   obtain ⟨k,a,g,c,e,hk,rfl,rfl,hK⟩:=HI.out.olds
   have HK:=Aaa hK
   have hk64:k≤9223372036854775807:=by omega
   clear hK
   go_wp2
   go_loopw [12] (fun v12 wq=> ∃j:Nat,v12= .int .i64 (j:Int)∧j≤k∧Hid (Below wo.heap.size wo wq)) (fun v12 _=>k-(match v12 with | .int _ j=>j.toNat|_=>0))
   case atStart=>exact ⟨0,rfl,Nat.zero_le _,Below.refl _ _⟩
   case round =>
        obtain ⟨j,rfl,hjk,HB⟩:=hrel
        by_cases hj:j<k
        ·obtain ⟨ab,gb,m1,r1,rfl,rfl,ld⟩:=HK.out j hj
         have HLD:=Aaa (fun (X:World) (b:Below wo.heap.size wo X)=>ld X b (HT.out X (HI.out.bel.trans (b.mono HI.out.sz))))
         have B0:Below wo.heap.size wo wr.drew:=HB.out.trans ((Below.refl _ _).drew)
         obtain ⟨_,_,SP,_⟩:=HLD.out _ B0
         have HSP:=Aaa SP
         have MS:=Aaa (show k-(((j+1:Nat):Int)).toNat<k-((j:Nat):Int).toNat by simp only [Int.toNat_natCast];omega)
         clear ld SP HB
         go_upto_region 35 with fail
         refine En.zy tab [0,1,2,3,4,6,7,8,9,10,5,11,12,13,14,15,16,17,18,20,21,22,23,19,24,25,26] 27 (fun W=>Below wo.heap.size wo W) (hS:=B0) (h:=En.sty (fun W _=>A50 hj hk64 W) (En.sty (fun W b=>(HLD.out W b).1) (En.sty (fun W _=>A5z hj hk64 W) (En.sty (fun W b=>(HLD.out W b).2.1) (En.cay HSP.out ?_)))))
         rintro _ wa ⟨v,rfl,ba,hc⟩
         refine ⟨_,rfl,B0.trans (ba.mono B0.size),En.cay hc ?_⟩
         rintro _ wb ⟨u,rfl,bb,hd⟩
         refine ⟨_,rfl,B0.trans (bb.mono B0.size),En.cay hd ?_⟩
         rintro _ wc ⟨rfl,bc⟩
         have B3:Below wo.heap.size wo wc:=B0.trans (bc.mono B0.size)
         obtain ⟨_,_,_,l,L1,L2⟩:=HLD.out _ B3
         refine ⟨_,rfl,B3,En.sty (fun W _=>A50 hj hk64 W) (En.sty (fun W b=>(HLD.out W b).1) (En.sty (fun W _=>A5z hj hk64 W) (En.sty (fun W b=>(HLD.out W b).2.1) (En.cay L1 ?_))))⟩
         rintro _ _ ⟨rfl,rfl⟩
         refine ⟨_,rfl,B3,En.cay L2 ?_⟩
         rintro _ _ ⟨rfl,rfl⟩
         refine ⟨_,rfl,B3,En.cm (c':=false) (by simp) (En.fi ?_)⟩
         simp only [En.pM,En.pU,Act.put,qsA,qsB,qsC]
         have HB3:=Aaa B3
         clear hc hd ba bb bc L1 L2 HSP B0 B3 HLD
         go_wp2
         rw [show ((j:Int)+1)=((j+1:Nat):Int) by omega]
         exact ⟨⟨j+1,rfl,hj,HB3⟩,MS.out⟩
        ·obtain rfl:j=k:=by omega
         have PE:=HI.out.below HB.out
         have TE:=HT.out _ PE.bel
         have SP:=Aaa (PE.spans TE)
         have HPE:=Aaa PE
         clear PE TE
         go_upto_region 37 with fail
         refine En.zq tab rfl (En.ca SP.out ?_)
         rintro _ wa ⟨v,rfl,ba,hc⟩
         refine ⟨_,rfl,En.ca hc ?_⟩
         rintro _ wb ⟨u,rfl,bb,hd⟩
         refine ⟨_,rfl,En.ca hd ?_⟩
         rintro _ wc ⟨rfl,bc⟩
         have PI:=HPE.out.below bc
         refine ⟨_,rfl,En.ca PI.ids ?_⟩
         rintro _ wa ⟨v,rfl,b1,hc⟩
         refine ⟨_,rfl,En.ca hc ?_⟩
         rintro _ wb ⟨u,rfl,b2,hd⟩
         refine ⟨_,rfl,En.ca hd ?_⟩
         rintro _ we ⟨rfl,b3⟩
         refine ⟨_,rfl,En.fi ?_⟩
         simp only [En.pM,En.pU,Act.put,qsA,qsB,qsC]
         have HE:=Aaa (PI.bel.trans (b3.mono PI.sz))
         clear hc hd ba bb bc b1 b2 b3 SP PI
         go_wp2
         go_ret
         exact ⟨rfl,HE.out⟩
end
end Go.Proofs.YtifendlpeebofaaGreatDoor
