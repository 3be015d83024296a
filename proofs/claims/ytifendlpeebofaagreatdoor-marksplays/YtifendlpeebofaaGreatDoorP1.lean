import Derived.Test.YtifendlpeebofaaGreatDoorP0
set_option linter.unusedSectionVars false
set_option linter.unusedSimpArgs false
set_option linter.unusedVariables false
set_option maxRecDepth 100000
set_option maxHeartbeats 4000000
namespace Go.Proofs.YtifendlpeebofaaGreatDoor
open Go.Proofs.Tryz
namespace Sq
structure KpV where
 id:IdK
 bh:IdK
 fol:Int
structure Sp where
 kp:KpV
 sh:Bool
 up:Nat
 l:Nat
 r:Nat
 ca:Nat
 cl:Nat
section
def zK:KpV:=⟨zId,zId,0⟩
def zSp:Sp:=⟨zK,false,0,0,0,0,0⟩
def gt (L:List Sp) (i:Nat):Sp:=L.getD i zSp
def md (L:List Sp) (i:Nat) (f:Sp→Sp):List Sp:=L.modify i f
@[simp] theorem md_len (L:List Sp) (i:Nat) (f:Sp→Sp):(md L i f).length=L.length:=by simp [md]
theorem gt_md (L:List Sp) (i j:Nat) (f:Sp→Sp):gt (md L i f) j=if i=j∧i<L.length then f (gt L j) else gt L j:=by
 unfold gt md
 rw [List.getD_eq_getElem?_getD,List.getD_eq_getElem?_getD,List.getElem?_modify]
 by_cases h:i=j
 ·subst h
  by_cases h2:i<L.length
  ·simp [h2]
  ·simp [h2]
 ·simp [h]
def dn (s:Sp) (b:Bool):Nat:=if b then s.r else s.l
def setDn (s:Sp) (b:Bool) (x:Nat):Sp:=if b then {s with r:=x} else {s with l:=x}
def ct (s:Sp) (w:Bool):Nat:=if w then s.cl else s.ca
def hangD (L:List Sp) (u:Nat) (b:Bool) (p:Nat):List Sp:=md L u (setDn · b p)
def setUp (L:List Sp) (p u:Nat):List Sp:=md L p (fun s=>{s with up:=u})
def hang (L:List Sp) (u:Nat) (b:Bool) (p:Nat):List Sp:=if p=0 then hangD L u b p else setUp (hangD L u b p) p u
def sideOf (L:List Sp) (a:Nat):Bool:= !((gt L (gt L a).up).l==a)
def repl (L:List Sp) (a p:Nat):List Sp:=hang L (gt L a).up (sideOf L a) p
def own (L:List Sp) (a:Nat) (w:Bool):Nat:=if w=false∨(gt L a).sh=true then 1 else 0
def under (L:List Sp) (a:Nat) (b w:Bool):Nat:=ct (gt L (dn (gt L a) b)) w
def upTo (L:List Sp) (a:Nat) (w:Bool):Nat:=under L a false w+own L a w
def tallyW (L:List Sp) (a:Nat) (w:Bool):List Sp:=md L a (fun s=>if w then {s with cl:=upTo L a w+under L a true w} else {s with ca:=upTo L a w+under L a true w})
def tally (L:List Sp) (a:Nat):List Sp:=tallyW (tallyW L a false) a true
def wt (L:List Sp) (a:Nat):Nat:=(gt L a).ca+1
def lift0 (L:List Sp) (a:Nat):List Sp :=
 let u:=(gt L a).up
 let s:=sideOf L a
 let L1:=repl L u a
 let L2:=hang L1 u s (dn (gt L1 a) (!s))
 hang L2 a (!s) u
def lift (L:List Sp) (a:Nat):List Sp:=tally (tally (lift0 L a) (gt L a).up) a
def heavyAt (L:List Sp) (a:Nat) (s:Bool):Bool:=decide (3*wt L (dn (gt L a) (!s))<wt L (dn (gt L a) s))
def evenAt (L:List Sp) (a:Nat) (s:Bool):List Sp × Nat :=
 let p:=dn (gt L a) s
 let inn:=dn (gt L p) (!s)
 let out:=dn (gt L p) s
 if 2*wt L out≤wt L inn then (lift (lift L inn) inn,inn) else (lift L p,p)
def even (L:List Sp) (a:Nat):List Sp × Nat :=
 if heavyAt L a false then evenAt L a false else if heavyAt L a true then evenAt L a true else (L,a)
inductive T where
 |nil
 |nd (i:Nat) (l r:T)
def T.ix:T→Nat
 | .nil=>0
 | .nd i _ _=>i
def T.ids:T→List Nat
 | .nil=>[]
 | .nd i l r=>l.ids++i::r.ids
def Rep (L:List Sp):Nat→T→Prop
 |_, .nil=>True
 |p, .nd i l r=>i≠0∧i<L.length∧(gt L i).up=p∧(gt L i).l=l.ix∧(gt L i).r=r.ix∧Rep L i l∧Rep L i r
def cnt (L:List Sp) (w:Bool) (t:T):Nat:=t.ids.countP (fun i=> !w||(gt L i).sh)
def Cnt (L:List Sp):T→Prop
 | .nil=>True
 | .nd i l r=>(∀w,ct (gt L i) w=cnt L w (.nd i l r))∧Cnt L l∧Cnt L r
abbrev Ctx:=List (Nat × Bool × T)
def mk (i:Nat) (s:Bool) (t o:T):T:=if s then .nd i o t else .nd i t o
def plug:Ctx→T→T
 |[],t=>t
 |(i,s,o)::c,t=>plug c (mk i s t o)
def upOf:Ctx→Nat
 |[]=>0
 |(i,_,_)::_=>i
def RepC (L:List Sp):Ctx→Nat→Prop
 |[],h=>0<L.length∧(gt L 0).r=h∧(gt L 0).l=0
 |(i,s,o)::c,h=>i≠0∧i<L.length∧(gt L i).up=upOf c∧dn (gt L i) s=h∧dn (gt L i) (!s)=o.ix∧Rep L i o∧RepC L c i
def CntC (L:List Sp):Ctx→Prop
 |[]=>True
 |(_,_,o)::c=>Cnt L o∧CntC L c
def cids:Ctx→List Nat
 |[]=>[]
 |(i,_,o)::c=>i::(o.ids++cids c)
structure Alike (L L':List Sp) (i:Nat):Prop where
 up:(gt L' i).up=(gt L i).up
 l:(gt L' i).l=(gt L i).l
 r:(gt L' i).r=(gt L i).r
theorem Rep.same {L L':List Sp} (hl:L'.length=L.length):∀{t:T} {p:Nat},Rep L p t→(∀i∈t.ids,Alike L L' i)→Rep L' p t
 | .nil,_,_,_=>trivial
 | .nd i l r,p,h,hs=>by
   obtain ⟨h1,h2,h3,h4,h5,h6,h7⟩:=h
   have e:=hs i (by simp [T.ids])
   refine ⟨h1,by rw [hl];exact h2,by rw [e.up];exact h3,by rw [e.l];exact h4,by rw [e.r];exact h5, ?_, ?_⟩
   ·exact Rep.same hl h6 (fun j hj=>hs j (by simp [T.ids,hj]))
   ·exact Rep.same hl h7 (fun j hj=>hs j (by simp [T.ids,hj]))
theorem cnt_same {L L':List Sp} {w:Bool} {t:T} (hs:∀i∈t.ids,(gt L' i).sh=(gt L i).sh):cnt L' w t=cnt L w t:=by
 unfold cnt
 refine List.countP_congr fun i hi=> ?_
 rw [hs i hi]
theorem Cnt.same {L L':List Sp}:∀{t:T},Cnt L t→(∀i∈t.ids,(gt L' i).sh=(gt L i).sh∧∀w,ct (gt L' i) w=ct (gt L i) w)→Cnt L' t
 | .nil,_,_=>trivial
 | .nd i l r,h,hs=>by
   obtain ⟨h1,h6,h7⟩:=h
   have e:=hs i (by simp [T.ids])
   refine ⟨fun w=> ?_, ?_, ?_⟩
   ·rw [e.2 w,h1 w,cnt_same (fun j hj=>(hs j hj).1)]
   ·exact Cnt.same h6 (fun j hj=>hs j (by simp [T.ids,hj]))
   ·exact Cnt.same h7 (fun j hj=>hs j (by simp [T.ids,hj]))
theorem Cnt.at {L:List Sp} {t:T} (h:Cnt L t) (h0:∀w,ct (gt L 0) w=0) (w:Bool):ct (gt L t.ix) w=cnt L w t:=by
 cases t with
 |nil=>rw [T.ix,h0 w];simp [cnt,T.ids]
 |nd i l r=>exact h.1 w
theorem cnt_nd (L:List Sp) (w:Bool) (i:Nat) (l r:T):cnt L w (.nd i l r)=cnt L w l+(if w=false∨(gt L i).sh=true then 1 else 0)+cnt L w r:=by
 unfold cnt
 rw [T.ids,List.countP_append,List.countP_cons]
 cases w <;>cases h:(gt L i).sh <;>simp [h] <;>omega
theorem RepC.same {L L':List Sp} (hl:L'.length=L.length):∀{c:Ctx} {h:Nat},RepC L c h→(∀i∈cids c,Alike L L' i)→((gt L' 0).l=(gt L 0).l∧(gt L' 0).r=(gt L 0).r)→RepC L' c h
 |[],h,⟨a,b,d⟩,_,h0=>⟨by omega,by rw [h0.2];exact b,by rw [h0.1];exact d⟩
 |(i,s,o)::c,h,⟨h1,h2,h3,h4,h5,h6,h7⟩,hs,h0=>by
  have e:=hs i (by simp [cids])
  refine ⟨h1,by omega,by rw [e.up];exact h3, ?_, ?_,Rep.same hl h6 (fun j hj=>hs j (by simp [cids,hj])),RepC.same hl h7 (fun j hj=>hs j (by simp [cids,hj])) h0⟩
  ·simp only [dn,e.l,e.r] at h4 ⊢;exact h4
  ·simp only [dn,e.l,e.r] at h5 ⊢;exact h5
theorem CntC.same {L L':List Sp}:∀{c:Ctx},CntC L c→(∀i∈cids c,(gt L' i).sh=(gt L i).sh∧∀w,ct (gt L' i) w=ct (gt L i) w)→CntC L' c
 |[],_,_=>trivial
 |(i,s,o)::c,⟨h1,h2⟩,hs=>⟨Cnt.same h1 (fun j hj=>hs j (by simp [cids,hj])),CntC.same h2 (fun j hj=>hs j (by simp [cids,hj]))⟩
theorem mk_perm (i:Nat) (s:Bool) (t o:T):(mk i s t o).ids.Perm (i::(t.ids++o.ids)):=by
 cases s
 ·simp only [mk,T.ids,Bool.false_eq_true,if_false]
  exact List.perm_middle
 ·simp only [mk,T.ids,if_true]
  refine List.perm_middle.trans (List.Perm.cons _ List.perm_append_comm)
theorem plug_perm:∀(c:Ctx) (t:T),(plug c t).ids.Perm (t.ids++cids c)
 |[],t=>by simp [plug,cids]
 |(i,s,o)::c,t=>by
  rw [plug,cids]
  refine (plug_perm c _).trans ?_
  refine ((mk_perm i s t o).append_right _).trans ?_
  rw [List.cons_append,List.append_assoc]
  exact (List.perm_middle (l₁:=t.ids) (l₂:=o.ids++cids c) (a:=i)).symm
def pre:Ctx→List Nat
 |[]=>[]
 |(i,s,o)::c=>pre c++(if s then o.ids++[i] else [])
def post:Ctx→List Nat
 |[]=>[]
 |(i,s,o)::c=>(if s then [] else i::o.ids)++post c
theorem plug_ids:∀(c:Ctx) (t:T),(plug c t).ids=pre c++t.ids++post c
 |[],t=>by simp [plug,pre,post]
 |(i,s,o)::c,t=>by
  rw [plug,plug_ids c]
  cases s <;>simp [mk,T.ids,pre,post]
theorem rep_ix {L:List Sp} {p:Nat} {t:T} (h:Rep L p t):t.ix=0↔t= .nil:=by
 cases t with
 |nil=>simp [T.ix]
 |nd i l r=>simp [T.ix];exact h.1
theorem ix_mem {t:T} (h:t.ix≠0):t.ix∈t.ids:=by
 cases t with
 |nil=>simp [T.ix] at h
 |nd i l r=>simp [T.ix,T.ids]
theorem Rep.mem {L:List Sp}:∀{t:T} {p:Nat},Rep L p t→∀i∈t.ids,i≠0∧i<L.length
 | .nil,_,_,i,hi=>by simp [T.ids] at hi
 | .nd j l r,p,h,i,hi=>by
   simp only [T.ids,List.mem_append,List.mem_cons] at hi
   rcases hi with hi|rfl|hi
   ·exact Rep.mem h.2.2.2.2.2.1 i hi
   ·exact ⟨h.1,h.2.1⟩
   ·exact Rep.mem h.2.2.2.2.2.2 i hi
theorem RepC.mem {L:List Sp}:∀{c:Ctx} {h:Nat},RepC L c h→∀i∈cids c,i≠0∧i<L.length
 |[],_,_,i,hi=>by simp [cids] at hi
 |(j,s,o)::c,h,hc,i,hi=>by
  obtain ⟨h1,h2,h3,h4,h5,h6,h7⟩:=hc
  simp only [cids,List.mem_append,List.mem_cons] at hi
  rcases hi with rfl|hi|hi
  ·exact ⟨h1,h2⟩
  ·exact h6.mem i hi
  ·exact RepC.mem h7 i hi
theorem RepC.pos {L:List Sp}:∀{c:Ctx} {h:Nat},RepC L c h→0<L.length
 |[],_,h=>h.1
 |(i,s,o)::c,h,hc=>RepC.pos hc.2.2.2.2.2.2
end
section
theorem dn_setDn (s:Sp) (b b':Bool) (x:Nat):dn (setDn s b x) b'=if b'=b then x else dn s b':=by
 cases b <;>cases b' <;>simp [dn,setDn]
theorem setDn_up (s:Sp) (b:Bool) (x:Nat):(setDn s b x).up=s.up∧(setDn s b x).sh=s.sh∧(setDn s b x).kp=s.kp∧∀w,ct (setDn s b x) w=ct s w:=by
 cases b <;>simp [setDn,ct]
theorem hang_len (L:List Sp) (u:Nat) (b:Bool) (p:Nat):(hang L u b p).length=L.length:=by
 unfold hang hangD setUp
 split <;>simp
theorem hang_up (L:List Sp) (u:Nat) (b:Bool) (p j:Nat):(gt (hang L u b p) j).up=if p=j∧p≠0∧p<L.length then u else (gt L j).up:=by
 unfold hang
 split
 ·next h =>
  subst h
  rw [if_neg (by simp)]
  unfold hangD
  rw [gt_md]
  split
  ·exact (setDn_up _ _ _).1
  ·rfl
 ·next h =>
  unfold setUp hangD
  rw [gt_md,md_len]
  by_cases e:p=j∧p<L.length
  ·rw [if_pos e,if_pos ⟨e.1,h,e.2⟩]
  ·rw [if_neg e,if_neg (fun q=>e ⟨q.1,q.2.2⟩),gt_md]
   split
   ·exact (setDn_up _ _ _).1
   ·rfl
theorem hang_dn (L:List Sp) (u:Nat) (b:Bool) (p j:Nat) (b':Bool):dn (gt (hang L u b p) j) b'=if u=j∧b'=b∧u<L.length then p else dn (gt L j) b':=by
 have key:dn (gt (hangD L u b p) j) b'=if u=j∧b'=b∧u<L.length then p else dn (gt L j) b':=by
  unfold hangD
  rw [gt_md]
  by_cases e:u=j∧u<L.length
  ·rw [if_pos e,dn_setDn]
   by_cases e2:b'=b
   ·rw [if_pos e2,if_pos ⟨e.1,e2,e.2⟩]
   ·rw [if_neg e2,if_neg (fun q=>e2 q.2.1)]
  ·rw [if_neg e,if_neg (fun q=>e ⟨q.1,q.2.2⟩)]
 unfold hang
 split
 ·exact key
 ·rw [←key]
  unfold setUp
  rw [gt_md]
  split
  ·cases b' <;>simp [dn]
  ·rfl
theorem hang_rest (L:List Sp) (u:Nat) (b:Bool) (p j:Nat):(gt (hang L u b p) j).sh=(gt L j).sh∧(gt (hang L u b p) j).kp=(gt L j).kp∧∀w,ct (gt (hang L u b p) j) w=ct (gt L j) w:=by
 have key:(gt (hangD L u b p) j).sh=(gt L j).sh∧(gt (hangD L u b p) j).kp=(gt L j).kp∧∀w,ct (gt (hangD L u b p) j) w=ct (gt L j) w:=by
  unfold hangD
  rw [gt_md]
  split
  ·exact (setDn_up _ _ _).2
  ·exact ⟨rfl,rfl,fun _=>rfl⟩
 unfold hang
 split
 ·exact key
 ·unfold setUp
  rw [gt_md]
  split
  ·exact key
  ·exact key
structure Hg (L L':List Sp) (i:Nat):Prop where
 up:(gt L' i).up=(gt L i).up
 dn:∀b,dn (gt L' i) b=dn (gt L i) b
theorem Hg.alike {L L':List Sp} {i:Nat} (h:Hg L L' i):Alike L L' i :=
 ⟨h.up,by have:=h.dn false;simpa [Sq.dn] using this,by have:=h.dn true;simpa [Sq.dn] using this⟩
theorem rep_mk {L:List Sp} {p i:Nat} {s:Bool} {t o:T}:Rep L p (mk i s t o)↔i≠0∧i<L.length∧(gt L i).up=p∧dn (gt L i) s=t.ix∧dn (gt L i) (!s)=o.ix∧Rep L i t∧Rep L i o:=by
 cases s
 ·simp only [mk,Rep,dn,Bool.false_eq_true,if_false,Bool.not_false,if_true]
 ·simp only [mk,Rep,dn,Bool.not_true,Bool.false_eq_true,if_false,if_true]
  constructor
  ·rintro ⟨a,b,c,d,e,f,g⟩;exact ⟨a,b,c,e,d,g,f⟩
  ·rintro ⟨a,b,c,d,e,f,g⟩;exact ⟨a,b,c,e,d,g,f⟩
theorem mk_ix (i:Nat) (s:Bool) (t o:T):(mk i s t o).ix=i:=by cases s <;>simp [mk,T.ix]
theorem mk_mem {i:Nat} {s:Bool} {t o:T} {j:Nat}:j∈(mk i s t o).ids↔j=i∨j∈t.ids∨j∈o.ids:=by
 rw [(mk_perm i s t o).mem_iff];simp
theorem Rep.moved {L L':List Sp} (hl:L'.length=L.length) {t:T} {p p':Nat} (h:Rep L p t) (hn:t.ids.Nodup) (hs:∀i∈t.ids,(∀b,dn (gt L' i) b=dn (gt L i) b)∧(i≠t.ix→(gt L' i).up=(gt L i).up)) (hp:t.ix≠0→(gt L' t.ix).up=p'):Rep L' p' t:=by
 cases t with
 |nil=>trivial
 |nd i l r =>
  obtain ⟨h1,h2,h3,h4,h5,h6,h7⟩:=h
  have e:=hs i (by simp [T.ids])
  have e0:=e.1 false
  have e1:=e.1 true
  simp only [dn,Bool.false_eq_true,if_false,if_true] at e0 e1
  simp only [T.ids,List.nodup_append,List.nodup_cons] at hn
  refine ⟨h1,by omega,hp h1,by rw [e0];exact h4,by rw [e1];exact h5,h6.same hl (fun j hj=> ?_),h7.same hl (fun j hj=> ?_)⟩
  ·have q:=hs j (by simp [T.ids,hj])
   exact Hg.alike ⟨q.2 (fun e=>hn.2.2 j hj i (by simp) (by simpa [T.ix] using e)),q.1⟩
  ·have q:=hs j (by simp [T.ids,hj])
   exact Hg.alike ⟨q.2 (fun e=>hn.2.1.1 (by have:j=i:=by simpa [T.ix] using e
                                            rw [←this];exact hj)),q.1⟩
structure Zip (L:List Sp) (c:Ctx) (t:T):Prop where
 rep:Rep L (upOf c) t
 repc:RepC L c t.ix
 nd:(t.ids++cids c).Nodup
 z:∀w,ct (gt L 0) w=0
def sd:Ctx→Bool
 |[]=>true
 |(_,s,_)::_=>s
theorem upOf_mem (c:Ctx):upOf c=0∨upOf c∈cids c:=by
 cases c with
 |nil=>exact .inl rfl
 |cons f c=>obtain ⟨i,s,o⟩:=f;exact .inr (by simp [upOf,cids])
theorem RepC.up_lt {L:List Sp} {c:Ctx} {h:Nat} (hc:RepC L c h):upOf c<L.length:=by
 rcases upOf_mem c with e|e
 ·rw [e];exact hc.pos
 ·exact (hc.mem _ e).2
theorem Zip.side {L:List Sp} {c:Ctx} {t:T} (z:Zip L c t) (h:t.ix≠0):sideOf L t.ix=sd c:=by
 have hu:(gt L t.ix).up=upOf c:=by
  have:=z.rep
  cases t with
  |nil=>simp [T.ix] at h
  |nd i l r=>exact this.2.2.1
 unfold sideOf
 rw [hu]
 cases c with
 |nil =>
  have:=z.repc.2.2
  simp only [upOf,sd,this]
  simp;omega
 |cons f c =>
  obtain ⟨i,s,o⟩:=f
  obtain ⟨h1,h2,h3,h4,h5,h6,h7⟩:=z.repc
  cases s
  ·simp only [Sq.dn,Bool.false_eq_true,if_false] at h4
   simp [upOf,sd,h4]
  ·simp only [Sq.dn,Bool.not_true,Bool.false_eq_true,if_false] at h5
   simp only [upOf,sd,h5]
   have:o.ix≠t.ix:=by
        intro e
        have a:=ix_mem h
        have b:=ix_mem (t:=o) (by rw [e];exact h)
        have:=z.nd
        rw [List.nodup_append] at this
        exact this.2.2 _ a _ (by simp [cids];exact .inr (.inl b)) e.symm
   simpa using this
theorem Zip.up {L:List Sp} {c:Ctx} {t:T} (z:Zip L c t) (h:t.ix≠0):(gt L t.ix).up=upOf c:=by
 have:=z.rep
 cases t with
 |nil=>simp [T.ix] at h
 |nd i l r=>exact this.2.2.1
theorem hang_ctx {L:List Sp} {c:Ctx} {h:Nat} (hc:RepC L c h) (hcn:(cids c).Nodup) {t:T} {p:Nat} (ht:Rep L p t) (htn:t.ids.Nodup) (hd:∀i∈t.ids,i∉cids c) :
 Rep (hang L (upOf c) (sd c) t.ix) (upOf c) t∧RepC (hang L (upOf c) (sd c) t.ix) c t.ix:=by
 have hu:=hc.up_lt
 have hix:t.ix≠0→t.ix∈t.ids∧t.ix<L.length:=fun h=>⟨ix_mem h,(ht.mem _ (ix_mem h)).2⟩
 have hun:∀i∈t.ids,upOf c≠i:=fun i hi e=>by
  rcases upOf_mem c with e0|e0
  ·exact (ht.mem i hi).1 (by omega)
  ·exact hd i hi (e▸e0)
 refine ⟨ht.moved (hang_len _ _ _ _) htn (fun i hi=>⟨fun b=> ?_,fun hne=> ?_⟩) (fun hne=> ?_), ?_⟩
 ·rw [hang_dn,if_neg (fun q=>hun i hi q.1)]
 ·rw [hang_up,if_neg (fun q=>hne q.1.symm)]
 ·rw [hang_up,if_pos ⟨rfl,hne,(hix hne).2⟩]
 ·cases c with
  |nil =>
   obtain ⟨a,b,d⟩:=hc
   refine ⟨by rw [hang_len];exact a, ?_, ?_⟩
   ·have:=hang_dn L 0 true t.ix 0 true
    rw [if_pos ⟨rfl,rfl,a⟩] at this
    exact this
   ·have:=hang_dn L 0 true t.ix 0 false
    rw [if_neg (by simp)] at this
    exact this.trans d
  |cons f c =>
   obtain ⟨i,s,o⟩:=f
   obtain ⟨h1,h2,h3,h4,h5,h6,h7⟩:=hc
   have hcn':=hcn
   simp only [cids,List.nodup_cons,List.mem_append,not_or,List.nodup_append] at hcn
   have hni:∀j,j∈cids ((i,s,o)::c)→¬(t.ix=j∧t.ix≠0∧t.ix<L.length):=fun j hj q=>hd t.ix (hix q.2.1).1 (q.1▸hj)
   have hg:∀j,j∈o.ids∨j∈cids c→Hg L (hang L i s t.ix) j:=fun j hj=>by
        refine ⟨?_,fun b=> ?_⟩
        ·rw [hang_up,if_neg (hni j (by simp [cids];rcases hj with h|h <;>simp [h]))]
        ·rw [hang_dn,if_neg (fun (q:i=j∧b=s∧i<L.length)=>hj.elim (fun h=>hcn.1.1 (q.1▸h)) (fun h=>hcn.1.2 (q.1▸h)))]
   refine ⟨h1,by rw [hang_len];exact h2, ?_, ?_, ?_,h6.same (hang_len _ _ _ _) (fun j hj=>(hg j (.inl hj)).alike),h7.same (hang_len _ _ _ _) (fun j hj=>(hg j (.inr hj)).alike) ?_⟩
   ·simp only [upOf,sd]
    rw [hang_up,if_neg (hni i (by simp [cids]))]
    exact h3
   ·simp only [upOf,sd]
    rw [hang_dn,if_pos ⟨rfl,rfl,h2⟩]
   ·simp only [upOf,sd]
    rw [hang_dn,if_neg (fun q=>by cases s <;>simp at q)]
    exact h5
   ·simp only [upOf,sd]
    have e0:=hang_dn L i s t.ix 0 false
    have e1:=hang_dn L i s t.ix 0 true
    rw [if_neg (fun q=>h1 q.1)] at e0 e1
    exact ⟨e0,e1⟩
end
section
theorem Zip.into {L:List Sp} {c:Ctx} {i:Nat} {s:Bool} {t o:T} (z:Zip L c (Sq.mk i s t o)):Zip L ((i,s,o)::c) t:=by
 obtain ⟨h1,h2,h3,h4,h5,h6,h7⟩:=rep_mk.1 z.rep
 refine ⟨h6,⟨h1,h2,h3,h4,h5,h7,by have:=z.repc;rwa [mk_ix] at this⟩, ?_,z.z⟩
 have p:=((mk_perm i s t o).append_right (cids c)).nodup_iff.1 z.nd
 rw [cids]
 refine (List.Perm.nodup_iff ?_).2 p
 rw [List.cons_append,List.append_assoc]
 exact List.perm_middle
theorem Zip.out {L:List Sp} {c:Ctx} {i:Nat} {s:Bool} {t o:T} (z:Zip L ((i,s,o)::c) t):Zip L c (Sq.mk i s t o):=by
 obtain ⟨h1,h2,h3,h4,h5,h6,h7⟩:=z.repc
 refine ⟨rep_mk.2 ⟨h1,h2,h3,h4,h5,z.rep,h6⟩,by rw [mk_ix];exact h7, ?_,z.z⟩
 have p:=z.nd
 rw [cids] at p
 refine (List.Perm.nodup_iff ((mk_perm i s t o).append_right (cids c))).2 ((List.Perm.nodup_iff ?_).1 p)
 rw [List.cons_append,List.append_assoc]
 exact List.perm_middle
structure Kept (L L':List Sp):Prop where
 len:L'.length=L.length
 sh:∀j,(gt L' j).sh=(gt L j).sh
 kp:∀j,(gt L' j).kp=(gt L j).kp
theorem Kept.refl (L:List Sp):Kept L L:=⟨rfl,fun _=>rfl,fun _=>rfl⟩
theorem Kept.trans {A B C:List Sp} (h:Kept A B) (g:Kept B C):Kept A C:=⟨g.len.trans h.len,fun j=>(g.sh j).trans (h.sh j),fun j=>(g.kp j).trans (h.kp j)⟩
theorem hang_kept (L:List Sp) (u:Nat) (b:Bool) (p:Nat):Kept L (hang L u b p):=⟨hang_len _ _ _ _,fun j=>(hang_rest L u b p j).1,fun j=>(hang_rest L u b p j).2.1⟩
theorem lift0_zip {L:List Sp} {c:Ctx} {a b:Nat} {s:Bool} {P Q Z:T} (z:Zip L c (mk a s (mk b s P Q) Z)) :
 Zip (lift0 L b) c (mk b s P (mk a s Q Z))∧Kept L (lift0 L b)∧(∀j w,ct (gt (lift0 L b) j) w=ct (gt L j) w)∧(gt L b).up=a:=by
 have zi:=z.into
 obtain ⟨a1,a2,a3,a4,a5,a6,a7⟩:=rep_mk.1 z.rep
 obtain ⟨b1,b2,b3,b4,b5,b6,b7⟩:=rep_mk.1 a6
 rw [mk_ix] at a4
 have sb:sideOf L b=s:=by have:=zi.side (by rw [mk_ix];exact b1);rwa [mk_ix] at this
 have sa:sideOf L a=sd c:=by have:=z.side (by rw [mk_ix];exact a1);rwa [mk_ix] at this
 have nd:=zi.nd
 have nd2:(b::(P.ids++Q.ids)++cids ((a,s,Z)::c)).Nodup:=((mk_perm b s P Q).append_right _).nodup_iff.1 nd
 simp only [cids,List.cons_append,List.nodup_cons,List.mem_append,List.mem_cons,not_or,List.nodup_append] at nd2
 obtain ⟨⟨⟨nbP,nbQ⟩,nba,nbZ,nbC⟩,⟨nP,nQ,nPQ⟩,⟨⟨naZ,naC⟩,nZ,nC,nZC⟩,nX⟩:=nd2
 have nPa:∀i∈P.ids,i≠a:=fun i hi=>nX i (.inl hi) a (.inl rfl)
 have nQa:∀i∈Q.ids,i≠a:=fun i hi=>nX i (.inr hi) a (.inl rfl)
 have nPZ:∀i∈P.ids,i∉Z.ids:=fun i hi hz=>nX i (.inl hi) i (.inr (.inl hz)) rfl
 have nQZ:∀i∈Q.ids,i∉Z.ids:=fun i hi hz=>nX i (.inr hi) i (.inr (.inl hz)) rfl
 have nPC:∀i∈P.ids,i∉cids c:=fun i hi hz=>nX i (.inl hi) i (.inr (.inr hz)) rfl
 have nQC:∀i∈Q.ids,i∉cids c:=fun i hi hz=>nX i (.inr hi) i (.inr (.inr hz)) rfl
 have hc:RepC L c a:=by have:=z.repc;rwa [mk_ix] at this
 have hu:=hc.up_lt
 have uN:∀i,i≠0→i∉cids c→upOf c≠i:=fun i h0 hi e=>by
  rcases upOf_mem c with e0|e0
  ·omega
  ·exact hi (e▸e0)
 have ua:=uN a a1 naC
 have ub:=uN b b1 nbC
 have nab:a≠b:=fun e=>nba e.symm
 obtain ⟨L1,hL1⟩:∃L1,L1=hang L (upOf c) (sd c) b:=⟨_,rfl⟩
 obtain ⟨L2,hL2⟩:∃L2,L2=hang L1 a s Q.ix:=⟨_,rfl⟩
 have l1:L1.length=L.length:=by rw [hL1];exact hang_len _ _ _ _
 have l2:L2.length=L.length:=by rw [hL2,hang_len];exact l1
 have e1:dn (gt L1 b) (!s)=Q.ix:=by rw [hL1,hang_dn,if_neg (fun q=>ub q.1)];exact b5
 have el:lift0 L b=hang L2 b (!s) a:=by
  unfold lift0 repl
  simp only [b3,sb,sa,a3]
  rw [←hL1,e1, ←hL2]
 have up1:∀j,(gt L1 j).up=if b=j then upOf c else (gt L j).up:=fun j=>by
  rw [hL1,hang_up]
  by_cases e:b=j
  ·rw [if_pos ⟨e,b1,b2⟩,if_pos e]
  ·rw [if_neg (fun q=>e q.1),if_neg e]
 have dn1:∀j d,dn (gt L1 j) d=if upOf c=j∧d=sd c then b else dn (gt L j) d:=fun j d=>by
  rw [hL1,hang_dn]
  by_cases e:upOf c=j∧d=sd c
  ·rw [if_pos ⟨e.1,e.2,hu⟩,if_pos e]
  ·rw [if_neg (fun q=>e ⟨q.1,q.2.1⟩),if_neg e]
 have qlt:Q.ix≠0→Q.ix<L.length:=fun h=>(b7.mem _ (ix_mem h)).2
 have up2:∀j,(gt L2 j).up=if Q.ix=j∧Q.ix≠0 then a else (gt L1 j).up:=fun j=>by
  rw [hL2,hang_up]
  by_cases e:Q.ix=j∧Q.ix≠0
  ·rw [if_pos ⟨e.1,e.2,by rw [l1];exact qlt e.2⟩,if_pos e]
  ·rw [if_neg (fun q=>e ⟨q.1,q.2.1⟩),if_neg e]
 have dn2:∀j d,dn (gt L2 j) d=if a=j∧d=s then Q.ix else dn (gt L1 j) d:=fun j d=>by
  rw [hL2,hang_dn]
  by_cases e:a=j∧d=s
  ·rw [if_pos ⟨e.1,e.2,by rw [l1];exact a2⟩,if_pos e]
  ·rw [if_neg (fun q=>e ⟨q.1,q.2.1⟩),if_neg e]
 have up3:∀j,(gt (lift0 L b) j).up=if a=j then b else (gt L2 j).up:=fun j=>by
  rw [el,hang_up]
  by_cases e:a=j
  ·rw [if_pos ⟨e,a1,by rw [l2];exact a2⟩,if_pos e]
  ·rw [if_neg (fun q=>e q.1),if_neg e]
 have dn3:∀j d,dn (gt (lift0 L b) j) d=if b=j∧d=(!s) then a else dn (gt L2 j) d:=fun j d=>by
  rw [el,hang_dn]
  by_cases e:b=j∧d=(!s)
  ·rw [if_pos ⟨e.1,e.2,by rw [l2];exact b2⟩,if_pos e]
  ·rw [if_neg (fun q=>e ⟨q.1,q.2.1⟩),if_neg e]
 have l3:(lift0 L b).length=L.length:=by rw [el,hang_len];exact l2
 have kept:Kept L (lift0 L b):=by
  rw [el]
  refine Kept.trans (B:=L1) (by rw [hL1];exact hang_kept _ _ _ _) (Kept.trans (B:=L2) (by rw [hL2];exact hang_kept _ _ _ _) (hang_kept _ _ _ _))
 have cts:∀j w,ct (gt (lift0 L b) j) w=ct (gt L j) w:=fun j w=>by
  rw [el,(hang_rest _ _ _ _ _).2.2 w,hL2,(hang_rest _ _ _ _ _).2.2 w,hL1,(hang_rest _ _ _ _ _).2.2 w]
 have qb:Q.ix≠0→Q.ix≠b:=fun h e=>nbQ (e▸ix_mem h)
 have qa:Q.ix≠0→Q.ix≠a:=fun h e=>nQa _ (ix_mem h) e
 have stay:∀j,j≠a→j≠b→(Q.ix≠0→Q.ix≠j)→(upOf c≠j)→Hg L (lift0 L b) j:=fun j ja jb jq ju=>by
  refine ⟨?_,fun d=> ?_⟩
  ·rw [up3,if_neg (Ne.symm ja),up2,if_neg (fun q=>jq q.2 q.1),up1,if_neg (Ne.symm jb)]
  ·rw [dn3,if_neg (fun q=>jb q.1.symm),dn2,if_neg (fun q=>ja q.1.symm),dn1,if_neg (fun q=>ju q.1)]
 have rP:Rep (lift0 L b) b P:=b6.same l3 (fun i hi=>(stay i (nPa i hi) (fun e=>nbP (e▸hi)) (fun h e=>nPQ i hi _ (ix_mem h) e.symm) (uN i (b6.mem i hi).1 (nPC i hi))).alike)
 have rZ:Rep (lift0 L b) a Z:=a7.same l3 (fun i hi=>(stay i (fun e=>naZ (e▸hi)) (fun e=>nbZ (e▸hi)) (fun h e=>nQZ _ (ix_mem h) (e▸hi)) (uN i (a7.mem i hi).1 (fun hh=>nZC i hi i hh rfl))).alike)
 have rQ:Rep (lift0 L b) a Q:=b7.moved l3 nQ (fun i hi=>⟨fun d=> ?_,fun hne=> ?_⟩) (fun hne=> ?_)
 ·refine ⟨⟨rep_mk.2 ⟨b1,by omega, ?_, ?_, ?_,rP,rep_mk.2 ⟨a1,by omega, ?_, ?_, ?_,rQ,rZ⟩⟩, ?_, ?_,fun w=>by rw [cts];exact z.z w⟩,kept,cts,b3⟩
  ·rw [up3,if_neg nab,up2,if_neg (fun q=>qb q.2 q.1),up1,if_pos rfl]
  ·rw [dn3,if_neg (fun q=>by cases s <;>simp at q),dn2,if_neg (fun q=>nab q.1),dn1,if_neg (fun q=>ub q.1),b4]
  ·rw [dn3,if_pos ⟨rfl,rfl⟩,mk_ix]
  ·rw [up3,if_pos rfl]
  ·rw [dn3,if_neg (fun q=>nba q.1),dn2,if_pos ⟨rfl,rfl⟩]
  ·rw [dn3,if_neg (fun q=>nba q.1),dn2,if_neg (fun q=>by cases s <;>simp at q),dn1,if_neg (fun q=>ua q.1),a5]
  ·rw [mk_ix]
   have h1:RepC L1 c b:=by
        have:=(hang_ctx hc nC a6 (by have:=(mk_perm b s P Q).nodup_iff.2 (List.nodup_cons.2 ⟨by simp [nbP,nbQ],List.nodup_append.2 ⟨nP,nQ,nPQ⟩⟩);exact this) (fun i hi=>by
         rcases mk_mem.1 hi with e|h|h
         ·rw [e];exact nbC
         ·exact nPC i h
         ·exact nQC i h)).2
        rw [mk_ix, ←hL1] at this
        exact this
   refine h1.same (by omega) (fun j hj=>Hg.alike ⟨?_,fun d=> ?_⟩) ⟨?_, ?_⟩
   ·rw [up3,if_neg (fun (e:a=j)=>naC (e▸hj)),up2,if_neg (fun (q:Q.ix=j∧Q.ix≠0)=>nQC _ (ix_mem q.2) (q.1▸hj))]
   ·rw [dn3,if_neg (fun (q:b=j∧d=(!s))=>nbC (q.1▸hj)),dn2,if_neg (fun (q:a=j∧d=s)=>naC (q.1▸hj))]
   ·have:=dn3 0 false
    rw [if_neg (fun q=>b1 q.1),dn2,if_neg (fun q=>a1 q.1)] at this
    simpa [dn] using this
   ·have:=dn3 0 true
    rw [if_neg (fun q=>b1 q.1),dn2,if_neg (fun q=>a1 q.1)] at this
    simpa [dn] using this
  ·refine (List.Perm.nodup_iff (List.Perm.append_right (cids c) ?_)).1 z.nd
   refine (mk_perm a s _ Z).trans (List.Perm.trans ?_ (mk_perm b s P _).symm)
   refine (List.Perm.cons _ ((mk_perm b s P Q).append_right _)).trans ?_
   refine List.Perm.trans ?_ (List.Perm.cons _ ((mk_perm a s Q Z).symm.append_left _))
   rw [List.cons_append]
   refine (List.Perm.swap _ _ _).trans (List.Perm.cons _ ?_)
   rw [List.append_assoc]
   exact List.perm_middle.symm
 ·rw [dn3,if_neg (fun (q:b=i∧d=(!s))=>nbQ (q.1▸hi)),dn2,if_neg (fun q=>nQa i hi q.1.symm),dn1,if_neg (fun q=>uN i (b7.mem i hi).1 (nQC i hi) q.1)]
 ·rw [up3,if_neg (fun e=>nQa i hi e.symm),up2,if_neg (fun q=>hne q.1.symm),up1,if_neg (fun (e:b=i)=>nbQ (e▸hi))]
 ·rw [up3,if_neg (fun e=>qa hne e.symm),up2,if_pos ⟨rfl,hne⟩]
theorem mk_turn (a b:Nat) (s:Bool) (P Q Z:T):(mk b s P (mk a s Q Z)).ids=(mk a s (mk b s P Q) Z).ids:=by
 cases s <;>simp [mk,T.ids]
end
section
theorem tallyW_len (L:List Sp) (a:Nat) (w:Bool):(tallyW L a w).length=L.length:=by simp [tallyW]
theorem tallyW_rest (L:List Sp) (a:Nat) (w:Bool) (j:Nat):(gt (tallyW L a w) j).up=(gt L j).up∧(gt (tallyW L a w) j).l=(gt L j).l∧(gt (tallyW L a w) j).r=(gt L j).r∧(gt (tallyW L a w) j).sh=(gt L j).sh∧(gt (tallyW L a w) j).kp=(gt L j).kp:=by
 unfold tallyW
 rw [gt_md]
 split
 ·cases w <;>simp
 ·simp
theorem tallyW_ct (L:List Sp) (a:Nat) (w:Bool) (j:Nat) (w':Bool):ct (gt (tallyW L a w) j) w'=if a=j∧w'=w∧a<L.length then upTo L a w+under L a true w else ct (gt L j) w':=by
 unfold tallyW
 rw [gt_md]
 by_cases e:a=j∧a<L.length
 ·obtain ⟨rfl,e2⟩:=e
  cases w <;>cases w' <;>simp [ct,e2]
 ·rw [if_neg e,if_neg (fun q=>e ⟨q.1,q.2.2⟩)]
theorem tally_len (L:List Sp) (a:Nat):(tally L a).length=L.length:=by unfold tally;rw [tallyW_len,tallyW_len]
theorem tally_kept (L:List Sp) (a:Nat):Kept L (tally L a):=by
 refine ⟨tally_len _ _,fun j=> ?_,fun j=> ?_⟩
 ·unfold tally;rw [(tallyW_rest _ _ _ _).2.2.2.1,(tallyW_rest _ _ _ _).2.2.2.1]
 ·unfold tally;rw [(tallyW_rest _ _ _ _).2.2.2.2,(tallyW_rest _ _ _ _).2.2.2.2]
theorem tally_alike (L:List Sp) (a j:Nat):Alike L (tally L a) j:=by
 unfold tally
 exact ⟨by rw [(tallyW_rest _ _ _ _).1,(tallyW_rest _ _ _ _).1],by rw [(tallyW_rest _ _ _ _).2.1,(tallyW_rest _ _ _ _).2.1],by rw [(tallyW_rest _ _ _ _).2.2.1,(tallyW_rest _ _ _ _).2.2.1]⟩
theorem tally_ct (L:List Sp) (a j:Nat) (w:Bool):ct (gt (tally L a) j) w=if a=j∧a<L.length then upTo L a w+under L a true w else ct (gt L j) w:=by
 unfold tally
 rw [tallyW_ct,tallyW_len]
 cases w with
 |true =>
  by_cases e:a=j∧a<L.length
  ·rw [if_pos ⟨e.1,rfl,e.2⟩,if_pos e]
   unfold upTo under own
   simp only [dn]
   rw [(tallyW_rest _ _ _ _).2.1,(tallyW_rest _ _ _ _).2.2.1,(tallyW_rest _ _ _ _).2.2.2.1]
   simp [tallyW_ct]
  ·rw [if_neg (fun q=>e ⟨q.1,q.2.2⟩),if_neg e,tallyW_ct,if_neg (fun q=>by simp at q)]
 |false =>
  rw [if_neg (fun q=>by simp at q),tallyW_ct]
  by_cases e:a=j∧a<L.length
  ·rw [if_pos ⟨e.1,rfl,e.2⟩,if_pos e]
  ·rw [if_neg (fun q=>e ⟨q.1,q.2.2⟩),if_neg e]
theorem Zip.tally {L:List Sp} {c:Ctx} {t:T} (z:Zip L c t) {a:Nat} (h:a≠0):Zip (tally L a) c t:=by
 refine ⟨z.rep.same (tally_len _ _) (fun i _=>tally_alike L a i),z.repc.same (tally_len _ _) (fun i _=>tally_alike L a i) ⟨(tally_alike L a 0).l,(tally_alike L a 0).r⟩,z.nd,fun w=> ?_⟩
 rw [tally_ct,if_neg (fun q=>h q.1)]
 exact z.z w
theorem Cnt.tally {L:List Sp} {t:T} (h:Cnt L t) {a:Nat} (ha:a∉t.ids):Cnt (tally L a) t :=
 h.same (fun i hi=>⟨(tally_kept L a).sh i,fun w=>by rw [tally_ct,if_neg (fun (q:a=i∧_)=>ha (q.1▸hi))]⟩)
theorem CntC.tally {L:List Sp} {c:Ctx} (h:CntC L c) {a:Nat} (ha:a∉cids c):CntC (tally L a) c :=
 h.same (fun i hi=>⟨(tally_kept L a).sh i,fun w=>by rw [tally_ct,if_neg (fun (q:a=i∧_)=>ha (q.1▸hi))]⟩)
theorem mk_flip (i:Nat) (s:Bool) (t o:T):mk i s t o=mk i (!s) o t:=by cases s <;>simp [mk]
theorem cnt_mk {L:List Sp} {i:Nat} {s:Bool} {t o:T}:Cnt L (mk i s t o)↔(∀w,ct (gt L i) w=cnt L w t+(if w=false∨(gt L i).sh=true then 1 else 0)+cnt L w o)∧Cnt L t∧Cnt L o:=by
 cases s
 ·simp only [mk,Bool.false_eq_true,if_false,Cnt]
  constructor
  ·rintro ⟨a,b⟩;exact ⟨fun w=>by rw [a w,cnt_nd],b⟩
  ·rintro ⟨a,b⟩;exact ⟨fun w=>by rw [a w,cnt_nd],b⟩
 ·simp only [mk,if_true,Cnt]
  constructor
  ·rintro ⟨a,b,d⟩;exact ⟨fun w=>by rw [a w,cnt_nd];omega,d,b⟩
  ·rintro ⟨a,b,d⟩;exact ⟨fun w=>by rw [a w,cnt_nd];omega,d,b⟩
theorem tally_cnt {L:List Sp} {c:Ctx} {i:Nat} {s:Bool} {t o:T} (z:Zip L c (mk i s t o)) (ht:Cnt L t) (ho:Cnt L o):Cnt (tally L i) (mk i s t o):=by
 obtain ⟨h1,h2,h3,h4,h5,h6,h7⟩:=rep_mk.1 z.rep
 have nd:=(((mk_perm i s t o).append_right _).nodup_iff.1 z.nd)
 simp only [List.cons_append,List.nodup_cons,List.mem_append,not_or,List.nodup_append] at nd
 have a1:=ht.tally nd.1.1.1
 have a2:=ho.tally nd.1.1.2
 refine cnt_mk.2 ⟨fun w=> ?_,a1,a2⟩
 rw [tally_ct,if_pos ⟨rfl,h2⟩,cnt_same (t:=t) (fun j _=>(tally_kept L i).sh j),cnt_same (t:=o) (fun j _=>(tally_kept L i).sh j),(tally_kept L i).sh]
 have e1:=ht.at z.z w
 have e2:=ho.at z.z w
 rw [←h4] at e1
 rw [←h5] at e2
 unfold upTo under own
 cases s
 ·simp only [Bool.not_false] at e2
  rw [e1,e2]
 ·simp only [Bool.not_true] at e2
  rw [e1,e2];omega
theorem lift_zip {L:List Sp} {c:Ctx} {a b:Nat} {s:Bool} {P Q Z:T} (z:Zip L c (mk a s (mk b s P Q) Z)) (hP:Cnt L P) (hQ:Cnt L Q) (hZ:Cnt L Z) :
 Zip (lift L b) c (mk b s P (mk a s Q Z))∧Cnt (lift L b) (mk b s P (mk a s Q Z))∧Kept L (lift L b)∧(∀j,j≠a→j≠b→∀w,ct (gt (lift L b) j) w=ct (gt L j) w):=by
 obtain ⟨z1,k1,c1,e1⟩:=lift0_zip z
 have nd:=(((mk_perm b s P _).append_right _).nodup_iff.1 z1.nd)
 simp only [List.cons_append,List.nodup_cons,List.mem_append,not_or,List.nodup_append,mk_mem] at nd
 have hb:b≠0:=(rep_mk.1 z1.rep).1
 have ha:a≠0:=(rep_mk.1 (rep_mk.1 z1.rep).2.2.2.2.2.2).1
 have sm:∀{t:T},Cnt L t→Cnt (lift0 L b) t:=fun h=>h.same (fun i _=>⟨k1.sh i,fun w=>c1 i w⟩)
 have zin:Zip (lift0 L b) ((b, !s,P)::c) (mk a s Q Z):=by
  rw [mk_flip b] at z1;exact z1.into
 have c2:=tally_cnt zin (sm hQ) (sm hZ)
 have z2:=z1.tally ha
 have naP:a∉P.ids:=fun h=>nd.2.1.2.2 a h a (.inl rfl) rfl
 have cP2:=(sm hP).tally naP
 have c3:=tally_cnt z2 cP2 c2
 unfold lift
 rw [e1]
 refine ⟨z2.tally hb,c3,k1.trans ((tally_kept _ _).trans (tally_kept _ _)),fun j ja jb w=> ?_⟩
 rw [tally_ct,if_neg (fun q=>jb q.1.symm),tally_ct,if_neg (fun q=>ja q.1.symm),c1]
theorem wt_pos (L:List Sp) (a:Nat):1≤wt L a:=by unfold wt;omega
theorem wt_nil {L:List Sp} (h:∀w,ct (gt L 0) w=0):wt L 0=1:=by
 have:=h false
 simp [ct] at this
 simp [wt,this]
theorem as_mk (s:Bool) {t:T} (h:t.ix≠0):∃P Q,t=mk t.ix s P Q:=by
 cases t with
 |nil=>simp [T.ix] at h
 |nd i l r =>
  cases s
  ·exact ⟨l,r,rfl⟩
  ·exact ⟨r,l,rfl⟩
theorem evenAt_zip {L:List Sp} {c:Ctx} {i:Nat} {s:Bool} {B Z:T} (z:Zip L c (mk i s B Z)) (hc:Cnt L (mk i s B Z)) (hcc:CntC L c) (hh:heavyAt L i s=true) :
 ∃t',(evenAt L i s).2=t'.ix∧t'.ix≠0∧Zip (evenAt L i s).1 c t'∧Cnt (evenAt L i s).1 t'∧CntC (evenAt L i s).1 c∧Kept L (evenAt L i s).1∧t'.ids=(mk i s B Z).ids:=by
 obtain ⟨h1,h2,h3,h4,h5,h6,h7⟩:=rep_mk.1 z.rep
 obtain ⟨_,cB,cZ⟩:=cnt_mk.1 hc
 have hB:B.ix≠0:=fun e=>by
  unfold heavyAt at hh
  rw [h4,h5,e,wt_nil z.z] at hh
  have:=wt_pos L Z.ix
  simp at hh
  omega
 obtain ⟨P,Q,eB⟩:=as_mk s hB
 have hp:∃p,B.ix=p:=⟨_,rfl⟩
 obtain ⟨p,hp⟩:=hp
 rw [hp] at eB hB h4
 subst eB
 rw [mk_ix] at hp
 obtain ⟨b1,b2,b3,b4,b5,b6,b7⟩:=rep_mk.1 h6
 obtain ⟨_,cP,cQ⟩:=cnt_mk.1 cB
 have nd:=((mk_perm i s _ Z).append_right (cids c)).nodup_iff.1 z.nd
 simp only [List.cons_append,List.nodup_cons,List.mem_append,not_or,List.nodup_append,mk_mem] at nd
 obtain ⟨⟨⟨⟨nip,niP,niQ⟩,niZ⟩,niC⟩,⟨⟨nB,nZ,nBZ⟩,nC,nBC⟩⟩:=nd
 have ccs:∀(L':List Sp),(∀j,(gt L' j).sh=(gt L j).sh)→(∀j∈cids c,∀w,ct (gt L' j) w=ct (gt L j) w)→CntC L' c:=fun L' a b=>hcc.same (fun j hj=>⟨a j,b j hj⟩)
 unfold evenAt
 simp only [h4,b4,b5]
 by_cases hin:2*wt L P.ix≤wt L Q.ix
 ·rw [if_pos hin]
  have hQ:Q.ix≠0:=fun e=>by
   rw [e,wt_nil z.z] at hin
   have:=wt_pos L P.ix
   omega
  obtain ⟨P',Q',eQ⟩:=as_mk (!s) hQ
  have hq:∃q,Q.ix=q:=⟨_,rfl⟩
  obtain ⟨q,hq⟩:=hq
  rw [hq] at eQ hQ b5
  subst eQ
  simp only [mk_ix]
  obtain ⟨_,cP',cQ'⟩:=cnt_mk.1 cQ
  have zin:Zip L ((i,s,Z)::c) (mk p (!s) (mk q (!s) P' Q') P):=by
   have:=z.into
   rwa [mk_flip p] at this
  obtain ⟨z1,c1,k1,e1⟩:=lift_zip zin cP' cQ' cP
  have z1o:=z1.out
  rw [mk_flip q (!s),Bool.not_not] at z1o c1
  obtain ⟨_,cX,cP1⟩:=cnt_mk.1 c1
  have nqZ:∀j∈Z.ids,j≠p∧j≠q:=fun j hj=>⟨fun e=>nBZ p (.inl rfl) j hj e.symm,fun e=>nBZ q (.inr (.inr (mk_mem.2 (.inl rfl)))) j hj e.symm⟩
  have cZ1:Cnt (lift L q) Z:=cZ.same (fun j hj=>⟨k1.sh j,fun w=>e1 j (nqZ j hj).1 (nqZ j hj).2 w⟩)
  obtain ⟨z2,c2,k2,e2⟩:=lift_zip z1o cX cP1 cZ1
  refine ⟨_,(mk_ix _ _ _ _).symm,by rw [mk_ix];exact hQ,z2,c2,ccs _ (fun j=>(k1.trans k2).sh j) (fun j hj w=> ?_),k1.trans k2, ?_⟩
  ·have x1:j≠i:=fun e=>niC (e▸hj)
   have x2:j≠p:=fun e=>nBC p (.inl (.inl rfl)) j hj e.symm
   have x3:j≠q:=fun e=>nBC q (.inl (.inr (.inr (mk_mem.2 (.inl rfl))))) j hj e.symm
   rw [e2 j x1 x3,e1 j x2 x3]
  ·rw [mk_turn]
   cases s <;>simp [mk,T.ids]
 ·rw [if_neg hin]
  obtain ⟨z1,c1,k1,e1⟩:=lift_zip z cP cQ cZ
  refine ⟨_,(mk_ix _ _ _ _).symm,by rw [mk_ix];exact b1,z1,c1,ccs _ k1.sh (fun j hj w=> ?_),k1,mk_turn _ _ _ _ _ _⟩
  exact e1 j (fun e=>niC (e▸hj)) (fun e=>nBC p (.inl (.inl rfl)) j hj e.symm) w
theorem even_zip {L:List Sp} {c:Ctx} {i:Nat} {l r:T} (z:Zip L c (.nd i l r)) (hc:Cnt L (.nd i l r)) (hcc:CntC L c) :
 ∃t',(even L i).2=t'.ix∧t'.ix≠0∧Zip (even L i).1 c t'∧Cnt (even L i).1 t'∧CntC (even L i).1 c∧Kept L (even L i).1∧t'.ids=(T.nd i l r).ids:=by
 unfold even
 split
 ·next h=>exact evenAt_zip (s:=false) (B:=l) (Z:=r) z hc hcc h
 ·split
  ·next h=>exact evenAt_zip (s:=true) (B:=r) (Z:=l) z hc hcc h
  ·exact ⟨.nd i l r,rfl,z.rep.1,z,hc,hcc,Kept.refl _,rfl⟩
def Mid (L:List Sp) (c:Ctx) (t:T):Prop:=Zip L c t∧CntC L c∧∃i l r,t= .nd i l r∧Cnt L l∧Cnt L r
def Up (L:List Sp) (c:Ctx) (t:T):Prop:=Zip L c t∧CntC L c∧Cnt L t
theorem Mid.step {L:List Sp} {c:Ctx} {t:T} (m:Mid L c t):∃t',(even (tally L t.ix) t.ix).2=t'.ix∧(gt (even (tally L t.ix) t.ix).1 t'.ix).up=upOf c∧t'.ix≠0∧Up (even (tally L t.ix) t.ix).1 c t'∧Kept L (even (tally L t.ix) t.ix).1∧t'.ids=t.ids:=by
 obtain ⟨z,hcc,i,l,r,rfl,hl,hr⟩:=m
 have hi:i≠0:=z.rep.1
 have nd:i∉cids c:=fun h=>by
  have:=z.nd
  rw [List.nodup_append] at this
  exact this.2.2 i (by simp [T.ids]) i h rfl
 obtain ⟨t',e,h0,z',c',cc',k',ids⟩:=even_zip (z.tally hi) (tally_cnt (s:=false) z hl hr) (hcc.tally nd)
 exact ⟨t',e,z'.up h0,h0,⟨z',cc',c'⟩,(tally_kept _ _).trans k',ids⟩
theorem Up.next {L:List Sp} {c:Ctx} {t:T} (u:Up L c t):(c=[]∧upOf c=0)∨∃i s o c',c=(i,s,o)::c'∧upOf c=i∧i≠0∧Mid L c' (mk i s t o):=by
 cases c with
 |nil=>exact .inl ⟨rfl,rfl⟩
 |cons f c =>
  obtain ⟨i,s,o⟩:=f
  obtain ⟨z,⟨co,cc⟩,ct⟩:=u
  refine .inr ⟨i,s,o,c,rfl,rfl,z.repc.1,z.out,cc, ?_⟩
  cases s
  ·exact ⟨i,t,o,rfl,ct,co⟩
  ·exact ⟨i,o,t,rfl,co,ct⟩
def dep (f:Nat→Nat):Nat→Nat→Nat
 |0,_=>0
 |n+1,a=>if a=0 then 0 else dep f n (f a)+1
theorem dep_ctx {L:List Sp} (f:Nat→Nat) (hf:∀a,a<L.length→f a=(gt L a).up):∀(c:Ctx) (h n:Nat),RepC L c h→c.length≤n→dep f n (upOf c)=c.length
 |[],h,n,_,_=>by cases n <;>simp [dep,upOf]
 |(i,s,o)::c,h,0,hc,hn=>by simp at hn
 |(i,s,o)::c,h,n+1,hc,hn=>by
  obtain ⟨h1,h2,h3,h4,h5,h6,h7⟩:=hc
  simp only [dep,upOf,if_neg h1,List.length_cons]
  rw [hf i h2,h3,dep_ctx f hf c i n h7 (by simpa using hn)]
  simp [h1]
theorem ctx_len {L:List Sp} {c:Ctx} {h:Nat} (hc:RepC L c h) (hn:(cids c).Nodup):c.length<L.length:=by
 have h1:c.length≤(cids c).length:=by
  clear hc hn
  induction c with
  |nil=>simp [cids]
  |cons f c ih=>obtain ⟨i,s,o⟩:=f;simp [cids];omega
 have h2:(cids c).length<L.length:=by
  have:(0::cids c).Nodup:=List.nodup_cons.2 ⟨fun h=>(hc.mem 0 h).1 rfl,hn⟩
  have:=this.length_le_of_subset (l₂:=List.range L.length) (fun i hi=>by
   rcases List.mem_cons.1 hi with rfl|hi
   ·exact List.mem_range.2 hc.pos
   ·exact List.mem_range.2 (hc.mem i hi).2)
  simp at this
  omega
 omega
end
section
theorem gt_app (L:List Sp) (x:Sp) {i:Nat} (h:i<L.length):gt (L++[x]) i=gt L i:=by
 unfold gt
 rw [List.getD_eq_getElem?_getD,List.getD_eq_getElem?_getD,List.getElem?_append_left h]
theorem gt_new (L:List Sp) (x:Sp):gt (L++[x]) L.length=x:=by
 unfold gt
 simp
theorem Rep.same' {L L':List Sp}:∀{t:T} {p:Nat},Rep L p t→(∀i∈t.ids,i<L'.length∧Alike L L' i)→Rep L' p t
 | .nil,_,_,_=>trivial
 | .nd i l r,p,h,hs=>by
   obtain ⟨h1,h2,h3,h4,h5,h6,h7⟩:=h
   obtain ⟨hl,e⟩:=hs i (by simp [T.ids])
   refine ⟨h1,hl,by rw [e.up];exact h3,by rw [e.l];exact h4,by rw [e.r];exact h5, ?_, ?_⟩
   ·exact Rep.same' h6 (fun j hj=>hs j (by simp [T.ids,hj]))
   ·exact Rep.same' h7 (fun j hj=>hs j (by simp [T.ids,hj]))
theorem RepC.same' {L L':List Sp}:∀{c:Ctx} {h:Nat},RepC L c h→(∀i∈cids c,i<L'.length∧Alike L L' i)→(0<L'.length∧(gt L' 0).l=(gt L 0).l∧(gt L' 0).r=(gt L 0).r)→RepC L' c h
 |[],h,⟨a,b,d⟩,_,h0=>⟨h0.1,by rw [h0.2.2];exact b,by rw [h0.2.1];exact d⟩
 |(i,s,o)::c,h,⟨h1,h2,h3,h4,h5,h6,h7⟩,hs,h0=>by
  obtain ⟨hl,e⟩:=hs i (by simp [cids])
  refine ⟨h1,hl,by rw [e.up];exact h3, ?_, ?_,Rep.same' h6 (fun j hj=>hs j (by simp [cids,hj])),RepC.same' h7 (fun j hj=>hs j (by simp [cids,hj])) h0⟩
  ·simp only [Sq.dn,e.l,e.r] at h4 ⊢;exact h4
  ·simp only [Sq.dn,e.l,e.r] at h5 ⊢;exact h5
theorem Zip.app {L:List Sp} {c:Ctx} {t:T} (z:Zip L c t) (x:Sp):Zip (L++[x]) c t:=by
 have al:∀i,i<L.length→i<(L++[x]).length∧Alike L (L++[x]) i:=fun i hi=>⟨by simp;omega,by rw [gt_app L x hi] <;>exact hi,by rw [gt_app L x hi] <;>exact hi,by rw [gt_app L x hi] <;>exact hi⟩
 refine ⟨z.rep.same' (fun i hi=>al i (z.rep.mem i hi).2),z.repc.same' (fun i hi=>al i (z.repc.mem i hi).2) ⟨by simp, ?_, ?_⟩,z.nd,fun w=> ?_⟩
 ·rw [gt_app L x z.repc.pos]
 ·rw [gt_app L x z.repc.pos]
 ·rw [gt_app L x z.repc.pos];exact z.z w
theorem CntC.app {L:List Sp} {c:Ctx} {k:Nat} (h:CntC L c) (r:RepC L c k) (x:Sp):CntC (L++[x]) c :=
 h.same (fun i hi=>by rw [gt_app L x (r.mem i hi).2];exact ⟨rfl,fun _=>rfl⟩)
theorem Zip.unplug {L:List Sp}:∀{c:Ctx} {t:T},Zip L [] (Sq.plug c t)→Zip L c t
 |[],t,z=>z
 |(i,s,o)::c,t,z=>(Zip.unplug (c:=c) z).into
theorem Cnt.unplug {L:List Sp}:∀{c:Ctx} {t:T},Cnt L (plug c t)→CntC L c∧Cnt L t
 |[],t,h=>⟨trivial,h⟩
 |(i,s,o)::c,t,h=>by
  obtain ⟨a,b⟩:=Cnt.unplug (c:=c) (t:=mk i s t o) h
  obtain ⟨_,b1,b2⟩:=cnt_mk.1 b
  exact ⟨⟨b2,a⟩,b1⟩
theorem focus:∀{t:T} {i:Nat} (c0:Ctx),i∈t.ids→∃c l r,plug c0 t=plug c (.nd i l r)
 | .nil,i,c0,h=>by simp [T.ids] at h
 | .nd j l r,i,c0,h=>by
   simp only [T.ids,List.mem_append,List.mem_cons] at h
   rcases h with h|rfl|h
   ·obtain ⟨c,a,b,e⟩:=focus ((j,false,r)::c0) h
    exact ⟨c,a,b,by rw [←e];rfl⟩
   ·exact ⟨c0,l,r,rfl⟩
   ·obtain ⟨c,a,b,e⟩:=focus ((j,true,l)::c0) h
    exact ⟨c,a,b,by rw [←e];rfl⟩
def lft:T→Ctx→Ctx
 | .nil,c=>c
 | .nd i l r,c=>lft l ((i,false,r)::c)
theorem lft_plug:∀(t:T) (c:Ctx),plug (lft t c) .nil=plug c t
 | .nil,c=>rfl
 | .nd i l r,c=>by rw [lft,lft_plug l];rfl
theorem lft_pre:∀(t:T) (c:Ctx),pre (lft t c)=pre c
 | .nil,c=>rfl
 | .nd i l r,c=>by rw [lft,lft_pre l];simp [pre]
theorem lft_post:∀(t:T) (c:Ctx),post (lft t c)=t.ids++post c
 | .nil,c=>by simp [lft,T.ids]
 | .nd i l r,c=>by rw [lft,lft_post l];simp [post,T.ids]
theorem lft_zip {L:List Sp}:∀{t:T} {c:Ctx},Zip L c t→Zip L (lft t c) .nil
 | .nil,c,z=>z
 | .nd i l r,c,z=>lft_zip (t:=l) (Zip.into (s:=false) z)
theorem lft_cnt {L:List Sp}:∀{t:T} {c:Ctx},CntC L c→Cnt L t→CntC L (lft t c)
 | .nil,c,a,_=>a
 | .nd i l r,c,a,b=>lft_cnt (t:=l) (c:=(i,false,r)::c) ⟨b.2.2,a⟩ b.2.1
theorem lft_sd:∀(t:T) (c:Ctx),t≠ .nil→sd (lft t c)=false
 | .nil,c,h=>absurd rfl h
 | .nd i .nil r,c,_=>rfl
 | .nd i (.nd j a b) r,c,_=>lft_sd (.nd j a b) _ (by simp)
def lsp:T→Nat
 | .nil=>0
 | .nd _ l _=>lsp l+1
theorem dep_lsp {L:List Sp}:∀(t:T) (p n:Nat),Rep L p t→lsp t≤n→dep (fun a=>(gt L a).l) n t.ix=lsp t
 | .nil,p,n,_,_=>by cases n <;>simp [dep,T.ix,lsp]
 | .nd i l r,p,0,_,hn=>by simp [lsp] at hn
 | .nd i l r,p,n+1,h,hn=>by
   obtain ⟨h1,h2,h3,h4,h5,h6,h7⟩:=h
   show (if i=0 then 0 else dep (fun a=>(gt L a).l) n (gt L i).l+1)=lsp l+1
   rw [if_neg h1,h4,dep_lsp l i n h6 (by simpa [lsp] using hn)]
theorem lsp_le:∀(t:T),lsp t≤t.ids.length
 | .nil=>by simp [lsp]
 | .nd i l r=>by simp [lsp,T.ids];have:=lsp_le l;omega
def put0 (L:List Sp) (u:Nat) (b:Bool) (k:KpV):List Sp:=hang (L++[⟨k,true,0,0,0,0,0⟩]) u b L.length
theorem put0_mid {L:List Sp} {c:Ctx} (z:Zip L c .nil) (hc:CntC L c) (k:KpV):Mid (put0 L (upOf c) (sd c) k) c (.nd L.length .nil .nil):=by
 obtain ⟨x,hx⟩:∃x:Sp,x=⟨k,true,0,0,0,0,0⟩:=⟨_,rfl⟩
 have hp:=z.repc.pos
 have z1:=z.app x
 have nC:(cids c).Nodup:=by have:=z.nd;simpa [T.ids] using this
 have g:=gt_new L x
 have rt:Rep (L++[x]) 0 (.nd L.length .nil .nil):=⟨by omega,by simp,by rw [g,hx],by rw [g,hx];rfl,by rw [g,hx];rfl,trivial,trivial⟩
 have nl:L.length∉cids c:=fun h=>by have:=(z.repc.mem _ h).2;omega
 obtain ⟨a,b⟩:=hang_ctx z1.repc nC rt (by simp [T.ids]) (fun i hi=>by
  have:i=L.length:=by simpa [T.ids] using hi
  rw [this];exact nl)
 unfold put0
 rw [←hx]
 refine ⟨⟨a,b,by simp [T.ids];exact ⟨nl,nC⟩,fun w=> ?_⟩, ?_,_,_,_,rfl,trivial,trivial⟩
 ·have:=(hang_rest (L++[x]) (upOf c) (sd c) L.length 0).2.2 w
  exact this.trans (z1.z w)
 ·exact (hc.app z.repc x).same (fun i _=>⟨(hang_rest _ _ _ _ i).1,(hang_rest _ _ _ _ i).2.2⟩)
theorem put0_kept (L:List Sp) (u:Nat) (b:Bool) (k:KpV):Kept (L++[⟨k,true,0,0,0,0,0⟩]) (put0 L u b k):=hang_kept _ _ _ _
end
section
end
section
def move (L:List Sp) (f e:Nat):List Sp :=
 let L1:=repl L e f
 let L2:=md L1 f (fun _=>gt L1 e)
 hang (hang L2 f false (gt L2 f).l) f true (gt L2 f).r
def fill (L:List Sp) (f:Nat):List Sp:=(if f=L.length-1 then L else move L f (L.length-1)).take (L.length-1)
end
end Sq
section
open Go.RowKit Sq
def KpV.c (k:KpV):List Value:=k.id.c++(k.bh.c++[.int .i64 k.fol])
def KpV.v (k:KpV):Value:= .agg (KpV.c k).toArray
structure KpV.ok (k:KpV):Prop where
 id:k.id.ok
 bh:k.bh.ok
theorem KpV.len {k:KpV} (h:KpV.ok k):(KpV.c k).length=67:=by simp [KpV.c,IdK.len h.id,IdK.len h.bh]
theorem KpV.one (k:KpV):∀v∈KpV.c k,v.oneCell'=true:=by
 intro v hv
 simp only [KpV.c,List.mem_append,List.mem_singleton] at hv
 rcases hv with h|h|rfl
 ·exact IdK.one _ v h
 ·exact IdK.one _ v h
 ·rfl
def Sp.t (s:Sp):List Value:=[.bool s.sh, .int .i64 (s.up:Int), .int .i64 (s.l:Int), .int .i64 (s.r:Int), .int .i64 (s.ca:Int), .int .i64 (s.cl:Int)]
def Sp.c (s:Sp):List Value:=KpV.c s.kp++Sp.t s
def Sp.v (s:Sp):Value:= .agg (Sp.c s).toArray
theorem Sp.len {s:Sp} (h:KpV.ok s.kp):(Sp.c s).length=73:=by simp [Sp.c,KpV.len h,Sp.t]
theorem Sp.one (s:Sp):∀v∈Sp.c s,v.oneCell'=true:=by
 intro v hv
 simp only [Sp.c,Sp.t,List.mem_append,List.mem_cons,List.not_mem_nil,or_false] at hv
 rcases hv with h|rfl|rfl|rfl|rfl|rfl|rfl
 ·exact KpV.one _ v h
 all_goals rfl
theorem Aoi:KpV.ok zK:=⟨Aay,Aay⟩
def Ab6 (L:List Sp):List Value:=L.flatMap Sp.c
def OkS (L:List Sp):Prop:=∀s∈L,KpV.ok s.kp
theorem Ad1:∀{L:List Sp},OkS L→(Ab6 L).length=73*L.length
 |[],_=>rfl
 |x::L,ok=>by
  have:=Ad1 (L:=L) (fun h hh=>ok h (by simp [hh]))
  simp only [Ab6,List.flatMap_cons,List.length_append,Sp.len (ok x (by simp)),List.length_cons] at this ⊢
  omega
theorem Ajw:∀{L:List Sp},OkS L→∀{i:Nat} {h:Sp},L[i]? =some h→∀{j:Nat} {v:Value},(Sp.c h)[j]? =some v→(Ab6 L)[73*i+j]? =some v
 |x::L,ok,0,h,hi,j,v,hj=>by
  simp only [List.getElem?_cons_zero,Option.some.injEq] at hi
  subst hi
  have hl:=(List.getElem?_eq_some_iff.1 hj).1
  rw [Nat.mul_zero,Nat.zero_add,Ab6,List.flatMap_cons,List.getElem?_append_left hl]
  exact hj
 |x::L,ok,i+1,h,hi,j,v,hj=>by
  simp only [List.getElem?_cons_succ] at hi
  have:=Ajw (L:=L) (fun h hh=>ok h (by simp [hh])) hi hj
  have l:=Sp.len (ok x (by simp))
  rw [Ab6,List.flatMap_cons,List.getElem?_append_right (by omega),l,show 73*(i+1)+j-73=73*i+j by omega]
  exact this
 |[],_,i,h,hi,_,_,_=>by simp at hi
theorem Agr (L M:List Sp):Ab6 (L++M)=Ab6 L++Ab6 M:=by simp [Ab6]
theorem A6d {L:List Sp} {i:Nat} (h:i<L.length):L[i]? =some (gt L i):=by
 unfold gt
 rw [List.getD_eq_getElem?_getD,List.getElem?_eq_getElem h]
 rfl
theorem OkS.gt {L:List Sp} (h:OkS L) {i:Nat} (hi:i<L.length):KpV.ok (Sq.gt L i).kp:=h _ (List.mem_of_getElem? (A6d hi))
structure Aax (w:World) (rb ro g cap:Nat) (L:List Sp):Prop where
 hd:w.cell? ⟨rb,ro,none⟩=some (.slice (some ⟨g,0,none⟩) L.length cap)
 own:w.ownsRow 0 128 73 (.slice (some ⟨g,0,none⟩) L.length cap) L.length (Ab6 L)
 ok:OkS L
 ne:rb≠g
 len:L.length≤1400000000000
 bk:∃cs t,w.heap[rb]? =some (.cells cs t (0,0))
theorem Aax.blk {w:World} {rb ro g cap:Nat} {L:List Sp} (h:Aax w rb ro g cap L):∃cur,w.heap[g]? =some (.cells cur 128 (0,0))∧L.length≤cap∧cap≤maxLen∧cur.size=cap*73∧cur.toList.take (L.length*73)=Ab6 L:=by
 rcases h.own.2 with ⟨e,_⟩|⟨g',cap',cur,e,_,hg,r1,r2,r3,r4⟩
 ·cases e
 ·simp only [Value.slice.injEq,Option.some.injEq,Addr.mk.injEq] at e
  obtain ⟨⟨rfl,_⟩,_,rfl⟩:=e
  exact ⟨cur,hg,r1,r2,r3,r4⟩
theorem Aax.keep {w w':World} {rb ro g cap:Nat} {L:List Sp} (h:Aax w rb ro g cap L) (h1:w'.heap[rb]? =w.heap[rb]?) (h2:w'.heap[g]? =w.heap[g]?):Aax w' rb ro g cap L:=by
 refine ⟨(World.cell?_of_block (a:=⟨rb,ro,none⟩) h1).trans h.hd,⟨h.own.1, ?_⟩,h.ok,h.ne,h.len,by rw [h1];exact h.bk⟩
 rcases h.own.2 with ⟨e,hn⟩|⟨g',cap',cur,e,hb,hg,r⟩
 ·exact .inl ⟨e,hn⟩
 ·have e2:=e
  simp only [Value.slice.injEq,Option.some.injEq,Addr.mk.injEq] at e2
  obtain ⟨⟨rfl,_⟩,_,rfl⟩:=e2
  exact .inr ⟨g,cap,cur,e,hb,h2.trans hg,r⟩
theorem Aax.lt {w:World} {rb ro g cap:Nat} {L:List Sp} (h:Aax w rb ro g cap L):rb<w.heap.size∧g<w.heap.size:=by
 obtain ⟨cur,hg,_⟩:=h.blk
 exact ⟨block_lt_of_cell h.hd,(Array.getElem?_eq_some_iff.1 hg).1⟩
theorem Aax.drew {w:World} {rb ro g cap:Nat} {L:List Sp} (h:Aax w rb ro g cap L):Aax w.drew rb ro g cap L:=h.keep rfl rfl
theorem Aax.range {w:World} {rb ro g cap:Nat} {L:List Sp} (h:Aax w rb ro g cap L) {i:Nat} (hi:i<L.length):w.rangeAt g (73*i) (Sp.c (gt L i)):=fun j v hj=>by
 obtain ⟨cur,hg,_,_,_,ht⟩:=h.blk
 have e:=Ajw h.ok (A6d hi) hj
 rw [cell_of_row w g _ cur _ (0,0) hg]
 rw [←ht,List.getElem?_take] at e
 split at e
 ·simpa using e
 ·cases e
section
variable {w:World} {rb ro g cap i:Nat} {L:List Sp}
theorem Ado (h:Aax w rb ro g cap L):(Instr.loadAt 73 (pZ rb (ro+0))).run prog w= .ok (.slice (some ⟨g,0,none⟩) L.length cap) w:=by
 have:=h.hd
 go_simp
theorem Ad8 (hi:i<L.length) (hl:L.length≤1400000000000) (W:World):(Instr.indexAt 73 (.slice (some ⟨g,0,none⟩) L.length cap) (.int .i64 (i:Int))).run prog W= .ok (pZ g (73*i)) W:=by
 have:(Instr.indexAt 73 (.slice (some ⟨g,0,none⟩) L.length cap) (.int .i64 (i:Int))).run prog W= .ok (pZ g (0+i*73)) W:=by go_simp
 rw [this,Nat.zero_add,Nat.mul_comm]
theorem Ahm (h:Aax w rb ro g cap L) (hi:i<L.length) (k:Nat) (v:Value) (hk:(Sp.t (gt L i))[k]? =some v):w.cell? ⟨g,73*i+(67+k),none⟩=some v:=by
 refine h.range hi (67+k) v ?_
 rw [Sp.c,List.getElem?_append_right (by rw [KpV.len (h.ok.gt hi)];omega),KpV.len (h.ok.gt hi),show 67+k-67=k by omega]
 exact hk
theorem Baf (h:Aax w rb ro g cap L) (hi:i<L.length):(Instr.loadAt 4 (pZ g (73*i+67))).run prog w= .ok (.bool (gt L i).sh) w:=by
 have:=Ahm h hi 0 _ rfl
 go_simp
theorem A1t (h:Aax w rb ro g cap L) (hi:i<L.length):(Instr.loadAt 3 (pZ g (73*i+68))).run prog w= .ok (.int .i64 ((gt L i).up:Int)) w:=by
 have:=Ahm h hi 1 _ rfl
 go_simp
def nb (b:Bool):Nat:=if b then 1 else 0
theorem Akd (h:Aax w rb ro g cap L) (hi:i<L.length) (b:Bool):(Instr.loadAt 3 (pZ g (73*i+69+nb b))).run prog w= .ok (.int .i64 (dn (gt L i) b:Int)) w:=by
 have:=Ahm h hi (2+nb b) (.int .i64 (dn (gt L i) b:Int)) (by cases b <;>rfl)
 rw [show 73*i+(67+(2+nb b))=73*i+69+nb b by omega] at this
 go_simp
theorem A1u (h:Aax w rb ro g cap L) (hi:i<L.length) (b:Bool):(Instr.loadAt 3 (pZ g (73*i+71+nb b))).run prog w= .ok (.int .i64 (ct (gt L i) b:Int)) w:=by
 have:=Ahm h hi (4+nb b) (.int .i64 (ct (gt L i) b:Int)) (by cases b <;>rfl)
 rw [show 73*i+(67+(4+nb b))=73*i+71+nb b by omega] at this
 go_simp
theorem A6z (h:Aax w rb ro g cap L) (hi:i<L.length):(Instr.loadAt 126 (pZ g (73*i+69))).run prog w= .ok (.agg #[.int .i64 ((gt L i).l:Int), .int .i64 ((gt L i).r:Int)]) w:=by
 refine run_loadAt_mid (P:=prog) w g (73*i+69) 126 [.int .i64 ((gt L i).l:Int), .int .i64 ((gt L i).r:Int)] _ (fun j v hv=> ?_) underlying126 rfl (by kernel_rfl)
 have hj:j<2:=(List.getElem?_eq_some_iff.1 hv).1
 rw [show 73*i+69+j=73*i+(67+(2+j)) by omega]
 refine Ahm h hi (2+j) v ?_
 have:j=0∨j=1:=by omega
 rcases this with rfl|rfl <;>exact hv
theorem szK:(prog.info? 78).map (·.size)=some 67:=by kernel_rfl
theorem Bag (h:Aax w rb ro g cap L) (hi:i<L.length):(Instr.loadAt 78 (pZ g (73*i+0))).run prog w= .ok (KpV.v (gt L i).kp) w:=by
 refine run_loadAt_mid (P:=prog) w g (73*i) 78 (KpV.c (gt L i).kp) _ (fun j v hv=> ?_) underlying78 rfl (by rw [KpV.len (h.ok.gt hi)];exact szK)
 refine h.range hi j v ?_
 rw [Sp.c,List.getElem?_append_left (List.getElem?_eq_some_iff.1 hv).1]
 exact hv
theorem Aei (o:Nat) (b:Bool) (W:World):(Instr.indexAt 126 (pZ g o) (.int .i64 (nb b:Int))).run prog W= .ok (pZ g (o+nb b)) W:=by
 cases b <;>simp only [nb,Bool.false_eq_true,if_false,if_true] <;>go_simp
theorem Apc (o:Nat) (W:World):(Instr.indexAt 126 (pZ g o) (.int .i64 0)).run prog W= .ok (pZ g (o+nb false)) W:=Aei o false W
theorem Apb (o:Nat) (W:World):(Instr.indexAt 126 (pZ g o) (.int .i64 1)).run prog W= .ok (pZ g (o+nb true)) W:=Aei o true W
theorem Abw (b o:Nat) (W:World):(Instr.fieldAt 75 (pZ b o) 0).run prog W= .ok (pZ b (o+0)) W:=by go_simp
theorem Aza (b o:Nat) (W:World):(Instr.fieldAt 128 (pZ b o) 0).run prog W= .ok (pZ b (o+0)) W:=by go_simp
theorem Ay9 (b o:Nat) (W:World):(Instr.fieldAt 128 (pZ b o) 1).run prog W= .ok (pZ b (o+67)) W:=by go_simp
theorem Aie (b o:Nat) (W:World):(Instr.fieldAt 128 (pZ b o) 2).run prog W= .ok (pZ b (o+68)) W:=by go_simp
theorem Aco (b o:Nat) (W:World):(Instr.fieldAt 128 (pZ b o) 3).run prog W= .ok (pZ b (o+69)) W:=by go_simp
theorem Aid (b o:Nat) (W:World):(Instr.fieldAt 128 (pZ b o) 4).run prog W= .ok (pZ b (o+71)) W:=by go_simp
end
theorem A7f {w:World} {g o n:Nat} {t ty:TypeId} {cur:Array Value} {v:Value} {vs:List Value} (hs:(prog.info? t).map (·.size)=some n) (hv:v.cells=vs.toArray) (hl:vs.length=n) (h1:∀x∈vs,x.oneCell'=true) (hg:w.heap[g]? =some (.cells cur ty (0,0))) (hb:o+n≤cur.size) :
 (Instr.storeAt t (pZ g o) v).run prog w= .ok () (w.setRow g (cur.toList.take o++vs++cur.toList.drop (o+vs.length)).toArray):=by
 have h:=run_storeCells_at prog g o ty vs 0 cur w hg (by rw [hl];omega) h1
 rw [Nat.add_zero] at h
 cases hq:prog.info? t with
 |none=>rw [hq] at hs;simp at hs
 |some ii =>
  rw [hq] at hs
  simp at hs
  have hcz:v.cells.size=ii.size:=by rw [hv];simp [hl,hs]
  simp only [Instr.storeAt,Instr.sureAddr,Sem.run_bind,Sem.run_pure,Result.andThen_ok,storeVar,sizeOf,typeInfo,hq,hv]
  simp [typeInfo,hq,hl,hs,h]
theorem Afv {w:World} {g:Nat} {cur:Array Value} {t:TypeId} {fr:Nat × Nat} (cs:Array Value) (h:w.heap[g]? =some (.cells cur t fr)):(w.setRow g cs).heap[g]? =some (.cells cs t fr):=setRow_heap w g cur _ t _ h
theorem Ahd (f:Sp→Sp) (y:Sp) (B:List Sp):∀(A:List Sp),(A++y::B).modify A.length f=A++f y::B
 |[]=>by simp
 |a::A=>by
  have:=Ahd f y B A
  simp [this]
theorem A6c {A B:List Sp} {y:Sp}:gt (A++y::B) A.length=y:=by
 unfold gt
 simp
theorem OkS.mid {A B:List Sp} {y:Sp} (hA:OkS A) (hy:KpV.ok y.kp) (hB:OkS B):OkS (A++y::B):=fun x hx=>by
 rcases List.mem_append.1 hx with q|q
 ·exact hA x q
 ·rcases List.mem_cons.1 q with rfl|q
  ·exact hy
  ·exact hB x q
theorem Aax.seg {w:World} {rb ro g cap:Nat} {L:List Sp} (h:Aax w rb ro g cap L) {i k n:Nat} (hi:i<L.length) (f:Sp→Sp) (vs:List Value) (hn:vs.length=n) (hf:Sp.c (f (gt L i))=(Sp.c (gt L i)).take k++vs++(Sp.c (gt L i)).drop (k+n)) (hk:k+n≤73) (hok:KpV.ok (f (gt L i)).kp) (h1:∀x∈vs,x.oneCell'=true) {t:TypeId} {v:Value} (hs:(prog.info? t).map (·.size)=some n) (hv:v.cells=vs.toArray) :
 ∃w',(Instr.storeAt t (pZ g (73*i+k)) v).run prog w= .ok () w'∧Aax w' rb ro g cap (md L i f)∧Tch (fun j=>j=g) w w'∧w'.heap.size=w.heap.size:=by
 obtain ⟨cur,hg,r1,r2,r3,r4⟩:=h.blk
 have hb:73*i+k+n≤cur.size:=by rw [r3];omega
 have e:=A7f hs hv hn h1 hg (o:=73*i+k) hb
 have tc:=Aec w g (cur.toList.take (73*i+k)++vs++cur.toList.drop (73*i+k+vs.length)).toArray
 have hA:∃A y B,L=A++y::B∧A.length=i:=⟨L.take i,L[i],L.drop (i+1),by rw [←List.drop_eq_getElem_cons hi,List.take_append_drop],by simp;omega⟩
 obtain ⟨A,y,B,hL,hA⟩:=hA
 have hy:gt L i=y:=by rw [hL, ←hA];exact A6c
 have hset:md L i f=A++f y::B:=by rw [hL,md, ←hA];exact Ahd f y B A
 have okA:OkS A:=fun x hx=>h.ok x (by rw [hL];simp [hx])
 have okB:OkS B:=fun x hx=>h.ok x (by rw [hL];simp [hx])
 have oky:KpV.ok y.kp:=h.ok y (by rw [hL];simp)
 rw [hy] at hf hok
 have okN:OkS (md L i f):=by rw [hset];exact okA.mid hok okB
 refine ⟨_,e,⟨?_,⟨?_, .inr ⟨g,cap,_,by rw [md_len],Nat.zero_le _,Afv _ hg,by rw [md_len];exact r1,r2, ?_, ?_⟩⟩,okN,h.ne,by rw [md_len];exact h.len,by rw [tc.block rb h.lt.1 (fun q=>h.ne (by simpa using q.symm))];exact h.bk⟩,tc.mono (fun j _ q=>by simpa using q.symm),by simp [World.setRow]⟩
 ·rw [md_len]
  exact (World.cell?_of_block (a:=⟨rb,ro,none⟩) (tc.block rb h.lt.1 (fun q=>h.ne (by simpa using q.symm)))).trans h.hd
 ·rw [Ad1 okN,md_len,Nat.mul_comm]
 ·simp;omega
 ·rw [md_len,hset]
  have hlA:=Ad1 okA
  have hlB:=Ad1 okB
  have ly:=Sp.len oky
  have fc:Ab6 (A++f y::B)=(Ab6 A++(Sp.c y).take k)++vs++((Sp.c y).drop (k+n)++Ab6 B):=by
   rw [Agr,show Ab6 (f y::B)=Sp.c (f y)++Ab6 B from rfl,hf]
   simp
  have fc':Ab6 L=(Ab6 A++(Sp.c y).take k)++((Sp.c y).drop k).take n++((Sp.c y).drop (k+n)++Ab6 B):=by
   rw [hL,Agr,show Ab6 (y::B)=Sp.c y++Ab6 B from rfl]
   have:Sp.c y=(Sp.c y).take k++(((Sp.c y).drop k).take n++(Sp.c y).drop (k+n)):=by
      rw [←List.drop_drop,List.take_append_drop,List.take_append_drop]
   conv=>lhs;rw [this]
   simp
  rw [fc]
  rw [fc'] at r4
  have hLl:=congrArg List.length hL
  simp at hLl
  refine take_seg r4 ?_ ?_ ?_
  ·simp only [List.length_append,List.length_take,List.length_drop,hlA,hlB,ly]
   omega
  ·simp only [List.length_append,List.length_take,hlA,ly,hA]
   omega
  ·simp only [List.length_take,List.length_drop,ly,hn]
   omega
theorem Aax.num {w:World} {rb ro g cap:Nat} {L:List Sp} (h:Aax w rb ro g cap L) {i k:Nat} (hi:i<L.length) (f:Sp→Sp) {v:Value} (hkp:(f (gt L i)).kp=(gt L i).kp) (hf:Sp.t (f (gt L i))=(Sp.t (gt L i)).take k++[v]++(Sp.t (gt L i)).drop (k+1)) (hk:k<6) {t:TypeId} (hs:(prog.info? t).map (·.size)=some 1) (hv:v.cells= #[v]) (h1:v.oneCell'=true) :
 ∃w',(Instr.storeAt t (pZ g (73*i+(67+k))) v).run prog w= .ok () w'∧Aax w' rb ro g cap (md L i f)∧Tch (fun j=>j=g) w w'∧w'.heap.size=w.heap.size:=by
 have l:=KpV.len (h.ok.gt hi)
 refine h.seg (n:=1) hi f [v] rfl ?_ (by omega) (by rw [hkp];exact h.ok.gt hi) (by simp [h1]) hs (by rw [hv])
 have e1:(KpV.c (gt L i).kp).take (67+k)=KpV.c (gt L i).kp:=List.take_of_length_le (by omega)
 have e2:(KpV.c (gt L i).kp).drop (67+k+1)=[]:=List.drop_of_length_le (by omega)
 rw [Sp.c,hkp,hf,Sp.c,List.take_append,List.drop_append,l,show 67+k-67=k by omega,show 67+k+1-67=k+1 by omega,e1,e2]
 simp
theorem Abk {n:Nat} {t:Array Value} {d:Nat} {v:Value} (hs:t.size=n) (hd:d<n) (h:t.getD d undef=v):t[d]? =some v:=by
 have hl:d<t.size:=by omega
 rw [Array.getD_eq_getD_getElem?,Array.getElem?_eq_getElem hl] at h
 rw [Array.getElem?_eq_getElem hl]
 simpa using h
theorem Aaa {p:Prop} (h:p):Hid p:=h
structure Qt (w w':World):Prop where
 os:w'.os=w.os
 tape:w'.tape=w.tape
 output:w'.output=w.output
 heap:w'.heap=w.heap
theorem Qt.refl (w:World):Qt w w:=⟨rfl,rfl,rfl,rfl⟩
theorem Qt.trans {a b c:World} (h:Qt a b) (k:Qt b c):Qt a c:=⟨k.os.trans h.os,k.tape.trans h.tape,k.output.trans h.output,k.heap.trans h.heap⟩
theorem Qt.drew (w:World):Qt w w.drew:=⟨rfl,rfl,rfl,rfl⟩
theorem Qt.tch {w w':World} (h:Qt w w') (O:Nat→Prop):Tch O w w':=⟨h.os,h.tape,h.output,by rw [h.heap];exact Nat.le_refl _,fun k _ _=>by rw [h.heap]⟩
theorem Qt.size {w w':World} (h:Qt w w'):w'.heap.size=w.heap.size:=by rw [h.heap]
theorem Qt.below {w w':World} (h:Qt w w') (B:Nat):Below B w w':=⟨h.os,h.tape,h.output,by rw [h.heap];exact Nat.le_refl _,fun k _=>by rw [h.heap]⟩
theorem Aax.qt {w w':World} {rb ro g cap:Nat} {L:List Sp} (h:Aax w rb ro g cap L) (q:Qt w w'):Aax w' rb ro g cap L:=h.keep (by rw [q.heap]) (by rw [q.heap])
theorem wrap64 {z:Int} (h1: -9223372036854775808≤z) (h2:z≤9223372036854775807):IntKind.i64.wrap z=z:=by
 simp only [IntKind.wrap,IntKind.bits,IntKind.signed]
 simp
 omega
section
variable {w:World} {a:Act} {o:Oper} {x y:Operand} {p q:Int}
theorem An1 (ho:o.op= .binOp .add 3 x y 3) (hx:a.eval x= .int .i64 p) (hy:a.eval y= .int .i64 q) (h: -9223372036854775808≤p+q∧p+q≤9223372036854775807):(execOp a.eval o).run prog w= .ok (.value (.int .i64 (p+q))) w:=by
 obtain ⟨h1,h2⟩:=h
 unfold execOp
 rw [ho]
 simp only [hx,hy]
 go_simp
 rw [wrap64 h1 h2]
theorem Atp (ho:o.op= .binOp .sub 3 x y 3) (hx:a.eval x= .int .i64 p) (hy:a.eval y= .int .i64 q) (h: -9223372036854775808≤p-q∧p-q≤9223372036854775807):(execOp a.eval o).run prog w= .ok (.value (.int .i64 (p-q))) w:=by
 obtain ⟨h1,h2⟩:=h
 unfold execOp
 rw [ho]
 simp only [hx,hy]
 go_simp
 rw [wrap64 h1 h2]
theorem A6h (ho:o.op= .binOp .mul 3 x y 3) (hx:a.eval x= .int .i64 p) (hy:a.eval y= .int .i64 q) (h: -9223372036854775808≤p*q∧p*q≤9223372036854775807):(execOp a.eval o).run prog w= .ok (.value (.int .i64 (p*q))) w:=by
 obtain ⟨h1,h2⟩:=h
 unfold execOp
 rw [ho]
 simp only [hx,hy]
 go_simp
 rw [wrap64 h1 h2]
theorem Aty {p q:Nat} (ho:o.op= .binOp .add 3 x y 3) (hx:a.eval x= .int .i64 (p:Int)) (hy:a.eval y= .int .i64 (q:Int)) (h:p+q≤9223372036854775807):(execOp a.eval o).run prog w= .ok (.value (.int .i64 ((p+q:Nat):Int))) w:=by
 rw [Int.natCast_add]
 exact An1 ho hx hy (by omega)
theorem Ats {p q:Nat} (ho:o.op= .binOp .mul 3 x y 3) (hx:a.eval x= .int .i64 (p:Int)) (hy:a.eval y= .int .i64 (q:Int)) (h:p*q≤9223372036854775807):(execOp a.eval o).run prog w= .ok (.value (.int .i64 ((p*q:Nat):Int))) w:=by
 have e:((p*q:Nat):Int)=(p:Int)*(q:Int):=Int.natCast_mul p q
 rw [e]
 refine A6h ho hx hy ?_
 rw [←e]
 omega
theorem Agt {r:Bool} (ho:o.op= .binOp .eql 3 x y 3) (hx:a.eval x= .int .i64 p) (hy:a.eval y= .int .i64 q) (h:decide (p=q)=r):(execOp a.eval o).run prog w= .ok (.value (.bool r)) w:=by
 subst h
 unfold execOp
 rw [ho]
 simp only [hx,hy]
 go_simp
 rfl
theorem An0 {r:Bool} (ho:o.op= .binOp .neq 3 x y 3) (hx:a.eval x= .int .i64 p) (hy:a.eval y= .int .i64 q) (h:decide (p≠q)=r):(execOp a.eval o).run prog w= .ok (.value (.bool r)) w:=by
 subst h
 unfold execOp
 rw [ho]
 simp only [hx,hy]
 go_simp
 rfl
theorem Att {r:Bool} (ho:o.op= .binOp .lss 3 x y 3) (hx:a.eval x= .int .i64 p) (hy:a.eval y= .int .i64 q) (h:decide (p<q)=r):(execOp a.eval o).run prog w= .ok (.value (.bool r)) w:=by
 subst h
 unfold execOp
 rw [ho]
 simp only [hx,hy]
 go_simp
theorem Atu {r:Bool} (ho:o.op= .binOp .leq 3 x y 3) (hx:a.eval x= .int .i64 p) (hy:a.eval y= .int .i64 q) (h:decide (p≤q)=r):(execOp a.eval o).run prog w= .ok (.value (.bool r)) w:=by
 subst h
 unfold execOp
 rw [ho]
 simp only [hx,hy]
 go_simp
theorem Atv {r:Bool} (ho:o.op= .binOp .geq 3 x y 3) (hx:a.eval x= .int .i64 p) (hy:a.eval y= .int .i64 q) (h:decide (p≥q)=r):(execOp a.eval o).run prog w= .ok (.value (.bool r)) w:=by
 subst h
 unfold execOp
 rw [ho]
 simp only [hx,hy]
 go_simp
end
def RS (rb ro g cap i:Nat) (L:List Sp) (w':World):Prop:=(Instr.loadAt 73 (pZ rb (ro+0))).run prog w'= .ok (.slice (some ⟨g,0,none⟩) L.length cap) w'∧(Instr.loadAt 3 (pZ g (73*i+68))).run prog w'= .ok (.int .i64 ((gt L i).up:Int)) w'
def TS (rb ro g cap i:Nat) (c:Bool) (L:List Sp) (w':World):Prop:=(Instr.loadAt 73 (pZ rb (ro+0))).run prog w'= .ok (.slice (some ⟨g,0,none⟩) L.length cap) w'∧(Instr.loadAt 3 (pZ g (73*i+69+nb true))).run prog w'= .ok (.int .i64 (dn (gt L i) true:Int)) w'∧(Instr.loadAt 3 (pZ g (73*(dn (gt L i) true)+71+nb c))).run prog w'= .ok (.int .i64 (ct (gt L (dn (gt L i) true)) c:Int)) w'
def Arm:Array Oper:=(⟨_,rfl⟩:{o // some o=rgB Tryz.f149 1}).1
theorem A7l {rb ro g cap:Nat} {L:List Sp} {i:Nat} {c:Bool} (a:Act) (w:World) (Q:Exit→Act→World→Prop) (zz:a.tmps.size=19)
 (t0:a.tmps.getD 0 undef= (pZ rb ro))
 (t1:a.tmps.getD 1 undef= .int .i64 (i:Int))
 (t2:a.tmps.getD 2 undef= .int .i64 (nb c:Int))
 (hR:Aax w rb ro g cap L) (hi:i<L.length) (hc:decide ((nb c:Int)=0)=false)
 (h:∀a' w',w'=w→a'=(((((((((((a.put (some 7) (.int .i64 (nb c:Int))).put (some 8) (.bool false)).put (some 9) (.bool false)).put (some 10) (pZ rb ro)).put (some 11) (pZ rb ro)).put (some 12) (pZ rb (ro+0))).put (some 13) (.slice (some ⟨g,0,none⟩) (L).length cap)).put (some 14) (.int .i64 (i:Int))).put (some 15) (pZ g (73*i))).put (some 16) (pZ g (73*i+67))).put (some 17) (.bool (gt L i).sh)).put (some 18) (.bool (gt L i).sh)→Q .normal a' w') :
 (Code.region 1 Arm false).wp prog Q a w:=by
 refine z0 rfl ?_
 refine zv rfl (xmv rfl (zi t2 rfl)) ?_
 refine zv (v:= .bool false) rfl (Agt rfl (zg zz rfl) rfl hc) ?_
 refine zv rfl (xmv rfl (zg zz rfl)) ?_
 refine zv (zw zz rfl rfl rfl (zg zz rfl)) (xmv rfl (zi t0 rfl)) ?_
 refine zv (zw zz rfl rfl rfl (zg zz rfl)) (xnc rfl (zg zz rfl)) ?_
 refine zv (zw zz rfl rfl rfl (zg zz rfl)) (xfa rfl (zg zz rfl) (Abw _ _ _)) ?_
 refine zv (zw zz rfl rfl rfl (zg zz rfl)) (xld rfl (zg zz rfl) (Ado hR)) ?_
 refine zv (zw zz rfl rfl rfl (zg zz rfl)) (xmv rfl (zi t1 rfl)) ?_
 refine zv (zw zz rfl rfl rfl (zg zz rfl)) (xia rfl (zg zz rfl) (zg zz rfl) (Ad8 hi hR.len _)) ?_
 refine zv (zw zz rfl rfl rfl (zg zz rfl)) (xfa rfl (zg zz rfl) (Ay9 _ _ _)) ?_
 refine zv (zw zz rfl rfl rfl (zg zz rfl)) (xld rfl (zg zz rfl) (Baf hR hi)) ?_
 refine zv rfl (Aa0 rfl (zg zz rfl) (zg zz rfl)) ?_
 exact ze rfl (h _ _ (rfl) rfl)
def Ap8:Array Oper:=(⟨_,rfl⟩:{o // some o=rgB Tryz.f123 1}).1
theorem A7a {rb ro i u o:Nat} {c:Bool} (a:Act) (w:World) (Q:Exit→Act→World→Prop) (zz:a.tmps.size=16)
 (t0:a.tmps.getD 0 undef= (pZ rb ro))
 (t1:a.tmps.getD 1 undef= .int .i64 (i:Int))
 (t2:a.tmps.getD 2 undef= .int .i64 (nb c:Int))
 (CU:Calls prog 126 #[(pZ rb ro), .int .i64 (i:Int), .int .i64 0, .int .i64 (nb c:Int)] w fun e w'=>e= .returned (.int .i64 (u:Int))∧Qt w w'∧Calls prog 149 #[(pZ rb ro), .int .i64 (i:Int), .int .i64 (nb c:Int)] w' fun e2 w2=>e2= .returned (.int .i64 (o:Int))∧Qt w' w2) (hs:u+o≤9223372036854775807)
 (h:∀a' w',Qt w w'→a'=(((((((((a.put (some 7) (pZ rb ro)).put (some 8) (.int .i64 (i:Int))).put (some 9) (.int .i64 (nb c:Int))).put (some 10) (.int .i64 (u:Int))).put (some 11) (pZ rb ro)).put (some 12) (.int .i64 (i:Int))).put (some 13) (.int .i64 (nb c:Int))).put (some 14) (.int .i64 (o:Int))).put (some 15) (.int .i64 ((u+o:Nat):Int))).put (some 6) (.int .i64 ((u+o:Nat):Int))→Q .normal a' w') :
 (Code.region 1 Ap8 false).wp prog Q a w:=by
 refine z0 rfl ?_
 refine zv rfl (xmv rfl (zi t0 rfl)) ?_
 refine zv rfl (xmv rfl (zi t1 rfl)) ?_
 refine zv rfl (xmv rfl (zi t2 rfl)) ?_
 refine zc rfl (Ad5 rfl (zg zz rfl) (zg zz rfl) rfl (zg zz rfl)) (CU) (fun e x3 hx=> ?_)
 obtain ⟨rfl,q1,CO⟩:=hx
 refine ⟨_,rfl, ?_⟩
 refine zv rfl (xmv rfl (zi t0 rfl)) ?_
 refine zv rfl (xmv rfl (zi t1 rfl)) ?_
 refine zv rfl (xmv rfl (zi t2 rfl)) ?_
 refine zc rfl (Afn rfl (zg zz rfl) (zg zz rfl) (zg zz rfl)) (CO) (fun e x7 hx=> ?_)
 obtain ⟨rfl,q2⟩:=hx
 refine ⟨_,rfl, ?_⟩
 refine zv (v:= .int .i64 ((u+o:Nat):Int)) rfl (Aty rfl (zg zz rfl) (zg zz rfl) hs) ?_
 refine zv rfl (xas rfl (zg zz rfl)) ?_
 exact ze rfl (h _ _ (q1.trans q2) rfl)
def Apg:Array Oper:=(⟨_,rfl⟩:{o // some o=rgB Tryz.f73 1}).1
theorem A1h {rb ro g cap:Nat} {L:List Sp} {i:Nat} {r:Bool} (a:Act) (w:World) (Q:Exit→Act→World→Prop) (zz:a.tmps.size=25)
 (t0:a.tmps.getD 0 undef= (pZ rb ro))
 (t1:a.tmps.getD 1 undef= .int .i64 (i:Int))
 (hR:Aax w rb ro g cap L) (hi:i<L.length) (hr:decide ((dn (gt L i) false:Int)≠0)=r)
 (h:∀a' w',w'=w→a'=(((((((((a.put (some 5) (pZ rb ro)).put (some 6) (pZ rb ro)).put (some 7) (pZ rb (ro+0))).put (some 8) (.slice (some ⟨g,0,none⟩) (L).length cap)).put (some 9) (.int .i64 (i:Int))).put (some 10) (pZ g (73*i))).put (some 11) (pZ g (73*i+69))).put (some 12) (pZ g (73*i+69+nb false))).put (some 13) (.int .i64 (dn (gt L i) false:Int))).put (some 14) (.bool r)→Q .normal a' w') :
 (Code.region 1 Apg false).wp prog Q a w:=by
 refine z0 rfl ?_
 refine zv rfl (xmv rfl (zi t0 rfl)) ?_
 refine zv rfl (xnc rfl (zg zz rfl)) ?_
 refine zv rfl (xfa rfl (zg zz rfl) (Abw _ _ _)) ?_
 refine zv rfl (xld rfl (zg zz rfl) (Ado hR)) ?_
 refine zv rfl (xmv rfl (zi t1 rfl)) ?_
 refine zv rfl (xia rfl (zg zz rfl) (zg zz rfl) (Ad8 hi hR.len _)) ?_
 refine zv rfl (xfa rfl (zg zz rfl) (Aco _ _ _)) ?_
 refine zv rfl (xia rfl (zg zz rfl) rfl (Apc _ _)) ?_
 refine zv rfl (xld rfl (zg zz rfl) (Akd hR hi false)) ?_
 refine zv (v:= .bool r) rfl (An0 rfl (zg zz rfl) rfl hr) ?_
 exact ze rfl (h _ _ (rfl) rfl)
def Aja:Array Oper:=(⟨_,rfl⟩:{o // some o=rgB Tryz.f152 0}).1
theorem Axs {rb ro g cap:Nat} {L:List Sp} {i p:Nat} {s:Bool} (Fin:World→Prop) (a:Act) (w:World) (Q:Exit→Act→World→Prop) (zz:a.tmps.size=20)
 (t0:a.tmps.getD 0 undef= (pZ rb ro))
 (t1:a.tmps.getD 1 undef= .int .i64 (i:Int))
 (t2:a.tmps.getD 2 undef= .int .i64 (p:Int))
 (hi:i<L.length) (hl:L.length≤1400000000000) (h0:RS rb ro g cap i L w.drew) (CS:Calls prog 127 #[(pZ rb ro), .int .i64 (i:Int)] w.drew fun e w'=>e= .returned (.int .i64 (nb s:Int))∧RS rb ro g cap i L w'∧Calls prog 72 #[(pZ rb ro), .int .i64 ((gt L i).up:Int), .int .i64 (nb s:Int), .int .i64 (p:Int)] w' fun e2 w2=>e2= .returned (.tuple #[])∧RS rb ro g cap i L w2∧Fin w2)
 (h:∀a' w',Fin w'→a'=(((((((((((((a.put (some 6) (pZ rb ro)).put (some 7) (pZ rb ro)).put (some 8) (pZ rb ro)).put (some 9) (pZ rb (ro+0))).put (some 10) (.slice (some ⟨g,0,none⟩) L.length cap)).put (some 11) (.int .i64 (i:Int))).put (some 12) (pZ g (73*i))).put (some 13) (pZ g (73*i+68))).put (some 14) (.int .i64 ((gt L i).up:Int))).put (some 15) (pZ rb ro)).put (some 16) (.int .i64 (i:Int))).put (some 18) (.int .i64 (p:Int))).put (some 17) (.int .i64 (nb s:Int))).put (some 19) (.tuple #[])→Q .normal a' w') :
 (Code.region 0 Aja true).wp prog Q a w:=by
 refine y0 (fun w'=>(Instr.loadAt 73 (pZ rb (ro+0))).run prog w'= .ok (.slice (some ⟨g,0,none⟩) L.length cap) w'∧(Instr.loadAt 3 (pZ g (73*i+68))).run prog w'= .ok (.int .i64 ((gt L i).up:Int)) w') (h0) (fun hHeld=> ?_)
 refine yv 0 rfl rfl (fun w1 hw=>xmv rfl (zi t0 rfl)) hHeld ?_
 refine yv 1 rfl rfl (fun w1 hw=>xmv rfl (zi t0 rfl)) hHeld ?_
 refine yv 2 rfl rfl (fun w1 hw=>xnc rfl (zg zz rfl)) hHeld ?_
 refine yv 3 rfl rfl (fun w1 hw=>xfa rfl (zg zz rfl) (Abw _ _ _)) hHeld ?_
 refine yv 4 rfl rfl (fun w1 hw=>xld rfl (zg zz rfl) hw.1) hHeld ?_
 refine yv 5 rfl rfl (fun w1 hw=>xmv rfl (zi t1 rfl)) hHeld ?_
 refine yv 6 rfl rfl (fun w1 hw=>xia rfl (zg zz rfl) (zg zz rfl) (Ad8 hi hl _)) hHeld ?_
 refine yv 7 rfl rfl (fun w1 hw=>xfa rfl (zg zz rfl) (Aie _ _ _)) hHeld ?_
 refine yv 8 rfl rfl (fun w1 hw=>xld rfl (zg zz rfl) hw.2) hHeld ?_
 refine yv 9 rfl rfl (fun w1 hw=>xmv rfl (zi t0 rfl)) hHeld ?_
 refine yv 10 rfl rfl (fun w1 hw=>xmv rfl (zi t1 rfl)) hHeld ?_
 refine yv 12 rfl rfl (fun w1 hw=>xmv rfl (zi t2 rfl)) hHeld ?_
 refine yc 11 rfl rfl (Aap rfl (zg zz rfl) (zg zz rfl)) (CS) (fun e x11 hx=> ?_)
 obtain ⟨rfl,S1,CH⟩:=hx
 refine ⟨_,rfl,S1,fun hHeld=> ?_⟩
 refine yc 13 rfl rfl (Ad5 rfl (zg zz rfl) (zg zz rfl) (zg zz rfl) (zg zz rfl)) (CH) (fun e x13 hx=> ?_)
 obtain ⟨rfl,S2,HF⟩:=hx
 refine ⟨_,rfl,S2,fun hHeld=> ?_⟩
 exact ye rfl (h _ _ (HF) rfl)
def Aoo:Array Oper:=(⟨_,rfl⟩:{o // some o=rgB Tryz.f96 3}).1
theorem A4j {rb ro g cap:Nat} {L:List Sp} {i u:Nat} {c:Bool} (Fin:World→Prop) (a:Act) (w:World) (Q:Exit→Act→World→Prop) (zz:a.tmps.size=41)
 (t0:a.tmps.getD 0 undef= (pZ rb ro))
 (t1:a.tmps.getD 1 undef= .int .i64 (i:Int))
 (t4:a.tmps.getD 4 undef= .int .i64 (nb c:Int))
 (hi:i<L.length) (hl:L.length≤1400000000000) (hd:dn (gt L i) true<L.length) (h0:TS rb ro g cap i c L w.drew) (hs:u+ct (gt L (dn (gt L i) true)) c≤9223372036854775807) (CU:Calls prog 123 #[(pZ rb ro), .int .i64 (i:Int), .int .i64 (nb c:Int)] w.drew fun e w'=>e= .returned (.int .i64 (u:Int))∧TS rb ro g cap i c L w'∧∃w2,(Instr.storeAt 3 (pZ g (73*i+71+nb c)) (.int .i64 ((u+ct (gt L (dn (gt L i) true)) c:Nat):Int))).run prog w'= .ok () w2∧TS rb ro g cap i c L w2∧Fin w2)
 (h:∀a' w',Fin w'→a'=(((((((((((((((((((((((((((((((a.put (some 8) (pZ rb ro)).put (some 9) (pZ rb ro)).put (some 10) (pZ rb (ro+0))).put (some 11) (.slice (some ⟨g,0,none⟩) L.length cap)).put (some 12) (.int .i64 (i:Int))).put (some 13) (.int .i64 (nb c:Int))).put (some 14) (pZ rb ro)).put (some 15) (.int .i64 (i:Int))).put (some 16) (.int .i64 (nb c:Int))).put (some 18) (pZ rb ro)).put (some 19) (pZ rb ro)).put (some 20) (pZ rb (ro+0))).put (some 21) (.slice (some ⟨g,0,none⟩) L.length cap)).put (some 22) (pZ rb ro)).put (some 23) (pZ rb ro)).put (some 24) (pZ rb (ro+0))).put (some 25) (.slice (some ⟨g,0,none⟩) L.length cap)).put (some 26) (.int .i64 (i:Int))).put (some 27) (pZ g (73*i))).put (some 28) (pZ g (73*i+69))).put (some 29) (pZ g (73*i+69+nb true))).put (some 30) (.int .i64 (dn (gt L i) true:Int))).put (some 31) (.int .i64 (nb c:Int))).put (some 32) (pZ g (73*(dn (gt L i) true)))).put (some 33) (pZ g (73*(dn (gt L i) true)+71))).put (some 34) (pZ g (73*(dn (gt L i) true)+71+nb c))).put (some 35) (.int .i64 (ct (gt L (dn (gt L i) true)) c:Int))).put (some 37) (pZ g (73*i))).put (some 38) (pZ g (73*i+71))).put (some 17) (.int .i64 (u:Int))).put (some 36) (.int .i64 ((u+ct (gt L (dn (gt L i) true)) c:Nat):Int))).put (some 39) (pZ g (73*i+71+nb c))→Q .normal a' w') :
 (Code.region 3 Aoo true).wp prog Q a w:=by
 refine y0 (fun w'=>TS rb ro g cap i c L w') (h0) (fun hHeld=> ?_)
 refine yv 0 rfl rfl (fun w1 hw=>xmv rfl (zi t0 rfl)) hHeld ?_
 refine yv 1 rfl rfl (fun w1 hw=>xnc rfl (zg zz rfl)) hHeld ?_
 refine yv 2 rfl rfl (fun w1 hw=>xfa rfl (zg zz rfl) (Abw _ _ _)) hHeld ?_
 refine yv 3 rfl rfl (fun w1 hw=>xld rfl (zg zz rfl) hw.1) hHeld ?_
 refine yv 4 rfl rfl (fun w1 hw=>xmv rfl (zi t1 rfl)) hHeld ?_
 refine yv 5 rfl rfl (fun w1 hw=>xmv rfl (zi t4 rfl)) hHeld ?_
 refine yv 6 rfl rfl (fun w1 hw=>xmv rfl (zi t0 rfl)) hHeld ?_
 refine yv 7 rfl rfl (fun w1 hw=>xmv rfl (zi t1 rfl)) hHeld ?_
 refine yv 8 rfl rfl (fun w1 hw=>xmv rfl (zi t4 rfl)) hHeld ?_
 refine yv 10 rfl rfl (fun w1 hw=>xmv rfl (zi t0 rfl)) hHeld ?_
 refine yv 11 rfl rfl (fun w1 hw=>xnc rfl (zg zz rfl)) hHeld ?_
 refine yv 12 rfl rfl (fun w1 hw=>xfa rfl (zg zz rfl) (Abw _ _ _)) hHeld ?_
 refine yv 13 rfl rfl (fun w1 hw=>xld rfl (zg zz rfl) hw.1) hHeld ?_
 refine yv 14 rfl rfl (fun w1 hw=>xmv rfl (zi t0 rfl)) hHeld ?_
 refine yv 15 rfl rfl (fun w1 hw=>xnc rfl (zg zz rfl)) hHeld ?_
 refine yv 16 rfl rfl (fun w1 hw=>xfa rfl (zg zz rfl) (Abw _ _ _)) hHeld ?_
 refine yv 17 rfl rfl (fun w1 hw=>xld rfl (zg zz rfl) hw.1) hHeld ?_
 refine yv 18 rfl rfl (fun w1 hw=>xmv rfl (zi t1 rfl)) hHeld ?_
 refine yv 19 rfl rfl (fun w1 hw=>xia rfl (zg zz rfl) (zg zz rfl) (Ad8 hi hl _)) hHeld ?_
 refine yv 20 rfl rfl (fun w1 hw=>xfa rfl (zg zz rfl) (Aco _ _ _)) hHeld ?_
 refine yv 21 rfl rfl (fun w1 hw=>xia rfl (zg zz rfl) rfl (Apb _ _)) hHeld ?_
 refine yv 22 rfl rfl (fun w1 hw=>xld rfl (zg zz rfl) hw.2.1) hHeld ?_
 refine yv 23 rfl rfl (fun w1 hw=>xmv rfl (zi t4 rfl)) hHeld ?_
 refine yv 24 rfl rfl (fun w1 hw=>xia rfl (zg zz rfl) (zg zz rfl) (Ad8 hd hl _)) hHeld ?_
 refine yv 25 rfl rfl (fun w1 hw=>xfa rfl (zg zz rfl) (Aid _ _ _)) hHeld ?_
 refine yv 26 rfl rfl (fun w1 hw=>xia rfl (zg zz rfl) (zg zz rfl) (Aei _ c _)) hHeld ?_
 refine yv 27 rfl rfl (fun w1 hw=>xld rfl (zg zz rfl) hw.2.2) hHeld ?_
 refine yv 29 rfl rfl (fun w1 hw=>xia rfl (zg zz rfl) (zg zz rfl) (Ad8 hi hl _)) hHeld ?_
 refine yv 30 rfl rfl (fun w1 hw=>xfa rfl (zg zz rfl) (Aid _ _ _)) hHeld ?_
 refine yc 9 rfl rfl (Afn rfl (zg zz rfl) (zg zz rfl) (zg zz rfl)) (CU) (fun e x9 hx=> ?_)
 obtain ⟨rfl,S1,w2,ES,S2,HF⟩:=hx
 refine ⟨_,rfl,S1,fun hHeld=> ?_⟩
 refine yv (v:= .int .i64 ((u+ct (gt L (dn (gt L i) true)) c:Nat):Int)) 28 rfl rfl (fun w1 hw=>Aty rfl (zg zz rfl) (zg zz rfl) hs) hHeld ?_
 refine yv 31 rfl rfl (fun w1 hw=>xia rfl (zg zz rfl) (zg zz rfl) (Aei _ c _)) hHeld ?_
 refine ys 32 rfl rfl (Aai rfl (zg zz rfl) (zg zz rfl) ES) (S2) (fun hHeld=> ?_)
 exact ye rfl (h _ _ (HF) rfl)
structure Bai (L:List Sp):Prop where
 l:∀i,i<L.length→(gt L i).l<L.length
 r:∀i,i<L.length→(gt L i).r<L.length
 u:∀i,i<L.length→(gt L i).up<L.length
 c:∀i,i<L.length→∀w,ct (gt L i) w≤2800000000000
section
variable {w:World} {rb ro g cap i:Nat} {L:List Sp}
theorem Aol (h:Aax w rb ro g cap L) (hi:i<L.length) (hc:ct (gt L i) false≤5600000000000):Calls prog 124 #[(pZ rb ro), .int .i64 (i:Int)] w fun e w'=>e= .returned (.int .i64 (wt L i:Int))∧w'=w:=by
 go_enter func124,ntmps124
 go_upto_region 1 with fail
 refine En.zqc tab rfl (En.st ((Ado h)) (En.st ((Ad8 hi h.len _)) (En.st ((Apc _ _)) (En.st ((A1u h hi false)) (En.ar (En.wN (q:=1) ((by omega))) (En.fi ?_))))))
 intro a' w1 hw ha
 subst ha
 obtain rfl:w1=w:=hw
 simp only [En.pM,En.pU,Act.put,qsA,qsB,qsC]
 go_wp2
 go_ret
 exact ⟨rfl,rfl⟩
theorem Agc {b c:Bool} (h:Aax w rb ro g cap L) (hi:i<L.length) (hd:dn (gt L i) b<L.length):Calls prog 126 #[(pZ rb ro), .int .i64 (i:Int), .int .i64 (nb b:Int), .int .i64 (nb c:Int)] w fun e w'=>e= .returned (.int .i64 (under L i b c:Int))∧Qt w w':=by
 go_enter func126,ntmps126
 go_upto_region 1 with fail
 refine En.zyc tab [0,1,2,3,4,5,6,7,8,9,10,11,12,13,14,15,16,17,18,19] 20 (fun w'=>w'=(World.drew _)) (hS:=(rfl)) (h:=En.sty (fun Xw Xh=>(Ado (Xh▸h.drew))) (En.sty (fun Xw Xh=>(Ado (Xh▸h.drew))) (En.sty (fun Xw Xh=>(Ad8 hi h.len _)) (En.sty (fun Xw Xh=>(Aei _ b _)) (En.sty (fun Xw Xh=>(Akd (Xh▸h.drew) hi b)) (En.sty (fun Xw Xh=>(Ad8 hd h.len _)) (En.sty (fun Xw Xh=>(Aei _ c _)) (En.sty (fun Xw Xh=>(A1u (Xh▸h.drew) hd c)) (En.fi ?_)))))))))
 intro a' w1 hw ha
 subst ha
 simp only [En.pM,En.pU,Act.put,qsA,qsB,qsC]
 go_wp2
 go_ret
 exact ⟨rfl,by rw [hw];exact Qt.drew w⟩
theorem Arl {c:Bool} (h:Aax w rb ro g cap L) (hi:i<L.length):Calls prog 149 #[(pZ rb ro), .int .i64 (i:Int), .int .i64 (nb c:Int)] w fun e w'=>e= .returned (.int .i64 (own L i c:Int))∧Qt w w':=by
 cases c with
 |false =>
  have ho:own L i false=1:=by simp [own]
  rw [ho]
  go_enter func149,ntmps149
  go_upto_region 1 with fail
  refine En.zqc tab rfl (En.cm (c':=true) (rfl) (En.fi ?_))
  intro a' w1 hw ha
  subst ha
  simp only [En.pM,En.pU,Act.put,qsA,qsB,qsC]
  go_wp2
  go_ret
  exact ⟨rfl,by rw [hw];exact Qt.refl w⟩
 |true =>
  have HO:=Aaa (show own L i true=if (gt L i).sh=true then 1 else 0 from by unfold own;simp)
  go_enter func149,ntmps149
  go_upto_region 1 with fail
  refine A7l (c:=true) _ _ _ rfl rfl rfl rfl h hi rfl ?_
  intro a' w1 hw ha
  subst ha
  replace hw:Qt w w1:=by rw [hw];exact Qt.refl w
  simp only [Act.put,qsA,qsB,qsC]
  cases hs:(gt L i).sh with
  |false =>
   rw [hs] at HO
   clear hs
   go_wp2
   go_ret
   exact ⟨by rw [HO.out];rfl,hw⟩
  |true =>
   rw [hs] at HO
   clear hs
   go_wp2
   go_ret
   exact ⟨by rw [HO.out];rfl,hw⟩
theorem A00 (L:List Sp) (i:Nat) (c:Bool):own L i c≤1:=by unfold own;split <;>omega
theorem Aho {c:Bool} (h:Aax w rb ro g cap L) (hi:i<L.length) (hd:(gt L i).l<L.length) (hc:under L i false c≤2800000000000):Calls prog 123 #[(pZ rb ro), .int .i64 (i:Int), .int .i64 (nb c:Int)] w fun e w'=>e= .returned (.int .i64 (upTo L i c:Int))∧Qt w w':=by
 have ho:=A00 L i c
 go_enter func123,ntmps123
 go_upto_region 1 with fail
 refine A7a (u:=under L i false c) (o:=own L i c) _ _ _ rfl rfl rfl rfl ?_ (by omega) ?_
 ·refine (Agc (b:=false) h hi hd).mono ?_
  rintro e w' ⟨rfl,q⟩
  exact ⟨rfl,q,Arl (h.qt q) hi⟩
 intro a' w1 hw ha
 subst ha
 simp only [Act.put,qsA,qsB,qsC]
 go_wp2
 go_ret
 exact ⟨rfl,hw⟩
theorem Ahr (h:Aax w rb ro g cap L) (hi:i<L.length) (hu:(gt L i).up<L.length):Calls prog 127 #[(pZ rb ro), .int .i64 (i:Int)] w fun e w'=>e= .returned (.int .i64 (nb (sideOf L i):Int))∧Qt w w':=by
 have he:decide ((dn (gt L (gt L i).up) false:Int)=(i:Int))= !(sideOf L i):=by
  unfold sideOf dn
  simp only [Bool.false_eq_true,if_false,Bool.not_not]
  rw [Bool.eq_iff_iff]
  simp
  omega
 go_enter func127,ntmps127
 go_upto_region 1 with fail
 refine En.zyc tab [0,1,2,3,4,5,6,7,8,9,10,11,12,13,14,15,16,17] 18 (fun w'=>w'=(World.drew _)) (hS:=(rfl)) (h:=En.sty (fun Xw Xh=>(Ado (Xh▸h.drew))) (En.sty (fun Xw Xh=>(Ado (Xh▸h.drew))) (En.sty (fun Xw Xh=>(Ad8 hi h.len _)) (En.sty (fun Xw Xh=>(A1t (Xh▸h.drew) hi)) (En.sty (fun Xw Xh=>(Ad8 hu h.len _)) (En.sty (fun Xw Xh=>(Apc _ _)) (En.sty (fun Xw Xh=>(Akd (Xh▸h.drew) hu false)) (En.cm (c':=(!(sideOf L i))) (he) (En.fi ?_)))))))))
 intro a' w1 hw ha
 subst ha
 simp only [En.pM,En.pU,Act.put,qsA,qsB,qsC]
 replace hw:Qt w w1:=by rw [hw];exact Qt.drew w
 clear he
 cases hs:sideOf L i
 ·have HS:=Aaa hs
  clear hs
  go_wp2
  go_ret
  exact ⟨by rw [HS.out];rfl,hw⟩
 ·have HS:=Aaa hs
  clear hs
  go_wp2
  go_ret
  exact ⟨by rw [HS.out];rfl,hw⟩
end
structure Did (w:World) (rb ro g cap:Nat) (L':List Sp) (w':World):Prop where
 at':Aax w' rb ro g cap L'
 tch:Tch (fun j=>j=g) w w'
 size:w'.heap.size=w.heap.size
theorem Did.refl {w:World} {rb ro g cap:Nat} {L:List Sp} (h:Aax w rb ro g cap L):Did w rb ro g cap L w:=⟨h,Tch.refl _ _,rfl⟩
theorem Did.trans {w w1 w2:World} {rb ro g cap:Nat} {L1 L2:List Sp} (h:Did w rb ro g cap L1 w1) (k:Did w1 rb ro g cap L2 w2):Did w rb ro g cap L2 w2:=⟨k.at',h.tch.trans k.tch,k.size.trans h.size⟩
theorem Did.qt {w w1 w2:World} {rb ro g cap:Nat} {L1:List Sp} (h:Did w rb ro g cap L1 w1) (q:Qt w1 w2):Did w rb ro g cap L1 w2:=⟨h.at'.qt q,h.tch.trans (q.tch _),q.size.trans h.size⟩
theorem Did.from {w w1 w2:World} {rb ro g cap:Nat} {L1:List Sp} (q:Qt w w1) (h:Did w1 rb ro g cap L1 w2):Did w rb ro g cap L1 w2:=⟨h.at',(q.tch _).trans h.tch,h.size.trans q.size⟩
section
variable {w:World} {rb ro g cap i:Nat} {L:List Sp}
theorem A7d (h:Aax w rb ro g cap L) {u:Nat} (hu:u<L.length) (b:Bool) (p:Nat):∃w',(Instr.storeAt 3 (pZ g (73*u+69+nb b)) (.int .i64 (p:Int))).run prog w= .ok () w'∧Did w rb ro g cap (hangD L u b p) w':=by
 obtain ⟨w',e,a,t,z⟩:=h.num (k:=2+nb b) (t:=3) (v:= .int .i64 (p:Int)) hu (setDn · b p) (setDn_up _ _ _).2.2.1 (by cases b <;>rfl) (by cases b <;>simp [nb]) (by kernel_rfl) rfl rfl
 rw [show 73*u+(67+(2+nb b))=73*u+69+nb b by omega] at e
 exact ⟨w',e,a,t,z⟩
theorem A7b (h:Aax w rb ro g cap L) {p:Nat} (hp:p<L.length) (u:Nat):∃w',(Instr.storeAt 3 (pZ g (73*p+68)) (.int .i64 (u:Int))).run prog w= .ok () w'∧Did w rb ro g cap (setUp L p u) w':=by
 obtain ⟨w',e,a,t,z⟩:=h.num (k:=1) (t:=3) (v:= .int .i64 (u:Int)) hp (fun s=>{s with up:=u}) rfl rfl (by decide) (by kernel_rfl) rfl rfl
 exact ⟨w',e,a,t,z⟩
theorem A7e (h:Aax w rb ro g cap L) (hi:i<L.length) (c:Bool):∃w',(Instr.storeAt 3 (pZ g (73*i+71+nb c)) (.int .i64 ((upTo L i c+under L i true c:Nat):Int))).run prog w= .ok () w'∧Did w rb ro g cap (tallyW L i c) w':=by
 obtain ⟨w',e,a,t,z⟩:=h.num (k:=4+nb c) (t:=3) (v:= .int .i64 ((upTo L i c+under L i true c:Nat):Int)) hi (fun s=>if c then {s with cl:=upTo L i c+under L i true c} else {s with ca:=upTo L i c+under L i true c}) (by cases c <;>rfl) (by cases c <;>rfl) (by cases c <;>simp [nb]) (by kernel_rfl) rfl rfl
 rw [show 73*i+(67+(4+nb c))=73*i+71+nb c by omega] at e
 exact ⟨w',e,a,t,z⟩
theorem Ae0 {u p:Nat} {b:Bool} (h:Aax w rb ro g cap L) (hu:u<L.length) (hp:p<L.length):Calls prog 72 #[(pZ rb ro), .int .i64 (u:Int), .int .i64 (nb b:Int), .int .i64 (p:Int)] w fun e w'=>e= .returned (.tuple #[])∧Did w rb ro g cap (hang L u b p) w':=by
 obtain ⟨w2,e2,d2⟩:=A7d h hu b p
 have hl2:(hangD L u b p).length=L.length:=md_len _ _ _
 by_cases h0:p=0
 ·have HL:Hid (hang L u b p=hangD L u b p):=by unfold hang;exact if_pos h0
  subst h0
  go_enter func72,ntmps72
  go_upto_region 0 with fail
  refine En.zqc tab rfl (En.st ((Ado h)) (En.st ((Ad8 hu h.len _)) (En.st ((Aei _ b _)) (En.eu (e2) (En.fi ?_)))))
  intro a' w1 hw ha
  subst ha
  subst hw
  simp only [En.pM,En.pU,Act.put,qsA,qsB,qsC]
  go_wp2
  go_end0
  exact ⟨rfl,by rw [HL.out];exact d2⟩
 ·have HL:Hid (hang L u b p=setUp (hangD L u b p) p u):=by unfold hang;exact if_neg h0
  obtain ⟨w3,e3,d3⟩:=A7b d2.at' (p:=p) (by rw [hl2];exact hp) u
  have hp0:¬(p:Int)=0:=by omega
  go_enter func72,ntmps72
  go_upto_region 0 with fail
  refine En.zqc tab rfl (En.st ((Ado h)) (En.st ((Ad8 hu h.len _)) (En.st ((Aei _ b _)) (En.eu (e2) (En.fi ?_)))))
  intro a' w1 hw ha
  subst ha
  subst hw
  simp only [En.pM,En.pU,Act.put,qsA,qsB,qsC]
  go_upto_region 2 with fail
  refine En.zqc tab rfl (En.st ((Ado d2.at')) (En.st ((Ad8 (by rw [hl2];exact hp) d2.at'.len _)) (En.eu (e3) (En.fi ?_))))
  intro a' w1 hw ha
  subst ha
  subst hw
  simp only [En.pM,En.pU,Act.put,qsA,qsB,qsC]
  go_wp2
  go_end0
  exact ⟨rfl,by rw [HL.out];exact d2.trans d3⟩
end
def fs:T→Nat
 | .nil=>0
 | .nd i .nil _=>i
 | .nd _ (.nd j a b) _=>fs (.nd j a b)
theorem A6e:∀(t:T) (c:Ctx),t≠ .nil→upOf (lft t c)=fs t
 | .nil,c,h=>absurd rfl h
 | .nd i .nil r,c,_=>rfl
 | .nd i (.nd j a b) r,c,_=>by
   rw [lft,A6e (.nd j a b) _ (by simp)]
   rfl
section
variable {w:World} {rb ro g cap i:Nat} {L:List Sp}
theorem Ath {t:T} {p:Nat} (h:Aax w rb ro g cap L) (hr:Rep L p t) (h0:t.ix≠0) (hn:lsp t≤L.length):Calls prog 73 #[(pZ rb ro), .int .i64 (t.ix:Int)] w fun e w'=>e= .returned (.int .i64 (fs t:Int))∧Qt w w':=by
 obtain ⟨N,hN⟩:∃N,N=L.length:=⟨_,rfl⟩
 rw [←hN] at hn
 have HN:=Aaa hN
 clear hN
 go_enter func73,ntmps73
 go_wp2
 go_loopw [1] (fun v1 wr=> ∃(t':T) (p' a:Nat),v1= .int .i64 (a:Int)∧a=t'.ix∧Rep L p' t'∧a≠0∧fs t'=fs t∧lsp t'≤N∧Qt w wr) (fun v1 _=>dep (fun a=>(gt L a).l) N (match v1 with | .int _ i=>i.toNat|_=>0))
 case atStart=>exact ⟨t,p,t.ix,rfl,rfl,hr,h0,rfl,hn,Qt.refl w⟩
 case round =>
  clear hr h0 hn
  obtain ⟨t',p',a,rfl,ha,hr,h0,hfs,hn,q⟩:=hrel
  replace h:=h.qt q
  cases t' with
  |nil=>exact absurd ha h0
  |nd j l r =>
   obtain rfl:a=j:=ha
   have hj:a<L.length:=hr.2.1
   have hl:(gt L a).l=l.ix:=hr.2.2.2.1
   have hrl:Rep L a l:=hr.2.2.2.2.2.1
   have hd:dn (gt L a) false=l.ix:=hl
   have HD:=Aaa (dep_lsp _ _ N hr hn)
   have HS:=Aaa hfs
   clear hl hfs
   cases l with
   |nil =>
    go_upto_region 1 with fail
    refine A1h (r:=false) _ _ _ rfl rfl rfl h hj (by rw [hd];rfl) ?_
    intro a' w1 hw ha
    subst ha
    obtain rfl:w1=wr:=hw
    simp only [Act.put,qsA,qsB,qsC]
    go_wp2
    go_ret
    exact ⟨by rw [←HS.out];rfl,q⟩
   |nd k x y =>
    have hk0:k≠0:=hrl.1
    go_upto_region 1 with fail
    refine A1h (r:=true) _ _ _ rfl rfl rfl h hj (by rw [hd];simp only [T.ix];simp;omega) ?_
    intro a' w1 hw ha
    subst ha
    obtain rfl:w1=wr:=hw
    simp only [Act.put,qsA,qsB,qsC]
    go_upto_region 2 with fail
    refine En.zqc tab rfl (En.st ((Ado h)) (En.st ((Ad8 hj h.len _)) (En.st ((Apc _ _)) (En.st ((Akd h hj false)) (En.fi ?_)))))
    intro a' w2 hw ha
    subst ha
    obtain rfl:w2=w1:=hw
    rw [hd]
    simp only [En.pM,En.pU,Act.put,qsA,qsB,qsC]
    go_wp2
    refine ⟨⟨.nd k x y,a,k,rfl,rfl,hrl,hk0,HS.out, ?_,q⟩, ?_⟩
    ·simp only [lsp] at hn ⊢;omega
    ·show dep (fun a=>(gt L a).l) N (k:Int).toNat<dep (fun a=>(gt L a).l) N (a:Int).toNat
     have e1:=dep_lsp _ _ N hrl (by simp only [lsp] at hn ⊢;omega)
     have e2:=HD.out
     simp only [T.ix] at e1 e2
     rw [Int.toNat_natCast,Int.toNat_natCast,e1,e2]
     simp only [lsp]
     omega
end
section
variable {w:World} {rb ro g cap i:Nat} {L:List Sp}
theorem Aax.rs (h:Aax w rb ro g cap L) (hi:i<L.length):RS rb ro g cap i L w:=⟨Ado h,A1t h hi⟩
theorem Akv {p:Nat} (h:Aax w rb ro g cap L) (hi:i<L.length) (hu:(gt L i).up<L.length) (hp:p<L.length) (hip:p≠i):Calls prog 152 #[(pZ rb ro), .int .i64 (i:Int), .int .i64 (p:Int)] w fun e w'=>e= .returned (.tuple #[])∧Did w rb ro g cap (repl L i p) w':=by
 go_enter func152,ntmps152
 go_upto_region 0 with fail
 refine Axs (s:=sideOf L i) (fun w'=>Did w rb ro g cap (repl L i p) w') _ _ _ rfl rfl rfl rfl hi h.len (h.drew.rs hi) ?_ ?_
 ·refine (Ahr h.drew hi hu).mono ?_
  rintro e w1 ⟨rfl,q1⟩
  have h1:=h.drew.qt q1
  refine ⟨rfl,h1.rs hi, ?_⟩
  refine (Ae0 h1 hu hp).mono ?_
  rintro e w2 ⟨rfl,d2⟩
  refine ⟨rfl,⟨?_, ?_⟩,Did.from ((Qt.drew w).trans q1) d2⟩
  ·have:=Ado d2.at'
   rwa [hang_len] at this
  ·have:=A1t d2.at' (i:=i) (by rw [hang_len];exact hi)
   rwa [hang_up,if_neg (fun q=>hip q.1)] at this
 intro a' w1 hw ha
 subst ha
 simp only [Act.put,qsA,qsB,qsC]
 go_wp2
 go_end0
 exact ⟨rfl,hw⟩
def tal (L:List Sp) (i k:Nat):List Sp:=if k=0 then L else if k=1 then tallyW L i false else tally L i
theorem A18 (L:List Sp) (i k:Nat):(tal L i k).length=L.length:=by
 unfold tal
 split
 ·rfl
 ·split
  ·exact tallyW_len _ _ _
  ·exact tally_len _ _
def wh (k:Nat):Bool:=decide (k=1)
theorem Awx (L:List Sp) (i k:Nat) (hk:k<2):tallyW (tal L i k) i (wh k)=tal L i (k+1):=by
 have:k=0∨k=1:=by omega
 rcases this with rfl|rfl <;>rfl
theorem Aww (L:List Sp) (i k:Nat) (hk:k<2) (j:Nat):(gt (tal L i k) j).l=(gt L j).l∧(gt (tal L i k) j).r=(gt L j).r∧ct (gt (tal L i k) j) (wh k)=ct (gt L j) (wh k):=by
 have:k=0∨k=1:=by omega
 rcases this with rfl|rfl
 ·exact ⟨rfl,rfl,rfl⟩
 ·show (gt (tallyW L i false) j).l=_∧(gt (tallyW L i false) j).r=_∧ct (gt (tallyW L i false) j) true=ct (gt L j) true
  refine ⟨(tallyW_rest _ _ _ _).2.1,(tallyW_rest _ _ _ _).2.2.1, ?_⟩
  rw [tallyW_ct,if_neg (fun q=>by simp at q)]
theorem Aax.ts {c:Bool} (h:Aax w rb ro g cap L) (hi:i<L.length) (hd:dn (gt L i) true<L.length):TS rb ro g cap i c L w:=⟨Ado h,Akd h hi true,A1u h hd c⟩
theorem Aqb (h:Aax w rb ro g cap L) (hi:i<L.length) (hl:(gt L i).l<L.length) (hr:(gt L i).r<L.length) (hri:(gt L i).r≠i) (hcl:∀c,ct (gt L (gt L i).l) c≤2800000000000) (hcr:∀c,ct (gt L (gt L i).r) c≤2800000000000) :
 Calls prog 96 #[(pZ rb ro), .int .i64 (i:Int)] w fun e w'=>e= .returned (.tuple #[])∧Did w rb ro g cap (tally L i) w':=by
 go_enter func96,ntmps96
 go_wp2
 go_loopw [5] (fun v5 wr=> ∃k:Nat,v5= .int .i64 (k:Int)∧k≤2∧Did w rb ro g cap (tal L i k) wr) (fun v5 _=>2-(match v5 with | .int _ i=>i.toNat|_=>0))
 case atStart=>exact ⟨0,rfl,by omega,Did.refl h⟩
 case round =>
  obtain ⟨k,rfl,hk2,d⟩:=hrel
  by_cases hk:k<2
  ·have hk':(k:Int)<2:=by omega
   have HN:=Aaa (Awx L i k hk)
   obtain ⟨M,hM⟩:∃M,tal L i k=M:=⟨_,rfl⟩
   have lM:M.length=L.length:=by rw [←hM];exact A18 _ _ _
   have rM:=fun j=>hM▸Aww L i k hk j
   rw [hM] at HN d
   clear hM
   have hnb:((nb (wh k):Nat):Int)=(k:Int):=by
        have:k=0∨k=1:=by omega
        rcases this with rfl|rfl <;>rfl
   have e1:dn (gt M i) false=(gt L i).l:=(rM i).1
   have e2:dn (gt M i) true=(gt L i).r:=(rM i).2.1
   have b1:under M i false (wh k)≤2800000000000:=by unfold under;rw [e1,(rM _).2.2];exact hcl _
   have b2:ct (gt M (dn (gt M i) true)) (wh k)≤2800000000000:=by rw [e2,(rM _).2.2];exact hcr _
   have hiM:i<M.length:=by omega
   have hdM:dn (gt M i) true<M.length:=by rw [e2];omega
   have hlM:(gt M i).l<M.length:=by rw [(rM i).1];omega
   have b3:upTo M i (wh k)≤2800000000001:=by have:=A00 M i (wh k);unfold upTo;omega
   have hne:(gt M i).r≠i:=by rw [(rM i).2.1];exact hri
   clear rM e1 e2 hcl hcr hri
   go_upto_region 3 with fail
   refine A4j (L:=M) (u:=upTo M i (wh k)) (c:=wh k) (fun w'=>Did w rb ro g cap (tal L i (k+1)) w') _ _ _ rfl rfl rfl ?_ hiM (by rw [lM];exact h.len) hdM (d.at'.drew.ts hiM hdM) (by omega) ?_ ?_
   ·show Value.int .i64 (k:Int)=_
    rw [hnb]
   ·refine (Aho d.at'.drew hiM hlM b1).mono ?_
    rintro e w1 ⟨rfl,q1⟩
    have h1:=d.at'.drew.qt q1
    refine ⟨rfl,h1.ts hiM hdM, ?_⟩
    obtain ⟨w2,E2,D2⟩:=A7e h1 hiM (wh k)
    refine ⟨w2,E2,⟨?_, ?_, ?_⟩, ?_⟩
    ·have:=Ado D2.at'
     rwa [tallyW_len] at this
    ·have:=Akd D2.at' (i:=i) (by rw [tallyW_len];exact hiM) true
     simp only [dn,(tallyW_rest _ _ _ _).2.2.1] at this
     exact this
    ·have:=A1u D2.at' (i:=dn (gt M i) true) (by rw [tallyW_len];exact hdM) (wh k)
     rwa [tallyW_ct,if_neg (fun q=>hne q.1.symm)] at this
    ·rw [←HN.out]
     exact d.trans (Did.from ((Qt.drew _).trans q1) D2)
   intro a' w1 hw ha
   subst ha
   simp only [Act.put,qsA,qsB,qsC]
   have HW:=Aaa hw
   clear hw b1 b2 b3 hnb hk' hiM hdM hlM hne
   go_wp2
   rw [show ((k:Int)+1)=((k+1:Nat):Int) by omega]
   refine ⟨⟨k+1,rfl,hk,HW.out⟩, ?_⟩
   show 2-((k+1:Nat):Int).toNat<2-(k:Int).toNat
   omega
  ·obtain rfl:k=2:=by omega
   clear hk hk2
   go_wp2
   go_end0
   exact ⟨rfl,d⟩
end
theorem A3t {w:World} {a:Act} {o:Oper} {x y:Operand} {s:Bool} (ho:o.op= .binOp .sub 3 x y 3) (hx:a.eval x= .int .i64 1) (hy:a.eval y= .int .i64 (nb s:Int)):(execOp a.eval o).run prog w= .ok (.value (.int .i64 (nb (!s):Int))) w:=by
 have:=Atp (w:=w) ho hx hy (by cases s <;>decide)
 rw [this]
 cases s <;>rfl
theorem A6i {w:World} {a:Act} {o:Oper} {x y:Operand} {s:Bool} {q:Sp} (ho:o.op= .index 126 x y) (hx:a.eval x= .agg #[.int .i64 (q.l:Int), .int .i64 (q.r:Int)]) (hy:a.eval y= .int .i64 (nb s:Int)):(execOp a.eval o).run prog w= .ok (.value (.int .i64 (dn q s:Int))) w:=by
 unfold execOp
 rw [ho]
 simp only [hx,hy]
 have hs:=A5k (t:=3) (n:=1) (by kernel_rfl) w
 have p0:(Go.part 3 #[.int .i64 (q.l:Int), .int .i64 (q.r:Int)] 0).run prog w= .ok (.int .i64 (q.l:Int)) w:=Aym (A0g w) rfl
 have p1:(Go.part 3 #[.int .i64 (q.l:Int), .int .i64 (q.r:Int)] 1).run prog w= .ok (.int .i64 (q.r:Int)) w:=Aym (A0g w) rfl
 cases s <;>simp only [nb,dn,Bool.false_eq_true,if_false,if_true] <;>simp [Instr.index,run_underlying underlying126,asIntOf,hs,p0,p1,Sem.run_bind,Result.andThen]
def MS (rb ro g cap N:Nat) (w':World):Prop:=(Instr.loadAt 73 (pZ rb (ro+0))).run prog w'= .ok (.slice (some ⟨g,0,none⟩) N cap) w'
def Ao9:Array Oper:=(⟨_,rfl⟩:{o // some o=rgB Tryz.f125 0}).1
theorem A5v {rb ro g cap:Nat} {L:List Sp} {i:Nat} {s:Bool} (a:Act) (w:World) (Q:Exit→Act→World→Prop) (zz:a.tmps.size=48)
 (t0:a.tmps.getD 0 undef= (pZ rb ro))
 (t1:a.tmps.getD 1 undef= .int .i64 (i:Int))
 (hR:Aax w rb ro g cap L) (hi:i<L.length) (hl:L.length≤1400000000000) (CS:Calls prog 127 #[(pZ rb ro), .int .i64 (i:Int)] w.drew fun e w'=>e= .returned (.int .i64 (nb s:Int))∧Aax w' rb ro g cap L∧Qt w w')
 (h:∀a' w',Aax w' rb ro g cap L∧Qt w w'→a'=((((((((((((a.put (some 6) (pZ rb ro)).put (some 7) (pZ rb ro)).put (some 8) (pZ rb (ro+0))).put (some 9) (.slice (some ⟨g,0,none⟩) (L).length cap)).put (some 10) (.int .i64 (i:Int))).put (some 11) (pZ g (73*i))).put (some 12) (pZ g (73*i+68))).put (some 13) (.int .i64 ((gt L i).up:Int))).put (some 14) (pZ rb ro)).put (some 15) (.int .i64 (i:Int))).put (some 16) (.int .i64 (nb s:Int))).put (some 4) (.int .i64 ((gt L i).up:Int))).put (some 5) (.int .i64 (nb s:Int))→Q .normal a' w') :
 (Code.region 0 Ao9 true).wp prog Q a w:=by
 refine y0 (fun w'=>Aax w' rb ro g cap L∧Qt w w') (⟨hR.drew,Qt.drew w⟩) (fun hHeld=> ?_)
 refine yv 0 rfl rfl (fun w1 hw=>xmv rfl (zi t0 rfl)) hHeld ?_
 refine yv 1 rfl rfl (fun w1 hw=>xnc rfl (zg zz rfl)) hHeld ?_
 refine yv 2 rfl rfl (fun w1 hw=>xfa rfl (zg zz rfl) (Abw _ _ _)) hHeld ?_
 refine yv 3 rfl rfl (fun w1 hw=>xld rfl (zg zz rfl) (Ado hw.1)) hHeld ?_
 refine yv 4 rfl rfl (fun w1 hw=>xmv rfl (zi t1 rfl)) hHeld ?_
 refine yv 5 rfl rfl (fun w1 hw=>xia rfl (zg zz rfl) (zg zz rfl) (Ad8 hi hl _)) hHeld ?_
 refine yv 6 rfl rfl (fun w1 hw=>xfa rfl (zg zz rfl) (Aie _ _ _)) hHeld ?_
 refine yv 7 rfl rfl (fun w1 hw=>xld rfl (zg zz rfl) (A1t hw.1 hi)) hHeld ?_
 refine yv 8 rfl rfl (fun w1 hw=>xmv rfl (zi t0 rfl)) hHeld ?_
 refine yv 9 rfl rfl (fun w1 hw=>xmv rfl (zi t1 rfl)) hHeld ?_
 refine yc 10 rfl rfl (Aap rfl (zg zz rfl) (zg zz rfl)) (CS) (fun e x10 hx=> ?_)
 obtain ⟨rfl,S1⟩:=hx
 refine ⟨_,rfl,S1,fun hHeld=> ?_⟩
 refine yv 11 rfl rfl (fun w1 hw=>xas rfl (zg zz rfl)) hHeld ?_
 refine yv 12 rfl rfl (fun w1 hw=>xas rfl (zg zz rfl)) hHeld ?_
 exact ye rfl (h _ _ (hHeld) rfl)
def Ao8:Array Oper:=(⟨_,rfl⟩:{o // some o=rgB Tryz.f125 2}).1
theorem A5u {rb ro g cap:Nat} {L:List Sp} {i u:Nat} {s:Bool} (Fin:World→Prop) (a:Act) (w:World) (Q:Exit→Act→World→Prop) (zz:a.tmps.size=48)
 (t0:a.tmps.getD 0 undef= (pZ rb ro))
 (t1:a.tmps.getD 1 undef= .int .i64 (i:Int))
 (t4:a.tmps.getD 4 undef= .int .i64 (u:Int))
 (t5:a.tmps.getD 5 undef= .int .i64 (nb s:Int))
 (hR:Aax w rb ro g cap L) (hi:i<L.length) (CH:Calls prog 72 #[(pZ rb ro), .int .i64 (u:Int), .int .i64 (nb s:Int), .int .i64 (dn (gt L i) (!s):Int)] w fun e w'=>e= .returned (.tuple #[])∧Fin w')
 (h:∀a' w',Fin w'→a'=((((((((((((((a.put (some 21) (pZ rb ro)).put (some 22) (.int .i64 (u:Int))).put (some 23) (.int .i64 (nb s:Int))).put (some 24) (pZ rb ro)).put (some 25) (pZ rb ro)).put (some 26) (pZ rb (ro+0))).put (some 27) (.slice (some ⟨g,0,none⟩) (L).length cap)).put (some 28) (.int .i64 (i:Int))).put (some 29) (.int .i64 (nb s:Int))).put (some 30) (.int .i64 (nb (!s):Int))).put (some 31) (pZ g (73*i))).put (some 32) (pZ g (73*i+69))).put (some 33) (pZ g (73*i+69+nb (!s)))).put (some 34) (.int .i64 (dn (gt L i) (!s):Int))).put (some 35) (.tuple #[])→Q .normal a' w') :
 (Code.region 2 Ao8 false).wp prog Q a w:=by
 refine z0 rfl ?_
 refine zv rfl (xmv rfl (zi t0 rfl)) ?_
 refine zv rfl (xmv rfl (zi t4 rfl)) ?_
 refine zv rfl (xmv rfl (zi t5 rfl)) ?_
 refine zv rfl (xmv rfl (zi t0 rfl)) ?_
 refine zv rfl (xnc rfl (zg zz rfl)) ?_
 refine zv rfl (xfa rfl (zg zz rfl) (Abw _ _ _)) ?_
 refine zv rfl (xld rfl (zg zz rfl) (Ado hR)) ?_
 refine zv rfl (xmv rfl (zi t1 rfl)) ?_
 refine zv rfl (xmv rfl (zi t5 rfl)) ?_
 refine zv (v:= .int .i64 (nb (!s):Int)) rfl (A3t rfl rfl (zg zz rfl)) ?_
 refine zv rfl (xia rfl (zg zz rfl) (zg zz rfl) (Ad8 hi hR.len _)) ?_
 refine zv rfl (xfa rfl (zg zz rfl) (Aco _ _ _)) ?_
 refine zv rfl (xia rfl (zg zz rfl) (zg zz rfl) (Aei _ (!s) _)) ?_
 refine zv rfl (xld rfl (zg zz rfl) (Akd hR hi (!s))) ?_
 refine zc rfl (Ad5 rfl (zg zz rfl) (zg zz rfl) (zg zz rfl) (zg zz rfl)) (CH) (fun e x14 hx=> ?_)
 obtain ⟨rfl,HF⟩:=hx
 refine ⟨_,rfl, ?_⟩
 exact ze rfl (h _ _ (HF) rfl)
def Ao7:Array Oper:=(⟨_,rfl⟩:{o // some o=rgB Tryz.f125 3}).1
theorem A5t {rb ro i u:Nat} {s:Bool} (Fin:World→Prop) (a:Act) (w:World) (Q:Exit→Act→World→Prop) (zz:a.tmps.size=48)
 (t0:a.tmps.getD 0 undef= (pZ rb ro))
 (t1:a.tmps.getD 1 undef= .int .i64 (i:Int))
 (t4:a.tmps.getD 4 undef= .int .i64 (u:Int))
 (t5:a.tmps.getD 5 undef= .int .i64 (nb s:Int))
 (CH:Calls prog 72 #[(pZ rb ro), .int .i64 (i:Int), .int .i64 (nb (!s):Int), .int .i64 (u:Int)] w fun e w'=>e= .returned (.tuple #[])∧Fin w')
 (h:∀a' w',Fin w'→a'=(((((a.put (some 36) (pZ rb ro)).put (some 37) (.int .i64 (i:Int))).put (some 38) (.int .i64 (nb s:Int))).put (some 39) (.int .i64 (nb (!s):Int))).put (some 40) (.int .i64 (u:Int))).put (some 41) (.tuple #[])→Q .normal a' w') :
 (Code.region 3 Ao7 false).wp prog Q a w:=by
 refine z0 rfl ?_
 refine zv rfl (xmv rfl (zi t0 rfl)) ?_
 refine zv rfl (xmv rfl (zi t1 rfl)) ?_
 refine zv rfl (xmv rfl (zi t5 rfl)) ?_
 refine zv (v:= .int .i64 (nb (!s):Int)) rfl (A3t rfl rfl (zg zz rfl)) ?_
 refine zv rfl (xmv rfl (zi t4 rfl)) ?_
 refine zc rfl (Ad5 rfl (zg zz rfl) (zg zz rfl) (zg zz rfl) (zg zz rfl)) (CH) (fun e x5 hx=> ?_)
 obtain ⟨rfl,HF⟩:=hx
 refine ⟨_,rfl, ?_⟩
 exact ze rfl (h _ _ (HF) rfl)
def At3:Array Oper:=(⟨_,rfl⟩:{o // some o=rgB Tryz.f97 1}).1
theorem A78 {rb ro g cap:Nat} {L:List Sp} {i:Nat} (a:Act) (w:World) (Q:Exit→Act→World→Prop) (zz:a.tmps.size=79)
 (t0:a.tmps.getD 0 undef= (pZ rb ro))
 (t1:a.tmps.getD 1 undef= .int .i64 (i:Int))
 (hR:Aax w rb ro g cap L) (hi:i<L.length)
 (h:∀a' w',w'=w→a'=((((((((a.put (some 10) (pZ rb ro)).put (some 11) (pZ rb ro)).put (some 12) (pZ rb (ro+0))).put (some 13) (.slice (some ⟨g,0,none⟩) (L).length cap)).put (some 14) (.int .i64 (i:Int))).put (some 15) (pZ g (73*i))).put (some 16) (pZ g (73*i+69))).put (some 17) (.agg #[.int .i64 ((gt L i).l:Int), .int .i64 ((gt L i).r:Int)])).put (some 18) (.int .i64 0)→Q .normal a' w') :
 (Code.region 1 At3 false).wp prog Q a w:=by
 refine z0 rfl ?_
 refine zv rfl (xmv rfl (zi t0 rfl)) ?_
 refine zv rfl (xnc rfl (zg zz rfl)) ?_
 refine zv rfl (xfa rfl (zg zz rfl) (Abw _ _ _)) ?_
 refine zv rfl (xld rfl (zg zz rfl) (Ado hR)) ?_
 refine zv rfl (xmv rfl (zi t1 rfl)) ?_
 refine zv rfl (xia rfl (zg zz rfl) (zg zz rfl) (Ad8 hi hR.len _)) ?_
 refine zv rfl (xfa rfl (zg zz rfl) (Aco _ _ _)) ?_
 refine zv rfl (xld rfl (zg zz rfl) (A6z hR hi)) ?_
 refine zv rfl (xmv rfl rfl) ?_
 exact ze rfl (h _ _ (rfl) rfl)
def At2:Array Oper:=(⟨_,rfl⟩:{o // some o=rgB Tryz.f97 3}).1
theorem A77 {L:List Sp} {i:Nat} {s:Bool} (a:Act) (w:World) (Q:Exit→Act→World→Prop) (zz:a.tmps.size=79)
 (t17:a.tmps.getD 17 undef= .agg #[.int .i64 ((gt L i).l:Int), .int .i64 ((gt L i).r:Int)])
 (t18:a.tmps.getD 18 undef= .int .i64 (nb s:Int))
 (h:∀a' w',w'=w→a'=(((a.put (some 20) (.int .i64 (nb s:Int))).put (some 21) (.int .i64 (dn (gt L i) s:Int))).put (some 5) (.int .i64 (nb s:Int))).put (some 6) (.int .i64 (dn (gt L i) s:Int))→Q .normal a' w') :
 (Code.region 3 At2 false).wp prog Q a w:=by
 refine z0 rfl ?_
 refine zv rfl (xmv rfl (zi t18 rfl)) ?_
 refine zv (v:= .int .i64 (dn (gt L i) s:Int)) rfl (A6i rfl (zi t17 rfl) (zi t18 rfl)) ?_
 iterate 2 refine zv rfl (xas rfl (zg zz rfl)) ?_
 exact ze rfl (h _ _ (rfl) rfl)
def At1:Array Oper:=(⟨_,rfl⟩:{o // some o=rgB Tryz.f97 4}).1
theorem A76 {s:Bool} (a:Act) (w:World) (Q:Exit→Act→World→Prop) (zz:a.tmps.size=79)
 (t5:a.tmps.getD 5 undef= .int .i64 (nb s:Int))
 (h:∀a' w',w'=w→a'=((a.put (some 22) (.int .i64 (nb s:Int))).put (some 23) (.int .i64 (nb (!s):Int))).put (some 7) (.int .i64 (nb (!s):Int))→Q .normal a' w') :
 (Code.region 4 At1 false).wp prog Q a w:=by
 refine z0 rfl ?_
 refine zv rfl (xmv rfl (zi t5 rfl)) ?_
 refine zv (v:= .int .i64 (nb (!s):Int)) rfl (A3t rfl rfl (zg zz rfl)) ?_
 refine zv rfl (xas rfl (zg zz rfl)) ?_
 exact ze rfl (h _ _ (rfl) rfl)
def At0:Array Oper:=(⟨_,rfl⟩:{o // some o=rgB Tryz.f97 5}).1
theorem A75 {rb ro g cap:Nat} {L:List Sp} {i p x y:Nat} {o r:Bool} (a:Act) (w:World) (Q:Exit→Act→World→Prop) (zz:a.tmps.size=79)
 (t0:a.tmps.getD 0 undef= (pZ rb ro))
 (t1:a.tmps.getD 1 undef= .int .i64 (i:Int))
 (t6:a.tmps.getD 6 undef= .int .i64 (p:Int))
 (t7:a.tmps.getD 7 undef= .int .i64 (nb o:Int))
 (hR:Aax w rb ro g cap L) (hi:i<L.length) (hl:L.length≤1400000000000) (hm:3*y≤9223372036854775807) (hr:decide ((x:Int)≤((3*y:Nat):Int))=r) (C1:Calls prog 124 #[(pZ rb ro), .int .i64 (p:Int)] w.drew fun e w'=>e= .returned (.int .i64 (x:Int))∧(Aax w' rb ro g cap L∧Qt w w')∧Calls prog 124 #[(pZ rb ro), .int .i64 (dn (gt L i) o:Int)] w' fun e2 w2=>e2= .returned (.int .i64 (y:Int))∧Aax w2 rb ro g cap L∧Qt w w2)
 (h:∀a' w',Aax w' rb ro g cap L∧Qt w w'→a'=((((((((((((((((a.put (some 24) (pZ rb ro)).put (some 25) (.int .i64 (p:Int))).put (some 27) (pZ rb ro)).put (some 28) (pZ rb ro)).put (some 29) (pZ rb ro)).put (some 30) (pZ rb (ro+0))).put (some 31) (.slice (some ⟨g,0,none⟩) (L).length cap)).put (some 32) (.int .i64 (i:Int))).put (some 33) (.int .i64 (nb o:Int))).put (some 34) (pZ g (73*i))).put (some 35) (pZ g (73*i+69))).put (some 36) (pZ g (73*i+69+nb o))).put (some 37) (.int .i64 (dn (gt L i) o:Int))).put (some 26) (.int .i64 (x:Int))).put (some 38) (.int .i64 (y:Int))).put (some 39) (.int .i64 ((3*y:Nat):Int))).put (some 40) (.bool r)→Q .normal a' w') :
 (Code.region 5 At0 true).wp prog Q a w:=by
 refine y0 (fun w'=>Aax w' rb ro g cap L∧Qt w w') (⟨hR.drew,Qt.drew w⟩) (fun hHeld=> ?_)
 refine yv 0 rfl rfl (fun w1 hw=>xmv rfl (zi t0 rfl)) hHeld ?_
 refine yv 1 rfl rfl (fun w1 hw=>xmv rfl (zi t6 rfl)) hHeld ?_
 refine yv 3 rfl rfl (fun w1 hw=>xmv rfl (zi t0 rfl)) hHeld ?_
 refine yv 4 rfl rfl (fun w1 hw=>xmv rfl (zi t0 rfl)) hHeld ?_
 refine yv 5 rfl rfl (fun w1 hw=>xnc rfl (zg zz rfl)) hHeld ?_
 refine yv 6 rfl rfl (fun w1 hw=>xfa rfl (zg zz rfl) (Abw _ _ _)) hHeld ?_
 refine yv 7 rfl rfl (fun w1 hw=>xld rfl (zg zz rfl) (Ado hw.1)) hHeld ?_
 refine yv 8 rfl rfl (fun w1 hw=>xmv rfl (zi t1 rfl)) hHeld ?_
 refine yv 9 rfl rfl (fun w1 hw=>xmv rfl (zi t7 rfl)) hHeld ?_
 refine yv 10 rfl rfl (fun w1 hw=>xia rfl (zg zz rfl) (zg zz rfl) (Ad8 hi hl _)) hHeld ?_
 refine yv 11 rfl rfl (fun w1 hw=>xfa rfl (zg zz rfl) (Aco _ _ _)) hHeld ?_
 refine yv 12 rfl rfl (fun w1 hw=>xia rfl (zg zz rfl) (zg zz rfl) (Aei _ o _)) hHeld ?_
 refine yv 13 rfl rfl (fun w1 hw=>xld rfl (zg zz rfl) (Akd hw.1 hi o)) hHeld ?_
 refine yc 2 rfl rfl (Aap rfl (zg zz rfl) (zg zz rfl)) (C1) (fun e x2 hx=> ?_)
 obtain ⟨rfl,S1,C2⟩:=hx
 refine ⟨_,rfl,S1,fun hHeld=> ?_⟩
 refine yc 14 rfl rfl (Aap rfl (zg zz rfl) (zg zz rfl)) (C2) (fun e x14 hx=> ?_)
 obtain ⟨rfl,S2⟩:=hx
 refine ⟨_,rfl,S2,fun hHeld=> ?_⟩
 refine yv (v:= .int .i64 ((3*y:Nat):Int)) 15 rfl rfl (fun w1 hw=>Ats (p:=3) rfl rfl (zg zz rfl) hm) hHeld ?_
 refine yv (v:= .bool r) 16 rfl rfl (fun w1 hw=>Atu rfl (zg zz rfl) (zg zz rfl) hr) hHeld ?_
 exact ye rfl (h _ _ (hHeld) rfl)
def Atz:Array Oper:=(⟨_,rfl⟩:{o // some o=rgB Tryz.f97 7}).1
theorem A6k {rb ro p q x y:Nat} {r:Bool} (Fin:World→Prop) (a:Act) (w:World) (Q:Exit→Act→World→Prop) (zz:a.tmps.size=79)
 (t0:a.tmps.getD 0 undef= (pZ rb ro))
 (t8:a.tmps.getD 8 undef= .int .i64 (p:Int))
 (t9:a.tmps.getD 9 undef= .int .i64 (q:Int))
 (hm:2*y≤9223372036854775807) (hr:decide ((x:Int)≥((2*y:Nat):Int))=r) (C1:Calls prog 124 #[(pZ rb ro), .int .i64 (p:Int)] w fun e w'=>e= .returned (.int .i64 (x:Int))∧Calls prog 124 #[(pZ rb ro), .int .i64 (q:Int)] w' fun e2 w2=>e2= .returned (.int .i64 (y:Int))∧Fin w2)
 (h:∀a' w',Fin w'→a'=(((((((a.put (some 61) (pZ rb ro)).put (some 62) (.int .i64 (p:Int))).put (some 63) (.int .i64 (x:Int))).put (some 64) (pZ rb ro)).put (some 65) (.int .i64 (q:Int))).put (some 66) (.int .i64 (y:Int))).put (some 67) (.int .i64 ((2*y:Nat):Int))).put (some 68) (.bool r)→Q .normal a' w') :
 (Code.region 7 Atz false).wp prog Q a w:=by
 refine z0 rfl ?_
 refine zv rfl (xmv rfl (zi t0 rfl)) ?_
 refine zv rfl (xmv rfl (zi t8 rfl)) ?_
 refine zc rfl (Aap rfl (zg zz rfl) (zg zz rfl)) (C1) (fun e x2 hx=> ?_)
 obtain ⟨rfl,C2⟩:=hx
 refine ⟨_,rfl, ?_⟩
 refine zv rfl (xmv rfl (zi t0 rfl)) ?_
 refine zv rfl (xmv rfl (zi t9 rfl)) ?_
 refine zc rfl (Aap rfl (zg zz rfl) (zg zz rfl)) (C2) (fun e x5 hx=> ?_)
 obtain ⟨rfl,HF⟩:=hx
 refine ⟨_,rfl, ?_⟩
 refine zv (v:= .int .i64 ((2*y:Nat):Int)) rfl (Ats (p:=2) rfl rfl (zg zz rfl) hm) ?_
 refine zv (v:= .bool r) rfl (Atv rfl (zg zz rfl) (zg zz rfl) hr) ?_
 exact ze rfl (h _ _ (HF) rfl)
def Ar7:Array Oper:=(⟨_,rfl⟩:{o // some o=rgB Tryz.f74 2}).1
theorem A7p {rb ro g cap N i j k:Nat} (Fin:World→Prop) (a:Act) (w:World) (Q:Exit→Act→World→Prop) (zz:a.tmps.size=19)
 (t0:a.tmps.getD 0 undef= (pZ rb ro))
 (t1:a.tmps.getD 1 undef= .int .i64 (i:Int))
 (h0:MS rb ro g cap N w.drew) (XJ:∀W,(Instr.indexAt 73 (.slice (some ⟨g,0,none⟩) N cap) (.int .i64 (j:Int))).run prog W= .ok (pZ g (73*j)) W) (CE:Calls prog 97 #[(pZ rb ro), .int .i64 (i:Int)] w.drew fun e w'=>e= .returned (.int .i64 (j:Int))∧MS rb ro g cap N w'∧(Instr.loadAt 3 (pZ g (73*j+68))).run prog w'= .ok (.int .i64 (k:Int)) w'∧Fin w')
 (h:∀a' w',Fin w'→a'=((((((((((a.put (some 9) (pZ rb ro)).put (some 10) (pZ rb ro)).put (some 11) (pZ rb (ro+0))).put (some 12) (.slice (some ⟨g,0,none⟩) N cap)).put (some 13) (pZ rb ro)).put (some 14) (.int .i64 (i:Int))).put (some 15) (.int .i64 (j:Int))).put (some 16) (pZ g (73*j))).put (some 17) (pZ g (73*j+68))).put (some 18) (.int .i64 (k:Int))).put (some 1) (.int .i64 (k:Int))→Q .normal a' w') :
 (Code.region 2 Ar7 true).wp prog Q a w:=by
 refine y0 (fun w'=>MS rb ro g cap N w') (h0) (fun hHeld=> ?_)
 refine yv 0 rfl rfl (fun w1 hw=>xmv rfl (zi t0 rfl)) hHeld ?_
 refine yv 1 rfl rfl (fun w1 hw=>xnc rfl (zg zz rfl)) hHeld ?_
 refine yv 2 rfl rfl (fun w1 hw=>xfa rfl (zg zz rfl) (Abw _ _ _)) hHeld ?_
 refine yv 3 rfl rfl (fun w1 hw=>xld rfl (zg zz rfl) hw) hHeld ?_
 refine yv 4 rfl rfl (fun w1 hw=>xmv rfl (zi t0 rfl)) hHeld ?_
 refine yv 5 rfl rfl (fun w1 hw=>xmv rfl (zi t1 rfl)) hHeld ?_
 refine yc 6 rfl rfl (Aap rfl (zg zz rfl) (zg zz rfl)) (CE) (fun e x6 hx=> ?_)
 obtain ⟨rfl,S1,LK,HF⟩:=hx
 refine ⟨_,rfl,S1,fun hHeld=> ?_⟩
 refine yv 7 rfl rfl (fun w1 hw=>xia rfl (zg zz rfl) (zg zz rfl) (XJ _)) hHeld ?_
 refine yv 8 rfl rfl (fun w1 hw=>xfa rfl (zg zz rfl) (Aie _ _ _)) hHeld ?_
 refine yr (v:= .int .i64 (k:Int)) 9 rfl rfl (xld rfl (zg zz rfl) LK) (S1) (fun hHeld=> ?_)
 refine yv 10 rfl rfl (fun w1 hw=>xas rfl (zg zz rfl)) hHeld ?_
 exact ye rfl (h _ _ (HF) rfl)
theorem Ago {L:List Sp} {p:Nat} {t:T} (h:Rep L p t) (h0:0<L.length):t.ix<L.length:=by
 cases t with
 |nil=>exact h0
 |nd i l r=>exact h.2.1
theorem Am0 {L:List Sp} {c:Ctx} {t:T} (z:Zip L c t):t.ids.length<L.length:=by
 have nd:=(List.nodup_append.1 z.nd).1
 have:(0::t.ids).Nodup:=List.nodup_cons.2 ⟨fun h=>(z.rep.mem 0 h).1 rfl,nd⟩
 have:=this.length_le_of_subset (l₂:=List.range L.length) (fun i hi=>by
  rcases List.mem_cons.1 hi with rfl|hi
  ·exact List.mem_range.2 z.repc.pos
  ·exact List.mem_range.2 (z.rep.mem i hi).2)
 simp at this
 omega
theorem A6q (L:List Sp) (w:Bool) (t:T):cnt L w t≤t.ids.length:=by
 unfold cnt
 exact List.countP_le_length
theorem Sq.Cnt.small {L:List Sp} {c:Ctx} {t:T} (h:Cnt L t) (z:Zip L c t) (w:Bool):ct (gt L t.ix) w<L.length:=by
 rw [h.at z.z w]
 have:=A6q L w t
 have:=Am0 z
 omega
section
variable {w:World} {rb ro g cap i:Nat} {L:List Sp}
theorem Ahp {c:Ctx} {l r:T} (h:Aax w rb ro g cap L) (z:Zip L c (.nd i l r)) (hl:Cnt L l) (hr:Cnt L r):Calls prog 96 #[(pZ rb ro), .int .i64 (i:Int)] w fun e w'=>e= .returned (.tuple #[])∧Did w rb ro g cap (tally L i) w':=by
 obtain ⟨h1,h2,h3,h4,h5,h6,h7⟩:=z.rep
 have zl:=Zip.into (s:=false) (o:=r) z
 have zr:=Zip.into (s:=true) (o:=l) z
 have hp:=z.repc.pos
 have hlen:=h.len
 refine Aqb h h2 (by rw [h4];exact Ago h6 hp) (by rw [h5];exact Ago h7 hp) (fun e=> ?_) (fun d=> ?_) (fun d=> ?_)
 ·rw [h5] at e
  have nd:=(List.nodup_append.1 z.nd).1
  simp only [T.ids,List.nodup_append,List.nodup_cons] at nd
  exact nd.2.1.1 (e▸ix_mem (t:=r) (by rw [e];exact h1))
 ·rw [h4];have:=hl.small zl d;omega
 ·rw [h5];have:=hr.small zr d;omega
theorem Alu {c:Ctx} {s:Bool} {t o:T} (h:Aax w rb ro g cap L) (z:Zip L c (mk i s t o)) (ht:Cnt L t) (ho:Cnt L o):Calls prog 96 #[(pZ rb ro), .int .i64 (i:Int)] w fun e w'=>e= .returned (.tuple #[])∧Did w rb ro g cap (tally L i) w':=by
 cases s
 ·exact Ahp h z ht ho
 ·exact Ahp h z ho ht
theorem Ah3 {c:Ctx} {a b:Nat} {s:Bool} {P Q Z:T} (h:Aax w rb ro g cap L) (z:Zip L c (mk a s (mk b s P Q) Z)) (hP:Cnt L P) (hQ:Cnt L Q) (hZ:Cnt L Z) :
 Calls prog 125 #[(pZ rb ro), .int .i64 (b:Int)] w fun e w'=>e= .returned (.tuple #[])∧Did w rb ro g cap (lift L b) w':=by
 obtain ⟨a1,a2,a3,a4,a5,a6,a7⟩:=rep_mk.1 z.rep
 obtain ⟨b1,b2,b3,b4,b5,b6,b7⟩:=rep_mk.1 a6
 have zi:=z.into
 have sb:sideOf L b=s:=by have:=zi.side (by rw [mk_ix];exact b1);rwa [mk_ix] at this
 have sa:sideOf L a=sd c:=by have:=z.side (by rw [mk_ix];exact a1);rwa [mk_ix] at this
 have hc:RepC L c a:=by have:=z.repc;rwa [mk_ix] at this
 have hu:=hc.up_lt
 have nd:=((mk_perm a s (mk b s P Q) Z).append_right (cids c)).nodup_iff.1 z.nd
 simp only [List.cons_append,List.nodup_cons,List.mem_append,not_or,List.nodup_append,mk_mem] at nd
 have nab:a≠b:=nd.1.1.1.1
 have nbC:b∉cids c:=fun hh=>nd.2.2.2 b (.inl (.inl rfl)) b hh rfl
 have ub:upOf c≠b:=fun e=>by
  rcases upOf_mem c with e0|e0
  ·omega
  ·exact nbC (e▸e0)
 obtain ⟨z1,k1,c1,_⟩:=lift0_zip z
 have sm:∀{t:T},Cnt L t→Cnt (lift0 L b) t:=fun h=>h.same (fun i _=>⟨k1.sh i,fun w=>c1 i w⟩)
 have zin:Zip (lift0 L b) ((b, !s,P)::c) (mk a s Q Z):=by
  rw [mk_flip b] at z1;exact z1.into
 have c2:=tally_cnt zin (sm hQ) (sm hZ)
 have z2:=z1.tally a1
 have nd1:=(((mk_perm b s P _).append_right _).nodup_iff.1 z1.nd)
 simp only [List.cons_append,List.nodup_cons,List.mem_append,not_or,List.nodup_append,mk_mem] at nd1
 have cP2:=(sm hP).tally (a:=a) (fun h=>nd1.2.1.2.2 a h a (.inl rfl) rfl)
 have e1:repl L a b=hang L (upOf c) (sd c) b:=by unfold repl;rw [a3,sa]
 have eQ:dn (gt (repl L a b) b) (!s)=Q.ix:=by rw [e1,hang_dn,if_neg (fun q=>ub q.1)];exact b5
 have qlt:Q.ix<L.length:=Ago b7 hc.pos
 have l1:(repl L a b).length=L.length:=by rw [e1,hang_len]
 have EL:=Aaa (show lift0 L b=hang (hang (repl L a b) a s Q.ix) b (!s) a from by
  unfold lift0
  simp only [b3,sb,eQ])
 have ELL:=Aaa (show lift L b=tally (tally (lift0 L b) a) b from by unfold lift;rw [b3])
 clear nd nd1 e1 nbC
 go_enter func125,ntmps125
 go_upto_region 0 with fail
 refine A5v (s:=s) _ _ _ rfl rfl rfl h b2 h.len ?_ ?_
 ·refine (Ahr h.drew b2 (by rw [b3];exact a2)).mono ?_
  rintro e w1 ⟨rfl,q1⟩
  exact ⟨by rw [sb],h.drew.qt q1,(Qt.drew w).trans q1⟩
 rw [b3]
 intro a' w1 hw ha
 subst ha
 simp only [Act.put,qsA,qsB,qsC]
 have d1:Did w rb ro g cap L w1:=⟨hw.1,hw.2.tch _,hw.2.size⟩
 have HR:=Aaa (Akv d1.at' a2 (by rw [a3];exact hu) b2 (Ne.symm nab))
 clear hw
 go_upto_region 2 with (first
  |(go_at_call 152;refine HR.out.mono ?_;rintro e w2 ⟨rfl,d2⟩;clear HR)
  |fail)
 replace d2:=d1.trans d2
 refine A5u (L:=repl L a b) (s:=s) (fun w'=>Did w rb ro g cap (hang (repl L a b) a s Q.ix) w') _ _ _ rfl rfl rfl rfl rfl d2.at' (by rw [l1];exact b2) ?_ ?_
 ·rw [eQ]
  refine (Ae0 d2.at' (by rw [l1];exact a2) (by rw [l1];exact qlt)).mono ?_
  rintro e w3 ⟨rfl,d3⟩
  exact ⟨rfl,d2.trans d3⟩
 intro a' w3 d3 ha
 subst ha
 simp only [Act.put,qsA,qsB,qsC]
 go_upto_region 3 with fail
 refine A5t (s:=s) (fun w'=>Did w rb ro g cap (lift0 L b) w') _ _ _ rfl rfl rfl rfl rfl ?_ ?_
 ·refine (Ae0 d3.at' (by rw [hang_len,l1];exact b2) (by rw [hang_len,l1];exact a2)).mono ?_
  rintro e w4 ⟨rfl,d4⟩
  refine ⟨rfl, ?_⟩
  rw [EL.out]
  exact d3.trans d4
 intro a' w4 d4 ha
 subst ha
 simp only [Act.put,qsA,qsB,qsC]
 have HT1:=Aaa (Alu d4.at' zin (sm hQ) (sm hZ))
 have HT2:=Aaa (fun (w5:World) (d5:Did w4 rb ro g cap (tally (lift0 L b) a) w5)=>Alu d5.at' z2 cP2 c2)
 clear d1 d2 d3 eQ qlt
 go_wp2_with (first
  |(go_at_call_of 96 (Value.int .i64 (a:Int));refine HT1.out.mono ?_;rintro e w5 ⟨rfl,d5⟩;clear HT1)
  |(go_at_call_of 96 (Value.int .i64 (b:Int));refine (HT2.out _ d5).mono ?_;rintro e w6 ⟨rfl,d6⟩;clear HT2)
  |fail)
 go_end0
 refine ⟨rfl, ?_⟩
 rw [ELL.out]
 exact (d4.trans d5).trans d6
end
section
variable {w:World} {rb ro g cap i:Nat} {L:List Sp}
theorem Aes {c:Ctx} {t:T} (h:Aax w rb ro g cap L) (z:Zip L c t) (hc:Cnt L t):Calls prog 124 #[(pZ rb ro), .int .i64 (t.ix:Int)] w fun e w'=>e= .returned (.int .i64 (wt L t.ix:Int))∧w'=w:=by
 have:=hc.small z false
 have:=h.len
 exact Aol h (Ago z.rep z.repc.pos) (by omega)
theorem A4f {c:Ctx} {t:T} (h:Aax w rb ro g cap L) (z:Zip L c t) (hc:Cnt L t):wt L t.ix≤1400000000000:=by
 have:=h.len
 unfold wt
 have h1:(gt L t.ix).ca<L.length:=by have:=hc.small z false;simpa [ct] using this
 omega
structure Hv (L:List Sp) (c:Ctx) (i:Nat) (s:Bool) (p q:Nat) (P Q Z:T):Prop where
 z:Zip L c (mk i s (mk p s P Q) Z)
 cP:Cnt L P
 cQ:Cnt L Q
 cZ:Cnt L Z
 q:Q.ix=q
 dp:dn (gt L i) s=p
 dP:dn (gt L p) s=P.ix
 dQ:dn (gt L p) (!s)=Q.ix
theorem A7w {c:Ctx} {s:Bool} {B Z:T} (z:Zip L c (mk i s B Z)) (hc:Cnt L (mk i s B Z)) (hh:heavyAt L i s=true):∃p q P Q,Hv L c i s p q P Q Z:=by
 obtain ⟨h1,h2,h3,h4,h5,h6,h7⟩:=rep_mk.1 z.rep
 obtain ⟨_,cB,cZ⟩:=cnt_mk.1 hc
 have hB:B.ix≠0:=fun e=>by
  unfold heavyAt at hh
  rw [h4,h5,e,wt_nil z.z] at hh
  have:=wt_pos L Z.ix
  simp at hh
  omega
 obtain ⟨P,Q,eB⟩:=as_mk s hB
 obtain ⟨p,hp⟩:∃p,B.ix=p:=⟨_,rfl⟩
 rw [hp] at eB hB h4
 subst eB
 obtain ⟨b1,b2,b3,b4,b5,b6,b7⟩:=rep_mk.1 h6
 obtain ⟨_,cP,cQ⟩:=cnt_mk.1 cB
 exact ⟨p,Q.ix,P,Q,z,cP,cQ,cZ,rfl,h4,b4,b5⟩
theorem Hv.zQ {c:Ctx} {s:Bool} {p q:Nat} {P Q Z:T} (h:Hv L c i s p q P Q Z):Zip L ((p, !s,P)::(i,s,Z)::c) Q:=by
 have:=h.z.into
 rw [mk_flip p] at this
 exact this.into
theorem Hv.zP {c:Ctx} {s:Bool} {p q:Nat} {P Q Z:T} (h:Hv L c i s p q P Q Z):Zip L ((p,s,Q)::(i,s,Z)::c) P:=h.z.into.into
theorem Hv.evenAt {c:Ctx} {s:Bool} {p q:Nat} {P Q Z:T} (h:Hv L c i s p q P Q Z):Sq.evenAt L i s=if 2*wt L P.ix≤wt L Q.ix then (lift (lift L q) q,q) else (lift L p,p):=by
 unfold Sq.evenAt
 simp only [h.dp,h.dP,h.dQ,h.q]
theorem Ayp {c:Ctx} {s:Bool} {p q:Nat} {P Q Z:T} (h:Aax w rb ro g cap L) (v:Hv L c i s p q P Q Z) (hin:2*wt L P.ix≤wt L Q.ix):Calls prog 125 #[(pZ rb ro), .int .i64 (q:Int)] w fun e w'=>e= .returned (.tuple #[])∧Did w rb ro g cap (lift L q) w' ∧
 Calls prog 125 #[(pZ rb ro), .int .i64 (q:Int)] w' fun e w2=>e= .returned (.tuple #[])∧Did w rb ro g cap (lift (lift L q) q) w2:=by
 have hQ:Q.ix≠0:=fun e=>by
  rw [e,wt_nil v.z.z] at hin
  have:=wt_pos L P.ix
  omega
 obtain ⟨P',Q',eQ⟩:=as_mk (!s) hQ
 rw [v.q] at eQ
 have z:=v.z
 have cQ:=v.cQ
 rw [eQ] at z cQ
 obtain ⟨_,cP',cQ'⟩:=cnt_mk.1 cQ
 have zin:Zip L ((i,s,Z)::c) (mk p (!s) (mk q (!s) P' Q') P):=by
  have:=z.into
  rwa [mk_flip p] at this
 obtain ⟨z1,c1,k1,e1⟩:=lift_zip zin cP' cQ' v.cP
 have z1o:=z1.out
 rw [mk_flip q (!s),Bool.not_not] at z1o c1
 obtain ⟨_,cX,cP1⟩:=cnt_mk.1 c1
 have nd:=((mk_perm i s _ Z).append_right (cids c)).nodup_iff.1 z.nd
 simp only [List.cons_append,List.nodup_cons,List.mem_append,not_or,List.nodup_append,mk_mem] at nd
 have nqZ:∀j∈Z.ids,j≠p∧j≠q:=fun j hj=>⟨fun e=>nd.2.1.2.2 p (.inl rfl) j hj e.symm,fun e=>nd.2.1.2.2 q (.inr (.inr (.inl rfl))) j hj e.symm⟩
 have cZ1:Cnt (lift L q) Z:=v.cZ.same (fun j hj=>⟨k1.sh j,fun w=>e1 j (nqZ j hj).1 (nqZ j hj).2 w⟩)
 refine (Ah3 h zin cP' cQ' v.cP).mono ?_
 rintro e w1 ⟨rfl,d1⟩
 refine ⟨rfl,d1, ?_⟩
 refine (Ah3 d1.at' z1o cX cP1 cZ1).mono ?_
 rintro e w2 ⟨rfl,d2⟩
 exact ⟨rfl,d1.trans d2⟩
theorem Aze {c:Ctx} {l r:T} (h:Aax w rb ro g cap L) (z:Zip L c (.nd i l r)) (hc:Cnt L (.nd i l r)) :
 Calls prog 97 #[(pZ rb ro), .int .i64 (i:Int)] w fun e w'=>e= .returned (.int .i64 ((even L i).2:Int))∧Did w rb ro g cap (even L i).1 w':=by
 have hi:i<L.length:=z.rep.2.1
 go_enter func97,ntmps97
 go_upto_region 1 with fail
 refine A78 _ _ _ rfl rfl rfl h hi ?_
 intro a' w1 hw ha
 subst ha
 obtain rfl:w1=w:=hw
 simp only [Act.put,qsA,qsB,qsC]
 go_wp2
 go_loopw [18] (fun v18 wr=> ∃k:Nat,v18= .int .i64 (k:Int)∧k≤2∧(1≤k→heavyAt L i false=false)∧(2≤k→heavyAt L i true=false)∧Did w1 rb ro g cap L wr) (fun v18 _=>2-(match v18 with | .int _ i=>i.toNat|_=>0))
 case atStart=>exact ⟨0,rfl,by omega,by omega,by omega,Did.refl h⟩
 case round =>
  obtain ⟨k,rfl,hk2,hf1,hf2,d⟩:=hrel
  by_cases hk:k<2
  ·have hk':(k:Int)<2:=by omega
   obtain ⟨s,hs⟩:∃s,s=wh k:=⟨_,rfl⟩
   have hnb:(k:Int)=((nb s:Nat):Int):=by
        have:k=0∨k=1:=by omega
        rw [hs]
        rcases this with rfl|rfl <;>rfl
   have hev:heavyAt L i s=true→even L i=evenAt L i s:=fun hh=>by
        have:k=0∨k=1:=by omega
        rcases this with rfl|rfl
        ·rw [show s=false from hs] at hh ⊢
         unfold even
         rw [if_pos hh]
        ·rw [show s=true from hs] at hh ⊢
         unfold even
         rw [if_neg (by rw [hf1 (by omega)];decide),if_pos hh]
   obtain ⟨B,Z,eT⟩:=as_mk s (t:= .nd i l r) (show i≠0 from z.rep.1)
   change T.nd i l r=mk i s B Z at eT
   have zB:=z
   have cB:=hc
   rw [eT] at zB cB
   obtain ⟨h1,h2,h3,h4,h5,h6,h7⟩:=rep_mk.1 zB.rep
   obtain ⟨_,cB1,cZ1⟩:=cnt_mk.1 cB
   have zB1:=zB.into
   have zZ1:Zip L ((i, !s,B)::c) Z:=by have:=zB;rw [mk_flip] at this;exact this.into
   have HWB:=Aaa (fun (W:World) (hW:Aax W rb ro g cap L)=>Aes hW zB1 cB1)
   have HWZ:=Aaa (fun (W:World) (hW:Aax W rb ro g cap L)=>Aes hW zZ1 cZ1)
   have bZ:=A4f d.at' zZ1 cZ1
   have hhe:heavyAt L i s=decide (3*wt L Z.ix<wt L B.ix):=by unfold heavyAt;rw [h4,h5]
   have HX:=Aaa (show heavyAt L i s=false→(1≤k+1→heavyAt L i false=false)∧(2≤k+1→heavyAt L i true=false) from fun hq=>by
        have:k=0∨k=1:=by omega
        rcases this with rfl|rfl
        ·rw [show s=false from hs] at hq
         exact ⟨fun _=>hq,fun h=>by omega⟩
        ·rw [show s=true from hs] at hq
         exact ⟨fun _=>hf1 (by omega),fun _=>hq⟩)
   have HNB:=Aaa hnb
   have HEV:=Aaa hev
   clear hf1 hf2 zZ1 zB1 h6 h7 hs hev
   rw [hnb] at hk' ⊢
   clear hnb
   go_upto_region 3 with fail
   refine A77 (s:=s) (i:=i) _ _ _ rfl rfl rfl ?_
   intro a' w2 hw ha
   subst ha
   obtain rfl:w2=wr:=hw
   simp only [Act.put,qsA,qsB,qsC]
   go_upto_region 4 with fail
   refine A76 (s:=s) _ _ _ rfl rfl ?_
   intro a' w3 hw ha
   subst ha
   obtain rfl:w3=w2:=hw
   simp only [Act.put,qsA,qsB,qsC]
   go_upto_region 5 with fail
   refine A75 (L:=L) (p:=dn (gt L i) s) (o:= !s) (x:=wt L B.ix) (y:=wt L Z.ix) (r:= !(heavyAt L i s)) _ _ _ rfl rfl rfl rfl rfl d.at' hi h.len (by omega) ?_ ?_ ?_
   ·rw [hhe,Bool.eq_iff_iff]
    simp
    omega
   ·rw [h4,h5]
    refine (HWB.out _ d.at'.drew).mono ?_
    rintro e wa ⟨rfl,rfl⟩
    refine ⟨rfl,⟨d.at'.drew,Qt.drew _⟩, ?_⟩
    refine (HWZ.out _ d.at'.drew).mono ?_
    rintro e wb ⟨rfl,rfl⟩
    exact ⟨rfl,d.at'.drew,Qt.drew _⟩
   intro a' w4 hw ha
   subst ha
   replace d:=d.qt hw.2
   clear hw HWB HWZ hhe bZ
   simp only [Act.put,qsA,qsB,qsC]
   cases hh:heavyAt L i s with
   |false =>
    have H2:=Aaa (HX.out hh)
    clear hh HX HEV h1 h2 h3 h4 h5 zB cB cB1 cZ1 eT
    go_wp2
    rw [show (((nb s:Nat):Int)+1)=((k+1:Nat):Int) by have:=HNB.out;omega]
    refine ⟨⟨k+1,rfl,hk,H2.out.1,H2.out.2,d⟩, ?_⟩
    show 2-((k+1:Nat):Int).toNat<2-((nb s:Nat):Int).toNat
    rw [←HNB.out]
    omega
   |true =>
    have HE:=Aaa (HEV.out hh)
    obtain ⟨p,q,P,Q,v⟩:=A7w zB cB hh
    have hpl:p<L.length:=by
     have:=(rep_mk.1 (rep_mk.1 v.z.rep).2.2.2.2.2.1).2.1
     exact this
    have HWQ:=Aaa (fun (W:World) (hW:Aax W rb ro g cap L)=>Aes hW v.zQ v.cQ)
    have HWP:=Aaa (fun (W:World) (hW:Aax W rb ro g cap L)=>Aes hW v.zP v.cP)
    have bP:=A4f d.at' v.zP v.cP
    have HVE:=Aaa (v.evenAt)
    clear hh HX HEV h1 h2 h3 h4 h5 zB cB cB1 cZ1 eT HNB hk' hk hk2
    rw [v.dp]
    go_upto_region 6 with fail
    refine En.zyc tab [0,1,2,3,4,5,6,7,8,9,10,11,12,13,14,15,16,17,18,19,20,21] 22 (fun w'=>w'=(World.drew _)) (hS:=(rfl)) (h:=En.sty (fun Xw Xh=>(Ado (Xh▸d.at'.drew))) (En.sty (fun Xw Xh=>(Ad8 hpl d.at'.len _)) (En.sty (fun Xw Xh=>(Aei _ (!s) _)) (En.sty (fun Xw Xh=>(Akd (Xh▸d.at'.drew) hpl (!s))) (En.sty (fun Xw Xh=>(Ado (Xh▸d.at'.drew))) (En.sty (fun Xw Xh=>(Ad8 hpl d.at'.len _)) (En.sty (fun Xw Xh=>(Aei _ s _)) (En.sty (fun Xw Xh=>(Akd (Xh▸d.at'.drew) hpl s)) (En.fi ?_)))))))))
    rw [v.dP,v.dQ]
    intro a' w5 hw ha
    subst ha
    replace d:=d.qt (show Qt w4 w5 by rw [hw];exact Qt.drew _)
    clear hw
    simp only [En.pM,En.pU,Act.put,qsA,qsB,qsC]
    go_upto_region 7 with fail
    by_cases hin:2*wt L P.ix≤wt L Q.ix
    ·refine A6k (p:=Q.ix) (q:=P.ix) (x:=wt L Q.ix) (y:=wt L P.ix) (r:=true) (fun w'=>Did w1 rb ro g cap L w') _ _ _ rfl rfl rfl rfl (by omega) (by simp;omega) ?_ ?_
     ·refine (HWQ.out _ d.at').mono ?_
      rintro e wa ⟨rfl,rfl⟩
      refine ⟨rfl, ?_⟩
      refine (HWP.out _ d.at').mono ?_
      rintro e wb ⟨rfl,rfl⟩
      exact ⟨rfl,d⟩
     rw [v.q]
     intro a' w6 d6 ha
     subst ha
     simp only [Act.put,qsA,qsB,qsC]
     have H1:=Aaa (Ayp d6.at' v hin)
     have HF:=Aaa (show even L i=(lift (lift L q) q,q) by rw [HE.out,HVE.out,if_pos hin])
     clear hin HWQ HWP HE HVE bP d
     go_upto_region 10 with (first
      |(go_at_call 125;refine H1.out.mono ?_;rintro e w7 ⟨rfl,d7,H2⟩;replace H2:=Aaa H2;clear H1)
      |fail)
     go_wp2_with (first
      |(go_at_call 125;refine H2.out.mono ?_;rintro e w8 ⟨rfl,d8⟩;clear H2)
      |fail)
     go_ret
     refine ⟨by rw [HF.out];rfl, ?_⟩
     rw [HF.out]
     exact d6.trans d8
    ·refine A6k (p:=Q.ix) (q:=P.ix) (x:=wt L Q.ix) (y:=wt L P.ix) (r:=false) (fun w'=>Did w1 rb ro g cap L w') _ _ _ rfl rfl rfl rfl (by omega) (by simp;omega) ?_ ?_
     ·refine (HWQ.out _ d.at').mono ?_
      rintro e wa ⟨rfl,rfl⟩
      refine ⟨rfl, ?_⟩
      refine (HWP.out _ d.at').mono ?_
      rintro e wb ⟨rfl,rfl⟩
      exact ⟨rfl,d⟩
     intro a' w6 d6 ha
     subst ha
     simp only [Act.put,qsA,qsB,qsC]
     have H1:=Aaa (Ah3 d6.at' v.z v.cP v.cQ v.cZ)
     have HF:=Aaa (show even L i=(lift L p,p) by rw [HE.out,HVE.out,if_neg hin])
     clear hin HWQ HWP HE HVE bP d
     go_wp2_with (first
      |(go_at_call 125;refine H1.out.mono ?_;rintro e w8 ⟨rfl,d8⟩;clear H1)
      |fail)
     go_ret
     refine ⟨by rw [HF.out];rfl, ?_⟩
     rw [HF.out]
     exact d6.trans d8
  ·obtain rfl:k=2:=by omega
   have HF:=Aaa (show even L i=(L,i) by unfold even;rw [if_neg (by rw [hf1 (by omega)];decide),if_neg (by rw [hf2 (by omega)];decide)])
   clear hk hk2 hf1 hf2
   go_wp2
   go_ret
   refine ⟨by rw [HF.out];rfl, ?_⟩
   rw [HF.out]
   exact d
end
def upW (w:World) (g a:Nat):Nat:=match w.cell? ⟨g,73*a+68,none⟩ with |some (.int _ n)=>n.toNat|_=>0
theorem A0p {w:World} {rb ro g cap:Nat} {L:List Sp} (h:Aax w rb ro g cap L):∀a,a<L.length→upW w g a=(gt L a).up:=fun a ha=>by
 have:=Ahm h ha 1 _ rfl
 unfold upW
 rw [show 73*a+68=73*a+(67+1) by omega,this]
 simp
def Awf (L:List Sp) (a:Nat) (I:List Nat):Prop:=(a=0∧∃t,Zip L [] t∧Cnt L t∧t.ids=I)∨∃c i l r,a=i∧Mid L c (.nd i l r)∧(plug c (.nd i l r)).ids=I
theorem Awf.of_mid {L:List Sp} {c:Ctx} {t:T} (m:Mid L c t):Awf L t.ix (plug c t).ids:=by
 obtain ⟨z,hcc,i,l,r,rfl,hl,hr⟩:=m
 exact .inr ⟨c,i,l,r,rfl,⟨z,hcc,i,l,r,rfl,hl,hr⟩,rfl⟩
theorem Awf.of_up {L:List Sp} {c:Ctx} {t:T} (u:Up L c t):Awf L (upOf c) (plug c t).ids:=by
 rcases u.next with ⟨rfl,e⟩|⟨i,s,o,c',rfl,e,_,m⟩
 ·exact .inl ⟨e,t,u.1,u.2.2,rfl⟩
 ·have:=Awf.of_mid m
  rw [mk_ix] at this
  exact this
theorem A31 {L:List Sp} {c:Ctx} {i:Nat} {l r:T} (f:Nat→Nat) (hf:∀a,a<L.length→f a=(gt L a).up) (z:Zip L c (.nd i l r)):dep f L.length i=c.length+1:=by
 have hcl:=ctx_len z.repc (List.nodup_append.1 z.nd).2.1
 obtain ⟨h1,h2,h3,_⟩:=z.rep
 obtain ⟨n,hn⟩:∃n,L.length=n+1:=⟨L.length-1,by omega⟩
 rw [hn,dep,if_neg h1,hf i h2,h3,dep_ctx f hf c _ n z.repc (by omega)]
section
variable {w:World} {rb ro g cap i:Nat} {L:List Sp}
theorem Amr {I:List Nat} (h:Aax w rb ro g cap L) (m:Awf L i I) :
 Calls prog 74 #[(pZ rb ro), .int .i64 (i:Int)] w fun e w'=>e= .returned (.tuple #[])∧∃L' t',Zip L' [] t'∧Cnt L' t'∧t'.ids=I∧Kept L L'∧Did w rb ro g cap L' w':=by
 obtain ⟨N,hN⟩:∃N,L.length=N:=⟨_,rfl⟩
 have hNl:N≤1400000000000:=by rw [←hN];exact h.len
 have HN:=Aaa hN
 clear hN
 go_enter func74,ntmps74
 go_wp2
 go_loopw [1] (fun v1 wr=> ∃(a:Nat) (L':List Sp),v1= .int .i64 (a:Int)∧Awf L' a I∧Kept L L'∧Did w rb ro g cap L' wr) (fun v1 wr=>dep (upW wr g) N (match v1 with | .int _ i=>i.toNat|_=>0))
 case atStart=>exact ⟨i,L,rfl,m,Kept.refl L,Did.refl h⟩
 case round =>
  clear m
  obtain ⟨a,L1,rfl,m,k,d⟩:=hrel
  rcases m with ⟨rfl,t,zt,ct,it⟩|⟨c,j,l,r,rfl,md,ip⟩
  ·have HP:=Aaa (show ∃L' t',Zip L' [] t'∧Cnt L' t'∧t'.ids=I∧Kept L L'∧Did w rb ro g cap L' wr from ⟨L1,t,zt,ct,it,k,d⟩)
   clear it zt ct k d
   go_wp2
   go_end0
   exact ⟨rfl,HP.out⟩
  ·obtain ⟨t',e2,eup,h0,up2,k2,ids2⟩:=md.step
   obtain ⟨z,hcc,_,_,_,eT,hl,hr⟩:=md
   cases eT
   replace e2:(even (tally L1 a) a).2=t'.ix:=e2
   replace eup:(gt (even (tally L1 a) a).1 t'.ix).up=upOf c:=eup
   replace k2:Kept L1 (even (tally L1 a) a).1:=k2
   replace up2:Up (even (tally L1 a) a).1 c t':=up2
   have ha0:a≠0:=z.rep.1
   have lL1:L1.length=N:=k.len.trans HN.out
   have HD:=Aaa (show dep (upW wr g) N a=c.length+1 by rw [←lL1];exact A31 _ (A0p d.at') z)
   have HT:=Aaa (Ahp d.at' z hl hr)
   have HE:=Aaa (fun (W:World) (dW:Did wr rb ro g cap (tally L1 a) W)=>Aze dW.at'.drew (z.tally ha0) (tally_cnt (s:=false) z hl hr))
   have HK:=Aaa (k.trans k2)
   have HI:=Aaa (show (plug c t').ids=I by rw [←ip,plug_ids,plug_ids,ids2])
   have HU:=Aaa up2
   have l2:(even (tally L1 a) a).1.length=N:=k2.len.trans lL1
   obtain ⟨L2,hL2⟩:∃L2,(even (tally L1 a) a).1=L2:=⟨_,rfl⟩
   have hj:t'.ix<L2.length:=by rw [←hL2];exact Ago up2.1.rep up2.1.repc.pos
   rw [hL2] at HE HK HU l2 eup
   rw [e2] at HE
   have lT:(tally L1 a).length=N:=by rw [tally_len];exact lL1
   have E2:=Aaa eup
   have ha':¬(a:Int)=0:=by omega
   clear ip ids2 up2 k2 k e2 hcc hl hr hL2 eup
   go_upto_region 2 with (first
        |(go_at_call 96;refine HT.out.mono ?_;rintro e w1 ⟨rfl,d1⟩;clear HT)
        |fail)
   refine A7p (g:=g) (cap:=cap) (N:=N) (j:=t'.ix) (k:=upOf c) (fun w'=>Did w rb ro g cap L2 w') _ _ _ rfl rfl rfl ?_ ?_ ?_ ?_
   ·have:=Ado d1.at'.drew
    rw [lT] at this
    exact this
   ·intro W
    have:=Ad8 (g:=g) (cap:=cap) hj (by rw [l2];exact hNl) W
    rwa [l2] at this
   ·refine (HE.out _ d1).mono ?_
    rintro e w2 ⟨rfl,d2⟩
    refine ⟨rfl, ?_, ?_,(d.trans d1).trans (Did.from (Qt.drew _) d2)⟩
    ·have:=Ado d2.at'
     rw [l2] at this
     exact this
    ·have:=A1t d2.at' hj
     rwa [E2.out] at this
   intro a' w2 d2 ha
   subst ha
   simp only [Act.put,qsA,qsB,qsC]
   clear ha' HE l2 lT lL1 hj d1
   go_wp2
   refine ⟨⟨upOf c,L2,rfl, ?_,HK.out,d2⟩, ?_⟩
   ·rw [←HI.out]
    exact Awf.of_up HU.out
   ·show dep (upW w2 g) N (upOf c:Int).toNat<dep (upW wr g) N (a:Int).toNat
    have u:=HU.out
    have hl2:L2.length=N:=HK.out.len.trans HN.out
    have hcl:=ctx_len u.1.repc (List.nodup_append.1 u.1.nd).2.1
    rw [Int.toNat_natCast,Int.toNat_natCast,HD.out,dep_ctx _ (A0p d2.at') c _ N u.1.repc (by omega)]
    omega
end
def KS (kb:Nat) (k:KpV) (w':World):Prop:=(Instr.loadAt 78 (pZ kb 0)).run prog w'= .ok (KpV.v k) w'
theorem Avv (w:World) (a0 a1 a2 a3 a4 a5 a6 a7 a8 a9 a10 a11 a12 a13 a14 a15 a16 a17 a18 a19 a20 a21 a22 a23 a24 a25 a26 a27 a28 a29 a30 a31 a32 a33 a34 a35 a36 a37 a38 a39 a40 a41 a42 a43 a44 a45 a46 a47 a48 a49 a50 a51 a52 a53 a54 a55 a56 a57 a58 a59 a60 a61 a62 a63 a64 a65 a66:Value):(Instr.build 128 #[(0, .agg [a0,a1,a2,a3,a4,a5,a6,a7,a8,a9,a10,a11,a12,a13,a14,a15,a16,a17,a18,a19,a20,a21,a22,a23,a24,a25,a26,a27,a28,a29,a30,a31,a32,a33,a34,a35,a36,a37,a38,a39,a40,a41,a42,a43,a44,a45,a46,a47,a48,a49,a50,a51,a52,a53,a54,a55,a56,a57,a58,a59,a60,a61,a62,a63,a64,a65,a66].toArray),(1, .bool true)]).run prog w= .ok (.agg ([a0,a1,a2,a3,a4,a5,a6,a7,a8,a9,a10,a11,a12,a13,a14,a15,a16,a17,a18,a19,a20,a21,a22,a23,a24,a25,a26,a27,a28,a29,a30,a31,a32,a33,a34,a35,a36,a37,a38,a39,a40,a41,a42,a43,a44,a45,a46,a47,a48,a49,a50,a51,a52,a53,a54,a55,a56,a57,a58,a59,a60,a61,a62,a63,a64,a65,a66]++[Value.bool true, .int .i64 0, .int .i64 0, .int .i64 0, .int .i64 0, .int .i64 0]).toArray) w:=by kernel_rfl
theorem Az7 (w:World) {k:KpV} (hk:KpV.ok k):(Instr.build 128 #[(0,KpV.v k),(1, .bool true)]).run prog w= .ok (Sp.v ⟨k,true,0,0,0,0,0⟩) w:=by
 have h:=KpV.len hk
 unfold Sp.v Sp.c KpV.v
 simp only
 generalize KpV.c k=l at *
 match l,h with
 |a0::a1::a2::a3::a4::a5::a6::a7::a8::a9::a10::a11::a12::a13::a14::a15::a16::a17::a18::a19::a20::a21::a22::a23::a24::a25::a26::a27::a28::a29::a30::a31::a32::a33::a34::a35::a36::a37::a38::a39::a40::a41::a42::a43::a44::a45::a46::a47::a48::a49::a50::a51::a52::a53::a54::a55::a56::a57::a58::a59::a60::a61::a62::a63::a64::a65::a66::[],_=>exact Avv w a0 a1 a2 a3 a4 a5 a6 a7 a8 a9 a10 a11 a12 a13 a14 a15 a16 a17 a18 a19 a20 a21 a22 a23 a24 a25 a26 a27 a28 a29 a30 a31 a32 a33 a34 a35 a36 a37 a38 a39 a40 a41 a42 a43 a44 a45 a46 a47 a48 a49 a50 a51 a52 a53 a54 a55 a56 a57 a58 a59 a60 a61 a62 a63 a64 a65 a66
theorem Azb {w:World} {a:Act} {o:Oper} {x:Operand} {k:KpV} (hk:KpV.ok k) (ho:o.op= .build 128 #[(0,x),(1, .const (.bool true))]) (hx:a.eval x=KpV.v k):(execOp a.eval o).run prog w= .ok (.value (Sp.v ⟨k,true,0,0,0,0,0⟩)) w :=
 Afo ho (by simp [hx];rfl) (Az7 w hk)
def Aq7:Array Oper:=(⟨_,rfl⟩:{o // some o=rgB Tryz.f115 1}).1
theorem A7i {rb ro g cap:Nat} {L:List Sp} (a:Act) (w:World) (Q:Exit→Act→World→Prop) (zz:a.tmps.size=11)
 (t0:a.tmps.getD 0 undef= (pZ rb ro))
 (hR:Aax w rb ro g cap L) (h0:0<L.length)
 (h:∀a' w',w'=w→a'=((((((((a.put (some 3) (pZ rb ro)).put (some 4) (pZ rb ro)).put (some 5) (pZ rb (ro+0))).put (some 6) (.slice (some ⟨g,0,none⟩) (L).length cap)).put (some 7) (pZ g (73*0))).put (some 8) (pZ g (73*0+69))).put (some 9) (pZ g (73*0+69+nb true))).put (some 10) (.int .i64 (dn (gt L 0) true:Int))).put (some 2) (.int .i64 (dn (gt L 0) true:Int))→Q .normal a' w') :
 (Code.region 1 Aq7 false).wp prog Q a w:=by
 refine z0 rfl ?_
 refine zv rfl (xmv rfl (zi t0 rfl)) ?_
 refine zv rfl (xnc rfl (zg zz rfl)) ?_
 refine zv rfl (xfa rfl (zg zz rfl) (Abw _ _ _)) ?_
 refine zv rfl (xld rfl (zg zz rfl) (Ado hR)) ?_
 refine zv rfl (xia rfl (zg zz rfl) rfl (Ad8 h0 hR.len _)) ?_
 refine zv rfl (xfa rfl (zg zz rfl) (Aco _ _ _)) ?_
 refine zv rfl (xia rfl (zg zz rfl) rfl (Apb _ _)) ?_
 refine zv rfl (xld rfl (zg zz rfl) (Akd hR h0 true)) ?_
 refine zv rfl (xas rfl (zg zz rfl)) ?_
 exact ze rfl (h _ _ (rfl) rfl)
def Ar8:Array Oper:=(⟨_,rfl⟩:{o // some o=rgB Tryz.f91 1}).1
theorem A7q {rb ro g cap:Nat} {L:List Sp} {i:Nat} {c:Bool} (a:Act) (w:World) (Q:Exit→Act→World→Prop) (zz:a.tmps.size=16)
 (t0:a.tmps.getD 0 undef= (pZ rb ro))
 (t1:a.tmps.getD 1 undef= .int .i64 (nb c:Int))
 (hR:Aax w rb ro g cap L) (hi:i<L.length) (hl:L.length≤1400000000000) (CR:Calls prog 115 #[(pZ rb ro)] w.drew fun e w'=>e= .returned (.int .i64 (i:Int))∧Aax w' rb ro g cap L∧Qt w w')
 (h:∀a' w',Aax w' rb ro g cap L∧Qt w w'→a'=(((((((((((a.put (some 5) (pZ rb ro)).put (some 6) (pZ rb ro)).put (some 7) (pZ rb (ro+0))).put (some 8) (.slice (some ⟨g,0,none⟩) (L).length cap)).put (some 9) (pZ rb ro)).put (some 11) (.int .i64 (nb c:Int))).put (some 10) (.int .i64 (i:Int))).put (some 12) (pZ g (73*i))).put (some 13) (pZ g (73*i+71))).put (some 14) (pZ g (73*i+71+nb c))).put (some 15) (.int .i64 (ct (gt L i) c:Int))).put (some 4) (.int .i64 (ct (gt L i) c:Int))→Q .normal a' w') :
 (Code.region 1 Ar8 true).wp prog Q a w:=by
 refine y0 (fun w'=>Aax w' rb ro g cap L∧Qt w w') (⟨hR.drew,Qt.drew w⟩) (fun hHeld=> ?_)
 refine yv 0 rfl rfl (fun w1 hw=>xmv rfl (zi t0 rfl)) hHeld ?_
 refine yv 1 rfl rfl (fun w1 hw=>xnc rfl (zg zz rfl)) hHeld ?_
 refine yv 2 rfl rfl (fun w1 hw=>xfa rfl (zg zz rfl) (Abw _ _ _)) hHeld ?_
 refine yv 3 rfl rfl (fun w1 hw=>xld rfl (zg zz rfl) (Ado hw.1)) hHeld ?_
 refine yv 4 rfl rfl (fun w1 hw=>xmv rfl (zi t0 rfl)) hHeld ?_
 refine yv 6 rfl rfl (fun w1 hw=>xmv rfl (zi t1 rfl)) hHeld ?_
 refine yc 5 rfl rfl (Adc rfl (zg zz rfl)) (CR) (fun e x5 hx=> ?_)
 obtain ⟨rfl,S1⟩:=hx
 refine ⟨_,rfl,S1,fun hHeld=> ?_⟩
 refine yv 7 rfl rfl (fun w1 hw=>xia rfl (zg zz rfl) (zg zz rfl) (Ad8 hi hl _)) hHeld ?_
 refine yv 8 rfl rfl (fun w1 hw=>xfa rfl (zg zz rfl) (Aid _ _ _)) hHeld ?_
 refine yv 9 rfl rfl (fun w1 hw=>xia rfl (zg zz rfl) (zg zz rfl) (Aei _ c _)) hHeld ?_
 refine yv 10 rfl rfl (fun w1 hw=>xld rfl (zg zz rfl) (A1u hw.1 hi c)) hHeld ?_
 refine yv 11 rfl rfl (fun w1 hw=>xas rfl (zg zz rfl)) hHeld ?_
 exact ye rfl (h _ _ (hHeld) rfl)
def Arh:Oper:=⟨some 14, .move (.tmp 0),129,"row.go:64", #[],none⟩
def Arg:Oper:=⟨some 15, .move (.tmp 0),129,"row.go:64", #[],none⟩
def Arf:Oper:=⟨some 16, .nilCheck (.tmp 15),0,"row.go:64", #[⟨1, .data⟩],none⟩
def Are:Oper:=⟨some 17, .fieldAddr 75 (.tmp 16) 0,0,"row.go:64", #[⟨2, .data⟩],none⟩
def Agk:Oper:=⟨some 18, .load 73 (.tmp 17),73,"row.go:64", #[⟨3, .data⟩],none⟩
def Ard:Oper:=⟨some 19, .load 78 (.tmp 5),78,"row.go:64", #[],none⟩
def Arc:Oper:=⟨some 20, .build 128 #[(0, .tmp 19),(1,Operand.const (Value.bool true))],128,"row.go:64", #[⟨5, .data⟩],none⟩
def Agj:Oper:=⟨some 21, .buildSlice 73 1 #[(0, .tmp 20)],73,"row.go:64", #[⟨6, .data⟩],none⟩
def Agi:Oper:=⟨some 22, .call {callee:=Callee.builtin Builtin.append,args:= #[.tmp 18, .tmp 21],argTypes:= #[73,73]},73,"row.go:64", #[⟨4, .data⟩,⟨7, .data⟩],none⟩
def Akx:Oper:=⟨some 23, .nilCheck (.tmp 14),0,"row.go:64", #[⟨0, .data⟩,⟨0, .phase⟩,⟨1, .phase⟩,⟨2, .phase⟩,⟨3, .phase⟩,⟨4, .phase⟩,⟨5, .phase⟩,⟨6, .phase⟩,⟨7, .phase⟩,⟨8, .phase⟩],none⟩
def Ahz:Oper:=⟨some 24, .fieldAddr 75 (.tmp 23) 0,0,"row.go:64", #[⟨9, .data⟩,⟨0, .phase⟩,⟨1, .phase⟩,⟨2, .phase⟩,⟨3, .phase⟩,⟨4, .phase⟩,⟨5, .phase⟩,⟨6, .phase⟩,⟨7, .phase⟩,⟨8, .phase⟩],none⟩
def Aew:Oper:=⟨none, .store 73 (.tmp 24) (.tmp 22),0,"row.go:64", #[⟨10, .data⟩,⟨8, .data⟩,⟨8, .chain⟩,⟨0, .phase⟩,⟨1, .phase⟩,⟨2, .phase⟩,⟨3, .phase⟩,⟨4, .phase⟩,⟨5, .phase⟩,⟨6, .phase⟩,⟨7, .phase⟩,⟨8, .phase⟩],none⟩
def Ax5:Array Oper:= #[Arh,Arg,Arf,Are,Agk,Ard,Arc,Agj,Agi,Akx,Ahz,Aew]
theorem A9e {rb ro g cap:Nat} {L:List Sp} {kb:Nat} {k:KpV} {lv qv:Value} {w1 w2 w3:World} (a:Act) (w:World) (Q:Exit→Act→World→Prop) (hsz:a.tmps.size=50)
 (t0:a.tmps.getD 0 undef= (pZ rb ro))
 (t5:a.tmps.getD 5 undef= (pZ kb 0))
 (hk:KpV.ok k) (h0:KS kb k w.drew) (LA:(Instr.loadAt 73 (pZ rb (ro+0))).run prog w.drew= .ok (.slice (some ⟨g,0,none⟩) L.length cap) w.drew) (EB:(Instr.buildSlice 73 1 #[(0,Sp.v ⟨k,true,0,0,0,0,0⟩)]).run prog w.drew= .ok lv w1) (S1:KS kb k w1) (LB:(Instr.loadAt 73 (pZ rb (ro+0))).run prog w1= .ok (.slice (some ⟨g,0,none⟩) L.length cap) w1) (EA:(Builtin.append_ #[73,73] 73 #[.slice (some ⟨g,0,none⟩) L.length cap,lv]).run prog w1= .ok qv w2) (S2:KS kb k w2) (ES:(Instr.storeAt 73 (pZ rb (ro+0)) qv).run prog w2= .ok () w3) (S3:KS kb k w3)
 (h1:∀a' w',w'=w3→a'=((((((((((a.put (some 14) (pZ rb ro)).put (some 15) (pZ rb ro)).put (some 16) (pZ rb ro)).put (some 17) (pZ rb (ro+0))).put (some 19) (KpV.v k)).put (some 20) (Sp.v ⟨k,true,0,0,0,0,0⟩)).put (some 18) (.slice (some ⟨g,0,none⟩) L.length cap)).put (some 21) (lv)).put (some 22) (qv)).put (some 23) (pZ rb ro)).put (some 24) (pZ rb (ro+0))→Q .normal a' w')
 (h2:∀a' w',w'=w3→a'=((((((((((a.put (some 14) (pZ rb ro)).put (some 15) (pZ rb ro)).put (some 16) (pZ rb ro)).put (some 17) (pZ rb (ro+0))).put (some 19) (KpV.v k)).put (some 20) (Sp.v ⟨k,true,0,0,0,0,0⟩)).put (some 21) (lv)).put (some 18) (.slice (some ⟨g,0,none⟩) L.length cap)).put (some 22) (qv)).put (some 23) (pZ rb ro)).put (some 24) (pZ rb (ro+0))→Q .normal a' w') :
 (Code.region 2 Ax5 true).wp prog Q a w:=by
 refine wp_region_noPanic ?_
 refine wp_region_held_drew (S:=fun w'=>(Instr.loadAt 78 (pZ kb 0)).run prog w'= .ok (KpV.v k) w') (by kernel_rfl) (h0) (fun hHeld=> ?_)
 refine wpAnyH_take (i:=0) (oi:=Arh) (v:= (pZ rb ro)) rfl (by kernel_rfl) (by kernel_rfl) (by kernel_rfl) (fun _ _ _ h=>h) (Or.inl ⟨by rfl,fun w1 hw=>xmv rfl t0⟩) hHeld ?_
 change wpAnyH _ _ _ _ _ _ _ (a.put (some 14) (pZ rb ro)) _
 obtain ⟨a1,e1⟩:∃act,act=a.put (some 14) (pZ rb ro):=⟨_,rfl⟩
 rw [←e1] at h1 h2 ⊢
 have z1:=pz e1 hsz
 replace t0:=pk e1 t0
 replace t5:=pk e1 t5
 have t14:=pq e1 hsz
 clear e1 hsz
 refine wpAnyH_take (i:=1) (oi:=Arg) (v:= (pZ rb ro)) rfl (by kernel_rfl) (by kernel_rfl) (by kernel_rfl) (fun _ _ _ h=>h) (Or.inl ⟨by rfl,fun w1 hw=>xmv rfl t0⟩) hHeld ?_
 change wpAnyH _ _ _ _ _ _ _ (a1.put (some 15) (pZ rb ro)) _
 obtain ⟨a2,e2⟩:∃act,act=a1.put (some 15) (pZ rb ro):=⟨_,rfl⟩
 rw [←e2] at h1 h2 ⊢
 have z2:=pz e2 z1
 replace t5:=pk e2 t5
 replace t14:=pk e2 t14
 clear t0
 have t15:=pq e2 z1
 clear e2 z1
 refine wpAnyH_take (i:=2) (oi:=Arf) (v:= (pZ rb ro)) rfl (by kernel_rfl) (by kernel_rfl) (by kernel_rfl) (fun _ _ _ h=>h) (Or.inl ⟨by rfl,fun w1 hw=>xnc rfl t15⟩) hHeld ?_
 change wpAnyH _ _ _ _ _ _ _ (a2.put (some 16) (pZ rb ro)) _
 obtain ⟨a3,e3⟩:∃act,act=a2.put (some 16) (pZ rb ro):=⟨_,rfl⟩
 rw [←e3] at h1 h2 ⊢
 have z3:=pz e3 z2
 replace t5:=pk e3 t5
 replace t14:=pk e3 t14
 clear t15
 have t16:=pq e3 z2
 clear e3 z2
 refine wpAnyH_take (i:=3) (oi:=Are) (v:= (pZ rb (ro+0))) rfl (by kernel_rfl) (by kernel_rfl) (by kernel_rfl) (fun _ _ _ h=>h) (Or.inl ⟨by rfl,fun w1 hw=>xfa rfl t16 (Abw _ _ _)⟩) hHeld ?_
 change wpAnyH _ _ _ _ _ _ _ (a3.put (some 17) (pZ rb (ro+0))) _
 obtain ⟨a4,e4⟩:∃act,act=a3.put (some 17) (pZ rb (ro+0)):=⟨_,rfl⟩
 rw [←e4] at h1 h2 ⊢
 have z4:=pz e4 z3
 replace t5:=pk e4 t5
 replace t14:=pk e4 t14
 clear t16
 have t17:=pq e4 z3
 clear e4 z3
 refine wpAnyH_take (i:=5) (oi:=Ard) (v:=KpV.v k) rfl (by kernel_rfl) (by kernel_rfl) (by kernel_rfl) (fun _ _ _ h=>h) (Or.inl ⟨by rfl,fun w1 hw=>xld rfl t5 hw⟩) hHeld ?_
 change wpAnyH _ _ _ _ _ _ _ (a4.put (some 19) (KpV.v k)) _
 obtain ⟨a5,e5⟩:∃act,act=a4.put (some 19) (KpV.v k):=⟨_,rfl⟩
 rw [←e5] at h1 h2 ⊢
 have z5:=pz e5 z4
 replace t14:=pk e5 t14
 replace t17:=pk e5 t17
 clear t5
 have t19:=pq e5 z4
 clear e5 z4
 refine wpAnyH_take (i:=6) (oi:=Arc) (v:=Sp.v ⟨k,true,0,0,0,0,0⟩) rfl (by kernel_rfl) (by kernel_rfl) (by kernel_rfl) (fun _ _ _ h=>h) (Or.inl ⟨by rfl,fun w1 hw=>Azb hk rfl t19⟩) hHeld ?_
 change wpAnyH _ _ _ _ _ _ _ (a5.put (some 20) (Sp.v ⟨k,true,0,0,0,0,0⟩)) _
 obtain ⟨a6,e6⟩:∃act,act=a5.put (some 20) (Sp.v ⟨k,true,0,0,0,0,0⟩):=⟨_,rfl⟩
 rw [←e6] at h1 h2 ⊢
 have z6:=pz e6 z5
 replace t14:=pk e6 t14
 replace t17:=pk e6 t17
 clear t19
 have t20:=pq e6 z5
 clear e6 z5
 refine wpAnyH_ready (rs:=[4,7]) (by kernel_rfl) (by simp) ?_
 refine AllReadyH.cons (o:=Agk) rfl (fun K hK=> ?_) (AllReadyH.cons (o:=Agj) rfl (fun K hK=> ?_) (AllReadyH.nil))
 ·clear h2
  have X:=xld (P:=prog) (a:=a6) (o:=Agk) rfl t17 LA
  rw [if_pos (by rfl),Oper.wp,X]
  show K _ _
  clear X
  refine hK.out _ _ (h0) (fun hHeld=> ?_)
  clear hK K
  change wpAnyH _ _ _ _ _ _ _ (a6.put (some 18) (.slice (some ⟨g,0,none⟩) L.length cap)) _
  obtain ⟨a7,e7⟩:∃act,act=a6.put (some 18) (.slice (some ⟨g,0,none⟩) L.length cap):=⟨_,rfl⟩
  rw [←e7] at h1 ⊢
  have z7:=pz e7 z6
  replace t14:=pk e7 t14
  replace t20:=pk e7 t20
  clear t17
  have t18:=pq e7 z6
  clear e7 z6
  refine wpAnyH_ready (rs:=[7]) (by kernel_rfl) (by simp) ?_
  refine AllReadyH.cons (o:=Agj) rfl (fun K hK=> ?_) AllReadyH.nil
  have X:=Aba (P:=prog) (a:=a7) (o:=Agj) rfl t20 EB
  rw [if_pos (by rfl),Oper.wp,X]
  show K _ _
  clear X
  refine hK.out _ _ (S1) (fun hHeld=> ?_)
  clear hK K
  change wpAnyH _ _ _ _ _ _ _ (a7.put (some 21) (lv)) _
  obtain ⟨a8,e8⟩:∃act,act=a7.put (some 21) (lv):=⟨_,rfl⟩
  rw [←e8] at h1 ⊢
  have z8:=pz e8 z7
  replace t14:=pk e8 t14
  replace t18:=pk e8 t18
  clear t20
  have t21:=pq e8 z7
  clear e8 z7
  refine wpAnyH_ready (rs:=[8]) (by kernel_rfl) (by simp) ?_
  refine AllReadyH.cons (o:=Agi) rfl (fun K hK=> ?_) AllReadyH.nil
  have X:=Ab1 (P:=prog) (a:=a8) (o:=Agi) rfl t18 t21 EA
  rw [if_pos (by rfl),Oper.wp,X]
  show K _ _
  clear X
  refine hK.out _ _ (S2) (fun hHeld=> ?_)
  clear hK K
  change wpAnyH _ _ _ _ _ _ _ (a8.put (some 22) (qv)) _
  obtain ⟨a9,e9⟩:∃act,act=a8.put (some 22) (qv):=⟨_,rfl⟩
  rw [←e9] at h1 ⊢
  have z9:=pz e9 z8
  replace t14:=pk e9 t14
  clear t18 t21
  have t22:=pq e9 z8
  clear e9 z8
  refine wpAnyH_take (i:=9) (oi:=Akx) (v:= (pZ rb ro)) rfl (by kernel_rfl) (by kernel_rfl) (by kernel_rfl) (fun _ _ _ h=>h) (Or.inl ⟨by rfl,fun w1 hw=>xnc rfl t14⟩) hHeld ?_
  change wpAnyH _ _ _ _ _ _ _ (a9.put (some 23) (pZ rb ro)) _
  obtain ⟨a10,e10⟩:∃act,act=a9.put (some 23) (pZ rb ro):=⟨_,rfl⟩
  rw [←e10] at h1 ⊢
  have z10:=pz e10 z9
  replace t22:=pk e10 t22
  clear t14
  have t23:=pq e10 z9
  clear e10 z9
  refine wpAnyH_take (i:=10) (oi:=Ahz) (v:= (pZ rb (ro+0))) rfl (by kernel_rfl) (by kernel_rfl) (by kernel_rfl) (fun _ _ _ h=>h) (Or.inl ⟨by rfl,fun w1 hw=>xfa rfl t23 (Abw _ _ _)⟩) hHeld ?_
  change wpAnyH _ _ _ _ _ _ _ (a10.put (some 24) (pZ rb (ro+0))) _
  obtain ⟨a11,e11⟩:∃act,act=a10.put (some 24) (pZ rb (ro+0)):=⟨_,rfl⟩
  rw [←e11] at h1 ⊢
  have z11:=pz e11 z10
  replace t22:=pk e11 t22
  clear t23
  have t24:=pq e11 z10
  clear e11 z10
  refine wpAnyH_ready (rs:=[11]) (by kernel_rfl) (by simp) ?_
  refine AllReadyH.cons (o:=Aew) rfl (fun K hK=> ?_) AllReadyH.nil
  have X:=Aai (P:=prog) (a:=a11) (o:=Aew) rfl t24 t22 ES
  rw [if_pos (by rfl),Oper.wp,X]
  show K _ _
  clear X
  refine hK.out _ _ (S3) (fun hHeld=> ?_)
  clear hK K
  exact wpAnyH_done (by kernel_rfl) (NoPanic.normal (h1 _ _ (rfl) rfl)) _
 ·clear h1
  have X:=Aba (P:=prog) (a:=a6) (o:=Agj) rfl t20 EB
  rw [if_pos (by rfl),Oper.wp,X]
  show K _ _
  clear X
  refine hK.out _ _ (S1) (fun hHeld=> ?_)
  clear hK K
  change wpAnyH _ _ _ _ _ _ _ (a6.put (some 21) (lv)) _
  obtain ⟨a13,e13⟩:∃act,act=a6.put (some 21) (lv):=⟨_,rfl⟩
  rw [←e13] at h2 ⊢
  have z13:=pz e13 z6
  replace t14:=pk e13 t14
  replace t17:=pk e13 t17
  clear t20
  have t21:=pq e13 z6
  clear e13 z6
  refine wpAnyH_ready (rs:=[4]) (by kernel_rfl) (by simp) ?_
  refine AllReadyH.cons (o:=Agk) rfl (fun K hK=> ?_) AllReadyH.nil
  have X:=xld (P:=prog) (a:=a13) (o:=Agk) rfl t17 LB
  rw [if_pos (by rfl),Oper.wp,X]
  show K _ _
  clear X
  refine hK.out _ _ (S1) (fun hHeld=> ?_)
  clear hK K
  change wpAnyH _ _ _ _ _ _ _ (a13.put (some 18) (.slice (some ⟨g,0,none⟩) L.length cap)) _
  obtain ⟨a14,e14⟩:∃act,act=a13.put (some 18) (.slice (some ⟨g,0,none⟩) L.length cap):=⟨_,rfl⟩
  rw [←e14] at h2 ⊢
  have z14:=pz e14 z13
  replace t14:=pk e14 t14
  replace t21:=pk e14 t21
  clear t17
  have t18:=pq e14 z13
  clear e14 z13
  refine wpAnyH_ready (rs:=[8]) (by kernel_rfl) (by simp) ?_
  refine AllReadyH.cons (o:=Agi) rfl (fun K hK=> ?_) AllReadyH.nil
  have X:=Ab1 (P:=prog) (a:=a14) (o:=Agi) rfl t18 t21 EA
  rw [if_pos (by rfl),Oper.wp,X]
  show K _ _
  clear X
  refine hK.out _ _ (S2) (fun hHeld=> ?_)
  clear hK K
  change wpAnyH _ _ _ _ _ _ _ (a14.put (some 22) (qv)) _
  obtain ⟨a15,e15⟩:∃act,act=a14.put (some 22) (qv):=⟨_,rfl⟩
  rw [←e15] at h2 ⊢
  have z15:=pz e15 z14
  replace t14:=pk e15 t14
  clear t21 t18
  have t22:=pq e15 z14
  clear e15 z14
  refine wpAnyH_take (i:=9) (oi:=Akx) (v:= (pZ rb ro)) rfl (by kernel_rfl) (by kernel_rfl) (by kernel_rfl) (fun _ _ _ h=>h) (Or.inl ⟨by rfl,fun w1 hw=>xnc rfl t14⟩) hHeld ?_
  change wpAnyH _ _ _ _ _ _ _ (a15.put (some 23) (pZ rb ro)) _
  obtain ⟨a16,e16⟩:∃act,act=a15.put (some 23) (pZ rb ro):=⟨_,rfl⟩
  rw [←e16] at h2 ⊢
  have z16:=pz e16 z15
  replace t22:=pk e16 t22
  clear t14
  have t23:=pq e16 z15
  clear e16 z15
  refine wpAnyH_take (i:=10) (oi:=Ahz) (v:= (pZ rb (ro+0))) rfl (by kernel_rfl) (by kernel_rfl) (by kernel_rfl) (fun _ _ _ h=>h) (Or.inl ⟨by rfl,fun w1 hw=>xfa rfl t23 (Abw _ _ _)⟩) hHeld ?_
  change wpAnyH _ _ _ _ _ _ _ (a16.put (some 24) (pZ rb (ro+0))) _
  obtain ⟨a17,e17⟩:∃act,act=a16.put (some 24) (pZ rb (ro+0)):=⟨_,rfl⟩
  rw [←e17] at h2 ⊢
  have z17:=pz e17 z16
  replace t22:=pk e17 t22
  clear t23
  have t24:=pq e17 z16
  clear e17 z16
  refine wpAnyH_ready (rs:=[11]) (by kernel_rfl) (by simp) ?_
  refine AllReadyH.cons (o:=Aew) rfl (fun K hK=> ?_) AllReadyH.nil
  have X:=Aai (P:=prog) (a:=a17) (o:=Aew) rfl t24 t22 ES
  rw [if_pos (by rfl),Oper.wp,X]
  show K _ _
  clear X
  refine hK.out _ _ (S3) (fun hHeld=> ?_)
  clear hK K
  exact wpAnyH_done (by kernel_rfl) (NoPanic.normal (h2 _ _ (rfl) rfl)) _
end
end Go.Proofs.YtifendlpeebofaaGreatDoor
