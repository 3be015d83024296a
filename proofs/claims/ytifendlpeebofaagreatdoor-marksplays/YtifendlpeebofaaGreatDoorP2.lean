import Derived.Test.YtifendlpeebofaaGreatDoorP1
import Derived.Test.YtifendlpeebofaaGreatDoorP0
import Derived.Test.YtifendlpeebofaaGreatDoorRows
import Derived.WalkKit
import Derived.ProofKit
import Derived.OpenShut
import Derived.ShutString
import Derived.ChangeOld
import Derived.Below
import Derived.SizedLaws
import Derived.Deep.Slices
import Derived.Laws.CopyRow
import Derived.RangeFuncNested
import Derived.RangeFuncBound
import Derived.RangeFuncCalls
import Derived.RangeFuncLeaves
import Derived.RangeFuncFrom
import Derived.OwnWalkIn
import Derived.TacticsInMore
import Derived.Laws.ResultCell
import Derived.Laws.MakeOwn
import Derived.Shelf.Abstract
set_option linter.unusedSimpArgs false
set_option linter.unusedVariables false
set_option maxRecDepth 100000
set_option maxHeartbeats 4000000
namespace Go.Proofs.YtifendlpeebofaaGreatDoor
open Go.Proofs.Tryz
section
open Go.RowKit Sq
structure Ad9 (L:List Sp) (t:T):Prop where
 zip:Zip L [] t
 cnt:Cnt L t
 all:∀i,0<i→i<L.length→i∈t.ids
theorem Ad9.root {L:List Sp} {t:T} (h:Ad9 L t):(gt L 0).r=t.ix:=h.zip.repc.2.1
theorem Ad9.pos {L:List Sp} {t:T} (h:Ad9 L t):0<L.length:=h.zip.repc.pos
theorem Ad9.lt {L:List Sp} {t:T} (h:Ad9 L t) {i:Nat} (hi:i∈t.ids):i≠0∧i<L.length:=h.zip.rep.mem i hi
theorem Ad9.nodup {L:List Sp} {t:T} (h:Ad9 L t):t.ids.Nodup:=by have:=h.zip.nd;simpa [cids] using this
theorem A53:(prog.info? 128).map (fun i=>(i.zero,i.size,i.bytes))=some (some (.agg (Sp.c zSp).toArray),73,136):=by kernel_rfl
theorem A1x:(Value.agg (Sp.c zSp).toArray).cells.size=73:=by
 show (Sp.c zSp).toArray.size=73
 rw [List.size_toArray,Sp.len Aoi]
theorem A2m (h:Sp) (ok:KpV.ok h.kp) (w:World):(Instr.buildSlice 73 1 #[(0,Sp.v h)]).run prog w= .ok (.slice (some ⟨w.heap.size,0,none⟩) 1 1) (w.alloc (.cells (Sp.c h).toArray 128)):=by
 obtain ⟨ie,hi,hz,hs,hby⟩:=info_parts A53
 refine run_buildSlice w 73 128 1 _ (Sp.c h).toArray ie _ underlying73 hi hz (by rw [hs];decide) (by rw [hs];decide) ?_
 rw [hs]
 have:=Go.Great.fill_whole (s:=73) (by decide) [.agg (Sp.c h).toArray] ((Array.range (1*73)).map ((Value.agg (Sp.c zSp).toArray).cells[· % (Value.agg (Sp.c zSp).toArray).cells.size]!)) (by intro v hv;simp at hv;subst hv;show (Sp.c h).toArray.size=73;rw [List.size_toArray,Sp.len ok]) (by simp)
 simpa [Value.cells,Sp.v] using this
theorem Ahs (w:World) (d k:Nat) (u:Value):Tch (fun j=>j=d) w (w.setCell ⟨d,k,none⟩ u):=by
 have b:=(Below.refl 0 w).setCell (p:=⟨d,k,none⟩) (Nat.zero_le _) u
 exact ⟨b.os,b.tape,b.output,b.size,fun j hj hn=>Below.heap_setCell _ _ _ _ hn⟩
theorem A7c {w:World} {rb ro:Nat} {u:Value} {a:Option Addr} {n c:Nat} (hc:w.cell? ⟨rb,ro,none⟩=some u) (hb:∃cs t,w.heap[rb]? =some (.cells cs t (0,0))):(Instr.storeAt 73 (pZ rb (ro+0)) (.slice a n c)).run prog w= .ok () (w.setCell ⟨rb,ro,none⟩ (.slice a n c))∧(w.setCell ⟨rb,ro,none⟩ (.slice a n c)).cell? ⟨rb,ro,none⟩=some (.slice a n c)∧(∃cs t,(w.setCell ⟨rb,ro,none⟩ (.slice a n c)).heap[rb]? =some (.cells cs t (0,0)))∧(∀k,k≠ro→(w.setCell ⟨rb,ro,none⟩ (.slice a n c)).cell? ⟨rb,k,none⟩=w.cell? ⟨rb,k,none⟩):=by
 obtain ⟨cs,t,h⟩:=hb
 have hf:=frozen_of_row w rb ro _ _ h
 refine ⟨by rw [Nat.add_zero];go_simp,World.cell?_setCell_same w ⟨rb,ro,none⟩ _ hc,⟨_,t,Go.heap_setCell_same _ _ ro _ _ _ h⟩,fun k hk=>World.cell?_setCell_other w ⟨rb,ro,none⟩ ⟨rb,k,none⟩ _ (fun e=>hk (by simpa using e.symm))⟩
section
variable {w:World} {rb ro g cap i:Nat} {L:List Sp}
theorem A0d (h:Aax w rb ro g cap L) {k:KpV} (hk:KpV.ok k) (hn:L.length+1≤1400000000000):∃lv qv w1 w2 w3 g' cap',
 (Instr.buildSlice 73 1 #[(0,Sp.v ⟨k,true,0,0,0,0,0⟩)]).run prog w= .ok lv w1∧Aax w1 rb ro g cap L∧Below w.heap.size w w1 ∧
 (Builtin.append_ #[73,73] 73 #[.slice (some ⟨g,0,none⟩) L.length cap,lv]).run prog w1= .ok qv w2∧Tch (fun j=>j=g) w w2 ∧
 (Instr.storeAt 73 (pZ rb (ro+0)) qv).run prog w2= .ok () w3∧Aax w3 rb ro g' cap' (L++[⟨k,true,0,0,0,0,0⟩])∧Tch (fun j=>j=g∨j=rb) w w3∧(g'=g∨w.heap.size≤g')∧(∀q,q≠ro→w3.cell? ⟨rb,q,none⟩=w.cell? ⟨rb,q,none⟩):=by
 obtain ⟨s,hs⟩:∃s:Sp,s=⟨k,true,0,0,0,0,0⟩:=⟨_,rfl⟩
 have hk':KpV.ok s.kp:=by rw [hs];exact hk
 rw [←hs]
 have e1:=A2m s hk' w
 have b1:Below w.heap.size w (w.alloc (.cells (Sp.c s).toArray 128)):=(Below.refl _ _).alloc (Nat.le_refl _) _
 have hnew:∀j u,(Sp.c s)[j]? =some u→(w.alloc (.cells (Sp.c s).toArray 128)).cell? ⟨w.heap.size,j,none⟩=some u:=fun j u hj=>Af9 w (Sp.c s) _ j u hj
 generalize w.alloc (.cells (Sp.c s).toArray 128)=w1 at *
 have h1:Aax w1 rb ro g cap L:=h.keep (b1.block _ h.lt.1) (b1.block _ h.lt.2)
 obtain ⟨ii,hi,hz,hsz,hby⟩:=info_parts A53
 have okN:OkS (L++[s]):=fun x hx=>by
  rcases List.mem_append.1 hx with q|q
  ·exact h.ok x q
  ·simp at q;subst q;exact hk'
 obtain ⟨qv,w2,e2,own2,g2,o2⟩:=Akb (P:=prog) w1 0 73 73 128 ii _ 73 136 underlying73 hi hz hsz hby A1x (by decide) _ L.length (Ab6 L) h1.own ⟨w.heap.size,0,none⟩ 1 1 (Sp.c s) (by rw [Sp.len hk']) (fun j u hj=>by rw [Addr.add_mid,Nat.zero_add];exact hnew j u hj) (Sp.one s) (by unfold maxLen;omega) (by omega) (Nat.zero_le _)
 have t2:Tch (fun j=>j=g) w w2:=Tch.trans ⟨b1.os,b1.tape,b1.output,b1.size,fun j hj _=>b1.block j hj⟩ ⟨g2.os,g2.tape,g2.output,g2.size,fun j hj hO=>g2.block j hj (fun q=>hO (by simpa [Value.ownBlock] using q))⟩
 have fl:Ab6 L++Sp.c s=Ab6 (L++[s]):=by rw [Agr];simp [Ab6]
 rw [fl] at own2
 rcases own2.2 with ⟨e,hz0⟩|⟨g',cap',cur,rfl,_,hg',r1,r2,r3,r4⟩
 ·omega
 ·have hrb:w2.heap[rb]? =w.heap[rb]? :=t2.block rb h.lt.1 (fun e=>h.ne e)
  have hc2:w2.cell? ⟨rb,ro,none⟩=some (.slice (some ⟨g,0,none⟩) L.length cap):=(World.cell?_of_block (a:=⟨rb,ro,none⟩) hrb).trans h.hd
  obtain ⟨e3,c3,k3,o3⟩:=A7c (a:=some ⟨g',0,none⟩) (n:=L.length+1) (c:=cap') hc2 (by rw [hrb];exact h.bk)
  have ts:=Ahs w2 rb ro (.slice (some ⟨g',0,none⟩) (L.length+1) cap')
  have hgg:g'=g∨w.heap.size≤g':=by
   rcases o2 with q|q
   ·simp [Value.ownBlock] at q;exact .inl q
   ·simp [Value.ownBlock] at q;exact .inr (by rw [q];exact b1.size)
  have hne:rb≠g':=fun e=>by
   rcases hgg with q|q
   ·exact h.ne (e.trans q)
   ·have:=h.lt.1;omega
  have hg3:(w2.setCell ⟨rb,ro,none⟩ (.slice (some ⟨g',0,none⟩) (L.length+1) cap')).heap[g']? =w2.heap[g']? :=ts.block g' (Array.getElem?_eq_some_iff.1 hg').1 (fun e=>hne e.symm)
  refine ⟨_,_,w1,w2,_,g',cap',e1,h1,b1,e2,t2,e3,⟨?_,⟨?_, .inr ⟨g',cap',cur,by simp,Nat.zero_le _,hg3.trans hg',by simpa using r1,r2,r3,by simpa using r4⟩⟩,okN,hne,by simpa using hn,k3⟩,(t2.mono (fun j _ q=>Or.inl q)).trans (ts.mono (fun j _ q=>Or.inr q)),hgg,fun q hq=>(o3 q hq).trans (World.cell?_of_block (a:=⟨rb,q,none⟩) hrb)⟩
  ·simpa using c3
  ·have:=own2.1;simpa using this
theorem Ahw (h:Aax w rb ro g cap L) {t:T} (hg:Ad9 L t):Calls prog 115 #[(pZ rb ro)] w fun e w'=>e= .returned (.int .i64 (t.ix:Int))∧w'=w:=by
 have HR:=Aaa hg.root
 have hp:=hg.pos
 go_enter func115,ntmps115
 go_upto_region 1 with fail
 refine A7i _ _ _ rfl rfl h hp ?_
 intro a' w1 hw ha
 subst ha
 obtain rfl:w1=w:=hw
 rw [show dn (gt L 0) true=t.ix from HR.out]
 simp only [Act.put,qsA,qsB,qsC]
 go_wp2
 go_ret
 exact ⟨rfl,rfl⟩
theorem Ai8 (h:Aax w rb ro g cap L) {t:T} (hg:Ad9 L t) (c:Bool):Calls prog 91 #[(pZ rb ro), .int .i64 (nb c:Int)] w fun e w'=>e= .returned (.int .i64 (cnt L c t:Int))∧Qt w w':=by
 have HC:=Aaa (hg.cnt.at hg.zip.z c)
 have hi:t.ix<L.length:=Ago hg.zip.rep hg.pos
 go_enter func91,ntmps91
 go_upto_region 1 with fail
 refine A7q (i:=t.ix) _ _ _ rfl rfl rfl h hi h.len ?_ ?_
 ·refine (Ahw h.drew hg).mono ?_
  rintro e w1 ⟨rfl,rfl⟩
  exact ⟨rfl,h.drew,Qt.drew w⟩
 rw [HC.out]
 intro a' w1 hw ha
 subst ha
 simp only [Act.put,qsA,qsB,qsC]
 go_wp2
 go_ret
 exact ⟨rfl,hw.2⟩
def setSh (L:List Sp) (i:Nat) (b:Bool):List Sp:=md L i (fun s=>{s with sh:=b})
theorem Acm (L:List Sp) (i:Nat) (b:Bool) (j:Nat):(gt (setSh L i b) j).kp=(gt L j).kp∧Sq.Alike L (setSh L i b) j∧(∀w,ct (gt (setSh L i b) j) w=ct (gt L j) w)∧(gt (setSh L i b) j).sh=if i=j∧i<L.length then b else (gt L j).sh:=by
 unfold setSh
 by_cases e:i=j∧i<L.length
 ·rw [if_pos e]
  have:gt (md L i (fun s=>{s with sh:=b})) j={gt L j with sh:=b}:=by rw [gt_md,if_pos e]
  rw [this]
  exact ⟨rfl,⟨by rw [this],by rw [this],by rw [this]⟩,fun w=>by cases w <;>rfl,rfl⟩
 ·rw [if_neg e]
  have:gt (md L i (fun s=>{s with sh:=b})) j=gt L j:=by rw [gt_md,if_neg e]
  rw [this]
  exact ⟨rfl,⟨by rw [this],by rw [this],by rw [this]⟩,fun w=>rfl,rfl⟩
theorem Apv {L:List Sp} {c:Ctx} {t:T} (z:Zip L c t) (i:Nat) (b:Bool):Zip (setSh L i b) c t :=
 ⟨z.rep.same (md_len _ _ _) (fun j _=>(Acm L i b j).2.1),z.repc.same (md_len _ _ _) (fun j _=>(Acm L i b j).2.1) ⟨(Acm L i b 0).2.1.l,(Acm L i b 0).2.1.r⟩,z.nd,fun w=>by rw [(Acm L i b 0).2.2.1];exact z.z w⟩
theorem Ad9.focus {t:T} (hg:Ad9 L t) (hi:i∈t.ids):∃c l r,t=plug c (.nd i l r)∧Zip L c (.nd i l r)∧CntC L c∧Cnt L (.nd i l r):=by
 obtain ⟨c,l,r,e⟩:=Sq.focus [] hi
 have e':t=plug c (.nd i l r):=e
 have z:=hg.zip
 have ct:=hg.cnt
 rw [e'] at z ct
 exact ⟨c,l,r,e',z.unplug,(Cnt.unplug ct).1,(Cnt.unplug ct).2⟩
end
section
variable {w:World} {rb ro g cap i:Nat} {L:List Sp}
theorem Ad9.right {t:T} (hg:Ad9 L t) {b:Nat} (hb:b=0∨b∈t.ids):∃(c:Ctx) (R:T),t=plug c R∧Zip L c R∧CntC L c∧Cnt L R∧upOf c=b∧sd c=true∧(gt L b).r=R.ix∧(b=0∧pre c=[]∨∃A,pre c=A++[b]):=by
 rcases hb with rfl|hb
 ·exact ⟨[],t,rfl,hg.zip,trivial,hg.cnt,rfl,rfl,hg.root, .inl ⟨rfl,rfl⟩⟩
 ·obtain ⟨c,l,r,et,z,hcc,hc⟩:=hg.focus hb
  refine ⟨(b,true,l)::c,r,by rw [et];rfl,Zip.into (s:=true) z,⟨hc.2.1,hcc⟩,hc.2.2,rfl,rfl,z.rep.2.2.2.2.1, .inr ⟨pre c++l.ids, ?_⟩⟩
  simp [pre]
def A65 (I I':List Nat) (b n:Nat):Prop:=∃A B,I=A++B∧I'=A++n::B∧(b=0∧A=[]∨∃A',A=A'++[b])
structure Av9 (w:World) (rb ro g:Nat) (g' cap':Nat) (L':List Sp) (w':World):Prop where
 at':Aax w' rb ro g' cap' L'
 tch:Tch (fun j=>j=g∨j=rb) w w'
 own:g'=g∨w.heap.size≤g'
 oth:∀q,q≠ro→w'.cell? ⟨rb,q,none⟩=w.cell? ⟨rb,q,none⟩
theorem Av9.did {w w1 w2:World} {rb ro g g' cap':Nat} {L1 L2:List Sp} (h:Av9 w rb ro g g' cap' L1 w1) (d:Did w1 rb ro g' cap' L2 w2):Av9 w rb ro g g' cap' L2 w2:=by
 refine ⟨d.at',h.tch.trans' d.tch (fun j hj q=> ?_),h.own,fun q hq=> ?_⟩
 ·rcases h.own with e|e
  ·exact .inl (q.trans e)
  ·omega
 ·exact (World.cell?_of_block (a:=⟨rb,q,none⟩) (d.tch.block rb h.at'.lt.1 h.at'.ne)).trans (h.oth q hq)
theorem Aoe {w w':World} {kb:Nat} {k:KpV} {t:TypeId} (hk:KpV.ok k) (hb:w.heap[kb]? =some (.cells (KpV.c k).toArray t (0,0))) (e:w'.heap[kb]? =w.heap[kb]?):KS kb k w' :=
 run_loadAt_mid (P:=prog) w' kb 0 78 (KpV.c k) _ (Abi (e.trans hb)) underlying78 rfl (by rw [KpV.len hk];exact szK)
theorem Axq (h:Aax w rb ro g cap L) {t:T} (hg:Ad9 L t) {b:Nat} (hb:b=0∨b∈t.ids) {k:KpV} (hk:KpV.ok k) (hn:L.length+1≤1400000000000) :
 Calls prog 49 #[(pZ rb ro), .int .i64 (b:Int),KpV.v k] w fun e w'=>e= .returned (.int .i64 (L.length:Int))∧∃g' cap' L' t',Ad9 L' t'∧A65 t.ids t'.ids b L.length∧Kept (L++[⟨k,true,0,0,0,0,0⟩]) L'∧Av9 w rb ro g g' cap' L' w':=by
 obtain ⟨c,R,et,zR,cc,cR,ub,sb,eR,hpre⟩:=hg.right hb
 have hbl:b<L.length:=by
  rcases hb with rfl|hb
  ·exact hg.pos
  ·exact (hg.lt hb).2
 obtain ⟨n,hnn⟩:∃n,L.length=n:=⟨_,rfl⟩
 have HN:=Aaa hnn
 have zl:=lft_zip zR
 have cl:=lft_cnt cc cR
 obtain ⟨s,hs⟩:∃s:Sp,s=⟨k,true,0,0,0,0,0⟩:=⟨_,rfl⟩
 have m:=put0_mid zl cl k
 have HFin:=Aaa (fun (L':List Sp) (t':T) (zt:Zip L' [] t') (ct:Cnt L' t') (it:t'.ids=(plug (lft R c) (.nd L.length .nil .nil)).ids) (kp:Kept (put0 L (upOf (lft R c)) (sd (lft R c)) k) L')=>show Ad9 L' t'∧A65 t.ids t'.ids b L.length∧Kept (L++[⟨k,true,0,0,0,0,0⟩]) L' from by
  have e1:t'.ids=pre c++L.length::(R.ids++post c):=by
   rw [it,plug_ids,lft_pre,lft_post];simp [T.ids]
  have e2:t.ids=pre c++(R.ids++post c):=by rw [et,plug_ids];simp
  have kl:L'.length=L.length+1:=by
   have:=(put0_kept L (upOf (lft R c)) (sd (lft R c)) k).len
   rw [kp.len,this];simp
  refine ⟨⟨zt,ct,fun i h0 hi=> ?_⟩,⟨pre c,R.ids++post c,e2,e1,hpre⟩,(put0_kept L _ _ k).trans kp⟩
  rw [e1]
  by_cases hil:i<L.length
  ·have:=hg.all i h0 hil
   rw [e2] at this
   rcases List.mem_append.1 this with q|q
   ·exact List.mem_append.2 (.inl q)
   ·exact List.mem_append.2 (.inr (List.mem_cons_of_mem _ q))
  ·have:i=L.length:=by omega
   rw [this];simp)
 have bx:Below w.heap.size w (w.alloc (.cells (KpV.c k).toArray 78)):=(Below.refl _ _).alloc (Nat.le_refl _) _
 have hbx:(w.alloc (.cells (KpV.c k).toArray 78)).heap[w.heap.size]? =some (.cells (KpV.c k).toArray 78 (0,0)):=heap_alloc_new _ _
 have zx:(w.alloc (.cells (KpV.c k).toArray 78)).heap.size=w.heap.size+1:=by simp
 have HWX:=Aaa (show (w.alloc (.cells (KpV.c k).toArray 78)).heap.size=w.heap.size+1 by simp)
 unfold KpV.v
 go_enter func49,ntmps49
 go_upto_region 1 with fail
 generalize w.alloc (.cells (KpV.c k).toArray 78)=wx at *
 have hx:Aax wx rb ro g cap L:=h.keep (bx.block _ h.lt.1) (bx.block _ h.lt.2)
 refine En.zqc tab rfl (En.st ((Ado hx)) (En.fi ?_))
 intro a' w1 hw ha
 subst ha
 obtain rfl:w1=wx:=hw
 rw [hnn]
 simp only [En.pM,En.pU,Act.put,qsA,qsB,qsC]
 obtain ⟨lv,qv,y1,y2,y3,g',cap',EB,h1,b1,EA,t2,ES,h3,t3,hgg,hoth⟩:=A0d hx.drew hk hn
 rw [show w1.drew.heap.size=w1.heap.size from rfl] at b1 hgg
 have hne1:w.heap.size≠g:=by have:=h.lt.2;omega
 have hne2:w.heap.size≠rb:=by have:=h.lt.1;omega
 have hlx:w.heap.size<w1.heap.size:=by omega
 go_upto_region 2 with fail
 have mv:Av9 w rb ro g g' cap' (L++[s]) y3:=by
  rw [hs]
  refine ⟨h3, ?_, ?_,fun q hq=>(hoth q hq).trans (World.cell?_of_block (a:=⟨rb,q,none⟩) (bx.block rb h.lt.1))⟩
  ·exact Tch.trans (Tch.of_below bx (fun j hj q=>by omega)) (((Qt.drew w1).tch _).trans t3)
  ·rcases hgg with q|q
   ·exact .inl q
   ·exact .inr (by omega)
 have lS:(L++[s]).length=n+1:=by rw [List.length_append,hnn];rfl
 have e3:dn (gt (L++[s]) b) true=R.ix:=by rw [gt_app L s hbl];exact eR
 have hnl:n<(L++[s]).length:=by omega
 have zS:=zR.app s
 have HM:=Aaa (fun (W:World) (dW:Did y3 rb ro g' cap' (put0 L (upOf (lft R c)) (sd (lft R c)) k) W)=>Amr dW.at' (Awf.of_mid m))
 rw [show (T.nd L.length .nil .nil).ix=L.length from rfl,hnn] at HM
 have HP0:=Aaa (show put0 L (upOf (lft R c)) (sd (lft R c)) k=hang (L++[s]) (upOf (lft R c)) (sd (lft R c)) n by rw [hs, ←hnn];rfl)
 rw [←hs] at HFin
 rw [hnn] at HFin
 clear hpre et cc cR zl cl m hn
 refine A9e (L:=L) (g:=g) (cap:=cap) (k:=k) _ _ _ rfl rfl rfl hk (Aoe hk hbx rfl) (Ado hx.drew) EB (Aoe hk hbx (b1.block _ hlx)) (Ado h1) EA (Aoe hk hbx (t2.block _ hlx hne1)) ES (Aoe hk hbx (t3.block _ hlx (fun q=>q.elim hne1 hne2))) ?_ ?_ <;>(
  intro a' w2 hw ha
  subst ha
  obtain rfl:w2=y3:=hw
  simp only [Act.put,qsA,qsB,qsC]
  go_upto_region 3 with fail
  refine En.zqc tab rfl (En.st ((Ado mv.at')) (En.st ((Ad8 (by omega) mv.at'.len _)) (En.st ((Apb _ _)) (En.st ((Akd mv.at' (by omega) true)) (En.fi ?_)))))
  rw [e3]
  intro a' w3 hw ha
  subst ha
  obtain rfl:w3=w2:=hw
  simp only [En.pM,En.pU,Act.put,qsA,qsB,qsC]
  by_cases hR:R.ix=0
  ·rw [hR]
   obtain rfl:R= .nil:=(rep_ix zR.rep).1 hR
   have HH:=Aaa (Ae0 (u:=b) (p:=n) (b:=true) mv.at' (by omega) hnl)
   have HE:=Aaa (show put0 L (upOf (lft .nil c)) (sd (lft .nil c)) k=hang (L++[s]) b true n by rw [HP0.out];show hang (L++[s]) (upOf c) (sd c) n=_;rw [ub,sb])
   clear hR e3 eR EB EA ES
   go_wp2_with (first
        |(go_at_call 72;refine HH.out.mono ?_;rintro e w4 ⟨rfl,d4⟩;rw [←HE.out] at d4;clear HH)
        |(go_at_call 74;refine (HM.out _ d4).mono ?_;rintro e w5 ⟨rfl,L5,t5,z5,c5,i5,k5,d5⟩;clear HM)
        |fail)
   go_ret
   obtain ⟨f1,f2,f3⟩:=HFin.out L5 t5 z5 c5 i5 k5
   rw [HN.out]
   refine ⟨rfl,g',cap',L5,t5,f1,f2, ?_,mv.did (d4.trans d5)⟩
   rw [←hs]
   exact f3
  ·have hRn:R≠ .nil:=fun e=>hR (by rw [e];rfl)
   have lsR:lsp R≤(L++[s]).length:=by have:=lsp_le R;have:=Am0 zS;omega
   have HFs:=Aaa (Ath mv.at' zS.rep hR lsR)
   have eU:upOf (lft R c)=fs R:=A6e R c hRn
   have eS:sd (lft R c)=false:=lft_sd R c hRn
   have hfl:fs R<(L++[s]).length:=by rw [←eU];exact (lft_zip zS).repc.up_lt
   have HH:=Aaa (fun (W:World) (q:Qt w3 W)=>Ae0 (u:=fs R) (p:=n) (b:=false) (mv.at'.qt q) hfl hnl)
   have HE:=Aaa (show put0 L (upOf (lft R c)) (sd (lft R c)) k=hang (L++[s]) (fs R) false n by rw [HP0.out,eU,eS])
   have hR':¬(R.ix:Int)=0:=by omega
   clear e3 eR EB EA ES eU eS
   go_upto_region 6 with fail
   refine En.zqc tab rfl (En.ca ((show Calls prog 73 #[(pZ rb ro), .int .i64 (R.ix:Int)] _ fun e w'=>e= .returned (.int .i64 ((fs R):Int))∧Calls prog 72 #[(pZ rb ro), .int .i64 ((fs R):Int), .int .i64 0, .int .i64 (n:Int)] w' fun e2 w2=>e2= .returned (.tuple #[])∧(fun w'=>Did w3 rb ro g' cap' (hang (L++[s]) (fs R) false n) w') w2 from ?_)) ?_)
   ·refine HFs.out.mono ?_
    rintro e wa ⟨rfl,qa⟩
    refine ⟨rfl, ?_⟩
    refine (HH.out _ qa).mono ?_
    rintro e wb ⟨rfl,db⟩
    exact ⟨rfl,Did.from qa db⟩
   rintro _ w4_ ⟨rfl,CH⟩
   refine ⟨_,rfl,En.ca (CH) ?_⟩
   rintro _ w4_ ⟨rfl,HF⟩
   refine ⟨_,rfl,En.fi ?_⟩
   intro a' w4 d40 ha
   have d4:=HF
   obtain rfl:w4=w4_:=d40
   subst ha
   rw [←HE.out] at d4
   simp only [En.pM,En.pU,Act.put,qsA,qsB,qsC]
   clear hR' hR
   go_wp2_with (first
        |(go_at_call 74;refine (HM.out _ d4).mono ?_;rintro e w5 ⟨rfl,L5,t5,z5,c5,i5,k5,d5⟩;clear HM)
        |fail)
   go_ret
   obtain ⟨f1,f2,f3⟩:=HFin.out L5 t5 z5 c5 i5 k5
   rw [HN.out]
   refine ⟨rfl,g',cap',L5,t5,f1,f2, ?_,mv.did (d4.trans d5)⟩
   rw [←hs]
   exact f3)
end
def Fit (L:List Sp):Prop:=∀i,0<i→i<L.length→(gt L i).up<L.length∧∀b,dn (gt L i) b<L.length
theorem Rep.fit {L:List Sp} (h0:0<L.length):∀{t:T} {p:Nat},Rep L p t→p<L.length→∀i∈t.ids,(gt L i).up<L.length∧∀b,dn (gt L i) b<L.length
 | .nil,_,_,_,i,hi=>by simp [T.ids] at hi
 | .nd j l r,p,h,hp,i,hi=>by
   obtain ⟨h1,h2,h3,h4,h5,h6,h7⟩:=h
   simp only [T.ids,List.mem_append,List.mem_cons] at hi
   rcases hi with hi|rfl|hi
   ·exact Rep.fit h0 h6 h2 i hi
   ·refine ⟨by rw [h3];exact hp,fun b=> ?_⟩
    cases b
    ·show (gt L i).l<_;rw [h4];exact Ago h6 h0
    ·show (gt L i).r<_;rw [h5];exact Ago h7 h0
   ·exact Rep.fit h0 h7 h2 i hi
theorem Ad9.fit {L:List Sp} {t:T} (h:Ad9 L t):Fit L:=fun i h0 hi=>Rep.fit h.pos h.zip.rep h.pos i (h.all i h0 hi)
def Apq:Array Oper:=(⟨_,rfl⟩:{o // some o=rgB Tryz.f98 5}).1
theorem A6x {rb ro i:Nat} {s:Bool} (Fin:World→Prop) (a:Act) (w:World) (Q:Exit→Act→World→Prop) (zz:a.tmps.size=43)
 (t0:a.tmps.getD 0 undef= (pZ rb ro))
 (t1:a.tmps.getD 1 undef= .int .i64 (i:Int))
 (hs:decide ((nb s:Int)=1)=s) (CS:Calls prog 127 #[(pZ rb ro), .int .i64 (i:Int)] w fun e w'=>e= .returned (.int .i64 (nb s:Int))∧Fin w')
 (h:∀a' w',Fin w'→a'=(((a.put (some 31) (pZ rb ro)).put (some 32) (.int .i64 (i:Int))).put (some 33) (.int .i64 (nb s:Int))).put (some 34) (.bool s)→Q .normal a' w') :
 (Code.region 5 Apq false).wp prog Q a w:=by
 refine z0 rfl ?_
 refine zv rfl (xmv rfl (zi t0 rfl)) ?_
 refine zv rfl (xmv rfl (zi t1 rfl)) ?_
 refine zc rfl (Aap rfl (zg zz rfl) (zg zz rfl)) (CS) (fun e x2 hx=> ?_)
 obtain ⟨rfl,HF⟩:=hx
 refine ⟨_,rfl, ?_⟩
 refine zv (v:= .bool s) rfl (Agt rfl (zg zz rfl) rfl hs) ?_
 exact ze rfl (h _ _ (HF) rfl)
def Ati:Array Oper:=(⟨_,rfl⟩:{o // some o=rgB Tryz.f128 3}).1
theorem A73 {rb ro i u x:Nat} {c:Bool} (Fin:World→Prop) (a:Act) (w:World) (Q:Exit→Act→World→Prop) (zz:a.tmps.size=52)
 (t0:a.tmps.getD 0 undef= (pZ rb ro))
 (t2:a.tmps.getD 2 undef= .int .i64 (nb c:Int))
 (t7:a.tmps.getD 7 undef= .int .i64 (i:Int))
 (CU:Calls prog 126 #[(pZ rb ro), .int .i64 (i:Int), .int .i64 0, .int .i64 (nb c:Int)] w fun e w'=>e= .returned (.int .i64 (u:Int))∧Calls prog 123 #[(pZ rb ro), .int .i64 (i:Int), .int .i64 (nb c:Int)] w' fun e2 w2=>e2= .returned (.int .i64 (x:Int))∧Fin w2)
 (h:∀a' w',Fin w'→a'=(((((((((a.put (some 14) (pZ rb ro)).put (some 15) (.int .i64 (i:Int))).put (some 16) (.int .i64 (nb c:Int))).put (some 17) (.int .i64 (u:Int))).put (some 18) (pZ rb ro)).put (some 19) (.int .i64 (i:Int))).put (some 20) (.int .i64 (nb c:Int))).put (some 21) (.int .i64 (x:Int))).put (some 8) (.int .i64 (u:Int))).put (some 9) (.int .i64 (x:Int))→Q .normal a' w') :
 (Code.region 3 Ati false).wp prog Q a w:=by
 refine z0 rfl ?_
 refine zv rfl (xmv rfl (zi t0 rfl)) ?_
 refine zv rfl (xmv rfl (zi t7 rfl)) ?_
 refine zv rfl (xmv rfl (zi t2 rfl)) ?_
 refine zc rfl (Ad5 rfl (zg zz rfl) (zg zz rfl) rfl (zg zz rfl)) (CU) (fun e x3 hx=> ?_)
 obtain ⟨rfl,CO⟩:=hx
 refine ⟨_,rfl, ?_⟩
 refine zv rfl (xmv rfl (zi t0 rfl)) ?_
 refine zv rfl (xmv rfl (zi t7 rfl)) ?_
 refine zv rfl (xmv rfl (zi t2 rfl)) ?_
 refine zc rfl (Afn rfl (zg zz rfl) (zg zz rfl) (zg zz rfl)) (CO) (fun e x7 hx=> ?_)
 obtain ⟨rfl,HF⟩:=hx
 refine ⟨_,rfl, ?_⟩
 iterate 2 refine zv rfl (xas rfl (zg zz rfl)) ?_
 exact ze rfl (h _ _ (HF) rfl)
def cq (L:List Sp) (c:Bool) (i:Nat):Bool:= !c||(gt L i).sh
theorem Ark (L:List Sp) (i:Nat) (c:Bool):own L i c=if cq L c i=true then 1 else 0:=by
 unfold own cq
 cases c <;>simp
theorem Ave (L:List Sp) (c:Bool) (t:T):cnt L c t=t.ids.countP (cq L c):=rfl
theorem Alr {L:List Sp} {p i:Nat} {l r:T} (h:Rep L p (.nd i l r)) (hl:Cnt L l) (h0:∀w,ct (gt L 0) w=0) (c:Bool):under L i false c=l.ids.countP (cq L c):=by
 unfold under
 rw [show dn (gt L i) false=l.ix from h.2.2.2.1,hl.at h0 c]
 rfl
section
variable {w:World} {rb ro g cap i n:Nat} {L:List Sp}
theorem Ao3 {t:T} {A B:List Nat} (c:Bool) (h:Aax w rb ro g cap L) (hg:Ad9 L t) (hi:t.ids=A++i::B) :
 Calls prog 98 #[(pZ rb ro), .int .i64 (i:Int), .int .i64 (nb c:Int)] w fun e w'=>e= .returned (.int .i64 (A.countP (cq L c):Int))∧Qt w w':=by
 have him:i∈t.ids:=by rw [hi];simp
 obtain ⟨hi0,hil⟩:=hg.lt him
 obtain ⟨c0,l,r,et,z,hcc,hc⟩:=hg.focus him
 have hA:A=pre c0++l.ids:=by
  have nd:=hg.nodup
  have e1:t.ids=(pre c0++l.ids)++i::(r.ids++post c0):=by rw [et,plug_ids];simp [T.ids]
  rw [hi] at e1 nd
  have key:∀(A A' B B':List Nat),(A++i::B).Nodup→A++i::B=A'++i::B'→A=A':=by
   intro A
   induction A with
   |nil =>
    intro A' B B' nd e
    cases A' with
    |nil=>rfl
    |cons a A' =>
     simp only [List.nil_append,List.cons_append,List.cons.injEq] at e
     obtain ⟨rfl,e⟩:=e
     simp only [List.nil_append,List.nodup_cons] at nd
     exact absurd (by rw [e];simp) nd.1
   |cons a A ih =>
    intro A' B B' nd e
    cases A' with
    |nil =>
     simp only [List.nil_append,List.cons_append,List.cons.injEq] at e
     obtain ⟨rfl,e⟩:=e
     simp only [List.cons_append,List.nodup_cons] at nd
     exact absurd (by simp) nd.1
    |cons a' A' =>
     simp only [List.cons_append,List.cons.injEq] at e
     simp only [List.cons_append,List.nodup_cons] at nd
     rw [e.1,ih A' B B' nd.2 e.2]
  exact key A _ B _ nd e1
 obtain ⟨N,hN⟩:∃N,L.length=N:=⟨_,rfl⟩
 have hNl:N≤1400000000000:=by rw [←hN];exact h.len
 have HAL:=Aaa (show A.countP (cq L c)≤N by
  have h1:A.countP (cq L c)≤A.length:=List.countP_le_length
  have h2:=Am0 hg.zip
  rw [hi] at h2
  simp at h2
  omega)
 obtain ⟨K,hK⟩:∃K,A.countP (cq L c)=K:=⟨_,rfl⟩
 rw [hK]
 rw [hK] at HAL
 have HU:=Aaa (Agc (b:=false) (c:=c) h hil (show dn (gt L i) false<L.length from (hg.fit i (by omega) hil).2 false))
 have eu:under L i false c=l.ids.countP (cq L c):=Alr z.rep hc.2.1 hg.zip.z c
 have hK0:l.ids.countP (cq L c)+(pre c0).countP (cq L c)=K:=by rw [←hK,hA,List.countP_append];omega
 rw [eu] at HU
 have HUP:=Aaa z.rep.2.2.1
 have HN:=Aaa hN
 clear eu hA hK hi him hN
 go_enter func98,ntmps98
 go_upto_region 1 with fail
 refine En.zqc tab rfl (En.ca (HU.out) ?_)
 rintro _ w1_ ⟨rfl,HF⟩
 refine ⟨_,rfl,En.fi ?_⟩
 intro a' w1 q10 ha
 have q1:=HF
 obtain rfl:w1=w1_:=q10
 subst ha
 have h1:=h.qt q1
 simp only [En.pM,En.pU,Act.put,List.setIfInBounds_toArray,List.set_cons_zero,List.set_cons_succ,Nat.add_zero]
 go_upto_region 2 with fail
 refine En.zqc tab rfl (En.st ((Ado h1)) (En.st ((Ad8 hil h1.len _)) (En.st ((A1t h1 hil)) (En.fi ?_))))
 rw [HUP.out]
 intro a' w2 hw ha
 subst ha
 obtain rfl:w2=w1:=hw
 simp only [En.pM,En.pU,Act.put,List.setIfInBounds_toArray,List.set_cons_zero,List.set_cons_succ,Nat.add_zero]
 have H0:=Aaa hK0
 clear hK0 HU HUP
 go_wp2
 go_loopw [1,7,8] (fun v1 v7 v8 wr=> ∃(c1:Ctx) (t1:T) (a m u:Nat),v1= .int .i64 (a:Int)∧v7= .int .i64 (m:Int)∧v8= .int .i64 (u:Int)∧a=t1.ix∧a≠0∧u=upOf c1∧Zip L c1 t1∧CntC L c1∧m+(pre c1).countP (cq L c)=K∧Qt w wr) (fun _ _ v8 _=>dep (fun a=>(gt L a).up) N (intOf v8).toNat)
 case atStart=>exact ⟨c0, .nd i l r,i,l.ids.countP (cq L c),upOf c0,rfl,rfl,rfl,rfl,hi0,rfl,z,hcc,H0.out,q1⟩
 case round =>
  clear H0 z hcc hc et h1 hil hi0
  obtain ⟨c1,t1,a,m,u,rfl,rfl,rfl,ha1,ha0,hu1,z1,cc1,hm,q⟩:=hrel
  have hx:=h.qt q
  have HM:=Aaa hm
  have hmN:m≤N:=by have:=HAL.out;omega
  cases c1 with
  |nil =>
   have hu0:u=0:=hu1
   subst hu0
   have HM2:=Aaa (show m=K by have:=HM.out;simpa [pre] using this)
   clear hm hu1 z1 cc1 ha1
   go_wp2
   go_ret
   exact ⟨by rw [←HM2.out];rfl,q⟩
  |cons f c2 =>
   obtain ⟨u',s,o⟩:=f
   obtain rfl:u=u':=hu1
   obtain ⟨r1,r2,r3,r4,r5,r6,r7⟩:=z1.repc
   have zo:=z1.out
   have hal:a<L.length:=by rw [ha1];exact Ago z1.rep zo.repc.pos
   have hau:(gt L a).up<L.length:=(hg.fit a (by omega) hal).1
   have sa:sideOf L a=s:=by have:=z1.side (by rw [←ha1];exact ha0);rw [←ha1] at this;exact this
   have HSD:=Aaa (Ahr hx hal hau)
   rw [sa] at HSD
   have hu':¬(u:Int)=0:=by omega
   have HD1:=Aaa (show dep (fun a=>(gt L a).up) N u=c2.length+1 by
        have hcl:=ctx_len z1.repc (List.nodup_append.1 z1.nd).2.1
        simp only [List.length_cons] at hcl
        obtain ⟨k,hk⟩:∃k,N=k+1:=⟨N-1,by have:=HN.out;omega⟩
        rw [hk]
        show (if u=0 then 0 else dep (fun a=>(gt L a).up) k (gt L u).up+1)=_
        rw [if_neg r1,r3,dep_ctx _ (fun a _=>rfl) c2 _ k r7 (by have:=HN.out;omega)])
   have HD2:=Aaa (show dep (fun a=>(gt L a).up) N (upOf c2)=c2.length by
        have hcl:=ctx_len z1.repc (List.nodup_append.1 z1.nd).2.1
        simp only [List.length_cons] at hcl
        exact dep_ctx _ (fun a _=>rfl) c2 _ N r7 (by have:=HN.out;omega))
   have HR3:=Aaa r3
   go_upto_region 5 with fail
   refine A6x (s:=s) (fun w'=>Qt w w') _ _ _ rfl rfl rfl (by cases s <;>rfl) ?_ ?_
   ·refine HSD.out.mono ?_
    rintro e wa ⟨rfl,qa⟩
    exact ⟨rfl,q.trans qa⟩
   intro a' w3 q3 ha
   subst ha
   have h3:=h.qt q3
   simp only [Act.put,List.setIfInBounds_toArray,List.set_cons_zero,List.set_cons_succ,Nat.add_zero]
   clear HSD sa hau hm
   cases s with
   |false =>
    have HM2:=Aaa (show m+(pre c2).countP (cq L c)=K by have:=HM.out;simpa [pre] using this)
    have Z2:=Aaa zo
    have CC2:=Aaa cc1.2
    clear zo cc1 z1 r4 r5 r6 r7 HM
    go_upto_region 4 with fail
    refine En.zqc tab rfl (En.st ((Ado h3)) (En.st ((Ad8 r2 h3.len _)) (En.st ((A1t h3 r2)) (En.fi ?_))))
    rw [HR3.out]
    intro a' w4 hw ha
    subst ha
    obtain rfl:w4=w3:=hw
    simp only [En.pM,En.pU,Act.put,List.setIfInBounds_toArray,List.set_cons_zero,List.set_cons_succ,Nat.add_zero]
    go_wp2
    refine ⟨⟨c2,mk u false t1 o,u,m,upOf c2,rfl,rfl,rfl,(mk_ix _ _ _ _).symm,r1,rfl,Z2.out,CC2.out,HM2.out,q3⟩, ?_⟩
    show dep (fun a=>(gt L a).up) N (upOf c2:Int).toNat<dep (fun a=>(gt L a).up) N (u:Int).toNat
    rw [Int.toNat_natCast,Int.toNat_natCast,HD1.out,HD2.out]
    omega
   |true =>
    have eup:upTo L u c=o.ids.countP (cq L c)+(if cq L c u=true then 1 else 0):=by
     unfold upTo
     rw [Ark]
     congr 1
     unfold under
     rw [show dn (gt L u) false=o.ix from r5,cc1.1.at hg.zip.z c]
     rfl
    have HM2:=Aaa (show (m+upTo L u c)+(pre c2).countP (cq L c)=K by
     have:=HM.out
     rw [eup]
     simp only [pre,if_true,List.countP_append,List.countP_cons,List.countP_nil] at this
     omega)
    have hb1:upTo L u c≤N:=by have:=HM2.out;have:=HAL.out;omega
    have hb2:under L u false c≤2800000000000:=by unfold upTo at hb1;omega
    have HUT:=Aaa (Aho (c:=c) h3 r2 ((hg.fit u (by omega) r2).2 false) hb2)
    have Z2:=Aaa zo
    have CC2:=Aaa cc1.2
    clear zo cc1 z1 r4 r5 r6 r7 HM eup
    obtain ⟨x,hx2⟩:∃x,upTo L u c=x:=⟨_,rfl⟩
    rw [hx2] at HM2 HUT hb1
    clear hx2 hb2
    go_upto_region 6 with fail
    refine En.zqc tab rfl (En.ca ((show Calls prog 123 #[(pZ rb ro), .int .i64 (u:Int), .int .i64 (nb c:Int)] _ fun e w'=>e= .returned (.int .i64 (x:Int))∧(fun w'=>Qt w w') w' from ?_)) ?_)
    ·refine HUT.out.mono ?_
     rintro e wa ⟨rfl,qa⟩
     exact ⟨rfl,q3.trans qa⟩
    rintro _ w4_ ⟨rfl,HF⟩
    refine ⟨_,rfl,En.ar (En.wN ((by omega))) (En.fi ?_)⟩
    intro a' w4 q40 ha
    have q4:=HF
    obtain rfl:w4=w4_:=q40
    subst ha
    have h4:=h.qt q4
    simp only [En.pM,En.pU,Act.put,List.setIfInBounds_toArray,List.set_cons_zero,List.set_cons_succ,Nat.add_zero]
    obtain ⟨mx,hmx⟩:∃mx,m+x=mx:=⟨_,rfl⟩
    rw [hmx] at HM2 ⊢
    clear hmx hb1
    go_upto_region 4 with fail
    refine En.zqc tab rfl (En.st ((Ado h4)) (En.st ((Ad8 r2 h4.len _)) (En.st ((A1t h4 r2)) (En.fi ?_))))
    rw [HR3.out]
    intro a' w5 hw ha
    subst ha
    obtain rfl:w5=w4:=hw
    simp only [En.pM,En.pU,Act.put,List.setIfInBounds_toArray,List.set_cons_zero,List.set_cons_succ,Nat.add_zero]
    go_wp2
    refine ⟨⟨c2,mk u true t1 o,u,mx,upOf c2,rfl,rfl,rfl,(mk_ix _ _ _ _).symm,r1,rfl,Z2.out,CC2.out,HM2.out,q4⟩, ?_⟩
    show dep (fun a=>(gt L a).up) N (upOf c2:Int).toNat<dep (fun a=>(gt L a).up) N (u:Int).toNat
    rw [Int.toNat_natCast,Int.toNat_natCast,HD1.out,HD2.out]
    omega
end
def nth (l:List Nat) (k:Int):Nat:=if 0≤k∧k<(l.length:Int) then l.getD k.toNat 0 else 0
theorem Ayh {A B:List Nat} {i:Nat} {x:Bool} {k:Int} (h:k<(A.length:Int)):nth (A++((if x then [i] else [])++B)) k=nth A k:=by
 obtain ⟨M,hM⟩:∃M:List Nat,M=if x then [i] else []:=⟨_,rfl⟩
 rw [←hM]
 unfold nth
 by_cases h0:0≤k
 ·rw [if_pos ⟨h0,by simp only [List.length_append];omega⟩,if_pos ⟨h0,h⟩,List.getD_eq_getElem?_getD,List.getD_eq_getElem?_getD,List.getElem?_append_left (by omega)]
 ·rw [if_neg (fun q=>h0 q.1),if_neg (fun q=>h0 q.1)]
theorem A2r {A B:List Nat} {i:Nat} {x:Bool} {k:Int} (h1:¬k<(A.length:Int)) (h2:k<((A.length+if x=true then 1 else 0:Nat):Int)):nth (A++((if x then [i] else [])++B)) k=i:=by
 cases x with
 |false=>simp at h2;omega
 |true =>
  simp only [if_true] at h2 ⊢
  have hk:k=(A.length:Int):=by omega
  subst hk
  unfold nth
  rw [if_pos ⟨by omega,by simp only [List.length_append,List.length_cons,List.length_nil];omega⟩,List.getD_eq_getElem?_getD,Int.toNat_natCast,List.getElem?_append_right (Nat.le_refl _)]
  simp
theorem Ary {A B:List Nat} {i:Nat} {x:Bool} {k:Int} (h2:¬k<((A.length+if x=true then 1 else 0:Nat):Int)):nth (A++((if x then [i] else [])++B)) k=nth B (k-((A.length+if x=true then 1 else 0:Nat):Int)):=by
 obtain ⟨M,hM⟩:∃M:List Nat,M=if x then [i] else []:=⟨_,rfl⟩
 have hl:M.length=if x=true then 1 else 0:=by rw [hM];cases x <;>rfl
 rw [←hl] at h2 ⊢
 rw [←hM]
 clear hl hM
 unfold nth
 by_cases h:k-((A.length+M.length:Nat):Int)<(B.length:Int)
 ·rw [if_pos ⟨by omega,by simp only [List.length_append];omega⟩,if_pos ⟨by omega,h⟩,List.getD_eq_getElem?_getD,List.getD_eq_getElem?_getD, ←List.append_assoc,List.getElem?_append_right (by simp only [List.length_append];omega)]
  congr 2
  simp only [List.length_append]
  omega
 ·rw [if_neg (fun q=>h (by have:=q.2;simp only [List.length_append] at this;omega)),if_neg (fun q=>h q.2)]
def vis (L:List Sp) (c:Bool) (t:T):List Nat:=t.ids.filter (cq L c)
theorem Ap1 (L:List Sp) (c:Bool) (i:Nat) (l r:T):vis L c (.nd i l r)=vis L c l++((if cq L c i then [i] else [])++vis L c r):=by
 unfold vis
 rw [T.ids,List.filter_append,List.filter_cons]
 cases cq L c i <;>simp
theorem Ap2 (L:List Sp) (c:Bool) (t:T):(vis L c t).length=cnt L c t:=by
 unfold vis
 rw [Ave,List.countP_eq_length_filter]
section
variable {w:World} {rb ro g cap i n:Nat} {L:List Sp}
theorem Aq9 {t:T} (c:Bool) (k:Int) (hk: -9223372036854775808≤k∧k≤9223372036854775807) (h:Aax w rb ro g cap L) (hg:Ad9 L t) :
 Calls prog 128 #[(pZ rb ro), .int .i64 k, .int .i64 (nb c:Int)] w fun e w'=>e= .returned (.int .i64 (nth (vis L c t) k:Int))∧Qt w w':=by
 have hl:=h.len
 have HRT:=Aaa (Ahw h hg)
 obtain ⟨res,hres⟩:∃res,nth (vis L c t) k=res:=⟨_,rfl⟩
 rw [hres]
 have HRES:=Aaa hres
 have HK:=Aaa hk
 clear hres hk
 go_enter func128,ntmps128
 go_wp2_with (first
  |(go_at_call 115;refine HRT.out.mono ?_;rintro e w1 ⟨rfl,hw⟩;obtain rfl:=hw;clear HRT)
  |fail)
 go_loopw [1,7] (fun v1 v7 wr=> ∃(t1:T) (p a:Nat) (k1:Int),v1= .int .i64 k1∧v7= .int .i64 (a:Int)∧a=t1.ix∧Rep L p t1∧Cnt L t1∧t1.ids.length≤L.length∧nth (vis L c t1) k1=res∧(-9223372036854775808≤k1∧k1≤9223372036854775807)∧Qt w1 wr) (fun _ v7 _=>(gt L (intOf v7).toNat).ca)
 case atStart=>exact ⟨t,0,t.ix,k,rfl,rfl,rfl,hg.zip.rep,hg.cnt,by have:=Am0 hg.zip;omega,HRES.out,HK.out,Qt.refl _⟩
 case round =>
  clear HRES HK
  obtain ⟨t1,p,a,k1,rfl,rfl,ha,hr,hc,hle,hn,hkb,q⟩:=hrel
  have HN:=Aaa hn
  have HKB:=Aaa hkb
  clear hn hkb
  have hx:=h.qt q
  cases t1 with
  |nil =>
   obtain rfl:a=0:=ha
   have HZ:=Aaa (show res=0 by rw [←HN.out];simp [nth,vis,T.ids])
   clear HN hr hc hle
   go_wp2
   go_ret
   exact ⟨by rw [HZ.out];rfl,q⟩
  |nd j l r =>
   obtain rfl:a=j:=ha
   obtain ⟨r1,r2,r3,r4,r5,r6,r7⟩:=hr
   have ha0:¬(a:Int)=0:=by omega
   have hdl:dn (gt L a) false=l.ix:=r4
   have hdr:dn (gt L a) true=r.ix:=r5
   have lids:l.ids.length+r.ids.length+1≤L.length:=by simp [T.ids] at hle;omega
   have eu:under L a false c=(vis L c l).length:=by rw [Ap2,Ave];exact Alr ⟨r1,r2,r3,r4,r5,r6,r7⟩ hc.2.1 hg.zip.z c
   have vle:(vis L c l).length≤l.ids.length:=List.length_filter_le _ _
   have HU:=Aaa (Agc (b:=false) (c:=c) hx r2 (show dn (gt L a) false<L.length by rw [hdl];exact Ago r6 hg.pos))
   have HT:=Aaa (fun (W:World) (qW:Qt w1 W)=>Aho (c:=c) (h.qt qW) r2 (show (gt L a).l<L.length by rw [r4];exact Ago r6 hg.pos) (by rw [eu];omega))
   have et:upTo L a c=(vis L c l).length+if cq L c a=true then 1 else 0:=by unfold upTo;rw [eu,Ark]
   rw [eu] at HU
   rw [et] at HT
   have HV:=Aaa (Ap1 L c a l r)
   have HCA:=Aaa (show (gt L a).ca=(T.nd a l r).ids.length by
        have:=hc.1 false
        simp only [ct,Bool.false_eq_true,if_false] at this
        rw [this]
        simp [cnt])
   have hcl:(gt L l.ix).ca=l.ids.length:=by
        have:=hc.2.1.at hg.zip.z false
        simp only [ct,Bool.false_eq_true,if_false] at this
        rw [this]
        simp [cnt]
   have hcr:(gt L r.ix).ca=r.ids.length:=by
        have:=hc.2.2.at hg.zip.z false
        simp only [ct,Bool.false_eq_true,if_false] at this
        rw [this]
        simp [cnt]
   have HCL:=Aaa hcl
   have HCR:=Aaa hcr
   obtain ⟨x,hx1⟩:∃x,(vis L c l).length+(if cq L c a=true then 1 else 0)=x:=⟨_,rfl⟩
   have hxb:x≤1400000000001:=by rw [←hx1];split <;>omega
   rw [hx1] at HT
   have HX:=Aaa hx1
   obtain ⟨u,hu1⟩:∃u,(vis L c l).length=u:=⟨_,rfl⟩
   rw [hu1] at HU
   have HUU:=Aaa hu1
   clear et eu hx1 hu1 hcl hcr vle
   go_upto_region 3 with fail
   refine A73 (c:=c) (u:=u) (x:=x) (fun w'=>Qt w1 w') _ _ _ rfl rfl rfl rfl ?_ ?_
   ·refine HU.out.mono ?_
    rintro e wa ⟨rfl,qa⟩
    refine ⟨rfl, ?_⟩
    refine (HT.out _ (q.trans qa)).mono ?_
    rintro e wb ⟨rfl,qb⟩
    exact ⟨rfl,(q.trans qa).trans qb⟩
   intro a' w2 q2 ha
   subst ha
   have h2:=h.qt q2
   simp only [Act.put,List.setIfInBounds_toArray,List.set_cons_zero,List.set_cons_succ,Nat.add_zero]
   clear HU HT
   go_upto_region 6 with fail
   refine En.zqc tab rfl (En.cm (c':=(decide (k1<(u:Int)))) (rfl) (En.fi ?_))
   intro a' w3 hw ha
   subst ha
   obtain rfl:w3=w2:=hw
   simp only [En.pM,En.pU,Act.put,List.setIfInBounds_toArray,List.set_cons_zero,List.set_cons_succ,Nat.add_zero]
   by_cases hku:k1<(u:Int)
   ·rw [show decide (k1<(u:Int))=true from decide_eq_true hku]
    have HN2:=Aaa (show nth (vis L c l) k1=res by rw [←HN.out,HV.out,Ayh (by rw [HUU.out];exact hku)])
    clear hku
    go_upto_region 7 with fail
    refine En.zqc tab rfl (En.st ((Ado h2)) (En.st ((Ad8 r2 h2.len _)) (En.st ((Apc _ _)) (En.st ((Akd h2 r2 false)) (En.fi ?_)))))
    rw [hdl]
    intro a' w4 hw ha
    subst ha
    obtain rfl:w4=w3:=hw
    simp only [En.pM,En.pU,Act.put,List.setIfInBounds_toArray,List.set_cons_zero,List.set_cons_succ,Nat.add_zero]
    clear hdl hdr
    go_wp2
    refine ⟨⟨l,a,l.ix,k1,rfl,rfl,rfl,r6,hc.2.1,by omega,HN2.out,HKB.out,q2⟩, ?_⟩
    show (gt L (l.ix:Int).toNat).ca<(gt L (a:Int).toNat).ca
    rw [Int.toNat_natCast,Int.toNat_natCast,HCL.out,HCA.out]
    simp only [T.ids,List.length_append,List.length_cons]
    omega
   ·rw [show decide (k1<(u:Int))=false from decide_eq_false hku]
    go_upto_region 8 with fail
    refine En.zqc tab rfl (En.cm (c':=(decide (k1<(x:Int)))) (rfl) (En.fi ?_))
    intro a' w4 hw ha
    subst ha
    obtain rfl:w4=w3:=hw
    simp only [En.pM,En.pU,Act.put,List.setIfInBounds_toArray,List.set_cons_zero,List.set_cons_succ,Nat.add_zero]
    by_cases hkx:k1<(x:Int)
    ·rw [show decide (k1<(x:Int))=true from decide_eq_true hkx]
     have HN2:=Aaa (show res=a by rw [←HN.out,HV.out,A2r (by rw [HUU.out];exact hku) (by rw [HX.out];exact hkx)])
     clear hku hkx
     go_wp2
     go_ret
     exact ⟨by rw [HN2.out];rfl,q2⟩
    ·rw [show decide (k1<(x:Int))=false from decide_eq_false hkx]
     have HN2:=Aaa (show nth (vis L c r) (k1-(x:Int))=res by
        rw [←HN.out,HV.out,Ary (by rw [HX.out];exact hkx),HX.out])
     have hkb:=HKB.out
     have HK2:=Aaa (show -9223372036854775808≤k1-(x:Int)∧k1-(x:Int)≤9223372036854775807 by omega)
     clear hku hkx hkb
     go_upto_region 4 with fail
     refine En.zqc tab rfl (En.ar (En.wI (HK2.out)) (En.fi ?_))
     intro a' w5 hw ha
     subst ha
     obtain rfl:w5=w4:=hw
     simp only [En.pM,En.pU,Act.put,List.setIfInBounds_toArray,List.set_cons_zero,List.set_cons_succ,Nat.add_zero]
     obtain ⟨k2,hk2⟩:∃k2,k1-(x:Int)=k2:=⟨_,rfl⟩
     rw [hk2] at HN2 HK2 ⊢
     clear hk2
     go_upto_region 5 with fail
     refine En.zqc tab rfl (En.st ((Ado h2)) (En.st ((Ad8 r2 h2.len _)) (En.st ((Apb _ _)) (En.st ((Akd h2 r2 true)) (En.fi ?_)))))
     rw [hdr]
     intro a' w6 hw ha
     subst ha
     obtain rfl:w6=w5:=hw
     simp only [En.pM,En.pU,Act.put,List.setIfInBounds_toArray,List.set_cons_zero,List.set_cons_succ,Nat.add_zero]
     clear hdl hdr
     go_wp2
     refine ⟨⟨r,a,r.ix,k2,rfl,rfl,rfl,r7,hc.2.2,by omega,HN2.out,HK2.out,q2⟩, ?_⟩
     show (gt L (r.ix:Int).toNat).ca<(gt L (a:Int).toNat).ca
     rw [Int.toNat_natCast,Int.toNat_natCast,HCR.out,HCA.out]
     simp only [T.ids,List.length_append,List.length_cons]
     omega
end
structure Elt where
 id:IdK
 bh:IdK
 sh:Bool
def Ach (L:List Sp) (i:Nat):Elt:=⟨(gt L i).kp.id,(gt L i).kp.bh,(gt L i).sh⟩
def Apl (L:List Sp) (t:T):List Elt:=t.ids.map (Ach L)
def Abg (E:List Elt) (k:IdK):Bool:=E.any (fun e=>decide (e.id=k))
theorem Aao {E:List Elt} {k:IdK}:Abg E k=true↔ ∃e∈E,e.id=k:=by simp [Abg]
def Am3 (E:List Elt) (k:IdK):Nat:=E.countP (fun e=>decide (e.bh=k))
structure Abf (E:List Elt):Prop where
 nd:(E.map (·.id)).Nodup
 ok:∀e∈E,e.id.ok∧e.bh.ok∧1≤e.id.n
 bh:∀e∈E,e.bh=zId∨Abg E e.bh=true
def Ash:List Elt→IdK→Elt→List Elt
 |[],_,x=>[x]
 |e::E,b,x=>if e.id=b then e::x::E else e::Ash E b x
def Ahc (E:List Elt) (b:IdK) (x:Elt):List Elt:=if b=zId then x::E else Ash E b x
theorem Amy {A B:List Elt} {e x:Elt} (h:∀y∈A,y.id≠e.id):Ash (A++e::B) e.id x=A++e::x::B:=by
 induction A with
 |nil=>simp [Ash]
 |cons a A ih =>
  rw [List.cons_append,Ash,if_neg (h a (by simp)),ih (fun y hy=>h y (by simp [hy]))]
  rfl
theorem Asg (E:List Elt) (b:IdK) (x:Elt):(Ash E b x).Perm (x::E):=by
 induction E with
 |nil=>exact List.Perm.refl _
 |cons e E ih =>
  unfold Ash
  split
  ·exact List.Perm.swap _ _ _
  ·exact (List.Perm.cons e ih).trans (List.Perm.swap _ _ _)
theorem Agh (E:List Elt) (b:IdK) (x:Elt):(Ahc E b x).Perm (x::E):=by
 unfold Ahc
 split
 ·exact List.Perm.refl _
 ·exact Asg E b x
def Abb (E:List Elt) (k:IdK) (b:Bool):List Elt:=E.map (fun e=>if e.id=k then {e with sh:=b} else e)
theorem As1 {E F:List Elt} (h:E.Perm F) (k:IdK):Am3 E k=Am3 F k:=h.countP_eq _
theorem Ajr {E F:List Elt} (h:E.Perm F) (k:IdK):Abg E k=Abg F k:=by
 rw [Bool.eq_iff_iff,Aao,Aao]
 exact ⟨fun ⟨e,he,q⟩=>⟨e,h.mem_iff.1 he,q⟩,fun ⟨e,he,q⟩=>⟨e,h.mem_iff.2 he,q⟩⟩
theorem Abf.perm {E F:List Elt} (h:Abf E) (p:E.Perm F):Abf F :=
 ⟨(p.map _).nodup_iff.1 h.nd,fun e he=>h.ok e (p.mem_iff.2 he),fun e he=>(h.bh e (p.mem_iff.2 he)).imp id (fun q=>by rw [←Ajr p];exact q)⟩
theorem Abf.cons {E:List Elt} (h:Abf E) {x:Elt} (hx:x.id.ok∧x.bh.ok∧1≤x.id.n) (hn:Abg E x.id=false) (hb:x.bh=zId∨Abg E x.bh=true):Abf (x::E):=by
 have hni:∀e∈E,e.id≠x.id:=fun e he q=>by
  have:Abg E x.id=true:=Aao.2 ⟨e,he,q⟩
  rw [hn] at this;cases this
 refine ⟨?_, ?_, ?_⟩
 ·rw [List.map_cons,List.nodup_cons]
  exact ⟨fun q=>by obtain ⟨e,he,q⟩:=List.mem_map.1 q;exact hni e he q,h.nd⟩
 ·intro e he
  rcases List.mem_cons.1 he with rfl|he
  ·exact hx
  ·exact h.ok e he
 ·intro e he
  have up:∀k,Abg E k=true→Abg (x::E) k=true:=fun k q=>by
   obtain ⟨e,he,q⟩:=Aao.1 q
   exact Aao.2 ⟨e,by simp [he],q⟩
  rcases List.mem_cons.1 he with rfl|he
  ·exact hb.imp id (up _)
  ·exact (h.bh e he).imp id (up _)
theorem Abf.put {E:List Elt} (h:Abf E) {x:Elt} (hx:x.id.ok∧x.bh.ok∧1≤x.id.n) (hn:Abg E x.id=false) (hb:x.bh=zId∨Abg E x.bh=true):Abf (Ahc E x.bh x) :=
 (h.cons hx hn hb).perm (Agh E x.bh x).symm
theorem Aqk (E:List Elt) (k:IdK) (b:Bool):(Abb E k b).map (·.id)=E.map (·.id):=by
 unfold Abb
 rw [List.map_map]
 refine List.map_congr_left fun e _=> ?_
 simp only [Function.comp]
 split <;>rfl
theorem Ai3 (E:List Elt) (k:IdK) (b:Bool) (x:IdK):Abg (Abb E k b) x=Abg E x:=by
 rw [Bool.eq_iff_iff,Aao,Aao]
 unfold Abb
 constructor
 ·rintro ⟨e,he,q⟩
  obtain ⟨f,hf,rfl⟩:=List.mem_map.1 he
  refine ⟨f,hf, ?_⟩
  revert q
  split <;>exact id
 ·rintro ⟨e,he,q⟩
  refine ⟨_,List.mem_map.2 ⟨e,he,rfl⟩, ?_⟩
  split <;>exact q
theorem Abf.show {E:List Elt} (h:Abf E) (k:IdK) (b:Bool):Abf (Abb E k b):=by
 refine ⟨by rw [Aqk];exact h.nd,fun e he=> ?_,fun e he=> ?_⟩
 ·obtain ⟨f,hf,rfl⟩:=List.mem_map.1 he
  have:=h.ok f hf
  split <;>exact this
 ·obtain ⟨f,hf,rfl⟩:=List.mem_map.1 he
  rw [Ai3]
  have:=h.bh f hf
  split <;>exact this
theorem As0 (E:List Elt) (k:IdK) (b:Bool) (x:IdK):Am3 (Abb E k b) x=Am3 E x:=by
 unfold Am3 Abb
 rw [List.countP_map]
 refine List.countP_congr fun e _=> ?_
 simp only [Function.comp]
 split <;>exact Iff.rfl
structure Sx where
 sb:Nat
 mb:Nat
 g:Nat
 cap:Nat
 L:List Sp
 t:T
 N:List (IdK × Nat)
def Sx.bl (s:Sx):List Nat:=[s.sb,s.mb,s.g]
def A3y (N:List (IdK × Nat)):List (IdK × Value):=M.onV (fun n:Nat=>Value.int .i64 (n:Int)) N
structure Lk (s:Sx) (E:List Elt):Prop where
 good:Ad9 s.L s.t
 e:E=Apl s.L s.t
 ok:Abf E
 map:∀k n,M.look s.N k=some n↔(n∈s.t.ids∧(gt s.L n).kp.id=k)
 zid:(gt s.L 0).kp.id=zId
 fol:∀n,n=0∨n∈s.t.ids→(gt s.L n).kp.fol=(Am3 E (gt s.L n).kp.id:Int)
structure Aak (w:World) (s:Sx) (E:List Elt):Prop where
 c0:w.cell? ⟨s.sb,0,none⟩=some (.map (some s.mb))
 row:Aax w s.sb 1 s.g s.cap s.L
 map:M.MapAt w s.mb IdK.v IdK.ok (A3y s.N)
 nm:s.sb≠s.mb∧s.g≠s.mb
 lk:Lk s E
theorem Aak.lt {w:World} {s:Sx} {E:List Elt} (h:Aak w s E):∀j∈s.bl,j<w.heap.size:=by
 intro j hj
 simp only [Sx.bl,List.mem_cons,List.not_mem_nil,or_false] at hj
 rcases hj with rfl|rfl|rfl
 ·exact h.row.lt.1
 ·exact h.map.lt
 ·exact h.row.lt.2
theorem Aak.keep {w w':World} {s:Sx} {E:List Elt} (h:Aak w s E) (hk:∀j∈s.bl,w'.heap[j]? =w.heap[j]?):Aak w' s E :=
 ⟨(World.cell?_of_block (a:=⟨s.sb,0,none⟩) (hk s.sb (by simp [Sx.bl]))).trans h.c0,h.row.keep (hk s.sb (by simp [Sx.bl])) (hk s.g (by simp [Sx.bl])),h.map.below (hk s.mb (by simp [Sx.bl])),h.nm,h.lk⟩
theorem Aak.below {w w':World} {s:Sx} {E:List Elt} (h:Aak w s E) (b:Below w.heap.size w w'):Aak w' s E:=h.keep (fun j hj=>b.block j (h.lt j hj))
theorem Aak.drew {w:World} {s:Sx} {E:List Elt} (h:Aak w s E):Aak w.drew s E:=h.keep (fun _ _=>rfl)
theorem Aak.qt {w w':World} {s:Sx} {E:List Elt} (h:Aak w s E) (q:Qt w w'):Aak w' s E:=h.keep (fun j _=>by rw [q.heap])
theorem Asa (N:List (IdK × Nat)) (k:IdK):M.look (A3y N) k=(M.look N k).map (fun n:Nat=>Value.int .i64 (n:Int)):=M.look_on _ _ _
theorem Lk.has {s:Sx} {E:List Elt} (h:Lk s E) (k:IdK):Abg E k=(M.look s.N k).isSome:=by
 rw [Bool.eq_iff_iff,Aao]
 constructor
 ·rintro ⟨e,he,q⟩
  rw [h.e,Apl] at he
  obtain ⟨n,hn,rfl⟩:=List.mem_map.1 he
  rw [(h.map k n).2 ⟨hn,q⟩]
  rfl
 ·intro q
  obtain ⟨n,hn⟩:=Option.isSome_iff_exists.1 q
  obtain ⟨h1,h2⟩:=(h.map k n).1 hn
  exact ⟨Ach s.L n,by rw [h.e,Apl];exact List.mem_map.2 ⟨n,h1,rfl⟩,h2⟩
def Aaq (s:Sx) (k:IdK):Nat:=(M.look s.N k).getD 0
theorem Lk.spot {s:Sx} {E:List Elt} (h:Lk s E) {k:IdK} (hk:Abg E k=true):Aaq s k∈s.t.ids∧(gt s.L (Aaq s k)).kp.id=k:=by
 rw [h.has] at hk
 obtain ⟨n,hn⟩:=Option.isSome_iff_exists.1 hk
 unfold Aaq
 rw [hn]
 exact (h.map k n).1 hn
theorem Lk.spot0 {s:Sx} {E:List Elt} (h:Lk s E) {k:IdK} (hk:Abg E k=false):Aaq s k=0:=by
 rw [h.has] at hk
 unfold Aaq
 cases q:M.look s.N k with
 |none=>rfl
 |some n=>rw [q] at hk;cases hk
theorem Lk.zero {s:Sx} {E:List Elt} (h:Lk s E):Abg E zId=false:=by
 cases q:Abg E zId with
 |false=>rfl
 |true =>
  obtain ⟨e,he,q⟩:=Aao.1 q
  have:=(h.ok.ok e he).2.2
  rw [q] at this
  simp [zId] at this
theorem Lk.spot_has {s:Sx} {E:List Elt} (h:Lk s E) (k:IdK):(decide ((Aaq s k:Int)≠0))=Abg E k:=by
 cases q:Abg E k with
 |false=>rw [h.spot0 q];rfl
 |true =>
  have:=(h.good.lt (h.spot q).1).1
  simp;omega
theorem Aey {w:World} {s:Sx} {E:List Elt} (h:Aak w s E) (k:IdK) (hk:k.ok):(Instr.lookup 72 (.map (some s.mb)) k.v false).run prog w= .ok (.int .i64 (Aaq s k:Int)) w:=by
 have hz:(zeroValue 3).run prog w= .ok (.int .i64 0) w:=by kernel_rfl
 rw [M.run_look Asq underlying72 h.map k hk hz false,Asa,if_neg (by decide)]
 unfold Aaq
 cases M.look s.N k <;>rfl
section
variable {w:World} {rb ro g cap i:Nat} {L:List Sp}
theorem Sp.get_id {s:Sp} {j:Nat} {v:Value} (h:(s.kp.id.c)[j]? =some v):(Sp.c s)[j]? =some v:=by
 have hl:=(List.getElem?_eq_some_iff.1 h).1
 rw [Sp.c,List.getElem?_append_left (by simp [KpV.c];omega),KpV.c,List.getElem?_append_left hl]
 exact h
theorem Sp.get_fol {s:Sp} (ok:KpV.ok s.kp):(Sp.c s)[66]? =some (.int .i64 s.kp.fol):=by
 have l1:=IdK.len ok.id
 have l2:=IdK.len ok.bh
 rw [Sp.c,List.getElem?_append_left (by simp [KpV.c,l1,l2]),KpV.c,List.getElem?_append_right (by omega),l1,List.getElem?_append_right (by omega),l2]
 rfl
theorem Bah (h:Aax w rb ro g cap L) (hi:i<L.length):(Instr.loadAt 36 (pZ g (73*i+0+0))).run prog w= .ok (gt L i).kp.id.v w :=
 run_loadAt_mid (P:=prog) w g (73*i) 36 (gt L i).kp.id.c _ (fun j v hv=>h.range hi j v (Sp.get_id hv)) underlying36 rfl (by rw [IdK.len (h.ok.gt hi).id];exact Alv)
theorem A8l (h:Aax w rb ro g cap L) (hi:i<L.length):(Instr.loadAt 3 (pZ g (73*i+0+66))).run prog w= .ok (.int .i64 (gt L i).kp.fol) w:=by
 have:=h.range hi 66 _ (Sp.get_fol (h.ok.gt hi))
 rw [Nat.add_zero]
 go_simp
def setFol (L:List Sp) (i:Nat) (v:Int):List Sp:=md L i (fun s=>{s with kp:={s.kp with fol:=v}})
theorem A4k (h:Aax w rb ro g cap L) (hi:i<L.length) (v:Int):∃w',(Instr.storeAt 3 (pZ g (73*i+0+66)) (.int .i64 v)).run prog w= .ok () w'∧Did w rb ro g cap (setFol L i v) w':=by
 have ok:=h.ok.gt hi
 have l1:=IdK.len ok.id
 have l2:=IdK.len ok.bh
 obtain ⟨w',e,a,t,z⟩:=h.seg (k:=66) (n:=1) (t:=3) (v:= .int .i64 v) hi (fun s=>{s with kp:={s.kp with fol:=v}}) [.int .i64 v] rfl (by
  have e1:(Sp.c (gt L i)).take 66=(gt L i).kp.id.c++(gt L i).kp.bh.c:=by
   rw [Sp.c,KpV.c, ←List.append_assoc,List.append_assoc,List.take_append_of_le_length (by simp [l1,l2]),List.take_of_length_le (by simp [l1,l2])]
  have e2:(Sp.c (gt L i)).drop (66+1)=Sp.t (gt L i):=by
   rw [Sp.c,List.drop_append,KpV.len ok,List.drop_of_length_le (by rw [KpV.len ok];omega)]
   simp
  rw [e1,e2]
  simp [Sp.c,KpV.c,Sp.t]) (by omega) ⟨ok.id,ok.bh⟩ (by simp [Value.oneCell']) (by kernel_rfl) rfl
 exact ⟨w',e,a,t,z⟩
end
theorem Aed (L:List Sp) (i:Nat) (v:Int):(setFol L i v).length=L.length:=md_len _ _ _
theorem Ace (L:List Sp) (i:Nat) (v:Int) (j:Nat):(gt (setFol L i v) j).kp.id=(gt L j).kp.id∧(gt (setFol L i v) j).kp.bh=(gt L j).kp.bh∧Sq.Alike L (setFol L i v) j∧(∀w,ct (gt (setFol L i v) j) w=ct (gt L j) w)∧(gt (setFol L i v) j).sh=(gt L j).sh∧(gt (setFol L i v) j).kp.fol=if i=j∧i<L.length then v else (gt L j).kp.fol:=by
 unfold setFol
 by_cases e:i=j∧i<L.length
 ·rw [if_pos e]
  have:gt (md L i (fun s=>{s with kp:={s.kp with fol:=v}})) j={gt L j with kp:={(gt L j).kp with fol:=v}}:=by rw [gt_md,if_pos e]
  rw [this]
  exact ⟨rfl,rfl,⟨by rw [this],by rw [this],by rw [this]⟩,fun w=>by cases w <;>rfl,rfl,rfl⟩
 ·rw [if_neg e]
  have:gt (md L i (fun s=>{s with kp:={s.kp with fol:=v}})) j=gt L j:=by rw [gt_md,if_neg e]
  rw [this]
  exact ⟨rfl,rfl,⟨by rw [this],by rw [this],by rw [this]⟩,fun w=>rfl,rfl,rfl⟩
theorem Ad9.setFol {L:List Sp} {t:T} (h:Ad9 L t) (i:Nat) (v:Int):Ad9 (setFol L i v) t :=
 ⟨⟨h.zip.rep.same (md_len _ _ _) (fun j _=>(Ace L i v j).2.2.1),h.zip.repc.same (md_len _ _ _) (fun j _=>(Ace L i v j).2.2.1) ⟨(Ace L i v 0).2.2.1.l,(Ace L i v 0).2.2.1.r⟩,h.zip.nd,fun w=>by rw [(Ace L i v 0).2.2.2.1];exact h.zip.z w⟩,
   h.cnt.same (fun j _=>⟨(Ace L i v j).2.2.2.2.1,(Ace L i v j).2.2.2.1⟩),fun j h0 hj=>h.all j h0 (by rw [Aed] at hj;exact hj)⟩
theorem Ah9 (b o:Nat) (W:World):(Instr.fieldAt 80 (pZ b o) 0).run prog W= .ok (pZ b (o+0)) W:=by go_simp
theorem Ah8 (b o:Nat) (W:World):(Instr.fieldAt 80 (pZ b o) 1).run prog W= .ok (pZ b (o+1)) W:=by go_simp
theorem Atn (b o:Nat) (W:World):(Instr.fieldAt 78 (pZ b o) 0).run prog W= .ok (pZ b (o+0)) W:=by go_simp
theorem Atm (b o:Nat) (W:World):(Instr.fieldAt 78 (pZ b o) 2).run prog W= .ok (pZ b (o+66)) W:=by go_simp
theorem Amt {w:World} {sb mb:Nat} (h:w.cell? ⟨sb,0,none⟩=some (.map (some mb))):(Instr.loadAt 72 (pZ sb 0)).run prog w= .ok (.map (some mb)) w:=by go_simp
theorem Awc {w:World} {b:Nat} {k:IdK} (hk:k.ok) (h:Aaz w b k):(Instr.loadAt 3 (pZ b 32)).run prog w= .ok (.int .i64 k.n) w:=by
 have:w.cell? ⟨b,32,none⟩=some (.int .i64 k.n):=by
  have:=Abi h 32 (.int .i64 k.n) (by
   rw [IdK.c,List.getElem?_append_right (by rw [Acz,hk.l];omega),Acz,hk.l]
   rfl)
  rwa [Nat.zero_add] at this
 go_simp
theorem Abh (w:World):(Instr.build 36 #[]).run prog w= .ok zId.v w:=by kernel_rfl
theorem Aeg (x y:Operand) (a b:IdK) (w:World) (op:BinOp):(eqGuard op 36 x y a.v b.v).run prog w= .ok () w:=by
 have h:prog.eqGuardType prog.depth 36=false:=by kernel_rfl
 have hp:∀w:World,(program).run prog w= .ok prog w:=fun w=>rfl
 unfold eqGuard IdK.v
 cases op <;>simp [h,hp,Result.andThen]
theorem At4 (a b:IdK) (ha:a.ok) (hb:b.ok) (w:World):(binOp .eql 36 a.v b.v).run prog w= .ok (.bool (decide (a=b))) w:=by
 have h:(Op.equalIn Op.maxDepth 36 a.v b.v).run prog w= .ok (decide (a=b)) w:=A8a 9997 a b ha hb w
 unfold IdK.v at h ⊢
 simp [binOp,Op.equal,h,Result.andThen]
theorem Ar0 (a b:IdK) (ha:a.ok) (hb:b.ok) (w:World):(binOp .neq 36 a.v b.v).run prog w= .ok (.bool (!decide (a=b))) w:=by
 have h:(Op.equalIn Op.maxDepth 36 a.v b.v).run prog w= .ok (decide (a=b)) w:=A8a 9997 a b ha hb w
 unfold IdK.v at h ⊢
 simp [binOp,Op.equal,h,Result.andThen]
section
variable {w:World} {a:Act} {o:Oper} {x y:Operand} {p q:IdK} {r:Bool}
theorem Atr (ho:o.op= .binOp .neq 36 x y 36) (hx:a.eval x=p.v) (hy:a.eval y=q.v) (hp:p.ok) (hq:q.ok) (h:(!decide (p=q))=r):(execOp a.eval o).run prog w= .ok (.value (.bool r)) w :=
 Aca ho hx hy (Aeg _ _ _ _ _ _) (by rw [Ar0 p q hp hq,h])
theorem A3u (ho:o.op= .binOp .eql 36 x y 36) (hx:a.eval x=p.v) (hy:a.eval y=q.v) (hp:p.ok) (hq:q.ok) (h:decide (p=q)=r):(execOp a.eval o).run prog w= .ok (.value (.bool r)) w :=
 Aca ho hx hy (Aeg _ _ _ _ _ _) (by rw [At4 p q hp hq,h])
theorem Av0 (w:World) (a0 a1 a2 a3 a4 a5 a6 a7 a8 a9 a10 a11 a12 a13 a14 a15 a16 a17 a18 a19 a20 a21 a22 a23 a24 a25 a26 a27 a28 a29 a30 a31 a32 b0 b1 b2 b3 b4 b5 b6 b7 b8 b9 b10 b11 b12 b13 b14 b15 b16 b17 b18 b19 b20 b21 b22 b23 b24 b25 b26 b27 b28 b29 b30 b31 b32:Value):(Instr.build 78 #[(0, .agg [a0,a1,a2,a3,a4,a5,a6,a7,a8,a9,a10,a11,a12,a13,a14,a15,a16,a17,a18,a19,a20,a21,a22,a23,a24,a25,a26,a27,a28,a29,a30,a31,a32].toArray),(1, .agg [b0,b1,b2,b3,b4,b5,b6,b7,b8,b9,b10,b11,b12,b13,b14,b15,b16,b17,b18,b19,b20,b21,b22,b23,b24,b25,b26,b27,b28,b29,b30,b31,b32].toArray)]).run prog w= .ok (.agg ([a0,a1,a2,a3,a4,a5,a6,a7,a8,a9,a10,a11,a12,a13,a14,a15,a16,a17,a18,a19,a20,a21,a22,a23,a24,a25,a26,a27,a28,a29,a30,a31,a32]++([b0,b1,b2,b3,b4,b5,b6,b7,b8,b9,b10,b11,b12,b13,b14,b15,b16,b17,b18,b19,b20,b21,b22,b23,b24,b25,b26,b27,b28,b29,b30,b31,b32]++[Value.int .i64 0])).toArray) w:=by kernel_rfl
theorem A0b (w:World) (hp:p.ok) (hq:q.ok):(Instr.build 78 #[(0,p.v),(1,q.v)]).run prog w= .ok (KpV.v ⟨p,q,0⟩) w:=by
 have h:=IdK.len hp
 have h2:=IdK.len hq
 unfold KpV.v KpV.c IdK.v
 simp only
 generalize p.c=l at *
 generalize q.c=m at *
 match l,h,m,h2 with
 |a0::a1::a2::a3::a4::a5::a6::a7::a8::a9::a10::a11::a12::a13::a14::a15::a16::a17::a18::a19::a20::a21::a22::a23::a24::a25::a26::a27::a28::a29::a30::a31::a32::[],_,b0::b1::b2::b3::b4::b5::b6::b7::b8::b9::b10::b11::b12::b13::b14::b15::b16::b17::b18::b19::b20::b21::b22::b23::b24::b25::b26::b27::b28::b29::b30::b31::b32::[],_=>exact Av0 w a0 a1 a2 a3 a4 a5 a6 a7 a8 a9 a10 a11 a12 a13 a14 a15 a16 a17 a18 a19 a20 a21 a22 a23 a24 a25 a26 a27 a28 a29 a30 a31 a32 b0 b1 b2 b3 b4 b5 b6 b7 b8 b9 b10 b11 b12 b13 b14 b15 b16 b17 b18 b19 b20 b21 b22 b23 b24 b25 b26 b27 b28 b29 b30 b31 b32
theorem A74 (ho:o.op= .build 78 #[(0,x),(1,y)]) (hx:a.eval x=p.v) (hy:a.eval y=q.v) (hp:p.ok) (hq:q.ok):(execOp a.eval o).run prog w= .ok (.value (KpV.v ⟨p,q,0⟩)) w :=
 Afo ho (by simp [hx,hy]) (A0b w hp hq)
end
end
section
open Go.RowKit
theorem boz {P:Program} {op:BinOp} {t:TypeId} {x y:Operand} {xv yv v:Value} {w:World} (hg:(eqGuard op t x y xv yv).run P w= .ok () w) (hl:(binOp op t xv yv).run P w= .ok v w):(do eqGuard op t x y xv yv;binOp op t xv yv:Sem Value).run P w= .ok v w:=by
 rw [Sem.run_bind,hg];exact hl
theorem A60 {p q:IdK} (hp:p.ok) (hq:q.ok) {r:Bool} (h:decide (p=q)=r) (x y:Operand) (w:World):(do eqGuard .eql 36 x y p.v q.v;binOp .eql 36 p.v q.v:Sem Value).run prog w= .ok (.bool r) w :=
 h▸boz (Aeg _ _ _ _ _ _) (At4 p q hp hq w)
theorem A7j {p q:IdK} (hp:p.ok) (hq:q.ok) {r:Bool} (h:(!decide (p=q))=r) (x y:Operand) (w:World):(do eqGuard .neq 36 x y p.v q.v;binOp .neq 36 p.v q.v:Sem Value).run prog w= .ok (.bool r) w :=
 h▸boz (Aeg _ _ _ _ _ _) (Ar0 p q hp hq w)
end
section
open Go.ChangeShapes Go.WideShapes Go.ChangeAt Go.RowKit
theorem A7k:ownKnob prog.godebug=none:=by kernel_rfl
theorem A28:laidOutB prog=true:=by kernel_rfl
end
section
open Go.RowKit
structure Aae (κ:Type) where
 c:κ→List Value
 ok:κ→Prop
 k:Nat
 bytes:Nat
 e:TypeId
 t:TypeId
 z:κ
structure Aae.Is {κ:Type} (R:Aae κ):Prop where
 zok:R.ok R.z
 len:∀x,R.ok x→(R.c x).length=R.k
 one:∀x,∀v∈R.c x,v.oneCell'=true
 und:prog.underlying R.t=some (.slice R.e)
 info:(prog.info? R.e).map (fun i=>(i.zero,i.size,i.bytes))=some (some (.agg (R.c R.z).toArray),R.k,R.bytes)
 row:∃d,prog.underlying R.e=some d∧d.isRow=true
 kpos:0<R.k
 kmax:R.k≤100000
section
variable {κ:Type} {R:Aae κ}
def Aae.At (R:Aae κ) (w:World) (a:Option Addr) (L:List κ):Prop:=L=[]∨∃b off,a=some ⟨b,off,none⟩∧b<w.heap.size∧∀i h,L[i]? =some h→w.rangeAt b (off+R.k*i) (R.c h)
theorem Aae.At.keepB {w w':World} {a:Option Addr} {L:List κ} (h:R.At w a L) (hs:w.heap.size≤w'.heap.size) (hk:∀b o,a=some ⟨b,o,none⟩→b<w.heap.size→w'.heap[b]? =w.heap[b]?):R.At w' a L:=by
 rcases h with h|⟨b,off,e,hl,hr⟩
 ·exact .inl h
 ·exact .inr ⟨b,off,e,Nat.lt_of_lt_of_le hl hs,fun i x hx=>Aar (hr i x hx) (hk b off e hl)⟩
theorem Aae.At.below {w w':World} {a:Option Addr} {L:List κ} (h:R.At w a L) (hb:Below w.heap.size w w'):R.At w' a L:=h.keepB hb.size (fun b _ _ hl=>hb.block b hl)
theorem Aae.At.get {w:World} {a:Option Addr} {L:List κ} (h:R.At w a L) {i:Nat} (hi:i<L.length):∃b o,a=some ⟨b,o,none⟩∧b<w.heap.size∧w.rangeAt b (o+R.k*i) (R.c L[i]):=by
 rcases h with h|⟨b,off,e,hl,hr⟩
 ·subst h;cases hi
 ·exact ⟨b,off,e,hl,hr i _ (List.getElem?_eq_getElem hi)⟩
def Aae.flat (R:Aae κ) (L:List κ):List Value:=L.flatMap R.c
theorem Aae.flat_app (L M:List κ):R.flat (L++M)=R.flat L++R.flat M:=by simp [Aae.flat]
theorem Aae.flat_cons (x:κ) (L:List κ):R.flat (x::L)=R.c x++R.flat L:=rfl
theorem Aae.flat_len (I:R.Is):∀{L:List κ},(∀h∈L,R.ok h)→(R.flat L).length=R.k*L.length
 |[],_=>rfl
 |x::L,ok=>by
  have:=Aae.flat_len I (L:=L) (fun h hh=>ok h (by simp [hh]))
  rw [Aae.flat_cons,List.length_append,I.len x (ok x (by simp)),this,List.length_cons,Nat.mul_succ,Nat.add_comm]
theorem Aae.flat_get (I:R.Is):∀{L:List κ},(∀h∈L,R.ok h)→∀{i:Nat} {h:κ},L[i]? =some h→∀{j:Nat} {v:Value},(R.c h)[j]? =some v→(R.flat L)[R.k*i+j]? =some v
 |x::L,ok,0,h,hi,j,v,hj=>by
  simp only [List.getElem?_cons_zero,Option.some.injEq] at hi
  subst hi
  have hl:=(List.getElem?_eq_some_iff.1 hj).1
  rw [Nat.mul_zero,Nat.zero_add,Aae.flat_cons,List.getElem?_append_left hl]
  exact hj
 |x::L,ok,i+1,h,hi,j,v,hj=>by
  simp only [List.getElem?_cons_succ] at hi
  have:=Aae.flat_get I (L:=L) (fun h hh=>ok h (by simp [hh])) hi hj
  have l:=I.len x (ok x (by simp))
  rw [Aae.flat_cons,List.getElem?_append_right (by rw [l,Nat.mul_succ];omega),l,show R.k*(i+1)+j-R.k=R.k*i+j by rw [Nat.mul_succ];omega]
  exact this
 |[],_,i,h,hi,_,_,_=>by simp at hi
theorem Aae.flat_inv (I:R.Is):∀{L:List κ},(∀h∈L,R.ok h)→∀{p:Nat} {u:Value},(R.flat L)[p]? =some u→∃i h j,p=R.k*i+j∧L[i]? =some h∧(R.c h)[j]? =some u
 |[],_,p,u,hp=>by simp [Aae.flat] at hp
 |x::L,ok,p,u,hp=>by
  have l:=I.len x (ok x (by simp))
  rw [Aae.flat_cons,List.getElem?_append] at hp
  by_cases h:p<(R.c x).length
  ·rw [if_pos h] at hp
   exact ⟨0,x,p,by simp,rfl,hp⟩
  ·rw [if_neg h] at hp
   obtain ⟨i,y,j,e,hi,hj⟩:=Aae.flat_inv I (L:=L) (fun h hh=>ok h (by simp [hh])) hp
   exact ⟨i+1,y,j,by rw [Nat.mul_succ];omega,hi,hj⟩
theorem Aae.flat_one (I:R.Is) (L:List κ):∀u∈R.flat L,u.oneCell'=true:=by
 intro u hu
 simp only [Aae.flat,List.mem_flatMap] at hu
 obtain ⟨h,_,hv⟩:=hu
 exact I.one h u hv
def Aae.Own (R:Aae κ) (w:World) (base:Nat) (v:Value) (L:List κ):Prop:=w.ownsRow base R.e R.k v L.length (R.flat L)
theorem Aae.Own.keep {w w':World} {base:Nat} {v:Value} {L:List κ} (h:R.Own w base v L) (hk:∀k,v.ownBlock=some k→w'.heap[k]? =w.heap[k]?):R.Own w' base v L:=by
 refine ⟨h.1, ?_⟩
 rcases h.2 with hn|⟨g,cap,cur,rfl,hbg,hg,rest⟩
 ·exact .inl hn
 ·exact .inr ⟨g,cap,cur,rfl,hbg,by rw [hk g rfl];exact hg,rest⟩
theorem Aae.Own.cells {w:World} {base:Nat} {v:Value} {L:List κ} (h:R.Own w base v L) {k:Nat} (hk:v.ownBlock=some k):base≤k∧∃c,w.heap[k]? =some (.cells c R.e (0,0)):=by
 rcases h.2 with ⟨rfl,_⟩|⟨g,cap,cur,rfl,hb,hg,_⟩
 ·cases hk
 ·simp only [Value.ownBlock,Option.some.injEq] at hk
  subst hk
  exact ⟨hb,_,hg⟩
theorem Aae.Own.lt {w:World} {base:Nat} {v:Value} {L:List κ} (h:R.Own w base v L) {k:Nat} (hk:v.ownBlock=some k):k<w.heap.size:=by
 obtain ⟨_,c,e⟩:=h.cells hk
 exact (Array.getElem?_eq_some_iff.1 e).1
theorem Aae.Own.below {w w':World} {base:Nat} {v:Value} {L:List κ} (h:R.Own w base v L) (hb:Below w.heap.size w w'):R.Own w' base v L:=h.keep (fun k hk=>hb.block k (h.lt hk))
theorem Aae.Own.open {w:World} {base:Nat} {v:Value} {L:List κ} (I:R.Is) (h:R.Own w base v L) (ok:∀h∈L,R.ok h):∃a c,v= .slice a L.length c∧R.At w a L∧L.length≤c∧(∀b o,a=some ⟨b,o,none⟩→v.ownBlock=some b):=by
 rcases h.2 with ⟨rfl,hn⟩|⟨g,cap,cur,rfl,hbg,hg,hnc,hcm,hcs,htake⟩
 ·obtain rfl:L=[]:=List.eq_nil_of_length_eq_zero hn
  exact ⟨none,0,rfl, .inl rfl,Nat.le_refl _,fun b o e=>by cases e⟩
 ·refine ⟨some ⟨g,0,none⟩,cap,rfl, .inr ⟨g,0,rfl,(Array.getElem?_eq_some_iff.1 hg).1,fun i x hx j u hj=> ?_⟩,hnc,fun b o e=>by cases e;rfl⟩
  have e:=Aae.flat_get I ok hx hj
  rw [Nat.zero_add,cell_of_row w g _ cur R.e (0,0) hg]
  rw [←htake,List.getElem?_take] at e
  split at e
  ·simpa using e
  ·cases e
theorem Aae.own_nil (R:Aae κ) (w:World) (base:Nat):R.Own w base (.slice none 0 0) []:=⟨by simp [Aae.flat], .inl ⟨rfl,rfl⟩⟩
theorem Aae.Own.mono {w:World} {base b2:Nat} {v:Value} {L:List κ} (h:R.Own w base v L) (hb:b2≤base):R.Own w b2 v L:=by
 refine ⟨h.1, ?_⟩
 rcases h.2 with hn|⟨g,cap,cur,rfl,hbg,rest⟩
 ·exact .inl hn
 ·exact .inr ⟨g,cap,cur,rfl,Nat.le_trans hb hbg,rest⟩
theorem Aae.run_app (I:R.Is) (w:World) (base:Nat) (v:Value) (L:List κ) (a:Option Addr) (M:List κ) (c:Nat) (hown:R.Own w base v L) (hb:R.At w a M) (ok:∀h∈M,R.ok h) (h63:L.length+M.length≤maxLen) (h:((L.length+M.length)+(L.length+M.length) / 4+192)*R.bytes≤281474976710656) (hbase:base≤w.heap.size) :
 ∃v' w',(Builtin.append_ #[R.t,R.t] R.t #[v, .slice a M.length c]).run prog w= .ok v' w'∧R.Own w' base v' (L++M)∧w.grownBy w' v.ownBlock∧(v'.ownBlock=v.ownBlock∨v'.ownBlock=some w.heap.size):=by
 obtain ⟨i,hi,hz,hs,hby⟩:=info_parts I.info
 have zc:(Value.agg (R.c R.z).toArray).cells.size=R.k:=by
  show (R.c R.z).toArray.size=R.k
  rw [List.size_toArray,I.len _ I.zok]
 cases a with
 |some ad =>
  have hnews:∀j u,(R.flat M)[j]? =some u→w.cell? (ad.add j)=some u:=fun j u hj=>by
   rcases hb with rfl|⟨b,off,e,_,hc⟩
   ·simp [Aae.flat] at hj
   ·cases e
    obtain ⟨k,x,r,rfl,hx,hr⟩:=Aae.flat_inv I ok hj
    rw [Addr.add_mid, ←Nat.add_assoc]
    exact hc k x hx r u hr
  obtain ⟨v',w',hr,h2,h3,h5⟩:=Akb (P:=prog) w base R.t R.t R.e i _ R.k R.bytes I.und hi hz hs hby zc I.kpos v L.length (R.flat L) hown ad M.length c (R.flat M) (by rw [Aae.flat_len I ok,Nat.mul_comm]) hnews (Aae.flat_one I M) h63 h hbase
  refine ⟨v',w',hr, ?_,h3,h5⟩
  unfold Aae.Own
  rw [List.length_append,Aae.flat_app]
  exact h2
 |none =>
  obtain rfl:M=[]:=by
   rcases hb with rfl|⟨b,off,e,_⟩
   ·rfl
   ·cases e
  rcases hown.2 with ⟨rfl,hn⟩|⟨g,cap,cur,rfl,hbg,hg,hnc,rest⟩
  ·refine ⟨.slice none 0 0,w, ?_,by rw [List.append_nil];exact hown,⟨rfl,rfl,rfl,Nat.le_refl _,fun _ _ _=>rfl⟩, .inl rfl⟩
   simp [Builtin.append_,run_underlying I.und,sizeOf,typeInfo,hi,Builtin.lenOf,Builtin.firstCells,loadCells,loadCellsFrom]
  ·refine ⟨.slice (some ⟨g,0,none⟩) L.length cap,w, ?_,by rw [List.append_nil];exact hown,⟨rfl,rfl,rfl,Nat.le_refl _,fun _ _ _=>rfl⟩, .inl rfl⟩
   simp [Builtin.append_,run_underlying I.und,sizeOf,typeInfo,hi,Builtin.lenOf,Builtin.firstCells,hnc,storeCells]
theorem Aae.lit (R:Aae κ) (w:World) (h:κ) (t:TypeId):R.At (w.alloc (.cells (R.c h).toArray t)) (some ⟨w.heap.size,0,none⟩) [h] :=
 .inr ⟨w.heap.size,0,rfl,by simp,fun i x hx j v hj=>by
  have hl:=(List.getElem?_eq_some_iff.1 hx).1
  obtain rfl:i=0:=by simp at hl;omega
  simp at hx
  subst hx
  rw [Nat.mul_zero,Nat.add_zero,Nat.zero_add]
  exact Af9 w (R.c h) t j v hj⟩
theorem Aae.run_bs (I:R.Is) (h:κ) (ok:R.ok h) (w:World):(Instr.buildSlice R.t 1 #[(0, .agg (R.c h).toArray)]).run prog w= .ok (.slice (some ⟨w.heap.size,0,none⟩) 1 1) (w.alloc (.cells (R.c h).toArray R.e)):=by
 obtain ⟨ie,hi,hz,hs,hby⟩:=info_parts I.info
 refine run_buildSlice w R.t R.e 1 _ (R.c h).toArray ie _ I.und hi hz (by rw [hs];have:=I.kmax;have:=I.kpos;omega) (by rw [hs];have:=I.kmax;have:=I.kpos;omega) ?_
 rw [hs]
 have:=Go.Great.fill_whole (s:=R.k) I.kpos [.agg (R.c h).toArray] ((Array.range (1*R.k)).map ((Value.agg (R.c R.z).toArray).cells[· % (Value.agg (R.c R.z).toArray).cells.size]!)) (by intro v hv;simp at hv;subst hv;show (R.c h).toArray.size=R.k;rw [List.size_toArray,I.len _ ok]) (by simp)
 simpa [Value.cells] using this
theorem Aae.run_push (I:R.Is) (w:World) (base:Nat) (v:Value) (L:List κ) (x:κ) (hown:R.Own w base v L) (ok:R.ok x) (h63:L.length+1≤maxLen) (h:((L.length+1)+(L.length+1) / 4+192)*R.bytes≤281474976710656) (hbase:base≤w.heap.size) :
 ∃sv w1 v' w',(Instr.buildSlice R.t 1 #[(0, .agg (R.c x).toArray)]).run prog w= .ok sv w1∧(Builtin.append_ #[R.t,R.t] R.t #[v,sv]).run prog w1= .ok v' w'∧R.Own w' base v' (L++[x])∧Below w.heap.size w w1∧w1.heap.size=w.heap.size+1∧w1.grownBy w' v.ownBlock∧(v'.ownBlock=v.ownBlock∨v'.ownBlock=some w1.heap.size):=by
 have b1:Below w.heap.size w (w.alloc (.cells (R.c x).toArray R.e)):=(Below.refl _ _).alloc (Nat.le_refl _) _
 obtain ⟨v',w',e,o,g,q⟩:=Aae.run_app I _ base v L _ [x] 1 (hown.below b1) (Aae.lit R w x R.e) (fun y hy=>by rw [List.mem_singleton.1 hy];exact ok) h63 h (Nat.le_trans hbase b1.size)
 exact ⟨_,_,v',w',Aae.run_bs I x ok w,e,o,b1,by simp,g,q⟩
theorem Aae.sz (I:R.Is):(prog.info? R.e).map (·.size)=some R.k:=by
 have:=I.info
 cases q:prog.info? R.e with
 |none=>rw [q] at this;cases this
 |some i=>rw [q] at this;simp at this ⊢;exact this.2.1
theorem Aae.ld (I:R.Is) {w:World} {b o:Nat} {x:κ} (hx:R.ok x) (h:w.rangeAt b o (R.c x)):(Instr.loadAt R.e (pZ b o)).run prog w= .ok (.agg (R.c x).toArray) w:=by
 obtain ⟨d,hd,hr⟩:=I.row
 exact run_loadAt_mid (P:=prog) w b o R.e (R.c x) d h hd hr (by rw [I.len x hx];exact Aae.sz I)
theorem Aae.take_seg {α:Type} {cur FA y FB x:List α} {N o:Nat} (h:cur.take N=FA++y++FB) (hN:N=FA.length+y.length+FB.length) (ho:FA.length=o) (hx:x.length=y.length):(cur.take o++x++cur.drop (o+x.length)).take N=FA++x++FB:=by
 obtain ⟨R,hR⟩:∃R,cur=FA++y++FB++R:=⟨cur.drop N,by rw [←h,List.take_append_drop]⟩
 subst hR
 have e1:(FA++y++FB++R).take o=FA:=by rw [←ho];simp [List.append_assoc]
 have e2:(FA++y++FB++R).drop (o+x.length)=FB++R:=by
  rw [←ho,hx, ←List.length_append,List.append_assoc (FA++y),List.drop_left]
 rw [e1,e2,hN]
 rw [show FA++x++(FB++R)=(FA++x++FB)++R by simp]
 rw [show FA.length+y.length+FB.length=(FA++x++FB).length by simp [hx];omega]
 exact List.take_left
theorem Aae.own_set (I:R.Is) {w:World} {base:Nat} {v:Value} {L:List κ} (own:R.Own w base v L) (ok:∀x∈L,R.ok x) {i:Nat} (hi:i<L.length) {x:κ} (hx:R.ok x) :
 ∃g cap,v= .slice (some ⟨g,0,none⟩) L.length cap∧g<w.heap.size∧∃w',(Instr.storeAt R.e (pZ g (R.k*i)) (.agg (R.c x).toArray)).run prog w= .ok () w'∧R.Own w' base v (L.set i x)∧Tch (fun j=>v.ownBlock=some j) w w'∧w'.heap.size=w.heap.size:=by
 rcases own.2 with ⟨rfl,hn⟩|⟨g,cap,cur,rfl,hbg,hg,hnc,hcm,hcs,htake⟩
 ·omega
 ·have hkn:R.k*i+R.k≤R.k*cap:=by rw [←Nat.mul_succ];exact Nat.mul_le_mul_left _ (by omega)
  refine ⟨g,cap,rfl,(Array.getElem?_eq_some_iff.1 hg).1,w.setRow g (cur.toList.take (R.k*i)++R.c x++cur.toList.drop (R.k*i+(R.c x).length)).toArray, ?_, ?_,Aec w g _,by simp [World.setRow]⟩
  ·have hlen:=I.len x hx
   have hb:R.k*i+R.k≤cur.size:=by rw [hcs,Nat.mul_comm cap];exact hkn
   have h:=run_storeCells_at prog g (R.k*i) R.e (R.c x) 0 cur w hg (by rw [hlen];omega) (fun v hv=>I.one x v hv)
   rw [Nat.add_zero] at h
   have hs:=Aae.sz I
   cases hq:prog.info? R.e with
   |none=>rw [hq] at hs;simp at hs
   |some ii =>
    rw [hq] at hs
    simp at hs
    have hcz:(R.c x).toArray.size=ii.size:=by simp [hlen,hs]
    simp only [Instr.storeAt,Instr.sureAddr,Sem.run_bind,Sem.run_pure,Result.andThen_ok,storeVar,sizeOf,typeInfo,hq,Value.cells]
    simp [typeInfo,hq,hlen,hs,h]
  ·have hA:∃A y B,L=A++y::B∧A.length=i:=⟨L.take i,L[i],L.drop (i+1),by rw [←List.drop_eq_getElem_cons hi,List.take_append_drop],by simp;omega⟩
   obtain ⟨A,y,B,rfl,hA⟩:=hA
   have okA:∀x∈A,R.ok x:=fun x hx=>ok x (by simp [hx])
   have okB:∀x∈B,R.ok x:=fun x hx=>ok x (by simp [hx])
   have oky:R.ok y:=ok y (by simp)
   have hset:(A++y::B).set i x=A++x::B:=by rw [←hA,List.set_append_right _ _ (Nat.le_refl _)];simp
   rw [hset]
   have hfl:R.flat (A++x::B)=R.flat A++R.c x++R.flat B:=by rw [Aae.flat_app,Aae.flat_cons];simp
   have hfl':R.flat (A++y::B)=R.flat A++R.c y++R.flat B:=by rw [Aae.flat_app,Aae.flat_cons];simp
   rw [hfl'] at htake
   have hlA:=Aae.flat_len I okA
   have hlB:=Aae.flat_len I okB
   have l1:=I.len y oky
   have l2:=I.len x hx
   have hlenx:(A++x::B).length=(A++y::B).length:=by simp
   have hsum:R.k*(A++y::B).length=R.k*A.length+R.k+R.k*B.length:=by
        simp only [List.length_append,List.length_cons,Nat.mul_add,Nat.mul_one];omega
   refine ⟨?_,Or.inr ⟨g,cap,_,by rw [hlenx],hbg,setRow_heap w g cur _ R.e (0,0) hg,by rw [hlenx];exact hnc,hcm, ?_, ?_⟩⟩
   ·rw [hfl,hlenx,Nat.mul_comm,hsum];simp only [List.length_append];omega
   ·rw [←hcs]
    have:cur.toList.length=cur.size:=by simp
    have hb:R.k*i+R.k≤cur.size:=by rw [hcs,Nat.mul_comm cap];exact hkn
    simp only [List.size_toArray,List.length_append,List.length_take,List.length_drop]
    omega
   ·rw [List.toList_toArray,hfl,hlenx]
    refine Aae.take_seg htake ?_ (by rw [hlA,hA]) (by omega)
    rw [Nat.mul_comm,hsum]
    omega
end
section
variable {κ:Type} {R:Aae κ}
def Aae.Lo (R:Aae κ) (w:World) (base:Nat) (v:Value) (L:List κ):Prop :=
 (v= .slice none 0 0∧L=[])∨∃g cap cur,v= .slice (some ⟨g,0,none⟩) L.length cap∧base≤g∧w.heap[g]? =some (.cells cur R.e (0,0))∧L.length≤cap∧cap≤maxLen∧cap*R.k≤cur.size∧cur.toList.take (L.length*R.k)=R.flat L
theorem Aae.Own.lo {w:World} {base:Nat} {v:Value} {L:List κ} (h:R.Own w base v L):R.Lo w base v L:=by
 rcases h.2 with ⟨rfl,hn⟩|⟨g,cap,cur,rfl,hbg,hg,hnc,hcm,hcs,ht⟩
 ·exact .inl ⟨rfl,List.eq_nil_of_length_eq_zero hn⟩
 ·exact .inr ⟨g,cap,cur,rfl,hbg,hg,hnc,hcm,by omega,ht⟩
theorem Aae.lo_nil (R:Aae κ) (w:World) (base:Nat):R.Lo w base (.slice none 0 0) []:= .inl ⟨rfl,rfl⟩
theorem Aae.Lo.keep {w w':World} {base:Nat} {v:Value} {L:List κ} (h:R.Lo w base v L) (hk:∀k,v.ownBlock=some k→w'.heap[k]? =w.heap[k]?):R.Lo w' base v L:=by
 rcases h with hn|⟨g,cap,cur,rfl,hbg,hg,rest⟩
 ·exact .inl hn
 ·exact .inr ⟨g,cap,cur,rfl,hbg,by rw [hk g rfl];exact hg,rest⟩
theorem Aae.Lo.cells {w:World} {base:Nat} {v:Value} {L:List κ} (h:R.Lo w base v L) {k:Nat} (hk:v.ownBlock=some k):base≤k∧∃c,w.heap[k]? =some (.cells c R.e (0,0)):=by
 rcases h with ⟨rfl,_⟩|⟨g,cap,cur,rfl,hb,hg,_⟩
 ·cases hk
 ·simp only [Value.ownBlock,Option.some.injEq] at hk
  subst hk
  exact ⟨hb,_,hg⟩
theorem Aae.Lo.lt {w:World} {base:Nat} {v:Value} {L:List κ} (h:R.Lo w base v L) {k:Nat} (hk:v.ownBlock=some k):k<w.heap.size:=by
 obtain ⟨_,c,e⟩:=h.cells hk
 exact (Array.getElem?_eq_some_iff.1 e).1
theorem Aae.Lo.below {w w':World} {base:Nat} {v:Value} {L:List κ} (h:R.Lo w base v L) (hb:Below w.heap.size w w'):R.Lo w' base v L:=h.keep (fun k hk=>hb.block k (h.lt hk))
theorem Aae.Lo.mono {w:World} {base b2:Nat} {v:Value} {L:List κ} (h:R.Lo w base v L) (hb:b2≤base):R.Lo w b2 v L:=by
 rcases h with hn|⟨g,cap,cur,rfl,hbg,rest⟩
 ·exact .inl hn
 ·exact .inr ⟨g,cap,cur,rfl,Nat.le_trans hb hbg,rest⟩
theorem Aae.Lo.open {w:World} {base:Nat} {v:Value} {L:List κ} (I:R.Is) (h:R.Lo w base v L) (ok:∀h∈L,R.ok h):∃a c,v= .slice a L.length c∧R.At w a L∧L.length≤c∧c≤maxLen∧(∀b o,a=some ⟨b,o,none⟩→v.ownBlock=some b):=by
 rcases h with ⟨rfl,rfl⟩|⟨g,cap,cur,rfl,hbg,hg,hnc,hcm,hcs,htake⟩
 ·exact ⟨none,0,rfl, .inl rfl,Nat.le_refl _,by decide,fun b o e=>by cases e⟩
 ·refine ⟨some ⟨g,0,none⟩,cap,rfl, .inr ⟨g,0,rfl,(Array.getElem?_eq_some_iff.1 hg).1,fun i x hx j u hj=> ?_⟩,hnc,hcm,fun b o e=>by cases e;rfl⟩
  have e:=Aae.flat_get I ok hx hj
  rw [Nat.zero_add,cell_of_row w g _ cur R.e (0,0) hg]
  rw [←htake,List.getElem?_take] at e
  split at e
  ·simpa using e
  ·cases e
theorem Aae.lo_app (I:R.Is) (w:World) (base:Nat) (v:Value) (L:List κ) (okL:∀h∈L,R.ok h) (a:Option Addr) (M:List κ) (c:Nat) (hown:R.Lo w base v L) (hb:R.At w a M) (ok:∀h∈M,R.ok h) (h63:L.length+M.length≤maxLen) (h:((L.length+M.length)+(L.length+M.length) / 4+192)*R.bytes≤281474976710656) (hbase:base≤w.heap.size) :
 ∃v' w',(Builtin.append_ #[R.t,R.t] R.t #[v, .slice a M.length c]).run prog w= .ok v' w'∧R.Lo w' base v' (L++M)∧w.grownBy w' v.ownBlock∧(v'.ownBlock=v.ownBlock∨v'.ownBlock=some w.heap.size)∧R.Lo w' base v L:=by
 have hown0:=hown
 rcases hown with ⟨rfl,rfl⟩|⟨g,cap,cur,rfl,hbg,hg,hnc,hcm,hcs,htake⟩
 ·obtain ⟨v',w',e,o,g,q⟩:=Aae.run_app I w base (.slice none 0 0) [] a M c (Aae.own_nil R w base) hb ok h63 h hbase
  exact ⟨v',w',e,o.lo,g,q, .inl ⟨rfl,rfl⟩⟩
 ·obtain ⟨i,hi,hz,hs,hby⟩:=info_parts I.info
  have zc:(Value.agg (R.c R.z).toArray).cells.size=R.k:=by
   show (R.c R.z).toArray.size=R.k
   rw [List.size_toArray,I.len _ I.zok]
  have lL:=Aae.flat_len I okL
  have lM:=Aae.flat_len I ok
  have fa:R.flat (L++M)=R.flat L++R.flat M:=Aae.flat_app L M
  have hbig:L.length+M.length≤9223372036854775807:=by simp only [maxLen] at h63;omega
  cases a with
  |none =>
   obtain rfl:M=[]:=by
        rcases hb with rfl|⟨b,off,e,_⟩
        ·rfl
        ·cases e
   refine ⟨.slice (some ⟨g,0,none⟩) L.length cap,w, ?_,by rw [List.append_nil];exact .inr ⟨g,cap,cur,rfl,hbg,hg,hnc,hcm,hcs,htake⟩,⟨rfl,rfl,rfl,Nat.le_refl _,fun _ _ _=>rfl⟩, .inl rfl,hown0⟩
   simp [Builtin.append_,run_underlying I.und,sizeOf,typeInfo,hi,Builtin.lenOf,Builtin.firstCells,hnc,storeCells]
  |some ad =>
   have hnews:∀j u,(R.flat M)[j]? =some u→w.cell? (ad.add j)=some u:=fun j u hj=>by
        rcases hb with rfl|⟨b,off,e,_,hc⟩
        ·simp [Aae.flat] at hj
        ·cases e
         obtain ⟨k,x,r,rfl,hx,hr⟩:=Aae.flat_inv I ok hj
         rw [Addr.add_mid, ←Nat.add_assoc]
         exact hc k x hx r u hr
   by_cases hroom:L.length+M.length≤cap
   ·have hfit:L.length*i.size+(R.flat M).length≤cur.size:=by
     rw [lM,hs,Nat.mul_comm R.k, ←Nat.add_mul]
     exact Nat.le_trans (Nat.mul_le_mul_right _ hroom) hcs
    have hr:=run_append_room (P:=prog) w R.t R.t R.e i I.und hi g L.length cap cur hg ad M.length c (R.flat M) (by rw [lM,hs,Nat.mul_comm]) hnews (Aae.flat_one I M) hroom hfit
    refine ⟨_,_,hr, .inr ⟨g,cap,_,by rw [List.length_append],hbg,setRow_heap w g cur _ R.e _ hg,by rw [List.length_append];exact hroom,hcm, ?_, ?_⟩,⟨rfl,rfl,rfl,by simp,fun k _ hk=>setRow_other w g k _ (fun e=>hk (by simp [Value.ownBlock,e]))⟩, .inl rfl, .inr ⟨g,cap,_,rfl,hbg,setRow_heap w g cur _ R.e _ hg,hnc,hcm, ?_, ?_⟩⟩
    ·simp only [List.size_toArray,List.length_append,List.length_take,List.length_drop,Array.length_toList]
     omega
    ·rw [List.toList_toArray,hs,htake,fa,List.length_append,Nat.add_mul,show L.length*R.k+M.length*R.k=(R.flat L++R.flat M).length by rw [List.length_append,lL,lM,Nat.mul_comm R.k,Nat.mul_comm R.k]]
     exact List.take_left
    ·simp only [List.size_toArray,List.length_append,List.length_take,List.length_drop,Array.length_toList]
     omega
    ·rw [List.toList_toArray,hs,htake,List.append_assoc,show L.length*R.k=(R.flat L).length by rw [lL,Nat.mul_comm]]
     exact List.take_left
   ·have holds:∀j u,(R.flat L)[j]? =some u→w.cell? ((⟨g,0,none⟩:Addr).add j)=some u:=fun j u hj=>by
     rw [Addr.add_mid,Nat.zero_add,cell_of_row w g _ cur R.e (0,0) hg]
     rw [←htake,List.getElem?_take] at hj
     split at hj
     ·simpa using hj
     ·cases hj
    have hr:=run_append_grow (P:=prog) w R.t R.t R.e i _ I.und hi hz ⟨g,0,none⟩ L.length cap (R.flat L) (by rw [lL,hs,Nat.mul_comm]) holds ad M.length c (R.flat M) (by rw [lM,hs,Nat.mul_comm]) hnews (by omega) (by omega) (by rw [hby];exact growslice_fits_wide (by omega) h)
    have hge:=grownCap_ge w (L.length+M.length) cap R.e
    have hcm2:grownCap w (L.length+M.length) cap R.e≤maxLen:=grownCap_le_maxLen w (L.length+M.length) cap R.e h63
    refine ⟨_,_,hr, .inr ⟨w.heap.size,_,_,by rw [List.length_append],hbase,heap_alloc_new w.drew _,by rw [List.length_append];exact hge,hcm2, ?_, ?_⟩,⟨rfl,rfl,rfl,by simp,fun k hk _=>heap_alloc_old w.drew _ hk⟩, .inr rfl,hown0.keep (fun k hk=>heap_alloc_old w.drew _ (hown0.lt hk))⟩
    ·simp only [Array.size_append,List.size_toArray,size_zeroCells,zc,lL,lM]
     rw [Nat.mul_comm R.k,Nat.mul_comm R.k, ←Nat.add_mul, ←Nat.add_mul]
     refine Nat.mul_le_mul_right _ ?_
     omega
    ·simp only [Array.toList_append,List.append_assoc]
     rw [←List.append_assoc,fa,List.length_append,Nat.add_mul,show L.length*R.k+M.length*R.k=(R.flat L++R.flat M).length by rw [List.length_append,lL,lM,Nat.mul_comm R.k,Nat.mul_comm R.k]]
     exact List.take_left
theorem Aae.lo_push (I:R.Is) (w:World) (base:Nat) (v:Value) (L:List κ) (okL:∀h∈L,R.ok h) (x:κ) (hown:R.Lo w base v L) (ok:R.ok x) (h63:L.length+1≤maxLen) (h:((L.length+1)+(L.length+1) / 4+192)*R.bytes≤281474976710656) (hbase:base≤w.heap.size) :
 ∃sv w1 v' w',(Instr.buildSlice R.t 1 #[(0, .agg (R.c x).toArray)]).run prog w= .ok sv w1∧(Builtin.append_ #[R.t,R.t] R.t #[v,sv]).run prog w1= .ok v' w'∧R.Lo w' base v' (L++[x])∧Below w.heap.size w w1∧w1.heap.size=w.heap.size+1∧w1.grownBy w' v.ownBlock∧(v'.ownBlock=v.ownBlock∨v'.ownBlock=some w1.heap.size)∧R.Lo w' base v L:=by
 have b1:Below w.heap.size w (w.alloc (.cells (R.c x).toArray R.e)):=(Below.refl _ _).alloc (Nat.le_refl _) _
 obtain ⟨v',w',e,o,g,q,ol⟩:=Aae.lo_app I _ base v L okL _ [x] 1 (hown.below b1) (Aae.lit R w x R.e) (fun y hy=>by rw [List.mem_singleton.1 hy];exact ok) h63 h (Nat.le_trans hbase b1.size)
 exact ⟨_,_,v',w',Aae.run_bs I x ok w,e,o,b1,by simp,g,q,ol⟩
theorem Aae.Lo.cut (I:R.Is) {w:World} {base:Nat} {v:Value} {L:List κ} (okL:∀h∈L,R.ok h) (h:R.Lo w base v L) {n:Nat} (hn:n≤L.length):∃v',(∀a c,v= .slice a L.length c→v'= .slice a n n)∧R.Lo w base v' (L.take n)∧v'.ownBlock=v.ownBlock:=by
 rcases h with ⟨rfl,rfl⟩|⟨g,cap,cur,rfl,hbg,hg,hnc,hcm,hcs,htake⟩
 ·have:n=0:=by simpa using hn
  subst this
  exact ⟨.slice none 0 0,fun a c e=>by cases e;rfl, .inl ⟨rfl,rfl⟩,rfl⟩
 ·have hl:(L.take n).length=n:=by simp;omega
  refine ⟨.slice (some ⟨g,0,none⟩) n n,fun a c e=>by cases e;rfl, .inr ⟨g,n,cur,by rw [hl],hbg,hg,by omega,by omega,Nat.le_trans (Nat.mul_le_mul_right _ (by omega)) hcs, ?_⟩,rfl⟩
  have hf:R.flat L=R.flat (L.take n)++R.flat (L.drop n):=by rw [←Aae.flat_app,List.take_append_drop]
  have lt:=Aae.flat_len I (L:=L.take n) (fun x hx=>okL x (List.mem_of_mem_take hx))
  rw [hl] at lt
  rw [hl]
  have h1:cur.toList.take (n*R.k)=(cur.toList.take (L.length*R.k)).take (n*R.k):=by rw [List.take_take,Nat.min_eq_left (Nat.mul_le_mul_right _ hn)]
  rw [h1,htake,hf,show n*R.k=(R.flat (L.take n)).length by rw [lt,Nat.mul_comm]]
  exact List.take_left
end
section
variable {κ:Type} {R:Aae κ}
theorem Aae.szR (I:R.Is) (W:World):(sizeOf R.e).run prog W= .ok R.k W:=A5k (Aae.sz I) W
theorem Aae.sl_upto (I:R.Is) (a:Option Addr) {n c m:Nat} (hm:m≤c) (W:World):(Instr.sliceAt R.t (.slice a n c) none (some (.int .i64 (m:Int))) none).run prog W= .ok (.slice a m c) W:=by
 have h1:(0:Int)≤(m:Int)∧(m:Int)≤(c:Int):=by omega
 cases a with
 |none =>
  simp only [Instr.sliceAt,Instr.slice,Instr.sliceBounds,Instr.sliceBound,run_underlying I.und,asIntOf,Sem.run_bind,Sem.run_pure,Result.andThen_ok,Aae.szR I]
  rw [if_pos h1]
  simp only [Sem.run_bind,Sem.run_pure,Result.andThen_ok,Int.toNat_natCast]
  simp
 |some ad =>
  simp only [Instr.sliceAt,Instr.slice,Instr.sliceBounds,Instr.sliceBound,run_underlying I.und,asIntOf,Sem.run_bind,Sem.run_pure,Result.andThen_ok,Aae.szR I]
  rw [if_pos h1]
  simp only [Sem.run_bind,Sem.run_pure,Result.andThen_ok,Int.toNat_natCast]
  obtain ⟨b,o,sp⟩:=ad
  simp [Addr.add]
theorem Aae.sl_cut (I:R.Is) (a:Option Addr) {n c m:Nat} (hm:m≤c) (W:World):(Instr.sliceAt R.t (.slice a n c) none (some (.int .i64 (m:Int))) (some (.int .i64 (m:Int)))).run prog W= .ok (.slice a m m) W:=by
 have h1:(0:Int)≤(m:Int)∧(m:Int)≤(c:Int):=by omega
 have h2:(0:Int)≤(m:Int)∧(m:Int)≤(m:Int):=by omega
 cases a with
 |none =>
  simp only [Instr.sliceAt,Instr.slice,Instr.sliceBounds,Instr.sliceBound,run_underlying I.und,asIntOf,Sem.run_bind,Sem.run_pure,Result.andThen_ok,Aae.szR I]
  rw [if_pos h1]
  simp only [Sem.run_bind,Sem.run_pure,Result.andThen_ok,Int.toNat_natCast]
  rw [if_pos h2]
  simp only [Sem.run_bind,Sem.run_pure,Result.andThen_ok,Int.toNat_natCast]
  simp
 |some ad =>
  simp only [Instr.sliceAt,Instr.slice,Instr.sliceBounds,Instr.sliceBound,run_underlying I.und,asIntOf,Sem.run_bind,Sem.run_pure,Result.andThen_ok,Aae.szR I]
  rw [if_pos h1]
  simp only [Sem.run_bind,Sem.run_pure,Result.andThen_ok,Int.toNat_natCast]
  rw [if_pos h2]
  simp only [Sem.run_bind,Sem.run_pure,Result.andThen_ok,Int.toNat_natCast]
  obtain ⟨b,o,sp⟩:=ad
  simp [Addr.add]
def Aae.Bx (R:Aae κ) (w:World) (b:Nat) (x:κ):Prop:=w.heap[b]? =some (.cells (R.c x).toArray R.e (0,0))
theorem Aae.Bx.rng {w:World} {b:Nat} {x:κ} (h:R.Bx w b x):w.rangeAt b 0 (R.c x):=fun j v hv=>by
 rw [Nat.zero_add,cell_of_row _ _ j _ _ _ h]
 simpa using hv
theorem Aae.Bx.below {w w':World} {b:Nat} {x:κ} (h:R.Bx w b x) (hb:Below w.heap.size w w'):R.Bx w' b x:=(hb.block b (Array.getElem?_eq_some_iff.1 h).1).trans h
theorem Aae.zeroR (I:R.Is) (w:World):(zeroValue R.e).run prog w= .ok (.agg (R.c R.z).toArray) w:=by
 obtain ⟨i,hi,hz,hs,hby⟩:=info_parts I.info
 simp [zeroValue,typeInfo,hi,hz]
theorem Aae.bx_zero (I:R.Is) (w:World):(Instr.alloc R.e true (.tuple #[])).run prog w= .ok (pZ w.heap.size 0) (w.alloc (.cells (R.c R.z).toArray R.e)):=by
 simp only [Instr.alloc,newVar,newRow,newObj,Sem.run_bind,Aae.zeroR I,Result.andThen_ok,Value.cells]
 rfl
theorem Aae.bx_store (I:R.Is) {w:World} {b:Nat} {x u:κ} (hx:R.ok x) (hu:R.ok u) (h:R.Bx w b x):(Instr.storeAt R.e (pZ b 0) (.agg (R.c u).toArray)).run prog w= .ok () (w.setRow b (R.c u).toArray):=by
 have e2:=run_storeVar_row (P:=prog) w b R.e R.e (R.c x).toArray (R.c u).toArray h (by rw [List.size_toArray,I.len u hu];exact Aae.sz I)
  (by rw [List.size_toArray,List.size_toArray,I.len u hu,I.len x hx]) (by rw [List.all_toArray,List.all_eq_true];exact I.one u)
 simp only [Instr.storeAt,Instr.sureAddr,Sem.run_bind,Sem.run_pure,Result.andThen_ok,e2]
theorem Aae.bx_new (I:R.Is) (w:World) {u:κ} (hu:R.ok u):(Instr.storeAt R.e (pZ w.heap.size 0) (.agg (R.c u).toArray)).run prog (w.alloc (.cells (R.c R.z).toArray R.e))= .ok () (w.alloc (.cells (R.c u).toArray R.e)):=by
 have:=Aae.bx_store I (w:=w.alloc (.cells (R.c R.z).toArray R.e)) (b:=w.heap.size) I.zok hu (heap_alloc_new _ _)
 rw [World.setRow_alloc_new] at this
 exact this
theorem Aae.bx_is (R:Aae κ) (w:World) (u:κ):R.Bx (w.alloc (.cells (R.c u).toArray R.e)) w.heap.size u∧Below w.heap.size w (w.alloc (.cells (R.c u).toArray R.e)):=⟨heap_alloc_new _ _,(Below.refl _ _).alloc (Nat.le_refl _) _⟩
end
end
section
open Go.RowKit Sq
section
variable {F:Fence} {n:Nat} {P:Program} {ops:Array Oper} {rest:List Oper} {o:Oper} {a:Act} {w w2:World} {Q:Exit→Act→World→Prop}
theorem qkI {v:Value} {d:Nat} (hw:Region.wanted o (yielded ops a.tmps)=true) (hr:(execOp a.eval o).run P w= .ok (.value v) w2) (h:∀a',a'=a.put (some d) v→wpListIn F n P ops Q rest a' w2) (hd:o.dst=some d:=by rfl) (hF:∀f,F.fn f:=by exact fun _=>trivial) (hn:∀c,o.op≠ .defer c:=by intro c h;cases h):wpListIn F n P ops Q (o::rest) a w :=
 wpListIn_step fun K hK=>by
  rw [if_pos hw]
  refine ⟨fun f _=>hF f, ?_⟩
  rw [Oper.semAt_plain F _ _ hn,hr,Oper.uponIn_value]
  exact hK _ _ (by rw [hd];exact h _ rfl)
theorem qvI {v:Value} {d:Nat} (hw:Region.wanted o (yielded ops a.tmps)=true) (hr:(execOp a.eval o).run P w= .ok (.value v) w) (h:∀a',a'=a.put (some d) v→wpListIn F n P ops Q rest a' w) (hd:o.dst=some d:=by rfl) (hF:∀f,F.fn f:=by exact fun _=>trivial) (hn:∀c,o.op≠ .defer c:=by intro c h;cases h):wpListIn F n P ops Q (o::rest) a w:=qkI hw hr h hd hF hn
theorem qsI (hw:Region.wanted o (yielded ops a.tmps)=true) (hr:(execOp a.eval o).run P w= .ok .skip w2) (h:wpListIn F n P ops Q rest a w2) (hd:o.dst=none:=by rfl) (hF:∀f,F.fn f:=by exact fun _=>trivial) (hn:∀c,o.op≠ .defer c:=by intro c h;cases h):wpListIn F n P ops Q (o::rest) a w :=
 wpListIn_step fun K hK=>by
  rw [if_pos hw]
  refine ⟨fun f _=>hF f, ?_⟩
  rw [Oper.semAt_plain F _ _ hn,hr,Oper.uponIn_skip]
  exact hK _ _ (by rw [hd];exact h)
theorem qnI {d:Nat} (hw:Region.wanted o (yielded ops a.tmps)=false) (h:∀a',a'=a.put (some d) undef→wpListIn F n P ops Q rest a' w) (hd:o.dst=some d:=by rfl) (hF:∀f,F.fn f:=by exact fun _=>trivial):wpListIn F n P ops Q (o::rest) a w :=
 wpListIn_step fun K hK=>by
  rw [if_neg (by rw [hw];decide),hd]
  exact ⟨fun f _=>hF f,hK _ _ (h _ rfl)⟩
theorem qcI {f:Nat} {vs:Array Value} {R:Ending→World→Prop} {d:Nat} (hw:Region.wanted o (yielded ops a.tmps)=true) (hr:(execOp a.eval o).run P w= .ok (.enter f vs) w) (hC:Calls P f vs w R) (h:∀e w',R e w'→∃v,e= .returned v∧∀a',a'=a.put (some d) v→wpListIn Fence.wide n P ops Q rest a' w') (hd:o.dst=some d:=by rfl) (hn:∀c,o.op≠ .defer c:=by intro c h;cases h):wpListIn Fence.wide n P ops Q (o::rest) a w :=
 wpListIn_step fun K hK=>by
  rw [if_pos hw]
  refine ⟨fun f _=>trivial, ?_⟩
  rw [Oper.semAt_plain Fence.wide _ _ hn,hr,Oper.uponIn_enter]
  refine ⟨fun h=>by simp [Fence.wide] at h,callsIn_wide.2 (hC.mono ?_)⟩
  intro e w' hp
  obtain ⟨v,rfl,hh⟩:=h e w' hp
  exact hK _ _ (by rw [hd];exact hh _ rfl)
theorem qyI {l:Nat} {vs:Array Value} {R:Ending→World→Prop} {d:Nat} (hw:Region.wanted o (yielded ops a.tmps)=true) (hr:(execOp a.eval o).run P w=(Instr.yield l vs).run P w) (hC:YieldAt Fence.wide (n-1) P l vs w R) (h:∀e w',R e w'→∃v,e= .returned v∧∀a',a'=a.put (some d) v→wpListIn Fence.wide n P ops Q rest a' w') (hd:o.dst=some d:=by rfl) (hn:∀c,o.op≠ .defer c:=by intro c h;cases h):wpListIn Fence.wide n P ops Q (o::rest) a w :=
 wpListIn_step fun K hK=>by
  rw [if_pos hw]
  refine ⟨fun f _=>trivial, ?_⟩
  obtain ⟨fn,tmps,assign,body,hy,hR⟩:=hC
  rw [Oper.semAt_plain Fence.wide _ _ hn,hr,hy,Oper.uponIn_round]
  refine ⟨fun h=>by simp [Fence.wide] at h,hR.mono ?_⟩
  intro e w' hp
  obtain ⟨v,rfl,hh⟩:=h e w' hp
  exact hK _ _ (by rw [hd];exact hh _ rfl)
end
def Asv:Oper:=⟨some 6, .binOp BinOp.neq 23 (.tmp 5) (Operand.const (Value.pointer none)) 23,4,"seq.go:135", #[⟨0, .data⟩],none⟩
def Ay1:Array Oper:=(⟨_,rfl⟩:{o // some o=rgB Tryz.f47 1}).1
theorem A9n {s:Sx} {E:List Elt} {b1 i:Nat} {k:IdK} {r:Bool} (a:Act) (w:World) (Q:Exit→Act→World→Prop) (zz:a.tmps.size=16)
 (t0:a.tmps.getD 0 undef= (pZ s.sb 0))
 (t3:a.tmps.getD 3 undef= (pZ b1 0))
 (hS:Aak w s E) (hk:k.ok) (ib1:Aaz w b1 k) (ei:Aaq s k=i) (hr:decide ((i:Int)≠0)=r)
 (h:∀a' w',w'=w.drew→a'=(((((((((((a.put (some 5) (pZ s.sb 0)).put (some 6) (.bool true)).put (some 7) (.bool true)).put (some 8) (pZ s.sb 0)).put (some 9) (pZ s.sb 0)).put (some 10) (pZ s.sb 0)).put (some 11) (.map (some s.mb))).put (some 12) (k.v)).put (some 13) (.int .i64 (i:Int))).put (some 14) (.bool r)).put (some 15) (.bool r)).put (some 4) (.bool r)→Q .normal a' w') :
 (Code.region 1 Ay1 true).wp prog Q a w:=by
 refine y0 (fun w'=>w'=w.drew) (rfl) (fun hHeld=> ?_)
 refine yv 0 rfl rfl (fun w1 hw=>xmv rfl (zi t0 rfl)) hHeld ?_
 refine yv (v:= .bool true) 1 rfl rfl (fun w1 hw=>zu1 (zg (i:=5) zz rfl) (fun b t5=>by show (execOp b.eval Asv).run _ _=_;unfold Asv;go_simp)) hHeld ?_
 refine yv 2 rfl rfl (fun w1 hw=>xmv rfl (zg zz rfl)) hHeld ?_
 refine yv 3 rfl (zw zz rfl rfl rfl (zg zz rfl)) (fun w1 hw=>xmv rfl (zi t0 rfl)) hHeld ?_
 refine yv 4 rfl (zw zz rfl rfl rfl (zg zz rfl)) (fun w1 hw=>xnc rfl (zg zz rfl)) hHeld ?_
 refine yv 5 rfl (zw zz rfl rfl rfl (zg zz rfl)) (fun w1 hw=>xfa rfl (zg zz rfl) (Ah9 _ _ _)) hHeld ?_
 refine yv 6 rfl (zw zz rfl rfl rfl (zg zz rfl)) (fun w1 hw=>xld rfl (zg zz rfl) (Amt (hw▸hS.drew:Aak _ s E).c0)) hHeld ?_
 refine yv 7 rfl (zw zz rfl rfl rfl (zg zz rfl)) (fun w1 hw=>xld rfl (zi t3 rfl) (Aah hk (hw▸ib1:Aaz _ b1 k))) hHeld ?_
 refine yv (v:= .int .i64 (i:Int)) 8 rfl (zw zz rfl rfl rfl (zg zz rfl)) (fun w1 hw=>Ac1 rfl (zg zz rfl) (zg zz rfl) (by rw [Aey (hw▸hS.drew:Aak _ s E) k hk,ei])) hHeld ?_
 refine yv (v:= .bool r) 9 rfl (zw zz rfl rfl rfl (zg zz rfl)) (fun w1 hw=>An0 rfl (zg zz rfl) rfl hr) hHeld ?_
 refine yv 10 rfl rfl (fun w1 hw=>Abm rfl (zg zz rfl) (zg zz rfl)) hHeld ?_
 refine yv 11 rfl rfl (fun w1 hw=>xas rfl (zg zz rfl)) hHeld ?_
 exact ye rfl (h _ _ (hHeld) rfl)
def Ayz:Array Oper:=(⟨_,rfl⟩:{o // some o=rgB Tryz.f16 9}).1
theorem A8r {s:Sx} {E:List Elt} {b2 i:Nat} {k:IdK} (a:Act) (w:World) (Q:Exit→Act→World→Prop) (zz:a.tmps.size=57)
 (t0:a.tmps.getD 0 undef= (pZ s.sb 0))
 (t5:a.tmps.getD 5 undef= (pZ b2 0))
 (hS:Aak w s E) (hk:k.ok) (ib2:Aaz w b2 k) (ei:Aaq s k=i)
 (h:∀a' w',w'=w.drew→a'=((((((a.put (some 29) (pZ s.sb 0)).put (some 30) (pZ s.sb 0)).put (some 31) (pZ s.sb 0)).put (some 32) (.map (some s.mb))).put (some 33) (k.v)).put (some 34) (.int .i64 (i:Int))).put (some 7) (.int .i64 (i:Int))→Q .normal a' w') :
 (Code.region 9 Ayz true).wp prog Q a w:=by
 refine y0 (fun w'=>w'=w.drew) (rfl) (fun hHeld=> ?_)
 refine yv 0 rfl rfl (fun w1 hw=>xmv rfl (zi t0 rfl)) hHeld ?_
 refine yv 1 rfl rfl (fun w1 hw=>xnc rfl (zg zz rfl)) hHeld ?_
 refine yv 2 rfl rfl (fun w1 hw=>xfa rfl (zg zz rfl) (Ah9 _ _ _)) hHeld ?_
 refine yv 3 rfl rfl (fun w1 hw=>xld rfl (zg zz rfl) (Amt (hw▸hS.drew:Aak _ s E).c0)) hHeld ?_
 refine yv 4 rfl rfl (fun w1 hw=>xld rfl (zi t5 rfl) (Aah hk (hw▸ib2:Aaz _ b2 k))) hHeld ?_
 refine yv (v:= .int .i64 (i:Int)) 5 rfl rfl (fun w1 hw=>Ac1 rfl (zg zz rfl) (zg zz rfl) (by rw [Aey (hw▸hS.drew:Aak _ s E) k hk,ei])) hHeld ?_
 refine yv 6 rfl rfl (fun w1 hw=>xas rfl (zg zz rfl)) hHeld ?_
 exact ye rfl (h _ _ (hHeld) rfl)
def Asl:Array Oper:=(⟨_,rfl⟩:{o // some o=rgB Tryz.f16 10}).1
theorem A52 {s:Sx} {E:List Elt} {i:Nat} {w2:World} (a:Act) (w:World) (Q:Exit→Act→World→Prop) (zz:a.tmps.size=57)
 (t0:a.tmps.getD 0 undef= (pZ s.sb 0))
 (t7:a.tmps.getD 7 undef= .int .i64 (i:Int))
 (hS:Aak w s E) (hi:i<s.L.length) (hf: -9223372036854775808≤(gt s.L i).kp.fol+1∧(gt s.L i).kp.fol+1≤9223372036854775807) (CE:Calls prog 48 #[(pZ s.sb 0), .int .i64 (i:Int)] w fun e w'=>e= .returned (pZ s.g (73*i+0))∧w'=w) (ES:(Instr.storeAt 3 (pZ s.g (73*i+0+66)) (.int .i64 ((gt s.L i).kp.fol+1))).run prog w= .ok () w2)
 (h:∀a' w',w'=w2→a'=((((((((a.put (some 35) (pZ s.sb 0)).put (some 36) (.int .i64 (i:Int))).put (some 37) (pZ s.g (73*i+0))).put (some 38) (pZ s.g (73*i+0))).put (some 39) (pZ s.g (73*i+0+66))).put (some 40) (.int .i64 (gt s.L i).kp.fol)).put (some 41) (.int .i64 ((gt s.L i).kp.fol+1))).put (some 42) (pZ s.g (73*i+0))).put (some 43) (pZ s.g (73*i+0+66))→Q .normal a' w') :
 (Code.region 10 Asl false).wp prog Q a w:=by
 refine z0 rfl ?_
 refine zv rfl (xmv rfl (zi t0 rfl)) ?_
 refine zv rfl (xmv rfl (zi t7 rfl)) ?_
 refine zc rfl (Aap rfl (zg zz rfl) (zg zz rfl)) (CE) (fun e x2 hx=> ?_)
 obtain ⟨rfl,rfl⟩:=hx
 refine ⟨_,rfl, ?_⟩
 refine zv rfl (xnc rfl (zg zz rfl)) ?_
 refine zv rfl (xfa rfl (zg zz rfl) (Atm _ _ _)) ?_
 refine zv rfl (xld rfl (zg zz rfl) (A8l hS.row hi)) ?_
 refine zv (v:= .int .i64 ((gt s.L i).kp.fol+1)) rfl (An1 rfl (zg zz rfl) rfl hf) ?_
 refine zv rfl (xnc rfl (zg zz rfl)) ?_
 refine zv rfl (xfa rfl (zg zz rfl) (Atm _ _ _)) ?_
 refine zs rfl (Aai rfl (zg zz rfl) (zg zz rfl) ES) ?_
 exact ze rfl (h _ _ (rfl) rfl)
def IS (s:Sx) (b1 b2:Nat) (k q:IdK) (w':World):Prop:=w'.cell? ⟨s.sb,0,none⟩=some (.map (some s.mb))∧Aaz w' b1 k∧Aaz w' b2 q
def Ask:Array Oper:=(⟨_,rfl⟩:{o // some o=rgB Tryz.f16 11}).1
theorem A51 {s:Sx} {b1 b2 i n:Nat} {k q:IdK} (Fin:World→Prop) (a:Act) (w:World) (Q:Exit→Act→World→Prop) (zz:a.tmps.size=57)
 (t0:a.tmps.getD 0 undef= (pZ s.sb 0))
 (t4:a.tmps.getD 4 undef= (pZ b1 0))
 (t5:a.tmps.getD 5 undef= (pZ b2 0))
 (t7:a.tmps.getD 7 undef= .int .i64 (i:Int))
 (hk:k.ok) (hq:q.ok) (h0:IS s b1 b2 k q w.drew) (CP:Calls prog 49 #[(pZ s.sb 1), .int .i64 (i:Int),KpV.v ⟨k,q,0⟩] w.drew fun e w'=>e= .returned (.int .i64 (n:Int))∧IS s b1 b2 k q w'∧∃y,(Instr.mapUpdate 72 (.map (some s.mb)) k.v (.int .i64 (n:Int))).run prog w'= .ok () y∧Fin y)
 (h:∀a' w',Fin w'→a'=((((((((((((a.put (some 44) (pZ s.sb 0)).put (some 45) (pZ s.sb 0)).put (some 46) (pZ s.sb 0)).put (some 47) (.map (some s.mb))).put (some 48) (k.v)).put (some 49) (pZ s.sb 0)).put (some 50) (pZ s.sb 0)).put (some 51) (pZ s.sb 1)).put (some 52) (.int .i64 (i:Int))).put (some 53) (k.v)).put (some 54) (q.v)).put (some 55) (KpV.v ⟨k,q,0⟩)).put (some 56) (.int .i64 (n:Int))→Q .normal a' w') :
 (Code.region 11 Ask true).wp prog Q a w:=by
 refine x0 13 (fun w'=>IS s b1 b2 k q w') (h0) (fun hHeld=> ?_)
 refine xv 0 rfl rfl (fun w1 hw=>xmv rfl (zi t0 rfl)) hHeld ?_
 refine xv 1 rfl rfl (fun w1 hw=>xnc rfl (zg zz rfl)) hHeld ?_
 refine xv 2 rfl rfl (fun w1 hw=>xfa rfl (zg zz rfl) (Ah9 _ _ _)) hHeld ?_
 refine xv 3 rfl rfl (fun w1 hw=>xld rfl (zg zz rfl) (Amt hw.1)) hHeld ?_
 refine xv 4 rfl rfl (fun w1 hw=>xld rfl (zi t4 rfl) (Aah hk hw.2.1)) hHeld ?_
 refine xv 5 rfl rfl (fun w1 hw=>xmv rfl (zi t0 rfl)) hHeld ?_
 refine xv 6 rfl rfl (fun w1 hw=>xnc rfl (zg zz rfl)) hHeld ?_
 refine xv 7 rfl rfl (fun w1 hw=>xfa rfl (zg zz rfl) (Ah8 _ _ _)) hHeld ?_
 refine xv 8 rfl rfl (fun w1 hw=>xmv rfl (zi t7 rfl)) hHeld ?_
 refine xv 9 rfl rfl (fun w1 hw=>xld rfl (zi t4 rfl) (Aah hk hw.2.1)) hHeld ?_
 refine xv 10 rfl rfl (fun w1 hw=>xld rfl (zi t5 rfl) (Aah hq hw.2.2)) hHeld ?_
 refine xv (v:=KpV.v ⟨k,q,0⟩) 11 rfl rfl (fun w1 hw=>A74 rfl (zg zz rfl) (zg zz rfl) hk hq) hHeld ?_
 refine xc 12 rfl rfl (Afn rfl (zg zz rfl) (zg zz rfl) (zg zz rfl)) (CP) (fun e x12 hx=> ?_)
 obtain ⟨rfl,S1,y,EM,HF⟩:=hx
 refine ⟨_,rfl,fun _=>S1,fun hHeld=> ?_⟩
 replace hHeld:=hHeld (by decide)
 refine xs 13 rfl rfl (Adb rfl (zg zz rfl) (zg zz rfl) (zg zz rfl) EM) (fun hne=>absurd rfl hne) (fun _=> ?_)
 exact xe rfl (h _ _ (HF) rfl)
def A37:Array Oper:=(⟨_,rfl⟩:{o // some o=rgB Tryz.f76 3}).1
theorem ah3 {s:Sx} {E:List Elt} {b1 i n:Nat} {k:IdK} {c:Bool} (a:Act) (w:World) (Q:Exit→Act→World→Prop) (zz:a.tmps.size=22)
 (t0:a.tmps.getD 0 undef= (pZ s.sb 0))
 (t4:a.tmps.getD 4 undef= (pZ b1 0))
 (t2:a.tmps.getD 2 undef= .int .i64 (nb c:Int))
 (hS:Aak w s E) (hk:k.ok) (ib1:Aaz w b1 k) (ei:Aaq s k=i) (CT:Calls prog 98 #[(pZ s.sb 1), .int .i64 (i:Int), .int .i64 (nb c:Int)] w.drew fun e w'=>e= .returned (.int .i64 (n:Int))∧Aak w' s E∧Aaz w' b1 k∧Qt w w')
 (h:∀a' w',Qt w w'→a'=(((((((((((a.put (some 11) (pZ s.sb 0)).put (some 12) (pZ s.sb 0)).put (some 13) (pZ s.sb 1)).put (some 14) (pZ s.sb 0)).put (some 15) (pZ s.sb 0)).put (some 16) (pZ s.sb 0)).put (some 17) (.map (some s.mb))).put (some 18) (k.v)).put (some 19) (.int .i64 (i:Int))).put (some 20) (.int .i64 (nb c:Int))).put (some 21) (.int .i64 (n:Int))).put (some 6) (.int .i64 (n:Int))→Q .normal a' w') :
 (Code.region 3 A37 true).wp prog Q a w:=by
 refine y0 (fun w'=>Aak w' s E∧Aaz w' b1 k∧Qt w w') (⟨hS.drew,ib1,Qt.drew w⟩) (fun hHeld=> ?_)
 refine yv 0 rfl rfl (fun w1 hw=>xmv rfl (zi t0 rfl)) hHeld ?_
 refine yv 1 rfl rfl (fun w1 hw=>xnc rfl (zg zz rfl)) hHeld ?_
 refine yv 2 rfl rfl (fun w1 hw=>xfa rfl (zg zz rfl) (Ah8 _ _ _)) hHeld ?_
 refine yv 3 rfl rfl (fun w1 hw=>xmv rfl (zi t0 rfl)) hHeld ?_
 refine yv 4 rfl rfl (fun w1 hw=>xnc rfl (zg zz rfl)) hHeld ?_
 refine yv 5 rfl rfl (fun w1 hw=>xfa rfl (zg zz rfl) (Ah9 _ _ _)) hHeld ?_
 refine yv 6 rfl rfl (fun w1 hw=>xld rfl (zg zz rfl) (Amt hw.1.c0)) hHeld ?_
 refine yv 7 rfl rfl (fun w1 hw=>xld rfl (zi t4 rfl) (Aah hk hw.2.1)) hHeld ?_
 refine yv (v:= .int .i64 (i:Int)) 8 rfl rfl (fun w1 hw=>Ac1 rfl (zg zz rfl) (zg zz rfl) (by rw [Aey hw.1 k hk,ei])) hHeld ?_
 refine yv 9 rfl rfl (fun w1 hw=>xmv rfl (zi t2 rfl)) hHeld ?_
 refine yc 10 rfl rfl (Afn rfl (zg zz rfl) (zg zz rfl) (zg zz rfl)) (CT) (fun e x10 hx=> ?_)
 obtain ⟨rfl,S1⟩:=hx
 refine ⟨_,rfl,S1,fun hHeld=> ?_⟩
 refine yv 11 rfl rfl (fun w1 hw=>xas rfl (zg zz rfl)) hHeld ?_
 exact ye rfl (h _ _ (hHeld.2.2) rfl)
def A3n:Array Oper:=(⟨_,rfl⟩:{o // some o=rgB Tryz.f99 6}).1
theorem fi6 {s:Sx} {E:List Elt} {i rb:Nat} {w2:World} (a:Act) (w:World) (Q:Exit→Act→World→Prop) (zz:a.tmps.size=27)
 (t0:a.tmps.getD 0 undef= (pZ s.sb 0))
 (t8:a.tmps.getD 8 undef= .int .i64 (i:Int))
 (t6:a.tmps.getD 6 undef= (pZ rb 0))
 (hS:Aak w s E) (hi:i<s.L.length) (CE:Calls prog 48 #[(pZ s.sb 0), .int .i64 (i:Int)] w fun e w'=>e= .returned (pZ s.g (73*i+0))∧w'=w) (ES:(Instr.storeAt 36 (pZ rb 0) (gt s.L i).kp.id.v).run prog w= .ok () w2)
 (h:∀a' w',w'=w2→a'=((((((a.put (some 21) (pZ s.sb 0)).put (some 22) (.int .i64 (i:Int))).put (some 23) (pZ s.g (73*i+0))).put (some 24) (pZ s.g (73*i+0))).put (some 25) (pZ s.g (73*i+0+0))).put (some 26) ((gt s.L i).kp.id.v)).put (some 7) (.bool true)→Q .normal a' w') :
 (Code.region 6 A3n false).wp prog Q a w:=by
 refine z0 rfl ?_
 refine zv rfl (xmv rfl (zi t0 rfl)) ?_
 refine zv rfl (xmv rfl (zi t8 rfl)) ?_
 refine zc rfl (Aap rfl (zg zz rfl) (zg zz rfl)) (CE) (fun e x2 hx=> ?_)
 obtain ⟨rfl,rfl⟩:=hx
 refine ⟨_,rfl, ?_⟩
 refine zv rfl (xnc rfl (zg zz rfl)) ?_
 refine zv rfl (xfa rfl (zg zz rfl) (Atn _ _ _)) ?_
 refine zv rfl (xld rfl (zg zz rfl) (Bah hS.row hi)) ?_
 refine zs rfl (Aai rfl (zi t6 rfl) (zg zz rfl) ES) ?_
 refine zv rfl (xas rfl rfl) ?_
 exact ze rfl (h _ _ (rfl) rfl)
def A25:Array Oper:=(⟨_,rfl⟩:{o // some o=rgB Tryz.f66 3}).1
theorem li3 {s:Sx} {n g lb:Nat} {c:Bool} (Fin:World→Prop) (a:Act) (w:World) (Q:Exit→Act→World→Prop) (zz:a.tmps.size=27)
 (t0:a.tmps.getD 0 undef= (pZ s.sb 0))
 (t1:a.tmps.getD 1 undef= .int .i64 (nb c:Int))
 (CT:Calls prog 91 #[(pZ s.sb 1), .int .i64 (nb c:Int)] w fun e w'=>e= .returned (.int .i64 (n:Int))∧∃y1 y2 y3,(Instr.makeSlice 56 (.int .i64 0) (.int .i64 (n:Int))).run prog w'= .ok (.slice (some ⟨g,0,none⟩) 0 n) y1∧(Instr.alloc 56 true (.tuple #[])).run prog y1= .ok (pZ lb 0) y2∧(Instr.storeAt 56 (pZ lb 0) (.slice (some ⟨g,0,none⟩) 0 n)).run prog y2= .ok () y3∧Fin y3)
 (h:∀a' w',Fin w'→a'=((((((a.put (some 9) (pZ s.sb 0)).put (some 10) (pZ s.sb 0)).put (some 11) (pZ s.sb 1)).put (some 12) (.int .i64 (nb c:Int))).put (some 13) (.int .i64 (n:Int))).put (some 14) (.slice (some ⟨g,0,none⟩) 0 n)).put (some 5) (pZ lb 0)→Q .normal a' w') :
 (Code.region 3 A25 false).wp prog Q a w:=by
 refine z0 rfl ?_
 refine zv rfl (xmv rfl (zi t0 rfl)) ?_
 refine zv rfl (xnc rfl (zg zz rfl)) ?_
 refine zv rfl (xfa rfl (zg zz rfl) (Ah8 _ _ _)) ?_
 refine zv rfl (xmv rfl (zi t1 rfl)) ?_
 refine zc rfl (Aap rfl (zg zz rfl) (zg zz rfl)) (CT) (fun e x4 hx=> ?_)
 obtain ⟨rfl,y1,y2,y3,EM,EA,ES,HF⟩:=hx
 refine ⟨_,rfl, ?_⟩
 refine zv (v:= .slice (some ⟨g,0,none⟩) 0 n) rfl (Aej rfl rfl (zg zz rfl) EM) ?_
 refine zv (v:= (pZ lb 0)) rfl (Abd rfl EA) ?_
 refine zs rfl (Aai rfl (zg zz rfl) (zg zz rfl) ES) ?_
 exact ze rfl (h _ _ (HF) rfl)
def A24:Array Oper:=(⟨_,rfl⟩:{o // some o=rgB Tryz.f66 4}).1
theorem li4 {s:Sx} {v:Value} {c:Bool} (Fin:World→Prop) (a:Act) (w:World) (Q:Exit→Act→World→Prop) (zz:a.tmps.size=27)
 (t0:a.tmps.getD 0 undef= (pZ s.sb 0))
 (t1:a.tmps.getD 1 undef= .int .i64 (nb c:Int))
 (CT:Calls prog 92 #[(pZ s.sb 1), .int .i64 (nb c:Int)] w fun e w'=>e= .returned v∧Fin w')
 (h:∀a' w',Fin w'→a'=((((a.put (some 15) (pZ s.sb 0)).put (some 16) (pZ s.sb 0)).put (some 17) (pZ s.sb 1)).put (some 18) (.int .i64 (nb c:Int))).put (some 19) (v)→Q .normal a' w') :
 (Code.region 4 A24 false).wp prog Q a w:=by
 refine z0 rfl ?_
 refine zv rfl (xmv rfl (zi t0 rfl)) ?_
 refine zv rfl (xnc rfl (zg zz rfl)) ?_
 refine zv rfl (xfa rfl (zg zz rfl) (Ah8 _ _ _)) ?_
 refine zv rfl (xmv rfl (zi t1 rfl)) ?_
 refine zc rfl (Aap rfl (zg zz rfl) (zg zz rfl)) (CT) (fun e x4 hx=> ?_)
 obtain ⟨rfl,HF⟩:=hx
 refine ⟨_,rfl, ?_⟩
 exact ze rfl (h _ _ (HF) rfl)
def A09:Oper:=⟨some 6, .alloc 78,0,"seq.go:127", #[],none⟩
def A08:Oper:=⟨none, .store 78 (.tmp 6) (.tmp 20),0,"seq.go:127", #[⟨0, .data⟩,⟨0, .phase⟩],none⟩
def A22:Array Oper:= #[A09,A08]
theorem li5 {l n eb:Nat} {v:Value} {w1 w2:World} (a:Act) (w:World) (Q:Exit→Act→World→Prop) (hsz:a.tmps.size=27)
 (t20:a.tmps.getD 20 undef=v)
 (EA:(Instr.alloc 78 true (.tuple #[])).run prog w= .ok (pZ eb 0) w1) (ES:(Instr.storeAt 78 (pZ eb 0) v).run prog w1= .ok () w2)
 (h:∀a' w',w'=w2→a'=a.put (some 6) (pZ eb 0)→Q .normal a' w') :
 (Code.region 5 A22 false).wpIn (Fence.wide.inRound l) n prog Q a w:=by
 refine wpIn_region_list ?_
 change wpListIn _ _ _ _ _ [A09,A08] _ _
 refine qkI (v:= (pZ eb 0)) (by rfl) (Abd rfl EA) (fun a0 e0=> ?_)
 rw [←e0] at h
 have z0:=pz e0 hsz
 replace t20:=pk e0 t20
 have t6:=pq e0 hsz
 clear e0 hsz
 refine qsI (by rfl) (Aai rfl t6 t20 ES) ?_
 exact wpListIn_nil (h _ _ (rfl) rfl)
def A07:Oper:=⟨some 21, .load 56 (.tmp 5),56,"seq.go:128", #[],none⟩
def A06:Oper:=⟨some 22, .fieldAddr 78 (.tmp 6) 0,0,"seq.go:128", #[],none⟩
def A05:Oper:=⟨some 23, .load 36 (.tmp 22),36,"seq.go:128", #[⟨1, .data⟩],none⟩
def A04:Oper:=⟨some 24, .buildSlice 56 1 #[(0, .tmp 23)],56,"seq.go:128", #[⟨2, .data⟩],none⟩
def A03:Oper:=⟨some 25, .call {callee:=Callee.builtin Builtin.append,args:= #[.tmp 21, .tmp 24],argTypes:= #[56,56]},56,"seq.go:128", #[⟨0, .data⟩,⟨3, .data⟩],none⟩
def A02:Oper:=⟨none, .store 56 (.tmp 5) (.tmp 25),0,"seq.go:128", #[⟨4, .data⟩,⟨4, .chain⟩,⟨0, .phase⟩,⟨1, .phase⟩,⟨2, .phase⟩,⟨3, .phase⟩,⟨4, .phase⟩],none⟩
def A21:Array Oper:= #[A07,A06,A05,A04,A03,A02]
theorem li6 {l n lb eb gb:Nat} {k:IdK} {u u2:Value} {w1 w2 w3:World} (a:Act) (w:World) (Q:Exit→Act→World→Prop) (hsz:a.tmps.size=27)
 (t5:a.tmps.getD 5 undef= (pZ lb 0))
 (t6:a.tmps.getD 6 undef= (pZ eb 0))
 (L0:(Instr.loadAt 56 (pZ lb 0)).run prog w= .ok u w) (L1:(Instr.loadAt 36 (pZ eb 0)).run prog w= .ok k.v w) (EB:(Instr.buildSlice 56 1 #[(0,k.v)]).run prog w= .ok (.slice (some ⟨gb,0,none⟩) 1 1) w1) (EA:(Builtin.append_ #[56,56] 56 #[u, .slice (some ⟨gb,0,none⟩) 1 1]).run prog w1= .ok u2 w2) (ES:(Instr.storeAt 56 (pZ lb 0) u2).run prog w2= .ok () w3)
 (h:∀a' w',w'=w3→a'=((((a.put (some 21) (u)).put (some 22) (pZ eb 0)).put (some 23) (k.v)).put (some 24) (.slice (some ⟨gb,0,none⟩) 1 1)).put (some 25) (u2)→Q .normal a' w') :
 (Code.region 6 A21 false).wpIn (Fence.wide.inRound l) n prog Q a w:=by
 refine wpIn_region_list ?_
 change wpListIn _ _ _ _ _ [A07,A06,A05,A04,A03,A02] _ _
 refine qvI (v:=u) (by rfl) (xld rfl t5 L0) (fun a0 e0=> ?_)
 rw [←e0] at h
 have z0:=pz e0 hsz
 replace t5:=pk e0 t5
 replace t6:=pk e0 t6
 have t21:=pq e0 hsz
 clear e0 hsz
 refine qvI (v:= (pZ eb 0)) (by rfl) (xfa rfl t6 (Atn _ _ _)) (fun a1 e1=> ?_)
 rw [←e1] at h
 have z1:=pz e1 z0
 replace t5:=pk e1 t5
 replace t21:=pk e1 t21
 clear t6
 have t22:=pq e1 z0
 clear e1 z0
 refine qvI (v:=k.v) (by rfl) (xld rfl t22 L1) (fun a2 e2=> ?_)
 rw [←e2] at h
 have z2:=pz e2 z1
 replace t5:=pk e2 t5
 replace t21:=pk e2 t21
 clear t22
 have t23:=pq e2 z1
 clear e2 z1
 refine qkI (v:= .slice (some ⟨gb,0,none⟩) 1 1) (by rfl) (Aba rfl t23 EB) (fun a3 e3=> ?_)
 rw [←e3] at h
 have z3:=pz e3 z2
 replace t5:=pk e3 t5
 replace t21:=pk e3 t21
 clear t23
 have t24:=pq e3 z2
 clear e3 z2
 refine qkI (v:=u2) (by rfl) (Ab1 rfl t21 t24 EA) (fun a4 e4=> ?_)
 rw [←e4] at h
 have z4:=pz e4 z3
 replace t5:=pk e4 t5
 clear t21 t24
 have t25:=pq e4 z3
 clear e4 z3
 refine qsI (by rfl) (Aai rfl t5 t25 ES) ?_
 exact wpListIn_nil (h _ _ (rfl) rfl)
theorem Ad9.len {L:List Sp} {t:T} (h:Ad9 L t):L.length=t.ids.length+1:=by
 have p:t.ids.Perm (List.range' 1 (L.length-1)):=by
  rw [List.perm_ext_iff_of_nodup h.nodup (List.nodup_range' ..)]
  intro j
  rw [List.mem_range'_1]
  have:=h.pos
  exact ⟨fun q=>by have:=h.lt q;omega,fun q=>h.all j (by omega) (by omega)⟩
 have:=p.length_eq
 have:=h.pos
 simp at *
 omega
theorem Lk.len {s:Sx} {E:List Elt} (h:Lk s E):s.L.length=E.length+1:=by rw [h.good.len,h.e];simp [Apl]
theorem Lk.inj {s:Sx} {E:List Elt} (h:Lk s E) {i j:Nat} (hi:i∈s.t.ids) (hj:j∈s.t.ids) (e:(gt s.L i).kp.id=(gt s.L j).kp.id):i=j:=by
 have h1:=(h.map _ i).2 ⟨hi,rfl⟩
 have h2:=(h.map _ j).2 ⟨hj,rfl⟩
 rw [e,h2] at h1
 simpa using h1.symm
theorem Lk.nz {s:Sx} {E:List Elt} (h:Lk s E) {i:Nat} (hi:i∈s.t.ids):(gt s.L i).kp.id≠zId:=fun q=>by
 have:=h.has zId
 rw [h.zero,(h.map zId i).2 ⟨hi,q⟩] at this
 cases this
theorem Lk.inj0 {s:Sx} {E:List Elt} (h:Lk s E) {i j:Nat} (hi:i=0∨i∈s.t.ids) (hj:j=0∨j∈s.t.ids) (e:(gt s.L i).kp.id=(gt s.L j).kp.id):i=j:=by
 rcases hi with rfl|hi <;>rcases hj with rfl|hj
 ·rfl
 ·rw [h.zid] at e;exact absurd e.symm (h.nz hj)
 ·rw [h.zid] at e;exact absurd e (h.nz hi)
 ·exact h.inj hi hj e
theorem Lk.spotIs {s:Sx} {E:List Elt} (h:Lk s E) {k:IdK} (hk:k=zId∨Abg E k=true):(Aaq s k=0∨Aaq s k∈s.t.ids)∧(gt s.L (Aaq s k)).kp.id=k:=by
 rcases hk with rfl|hk
 ·have:=h.spot0 h.zero
  rw [this]
  exact ⟨.inl rfl,h.zid⟩
 ·exact ⟨.inr (h.spot hk).1,(h.spot hk).2⟩
theorem Lk.memE {s:Sx} {E:List Elt} (h:Lk s E) {i:Nat} (hi:i∈s.t.ids):Abg E (gt s.L i).kp.id=true:=Aao.2 ⟨Ach s.L i,by rw [h.e,Apl];exact List.mem_map.2 ⟨i,hi,rfl⟩,rfl⟩
theorem Asz {E:List Elt} (h:Abf E) {k:IdK} (hk:Abg E k=false) (hz:k≠zId):Am3 E k=0:=by
 unfold Am3
 rw [List.countP_eq_zero]
 intro e he q
 simp only [decide_eq_true_eq] at q
 rcases h.bh e he with q2|q2
 ·exact hz (q.symm.trans q2)
 ·rw [q,hk] at q2;cases q2
theorem A3m (E:List Elt) (k:IdK):Am3 E k≤E.length:=List.countP_le_length
theorem gtA {L K:List Sp} {j:Nat} (h:j<L.length):gt (L++K) j=gt L j:=by
 unfold gt
 rw [List.getD_eq_getElem?_getD,List.getD_eq_getElem?_getD,List.getElem?_append_left h]
theorem gtB {L:List Sp} {x:Sp} {n:Nat} (h:L.length=n):gt (L++[x]) n=x:=by
 unfold gt
 rw [List.getD_eq_getElem?_getD,List.getElem?_append_right (by omega),h]
 simp
theorem Lk.put {s:Sx} {E:List Elt} (h:Lk s E) (hN:(s.N.map (·.1)).Nodup) {k b:IdK} (hk:k.ok∧1≤k.n) (hb:b.ok) (hn:Abg E k=false) (hbh:b=zId∨Abg E b=true) {g' cap':Nat} {L':List Sp} {t':T} (hg:Ad9 L' t') (hi:A65 s.t.ids t'.ids (Aaq s b) s.L.length)
 (hK:Kept (setFol s.L (Aaq s b) ((gt s.L (Aaq s b)).kp.fol+1)++[⟨⟨k,b,0⟩,true,0,0,0,0,0⟩]) L'):Lk {s with g:=g',cap:=cap',L:=L',t:=t',N:=M.put s.N k s.L.length} (Ahc E b ⟨k,b,true⟩):=by
 obtain ⟨hs1,hs2⟩:=h.spotIs hbh
 obtain ⟨p,hp⟩:∃p,Aaq s b=p:=⟨_,rfl⟩
 rw [hp] at hs1 hs2 hi hK
 obtain ⟨n,hnn⟩:∃n,s.L.length=n:=⟨_,rfl⟩
 rw [hnn] at hi ⊢
 have hpn:p<n:=by
  rcases hs1 with rfl|q
  ·rw [←hnn];exact h.good.pos
  ·rw [←hnn];exact (h.good.lt q).2
 have hl0:(setFol s.L p ((gt s.L p).kp.fol+1)).length=n:=by rw [Aed,hnn]
 have old:∀j,j<n→(gt L' j).kp.id=(gt s.L j).kp.id∧Ach L' j=Ach s.L j∧(gt L' j).kp.fol=if p=j then (gt s.L j).kp.fol+1 else (gt s.L j).kp.fol:=fun j hj=>by
  have e:gt (setFol s.L p ((gt s.L p).kp.fol+1)++[⟨⟨k,b,0⟩,true,0,0,0,0,0⟩]) j=gt (setFol s.L p ((gt s.L p).kp.fol+1)) j:=gtA (by omega)
  have k1:=hK.kp j
  have k2:=hK.sh j
  rw [e] at k1 k2
  obtain ⟨f1,f2,_,_,f5,f6⟩:=Ace s.L p ((gt s.L p).kp.fol+1) j
  refine ⟨by rw [k1,f1],by unfold Ach;rw [k1,k2,f1,f2,f5], ?_⟩
  rw [k1,f6]
  by_cases q:p=j
  ·subst q;rw [if_pos ⟨rfl,by omega⟩,if_pos rfl]
  ·rw [if_neg (fun q2=>q q2.1),if_neg q]
 have new:(gt L' n).kp=⟨k,b,0⟩∧(gt L' n).sh=true:=by
  have e:gt (setFol s.L p ((gt s.L p).kp.fol+1)++[⟨⟨k,b,0⟩,true,0,0,0,0,0⟩]) n=⟨⟨k,b,0⟩,true,0,0,0,0,0⟩:=gtB hl0
  have k1:=hK.kp n
  have k2:=hK.sh n
  rw [e] at k1 k2
  exact ⟨k1,k2⟩
 obtain ⟨A,B,e1,e2,e3⟩:=hi
 have mem:∀j,j∈t'.ids↔(j=n∨j∈s.t.ids):=fun j=>by
  rw [e1,e2]
  simp only [List.mem_append,List.mem_cons]
  constructor
  ·rintro (q|q|q)
   ·exact .inr (.inl q)
   ·exact .inl q
   ·exact .inr (.inr q)
  ·rintro (q|q|q)
   ·exact .inr (.inl q)
   ·exact .inl q
   ·exact .inr (.inr q)
 have lt:∀j∈s.t.ids,j<n:=fun j hj=>by rw [←hnn];exact (h.good.lt hj).2
 have hkz:k≠zId:=fun q=>by have:=hk.2;rw [q] at this;simp [zId] at this
 have hnm:∀j,j=0∨j∈s.t.ids→(gt s.L j).kp.id≠k:=fun j hj q=>by
  rcases hj with rfl|hj
  ·rw [h.zid] at q;exact hkz q.symm
  ·have:=h.memE hj
   rw [q,hn] at this;cases this
 have hE:Ahc E b ⟨k,b,true⟩=Apl L' t':=by
  have eA:A.map (Ach L')=A.map (Ach s.L):=List.map_congr_left fun j hj=>(old j (lt j (by rw [e1];simp [hj]))).2.1
  have eB:B.map (Ach L')=B.map (Ach s.L):=List.map_congr_left fun j hj=>(old j (lt j (by rw [e1];simp [hj]))).2.1
  have en:Ach L' n=⟨k,b,true⟩:=by unfold Ach;rw [new.1,new.2]
  unfold Apl
  rw [e2,List.map_append,List.map_cons,eA,eB,en]
  have eE:E=A.map (Ach s.L)++B.map (Ach s.L):=by rw [h.e,Apl,e1,List.map_append]
  rcases e3 with ⟨rfl,rfl⟩|⟨A',rfl⟩
  ·have:b=zId:=by rw [←hs2];exact h.zid
   unfold Ahc
   rw [if_pos this,eE]
   rfl
  ·have hpi:p∈s.t.ids:=by rw [e1];simp
   have hbz:b≠zId:=by rw [←hs2];exact h.nz hpi
   unfold Ahc
   rw [if_neg hbz,eE]
   simp only [List.map_append,List.map_cons,List.map_nil,List.append_assoc,List.cons_append,List.nil_append]
   have:(Ach s.L p).id=b:=hs2
   rw [←this]
   refine Amy fun y hy q=> ?_
   obtain ⟨j,hj,rfl⟩:=List.mem_map.1 hy
   have hji:j∈s.t.ids:=by rw [e1];simp [hj]
   have:=h.inj hji hpi q
   subst this
   have nd:=h.good.nodup
   rw [e1,List.append_assoc,List.nodup_append] at nd
   exact nd.2.2 j hj j (by simp) rfl
 refine ⟨hg,hE,h.ok.put (x:=⟨k,b,true⟩) ⟨hk.1,hb,hk.2⟩ hn hbh,fun k' m=> ?_, ?_,fun m hm=> ?_⟩
 ·show M.look (M.put s.N k n) k'=some m↔m∈t'.ids∧(gt L' m).kp.id=k'
  rw [M.put_look _ _ _ hN,mem]
  by_cases q:k'=k
  ·subst q
   rw [if_pos rfl]
   constructor
   ·intro q2
    simp only [Option.some.injEq] at q2
    subst q2
    exact ⟨.inl rfl,by rw [new.1]⟩
   ·rintro ⟨rfl|q1,q2⟩
    ·rfl
    ·rw [(old m (lt m q1)).1] at q2
     exact absurd q2 (hnm m (.inr q1))
  ·rw [if_neg q,h.map k' m]
   constructor
   ·rintro ⟨q1,q2⟩
    exact ⟨.inr q1,by rw [(old m (lt m q1)).1];exact q2⟩
   ·rintro ⟨rfl|q1,q2⟩
    ·rw [new.1] at q2;exact absurd q2.symm q
    ·exact ⟨q1,by rw [(old m (lt m q1)).1] at q2;exact q2⟩
 ·show (gt L' 0).kp.id=zId
  rw [(old 0 (by omega)).1];exact h.zid
 ·show (gt L' m).kp.fol=(Am3 (Ahc E b ⟨k,b,true⟩) (gt L' m).kp.id:Int)
  have hf:∀i,Am3 (Ahc E b ⟨k,b,true⟩) i=(if b=i then 1 else 0)+Am3 E i:=fun i=>by
   rw [As1 (Agh E b _) i]
   unfold Am3
   rw [List.countP_cons,Nat.add_comm]
   congr 1
   simp
  rw [hf]
  have hm':m=n∨m=0∨m∈s.t.ids:=by
   rcases hm with q|q
   ·exact .inr (.inl q)
   ·rcases (mem m).1 q with q|q
    ·exact .inl q
    ·exact .inr (.inr q)
  rcases hm' with rfl|q
  ·rw [new.1]
   show (0:Int)=_
   have:b≠k:=fun q=>hnm p hs1 (by rw [hs2,q])
   rw [if_neg this,Asz h.ok hn hkz]
   rfl
  ·have hmn:m<n:=by
        rcases q with rfl|q
        ·omega
        ·exact lt m q
   rw [(old m hmn).2.2,(old m hmn).1,h.fol m q]
   by_cases e:p=m
   ·subst e
    rw [if_pos rfl,if_pos hs2.symm]
    omega
   ·rw [if_neg e,if_neg (fun q2=>e (h.inj0 hs1 q (by rw [hs2,q2])))]
    omega
theorem Lk.show {s:Sx} {E:List Elt} (h:Lk s E) {k:IdK} (hk:Abg E k=true) {b:Bool} {L':List Sp} {t':T} (hg:Ad9 L' t') (hi:t'.ids=s.t.ids) (hK:Kept (setSh s.L (Aaq s k) b) L'):Lk {s with L:=L',t:=t'} (Abb E k b):=by
 obtain ⟨hs1,hs2⟩:=h.spot hk
 obtain ⟨p,hp⟩:∃p,Aaq s k=p:=⟨_,rfl⟩
 rw [hp] at hs1 hs2 hK
 have hpl:=(h.good.lt hs1).2
 have kp:∀j,(gt L' j).kp=(gt s.L j).kp:=fun j=>by rw [hK.kp j,(Acm s.L p b j).1]
 have hE:Abb E k b=Apl L' t':=by
  unfold Apl Abb
  rw [hi,h.e,Apl,List.map_map]
  refine List.map_congr_left fun j hj=> ?_
  have e1:Ach L' j={Ach s.L j with sh:=(gt L' j).sh}:=by unfold Ach;rw [kp]
  rw [e1,hK.sh j,(Acm s.L p b j).2.2.2]
  simp only [Function.comp]
  by_cases q:p=j
  ·subst q
   rw [if_pos (show (Ach s.L p).id=k from hs2),if_pos ⟨rfl,hpl⟩]
  ·rw [if_neg (show ¬(Ach s.L j).id=k from fun q2=>q (h.inj hs1 hj (hs2.trans q2.symm))),if_neg (fun q2=>q q2.1)]
   rfl
 refine ⟨hg,hE,h.ok.show k b,fun k' m=> ?_, ?_,fun m hm=> ?_⟩
 ·show M.look s.N k'=some m↔m∈t'.ids∧(gt L' m).kp.id=k'
  rw [hi,kp];exact h.map k' m
 ·show (gt L' 0).kp.id=zId
  rw [kp];exact h.zid
 ·show (gt L' m).kp.fol=(Am3 (Abb E k b) (gt L' m).kp.id:Int)
  rw [kp,As0]
  exact h.fol m (by rw [←hi];exact hm)
theorem Aaz.below {w w':World} {b:Nat} {k:IdK} (h:Aaz w b k) (hb:Below w.heap.size w w'):Aaz w' b k:=(hb.block b (Array.getElem?_eq_some_iff.1 h).1).trans h
theorem Aaz.lt {w:World} {b:Nat} {k:IdK} (h:Aaz w b k):b<w.heap.size:=(Array.getElem?_eq_some_iff.1 h).1
theorem Acg (w:World) (k:IdK):Aaz (w.alloc (.cells k.c.toArray 36)) w.heap.size k:=heap_alloc_new _ _
section
variable {w:World} {s:Sx} {E:List Elt}
theorem Ah6 (h:Aak w s E) {k:IdK} (hk:k.ok):Calls prog 47 #[(pZ s.sb 0),k.v] w fun e w'=>e= .returned (.bool (Abg E k))∧Below w.heap.size w w':=by
 have bx:Below w.heap.size w (w.alloc (.cells k.c.toArray 36)):=(Below.refl _ _).alloc (Nat.le_refl _) _
 have hx:=Acg w k
 have hr:=h.lk.spot_has k
 unfold IdK.v
 go_enter func47,ntmps47
 go_upto_region 1 with fail
 generalize w.alloc (.cells k.c.toArray 36)=wx at *
 refine A9n (r:=Abg E k) _ _ _ rfl rfl rfl (h.below bx) hk hx rfl hr ?_
 intro a' w1 hw ha
 subst ha
 obtain rfl:w1=wx.drew:=hw
 simp only [Act.put,qsA,qsB,qsC]
 go_wp2
 go_ret
 exact ⟨rfl,bx.trans ((Below.refl _ _).drew)⟩
theorem Aeo {i:Nat} (h:Aax w s.sb 1 s.g s.cap s.L) (hi:i<s.L.length):Calls prog 48 #[(pZ s.sb 0), .int .i64 (i:Int)] w fun e w'=>e= .returned (pZ s.g (73*i+0))∧w'=w:=by
 go_enter func48,ntmps48
 go_upto_region 1 with fail
 refine En.zqc tab rfl (En.st ((Ado h)) (En.st ((Ad8 hi h.len _)) (En.fi ?_)))
 intro a' w1 hw ha
 subst ha
 obtain rfl:w1=w:=hw
 simp only [En.pM,En.pU,Act.put,qsA,qsB,qsC]
 go_wp2
 go_ret
 exact ⟨rfl,rfl⟩
def cE (c:Bool) (e:Elt):Bool:= !c||e.sh
def Adg (E:List Elt) (c:Bool):List Elt:=E.filter (cE c)
theorem A12 (L:List Sp) (c:Bool) (l:List Nat):(l.filter (cq L c)).map (Ach L)=(l.map (Ach L)).filter (cE c):=by
 rw [List.filter_map]
 congr 1
theorem Lk.vis (h:Lk s E) (c:Bool):(vis s.L c s.t).map (Ach s.L)=Adg E c:=by
 unfold Adg
 rw [h.e,Apl, ←A12]
 rfl
theorem Lk.cnt (h:Lk s E) (c:Bool):cnt s.L c s.t=(Adg E c).length:=by
 rw [←h.vis c,List.length_map]
 unfold Go.Proofs.YtifendlpeebofaaGreatDoor.vis
 rw [Ave,List.countP_eq_length_filter]
theorem Ai1 (h:Aak w s E) (c:Bool):Calls prog 100 #[(pZ s.sb 0), .int .i64 (nb c:Int)] w fun e w'=>e= .returned (.int .i64 ((Adg E c).length:Int))∧Below w.heap.size w w':=by
 have HM:=Aaa (Ai8 h.row h.lk.good c)
 rw [h.lk.cnt c] at HM
 go_enter func100,ntmps100
 go_upto_region 3 with fail
 refine En.zqc tab rfl (En.ca (HM.out) ?_)
 rintro _ w1_ ⟨rfl,HF⟩
 refine ⟨_,rfl,En.fi ?_⟩
 intro a' w1 hw0 ha
 have hw:=HF
 obtain rfl:w1=w1_:=hw0
 subst ha
 simp only [En.pM,En.pU,Act.put,qsA,qsB,qsC]
 go_wp2
 go_ret
 exact ⟨rfl,hw.below _⟩
def Aac (E:List Elt) (c:Bool) (k:IdK):Int:=if Abg E k=true then ((E.takeWhile (fun e=> !decide (e.id=k))).countP (cE c):Int) else -1
theorem Adi {α:Type} {A B:List α} {x:α} {p:α→Bool} (h:∀y∈A,p y=true) (hx:p x=false):(A++x::B).takeWhile p=A:=by
 induction A with
 |nil=>simp [List.takeWhile_cons,hx]
 |cons a A ih=>rw [List.cons_append,List.takeWhile_cons,h a (by simp)];simp [ih (fun y hy=>h y (by simp [hy]))]
theorem Lk.split (h:Lk s E) {k:IdK} (hk:Abg E k=true):∃A B,s.t.ids=A++Aaq s k::B∧E.takeWhile (fun e=> !decide (e.id=k))=A.map (Ach s.L):=by
 obtain ⟨h1,h2⟩:=h.spot hk
 obtain ⟨A,B,e⟩:=List.append_of_mem h1
 refine ⟨A,B,e, ?_⟩
 rw [h.e,Apl,e,List.map_append,List.map_cons]
 refine Adi (fun y hy=> ?_) ?_
 ·obtain ⟨x,hx,rfl⟩:=List.mem_map.1 hy
  have hxm:x∈s.t.ids:=by rw [e];simp [hx]
  have:(Ach s.L x).id≠k:=fun q=>by
   have:=h.inj hxm h1 (q.trans h2.symm)
   subst this
   have nd:=h.good.nodup
   rw [e,List.nodup_append] at nd
   exact nd.2.2 _ hx _ (by simp) rfl
  rw [decide_eq_false this];rfl
 ·rw [decide_eq_true (show (Ach s.L (Aaq s k)).id=k from h2)];rfl
theorem Aha (h:Aak w s E) {k:IdK} (hk:k.ok) (c:Bool):Calls prog 76 #[(pZ s.sb 0),k.v, .int .i64 (nb c:Int)] w fun e w'=>e= .returned (.int .i64 (Aac E c k))∧Below w.heap.size w w':=by
 have bx:Below w.heap.size w (w.alloc (.cells k.c.toArray 36)):=(Below.refl _ _).alloc (Nat.le_refl _) _
 have hx:=Acg w k
 have HA:Hid (∀W,Aak W s E→Calls prog 47 #[(pZ s.sb 0),k.v] W fun e w'=>e= .returned (.bool (Abg E k))∧Below W.heap.size W w'):=fun W hW=>Ah6 hW hk
 have HE:Hid (Aac E c k=if Abg E k=true then ((E.takeWhile (fun e=> !decide (e.id=k))).countP (cE c):Int) else -1):=rfl
 show Calls prog 76 #[(pZ s.sb 0), .agg k.c.toArray, .int .i64 (nb c:Int)] w _
 generalize Aac E c k=res at *
 go_enter func76,ntmps76
 go_upto_region 1 with fail
 generalize w.alloc (.cells k.c.toArray 36)=wx at *
 have h1:=h.below bx
 refine En.zqc tab rfl (En.st ((Aah hk hx)) (En.ca ((HA.out _ h1)) ?_))
 rintro _ w1_ ⟨rfl,S1⟩
 refine ⟨_,rfl,En.fi ?_⟩
 intro a' w1 hw0 ha
 have hw:=S1
 obtain rfl:w1=w1_:=hw0
 subst ha
 have h2:=h1.below hw
 have hx2:=hx.below hw
 have b2:=bx.trans (hw.mono bx.size)
 simp only [En.pM,En.pU,Act.put,qsA,qsB,qsC]
 cases hq:Abg E k with
 |false =>
  have hres:=HE.out
  rw [hq] at hres
  simp only [Bool.false_eq_true,if_false] at hres
  subst hres
  clear HE hq HA
  go_wp2
  go_ret
  exact ⟨rfl,b2⟩
 |true =>
  obtain ⟨A,B,e1,e2⟩:=h.lk.split hq
  have hres:res=(A.countP (cq s.L c):Int):=by
   rw [HE.out,if_pos hq,e2,List.countP_map]
   rfl
  have HR:=Aaa (Ao3 c h2.row.drew h.lk.good e1)
  clear HE HA e2 hq
  go_upto_region 3 with fail
  refine ah3 (E:=E) (k:=k) (n:=A.countP (cq s.L c)) _ _ _ rfl rfl rfl rfl h2 hk hx2 rfl (HR.out.mono ?_) ?_
  ·rintro e w' ⟨rfl,q⟩
   exact ⟨rfl,h2.drew.qt q,(show w'.heap[_]? =_ by rw [q.heap];exact hx2),(Qt.drew w1).trans q⟩
  intro a' w3 hw3 ha
  subst ha
  simp only [Act.put,qsA,qsB,qsC]
  subst hres
  clear HR e1
  go_wp2
  go_ret
  exact ⟨rfl,b2.trans (hw3.below _)⟩
theorem Amb (h:Aak w s E) {k:IdK} (hk:k.ok):Calls prog 54 #[(pZ s.sb 0),k.v] w fun e w'=>e= .returned (.int .i64 (Aac E false k))∧Below w.heap.size w w':=by
 have bx:Below w.heap.size w (w.alloc (.cells k.c.toArray 36)):=(Below.refl _ _).alloc (Nat.le_refl _) _
 have hx:=Acg w k
 have HA:Hid (∀W,Aak W s E→Calls prog 76 #[(pZ s.sb 0),k.v, .int .i64 0] W fun e w'=>e= .returned (.int .i64 (Aac E false k))∧Below W.heap.size W w'):=fun W hW=>Aha hW hk false
 show Calls prog 54 #[(pZ s.sb 0), .agg k.c.toArray] w _
 go_enter func54,ntmps54
 go_upto_region 1 with fail
 generalize w.alloc (.cells k.c.toArray 36)=wx at *
 have h1:=h.below bx
 have HL:=Aaa (Aah hk hx)
 clear hx
 go_wp2_with (first
  |(refine Awj wx rfl rfl rfl HL.out rfl ?_)
  |(go_at_call 76;refine (HA.out _ h1).mono ?_;rintro e w' ⟨rfl,hb⟩)
  |fail)
 go_ret
 exact ⟨rfl,bx.trans (hb.mono bx.size)⟩
theorem Asn (h:Aak w s E) {k:IdK} (hk:k.ok):Calls prog 78 #[(pZ s.sb 0),k.v] w fun e w'=>e= .returned (.int .i64 (Aac E true k))∧Below w.heap.size w w':=by
 have bx:Below w.heap.size w (w.alloc (.cells k.c.toArray 36)):=(Below.refl _ _).alloc (Nat.le_refl _) _
 have hx:=Acg w k
 have HA:Hid (∀W,Aak W s E→Calls prog 76 #[(pZ s.sb 0),k.v, .int .i64 1] W fun e w'=>e= .returned (.int .i64 (Aac E true k))∧Below W.heap.size W w'):=fun W hW=>Aha hW hk true
 show Calls prog 78 #[(pZ s.sb 0), .agg k.c.toArray] w _
 go_enter func78,ntmps78
 go_upto_region 1 with fail
 generalize w.alloc (.cells k.c.toArray 36)=wx at *
 have h1:=h.below bx
 have HL:=Aaa (Aah hk hx)
 clear hx
 go_wp2_with (first
  |(refine Awj wx rfl rfl rfl HL.out rfl ?_)
  |(go_at_call 76;refine (HA.out _ h1).mono ?_;rintro e w' ⟨rfl,hb⟩)
  |fail)
 go_ret
 exact ⟨rfl,bx.trans (hb.mono bx.size)⟩
theorem A26 (h:Aak w s E):Calls prog 103 #[(pZ s.sb 0)] w fun e w'=>e= .returned (.int .i64 ((Adg E false).length:Int))∧Below w.heap.size w w':=by
 have HA:Hid (Calls prog 100 #[(pZ s.sb 0), .int .i64 0] w fun e w'=>e= .returned (.int .i64 ((Adg E false).length:Int))∧Below w.heap.size w w'):=Ai1 h false
 go_enter func103,ntmps103
 go_wp2_with (first
  |(go_at_call 100;refine HA.out.mono ?_;rintro e w' ⟨rfl,hb⟩)
  |fail)
 go_ret
 exact ⟨rfl,hb⟩
theorem Aqj (h:Aak w s E):Calls prog 79 #[(pZ s.sb 0)] w fun e w'=>e= .returned (.int .i64 ((Adg E true).length:Int))∧Below w.heap.size w w':=by
 have HA:Hid (Calls prog 100 #[(pZ s.sb 0), .int .i64 1] w fun e w'=>e= .returned (.int .i64 ((Adg E true).length:Int))∧Below w.heap.size w w'):=Ai1 h true
 go_enter func79,ntmps79
 go_wp2_with (first
  |(go_at_call 100;refine HA.out.mono ?_;rintro e w' ⟨rfl,hb⟩)
  |fail)
 go_ret
 exact ⟨rfl,hb⟩
end
theorem Ade {P:Program} {fn:Func} {a b:Nat} {t:TypeId} (h:fn.results= #[.cell a t, .tmp b]) {tmps:Array Value} {w:World} {p:Addr} {v:Value} (ha:tmps.getD a undef= .pointer (some p)) (hl:(loadVar t p).run P w= .ok v w) :
 (results fn tmps).run P w= .ok (.tuple #[v,tmps.getD b undef]) w:=by
 rw [Array.getD_eq_getD_getElem?] at ha
 simp [results,h,asAddr,ha,hl,Array.mapM_eq_mapM_toList,Result.andThen]
theorem Afk {w:World} {b:Nat} {k:IdK} (hk:k.ok) (h:Aaz w b k):(loadVar 36 ⟨b,0,none⟩).run prog w= .ok k.v w :=
 run_loadVar_mid (P:=prog) w b 0 36 k.c _ (Abi h) underlying36 rfl (by rw [IdK.len hk];exact Alv)
theorem A4c (w:World):(zeroValue 36).run prog w= .ok zId.v w:=by kernel_rfl
theorem Ak1 (w:World):(Instr.alloc 36 true (.tuple #[])).run prog w= .ok (pZ w.heap.size 0) (w.alloc (.cells zId.c.toArray 36)):=by
 simp only [Instr.alloc,newVar,newRow,newObj,Sem.run_bind,A4c,Result.andThen_ok,IdK.v,Value.cells]
 rfl
theorem Af0 {w:World} {b:Nat} {x u:IdK} (hx:x.ok) (hu:u.ok) (h:Aaz w b x):(Instr.storeAt 36 (pZ b 0) u.v).run prog w= .ok () (w.setRow b u.c.toArray):=by
 have e2:=run_storeVar_row (P:=prog) w b 36 36 x.c.toArray u.c.toArray h (by rw [List.size_toArray,IdK.len hu];exact Alv)
  (by rw [List.size_toArray,List.size_toArray,IdK.len hu,IdK.len hx]) (by rw [List.all_toArray,List.all_eq_true];exact u.one)
 simp only [Instr.storeAt,Instr.sureAddr,Sem.run_bind,Sem.run_pure,Result.andThen_ok,IdK.v,e2]
theorem Aaz.set {w:World} {b:Nat} {x:IdK} (u:IdK) (h:Aaz w b x):Aaz (w.setRow b u.c.toArray) b u:=setRow_heap w b _ _ _ _ h
theorem Aiw (w:World) (k u:IdK):Aaz ((w.alloc (.cells k.c.toArray 36)).alloc (.cells u.c.toArray 36)) w.heap.size k∧Aaz ((w.alloc (.cells k.c.toArray 36)).alloc (.cells u.c.toArray 36)) (w.heap.size+1) u ∧
 Below w.heap.size w ((w.alloc (.cells k.c.toArray 36)).alloc (.cells u.c.toArray 36))∧((w.alloc (.cells k.c.toArray 36)).alloc (.cells u.c.toArray 36)).heap.size=w.heap.size+2:=by
 have z:(w.alloc (.cells k.c.toArray 36)).heap.size=w.heap.size+1:=by simp
 refine ⟨?_, ?_,((Below.refl _ _).alloc (Nat.le_refl _) _).alloc (by simp) _,by simp⟩
 ·unfold Aaz
  rw [Below.heap_alloc _ _ _ (by rw [z];omega)]
  exact heap_alloc_new _ _
 ·unfold Aaz
  rw [←z]
  exact heap_alloc_new _ _
theorem Aby {w:World} {b n:Nat} (cs:Array Value) (hn:n≤w.heap.size) (hb:n≤b):Below n w (w.setRow b cs):=(Aec w b cs).below hn (fun j e=>by simp at e;omega)
def Aex (E:List Elt) (c:Bool) (m:Int):IdK × Bool:=if 0≤m∧m<((Adg E c).length:Int) then (((Adg E c).map (·.id)).getD m.toNat zId,true) else (zId,false)
section
variable {w:World} {s:Sx} {E:List Elt}
theorem A5r (h:Lk s E) (c:Bool) (m:Int):(nth (vis s.L c s.t) m=0∧Aex E c m=(zId,false))∨(nth (vis s.L c s.t) m∈s.t.ids∧Aex E c m=((gt s.L (nth (vis s.L c s.t) m)).kp.id,true)):=by
 have hv:=h.vis c
 obtain ⟨V,hV⟩:∃V,Go.Proofs.YtifendlpeebofaaGreatDoor.vis s.L c s.t=V:=⟨_,rfl⟩
 have hs:∀x∈V,x∈s.t.ids:=fun x hx=>by rw [←hV] at hx;exact (List.mem_filter.1 hx).1
 rw [hV] at hv ⊢
 have hl:(Adg E c).length=V.length:=by rw [←hv,List.length_map]
 unfold Go.Proofs.YtifendlpeebofaaGreatDoor.nth Aex
 rw [hl]
 by_cases q:0≤m∧m<(V.length:Int)
 ·rw [if_pos q,if_pos q]
  have hm:m.toNat<V.length:=by omega
  have e1:V.getD m.toNat 0=V[m.toNat]:=by rw [List.getD_eq_getElem?_getD,List.getElem?_eq_getElem hm];rfl
  rw [e1]
  refine .inr ⟨hs _ (List.getElem_mem hm), ?_⟩
  rw [←hv,List.map_map,List.getD_eq_getElem?_getD,List.getElem?_map,List.getElem?_eq_getElem hm]
  rfl
 ·rw [if_neg q,if_neg q]
  exact .inl ⟨rfl,rfl⟩
theorem Aqp (h:Aak w s E) (c:Bool) (m:Int) (hm: -9223372036854775808≤m∧m≤9223372036854775807):Calls prog 99 #[(pZ s.sb 0), .int .i64 m, .int .i64 (nb c:Int)] w fun e w'=>e= .returned (.tuple #[(Aex E c m).1.v, .bool (Aex E c m).2])∧Below w.heap.size w w':=by
 have hr:=Acg w zId
 have bx:Below w.heap.size w (w.alloc (.cells zId.c.toArray 36)):=(Below.refl _ _).alloc (Nat.le_refl _) _
 have zx:(w.alloc (.cells zId.c.toArray 36)).heap.size=w.heap.size+1:=by simp
 have HRF:Hid (∀W,Aak W s E→Calls prog 128 #[(pZ s.sb 1), .int .i64 m, .int .i64 (nb c:Int)] W fun e w'=>e= .returned (.int .i64 (nth (vis s.L c s.t) m:Int))∧Qt W w'):=fun W hW=>Aq9 c m hm hW.row hW.lk.good
 have HN:=Aaa (A5r h.lk c m)
 have HL:=Aaa (fun i (hi:i∈s.t.ids)=>(h.lk.good.lt hi))
 generalize nth (vis s.L c s.t) m=i at *
 generalize Aex E c m=res at *
 go_enter func99,ntmps99
 go_upto_region 3 with (first
  |(refine Add rfl (Abd (t:=36) rfl (Ak1 _)) ?_)
  |fail)
 generalize w.alloc (.cells zId.c.toArray 36)=wx at *
 have ZX:=Aaa zx
 clear zx
 have h1:=h.below bx
 refine En.zqc tab rfl (En.ca ((HRF.out _ h1)) ?_)
 rintro _ w1_ ⟨rfl,HF⟩
 refine ⟨_,rfl,En.fi ?_⟩
 intro a' w1 hw0 ha
 have hw:=HF
 obtain rfl:w1=w1_:=hw0
 subst ha
 have h2:=h1.qt hw
 have hr2:Aaz w1 w.heap.size zId:=by unfold Aaz;rw [hw.heap];exact hr
 have b2:=bx.trans (hw.below _)
 clear HRF
 simp only [En.pM,En.pU,Act.put,qsA,qsB,qsC]
 go_upto_region 4 with fail
 rcases HN.out with ⟨hi0,rfl⟩|⟨him,rfl⟩
 ·subst hi0
  refine En.zqc tab rfl (En.cm (c':=true) (rfl) (En.fi ?_))
  intro a' w3 hw3 ha
  subst ha
  obtain rfl:w3=w1:=hw3
  simp only [En.pM,En.pU,Act.put,qsA,qsB,qsC]
  go_upto_region 5 with fail
  refine En.zqc tab rfl (En.st ((Abh _)) (En.eu ((Af0 Aay Aay hr2)) (En.fi ?_)))
  intro a' w4 hw4 ha
  subst ha
  obtain rfl:w4=_:=hw4
  simp only [En.pM,En.pU,Act.put,qsA,qsB,qsC]
  have hr3:=hr2.set zId
  have b3:Below w.heap.size w (w3.setRow w.heap.size zId.c.toArray):=b2.trans (Aby _ b2.size (Nat.le_refl _))
  generalize w3.setRow w.heap.size zId.c.toArray=w4 at *
  go_wp2
  refine bodyPost_ret (Ade rfl rfl (Afk Aay hr3)) rfl ?_
  exact ⟨rfl,b3⟩
 ·obtain ⟨hi0,hil⟩:=HL.out i him
  refine En.zqc tab rfl (En.cm (c':=false) ((by simpa using hi0)) (En.fi ?_))
  intro a' w3 hw3 ha
  subst ha
  obtain rfl:w3=w1:=hw3
  simp only [En.pM,En.pU,Act.put,qsA,qsB,qsC]
  go_upto_region 6 with fail
  have ok:=(h2.row.ok.gt hil).id
  refine fi6 (E:=E) _ _ _ rfl rfl rfl rfl h2 hil (Aeo h2.row hil) (Af0 Aay ok hr2) ?_
  intro a' w4 hw4 ha
  subst ha
  obtain rfl:w4=_:=hw4
  simp only [Act.put,qsA,qsB,qsC]
  have hr3:=hr2.set (gt s.L i).kp.id
  have b3:Below w.heap.size w (w3.setRow w.heap.size (gt s.L i).kp.id.c.toArray):=b2.trans (Aby _ b2.size (Nat.le_refl _))
  generalize w3.setRow w.heap.size (gt s.L i).kp.id.c.toArray=w4 at *
  go_wp2
  refine bodyPost_ret (Ade rfl rfl (Afk ok hr3)) rfl ?_
  exact ⟨rfl,b3⟩
end
structure Nxt (s:Sx) (w:World) (s':Sx) (E':List Elt) (w':World):Prop where
 at':Aak w' s' E'
 sb:s'.sb=s.sb
 mb:s'.mb=s.mb
 own:s'.g=s.g∨w.heap.size≤s'.g
 tch:Tch (fun j=>j∈s.bl) w w'
theorem Aan {w w':World} (h:Below w.heap.size w w') (O:Nat→Prop):Tch O w w':=Tch.of_below h (fun k hk hb=>by omega)
theorem Nxt.same {s:Sx} {w w':World} {E:List Elt} (h:Aak w s E) (b:Below w.heap.size w w'):Nxt s w s E w':=⟨h.below b,rfl,rfl, .inl rfl,Aan b _⟩
theorem Aak.did {w w':World} {s:Sx} {E E':List Elt} {L':List Sp} {t':T} (h:Aak w s E) (d:Did w s.sb 1 s.g s.cap L' w') (lk:Lk {s with L:=L',t:=t'} E'):Aak w' {s with L:=L',t:=t'} E' :=
 ⟨(World.cell?_of_block (a:=⟨s.sb,0,none⟩) (d.tch.block s.sb h.row.lt.1 h.row.ne)).trans h.c0,d.at',h.map.below (d.tch.block s.mb h.map.lt (fun e=>h.nm.2 e.symm)),h.nm,lk⟩
theorem Aak.keys {w:World} {s:Sx} {E:List Elt} (h:Aak w s E):(s.N.map (·.1)).Nodup:=by
 have:=h.map.2.1
 unfold A3y at this
 rwa [M.onV_keys] at this
theorem Ax4 (N:List (IdK × Nat)) (k:IdK) (n:Nat):M.put (A3y N) k (Value.int .i64 (n:Int))=A3y (M.put N k n):=M.put_on (fun n:Nat=>Value.int .i64 (n:Int)) N k n
theorem Ag9 {E:List Elt} {k:IdK} (h:Abg E k=false) (b:Bool):Abb E k b=E:=by
 unfold Abb
 conv=>rhs;rw [←List.map_id E]
 refine List.map_congr_left fun e he=> ?_
 rw [if_neg (fun q=>by have:Abg E k=true:=Aao.2 ⟨e,he,q⟩;rw [h] at this;cases this)]
 rfl
def Adt (E:List Elt) (k:IdK):Nat:=if Abg E k=true then 0 else 4
def Afe (E:List Elt) (k b:IdK):Nat:=if k.n<1 then 2 else if Abg E k=true then 5 else if b≠zId∧Abg E b=false then 4 else 0
def Awe (E:List Elt) (k b:IdK):List Elt:=if Afe E k b=0 then Ahc E b ⟨k,b,true⟩ else E
section
variable {w:World} {s:Sx} {E:List Elt}
end
section
variable {w:World} {s:Sx} {E:List Elt}
theorem A3a {w4 w5:World} {k b:IdK} {b1 b2:Nat} {v:Int} (h:Aak w4 s E) (hb1:Aaz w4 b1 k) (hb2:Aaz w4 b2 b) (n1:b1∉s.bl) (n2:b2∉s.bl) (hk:k.ok) (hb:b.ok) (hp:Aaq s b=0∨Aaq s b∈s.t.ids)
 (d:Did w4 s.sb 1 s.g s.cap (setFol s.L (Aaq s b) v) w5) (hl:s.L.length+1≤1400000000000)
 (hlk:∀g' cap' L' t',Ad9 L' t'→A65 s.t.ids t'.ids (Aaq s b) s.L.length→Kept (setFol s.L (Aaq s b) v++[⟨⟨k,b,0⟩,true,0,0,0,0,0⟩]) L'→Lk {s with g:=g',cap:=cap',L:=L',t:=t',N:=M.put s.N k s.L.length} (Ahc E b ⟨k,b,true⟩)) :
 IS s b1 b2 k b w5.drew∧Calls prog 49 #[(pZ s.sb 1), .int .i64 (Aaq s b:Int),KpV.v ⟨k,b,0⟩] w5.drew fun e w'=>e= .returned (.int .i64 (s.L.length:Int))∧IS s b1 b2 k b w'∧∃y,(Instr.mapUpdate 72 (.map (some s.mb)) k.v (.int .i64 (s.L.length:Int))).run prog w'= .ok () y∧∃s',Nxt s w4 s' (Ahc E b ⟨k,b,true⟩) y:=by
 have nb:∀x,x∉s.bl→x≠s.sb∧x≠s.mb∧x≠s.g:=fun x hx=>by simpa [Sx.bl] using hx
 obtain ⟨p1,p2,p3⟩:=nb b1 n1
 obtain ⟨q1,q2,q3⟩:=nb b2 n2
 have l1:=hb1.lt
 have l2:=hb2.lt
 have lm:=h.map.lt
 have ls:=h.row.lt
 have sz:w5.heap.size=w4.heap.size:=d.size
 have is5:IS s b1 b2 k b w5.drew:=⟨(World.cell?_of_block (w:=w4) (w':=w5) (a:=⟨s.sb,0,none⟩) (d.tch.block s.sb ls.1 h.row.ne)).trans h.c0,(d.tch.block b1 l1 p3).trans hb1,(d.tch.block b2 l2 q3).trans hb2⟩
 have m5:M.MapAt w5.drew s.mb IdK.v IdK.ok (A3y s.N):=h.map.below (d.tch.block s.mb lm (fun e=>h.nm.2 e.symm))
 refine ⟨is5, ?_⟩
 have rp:=Axq (k:=⟨k,b,0⟩) d.at'.drew (h.lk.good.setFol (Aaq s b) v) hp ⟨hk,hb⟩ (by rw [Aed];exact hl)
 rw [Aed] at rp
 refine rp.mono ?_
 rintro e w' ⟨rfl,g',cap',L',t',a1,a2,a3,mv⟩
 have sz6:w5.heap.size≤w'.heap.size:=mv.tch.size
 have keep:∀x,x<w5.heap.size→x≠s.g→x≠s.sb→w'.heap[x]? =w5.heap[x]? :=fun x hx e1 e2=>mv.tch.block x hx (fun q=>q.elim e1 e2)
 have is6:IS s b1 b2 k b w':=⟨(mv.oth 0 (by decide)).trans is5.1,(keep b1 (by omega) p3 p1).trans is5.2.1,(keep b2 (by omega) q3 q1).trans is5.2.2⟩
 have m6:M.MapAt w' s.mb IdK.v IdK.ok (A3y s.N):=m5.below (keep s.mb (by omega) (fun e=>h.nm.2 e.symm) (fun e=>h.nm.1 e.symm))
 obtain ⟨o,e1,m7⟩:=M.run_put (P:=prog) Asq underlying72 m6 k hk (Value.int .i64 (s.L.length:Int))
 rw [Ax4] at m7
 have hgm:g'≠s.mb:=by
  rcases mv.own with e|e
  ·rw [e];exact h.nm.2
  ·have:w5.drew.heap.size=w5.heap.size:=rfl
   omega
 refine ⟨rfl,is6,_,e1,{s with g:=g',cap:=cap',L:=L',t:=t',N:=M.put s.N k s.L.length}, ?_,rfl,rfl, ?_, ?_⟩
 ·refine ⟨(World.cell?_of_block (w:=w') (a:=⟨s.sb,0,none⟩) (M.setM_other o h.nm.1)).trans is6.1,mv.at'.keep (M.setM_other o h.nm.1) (M.setM_other o hgm),m7,⟨h.nm.1,hgm⟩,hlk g' cap' L' t' a1 a2 a3⟩
 ·rcases mv.own with e|e
  ·exact .inl e
  ·exact .inr (by have:w5.drew.heap.size=w5.heap.size:=rfl;show w4.heap.size≤g';omega)
 ·have t1:Tch (fun j=>j∈s.bl) w4 w5.drew:=(d.tch.mono (fun j _ q=>by rw [q];simp [Sx.bl])).drew
  have t2:Tch (fun j=>j∈s.bl) w4 w':=t1.trans' mv.tch (fun j _ q=>by rcases q with q|q <;>rw [q] <;>simp [Sx.bl])
  exact t2.setM (.inr (by simp [Sx.bl])) o
theorem Apd (h:Aak w s E) {k b:IdK} (hk:k.ok) (hb:b.ok) (hl:E.length+2≤1400000000000):Calls prog 16 #[(pZ s.sb 0),k.v,b.v] w fun e w'=>e= .returned (.int .i64 (Afe E k b:Int))∧∃s',Nxt s w s' (Awe E k b) w':=by
 have HA:Hid (∀W,Aak W s E→∀x:IdK,x.ok→Calls prog 47 #[(pZ s.sb 0),x.v] W fun e w'=>e= .returned (.bool (Abg E x))∧Below W.heap.size W w'):=fun W hW x hx=>Ah6 hW hx
 obtain ⟨hx,hy,bx,zx⟩:=Aiw w k b
 have HB:=Aaa h.lt
 show Calls prog 16 #[(pZ s.sb 0), .agg k.c.toArray, .agg b.c.toArray] w _
 go_enter func16,ntmps16
 go_upto_region 3 with fail
 generalize (w.alloc (.cells k.c.toArray 36)).alloc (.cells b.c.toArray 36)=wx at *
 have ZX:=Aaa zx
 clear zx
 have h1:=h.below bx
 cases hn:decide (k.n<1) with
 |true =>
  have HN:=Aaa (of_decide_eq_true hn)
  refine En.zqc tab rfl (En.st ((Awc hk hx)) (En.cm (c':=true) (hn) (En.fi ?_)))
  intro a' w1 hw ha
  subst ha
  obtain rfl:w1=wx:=hw
  simp only [En.pM,En.pU,Act.put,qsA,qsB,qsC]
  clear hn
  go_wp2
  go_ret
  have e:Afe E k b=2:=by unfold Afe;rw [if_pos HN.out]
  exact ⟨by rw [e];rfl,s,by unfold Awe;rw [e];exact Nxt.same h bx⟩
 |false =>
  have HN:=Aaa (of_decide_eq_false hn)
  refine En.zqc tab rfl (En.st ((Awc hk hx)) (En.cm (c':=false) (hn) (En.fi ?_)))
  intro a' w1 hw ha
  subst ha
  obtain rfl:w1=wx:=hw
  simp only [En.pM,En.pU,Act.put,qsA,qsB,qsC]
  clear hn
  go_upto_region 5 with fail
  refine En.zqc tab rfl (En.st ((Aah hk hx)) (En.ca ((HA.out _ h1 k hk)) ?_))
  rintro _ w2_ ⟨rfl,S1⟩
  refine ⟨_,rfl,En.fi ?_⟩
  intro a' w2 hw20 ha
  have hw2:=S1
  obtain rfl:w2=w2_:=hw20
  subst ha
  simp only [En.pM,En.pU,Act.put,qsA,qsB,qsC]
  have h2:=h1.below hw2
  have hx2:=hx.below hw2
  have hy2:=hy.below hw2
  have b2:=bx.trans (hw2.mono bx.size)
  clear hx hy h1 hw2
  cases hq:Abg E k with
  |true =>
   have HQ:=Aaa hq
   clear hq
   go_wp2
   go_ret
   have e:Afe E k b=5:=by unfold Afe;rw [if_neg (by have:=HN.out;omega),if_pos HQ.out]
   exact ⟨by rw [e];rfl,s,by unfold Awe;rw [e];exact Nxt.same h b2⟩
  |false =>
   have HQ:=Aaa hq
   clear hq
   go_upto_region 7 with fail
   have fin:∀(w3:World),Below w.heap.size w w3→Aak w3 s E→Aaz w3 w.heap.size k→Aaz w3 (w.heap.size+1) b→(b=zId∨Abg E b=true)→∃w5 v,(Instr.storeAt 3 (pZ s.g (73*Aaq s b+0+66)) (.int .i64 ((gt s.L (Aaq s b)).kp.fol+1))).run prog w3= .ok () w5∧Aaq s b<s.L.length∧(-9223372036854775808≤(gt s.L (Aaq s b)).kp.fol+1∧(gt s.L (Aaq s b)).kp.fol+1≤9223372036854775807) ∧
        IS s w.heap.size (w.heap.size+1) k b w5.drew∧Calls prog 49 #[(pZ s.sb 1), .int .i64 (Aaq s b:Int),KpV.v ⟨k,b,0⟩] w5.drew fun e w'=>e= .returned (.int .i64 (v:Nat))∧IS s w.heap.size (w.heap.size+1) k b w'∧∃y,(Instr.mapUpdate 72 (.map (some s.mb)) k.v (.int .i64 (v:Nat))).run prog w'= .ok () y∧∃s',Nxt s w s' (Awe E k b) y:=by
        intro w3 b3 h3 i1 i2 hbb
        have hp:=(h.lk.spotIs hbb).1
        have hpl:Aaq s b<s.L.length:=by
         rcases hp with e|e
         ·rw [e];exact h.lk.good.pos
         ·exact (h.lk.good.lt e).2
        obtain ⟨w5,e5,d5⟩:=A4k h3.row hpl ((gt s.L (Aaq s b)).kp.fol+1)
        have hfol:=h.lk.fol (Aaq s b) hp
        have hfl:=A3m E (gt s.L (Aaq s b)).kp.id
        have hlen:=h.lk.len
        have e:Afe E k b=0:=by
         unfold Afe
         rw [if_neg (by have:=HN.out;omega),if_neg (by rw [HQ.out];decide),if_neg (fun q=>by rcases hbb with r|r;exact q.1 r;rw [r] at q;cases q.2)]
        have he:=A3a (k:=k) (b:=b) (v:=(gt s.L (Aaq s b)).kp.fol+1) h3 i1 i2 (fun q=>by have:=HB.out _ q;omega) (fun q=>by have:=HB.out _ q;omega) hk hb hp d5 (by omega)
         (fun g' cap' L' t' a1 a2 a3=>h.lk.put h.keys ⟨hk,by have:=HN.out;omega⟩ hb HQ.out hbb a1 a2 a3)
        refine ⟨w5,s.L.length,e5,hpl,by omega,he.1,he.2.mono ?_⟩
        rintro e' w' ⟨r1,r2,y,r3,s',nx⟩
        refine ⟨r1,r2,y,r3,s', ?_⟩
        unfold Awe
        rw [if_pos e]
        exact ⟨nx.at',nx.sb,nx.mb,nx.own.imp id (fun q=>Nat.le_trans b3.size q),(Aan b3 _).trans nx.tch⟩
   have FIN:=Aaa fin
   clear fin
   cases hz:(!decide (b=zId)) with
   |true =>
    have HZ:=Aaa (show b≠zId by simpa using hz)
    refine En.zqc tab rfl (En.st ((Aah hb hy2)) (En.st ((Abh _)) (En.st (A7j hb Aay (hz) _ _ _) (En.st ((Aah hb hy2)) (En.ca ((HA.out _ h2 b hb)) ?_)))))
    rintro _ w3_ ⟨rfl,S1⟩
    refine ⟨_,rfl,En.fi ?_⟩
    intro a' w3 hw30 ha
    have hw3:=S1
    obtain rfl:w3=w3_:=hw30
    subst ha
    simp only [En.pM,En.pU,Act.put,qsA,qsB,qsC]
    have h3:=h2.below hw3
    have hx3:=hx2.below hw3
    have hy3:=hy2.below hw3
    have b3:=b2.trans (hw3.mono b2.size)
    clear hx2 hy2 h2 hw3 b2 HA hz
    cases hq2:Abg E b with
    |false =>
     have HQ2:=Aaa hq2
     clear hq2
     go_wp2
     go_ret
     have e:Afe E k b=4:=by unfold Afe;rw [if_neg (by have:=HN.out;omega),if_neg (by rw [HQ.out];decide),if_pos ⟨HZ.out,HQ2.out⟩]
     exact ⟨by rw [e];rfl,s,by unfold Awe;rw [e];exact Nxt.same h b3⟩
    |true =>
     have HQ2:=Aaa hq2
     clear hq2
     go_upto_region 9 with fail
     refine A8r (E:=E) (k:=b) _ _ _ rfl rfl rfl h3 hb hy3 rfl ?_
     intro a' w4 hw4 ha
     subst ha
     obtain rfl:w4=w3.drew:=hw4
     simp only [Act.put,qsA,qsB,qsC]
     obtain ⟨w5,v,e5,hpl,hf5,is5,cp5⟩:=FIN.out w3.drew b3.drew h3.drew hx3 hy3 (.inr HQ2.out)
     have IS5:=Aaa is5
     have CP5:=Aaa cp5
     have E0:=Aaa (show Afe E k b=0 by
         unfold Afe
         rw [if_neg (by have:=HN.out;omega),if_neg (by rw [HQ.out];decide),if_neg (fun q=>by rw [HQ2.out] at q;cases q.2)])
     clear is5 cp5 FIN
     go_upto_region 10 with fail
     refine A52 (E:=E) _ _ _ rfl rfl rfl h3.drew hpl hf5 (Aeo h3.drew.row hpl) e5 ?_
     intro a' w6 hw6 ha
     subst ha
     obtain rfl:w6=w5:=hw6
     simp only [Act.put,qsA,qsB,qsC]
     clear hf5 e5
     go_upto_region 11 with fail
     refine A51 (k:=k) (q:=b) (fun y=> ∃s',Nxt s w s' (Awe E k b) y) _ _ _ rfl rfl rfl rfl rfl hk hb IS5.out CP5.out ?_
     intro a' w7 hw7 ha
     subst ha
     have HW7:=Aaa hw7
     clear hw7 IS5 CP5 h3 hx3 hy3
     simp only [Act.put,qsA,qsB,qsC]
     go_wp2
     go_ret
     exact ⟨by rw [E0.out];rfl,HW7.out⟩
   |false =>
    have HZ:=Aaa (show b=zId by simpa using hz)
    refine En.zqc tab rfl (En.st ((Aah hb hy2)) (En.st ((Abh _)) (En.st (A7j hb Aay (hz) _ _ _) (En.fi ?_))))
    intro a' w3 hw3 ha
    subst ha
    obtain rfl:w3=w2:=hw3
    simp only [En.pM,En.pU,Act.put,qsA,qsB,qsC]
    clear HA hz
    go_upto_region 9 with fail
    refine A8r (E:=E) (k:=b) _ _ _ rfl rfl rfl h2 hb hy2 rfl ?_
    intro a' w4 hw4 ha
    subst ha
    obtain rfl:w4=w3.drew:=hw4
    simp only [Act.put,qsA,qsB,qsC]
    obtain ⟨w5,v,e5,hpl,hf5,is5,cp5⟩:=FIN.out w3.drew b2.drew h2.drew hx2 hy2 (.inl HZ.out)
    have IS5:=Aaa is5
    have CP5:=Aaa cp5
    have E0:=Aaa (show Afe E k b=0 by
        unfold Afe
        rw [if_neg (by have:=HN.out;omega),if_neg (by rw [HQ.out];decide),if_neg (fun q=>q.1 HZ.out)])
    clear is5 cp5 FIN
    go_upto_region 10 with fail
    refine A52 (E:=E) _ _ _ rfl rfl rfl h2.drew hpl hf5 (Aeo h2.drew.row hpl) e5 ?_
    intro a' w6 hw6 ha
    subst ha
    obtain rfl:w6=w5:=hw6
    simp only [Act.put,qsA,qsB,qsC]
    clear hf5 e5
    go_upto_region 11 with fail
    refine A51 (k:=k) (q:=b) (fun y=> ∃s',Nxt s w s' (Awe E k b) y) _ _ _ rfl rfl rfl rfl rfl hk hb IS5.out CP5.out ?_
    intro a' w7 hw7 ha
    subst ha
    have HW7:=Aaa hw7
    clear hw7 IS5 CP5 h2 hx2 hy2
    simp only [Act.put,qsA,qsB,qsC]
    go_wp2
    go_ret
    exact ⟨by rw [E0.out];rfl,HW7.out⟩
end
end
section
open Go.RowKit Go.Shelf Sq
attribute [local go_sem] Oper.semAt_some
section
variable {w:World} {s:Sx} {E:List Elt}
theorem Arz (h:Abf E) (c:Bool) (m:Int):(Aex E c m).1.ok:=by
 unfold Aex
 split
 ·rw [List.getD_eq_getElem?_getD]
  cases q:((Adg E c).map (·.id))[m.toNat]? with
  |none=>exact Aay
  |some x =>
   obtain ⟨e,he,rfl⟩:=List.mem_map.1 (List.mem_of_getElem? q)
   exact (h.ok e (List.mem_filter.1 he).1).1
 ·exact Aay
theorem A6u (h:Aak w s E) (m:Int) (hm: -9223372036854775808≤m∧m≤9223372036854775807):Calls prog 77 #[(pZ s.sb 0), .int .i64 m] w fun e w'=>e= .returned (.tuple #[(Aex E false m).1.v, .bool (Aex E false m).2])∧Below w.heap.size w w':=by
 have hr:=Acg w zId
 have bx:Below w.heap.size w (w.alloc (.cells zId.c.toArray 36)):=(Below.refl _ _).alloc (Nat.le_refl _) _
 have zx:(w.alloc (.cells zId.c.toArray 36)).heap.size=w.heap.size+1:=by simp
 have HA:Hid (∀W,Aak W s E→Calls prog 99 #[(pZ s.sb 0), .int .i64 m, .int .i64 0] W fun e w'=>e= .returned (.tuple #[(Aex E false m).1.v, .bool (Aex E false m).2])∧Below W.heap.size W w'):=fun W hW=>Aqp hW false m hm
 have OK:(Aex E false m).1.ok:=Arz h.lk.ok false m
 generalize Aex E false m=res at *
 go_enter func77,ntmps77
 go_upto_region 1 with (first
  |(refine Add rfl (Abd (t:=36) rfl (Ak1 _)) ?_)
  |fail)
 generalize w.alloc (.cells zId.c.toArray 36)=wx at *
 have h1:=h.below bx
 have HR:=Aaa hr
 have BX:=Aaa bx
 have ZX:=Aaa zx
 clear hr bx zx
 go_wp2_with (first
  |(go_at_call 99;refine (HA.out _ h1).mono ?_;rintro e w1 ⟨rfl,hb⟩;have ST:=Aaa (Af0 Aay OK (HR.out.below hb)))
  |(refine Aki rfl rfl (Aai (t:=36) (xv:= (pZ w.heap.size 0)) (yv:=res.1.v) rfl rfl rfl ST.out) ?_)
  |fail)
 refine bodyPost_ret (Ade rfl rfl (Afk OK ((HR.out.below hb).set res.1))) rfl ?_
 have b2:=BX.out.trans (hb.mono BX.out.size)
 exact ⟨rfl,b2.trans (Aby _ b2.size (Nat.le_refl _))⟩
end
theorem Ay2:Ad9 [zSp] .nil:=by
 refine ⟨⟨trivial,⟨by simp,rfl,rfl⟩,by simp [T.ids,cids],fun w=>by cases w <;>rfl⟩,trivial,fun i h0 h1=> ?_⟩
 simp at h1;omega
theorem A0n:OkS [zSp]:=fun x hx=>by
 rw [List.mem_singleton.1 hx];exact Aoi
theorem A5s (sb mb g cap:Nat):Lk ⟨sb,mb,g,cap,[zSp], .nil,[]⟩ []:=by
 refine ⟨Ay2,rfl,⟨by simp,by simp,by simp⟩,fun k n=> ?_,rfl,fun n hn=> ?_⟩
 ·constructor
  ·intro h;cases h
  ·rintro ⟨h,_⟩;simp [T.ids] at h
 ·rcases hn with rfl|h
  ·rfl
  ·simp [T.ids] at h
theorem A2x (w:World):(Instr.makeSlice 73 (.int .i64 1) (.int .i64 1)).run prog w= .ok (.slice (some ⟨w.heap.size,0,none⟩) 1 1) (w.alloc (.cells (Sp.c zSp).toArray 128)):=by kernel_rfl
theorem Ao0 {P:Program} {fn:Func} {a:Nat} {t:TypeId} (h:fn.results= #[.cell a t]) {tmps:Array Value} {w:World} {p:Addr} {v:Value} (ha:tmps.getD a undef= .pointer (some p)) (hl:(loadVar t p).run P w= .ok v w) :
 (results fn tmps).run P w= .ok v w:=by
 rw [Array.getD_eq_getD_getElem?] at ha
 simp [results,h,asAddr,ha,hl,Array.mapM_eq_mapM_toList,Result.andThen]
theorem Ao5 (w:World):Calls prog 38 #[] w fun e w'=>e= .returned (.agg #[.slice (some ⟨w.heap.size+1,0,none⟩) 1 1])∧w'.heap[w.heap.size+1]? =some (.cells (Sp.c zSp).toArray 128 (0,0))∧w'.heap.size=w.heap.size+2∧Below w.heap.size w w':=by
 go_enter func38,ntmps38
 go_wp2_with (first
  |(refine Add rfl (Aej rfl rfl rfl (A2x _)) ?_)
  |fail)
 have z:(w.alloc (.cells #[.slice (some ⟨w.heap.size+1,0,none⟩) 1 1] 75)).heap.size=w.heap.size+1:=by simp
 have hb:((w.alloc (.cells #[.slice (some ⟨w.heap.size+1,0,none⟩) 1 1] 75)).alloc (.cells (Sp.c zSp).toArray 128)).heap[w.heap.size]? =some (.cells [Value.slice (some ⟨w.heap.size+1,0,none⟩) 1 1].toArray 75 (0,0)):=(Below.heap_alloc _ _ _ (by simp)).trans (heap_alloc_new _ _)
 have hl:=run_loadVar_mid (P:=prog) _ w.heap.size 0 75 [Value.slice (some ⟨w.heap.size+1,0,none⟩) 1 1] _ (Abi hb) underlying75 rfl (by kernel_rfl)
 refine bodyPost_ret (Ao0 rfl rfl hl) rfl ?_
 refine ⟨rfl, ?_,by simp,((Below.refl _ _).alloc (Nat.le_refl _) _).alloc (by simp) _⟩
 have hn:=heap_alloc_new (w.alloc (.cells #[.slice (some ⟨w.heap.size+1,0,none⟩) 1 1] 75)) (.cells (Sp.c zSp).toArray 128)
 rw [z] at hn
 exact hn
theorem A2t (w:World):Calls prog 8 #[] w fun e w'=> ∃s,e= .returned (pZ s.sb 0)∧Aak w' s []∧(∀j∈s.bl,w.heap.size≤j)∧Below w.heap.size w w':=by
 have HR:Hid (∀W,Calls prog 38 #[] W fun e w'=>e= .returned (.agg #[.slice (some ⟨W.heap.size+1,0,none⟩) 1 1])∧w'.heap[W.heap.size+1]? =some (.cells (Sp.c zSp).toArray 128 (0,0))∧w'.heap.size=W.heap.size+2∧Below W.heap.size W w'):=Ao5
 have hm:=M.MapAt.new w IdK.v IdK.ok
 have bm:Below w.heap.size w (w.alloc (.map #[] 0)):=(Below.refl _ _).alloc (Nat.le_refl _) _
 have zm:(w.alloc (.map #[] 0)).heap.size=w.heap.size+1:=by simp
 go_enter func8,ntmps8
 have MK:Hid (∀W:World,(Instr.makeMap 72 none).run prog W= .ok (.map (some W.heap.size)) (W.alloc (.map #[] 0))):=fun W=>by kernel_rfl
 go_wp2_with (first
  |(refine Add rfl (Aft rfl (MK.out _)) ?_)
  |(go_at_call 38;generalize w.alloc (.map #[] 0)=wm at *;refine (HR.out _).mono ?_;rintro e w1 ⟨rfl,h1,z1,b1⟩)
  |fail)
 rw [zm] at h1 z1 b1
 have hq:=heap_alloc_new w1 (.cells #[.map (some w.heap.size), .slice (some ⟨w.heap.size+1+1,0,none⟩) 1 1] 80)
 have bq:Below w1.heap.size w1 (w1.alloc (.cells #[.map (some w.heap.size), .slice (some ⟨w.heap.size+1+1,0,none⟩) 1 1] 80)):=(Below.refl _ _).alloc (Nat.le_refl _) _
 go_ret
 generalize w1.alloc (.cells #[.map (some w.heap.size), .slice (some ⟨w.heap.size+1+1,0,none⟩) 1 1] 80)=w2 at *
 rw [z1] at hq bq
 have hg:w2.heap[w.heap.size+1+1]? =some (.cells (Sp.c zSp).toArray 128 (0,0)):=(bq.block _ (by omega)).trans h1
 refine ⟨⟨w.heap.size+1+2,w.heap.size,w.heap.size+1+1,1,[zSp], .nil,[]⟩,rfl,⟨?_,⟨?_,⟨?_, .inr ⟨w.heap.size+1+1,1,_,rfl,Nat.zero_le _,hg,Nat.le_refl _,by decide, ?_, ?_⟩⟩, ?_,by show w.heap.size+1+2≠w.heap.size+1+1;omega,by show 1≤1400000000000;omega,_,_,hq⟩, ?_,⟨by show w.heap.size+1+2≠w.heap.size;omega,by show w.heap.size+1+1≠w.heap.size;omega⟩,A5s _ _ _ _⟩, ?_, ?_⟩
 ·exact (cell_of_row _ _ 0 _ _ _ hq).trans rfl
 ·exact (cell_of_row _ _ 1 _ _ _ hq).trans rfl
 ·show (Ab6 [zSp]).length=1*73
  rw [Ad1 A0n];rfl
 ·show (Sp.c zSp).toArray.size=1*73
  rw [List.size_toArray,Sp.len Aoi]
 ·show ((Sp.c zSp).toArray.toList).take (1*73)=Ab6 [zSp]
  rw [List.toList_toArray,List.take_of_length_le (by rw [Sp.len Aoi];omega)]
  simp [Ab6]
 ·exact A0n
 ·exact hm.below ((bq.block _ (by show w.heap.size<_;omega)).trans (b1.block _ (by show w.heap.size<_;omega)))
 ·intro j hj
  simp only [Sx.bl,List.mem_cons,List.not_mem_nil,or_false] at hj
  rcases hj with rfl|rfl|rfl <;>omega
 ·exact (bm.trans (b1.mono (by omega))).trans (bq.mono (by omega))
end
section
open Go.RowKit
structure VaV where
 k:Int
 n:Int
 f:Nat
 s:ByteArray
 deriving DecidableEq
structure VaV.ok (x:VaV):Prop where
 k0:0≤x.k
 k1:x.k≤255
 lo: -9223372036854775808≤x.n
 hi:x.n≤9223372036854775807
 ff:x.f<18446744073709551616
 ss:x.s.size≤maxLen
def VaV.c (x:VaV):List Value:=[.int .u8 x.k, .int .i64 x.n, .float .f64 x.f, .string x.s]
def VaV.v (x:VaV):Value:= .agg x.c.toArray
def zVa:VaV:=⟨0,0,0,⟨#[]⟩⟩
theorem Alo:zVa.ok:=⟨by decide,by decide,by decide,by decide,by decide,by decide⟩
theorem VaV.len (x:VaV):x.c.length=4:=rfl
theorem VaV.one (x:VaV):∀v∈x.c,v.oneCell'=true:=by
 intro v hv
 simp only [VaV.c,List.mem_cons,List.not_mem_nil,or_false] at hv
 rcases hv with rfl|rfl|rfl|rfl <;>rfl
structure MkV where
 id:IdK
 nm:ByteArray
 v:VaV
 fr:IdK
 to:IdK
 sd:Int
 deriving DecidableEq
structure MkV.ok (x:MkV):Prop where
 i:x.id.ok
 nm:x.nm.size≤maxLen
 v:x.v.ok
 fr:x.fr.ok
 to:x.to.ok
 s0: -9223372036854775808≤x.sd
 s1:x.sd≤9223372036854775807
def MkV.c (x:MkV):List Value:=x.id.c++(.string x.nm::(x.v.c++(x.fr.c++(x.to.c++[.int .i64 x.sd]))))
def MkV.a (x:MkV):Value:= .agg x.c.toArray
def zMk:MkV:=⟨zId,⟨#[]⟩,zVa,zId,zId,0⟩
theorem A0o:zMk.ok:=⟨Aay,by decide,Alo,Aay,Aay,by decide,by decide⟩
theorem MkV.len {x:MkV} (h:x.ok):x.c.length=105:=by simp [MkV.c,IdK.len h.i,IdK.len h.fr,IdK.len h.to,VaV.len]
theorem MkV.one (x:MkV):∀v∈x.c,v.oneCell'=true:=by
 intro v hv
 rcases List.mem_append.1 hv with h|h
 ·exact x.id.one v h
 ·rcases List.mem_cons.1 h with rfl|h
  ·rfl
  ·rcases List.mem_append.1 h with h|h
   ·exact x.v.one v h
   ·rcases List.mem_append.1 h with h|h
    ·exact x.fr.one v h
    ·rcases List.mem_append.1 h with h|h
     ·exact x.to.one v h
     ·rw [List.mem_singleton.1 h];rfl
def RM:Aae MkV:=⟨MkV.c,MkV.ok,105,184,95,85,zMk⟩
theorem Acs:RM.Is:=⟨A0o,fun _ h=>MkV.len h,MkV.one,underlying85,by kernel_rfl,⟨_,underlying95,rfl⟩,by decide,by decide⟩
structure SpV where
 fr:Int
 to:Int
 nm:ByteArray
 v:VaV
 deriving DecidableEq
structure SpV.ok (x:SpV):Prop where
 f0: -9223372036854775808≤x.fr
 f1:x.fr≤9223372036854775807
 t0: -9223372036854775808≤x.to
 t1:x.to≤9223372036854775807
 nm:x.nm.size≤maxLen
 v:x.v.ok
def SpV.c (x:SpV):List Value:= .int .i64 x.fr:: .int .i64 x.to:: .string x.nm::x.v.c
def SpV.a (x:SpV):Value:= .agg x.c.toArray
def Akg:SpV:=⟨0,0,⟨#[]⟩,zVa⟩
theorem Apw:Akg.ok:=⟨by decide,by decide,by decide,by decide,by decide,Alo⟩
theorem SpV.len (x:SpV):x.c.length=7:=rfl
theorem SpV.one (x:SpV):∀v∈x.c,v.oneCell'=true:=by
 intro v hv
 simp only [SpV.c,List.mem_cons] at hv
 rcases hv with rfl|rfl|rfl|h
 ·rfl
 ·rfl
 ·rfl
 ·exact x.v.one v h
def RSp:Aae SpV:=⟨SpV.c,SpV.ok,7,72,65,49,Akg⟩
theorem Aam:RSp.Is:=⟨Apw,fun x _=>SpV.len x,SpV.one,underlying49,by kernel_rfl,⟨_,underlying65,rfl⟩,by decide,by decide⟩
theorem Ac9 {W:World} {b o n:Nat} {A B C:List Value} (h:W.rangeAt b o (A++(B++C))) (hA:A.length=n):W.rangeAt b (o+n) B:=fun j v hv=>by
 have hj:=(List.getElem?_eq_some_iff.1 hv).1
 rw [Nat.add_assoc]
 exact h (n+j) v (by rw [List.getElem?_append_right (by omega),hA,show n+j-n=j by omega,List.getElem?_append_left hj];exact hv)
theorem Af2 {W:World} {b o n:Nat} {A C:List Value} {v:Value} (h:W.rangeAt b o (A++(v::C))) (hA:A.length=n):W.cell? ⟨b,o+n,none⟩=some v :=
 h n v (by rw [List.getElem?_append_right (by omega),hA,Nat.sub_self];rfl)
theorem A39:(prog.info? 40).map (·.size)=some 4:=by kernel_rfl
section
variable {W:World} {b o:Nat} {x:MkV}
theorem Ajj (x:MkV):x.c=(x.id.c++[.string x.nm])++(x.v.c++(x.fr.c++(x.to.c++[.int .i64 x.sd]))):=by simp [MkV.c]
theorem Ar5 (x:MkV):x.c=(x.id.c++[.string x.nm]++x.v.c)++(x.fr.c++(x.to.c++[.int .i64 x.sd])):=by simp [MkV.c]
theorem Ar4 (x:MkV):x.c=(x.id.c++[.string x.nm]++x.v.c++x.fr.c)++(x.to.c++[.int .i64 x.sd]):=by simp [MkV.c]
theorem Ar3 (x:MkV):x.c=(x.id.c++[.string x.nm]++x.v.c++x.fr.c++x.to.c)++(.int .i64 x.sd::[]):=by simp [MkV.c]
theorem A5j (hx:x.ok) (h:W.rangeAt b o x.c):(Instr.loadAt 36 (pZ b (o+0))).run prog W= .ok x.id.v W :=
 run_loadAt_mid (P:=prog) W b (o+0) 36 x.id.c _ (Ac9 (A:=[]) h rfl) underlying36 rfl (by rw [IdK.len hx.i];exact Alv)
theorem A5h (hx:x.ok) (h:W.rangeAt b o x.c):W.cell? ⟨b,o+33,none⟩=some (.string x.nm):=Af2 h (IdK.len hx.i)
theorem Ah2 (hx:x.ok) (h:W.rangeAt b o x.c):(Instr.loadAt 9 (pZ b (o+33))).run prog W= .ok (.string x.nm) W:=by
 have hc:=A5h hx h
 go_simp
theorem A7o (hx:x.ok) (h:W.rangeAt b o x.c):(Instr.loadAt 40 (pZ b (o+34))).run prog W= .ok x.v.v W :=
 run_loadAt_mid (P:=prog) W b (o+34) 40 x.v.c _ (Ac9 (Ajj x▸h) (by simp [IdK.len hx.i])) underlying40 rfl (by rw [VaV.len];exact A39)
theorem A5i (hx:x.ok) (h:W.rangeAt b o x.c):W.cell? ⟨b,o+34,none⟩=some (.int .u8 x.v.k):=by
 have:=Ac9 (Ajj x▸h) (n:=34) (by simp [IdK.len hx.i]) 0 (.int .u8 x.v.k) rfl
 exact this
theorem A2w (hx:x.ok) (h:W.rangeAt b o x.c):(Instr.loadAt 36 (pZ b (o+38))).run prog W= .ok x.fr.v W :=
 run_loadAt_mid (P:=prog) W b (o+38) 36 x.fr.c _ (Ac9 (Ar5 x▸h) (by simp [IdK.len hx.i,VaV.len])) underlying36 rfl (by rw [IdK.len hx.fr];exact Alv)
theorem A2u (hx:x.ok) (h:W.rangeAt b o x.c):(Instr.loadAt 36 (pZ b (o+71))).run prog W= .ok x.to.v W :=
 run_loadAt_mid (P:=prog) W b (o+71) 36 x.to.c _ (Ac9 (Ar4 x▸h) (by simp [IdK.len hx.i,IdK.len hx.fr,VaV.len])) underlying36 rfl (by rw [IdK.len hx.to];exact Alv)
theorem A5g (hx:x.ok) (h:W.rangeAt b o x.c):W.cell? ⟨b,o+104,none⟩=some (.int .i64 x.sd):=Af2 (Ar3 x▸h) (by simp [IdK.len hx.i,IdK.len hx.fr,IdK.len hx.to,VaV.len])
theorem A2v (hx:x.ok) (h:W.rangeAt b o x.c):(Instr.loadAt 3 (pZ b (o+104))).run prog W= .ok (.int .i64 x.sd) W:=by
 have hc:=A5g hx h
 go_simp
end
end
end Go.Proofs.YtifendlpeebofaaGreatDoor
