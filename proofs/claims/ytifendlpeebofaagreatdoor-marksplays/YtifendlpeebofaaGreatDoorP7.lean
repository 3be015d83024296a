import Derived.Test.YtifendlpeebofaaGreatDoorP0
import Derived.Test.YtifendlpeebofaaGreatDoorP6
import Derived.Maps.RangeRun
import Derived.Test.YtifendlpeebofaaGreatDoorP2
set_option linter.unusedSimpArgs false
set_option linter.unusedVariables false
set_option maxRecDepth 100000
set_option maxHeartbeats 4000000
namespace Go.Proofs.YtifendlpeebofaaGreatDoor
open Go.Proofs.Tryz
section
open Go.RowKit Go.Shelf Sq
attribute [local go_sem] Oper.semAt_some
def RnS (C:List SpV) (nm:ByteArray) (base pb:Nat) (P:PcV) (H:List Int) (X:List Nat) (a:Nat) (lv:Value) (w W:World):Prop:=RnI base pb P (Aaf C) H X lv (Adq C nm (Aaf C) a) w W
theorem A59 {w:World} {la:Option Addr} {C:List SpV} (hat:RSp.At w la C) (hne:C≠[]):∀j∈adB la,j<w.heap.size:=by
 intro j hj
 obtain ⟨b,o,e,hb,_⟩:=hat.get (i:=0) (List.length_pos_iff.2 hne)
 rw [e] at hj
 simp [adB] at hj
 omega
theorem A7x {C:List SpV} {j z:Int} (h:z=hI C 0 j) (hz:¬z= -1):∃(r:Nat) (c:SpV),z=r∧C[r]? =some c:=by
 unfold hI at h
 split at h
 ·rename_i r hr
  rw [if_pos (Nat.zero_le _)] at h
  exact ⟨r,_,h,List.getElem?_eq_getElem (Amu hr)⟩
 ·exact absurd h hz
theorem A15 {C:List SpV} {r:Nat} {c:SpV} (h:C[r]? =some c):Ap7 C (r:Int)=if c.v.k=0 then none else some c.v:=by
 unfold Ap7 A16
 rw [if_neg (by omega)]
 simp only [Int.toNat_natCast,h]
set_option maxHeartbeats 8000000 in
theorem Axk {w:World} {la:Option Addr} {lc:Nat} {C:List SpV} {nm:ByteArray} (hat:RSp.At w la C) (hC:Aps C nm) (hT:K.V.Tabs w) :
 Calls prog 64 #[.slice la C.length lc] w fun e w'=> ∃v,e= .returned v∧RSp.Own w' w.heap.size v (Adv C nm (Aaf C))∧Below w.heap.size w w':=by
 have k2:2≤(Aaf C).length:=by obtain ⟨c,hc⟩:=List.exists_mem_of_ne_nil C hC.ne;exact Af6 hc (hC.lt c hc)
 have kn:=Af7 C
 have CU:=Aaa (Auk (lc:=lc) hat hC.ok hC.lt hC.ne hC.len)
 have CF:=Aaa (fun (W:World) (pb:Nat) (P:PcV) (b:Below w.heap.size w W) (hp:Acj W w.heap.size pb P (Aaf C) (List.replicate ((Aaf C).length-1) (-1)) (List.range (Aaf C).length))=>(Ay7 (lc:=lc) (hat.below b) hC.ok hC.len (A59 hat hC.ne) b.size hp k2))
 have HAT:=Aaa (fun (W:World) (b:Below w.heap.size w W)=>hat.below b)
 have HT:=Aaa (fun (W:World) (b:Below w.heap.size w W)=>hT.below b)
 have HC:=Aaa hC
 obtain ⟨m,hm⟩:∃m,(Aaf C).length=m+1:=⟨(Aaf C).length-1,by omega⟩
 have HM:=Aaa hm
 have HK:=Aaa (show 1≤m∧m≤1800000000000 by have:=hC.len;omega)
 obtain ⟨n,hn⟩:∃n,C.length=n:=⟨_,rfl⟩
 have HN:=Aaa (show C.length=n∧n≤900000000000 from ⟨hn,by have:=hC.len;omega⟩)
 rw [hn] at CU CF ⊢
 clear hat hC hT k2 kn hm hn
 go_enter func64,ntmps64
 go_upto_region 1 with fail
 refine A87 (cv:= .slice la n lc) (fun pb W=> ∃P,Acj W w.heap.size pb P (Aaf C) (List.replicate ((Aaf C).length-1) (-1)) (List.range (Aaf C).length)∧Below w.heap.size w W) _ w _ rfl rfl (CU.out.mono ?_) ?_
 ·rintro e W ⟨pb,rfl,P,q⟩
  exact ⟨pb,rfl,P,q⟩
 rintro pb a' w1 ⟨P,hp,bl⟩ ha
 subst ha
 simp only [Act.put,qsA,qsB,qsC]
 clear CU
 have C2:=Aaa (CF.out w1 pb P bl hp)
 clear CF
 go_upto_region 2 with fail
 refine A86 (pb:=pb) (cv:= .slice la n lc) (fun W=> ∃H X,Acj W w.heap.size pb P (Aaf C) H X∧FD C (Aaf C) 0 H∧Below w.heap.size w W) _ w1 _ rfl rfl rfl (C2.out.mono ?_) ?_
 ·rintro e W ⟨rfl,H,X,q1,q2,q3⟩
  exact ⟨rfl,H,X,q1,q2,bl.trans (q3.below bl.size (fun j hj=>hp.ge (hj.elim (fun e=> .inr (.inr (.inl e))) (fun e=> .inr (.inr (.inr e))))))⟩
 rintro a' w2 ⟨H,X,hp2,hf,b2⟩ ha
 subst ha
 simp only [Act.put,qsA,qsB,qsC]
 clear hp bl C2
 have hl:H.length=m:=by have:=hf.len;have:=HM.out;omega
 have I0:=Aaa (show RnS C nm w.heap.size pb P H X 0 (.slice none 0 0) w w2 from ⟨hp2,Aae.own_nil _ _ _,b2⟩)
 have LH:=hp2.ldh
 obtain ⟨gh,ch,eh,_⟩:=hp2.geth (fun e=>by rw [e] at hl;have:=HK.out;simp at hl;omega)
 have EH:=Aaa eh
 rw [eh,hl] at LH
 have HF:=Aaa hf
 have HL:=Aaa hl
 clear hp2 b2 hf eh hl
 go_upto_region 4 with fail
 refine En.zqc tab rfl (En.st (LH) (En.fi ?_))
 intro a' w3 hw ha
 obtain rfl:w2=w3:=hw.symm
 subst ha
 simp only [En.pM,En.pU,Act.put,qsA,qsB,qsC]
 clear LH
 go_wp2
 go_loopw [4,19] (fun v4 v19 wr=> ∃i:Nat,v19= .int .i64 (i:Int)∧i≤m∧Hid (RnS C nm w.heap.size pb P H X i v4 w wr)) (fun _ v19 _=>m-(intOf v19).toNat)
 case atStart=>exact ⟨0,rfl,Nat.zero_le _,I0⟩
 case round =>
  clear I0
  obtain ⟨i,rfl,hi,HI⟩:=hrel
  by_cases h:i<m
  ·have h':(i:Int)<(m:Int):=by omega
   obtain ⟨z,hz⟩:∃z,H[i]? =some z:=⟨_,List.getElem?_eq_getElem (by have:=HL.out;omega)⟩
   have hzi:z=hI C 0 ((Aaf C).getD i 0):=HF.out.get i z _ hz (Ac6 (by have:=HM.out;omega))
   obtain ⟨gh2,ch2,eh2,ld2⟩:=HI.out.pc.geth (fun e=>by rw [e] at hz;cases hz)
   have LZ:=ld2 i z hz
   rw [EH.out] at eh2
   obtain ⟨rfl,rfl⟩:gh=gh2∧ch=ch2:=by cases eh2;exact ⟨rfl,rfl⟩
   have hm64:m≤9223372036854775807:=by have:=HK.out;omega
   have HH:=Aaa h
   have MS:m-(((i+1:Nat):Int)).toNat<m-((i:Nat):Int).toNat:=by simp only [Int.toNat_natCast];omega
   have HMS:=Aaa MS
   have HZ:=Aaa hzi
   clear ld2 eh2 hz hzi MS
   go_upto_region 6 with fail
   refine En.zqc tab rfl (En.st ((Awd h hm64 _)) (En.st (LZ) (En.fi ?_)))
   intro a' w3 hw ha
   obtain rfl:wr=w3:=hw.symm
   subst ha
   simp only [En.pM,En.pU,Act.put,qsA,qsB,qsC]
   clear LZ
   by_cases q:z= -1
   ·subst q
    have NS:Adq C nm (Aaf C) (i+1)=Adq C nm (Aaf C) i:=Ai6 (by rw [←HZ.out];rfl)
    have NI:=Aaa (show RnS C nm w.heap.size pb P H X (i+1) u4 w wr by unfold RnS;rw [NS];exact HI.out)
    clear HI
    go_upto_region 7 with fail
    refine En.zqc tab rfl (En.cm (rfl) (En.fi ?_))
    intro a' w3 hw ha
    obtain rfl:wr=w3:=hw.symm
    subst ha
    simp only [En.pM,En.pU,Act.put,qsA,qsB,qsC]
    go_wp2
    rw [show ((i:Int)+1)=((i+1:Nat):Int) by omega]
    exact ⟨⟨i+1,rfl,h,NI⟩,HMS.out⟩
   ·obtain ⟨r,c,rfl,hc⟩:=A7x HZ.out q
    have hrl:r<n:=by have:=(List.getElem?_eq_some_iff.1 hc).1;have:=HN.out;omega
    have hn64:n≤9223372036854775807:=by have:=HN.out;omega
    have bwr:w.heap.size≤wr.heap.size:=HI.out.bel.size
    have okc:=HC.out.ok c (List.mem_of_getElem? hc)
    obtain ⟨g,o,rfl,_,hr⟩:=(HAT.out wr HI.out.bel).get (i:=r) (by have:=HN.out;omega)
    have hr':wr.rangeAt g (o+7*r) c.c:=by
     have e:C[r]'(by have:=HN.out;omega)=c:=(List.getElem?_eq_some_iff.1 hc).2
     rw [e] at hr;exact hr
    have LK:=A2d hr'
    obtain ⟨t,ht⟩:∃t,decide (c.v.k=0)=t:=⟨_,rfl⟩
    have HV:=Aaa (show Ap7 C ((r:Int))=if c.v.k=0 then none else some c.v from A15 hc)
    have HCC:=Aaa hc
    have HR:=Aaa hr'
    have d1:decide ((r:Int)= -1)=false:=decide_eq_false q
    clear hr hr' hc
    go_upto_region 7 with fail
    refine En.zqc tab rfl (En.cm (c':=false) (d1) (En.st ((Acn hrl hn64 _)) (En.st (LK) (En.cm (c':=t) (ht) (En.fi ?_)))))
    intro a' w3 hw ha
    obtain rfl:wr=w3:=hw.symm
    subst ha
    simp only [En.pM,En.pU,Act.put,qsA,qsB,qsC]
    clear LK d1
    cases t with
    |true =>
     have NS:Adq C nm (Aaf C) (i+1)=Adq C nm (Aaf C) i:=Ai6 (by rw [←HZ.out,HV.out,if_pos (of_decide_eq_true ht)])
     have NI:=Aaa (show RnS C nm w.heap.size pb P H X (i+1) u4 w wr by unfold RnS;rw [NS];exact HI.out)
     clear HI
     go_wp2
     rw [show ((i:Int)+1)=((i+1:Nat):Int) by omega]
     exact ⟨⟨i+1,rfl,h,NI⟩,HMS.out⟩
    |false =>
     have hv:Ap7 C (hI C 0 ((Aaf C).getD i 0))=some c.v:=by rw [←HZ.out,HV.out,if_neg (of_decide_eq_false ht)]
     have NS:=Aaa (Axi (nm:=nm) hv)
     have hcm:=List.mem_of_getElem? HCC.out
     have PO:=HC.out.piece (a:=i) (by have:=HM.out;omega) hcm
     clear HZ HV ht hv
     have LX:=Aae.ld Aam okc HR.out
     have EA:=Aae.bx_zero Aam wr
     have ES:=Aae.bx_new Aam wr okc
     obtain ⟨hbx,hbl⟩:=Aae.bx_is RSp wr c
     clear HR
     go_upto_region 8 with fail
     refine En.zqc tab rfl (En.st ((Acn hrl hn64 _)) (En.st (LX) (En.ef (EA) (En.eu (ES) (En.fi ?_)))))
     intro a' w3 hw ha
     subst ha
     rw [←hw] at hbx hbl
     obtain ⟨w4,hw4⟩:∃w4,w3=w4:=⟨_,rfl⟩
     rw [hw4] at hbx hbl ⊢
     simp only [En.pM,En.pU,Act.put,qsA,qsB,qsC]
     clear LX EA ES hw hw4
     have I4:=HI.out.below bwr hbl
     have hbd:RSp.Bx w4.drew wr.heap.size c:=hbx
     have bdr:Below wr.heap.size wr w4.drew:=hbl.trans ((Below.refl _ _).drew)
     obtain ⟨f1,hb5⟩:=A8i hbd ((Aaf C).getD i 0)
     have b5:Below wr.heap.size w4.drew (w4.drew.setCell ⟨wr.heap.size,0,none⟩ (.int .i64 ((Aaf C).getD i 0))):=Adu (Nat.le_refl _)
     obtain ⟨w5,hw5⟩:∃w5,w4.drew.setCell ⟨wr.heap.size,0,none⟩ (.int .i64 ((Aaf C).getD i 0))=w5:=⟨_,rfl⟩
     rw [hw5] at f1 hb5 b5
     obtain ⟨f2,hb6⟩:=A8h hb5 ((Aaf C).getD (i+1) 0)
     have b6:Below wr.heap.size w5 (w5.setCell ⟨wr.heap.size,1,none⟩ (.int .i64 ((Aaf C).getD (i+1) 0))):=Adu (Nat.le_refl _)
     obtain ⟨w6,hw6⟩:∃w6,w5.setCell ⟨wr.heap.size,1,none⟩ (.int .i64 ((Aaf C).getD (i+1) 0))=w6:=⟨_,rfl⟩
     rw [hw6] at f2 hb6 b6
     have p4:=HI.out.pc.below bdr
     have p5:=HI.out.pc.below (bdr.trans b5)
     have I6:=Aaa (HI.out.below bwr ((bdr.trans b5).trans b6))
     have hnm:=HC.out.nm c hcm
     obtain ⟨x,hx⟩:∃x,(Aaf C).getD i 0=x:=⟨_,rfl⟩
     obtain ⟨y,hy⟩:∃y,(Aaf C).getD (i+1) 0=y:=⟨_,rfl⟩
     have kx:(Aaf C)[i]? =some x:=by rw [←hx];exact Ac6 (by have:=HM.out;omega)
     have ky:(Aaf C)[i+1]? =some y:=by rw [←hy];exact Ac6 (by have:=HM.out;omega)
     rw [hx] at f1
     rw [hy] at f2
     rw [hx,hy] at hb6 PO NS
     rw [hnm] at hb6
     have HB6:=Aaa hb6
     have HPO:=Aaa PO
     obtain ⟨gk,ck,ek,_⟩:=p4.k.at (fun e=>by rw [e] at kx;cases kx)
     have LK:∀W,Acj W w.heap.size pb P (Aaf C) H X→(Instr.loadAt 150 (pZ pb (0+0))).run prog W= .ok (.slice (some ⟨gk,0,none⟩) (m+1) ck) W:=fun W h=>by have:=h.ldk;rw [ek,HM.out] at this;exact this
     have LA:∀W,Acj W w.heap.size pb P (Aaf C) H X→(Instr.loadAt 3 (pZ gk i)).run prog W= .ok (.int .i64 x) W:=fun W h=>h.getk ek i x kx
     have LB:∀W,Acj W w.heap.size pb P (Aaf C) H X→(Instr.loadAt 3 (pZ gk (i+1))).run prog W= .ok (.int .i64 y) W:=fun W h=>h.getk ek (i+1) y ky
     have hE:(i:Int)+1=((i+1:Nat):Int):=by omega
     have hb1:((i+1:Nat):Int)≤9223372036854775807:=by omega
     have hm1:m+1≤9223372036854775807:=by have:=HK.out;omega
     clear hbx hbl I4 hbd bdr b5 hw5 b6 hw6 hb5 hb6 hx hy kx ky ek hnm PO HI hm64 hn64
     go_upto_region 9 with fail
     refine En.zyc tab [0,1,2,3,4,5,6,7,8,9,10,11,12,13,14,15,16,17,18] 18 (fun w'=>(fun W=>Acj W w.heap.size pb P (Aaf C) H X) w') (hS:=(p4)) (h:=En.sty (fun Xw Xh=>(LK _ Xh)) (En.sty (fun Xw Xh=>(Awd (by omega) hm1 _)) (En.sty (fun Xw Xh=>(LA _ Xh)) (En.sty (fun Xw Xh=>(LK _ Xh)) (En.ar (En.wE (hE) (hb1)) (En.sty (fun Xw Xh=>(Awd (by omega) hm1 _)) (En.sty (fun Xw Xh=>(LB _ Xh)) (En.euy (f1) (p5) (En.eu (f2) (En.fi ?_))))))))))
     intro a' w3 hw ha
     obtain rfl:w6=w3:=hw.symm
     subst ha
     simp only [En.pM,En.pU,Act.put,qsA,qsB,qsC]
     clear LK LA LB f1 f2 p4 p5 hE hb1 hm1
     have LOK:=Aaa (HC.out.runs i (by have:=HM.out;omega))
     have LL:=Agd C nm (Aaf C) i
     obtain ⟨L,hL⟩:∃L,Adq C nm (Aaf C) i=L:=⟨_,rfl⟩
     rw [hL] at NS I6 LL LOK
     have LLp:L.length+1≤2000000000000:=by have:=HK.out;omega
     have B6:wr.heap.size≤w6.heap.size:=Nat.le_of_lt (Array.getElem?_eq_some_iff.1 HB6.out).1
     clear hL
     obtain ⟨la,lcap,eu,_⟩:=Aae.Own.open Aam I6.out.row (fun q hq=>(LOK.out q hq).1)
     by_cases hl:L.length=0
     ·rw [hl] at eu
      have RS:=Aq3 (⟨x,y,nm,c.v⟩:SpV) hl
      go_upto_region 10 with fail
      refine A4s (n:=0) (c:=lcap) (m:= -1) (la:=la) _ w6 _ rfl eu (by decide) (by decide) ?_
      intro a' w3 hw ha
      obtain rfl:w6=w3:=hw.symm
      subst ha
      simp only [Act.put,qsA,qsB,qsC]
      go_upto_region 11 with fail
      refine En.zyc tab [0,1,2,3,4,5,6,7,8,9] 10 (fun w'=>w'=(World.drew w6)) (hS:=(rfl)) (h:=En.cm (c':=false) ((by decide)) (En.fi ?_))
      intro a' w3 hw ha
      have bd:Below w6.heap.size w6 w3:=by rw [hw];exact (Below.refl _ _).drew
      subst ha
      simp only [En.pM,En.pU,Act.put,qsA,qsB,qsC]
      have I7:=I6.out.below (Nat.le_trans bwr B6) bd
      have B7:=HB6.out.below bd
      have Z7:wr.heap.size≤w3.heap.size:=Nat.le_trans B6 bd.size
      clear hw bd eu
      obtain ⟨sv,y1,v2,y2,g1,g2,IP⟩:=RnI.push (I7) (Nat.le_trans bwr Z7) HPO.out.1 LLp
      have LQ:=Aae.ld Aam HPO.out.1 (Aae.Bx.rng B7)
      have NI:=Aaa (show RnS C nm w.heap.size pb P H X (i+1) v2 w y2 by unfold RnS;rw [NS.out,RS];exact IP)
      clear IP
      go_upto_region 13 with fail
      refine En.zqc tab rfl (En.st (LQ) (En.ef (g1) (En.ef (g2) (En.fi ?_))))
      intro a' w3 hw ha
      obtain rfl:y2=w3:=hw.symm
      subst ha
      simp only [En.pM,En.pU,Act.put,qsA,qsB,qsC]
      clear LQ g1 g2
      have hm64:m≤9223372036854775807:=by have:=HK.out;omega
      go_wp2
      rw [show ((i:Int)+1)=((i+1:Nat):Int) by omega]
      exact ⟨⟨i+1,rfl,HH.out,NI⟩,HMS.out⟩
     ·obtain ⟨k,hk⟩:∃k,L.length=k+1:=⟨L.length-1,by omega⟩
      obtain ⟨q0,_,hq0⟩:=Asb hk.symm
      have RS:=Aow (p:=(⟨x,y,nm,c.v⟩:SpV)) hk.symm hq0
      have QO:=LOK.out q0 (List.mem_of_getElem? hq0)
      obtain ⟨g,cap,eu2,hqr,hgl,hst⟩:=I6.out.grow (fun q hq=>(LOK.out q hq).1) hq0 y
      rw [hk] at eu2
      clear eu
      have k64:k+1≤9223372036854775807:=by omega
      go_upto_region 10 with fail
      refine A4s (n:=k+1) (c:=cap) (m:=(k:Int)) (la:=some ⟨g,0,none⟩) _ w6 _ rfl eu2 (by omega) (by omega) ?_
      intro a' w3 hw ha
      obtain rfl:w6=w3:=hw.symm
      subst ha
      simp only [Act.put,qsA,qsB,qsC]
      obtain ⟨t,ht⟩:∃t,decide (q0.to=x∧q0.v=c.v)=t:=⟨_,rfl⟩
      have CC:Calls prog 90 #[q0.a,SpV.a ⟨x,y,nm,c.v⟩] w6.drew fun e w'=>e= .returned (.bool t)∧Below w6.heap.size w6 w':=by
          refine (Ay3 QO.1 HPO.out.1 QO.2 HPO.out.2 ((HT.out w6 I6.out.bel).below (Below.refl _ _).drew)).mono ?_
          rintro e W ⟨rfl,b⟩
          exact ⟨by rw [←ht],((Below.refl _ _).drew).trans b⟩
      have LP:∀W,Below w6.heap.size w6 W→(Instr.loadAt 65 (pZ g (0+7*k))).run prog W= .ok q0.a W:=fun W b=>Aae.ld Aam QO.1 (Aar hqr (b.block g hgl))
      have LQ:∀W,Below w6.heap.size w6 W→(Instr.loadAt 65 (pZ wr.heap.size 0)).run prog W= .ok (SpV.a ⟨x,y,nm,c.v⟩) W:=fun W b=>Aae.ld Aam HPO.out.1 (Aae.Bx.rng (HB6.out.below b))
      have hge:decide ((k:Int)≥0)=true:=decide_eq_true (by omega)
      clear hqr QO
      go_upto_region 11 with fail
      refine A4r (g:=g) (n:=k+1) (c:=cap) (m:=k) (eb:=wr.heap.size) (p:=q0) (q:=⟨x,y,nm,c.v⟩) (r:=t) (fun W=>Below w6.heap.size w6 W) _ w6 _ rfl eu2 rfl rfl ((Below.refl _ _).drew) (by omega) k64 hge LP LQ CC ?_
      intro a' w7 b7 ha
      subst ha
      simp only [Act.put,qsA,qsB,qsC]
      clear LP LQ CC hge
      have I7:=I6.out.below (Nat.le_trans bwr B6) b7
      have B7:=HB6.out.below b7
      have Z7:wr.heap.size≤w7.heap.size:=Nat.le_trans B6 b7.size
      cases t with
      |true =>
       rw [if_pos (of_decide_eq_true ht)] at RS
       obtain ⟨w8,g1,g2⟩:=hst w7 b7
       have NI:=Aaa (show RnS C nm w.heap.size pb P H X (i+1) u4 w w8 by unfold RnS;rw [NS.out,RS];exact g2 (Nat.le_trans bwr B6))
       have LY:=Ag0 B7
       clear g2 hst I7
       go_upto_region 12 with fail
       refine A7h (g:=g) (n:=k+1) (c:=cap) (m:=k) (eb:=wr.heap.size) (y:=y) (w1:=w8) _ w7 _ rfl eu2 rfl rfl (by omega) k64 LY g1 ?_
       intro a' w3 hw ha
       obtain rfl:w8=w3:=hw.symm
       subst ha
       simp only [Act.put,qsA,qsB,qsC]
       clear LY g1
       have hm64:m≤9223372036854775807:=by have:=HK.out;omega
       go_wp2
       rw [show ((i:Int)+1)=((i+1:Nat):Int) by omega]
       exact ⟨⟨i+1,rfl,HH.out,NI⟩,HMS.out⟩
      |false =>
       rw [if_neg (of_decide_eq_false ht)] at RS
       clear hst
       obtain ⟨sv,y1,v2,y2,g1,g2,IP⟩:=RnI.push (I7) (Nat.le_trans bwr Z7) HPO.out.1 LLp
       have LQ:=Aae.ld Aam HPO.out.1 (Aae.Bx.rng B7)
       have NI:=Aaa (show RnS C nm w.heap.size pb P H X (i+1) v2 w y2 by unfold RnS;rw [NS.out,RS];exact IP)
       clear IP
       go_upto_region 13 with fail
       refine En.zqc tab rfl (En.st (LQ) (En.ef (g1) (En.ef (g2) (En.fi ?_))))
       intro a' w3 hw ha
       obtain rfl:y2=w3:=hw.symm
       subst ha
       simp only [En.pM,En.pU,Act.put,qsA,qsB,qsC]
       clear LQ g1 g2
       have hm64:m≤9223372036854775807:=by have:=HK.out;omega
       go_wp2
       rw [show ((i:Int)+1)=((i+1:Nat):Int) by omega]
       exact ⟨⟨i+1,rfl,HH.out,NI⟩,HMS.out⟩
  ·have h':¬((i:Int)<(m:Int)):=by omega
   obtain rfl:i=m:=by omega
   go_wp2
   go_ret
   have hI:=HI.out
   refine ⟨_,rfl, ?_,hI.bel⟩
   have:=hI.row
   unfold Adv
   rw [HM.out]
   exact this
theorem An3 (E:List Elt) (L:List MkV) (x:MkV) (nm:ByteArray):cvN E (L++[x]) nm=cvN E L nm++(if (cvE E x).fr<(cvE E x).to∧nm=x.nm then [cvE E x] else []):=by
 unfold cvN cvL
 rw [List.map_append,List.filter_append,List.filter_append]
 congr 1
 by_cases h:(cvE E x).fr<(cvE E x).to
 ·by_cases e:nm=x.nm
  ·have e2:(cvE E x).nm=nm:=e.symm
   rw [if_pos ⟨h,e⟩]
   simp [h,e2]
  ·have e2:¬(cvE E x).nm=nm:=fun q=>e q.symm
   rw [if_neg (fun q=>e q.2)]
   simp [h,e2]
 ·rw [if_neg (fun q=>h q.1)]
  simp [h]
theorem Aui (E:List Elt) (L:List MkV) (nm:ByteArray):(cvN E L nm).length≤L.length:=by
 unfold cvN cvL
 refine Nat.le_trans (List.length_filter_le _ _) (Nat.le_trans (List.length_filter_le _ _) ?_)
 rw [List.length_map]
 exact Nat.le_refl _
theorem Aug {E:List Elt} {L:List MkV} {nm:ByteArray} {c:SpV} (h:c∈cvN E L nm):∃x∈L,c=cvE E x:=by
 unfold cvN cvL at h
 obtain ⟨x,hx,e⟩:=List.mem_map.1 (List.mem_filter.1 (List.mem_filter.1 h).1).1
 exact ⟨x,hx,e.symm⟩
theorem A1l {w:World} {s:Sx} {E:List Elt} (h:Aak w s E) {x:MkV} (hx:x.ok):(cvE E x).ok:=by
 have b:=A6o h.lk.ok x
 have n:(Adg E true).length≤E.length:=List.length_filter_le _ _
 have f:=h.few
 exact ⟨by omega,by omega,by omega,by omega,hx.nm,hx.v⟩
theorem A4b (w:World):(zeroValue 49).run prog w= .ok (.slice none 0 0) w:=by kernel_rfl
structure Aip (W:World) (base fm:Nat) (D:List (ByteArray × Value)) (F:ByteArray→List SpV):Prop where
 m:M.MapAt W fm tx Ako D
 rows:∀k v,M.look D k=some v→RSp.Own W base v (F k)∧F k≠[]
 nil:∀k,M.look D k=none→F k=[]
 ds:∀k1 v1 k2 v2 j,M.look D k1=some v1→M.look D k2=some v2→k1≠k2→v1.ownBlock=some j→v2.ownBlock≠some j
 fb:base≤fm
section
variable {W W':World} {base fm:Nat} {D:List (ByteArray × Value)} {F:ByteArray→List SpV}
theorem Aip.below (h:Aip W base fm D F) (b:Below W.heap.size W W'):Aip W' base fm D F :=
 ⟨h.m.below (b.block _ h.m.lt),fun k v e=>⟨(h.rows k v e).1.below b,(h.rows k v e).2⟩,h.nil,h.ds,h.fb⟩
theorem Aip.new (w:World):(Instr.makeMap 117 none).run prog w= .ok (.map (some w.heap.size)) (w.alloc (.map #[] 0))∧Aip (w.alloc (.map #[] 0)) w.heap.size w.heap.size [] (fun _=>[])∧Below w.heap.size w (w.alloc (.map #[] 0)) :=
 ⟨by simp [Instr.makeMap,run_underlying underlying117],⟨M.MapAt.new w tx Ako,fun k v e=>(by cases e),fun _ _=>rfl,fun _ _ _ _ _ e=>(by cases e),Nat.le_refl _⟩,(Below.refl _ _).alloc (Nat.le_refl _) _⟩
def uV (D:List (ByteArray × Value)) (k:ByteArray):Value:=(M.look D k).getD (.slice none 0 0)
theorem Aip.lookr (h:M.MapAt W fm tx Ako D) {k:ByteArray} (hk:Ako k):(Instr.lookup 117 (.map (some fm)) (.string k) false).run prog W= .ok (uV D k) W:=by
 have:=M.run_look Awv underlying117 h k hk (A4b W) false
 rw [show (Value.string k)=tx k from rfl,this]
 rfl
theorem Aip.own (h:Aip W base fm D F) (k:ByteArray):RSp.Own W base (uV D k) (F k):=by
 unfold uV
 cases e:M.look D k with
 |none=>rw [h.nil k e];exact Aae.own_nil _ _ _
 |some v=>exact (h.rows k v e).1
theorem Aip.push (h:Aip W base fm D F) (hb:base≤W.heap.size) {k:ByteArray} (hk:Ako k) {x:SpV} (hx:x.ok) (hl:(F k).length+1≤2000000000000) :
 ∃sv w1 v2 w2 w3,(Instr.buildSlice 49 1 #[(0,x.a)]).run prog W= .ok sv w1∧Below W.heap.size W w1∧(Builtin.append_ #[49,49] 49 #[uV D k,sv]).run prog w1= .ok v2 w2∧(∀j,j<W.heap.size→(uV D k).ownBlock≠some j→w2.heap[j]? =W.heap[j]?)∧M.MapAt w2 fm tx Ako D∧(Instr.mapUpdate 117 (.map (some fm)) (.string k) v2).run prog w2= .ok () w3∧Below base W w3∧Aip w3 base fm (M.put D k v2) (fun k'=>if k'=k then F k++[x] else F k'):=by
 have ho:=h.own k
 obtain ⟨u,hu⟩:∃u,uV D k=u:=⟨_,rfl⟩
 rw [hu] at ho ⊢
 obtain ⟨sv,w1,v',w2,e1,e2,o,b1,z1,g,q⟩:=Aae.run_push Aam W base u (F k) x ho hx (by unfold maxLen;omega) (by show _*72≤_;omega) hb
 have no:∀j,u.ownBlock=some j→base≤j∧∃c,W.heap[j]? =some (.cells c RSp.e (0,0)):=fun j hj=>ho.cells hj
 have k2:∀j,j<W.heap.size→u.ownBlock≠some j→w2.heap[j]? =W.heap[j]? :=fun j hj hn=>(g.block j (Nat.lt_of_lt_of_le hj b1.size) (fun e=>hn e.symm)).trans (b1.block j hj)
 obtain ⟨⟨es,ck,hfm,_⟩,_⟩:=h.m
 have nf:u.ownBlock≠some fm:=fun e=>by
  obtain ⟨_,c,hc⟩:=no fm e
  rw [hfm] at hc;cases hc
 have m2:M.MapAt w2 fm tx Ako D:=h.m.below (k2 fm h.m.lt nf)
 obtain ⟨ob,ep,mp⟩:=M.run_put (P:=prog) (w:=w2) Awv underlying117 m2 k hk v'
 have lk:=M.put_look D k v' h.m.2.1
 have vf:v'.ownBlock≠some fm:=fun e=>by
  rcases q with q|q
  ·rw [q] at e;exact nf e
  ·rw [q] at e
   have:=h.m.lt
   cases e
   have:=b1.size
   omega
 have o3:RSp.Own (M.setM w2 fm ob) base v' (F k++[x]):=o.keep (fun j hj=>M.setM_other _ (fun e=>vf (by rw [←e];exact hj)))
 have dsu:∀kk v2 j,M.look D kk=some v2→kk≠k→v2.ownBlock=some j→u.ownBlock≠some j:=fun kk v2 j e hne hj hu2=>by
  unfold uV at hu
  cases el:M.look D k with
  |none=>rw [el] at hu;subst hu;cases hu2
  |some v =>
   rw [el] at hu
   have hu':v=u:=by rw [Option.getD_some] at hu;exact hu
   subst hu'
   exact h.ds kk v2 k v j e el hne hj hu2
 have dsv:∀kk v2 j,M.look D kk=some v2→kk≠k→v2.ownBlock=some j→v'.ownBlock≠some j:=fun kk v2 j e hne hj hv=>by
  rcases q with q|q
  ·rw [q] at hv;exact dsu kk v2 j e hne hj hv
  ·rw [q] at hv
   cases hv
   have:=(h.rows kk v2 e).1.lt hj
   have:=b1.size
   omega
 refine ⟨sv,w1,v',w2,M.setM w2 fm ob,e1,b1,e2,k2,m2,ep, ?_,mp,fun k' v e=> ?_,fun k' e=> ?_,fun k1 v1 k3 v3 j a1 a3 hne hj=> ?_,h.fb⟩
 ·exact M.setM_below _ ((b1.mono hb).trans ((Below.refl _ _).grown g (Nat.le_trans hb b1.size) (fun k e=>(no k e).1))) h.fb
 ·rw [lk k'] at e
  by_cases hc:k'=k
  ·rw [if_pos hc] at e ⊢
   cases e
   exact ⟨o3,by simp⟩
  ·rw [if_neg hc] at e ⊢
   obtain ⟨r1,r2⟩:=h.rows k' v e
   refine ⟨r1.keep (fun j hj=> ?_),r2⟩
   have nj:j≠fm:=fun e2=>by
      obtain ⟨_,c,hcc⟩:=r1.cells hj
      rw [e2,hfm] at hcc;cases hcc
   rw [M.setM_other _ nj]
   exact k2 j (r1.lt hj) (dsu k' v j e hc hj)
 ·rw [lk k'] at e
  by_cases hc:k'=k
  ·rw [if_pos hc] at e;cases e
  ·rw [if_neg hc] at e ⊢
   exact h.nil k' e
 ·rw [lk k1] at a1
  rw [lk k3] at a3
  by_cases h1:k1=k
  ·rw [if_pos h1] at a1
   cases a1
   have h3:k3≠k:=fun e=>hne (by rw [h1,e])
   rw [if_neg h3] at a3
   exact fun e=>dsv k3 v3 j a3 h3 e hj
  ·rw [if_neg h1] at a1
   by_cases h3:k3=k
   ·rw [if_pos h3] at a3
    cases a3
    exact dsv k1 v1 j a1 h1 hj
   ·rw [if_neg h3] at a3
    exact h.ds k1 v1 k3 v3 j a1 a3 hne hj
end
attribute [local go_sem] Oper.semAt_some
def CvS (w:World) (fm:Nat) (E:List Elt) (L:List MkV) (W:World):Prop:=∃D,Aip W w.heap.size fm D (fun nm=>cvN E L nm)∧Below w.heap.size w W
theorem CvS.skip {w W W':World} {fm:Nat} {E:List Elt} {L:List MkV} {x:MkV} (h:CvS w fm E L W) (b:Below W.heap.size W W') (hx:¬(cvE E x).fr<(cvE E x).to):CvS w fm E (L++[x]) W':=by
 obtain ⟨D,c,bl⟩:=h
 refine ⟨D, ?_,bl.trans (b.mono bl.size)⟩
 rw [show (fun nm=>cvN E (L++[x]) nm)=fun nm=>cvN E L nm from funext fun nm=>by rw [An3,if_neg (fun q=>hx q.1),List.append_nil]]
 exact c.below b
theorem A32 {E:List Elt} {L:List MkV} {x:MkV} (hx:(cvE E x).fr<(cvE E x).to):(fun nm=>cvN E (L++[x]) nm)=fun k'=>if k'=x.nm then cvN E L x.nm++[cvE E x] else cvN E L k':=by
 funext nm
 rw [An3]
 by_cases h:nm=x.nm
 ·rw [if_pos ⟨hx,h⟩,if_pos h,h]
 ·rw [if_neg (fun q=>h q.2),if_neg h,List.append_nil]
theorem CvS.more {w W:World} {fm:Nat} {E:List Elt} {L:List MkV} {x:MkV} {p:SpV} {D:List (ByteArray × Value)} (hp:cvE E x=p) (hl:(cvE E x).fr<(cvE E x).to) (c:Aip W w.heap.size fm D (fun k'=>if k'=x.nm then cvN E L x.nm++[p] else cvN E L k')) (b:Below w.heap.size w W):CvS w fm E (L++[x]) W:=by
 subst hp
 rw [←A32 hl] at c
 exact ⟨D,c,b⟩
set_option maxHeartbeats 8000000 in
theorem Apm {w:World} {s:Sx} {E:List Elt} {base:Nat} {m:Mx} (h:Aak w s E) (hm:Acl w base m) :
 Calls prog 63 #[(pZ m.mb 0), (pZ s.sb 0)] w fun e w'=> ∃fm,e= .returned (.map (some fm))∧CvS w fm E m.L w':=by
 obtain ⟨E1,C1,b1⟩:=Aip.new w
 obtain ⟨w1,hw1⟩:∃w1,w.alloc (.map #[] 0)=w1:=⟨_,rfl⟩
 rw [hw1] at E1 C1 b1
 obtain ⟨la,lc,elv,hat⟩:=hm.lvS
 have LL:=(hm.below b1).ldl
 rw [elv] at LL
 have HH:=Aaa (fun (W:World) (b:Below w.heap.size w W)=>h.below b)
 have HOK:=Aaa (fun x hx=>A1l (x:=x) h hx)
 have RN:=Aaa (fun x=>Agg h.lk.ok x)
 have FEW:=Aaa h.few
 have HAT:=Aaa (fun (W:World) (b:Below w.heap.size w W)=>hat.below b)
 have MOK:=Aaa hm.ok
 obtain ⟨n,hn⟩:∃n,m.L.length=n:=⟨_,rfl⟩
 have HN:=Aaa (show m.L.length=n∧n≤900000000000 from ⟨hn,by rw [←hn];exact hm.n⟩)
 rw [hn] at LL
 obtain ⟨fm,hfm⟩:∃fm,w.heap.size=fm:=⟨_,rfl⟩
 have I0:=Aaa (show CvS w fm E (m.L.take 0) w1 from ⟨[],by rw [←hfm];exact C1,b1⟩)
 rw [hfm] at E1
 clear hw1 C1 b1 elv hat h hm hn hfm
 go_enter func63,ntmps63
 go_upto_region 1 with fail
 refine En.zqc tab rfl (En.ef (E1) (En.fi ?_))
 intro a' w3 hw ha
 obtain rfl:w1=w3:=hw.symm
 subst ha
 simp only [En.pM,En.pU,Act.put,qsA,qsB,qsC]
 clear E1
 go_upto_region 2 with fail
 refine En.zqc tab rfl (En.st (LL) (En.fi ?_))
 intro a' w3 hw ha
 obtain rfl:w1=w3:=hw.symm
 subst ha
 simp only [En.pM,En.pU,Act.put,qsA,qsB,qsC]
 clear LL
 go_wp2
 go_loopw [17] (fun v17 wr=> ∃i:Nat,v17= .int .i64 (i:Int)∧i≤n∧Hid (CvS w fm E (m.L.take i) wr)) (fun v17 _=>n-(intOf v17).toNat)
 case atStart=>exact ⟨0,rfl,Nat.zero_le _,I0⟩
 case round =>
  clear I0
  obtain ⟨i,rfl,hi,HI⟩:=hrel
  by_cases h:i<n
  ·have h':(i:Int)<(n:Int):=by omega
   have hn64:n≤9223372036854775807:=by have:=HN.out;omega
   obtain ⟨x,hx⟩:∃x,m.L[i]? =some x:=⟨_,List.getElem?_eq_getElem (by have:=HN.out;omega)⟩
   have MX:=Aaa (MOK.out x (List.mem_of_getElem? hx))
   have TK:=Aaa (show m.L.take (i+1)=m.L.take i++[x] by rw [List.take_add_one,hx];rfl)
   have MS:=Aaa (show n-(((i+1:Nat):Int)).toNat<n-((i:Nat):Int).toNat by simp only [Int.toNat_natCast];omega)
   have HH1:=Aaa h
   obtain ⟨D,HC,hbl⟩:∃D,Hid (Aip wr w.heap.size fm D (fun nm=>cvN E (m.L.take i) nm))∧Hid (Below w.heap.size w wr):=by
        obtain ⟨D,c,b⟩:=HI.out
        exact ⟨D,Aaa c,Aaa b⟩
   obtain ⟨g,o,rfl,_,hr⟩:=(HAT.out wr hbl.out).get (i:=i) (by have:=HN.out;omega)
   have hr':wr.rangeAt g (o+105*i) x.c:=by
        have e:m.L[i]'(by have:=HN.out;omega)=x:=(List.getElem?_eq_some_iff.1 hx).2
        rw [e] at hr;exact hr
   have LX:=Aae.ld Acs MX.out.1 hr'
   have EA:=Aae.bx_zero Acs wr
   have ES:=Aae.bx_new Acs wr MX.out.1
   obtain ⟨hbx,hbb⟩:=Aae.bx_is RM wr x
   clear hr hr' hx
   go_upto_region 4 with fail
   refine En.zqc tab rfl (En.st ((Ays h hn64 _)) (En.st (LX) (En.ef (EA) (En.eu (ES) (En.fi ?_)))))
   intro a' w3 hw ha
   subst ha
   rw [←hw] at hbx hbb
   obtain ⟨w4,hw4⟩:∃w4,w3=w4:=⟨_,rfl⟩
   rw [hw4] at hbx hbb ⊢
   simp only [En.pM,En.pU,Act.put,qsA,qsB,qsC]
   clear LX EA ES hw hw4
   obtain ⟨f,t,hft,hf,ht⟩:=RN.out x
   have b4:=hbl.out.trans (hbb.mono hbl.out.size)
   have RC:=Aaa (Ajc (HH.out w4 b4) MX.out.1 MX.out.2 hbx)
   have HFT:=Aaa hft
   have HB4:=Aaa (And.intro hbx hbb)
   have hF:=Aaa (show cvE E x=⟨Aem E (f:Int),Aem E (t:Int),x.nm,x.v⟩ by unfold cvE;rw [hft])
   rw [hft] at RC
   clear hbx hbb b4 hft
   go_upto_region 5 with fail
   refine En.zqc tab rfl (En.ca (RC.out) ?_)
   rintro _ w5_ ⟨rfl,HF⟩
   refine ⟨_,rfl,En.fi ?_⟩
   intro a' w5 b50 ha
   have b5:=HF
   obtain rfl:w5=w5_:=b50
   subst ha
   simp only [En.pM,En.pU,Act.put,qsA,qsB,qsC]
   clear RC
   have hb05:Below wr.heap.size wr w5:=HB4.out.2.trans (b5.mono HB4.out.2.size)
   have hbx5:=HB4.out.1.below b5
   have B05:=Aaa hb05
   have BX5:=Aaa hbx5
   clear hb05 hbx5 b5 HB4
   have hfe:=FEW.out
   have H5:∀W,Below w5.heap.size w5 W→Aak W s E:=fun W b=>HH.out W ((hbl.out.trans (B05.out.mono hbl.out.size)).trans (b.mono (Nat.le_trans hbl.out.size B05.out.size)))
   have IX:∀(r:Nat),r≤E.length→∀W,Below w5.heap.size w5 W→Calls prog 55 #[(pZ s.sb 0), .int .i64 (r:Int)] W fun e w1=>e= .returned (.int .i64 (Aem E (r:Int)))∧Below W.heap.size W w1:=fun r hr W b=>Adz (H5 W b) (by omega)
   have okp:=HOK.out x MX.out.1
   rw [hF.out] at okp
   have IF:=IX f hf
   have IT:=IX t ht
   clear IX H5 hfe
   obtain ⟨fi,hfi⟩:∃fi,Aem E (f:Int)=fi:=⟨_,rfl⟩
   obtain ⟨ti,hti⟩:∃ti,Aem E (t:Int)=ti:=⟨_,rfl⟩
   rw [hfi] at IF okp hF
   rw [hti] at IT okp hF
   clear hfi hti
   go_upto_region 6 with fail
   refine A90 (sb:=s.sb) (eb:=wr.heap.size) (f:=(f:Int)) (t:=(t:Int)) (fi:=fi) (ti:=ti) (x:=x) (fun W=>Below w5.heap.size w5 W) (fun pb W=>Below w5.heap.size w5 W∧w5.heap.size≤pb∧RSp.Bx W pb Akg) (fun pb W=>Below w5.heap.size w5 W∧w5.heap.size≤pb∧RSp.Bx W pb ⟨fi,ti,x.nm,x.v⟩) _ w5 _ rfl rfl rfl rfl rfl ((Below.refl _ _).drew) (fun _ _ h=>h.1) (fun _ _ h=>h.1) (fun W b=>Ah2 MX.out.1 (Aae.Bx.rng (BX5.out.below b))) (fun W b=>A7o MX.out.1 (Aae.Bx.rng (BX5.out.below b)))
        (fun W b=>(IF W b).mono fun e W1 q=>⟨q.1,b.trans (q.2.mono b.size)⟩) (fun W b=>(IT W b).mono fun e W1 q=>⟨q.1,b.trans (q.2.mono b.size)⟩)
        (fun pb W b=>(IF W b.1).mono fun e W1 q=>⟨q.1,b.1.trans (q.2.mono b.1.size),b.2.1,b.2.2.below q.2⟩) (fun pb W b=>(IT W b.1).mono fun e W1 q=>⟨q.1,b.1.trans (q.2.mono b.1.size),b.2.1,b.2.2.below q.2⟩)
        (fun W b=>⟨_,_,Aae.bx_zero Aam W,b.trans ((Aae.bx_is RSp W Akg).2.mono b.size),b.size,(Aae.bx_is RSp W Akg).1⟩)
        (fun pb W b=>⟨_,Aae.bx_store Aam Apw okp b.2.2,b.1.trans (Aby _ b.1.size b.2.1),b.2.1,setRow_heap W pb _ _ _ _ b.2.2⟩) ?_ ?_ ?_
   all_goals
        rintro pb a' w6 ⟨b6,hpb,hb6⟩ ha
        subst ha
        simp only [Act.put,qsA,qsB,qsC]
        have b06:Below wr.heap.size wr w6:=B05.out.trans (b6.mono B05.out.size)
        have bx6:=BX5.out.below b6
        have PB:=Aaa (Nat.le_trans B05.out.size hpb)
        have PL:=Aaa (Array.getElem?_eq_some_iff.1 hb6).1
        obtain ⟨r,hr⟩:∃r,decide (fi<ti)=r:=⟨_,rfl⟩
        have L1:=Aiy hb6
        have L2:=Ag0 hb6
        have B06:=Aaa b06
        have BX6:=Aaa bx6
        have HB6:=Aaa hb6
        clear b6 hpb hb6 b06 bx6
        go_upto_region 7 with fail
        refine En.zqc tab rfl (En.st (L1) (En.st (L2) (En.cm (c':=r) (hr) (En.fi ?_))))
        intro a' w3 hw ha
        obtain rfl:w6=w3:=hw.symm
        subst ha
        simp only [En.pM,En.pU,Act.put,qsA,qsB,qsC]
        clear L1 L2
        have H:=HH1.out
        cases r with
        |false =>
         have NI:=Aaa (show CvS w fm E (m.L.take (i+1)) w6 by
          rw [TK.out]
          exact CvS.skip HI.out B06.out (by rw [hF.out];exact of_decide_eq_false hr))
         clear HI HC
         go_wp2
         rw [show ((i:Int)+1)=((i+1:Nat):Int) by omega]
         exact ⟨⟨i+1,rfl,H,NI⟩,MS.out⟩
        |true =>
         have B6d:Below wr.heap.size wr w6.drew:=B06.out.trans ((Below.refl _ _).drew)
         have C6:=HC.out.below B6d
         have ltp:(cvE E x).fr<(cvE E x).to:=by rw [hF.out];exact of_decide_eq_true hr
         have nmk:Ako x.nm:=MX.out.1.nm
         have lnk:(cvN E (m.L.take i) x.nm).length+1≤2000000000000:=by
          have:=Aui E (m.L.take i) x.nm
          rw [List.length_take] at this
          have:=HN.out
          omega
         obtain ⟨sv,y1,v2,y2,y3,g1,bb1,g2,k2,m2,g3,b3,C7⟩:=C6.push (Nat.le_trans hbl.out.size B6d.size) nmk okp lnk
         have NI:=Aaa (show CvS w fm E (m.L.take (i+1)) y3 by
          rw [TK.out]
          exact CvS.more hF.out ltp C7 ((hbl.out.trans (B6d.mono hbl.out.size)).trans b3))
         have ow:∀j,(uV D x.nm).ownBlock=some j→j<wr.heap.size:=fun j hj=>(HC.out.own x.nm).lt hj
         have ne1:(uV D x.nm).ownBlock≠some wr.heap.size:=fun e=>Nat.lt_irrefl _ (ow _ e)
         have ne2:(uV D x.nm).ownBlock≠some pb:=fun e=>Nat.lt_irrefl _ (Nat.lt_of_lt_of_le (ow _ e) PB.out)
         have X6:RM.Bx w6.drew wr.heap.size x:=BX6.out
         have P6:RSp.Bx w6.drew pb ⟨fi,ti,x.nm,x.v⟩:=HB6.out
         have l1:=(Array.getElem?_eq_some_iff.1 X6).1
         have l2:=(Array.getElem?_eq_some_iff.1 P6).1
         have S2:M.MapAt y2 fm tx Ako D∧RM.Bx y2 wr.heap.size x∧RSp.Bx y2 pb ⟨fi,ti,x.nm,x.v⟩:=⟨m2,(k2 _ l1 ne1).trans X6,(k2 _ l2 ne2).trans P6⟩
         have S1:M.MapAt y1 fm tx Ako D∧RM.Bx y1 wr.heap.size x∧RSp.Bx y1 pb ⟨fi,ti,x.nm,x.v⟩:=⟨C6.m.below (bb1.block _ C6.m.lt),X6.below bb1,P6.below bb1⟩
         have S0:M.MapAt w6.drew fm tx Ako D∧RM.Bx w6.drew wr.heap.size x∧RSp.Bx w6.drew pb ⟨fi,ti,x.nm,x.v⟩:=⟨C6.m,X6,P6⟩
         clear HI HC B6d C6 ltp lnk bb1 k2 m2 b3 C7 ow ne1 ne2 X6 P6 l1 l2 B06 BX6 HB6
         go_upto_region 8 with fail
         refine A9z (fm:=fm) (eb:=wr.heap.size) (sb:=pb) (p:=⟨fi,ti,x.nm,x.v⟩) (x:=x) (u:=uV D x.nm) (sv:=sv) (v2:=v2) (w1:=y1) (w2:=y2) (w3:=y3) (fun W=>M.MapAt W fm tx Ako D∧RM.Bx W wr.heap.size x∧RSp.Bx W pb ⟨fi,ti,x.nm,x.v⟩) _ w6 _ rfl rfl rfl rfl S0 (fun W q=>Ah2 MX.out.1 (Aae.Bx.rng q.2.1)) (fun W q=>Aae.ld Aam okp (Aae.Bx.rng q.2.2)) (fun W q=>Aip.lookr q.1 nmk) g1 S1 g2 S2 g3 ?_
         intro a' w3 hw ha
         obtain rfl:y3=w3:=hw.symm
         subst ha
         simp only [Act.put,qsA,qsB,qsC]
         clear g1 g2 g3 S0 S1 S2
         go_wp2
         rw [show ((i:Int)+1)=((i+1:Nat):Int) by omega]
         exact ⟨⟨i+1,rfl,H,NI⟩,MS.out⟩
  ·have h':¬((i:Int)<(n:Int)):=by omega
   obtain rfl:i=n:=by omega
   go_wp2
   go_ret
   refine ⟨_,rfl, ?_⟩
   have:=HI.out
   rw [List.take_of_length_le (by have:=HN.out;omega)] at this
   exact this
end
section
open Go.RowKit
def Aw5:Array Oper:=(⟨_,rfl⟩:{o // some o=rgB Tryz.f25 6}).1
theorem A8z {rb:Nat} {kx vx:Value} (a:Act) (w:World) (Q:Exit→Act→World→Prop) (zz:a.tmps.size=25)
 (t13:a.tmps.getD 13 undef= (pZ rb 0))
 (EE:(Instr.entry (pZ rb 0)).run prog w= .ok (.tuple #[kx,vx]) w)
 (h:∀a' w',w'=w→a'=((a.put (some 16) (.tuple #[kx,vx])).put (some 17) (vx)).put (some 7) (vx)→Q .normal a' w') :
 (Code.region 6 Aw5 false).wp prog Q a w:=by
 refine z0 rfl ?_
 refine zv (v:= .tuple #[kx,vx]) rfl (Ala rfl (zi t13 rfl) EE) ?_
 refine zv rfl (Aal rfl (zg zz rfl) rfl) ?_
 refine zv rfl (xas rfl (zg zz rfl)) ?_
 exact ze rfl (h _ _ (rfl) rfl)
end
namespace M
open Go.RowKit Go.ChangeMaps
section
variable {P:Program} {κ:Type}
def kv (e:MapEntry):Value × Value:=(e.key,e.val)
def Iter (w:World) (b r:Nat) (enc:κ→Value) (E T:List (κ × Value)):Prop :=
 ∃es clock since seen c0,w.heap[b]? =some (.map es clock)∧es.toList.map (fun e=>(e.key,e.val))=E.map (fun p=>(enc p.1,p.2))∧Stamps (es.toList.map (·.born)) clock ∧
  w.heap[r]? =some (.mapIter (some b) since seen c0)∧(∀x∈es.toList,x.born<since)∧since≤c0∧since≤clock∧(leftOf es seen).toList.map (fun e=>(e.key,e.val))=T.map (fun p=>(enc p.1,p.2))
def Now (w:World) (b r:Nat) (x y:Value):Prop :=
 ∃(es:Array MapEntry) (clock since:Nat) (seen:Array Nat) (e:MapEntry),w.heap[r]? =some (.mapIter (some b) since (seen.push e.born) clock)∧w.heap[b]? =some (.map es clock)∧e∈es.toList∧(es.toList.map (·.born)).Nodup∧e.key=x∧e.val=y
theorem Iter.same {w w':World} {b r:Nat} {enc:κ→Value} {E T:List (κ × Value)} (h:Iter w b r enc E T) (hb:w'.heap[b]? =w.heap[b]?) (hr:w'.heap[r]? =w.heap[r]?):Iter w' b r enc E T:=by
 obtain ⟨es,c,s,n,c0,h1,h2,h3,h4,h5⟩:=h
 exact ⟨es,c,s,n,c0,hb.trans h1,h2,h3,hr.trans h4,h5⟩
theorem Now.run {w:World} {b r:Nat} {x y:Value} (h:Now w b r x y):(Instr.entry (pZ r 0)).run P w= .ok (.tuple #[x,y]) w:=by
 obtain ⟨es,c,s,n,e,h1,h2,h3,h4,rfl,rfl⟩:=h
 exact run_entry_at w r b s n es c e h1 h2 h3 h4
theorem range_any {t k e:TypeId} {w:World} {b:Nat} {enc:κ→Value} {V:κ→Prop} {E:List (κ × Value)} (ht:P.underlying t=some (.map k e)) (h:MapAt w b enc V E) :
 ∃w',(Instr.range t (.map (some b))).run P w= .ok (pZ w.heap.size 0) w'∧Iter w' b w.heap.size enc E E∧w'.heap.size=w.heap.size+1∧Below w.heap.size w w':=by
 have hlt:=h.lt
 obtain ⟨⟨es,c,hb,he,hs⟩,hn,hV⟩:=h
 refine ⟨_,run_range_map w t k e b es c ht hb,⟨es,c,c, #[],c,(heap_alloc_old w _ hlt).trans hb,he,hs,heap_alloc_new _ _,fun x hx=>hs.1 _ (List.mem_map.2 ⟨x,hx,rfl⟩),Nat.le_refl _,Nat.le_refl _, ?_⟩,by simp,(Below.refl _ _).alloc (Nat.le_refl _) _⟩
 rw [show leftOf es #[]=es by simp [leftOf]]
 exact he
theorem next_any {ty:TypeId} {w:World} {b r:Nat} {enc:κ→Value} {E T:List (κ × Value)} (h:Iter w b r enc E T) :
 (T=[]∧(Instr.next (pZ r 0) false ty).run P w= .ok (.tuple #[.bool false]) w) ∨
 ∃A p B w',T=A++p::B∧(Instr.next (pZ r 0) false ty).run P w= .ok (.tuple #[.bool true,enc p.1,p.2]) w'∧Iter w' b r enc E (A++B)∧Now w' b r (enc p.1) p.2∧Tch (fun j=>j=r) w w'∧w'.heap.size=w.heap.size:=by
 obtain ⟨es,c,since,seen,c0,hb,he,hs,hr,hold,hsc,hc,hl⟩:=h
 have hrl:r<w.heap.size:=(Array.getElem?_eq_some_iff.1 hr).1
 have hne:b≠r:=by
  rintro rfl
  rw [hb] at hr
  cases hr
 rcases run_next_at (P:=P) w ty r b since c0 seen es c hr hb hold hsc with ⟨h0,hrun⟩|⟨e,hm,w1,hw1,hrun⟩
 ·left
  refine ⟨?_,hrun⟩
  have:(leftOf es seen).toList=[]:=by rw [←Array.length_toList] at h0;exact List.eq_nil_of_length_eq_zero h0
  rw [this] at hl
  simpa using hl.symm
 ·right
  obtain ⟨X,Y,hXY⟩:=List.append_of_mem hm
  rw [hXY,List.map_append,List.map_cons] at hl
  obtain ⟨A,T2,rfl,hA,hT2⟩:=List.map_eq_append_iff.1 hl.symm
  obtain ⟨p,B,rfl,hp,hB⟩:=List.map_eq_cons_iff.1 hT2
  have hk1:enc p.1=e.key:=(Prod.mk.inj hp).1
  have hk2:p.2=e.val:=(Prod.mk.inj hp).2
  have hmem:e∈es.toList:=by
   have:e∈leftOf es seen:=by simpa using hm
   unfold leftOf at this
   rw [Array.mem_filter] at this
   simpa using this.1
  have hsub:((leftOf es seen).toList.map (·.born)).Nodup:=by
   refine hs.2.sublist (List.Sublist.map _ ?_)
   unfold leftOf
   rw [Array.toList_filter]
   exact List.filter_sublist
  have hlf:(leftOf es (seen.push e.born)).toList=X++Y:=by
   have e1:leftOf es (seen.push e.born)=(leftOf es seen).filter (fun x=> !(x.born==e.born)):=by
        unfold leftOf
        rw [Array.filter_filter]
        congr 1
        funext x
        cases h1:(x.born==e.born) <;>cases h2:seen.contains x.born <;>simp_all [Array.contains_push]
   rw [e1,Array.toList_filter,hXY,List.filter_append,List.filter_cons]
   rw [hXY,List.map_append,List.map_cons] at hsub
   have hd:=List.nodup_append.1 hsub
   have hd2:=List.nodup_cons.1 hd.2.1
   rw [if_neg (by simp)]
   congr 1
   ·refine List.filter_eq_self.2 fun x hx=> ?_
    have:=hd.2.2 x.born (List.mem_map.2 ⟨x,hx,rfl⟩) e.born (List.mem_cons_self ..)
    simpa using this
   ·refine List.filter_eq_self.2 fun x hx=> ?_
    have:x.born≠e.born:=fun q=>hd2.1 (by rw [←q];exact List.mem_map.2 ⟨x,hx,rfl⟩)
    simpa using this
  have hw:∀j:Nat,w1.heap[j]? =w.heap[j]? :=fun j=>by rcases hw1 with rfl|rfl <;>rfl
  have hsz:w1.heap.size=w.heap.size:=by rcases hw1 with rfl|rfl <;>rfl
  have hrr:(setBlock w1 r (.mapIter (some b) since (seen.push e.born) c)).heap[r]? =some (.mapIter (some b) since (seen.push e.born) c):=by
   simp [setBlock,hsz,hrl]
  have ho:∀j,j≠r→(setBlock w1 r (.mapIter (some b) since (seen.push e.born) c)).heap[j]? =w.heap[j]? :=fun j hj=>by
   rw [←hw j]
   simp [setBlock,Array.getElem?_setIfInBounds,Ne.symm hj]
  refine ⟨A,p,B,_,rfl,by rw [hk1,hk2];exact hrun,⟨es,c,since,_,c,(ho b hne).trans hb,he,hs,hrr,hold,hc,hc, ?_⟩,⟨es,c,since,seen,e,hrr,(ho b hne).trans hb,hmem,hs.2,hk1.symm,hk2.symm⟩, ?_, ?_⟩
  ·rw [hlf,List.map_append,List.map_append,hA,hB]
  ·refine ⟨?_, ?_, ?_,by simp [setBlock,hsz],fun j hj hn=>ho j hn⟩
   all_goals (rcases hw1 with rfl|rfl <;>rfl)
  ·simp [setBlock,hsz]
end
end M
section
open Go.RowKit
theorem Ajp {κ:Type} {w:World} {b r:Nat} {enc:κ→Value} {E T:List (κ × Value)} (h:M.Iter w b r enc E T):w.rangeLeft b r=T.length:=by
 obtain ⟨es,c,since,seen,c0,hb,he,hs,hr,hold,hsc,hc,hl⟩:=h
 simp only [World.rangeLeft,hb,hr]
 have:=congrArg List.length hl
 simpa using this
theorem Amx {κ:Type} {w:World} {b r:Nat} {enc:κ→Value} {E T:List (κ × Value)} (h:M.Iter w b r enc E T):(∃a s n c,w.heap[r]? =some (.mapIter a s n c))∧∃es c,w.heap[b]? =some (.map es c):=by
 obtain ⟨es,c,since,seen,c0,hb,he,hs,hr,_⟩:=h
 exact ⟨⟨_,_,_,_,hr⟩,_,_,hb⟩
end
section
open Go.RowKit Go.Shelf Sq
def Aoz (E:List Elt) (L:List MkV) (nm:ByteArray):List SpV:=Adv (cvN E L nm) nm (Aaf (cvN E L nm))
structure SpI (w:World) (E:List Elt) (L:List MkV) (fm r:Nat) (D:List (ByteArray × Value)) (X:List ByteArray) (T:List (ByteArray × Value)) (lv:Value) (W:World):Prop where
 cm:Aip W w.heap.size fm D (fun nm=>cvN E L nm)
 it:M.Iter W fm r tx D T
 row:RSp.Own W w.heap.size lv (X.flatMap (Aoz E L))
 perm:(X++T.map (·.1)).Perm (D.map (·.1))
 sub:∀p∈T,p∈D
 ds:∀k v j,M.look D k=some v→v.ownBlock=some j→lv.ownBlock≠some j
 rb:w.heap.size≤r
 bel:Below w.heap.size w W
section
variable {w W W':World} {E:List Elt} {L:List MkV} {fm r:Nat} {D T:List (ByteArray × Value)} {X:List ByteArray} {lv:Value}
theorem SpI.nodup (h:SpI w E L fm r D X T lv W):X.Nodup:=by
 have:=h.perm.nodup_iff.2 h.cm.m.2.1
 exact (List.nodup_append.1 this).1
theorem SpI.few (h:SpI w E L fm r D X T lv W):(X.flatMap (Aoz E L)).length≤2*L.length:=Ah7 h.nodup
theorem SpI.rcell (h:SpI w E L fm r D X T lv W) {v:Value} {M:List SpV} {b:Nat} (o:RSp.Own W b v M):v.ownBlock≠some r∧v.ownBlock≠some fm:=by
 obtain ⟨⟨_,_,_,_,hr⟩,_,_,hb⟩:=Amx h.it
 refine ⟨fun e=> ?_,fun e=> ?_⟩
 ·obtain ⟨_,c,hc⟩:=o.cells e
  rw [hc] at hr;cases hr
 ·obtain ⟨_,c,hc⟩:=o.cells e
  rw [hc] at hb;cases hb
theorem SpI.next (h:SpI w E L fm r D X T lv W) {A B:List (ByteArray × Value)} {p:ByteArray × Value} (hT:T=A++p::B) (it:M.Iter W' fm r tx D (A++B)) (t:Tch (fun j=>j=r) W W') :
 Aip W' w.heap.size fm D (fun nm=>cvN E L nm)∧RSp.Own W' w.heap.size lv (X.flatMap (Aoz E L))∧Below w.heap.size w W':=by
 have kb:∀j,j<W.heap.size→j≠r→W'.heap[j]? =W.heap[j]? :=fun j hj hn=>t.block j hj hn
 obtain ⟨⟨_,_,_,_,hr⟩,_,_,hb⟩:=Amx h.it
 have nfr:fm≠r:=fun e=>by rw [e,hr] at hb;cases hb
 refine ⟨⟨h.cm.m.below (kb fm h.cm.m.lt nfr),fun k v e=>⟨(h.cm.rows k v e).1.keep (fun j hj=>kb j ((h.cm.rows k v e).1.lt hj) (fun q=>(h.rcell (h.cm.rows k v e).1).1 (by rw [←q];exact hj))),(h.cm.rows k v e).2⟩,h.cm.nil,h.cm.ds,h.cm.fb⟩,h.row.keep (fun j hj=>kb j (h.row.lt hj) (fun q=>(h.rcell h.row).1 (by rw [←q];exact hj))),h.bel.trans (t.below h.bel.size (fun j e=>by rw [e];exact h.rb))⟩
theorem SpI.more (h:SpI w E L fm r D X T lv W) {A B:List (ByteArray × Value)} {p:ByteArray × Value} (hT:T=A++p::B) {W1 W2:World} (it1:M.Iter W1 fm r tx D (A++B)) (cm1:Aip W1 w.heap.size fm D (fun nm=>cvN E L nm)) (row1:RSp.Own W1 w.heap.size lv (X.flatMap (Aoz E L))) (b1:Below w.heap.size w W1)
 {u:Value} {b:Nat} (hb:w.heap.size≤b) (b2:Below W1.heap.size W1 W2) (hu:RSp.Own W2 b u (Aoz E L p.1)) (oku:∀x∈Aoz E L p.1,x.ok) (hL:L.length≤900000000000) :
 ∃v2 W3,(Builtin.append_ #[49,49] 49 #[lv,u]).run prog W2= .ok v2 W3∧SpI w E L fm r D (X++[p.1]) (A++B) v2 W3:=by
 have pm:((X++[p.1])++(A++B).map (·.1)).Perm (D.map (·.1)):=by
  refine List.Perm.trans ?_ h.perm
  rw [hT,List.append_assoc,List.map_append,List.map_append,List.map_cons,List.singleton_append]
  exact List.Perm.append_left X List.perm_middle.symm
 have nd:(X++[p.1]).Nodup:=(List.nodup_append.1 (pm.nodup_iff.2 h.cm.m.2.1)).1
 have fl:((X++[p.1]).flatMap (Aoz E L)).length≤2*L.length:=Ah7 nd
 have fe:(X++[p.1]).flatMap (Aoz E L)=X.flatMap (Aoz E L)++Aoz E L p.1:=by simp
 rw [fe,List.length_append] at fl
 obtain ⟨a,c,rfl,hat,_⟩:=hu.open Aam oku
 have bw2:w.heap.size≤W2.heap.size:=Nat.le_trans b1.size b2.size
 have row2:=row1.below b2
 have cm2:=cm1.below b2
 have it2:=it1.same (b2.block fm cm1.m.lt) (b2.block r (by
  obtain ⟨⟨_,_,_,_,hr⟩,_⟩:=Amx it1
  exact (Array.getElem?_eq_some_iff.1 hr).1))
 obtain ⟨v2,W3,e,o3,g,q⟩:=Aae.run_app Aam W2 w.heap.size lv _ a (Aoz E L p.1) c row2 hat oku (by unfold maxLen;omega) (by show _*72≤_;omega) bw2
 have no:∀j,lv.ownBlock=some j→w.heap.size≤j∧∃c,W2.heap[j]? =some (.cells c RSp.e (0,0)):=fun j hj=>row2.cells hj
 have kb:∀j,j<W2.heap.size→lv.ownBlock≠some j→W3.heap[j]? =W2.heap[j]? :=fun j hj hn=>g.block j hj (fun e=>hn e.symm)
 obtain ⟨⟨_,_,_,_,hr⟩,_,_,hbm⟩:=Amx it2
 have nr:lv.ownBlock≠some r:=fun e=>by
  obtain ⟨_,c,hc⟩:=no r e
  rw [hc] at hr;cases hr
 have nf:lv.ownBlock≠some fm:=fun e=>by
  obtain ⟨_,c,hc⟩:=no fm e
  rw [hc] at hbm;cases hbm
 refine ⟨v2,W3,e,⟨cm2.m.below (kb fm cm2.m.lt nf),fun k v e=>⟨(cm2.rows k v e).1.keep (fun j hj=>kb j ((cm2.rows k v e).1.lt hj) (h.ds k v j e hj)),(cm2.rows k v e).2⟩,cm2.nil,cm2.ds,cm2.fb⟩,it2.same (kb fm cm2.m.lt nf) (kb r (Array.getElem?_eq_some_iff.1 hr).1 nr),by rw [fe];exact o3,pm,fun x hx=>h.sub x (by
  rw [hT]
  rcases List.mem_append.1 hx with hx|hx
  ·simp [hx]
  ·simp [hx]),fun k v j e hj hv=> ?_,h.rb,(b1.trans (b2.mono b1.size)).trans ((Below.refl _ _).grown g bw2 (fun k e=>(no k e).1))⟩
 rcases q with q|q
 ·rw [q] at hv;exact h.ds k v j e hj hv
 ·rw [q] at hv
  cases hv
  exact Nat.lt_irrefl _ ((cm2.rows k v e).1.lt hj)
end
theorem A6p {w:World} {s:Sx} {E:List Elt} (h:Aak w s E) {L:List MkV} (ok:∀x∈L,x.ok) (rt:∀x∈L,x.v.right=true) (hn:L.length≤900000000000) {nm:ByteArray} (hne:cvN E L nm≠[]):Aps (cvN E L nm) nm where
 ok:=fun c hc=>by
  obtain ⟨x,hx,rfl⟩:=Aug hc
  exact A1l h (ok x hx)
 rt:=fun c hc=>by
  obtain ⟨x,hx,rfl⟩:=Aug hc
  exact rt x hx
 nm:=A1k
 lt:=Auh
 ne:=hne
 len:=Nat.le_trans (Aui E L nm) hn
theorem Aps.all {C:List SpV} {nm:ByteArray} (h:Aps C nm):∀q∈Adv C nm (Aaf C),A1v q:=by
 obtain ⟨c,hc⟩:=List.exists_mem_of_ne_nil C h.ne
 have:=Af6 hc (h.lt c hc)
 exact h.runs _ (by omega)
attribute [local go_sem] Oper.semAt_some
def SpR (w:World) (E:List Elt) (L:List MkV) (v:Value) (w':World):Prop:=∃S,RSp.Lo w' w.heap.size v S∧Ac3 (hE E L) S∧(∀p∈S,A1v p)∧S.length≤2*L.length∧Below w.heap.size w w'
theorem SpI.done {w W:World} {E:List Elt} {L:List MkV} {fm r:Nat} {D:List (ByteArray × Value)} {X:List ByteArray} {lv:Value} (h:SpI w E L fm r D X [] lv W) (ck:∀nm,cvN E L nm≠[]→Aps (cvN E L nm) nm) {S:List SpV} (hp:S.Perm (X.flatMap (Aoz E L))) (hs:SdS S):Ac3 (hE E L) S∧(∀p∈S,A1v p)∧S.length≤2*L.length:=by
 have pm:X.Perm (D.map (·.1)):=by simpa using h.perm
 have hn:∀nm,nm∈X↔cvN E L nm≠[]:=fun nm=>by
  rw [pm.mem_iff]
  constructor
  ·intro hm
   obtain ⟨⟨k,v⟩,hkv,rfl⟩:=List.mem_map.1 hm
   exact (h.cm.rows k v (M.look_of_mem h.cm.m.2.1 hkv)).2
  ·intro hne
   cases e:M.look D nm with
   |none=>exact absurd (h.cm.nil nm e) hne
   |some v=>exact List.mem_map.2 ⟨_,M.look_mem e,rfl⟩
 refine ⟨Aqe h.nodup hn hp hs,fun p hpm=> ?_, ?_⟩
 ·obtain ⟨nm,h1,h2⟩:=List.mem_flatMap.1 (hp.mem_iff.1 hpm)
  exact (ck nm ((hn nm).1 h1)).all p h2
 ·rw [hp.length_eq]
  exact h.few
theorem SpI.rok {w W:World} {E:List Elt} {L:List MkV} {fm r:Nat} {D T:List (ByteArray × Value)} {X:List ByteArray} {lv:Value} (h:SpI w E L fm r D X T lv W) (ck:∀nm,cvN E L nm≠[]→Aps (cvN E L nm) nm):∀x∈X.flatMap (Aoz E L),x.ok:=fun p hp=>by
 obtain ⟨nm,h1,h2⟩:=List.mem_flatMap.1 hp
 have:nm∈D.map (·.1):=h.perm.mem_iff.1 (List.mem_append_left _ h1)
 obtain ⟨⟨k,v⟩,hkv,rfl⟩:=List.mem_map.1 this
 exact ((ck k (h.cm.rows k v (M.look_of_mem h.cm.m.2.1 hkv)).2).all p h2).1
set_option maxHeartbeats 8000000 in
theorem Av7 {w:World} {s:Sx} {E:List Elt} {base:Nat} {m:Mx} (h:Aak w s E) (hm:Acl w base m) (rt:∀x∈m.L,x.v.right=true) (hT:K.V.Tabs w) :
 Calls prog 25 #[(pZ m.mb 0), (pZ s.sb 0)] w fun e w'=> ∃v,e= .returned v∧SpR w E m.L v w':=by
 have CK:=Aaa (fun nm (q:cvN E m.L nm≠[])=>A6p h (L:=m.L) (fun x hx=>(hm.ok x hx).1) rt hm.n (nm:=nm) q)
 have HN:=Aaa hm.n
 have HT:=Aaa (fun (W:World) (b:Below w.heap.size w W)=>hT.below b)
 have CC:=Aaa ((Apm h hm).mono (R':=fun e w1=> ∃fm,e= .returned (.map (some fm))∧∃rb w2,(Instr.range 117 (.map (some fm))).run prog w1= .ok (pZ rb 0) w2∧∃D,SpI w E m.L fm rb D [] D (.slice none 0 0) w2) (fun e w1 q=>by
  obtain ⟨fm,rfl,D,c,b⟩:=q
  obtain ⟨w2,er,it,z,b2⟩:=M.range_any (P:=prog) underlying117 c.m
  exact ⟨fm,rfl,_,w2,er,D,c.below b2,it,Aae.own_nil _ _ _,by simp,fun _ q=>q,fun _ _ _ _ _ q=>(by cases q),b.size,b.trans (b2.mono b.size)⟩))
 clear h hm rt hT
 go_enter func25,ntmps25
 go_upto_region 4 with fail
 refine A80 (mb:=m.mb) (sb:=s.sb) (fun fm rb w2=> ∃D,SpI w E m.L fm rb D [] D (.slice none 0 0) w2) _ w _ rfl rfl rfl CC.out ?_
 rintro fm rb a' w2 ⟨D,hI⟩ ha
 subst ha
 simp only [Act.put,qsA,qsB,qsC]
 clear CC
 have I0:=Aaa hI
 clear hI
 go_wp2
 go_loopw [5] (fun v5 wr=> ∃(X:List ByteArray) (T:List (ByteArray × Value)),Hid (SpI w E m.L fm rb D X T v5 wr)) (fun _ wr=>wr.rangeLeft fm rb)
 case atStart=>exact ⟨[],D,I0⟩
 case round =>
  clear I0
  obtain ⟨X,T,HI⟩:=hrel
  rcases M.next_any (P:=prog) (ty:=0) HI.out.it with ⟨rfl,hnx⟩|⟨A,p,B,w5,hTe,hnx,it5,now5,t5,z5⟩
  ·go_upto_region 5 with fail
   refine En.zqc tab rfl (En.ef (hnx) (En.fi ?_))
   intro a' w3 hw ha
   obtain rfl:wr=w3:=hw.symm
   subst ha
   simp only [En.pM,En.pU,Act.put,qsA,qsB,qsC]
   clear hnx
   have CS:=Aaa (Ag8 wr w.heap.size u5 _ HI.out.row.lo (HI.out.rok CK.out) (Nat.le_trans HI.out.few (by have:=HN.out;omega)))
   go_upto_region 8 with fail
   refine En.zqc tab rfl (En.ca ((show Calls prog 57 #[u5] wr fun e w'=>e= .returned (.tuple #[])∧(fun W=>SpR w E m.L u5 W) w' from (CS.out.mono ?_))) ?_)
   ·rintro e W ⟨rfl,S,hp,hs,lo,t⟩
    obtain ⟨q1,q2,q3⟩:=HI.out.done CK.out hp hs
    exact ⟨rfl,S,lo,q1,q2,q3,HI.out.bel.trans (t.below HI.out.bel.size (fun j hj=>(HI.out.row.cells hj).1))⟩
   rintro _ w4_ ⟨rfl,HF⟩
   refine ⟨_,rfl,En.fi ?_⟩
   intro a' w4 hf0 ha
   have hf:=HF
   obtain rfl:w4=w4_:=hf0
   have HF:=Aaa hf
   subst ha
   simp only [En.pM,En.pU,Act.put,qsA,qsB,qsC]
   clear CS hf
   go_wp2
   go_ret
   exact ⟨_,rfl,HF.out⟩
  ·obtain ⟨cm5,row5,b5⟩:=HI.out.next hTe it5 t5
   have hml:=Ajp HI.out.it
   have hpD:p∈D:=HI.out.sub p (by rw [hTe];simp)
   have hlk:=M.look_of_mem cm5.m.2.1 (k:=p.1) (v:=p.2) hpD
   obtain ⟨rw5,ne5⟩:=cm5.rows p.1 p.2 hlk
   have ck:=CK.out p.1 ne5
   obtain ⟨pa,pc,ep,hat,_⟩:=rw5.open Aam ck.ok
   have RA:=Axk (lc:=pc) hat ck (HT.out w5 b5)
   have CR:Calls prog 64 #[p.2] w5 fun e w1=> ∃u,e= .returned u∧∃v2 w2,(Builtin.append_ #[49,49] 49 #[u5,u]).run prog w1= .ok v2 w2∧SpI w E m.L fm rb D (X++[p.1]) (A++B) v2 w2:=by
        rw [ep]
        refine RA.mono ?_
        rintro e W ⟨u,rfl,o,b⟩
        obtain ⟨v2,W3,ea,nx⟩:=HI.out.more hTe it5 cm5 row5 b5 b5.size b o (fun q hq=>(ck.all q hq).1) HN.out
        exact ⟨u,rfl,v2,W3,ea,nx⟩
   have HC:=Aaa CR
   have EE:=now5.run (P:=prog)
   have HML:=Aaa (show wr.rangeLeft fm rb=A.length+B.length+1 by rw [hml,hTe];simp;omega)
   clear cm5 row5 b5 hml hpD hlk rw5 ne5 ck ep hat RA CR it5 now5 t5 z5 hTe HI
   go_upto_region 5 with fail
   refine En.zqc tab rfl (En.ef (hnx) (En.fi ?_))
   intro a' w3 hw ha
   obtain rfl:w5=w3:=hw.symm
   subst ha
   simp only [En.pM,En.pU,Act.put,qsA,qsB,qsC]
   clear hnx
   go_upto_region 6 with fail
   refine A8z (rb:=rb) (kx:=tx p.1) (vx:=p.2) _ w5 _ rfl rfl EE ?_
   intro a' w3 hw ha
   obtain rfl:w5=w3:=hw.symm
   subst ha
   simp only [Act.put,qsA,qsB,qsC]
   clear EE
   go_upto_region 7 with fail
   refine A8y (lv:=u5) (cv:=p.2) (fun u v2 W=>SpI w E m.L fm rb D (X++[p.1]) (A++B) v2 W) _ w5 _ rfl rfl rfl HC.out ?_
   rintro u v2 a' w6 hf ha
   have NI:=Aaa hf
   have ML:w6.rangeLeft fm rb<wr.rangeLeft fm rb:=by
        rw [Ajp hf.it,HML.out]
        simp
   have HM:=Aaa ML
   subst ha
   simp only [Act.put,qsA,qsB,qsC]
   clear HC hf ML
   go_wp2
   exact ⟨⟨_,_,NI⟩,HM.out⟩
end
section
open Go.ChangeShapes Go.WideShapes Go.ChangeAt Go.RowKit
def A8k {κ:Type} (k:Nat) (encd:κ→List Value) (w:World) (a:Option Addr) (L:List κ):Prop:=L=[]∨∃b off,a=some ⟨b,off,none⟩∧b<w.heap.size∧∀i x,L[i]? =some x→w.rangeAt b (off+i*k) (encd x)
section
variable {H:Type} {enc:TypeId × Value→H} {W:World}
theorem Ap4 {κ:Type} {T e k:Nat} {encd:κ→List Value} {ok:κ→Prop} (hT:prog.underlying T=some (.slice e)) (hce:prog.cellsOf e=k) (hk:0<k) (hlen:∀x,ok x→(encd x).length=k)
 (hcells:∀(fuel:Nat) (cs:List Value) (y:DataW H × List MemPlace),DataW.trod enc prog W 0 (fun _=>true) true fuel e cs=some y→∃x,ok x∧cs=encd x)
 {a:Option Addr} {len cap:Nat} {d:DataW H} {p:List MemPlace} (h:DataW.Trod enc prog W 0 (fun _=>true) true T (.slice a len cap) d p) :
 ∃L:List κ,L.length=len∧(∀x∈L,ok x)∧A8k k encd W a L∧(d= .nil∧len=0∨∃el sp,d= .slice el sp∧el.length=len):=by
 obtain ⟨fuel,hf⟩:=h
 rcases DataW.trod_slice hT hf with ⟨hcs',hx⟩|⟨ad,l,c,elems,rest,n,_,hcs',hx,_,hl,hm,hel,hcell,_,_⟩
 ·simp [Value.cells] at hcs'
  obtain ⟨rfl,rfl,rfl⟩:=hcs'
  simp only [Prod.mk.injEq] at hx
  exact ⟨[],rfl,fun v hv=>(by cases hv), .inl rfl, .inl ⟨hx.1,rfl⟩⟩
 ·simp [Value.cells] at hcs'
  obtain ⟨rfl,rfl,rfl⟩:=hcs'
  simp only [Prod.mk.injEq] at hx
  obtain ⟨b,off,spot⟩:=ad
  have raw:∀i,i<len→∃v:κ,ok v∧∀j u,(encd v)[j]? =some u→W.cell? (((⟨b,off,spot⟩:Addr).add (i*k)).add j)=some u:=fun i hi=>by
   have hi2:=hcell i hi
   rw [List.getElem?_eq_getElem (by omega),hce,Option.bind_eq_some_iff] at hi2
   obtain ⟨cs,hc1,hc2⟩:=hi2
   obtain ⟨v,hv,rfl⟩:=hcells _ _ _ hc2
   obtain ⟨_,_,hc3⟩:=World.cells?_some hc1
   refine ⟨v,hv,fun j u hu=> ?_⟩
   have hj:=(List.getElem?_eq_some_iff.1 hu).1
   rw [hlen v hv] at hj
   rw [hc3 j hj]
   exact hu
  have hspot:0<len→spot=none∧b<W.heap.size:=fun h0=>by
   obtain ⟨v,hv,hc⟩:=raw 0 h0
   have q:=hc 0 _ (List.getElem?_eq_getElem (by rw [hlen v hv];omega))
   have q1:=World.cell?_spot q
   have q2:spot=none:=by simpa [Addr.add] using q1
   subst q2
   refine ⟨rfl, ?_⟩
   rw [Addr.add_mid,Addr.add_mid] at q
   exact block_lt_of_cell q
  by_cases h0:0<len
  ·obtain ⟨hs,hb⟩:=hspot h0
   subst hs
   obtain ⟨v0,_⟩:=raw 0 h0
   let F:Nat→κ:=fun i=>if h:i<len then Classical.choose (raw i h) else v0
   have hF:∀i (h:i<len),F i=Classical.choose (raw i h):=fun i h=>dif_pos h
   refine ⟨(List.range len).map F,by simp,fun v hv=> ?_, ?_, .inr ⟨_,_,hx.1,by simp [hel]⟩⟩
   ·rw [List.mem_map] at hv
    obtain ⟨i,hi,rfl⟩:=hv
    rw [List.mem_range] at hi
    rw [hF i hi]
    exact (Classical.choose_spec (raw i hi)).1
   ·refine .inr ⟨b,off,rfl,hb,fun i v hv=> ?_⟩
    have hi:i<len:=by
        have:=(List.getElem?_eq_some_iff.1 hv).1
        simpa using this
    rw [List.getElem?_map,List.getElem?_range hi] at hv
    simp only [Option.map_some,Option.some.injEq] at hv
    subst hv
    rw [hF i hi]
    intro j u hu
    have:=(Classical.choose_spec (raw i hi)).2 j u hu
    rwa [Addr.add_mid,Addr.add_mid] at this
  ·obtain rfl:len=0:=by omega
   exact ⟨[],rfl,fun v hv=>(by cases hv), .inl rfl, .inr ⟨_,_,hx.1,by simp [hel]⟩⟩
theorem Am2 {z:Int} (h:(Lit.int .i64 z).wf=true): -9223372036854775808≤z∧z≤9223372036854775807:=by
 simp [Lit.wf,IntKind.min,IntKind.max,IntKind.signed,IntKind.bits] at h
 omega
theorem A4h {z:Int} (h:(Lit.int .u8 z).wf=true):0≤z∧z≤255:=by
 simp [Lit.wf,IntKind.min,IntKind.max,IntKind.signed,IntKind.bits] at h
 omega
def A8q:Value→Int
 | .int _ z=>z
 |_=>0
theorem Agx:prog.cellsOf 3=1:=by kernel_rfl
theorem Aj7:prog.cellsOf 9=1:=by kernel_rfl
theorem Ahl:prog.cellsOf 34=32:=by kernel_rfl
theorem Af8:prog.cellsOf 36=33:=by kernel_rfl
theorem Apf {fuel:Nat} {cs:List Value} {y:DataW H × List MemPlace} (h:DataW.trod enc prog W 0 (fun _=>true) true fuel 34 cs=some y):∃l:List UInt8,l.length=32∧cs=hcs l:=by
 obtain ⟨xs,m,_,_,hlen,hxs,hall⟩:=DataW.trod_array underlying34 h
 rw [Ahl] at hlen
 have hce:prog.cellsOf 5=1:=by kernel_rfl
 have key:∀i (hi:i<cs.length),∃z:Int,cs[i]= .int .u8 z∧0≤z∧z≤255:=by
  intro i hi
  have h1:=hall i (by omega)
  rw [hce,Nat.mul_one,List.getElem?_eq_getElem (by omega)] at h1
  obtain ⟨z,e0,_,w0⟩:=DataW.trod_int underlying5 h1
  have hb:=A4h w0
  refine ⟨z, ?_,hb.1,hb.2⟩
  rw [List.drop_eq_getElem_cons hi,List.take_succ_cons,List.take_zero] at e0
  exact (List.cons.inj e0).1
 refine ⟨cs.map (fun v=>UInt8.ofNat (A8q v).toNat),by simpa using hlen, ?_⟩
 apply List.ext_getElem
 ·simp [hcs,bs]
 ·intro i h1 h2
  obtain ⟨z,hz,z0,z1⟩:=key i h1
  simp only [hcs,bs,List.map_map,List.getElem_map,Function.comp_apply]
  rw [hz]
  simp only [A8q,Value.int.injEq,true_and]
  rw [UInt8.toNat_ofNat']
  omega
theorem Ab8 {α:Type} {l:List α} {n m:Nat} (h:l.length=n+m):∃a b,l=a++b∧a.length=n∧b.length=m:=⟨l.take n,l.drop n,(List.take_append_drop n l).symm,by simp;omega,by simp;omega⟩
theorem Ah4 {fuel:Nat} {cs:List Value} {y:DataW H × List MemPlace} (h:DataW.trod enc prog W 0 (fun _=>true) true fuel 36 cs=some y):∃x:IdK,x.ok∧cs=x.c:=by
 obtain ⟨y0,y1,n,_,hcl,h0,h1⟩:=trod_struct2 underlying36 h
 rw [Af8] at hcl
 obtain ⟨A,B,rfl,hA,hB⟩:=Ab8 (n:=32) (m:=1) hcl
 simp only [Ahl,Agx,List.drop_zero] at h0 h1
 rw [←hA,List.take_left] at h0
 rw [←hA,List.drop_left,List.take_of_length_le (by omega)] at h1
 obtain ⟨k,hk,rfl⟩:=Apf h0
 obtain ⟨z,e0,_,w0⟩:=DataW.trod_int underlying3 h1
 subst e0
 have b:=Am2 w0
 exact ⟨⟨k,z⟩,⟨hk,b.1,b.2⟩,rfl⟩
end
theorem Aon {H:Type} {enc:TypeId × Value→H} {P:Program} {w:World} {base:Nat} {spare:Nat→Bool} {held:Bool} {fuel:Nat} {t:TypeId} {cs:List Value} {x:DataW H × List MemPlace} {k:FloatKind} (ht:P.underlying t=some (.float k)) (h:DataW.trod enc P w base spare held fuel t cs=some x) :
 ∃b,cs=[.float k b]∧(Lit.float k b).wf=true:=by
 cases fuel with
 |zero=>simp [DataW.trod] at h
 |succ n =>
  unfold DataW.trod at h
  rw [ht] at h
  split at h <;>simp_all
theorem Avj:prog.cellsOf 37=1:=by kernel_rfl
theorem Avk:prog.cellsOf 2=1:=by kernel_rfl
theorem Avl:prog.cellsOf 38=1:=by kernel_rfl
theorem Aoa:prog.cellsOf 40=4:=by kernel_rfl
section
variable {H:Type} {enc:TypeId × Value→H} {W:World}
theorem Awr (fuel:Nat) (cs:List Value) (y:DataW H × List MemPlace) (h:DataW.trod enc prog W 0 (fun _=>true) true fuel 40 cs=some y):∃x:VaV,x.ok∧cs=x.c:=by
 obtain ⟨xs,n,_,hx,hcl,hlen,hfs⟩:=DataW.trod_struct underlying40 h
 rw [Aoa] at hcl
 have hlen:xs.length=4:=hlen
 obtain ⟨a,b,c,d,rfl⟩:∃a b c d,cs=[a,b,c,d]:=by
  match cs,hcl with
  |[a,b,c,d],_=>exact ⟨a,b,c,d,rfl⟩
 match xs,hlen with
 |[y0,y1,y2,y3],_ =>
  have t0:DataW.trod enc prog W 0 (fun _=>true) true n 37 (([a,b,c,d].drop 0).take (prog.cellsOf 37))=some y0:=hfs 0 _ rfl
  have t1:DataW.trod enc prog W 0 (fun _=>true) true n 2 (([a,b,c,d].drop 1).take (prog.cellsOf 2))=some y1:=hfs 1 _ rfl
  have t2:DataW.trod enc prog W 0 (fun _=>true) true n 38 (([a,b,c,d].drop 2).take (prog.cellsOf 38))=some y2:=hfs 2 _ rfl
  have t3:DataW.trod enc prog W 0 (fun _=>true) true n 9 (([a,b,c,d].drop 3).take (prog.cellsOf 9))=some y3:=hfs 3 _ rfl
  rw [Avj] at t0
  rw [Avk] at t1
  rw [Avl] at t2
  rw [Aj7] at t3
  obtain ⟨z0,q0,_,w0⟩:=DataW.trod_int underlying37 t0
  obtain ⟨z1,q1,_,w1⟩:=DataW.trod_int underlying2 t1
  obtain ⟨z2,q2,w2⟩:=Aon underlying38 t2
  obtain ⟨z3,q3,_,w3⟩:=DataW.trod_string underlying9 t3
  simp at q0 q1 q2 q3
  subst q0 q1 q2 q3
  have u0:=A4h w0
  have u1:=Am2 w1
  exact ⟨⟨z0,z1,z2,z3⟩,⟨u0.1,u0.2,u1.1,u1.2,by simpa [Lit.wf] using w2,w3⟩,rfl⟩
end
structure OpM where
 kind:Int
 id:IdK
 fr:IdK
 ti:IdK
 nm:ByteArray
 v:VaV
 sd:Int
def OpM.c (o:OpM):List Value:=[.int .i64 o.kind]++(o.id.c++(o.fr.c++(o.ti.c++([.string o.nm]++(o.v.c++[.int .i64 o.sd])))))
structure OpM.ok (o:OpM):Prop where
 id:o.id.ok
 fr:o.fr.ok
 ti:o.ti.ok
 kind: -9223372036854775808≤o.kind∧o.kind≤9223372036854775807
 nm:o.nm.size≤maxLen
 v:o.v.ok
 sd: -9223372036854775808≤o.sd∧o.sd≤9223372036854775807
def OpM.mk' (o:OpM):MkV:=⟨o.id,o.nm,o.v,o.fr,o.ti,o.sd⟩
theorem OpM.mkok {o:OpM} (h:o.ok):o.mk'.ok:=⟨h.id,h.nm,h.v,h.fr,h.ti,h.sd.1,h.sd.2⟩
theorem OpM.len {o:OpM} (h:o.ok):o.c.length=106:=by
 have h1:=IdK.len h.id
 have h2:=IdK.len h.fr
 have h3:=IdK.len h.ti
 simp [OpM.c,h1,h2,h3,VaV.len]
theorem OpM.one (o:OpM):∀v∈o.c,v.oneCell'=true:=by
 intro v hv
 simp only [OpM.c,List.mem_append,List.mem_singleton] at hv
 rcases hv with rfl|h|h|h|rfl|h|rfl
 ·rfl
 ·exact IdK.one _ v h
 ·exact IdK.one _ v h
 ·exact IdK.one _ v h
 ·rfl
 ·exact VaV.one _ v h
 ·rfl
def A8n:OpM:=⟨0,zId,zId,zId,⟨#[]⟩,zVa,0⟩
theorem A1z:A8n.ok:=⟨Aay,Aay,Aay,by decide,by decide,Alo,by decide⟩
theorem Avn:prog.bytesOf 42=192:=by kernel_rfl
def RO:Aae OpM:=⟨OpM.c,OpM.ok,106,192,42,22,A8n⟩
theorem A38:RO.Is:=⟨A1z,fun _ h=>OpM.len h,OpM.one,underlying22,by kernel_rfl,⟨_,underlying42,rfl⟩,by decide,by decide⟩
theorem Aj8:prog.cellsOf 42=106:=by kernel_rfl
section
variable {H:Type} {enc:TypeId × Value→H} {W:World}
theorem Arp (fuel:Nat) (cs:List Value) (y:DataW H × List MemPlace) (h:DataW.trod enc prog W 0 (fun _=>true) true fuel 42 cs=some y):∃x:OpM,x.ok∧cs=x.c:=by
 obtain ⟨xs,n,_,hx,hcl,hlen,hfs⟩:=DataW.trod_struct underlying42 h
 rw [Aj8] at hcl
 have hlen:xs.length=7:=hlen
 obtain ⟨A,R,rfl,hA,hR⟩:=Ab8 (n:=1) (m:=105) hcl
 obtain ⟨B,R,rfl,hB,hR⟩:=Ab8 (n:=33) (m:=72) hR
 obtain ⟨C,R,rfl,hC,hR⟩:=Ab8 (n:=33) (m:=39) hR
 obtain ⟨D,R,rfl,hD,hR⟩:=Ab8 (n:=33) (m:=6) hR
 obtain ⟨E,R,rfl,hE,hR⟩:=Ab8 (n:=1) (m:=5) hR
 obtain ⟨F,G,rfl,hF,hG⟩:=Ab8 (n:=4) (m:=1) hR
 match xs,hlen with
 |[y0,y1,y2,y3,y4,y5,y6],_ =>
  have t0:DataW.trod enc prog W 0 (fun _=>true) true n 3 (((A++(B++(C++(D++(E++(F++G)))))).drop 0).take (prog.cellsOf 3))=some y0:=hfs 0 _ rfl
  have t1:DataW.trod enc prog W 0 (fun _=>true) true n 36 (((A++(B++(C++(D++(E++(F++G)))))).drop 1).take (prog.cellsOf 36))=some y1:=hfs 1 _ rfl
  have t2:DataW.trod enc prog W 0 (fun _=>true) true n 36 (((A++(B++(C++(D++(E++(F++G)))))).drop 34).take (prog.cellsOf 36))=some y2:=hfs 2 _ rfl
  have t3:DataW.trod enc prog W 0 (fun _=>true) true n 36 (((A++(B++(C++(D++(E++(F++G)))))).drop 67).take (prog.cellsOf 36))=some y3:=hfs 3 _ rfl
  have t4:DataW.trod enc prog W 0 (fun _=>true) true n 9 (((A++(B++(C++(D++(E++(F++G)))))).drop 100).take (prog.cellsOf 9))=some y4:=hfs 4 _ rfl
  have t5:DataW.trod enc prog W 0 (fun _=>true) true n 40 (((A++(B++(C++(D++(E++(F++G)))))).drop 101).take (prog.cellsOf 40))=some y5:=hfs 5 _ rfl
  have t6:DataW.trod enc prog W 0 (fun _=>true) true n 3 (((A++(B++(C++(D++(E++(F++G)))))).drop 105).take (prog.cellsOf 3))=some y6:=hfs 6 _ rfl
  rw [Agx] at t0
  rw [List.drop_zero, ←hA,List.take_left] at t0
  rw [Af8] at t1
  rw [show 1=A.length by omega,List.drop_left, ←hB,List.take_left] at t1
  rw [Af8] at t2
  rw [show 34=A.length+B.length by omega, ←List.drop_drop,List.drop_left,List.drop_left, ←hC,List.take_left] at t2
  rw [Af8] at t3
  rw [show 67=A.length+B.length+C.length by omega, ←List.drop_drop, ←List.drop_drop,List.drop_left,List.drop_left,List.drop_left, ←hD,List.take_left] at t3
  rw [Aj7] at t4
  rw [show 100=A.length+B.length+C.length+D.length by omega, ←List.drop_drop, ←List.drop_drop, ←List.drop_drop,List.drop_left,List.drop_left,List.drop_left,List.drop_left, ←hE,List.take_left] at t4
  rw [Aoa] at t5
  rw [show 101=A.length+B.length+C.length+D.length+E.length by omega, ←List.drop_drop, ←List.drop_drop, ←List.drop_drop, ←List.drop_drop,List.drop_left,List.drop_left,List.drop_left,List.drop_left,List.drop_left, ←hF,List.take_left] at t5
  rw [Agx] at t6
  rw [show 105=A.length+B.length+C.length+D.length+E.length+F.length by omega, ←List.drop_drop, ←List.drop_drop, ←List.drop_drop, ←List.drop_drop, ←List.drop_drop,List.drop_left,List.drop_left,List.drop_left,List.drop_left,List.drop_left,List.drop_left,List.take_of_length_le (by omega)] at t6
  obtain ⟨z0,q0,_,w0⟩:=DataW.trod_int underlying3 t0
  obtain ⟨x1,o1,q1⟩:=Ah4 t1
  obtain ⟨x2,o2,q2⟩:=Ah4 t2
  obtain ⟨x3,o3,q3⟩:=Ah4 t3
  obtain ⟨z4,q4,_,w4⟩:=DataW.trod_string underlying9 t4
  obtain ⟨x5,o5,q5⟩:=Awr _ _ _ t5
  obtain ⟨z6,q6,_,w6⟩:=DataW.trod_int underlying3 t6
  subst q0 q1 q2 q3 q4 q5 q6
  exact ⟨⟨z0,x1,x2,x3,z4,x5,z6⟩,⟨o1,o2,o3,Am2 w0,w4,o5,Am2 w6⟩,rfl⟩
theorem Ap5 {a:Option Addr} {len cap:Nat} {d:DataW H} {p:List MemPlace} (h:DataW.Trod enc prog W 0 (fun _=>true) true 22 (.slice a len cap) d p) :
 ∃L:List OpM,L.length=len∧(∀x∈L,x.ok)∧RO.At W a L∧(d= .nil∧len=0∨∃el sp,d= .slice el sp∧el.length=len):=by
 obtain ⟨L,h1,h2,h3,h4⟩:=Ap4 underlying22 Aj8 (by omega) (fun x hx=>OpM.len hx) Arp h
 refine ⟨L,h1,h2, ?_,h4⟩
 rcases h3 with h3|⟨b,off,e,hl,hr⟩
 ·exact .inl h3
 ·exact .inr ⟨b,off,e,hl,fun i x hx=>by have:=hr i x hx;rw [Nat.mul_comm] at this;exact this⟩
end
end
section
open Go.RowKit
def idN (n:Int):IdK:=⟨zId.h,n⟩
section
variable {w:World} {a:Act} {o:Oper} {x y:Operand}
end
theorem Afw {b o n c i:Nat} (hi:i<n) (hm:n≤9223372036854775807) (W:World):(Instr.indexAt 88 (.slice (some ⟨b,o,none⟩) n c) (.int .i64 (i:Int))).run prog W= .ok (pZ b (o+105*i)) W:=by
 rw [Nat.mul_comm]
 go_simp
theorem A7v {b o n c i:Nat} (hi:i<n) (hm:n≤9223372036854775807) (W:World):(Instr.indexAt 22 (.slice (some ⟨b,o,none⟩) n c) (.int .i64 (i:Int))).run prog W= .ok (pZ b (o+106*i)) W:=by
 rw [Nat.mul_comm]
 go_simp
def Ax1:Array Oper:=(⟨_,rfl⟩:{o // some o=rgB Tryz.f13 5}).1
theorem A9d {rb b1:Nat} {k:IdK} {r:Bool} (Fin:World→Prop) (a:Act) (w:World) (Q:Exit→Act→World→Prop) (zz:a.tmps.size=65)
 (t0:a.tmps.getD 0 undef= (pZ rb 0))
 (t8:a.tmps.getD 8 undef= (pZ b1 0))
 (LK:∀W,W=w→(Instr.loadAt 36 (pZ b1 0)).run prog W= .ok (k.v) W) (CH:Calls prog 43 #[(pZ rb 0),k.v] w fun e w'=> ∃z,e= .returned (.int .i64 z)∧decide (z≥0)=r∧Fin w')
 (h:∀(z:Int) a' w',Fin w'→a'=((((a.put (some 31) (pZ rb 0)).put (some 32) (k.v)).put (some 33) (.int .i64 z)).put (some 34) (.bool r)).put (some 30) (.bool r)→Q .normal a' w') :
 (Code.region 5 Ax1 false).wp prog Q a w:=by
 refine z0 rfl ?_
 refine zv rfl (xmv rfl (zi t0 rfl)) ?_
 refine zv rfl (xld rfl (zi t8 rfl) (LK _ rfl)) ?_
 refine zc rfl (Aap rfl (zg zz rfl) (zg zz rfl)) (CH) (fun e x2 hx=> ?_)
 obtain ⟨z,rfl,hr,HF⟩:=hx
 replace h:=h z
 refine ⟨_,rfl, ?_⟩
 refine zv (v:= .bool r) rfl (Atv rfl (zg zz rfl) rfl hr) ?_
 refine zv rfl (xas rfl (zg zz rfl)) ?_
 exact ze rfl (h _ _ (HF) rfl)
end
section
open Go.RowKit Sq
def seg (a n:Nat):List Elt:=(List.range n).map fun (i:Nat)=>(⟨idN ((a+i+1:Nat):Int),idN ((a+i:Nat):Int),true⟩:Elt)
end
section
open Go.RowKit Go.Shelf Sq
attribute [local go_sem] Oper.semAt_some
def RR:Aae MkV:=⟨MkV.c,MkV.ok,105,184,99,88,zMk⟩
theorem Ain:RR.Is:=⟨A0o,fun _ h=>MkV.len h,MkV.one,underlying88,by kernel_rfl,⟨_,underlying99,rfl⟩,by decide,by decide⟩
structure Rx where
 rb:Nat
 lv:Value
 L:List MkV
structure Acr (w:World) (base:Nat) (r:Rx):Prop where
 cell:w.heap[r.rb]? =some (.cells #[r.lv] 90 (0,0))
 row:RR.Own w base r.lv r.L
 ok:∀x∈r.L,x.ok
 b:base≤r.rb
 n:r.L.length≤900000000000
def Rx.bl (r:Rx) (j:Nat):Prop:=j=r.rb∨r.lv.ownBlock=some j
section
variable {w w' W:World} {base:Nat} {r:Rx}
theorem Acr.below (h:Acr w base r) (b:Below w.heap.size w w'):Acr w' base r :=
 ⟨(b.block _ (Array.getElem?_eq_some_iff.1 h.cell).1).trans h.cell,h.row.below b,h.ok,h.b,h.n⟩
theorem Acr.lt (h:Acr w base r) {j:Nat} (hj:r.bl j):j<w.heap.size:=by
 rcases hj with rfl|hj
 ·exact (Array.getElem?_eq_some_iff.1 h.cell).1
 ·exact h.row.lt hj
theorem Acr.keep (h:Acr w base r) (hk:∀j,r.bl j→w'.heap[j]? =w.heap[j]?):Acr w' base r :=
 ⟨(hk _ (.inl rfl)).trans h.cell,h.row.keep (fun j hj=>hk j (.inr hj)),h.ok,h.b,h.n⟩
theorem Acr.ge (h:Acr w base r) {j:Nat} (hj:r.bl j):base≤j:=by
 rcases hj with rfl|hj
 ·exact h.b
 ·exact (h.row.cells hj).1
theorem Acr.sl (h:Acr w base r):∃a c,r.lv= .slice a r.L.length c∧RR.At w a r.L:=by
 obtain ⟨a,c,e,hat,_⟩:=h.row.open Ain h.ok
 exact ⟨a,c,e,hat⟩
theorem Apa {lv:Value} {b:Nat} (h:w.heap[b]? =some (.cells #[lv] 90 (0,0))) (hl:∃a n c,lv= .slice a n c):(Instr.loadAt 88 (pZ b (0+0))).run prog w= .ok lv w:=by
 obtain ⟨a,n,c,rfl⟩:=hl
 have hc:w.cell? ⟨b,0,none⟩=some (.slice a n c):=(cell_of_row w b 0 _ _ _ h).trans rfl
 go_simp
theorem Acr.ldl (h:Acr w base r):(Instr.loadAt 88 (pZ r.rb (0+0))).run prog w= .ok r.lv w:=by
 obtain ⟨a,c,e,_⟩:=h.sl
 exact Apa h.cell ⟨a,_,c,e⟩
theorem Ai9 (w:World):Calls prog 11 #[] w fun e w'=> ∃r,e= .returned (pZ r.rb 0)∧Acr w' w.heap.size r∧r.L=[]∧Below w.heap.size w w':=by
 go_enter func11,ntmps11
 go_wp2
 go_ret
 exact ⟨⟨w.heap.size, .slice none 0 0,[]⟩,rfl,⟨heap_alloc_new _ _,Aae.own_nil _ _ _,by simp,Nat.le_refl _,by simp⟩,rfl,(Below.refl _ _).alloc (Nat.le_refl _) _⟩
def FdI (L:List MkV) (k:IdK) (z:Int):Prop:=(z= -1∧∀x∈L,x.id≠k)∨∃(i:Nat) (x:MkV),z=i∧L[i]? =some x∧x.id=k∧∀j y,j<i→L[j]? =some y→y.id≠k
theorem FdI.has {L:List MkV} {k:IdK} {z:Int} (h:FdI L k z):decide (z≥0)=Afs L k:=by
 rcases h with ⟨rfl,h⟩|⟨i,x,rfl,hx,e,_⟩
 ·rw [show Afs L k=false from by
   cases q:Afs L k with
   |false=>rfl
   |true=>obtain ⟨x,hx,e⟩:=Adl.1 q;exact absurd e (h x hx)]
  decide
 ·rw [Adl.2 ⟨x,List.mem_of_getElem? hx,e⟩]
  exact decide_eq_true (by omega)
theorem Ahb (h:Acr w base r) {k:IdK} (hk:k.ok):Calls prog 43 #[(pZ r.rb 0),k.v] w fun e w'=> ∃z,e= .returned (.int .i64 z)∧FdI r.L k z∧Below w.heap.size w w':=by
 have E1:=Aev (P:=prog) 36 k.v w
 have b1:Below w.heap.size w (w.alloc (.cells k.v.cells 36)):=(Below.refl _ _).alloc (Nat.le_refl _) _
 have i1:Aaz (w.alloc (.cells k.v.cells 36)) w.heap.size k:=heap_alloc_new _ _
 obtain ⟨w1,hw1⟩:∃w1,w.alloc (.cells k.v.cells 36)=w1:=⟨_,rfl⟩
 rw [hw1] at E1 b1 i1
 have HH:=Aaa (fun (W:World) (b:Below w.heap.size w W)=>h.below b)
 obtain ⟨la,lc,el,hat⟩:=h.sl
 have HAT:=Aaa (fun (W:World) (b:Below w.heap.size w W)=>hat.below b)
 have EL:=Aaa el
 have OK:=Aaa h.ok
 obtain ⟨n,hn⟩:∃n,r.L.length=n:=⟨_,rfl⟩
 have HN:=Aaa (show r.L.length=n∧n≤900000000000 from ⟨hn,by rw [←hn];exact h.n⟩)
 have I0:=Aaa (And.intro b1 i1)
 clear h hat el hw1 b1 i1 hn
 show Calls prog 43 #[(pZ r.rb 0), .agg k.c.toArray] w _
 go_enter func43,ntmps43
 go_upto_region 0 with fail
 refine En.zqc tab rfl (En.ef (E1) (En.fi ?_))
 intro a' w3 hw ha
 obtain rfl:w1=w3:=hw.symm
 subst ha
 simp only [En.pM,En.pU,Act.put,qsA,qsB,qsC]
 clear E1
 go_wp2
 go_loopw [5] (fun v5 wr=> ∃i:Nat,v5= .int .i64 (i:Int)∧i≤n∧Hid ((∀j y,j<i→r.L[j]? =some y→y.id≠k)∧Below w.heap.size w wr∧Aaz wr w.heap.size k)) (fun v5 _=>n-(intOf v5).toNat)
 case atStart=>exact ⟨0,rfl,Nat.zero_le _,fun j y hj=>by omega,I0.out.1,I0.out.2⟩
 case round =>
  clear I0
  obtain ⟨i,rfl,hi,HI⟩:=hrel
  have LL:=(HH.out wr HI.out.2.1).ldl
  rw [EL.out,HN.out.1] at LL
  obtain ⟨t,ht⟩:∃t,decide ((i:Int)<(n:Int))=t:=⟨_,rfl⟩
  go_upto_region 2 with fail
  refine En.zqc tab rfl (En.st (LL) (En.cm (c':=t) (ht) (En.fi ?_)))
  intro a' w3 hw ha
  obtain rfl:wr=w3:=hw.symm
  subst ha
  simp only [En.pM,En.pU,Act.put,qsA,qsB,qsC]
  cases t with
  |false =>
   have hin:i=n:=by have:=of_decide_eq_false ht;omega
   subst hin
   clear LL
   go_wp2
   go_ret
   refine ⟨-1,rfl, .inl ⟨rfl,fun x hx=> ?_⟩,HI.out.2.1⟩
   obtain ⟨j,hj⟩:=List.mem_iff_getElem?.1 hx
   exact HI.out.1 j x (by have:=(List.getElem?_eq_some_iff.1 hj).1;have:=HN.out.1;omega) hj
  |true =>
   have hlt:i<n:=by have:=of_decide_eq_true ht;omega
   have hn64:n≤9223372036854775807:=by have:=HN.out;omega
   obtain ⟨x,hx⟩:∃x,r.L[i]? =some x:=⟨_,List.getElem?_eq_getElem (by have:=HN.out.1;omega)⟩
   have okx:=OK.out x (List.mem_of_getElem? hx)
   obtain ⟨g,o,rfl,hgl,hr⟩:=(HAT.out wr HI.out.2.1).get (i:=i) (by have:=HN.out.1;omega)
   have hr':wr.rangeAt g (o+105*i) x.c:=by
        have e:r.L[i]'(by have:=HN.out.1;omega)=x:=(List.getElem?_eq_some_iff.1 hx).2
        rw [e] at hr;exact hr
   obtain ⟨z,hz⟩:∃z,decide (x.id=k)=z:=⟨_,rfl⟩
   have HX:=Aaa hx
   have MS:n-(((i+1:Nat):Int)).toNat<n-((i:Nat):Int).toNat:=by simp only [Int.toNat_natCast];omega
   have HMS:=Aaa MS
   clear hr hx MS LL
   go_upto_region 4 with fail
   refine En.zyc tab [0,1,2,3,4,5,6,7,8,9] 10 (fun w'=>(fun W=>Below wr.heap.size wr W) w') (hS:=((show (fun W=>Below wr.heap.size wr W) (World.drew wr) from ((Below.refl _ _).drew)))) (h:=En.sty (fun Xw Xh=>((show ∀W,(fun W=>Below wr.heap.size wr W) W→(Instr.loadAt 88 (pZ r.rb (0+0))).run prog W= .ok (.slice (some ⟨g,o,none⟩) n lc) W from (fun W b=>by have:=(HH.out W (HI.out.2.1.trans (b.mono HI.out.2.1.size))).ldl;rw [EL.out,HN.out.1] at this;exact this)) _ Xh)) (En.sty (fun Xw Xh=>(Afw hlt hn64 _)) (En.sty (fun Xw Xh=>((show ∀W,(fun W=>Below wr.heap.size wr W) W→(Instr.loadAt 36 (pZ g (o+105*i+0))).run prog W= .ok (x.id.v) W from (fun W b=>A5j okx (Aar hr' (b.block g hgl)))) _ Xh)) (En.sty (fun Xw Xh=>((show ∀W,(fun W=>Below wr.heap.size wr W) W→(Instr.loadAt 36 (pZ w.heap.size 0)).run prog W= .ok (k.v) W from (fun W b=>Aah hk (HI.out.2.2.below b))) _ Xh)) (En.sty (fun Xw Xh=>A60 okx.i hk (hz) _ _ _) (En.fi ?_))))))
   intro a' w4 bw0 ha
   have bw:=((show (fun W=>Below wr.heap.size wr W) (World.drew wr) from ((Below.refl _ _).drew)))
   rw [←bw0] at bw
   clear bw0
   subst ha
   simp only [En.pM,En.pU,Act.put,qsA,qsB,qsC]
   have B4:=Aaa (HI.out.2.1.trans (bw.mono HI.out.2.1.size))
   cases z with
   |true =>
    have OLD:=Aaa HI.out.1
    clear hr' bw HI
    go_wp2
    go_ret
    exact ⟨_,rfl, .inr ⟨i,x,rfl,HX.out,of_decide_eq_true hz,OLD.out⟩,B4.out⟩
   |false =>
    have NI:Hid ((∀j y,j<i+1→r.L[j]? =some y→y.id≠k)∧Below w.heap.size w w4∧Aaz w4 w.heap.size k):=⟨fun j y hj hy=>by
     by_cases e:j=i
     ·subst e
      rw [HX.out] at hy
      cases hy
      exact of_decide_eq_false hz
     ·exact HI.out.1 j y (by omega) hy,B4.out,HI.out.2.2.below bw⟩
    clear hr' bw HI
    go_wp2
    rw [show ((i:Int)+1)=((i+1:Nat):Int) by omega]
    exact ⟨⟨i+1,rfl,hlt,NI⟩,HMS.out⟩
end
def RkN (r:Rx) (base:Nat) (L':List MkV) (w w':World):Prop:=∃r',Acr w' base r'∧r'.rb=r.rb∧r'.L=L'∧(r'.lv.ownBlock=r.lv.ownBlock∨∀j,r'.lv.ownBlock=some j→w.heap.size≤j)∧Tch (fun j=>r.bl j) w w'
theorem A68 (s:ByteArray) (w:World):Calls prog 37 #[.string s] w fun e w'=>e= .returned (.bool (Amv s))∧Below w.heap.size w w':=(Axr s w).mono fun e w' q=>⟨q.1,by rw [q.2];exact Below.refl _ _⟩
theorem RkN.same {r:Rx} {base:Nat} {w W:World} (h:Acr w base r) (b:Below w.heap.size w W):RkN r base r.L w W:=⟨r,h.below b,rfl,rfl, .inl rfl,Aan b _⟩
theorem RkN.from {r:Rx} {base:Nat} {L':List MkV} {w W W':World} (h:RkN r base L' W W') (t:Tch (fun j=>r.bl j) w W) (hs:w.heap.size≤W.heap.size):RkN r base L' w W':=by
 obtain ⟨r',a,b,c,d,e⟩:=h
 exact ⟨r',a,b,c,d.imp id (fun q j hj=>Nat.le_trans hs (q j hj)),t.trans e⟩
def Afc (m:Rx) (x:MkV) (b1 b2 b3 b4:Nat) (W:World):Prop:=W.heap[m.rb]? =some (.cells #[m.lv] 90 (0,0))∧Aaz W b1 x.id∧Abz W b2 x.v∧Aaz W b3 x.fr∧Aaz W b4 x.to
section
variable {w W:World} {base:Nat} {m:Rx}
theorem Afc.below {x:MkV} {b1 b2 b3 b4:Nat} {W':World} (h:Afc m x b1 b2 b3 b4 W) (b:Below W.heap.size W W'):Afc m x b1 b2 b3 b4 W' :=
 ⟨(b.block _ (Array.getElem?_eq_some_iff.1 h.1).1).trans h.1,h.2.1.below b,h.2.2.1.below b,h.2.2.2.1.below b,h.2.2.2.2.below b⟩
theorem A2b {lv:Value} {b:Nat} {a:Option Addr} {n c:Nat} (h:W.heap[b]? =some (.cells #[lv] 90 (0,0))) (hl:∃a n c,lv= .slice a n c):∃W',(Instr.storeAt 88 (pZ b (0+0)) (.slice a n c)).run prog W= .ok () W'∧W'.heap[b]? =some (.cells #[.slice a n c] 90 (0,0))∧Tch (fun j=>j=b) W W':=by
 obtain ⟨a0,n0,c0,rfl⟩:=hl
 have c2:W.cell? ⟨b,0,none⟩=some (.slice a0 n0 c0):=(cell_of_row W b 0 _ _ _ h).trans rfl
 have f2:=frozen_of_row W b 0 _ _ h
 exact ⟨W.setCell ⟨b,0,none⟩ (.slice a n c),by go_simp,Go.heap_setCell_same _ _ 0 _ _ _ h,⟨rfl,rfl,rfl,by simp [World.setCell],fun j _ hj=>Go.heap_setCell_other _ _ _ _ hj⟩⟩
theorem Ara (h:Acr W base m) (hb:base≤W.heap.size) {x:MkV} (hx:x.ok) (hn:m.L.length+1≤900000000000) {b1 b2 b3 b4:Nat} (hS:Afc m x b1 b2 b3 b4 W) :
 ∃sv w1 v2 w2 w3,(Instr.buildSlice 88 1 #[(0,x.a)]).run prog W= .ok sv w1∧Afc m x b1 b2 b3 b4 w1∧(Builtin.append_ #[88,88] 88 #[m.lv,sv]).run prog w1= .ok v2 w2∧Afc m x b1 b2 b3 b4 w2∧(Instr.storeAt 88 (pZ m.rb (0+0)) v2).run prog w2= .ok () w3∧RkN m base (m.L++[x]) W w3:=by
 obtain ⟨sv,w1,v2,w2,e1,e2,o,bl1,z1,g,q⟩:=Aae.run_push Ain W base m.lv m.L x h.row hx (by unfold maxLen;omega) (by show _*184≤_;omega) hb
 have okx:∀y∈m.L++[x],y.ok:=fun y hy=>by
  rcases List.mem_append.1 hy with hy|hy
  ·exact h.ok y hy
  ·rw [List.mem_singleton.1 hy];exact hx
 have S1:=hS.below bl1
 have own:∀j,m.lv.ownBlock=some j→∃c,w1.heap[j]? =some (.cells c 99 (0,0)):=fun j hj=>((h.below bl1).row.cells hj).2
 have keep:∀{j:Nat} {c:Array Value} {t:TypeId} {f:Nat × Nat},w1.heap[j]? =some (.cells c t f)→t≠99→w2.heap[j]? =some (.cells c t f):=fun hj ht =>
  (g.block _ (Array.getElem?_eq_some_iff.1 hj).1 (fun e=>by
   obtain ⟨c2,hc2⟩:=own _ e.symm
   exact ht (Aag hj hc2))).trans hj
 have S2:Afc m x b1 b2 b3 b4 w2:=⟨keep S1.1 (by decide),keep S1.2.1 (by decide),keep S1.2.2.1 (by decide),keep S1.2.2.2.1 (by decide),keep S1.2.2.2.2 (by decide)⟩
 obtain ⟨a2,c2,ev,_⟩:=o.open Ain okx
 obtain ⟨a0,c0,e0,_⟩:=h.sl
 obtain ⟨w3,e3,n3,t3⟩:=A2b (a:=a2) (n:=(m.L++[x]).length) (c:=c2) S2.1 ⟨a0,_,c0,e0⟩
 have n2:v2.ownBlock≠some m.rb:=fun e=>by
  obtain ⟨_,c,hc⟩:=o.cells e
  have:=Aag hc S2.1
  revert this;decide
 refine ⟨sv,w1,v2,w2,w3,e1,S1,e2,S2,by rw [ev];exact e3,⟨m.rb,v2,m.L++[x]⟩,⟨by rw [ev];exact n3,o.keep (fun j hj=>t3.block j (o.lt hj) (fun e=>n2 (by rw [←e];exact hj))),okx,h.b,by simp only [List.length_append,List.length_singleton];exact hn⟩,rfl,rfl,q.imp id (fun q j hj=>by
  simp only at hj
  rw [q] at hj;injection hj with hj;have:=bl1.size;omega), ?_⟩
 have t1:Tch (fun j=>m.bl j) W w1:=Aan bl1 _
 have t2:Tch (fun j=>m.bl j) w1 w2:=⟨g.os,g.tape,g.output,g.size,fun j hj hO=>g.block j hj (fun e=>hO (.inr e.symm))⟩
 exact (t1.trans t2).trans (t3.mono (fun j _ e=> .inl e))
theorem Ax0 (h:Acr w base m) (hb:base≤w.heap.size) {x:MkV} (hx:x.ok) (hn:m.L.length+1≤900000000000) :
 Calls prog 13 #[(pZ m.rb 0),x.id.v, .string x.nm,x.v.v,x.fr.v,x.to.v, .int .i64 x.sd] w fun e w'=>e= .returned (.int .i64 (Ais m.L x))∧RkN m base (Apr m.L x) w w':=by
 obtain ⟨wx,ewx,i1,i2,i3,i4,bx,zx⟩:=Ahh w x.id x.v x.fr x.to
 have HX:=Aaa (And.intro i1 (And.intro i2 (And.intro i3 i4)))
 have HH:=Aaa h
 have HK:=Aaa hx
 have HB:=Aaa hb
 have HNN:=Aaa hn
 have BX:=Aaa bx
 have ZX:=Aaa zx
 have hlt:m.rb<w.heap.size:=(Array.getElem?_eq_some_iff.1 h.cell).1
 have HLT:=Aaa hlt
 have HC:Hid (Ais m.L x=if x.id.n<1 then 2 else if x.sd<0 then 2 else if x.sd>3 then 2 else if Afs m.L x.id=true then 5 else if Amv x.nm=false then 41 else if x.v.right=false then 30 else if x.v.k≤7 then 0 else 30):=rfl
 have HR:Hid (Apr m.L x=if Ais m.L x=0 then m.L++[x] else m.L):=rfl
 have HW:=Aaa ewx
 have SAME:Hid (∀(W:World) (c:Int),Below w.heap.size w W→Ais m.L x=c→c≠0→(Ending.returned (.int .i64 c):Ending)= .returned (.int .i64 (Ais m.L x))∧RkN m base (Apr m.L x) w W):=fun W c b e hc=>by
  refine ⟨by rw [e], ?_⟩
  rw [HR.out,if_neg (by rw [e];exact hc)]
  exact RkN.same h b
 clear i1 i2 i3 i4 bx zx h hx hb hn hlt ewx
 show Calls prog 13 #[(pZ m.rb 0), .agg x.id.c.toArray, .string x.nm, .agg x.v.c.toArray, .agg x.fr.c.toArray, .agg x.to.c.toArray, .int .i64 x.sd] w _
 generalize Apr m.L x=rr at *
 generalize Ais m.L x=cc at *
 go_enter func13,ntmps13
 go_upto_region 3 with fail
 rw [←HW.out]
 cases hn1:decide (x.id.n<1) with
 |true =>
  have HN:=Aaa hn1
  clear hn1
  refine En.zqc tab rfl (En.st (((show ∀W,W=wx→(Instr.loadAt 3 (pZ w.heap.size (0+32))).run prog W= .ok (.int .i64 x.id.n) W from (fun W e=>by rw [e,Nat.zero_add];exact Awc HK.out.i HX.out.1)) _ rfl)) (En.cm (c':=true) (HN.out) (En.fi ?_)))
  intro a' w2 hw ha
  obtain rfl:wx=w2:=hw.symm
  subst ha
  simp only [En.pM,En.pU,Act.put,qsA,qsB,qsC]
  clear HX
  go_wp2
  go_ret
  exact SAME.out _ _ BX.out (by rw [HC.out,if_pos (of_decide_eq_true HN.out)]) (by decide)
 |false =>
  have HN:=Aaa hn1
  clear hn1
  cases hs0:decide (x.sd<0) with
  |true =>
   have H0:=Aaa hs0
   clear hs0
   refine En.zqc tab rfl (En.st (((show ∀W,W=wx→(Instr.loadAt 3 (pZ w.heap.size (0+32))).run prog W= .ok (.int .i64 x.id.n) W from (fun W e=>by rw [e,Nat.zero_add];exact Awc HK.out.i HX.out.1)) _ rfl)) (En.cm (c':=false) (HN.out) (En.cm (c':=true) (H0.out) (En.fi ?_))))
   intro a' w2 hw ha
   obtain rfl:wx=w2:=hw.symm
   subst ha
   simp only [En.pM,En.pU,Act.put,qsA,qsB,qsC]
   clear HX
   go_wp2
   go_ret
   exact SAME.out _ _ BX.out (by rw [HC.out,if_neg (of_decide_eq_false HN.out),if_pos (of_decide_eq_true H0.out)]) (by decide)
  |false =>
   have H0:=Aaa hs0
   clear hs0
   obtain ⟨r3,hr3⟩:∃r,decide (x.sd>3)=r:=⟨_,rfl⟩
   have H3:=Aaa hr3
   clear hr3
   refine En.zqc tab rfl (En.st (((show ∀W,W=wx→(Instr.loadAt 3 (pZ w.heap.size (0+32))).run prog W= .ok (.int .i64 x.id.n) W from (fun W e=>by rw [e,Nat.zero_add];exact Awc HK.out.i HX.out.1)) _ rfl)) (En.cm (c':=false) (HN.out) (En.cm (c':=false) (H0.out) (En.cm (c':=r3) (H3.out) (En.fi ?_)))))
   intro a' w2 hw ha
   obtain rfl:wx=w2:=hw.symm
   subst ha
   simp only [En.pM,En.pU,Act.put,qsA,qsB,qsC]
   cases r3 with
   |true =>
    clear HX
    go_wp2
    go_ret
    exact SAME.out _ _ BX.out (by rw [HC.out,if_neg (of_decide_eq_false HN.out),if_neg (of_decide_eq_false H0.out),if_pos (of_decide_eq_true H3.out)]) (by decide)
   |false =>
    have C0:Hid (cc=if Afs m.L x.id=true then 5 else if Amv x.nm=false then 41 else if x.v.right=false then 30 else if x.v.k≤7 then 0 else 30):=by
        show cc=_
        rw [HC.out,if_neg (of_decide_eq_false HN.out),if_neg (of_decide_eq_false H0.out),if_neg (of_decide_eq_false H3.out)]
    have HSD:Hid (0≤x.sd∧x.sd≤3):=by
        have h1:=of_decide_eq_false H0.out
        have h2:=of_decide_eq_false H3.out
        show 0≤x.sd∧x.sd≤3
        omega
    clear HC H3 H0
    go_upto_region 5 with fail
    obtain ⟨hz0,hhz⟩:∃h,Afs m.L x.id=h:=⟨_,rfl⟩
    have RF:=Aaa ((Ahb (HH.out.below BX.out) HK.out.i).mono (fun e w' q=>q))
    refine A9d (k:=x.id) (b1:=w.heap.size) (rb:=m.rb) (r:=Afs m.L x.id) (fun W=>Below wx.heap.size wx W) _ wx _ rfl rfl rfl (fun W e=>by rw [e];exact Aah HK.out.i HX.out.1) (RF.out.mono fun e W q=>by obtain ⟨z,q1,q2,q3⟩:=q;exact ⟨z,q1,q2.has,q3⟩) ?_
    intro zz a' w3 hf ha
    subst ha
    simp only [Act.put,qsA,qsB,qsC]
    have B3:Hid (Below w.heap.size w w3):=BX.out.trans (hf.mono BX.out.size)
    have X3:Hid (Aaz w3 w.heap.size x.id∧Abz w3 (w.heap.size+1) x.v∧Aaz w3 (w.heap.size+2) x.fr∧Aaz w3 (w.heap.size+3) x.to):=⟨HX.out.1.below hf,HX.out.2.1.below hf,HX.out.2.2.1.below hf,HX.out.2.2.2.below hf⟩
    clear hf HX
    cases hq:Afs m.L x.id with
    |true =>
     have HQ:=Aaa hq
     clear hq
     go_wp2
     go_ret
     exact SAME.out _ _ B3.out (by rw [C0.out,if_pos HQ.out]) (by decide)
    |false =>
     have HQ:=Aaa hq
     clear hq
     go_upto_region 7 with fail
     obtain ⟨kb,hkb⟩:∃r,Amv x.nm=r:=⟨_,rfl⟩
     have CK:Hid (Calls prog 37 #[.string x.nm] w3 fun e w'=>e= .returned (.bool kb)∧Below w3.heap.size w3 w'):=by rw [←hkb];exact A68 x.nm w3
     have HKB:=Aaa hkb
     clear hkb
     refine En.zqc tab rfl (En.ca (CK.out) ?_)
     rintro _ w4_ ⟨rfl,HF⟩
     refine ⟨_,rfl,En.fi ?_⟩
     intro a' w4 hf0 ha
     have hf:=HF
     obtain rfl:w4=w4_:=hf0
     subst ha
     simp only [En.pM,En.pU,Act.put,qsA,qsB,qsC]
     have B4:Hid (Below w.heap.size w w4):=B3.out.trans (hf.mono B3.out.size)
     have X4:Hid (Aaz w4 w.heap.size x.id∧Abz w4 (w.heap.size+1) x.v∧Aaz w4 (w.heap.size+2) x.fr∧Aaz w4 (w.heap.size+3) x.to):=⟨X3.out.1.below hf,X3.out.2.1.below hf,X3.out.2.2.1.below hf,X3.out.2.2.2.below hf⟩
     clear hf CK X3 B3
     cases kb with
     |false =>
      go_wp2
      go_ret
      exact SAME.out _ _ B4.out (by rw [C0.out,if_neg (by rw [HQ.out];decide),if_pos HKB.out]) (by decide)
     |true =>
      have C1:Hid (cc=if x.v.right=false then 30 else if x.v.k≤7 then 0 else 30):=by
          show cc=_
          rw [C0.out,if_neg (by rw [HQ.out];decide),if_neg (by rw [HKB.out];decide)]
      clear C0 HKB
      go_upto_region 9 with fail
      have CR:=Aaa (Akt x.v HK.out.v w4)
      cases hr:x.v.right with
      |false =>
       have ez:vaC x.v=30:=by unfold vaC;rw [hr];rfl
       rw [ez] at CR
       have HRR:=Aaa hr
       clear hr ez
       refine En.zqc tab rfl (En.st (((show ∀W,W=w4→(Instr.loadAt 40 (pZ (w.heap.size+1) 0)).run prog W= .ok (x.v.v) W from (fun W e=>by rw [e];exact Abv X4.out.2.1)) _ rfl)) (En.ca (CR.out) ?_))
       rintro _ w5_ ⟨rfl,HF⟩
       refine ⟨_,rfl,En.cm (En.neB ((show decide (30≠0)=true from (by decide)))) (En.fi ?_)⟩
       intro a' w5 hf0 ha
       have hf:=HF
       obtain rfl:w5=w5_:=hf0
       subst ha
       simp only [En.pM,En.pU,Act.put,qsA,qsB,qsC]
       have B5:Hid (Below w.heap.size w w5):=B4.out.trans (hf.mono B4.out.size)
       clear hf CR X4
       go_wp2
       go_ret
       exact SAME.out _ _ B5.out (by rw [C1.out,if_pos HRR.out]) (by decide)
      |true =>
       have ez:vaC x.v=0:=by unfold vaC;rw [hr];rfl
       rw [ez] at CR
       have HRR:=Aaa hr
       clear hr ez
       obtain ⟨sc,hsc⟩:∃r,decide (x.v.k≤7)=r:=⟨_,rfl⟩
       have HSC:=Aaa hsc
       clear hsc
       refine En.zqc tab rfl (En.st (((show ∀W,W=w4→(Instr.loadAt 40 (pZ (w.heap.size+1) 0)).run prog W= .ok (x.v.v) W from (fun W e=>by rw [e];exact Abv X4.out.2.1)) _ rfl)) (En.ca ((show Calls prog 44 #[x.v.v] w4 fun e w'=>e= .returned (.int .i64 0)∧(Instr.loadAt 37 (pZ (w.heap.size+1) (0+0))).run prog w'= .ok (.int .u8 x.v.k) w'∧Calls prog 45 #[.int .u8 x.v.k] w' fun e w2=>e= .returned (.bool sc)∧(fun W=>Below w4.heap.size w4 W) w2 from (CR.out.mono ?_))) ?_))
       ·rintro e W ⟨rfl,b⟩
        refine ⟨rfl,Ada (X4.out.2.1.below b),(Ai5 x.v.k W).mono ?_⟩
        rintro e W' ⟨rfl,rfl⟩
        exact ⟨by rw [HSC.out],b⟩
       rintro _ w5_ ⟨rfl,LKD,CS⟩
       refine ⟨_,rfl,En.cm (En.neB ((show decide (0≠0)=false from (by decide)))) (En.st (LKD) (En.ca (CS) ?_))⟩
       rintro _ w5_ ⟨rfl,HF⟩
       refine ⟨_,rfl,En.fi ?_⟩
       intro a' w5 hf0 ha
       have hf:=HF
       obtain rfl:w5=w5_:=hf0
       subst ha
       simp only [En.pM,En.pU,Act.put,qsA,qsB,qsC]
       have B5:Hid (Below w.heap.size w w5):=B4.out.trans (hf.mono B4.out.size)
       have X5:Hid (Aaz w5 w.heap.size x.id∧Abz w5 (w.heap.size+1) x.v∧Aaz w5 (w.heap.size+2) x.fr∧Aaz w5 (w.heap.size+3) x.to):=⟨X4.out.1.below hf,X4.out.2.1.below hf,X4.out.2.2.1.below hf,X4.out.2.2.2.below hf⟩
       clear hf CR X4 B4
       cases sc with
       |false =>
        go_wp2
        go_ret
        exact SAME.out _ _ B5.out (by rw [C1.out,if_neg (by rw [HRR.out];decide),if_neg (of_decide_eq_false HSC.out)]) (by decide)
       |true =>
        have C2:Hid (cc=0):=by show cc=0;rw [C1.out,if_neg (by rw [HRR.out];decide),if_pos (of_decide_eq_true HSC.out)]
        clear C1 HSC HRR SAME
        have bd:Below w5.heap.size w5 w5.drew:=(Below.refl _ _).drew
        have B6:Hid (Below w.heap.size w w5.drew):=B5.out.drew
        have SA:Hid (Afc m x w.heap.size (w.heap.size+1) (w.heap.size+2) (w.heap.size+3) w5.drew):=⟨(HH.out.below B6.out).cell,X5.out.1.below bd,X5.out.2.1.below bd,X5.out.2.2.1.below bd,X5.out.2.2.2.below bd⟩
        obtain ⟨sv,y1,v2,y2,y3,e1,s1,e2,s2,e3,N3⟩:=Ara (HH.out.below B6.out) (Nat.le_trans HB.out B6.out.size) HK.out HNN.out SA.out
        have E:=Aaa (And.intro e1 (And.intro s1 (And.intro e2 (And.intro s2 e3))))
        have LDL:Hid (∀W,Afc m x w.heap.size (w.heap.size+1) (w.heap.size+2) (w.heap.size+3) W→(Instr.loadAt 88 (pZ m.rb (0+0))).run prog W= .ok m.lv W):=fun W hS=>by
            obtain ⟨a,c,e,_⟩:=HH.out.sl
            exact Apa hS.1 ⟨a,_,c,e⟩
        have PUT:Hid (RkN m base rr w y3):=by
            show RkN m base rr w y3
            rw [HR.out,if_pos C2.out]
            exact N3.from (Aan B6.out _) B6.out.size
        clear e1 s1 e2 s2 e3 N3 bd X5 B5
        go_upto_region 11 with fail
        refine En.zyc tab [0,1,2,3,4,5,6,7,8,9,10,11,12,13,14,15,16] 16 (fun w'=>(Afc m x w.heap.size (w.heap.size+1) (w.heap.size+2) (w.heap.size+3)) w') (hS:=(SA.out)) (h:=En.sty (fun Xw Xh=>(LDL.out _ Xh)) (En.sty (fun Xw Xh=>((show ∀W,(Afc m x w.heap.size (w.heap.size+1) (w.heap.size+2) (w.heap.size+3)) W→(Instr.loadAt 36 (pZ w.heap.size 0)).run prog W= .ok (x.id.v) W from (fun W hS=>Aah HK.out.i hS.2.1)) _ Xh)) (En.sty (fun Xw Xh=>((show ∀W,(Afc m x w.heap.size (w.heap.size+1) (w.heap.size+2) (w.heap.size+3)) W→(Instr.loadAt 40 (pZ (w.heap.size+1) 0)).run prog W= .ok (x.v.v) W from (fun W hS=>Abv hS.2.2.1)) _ Xh)) (En.sty (fun Xw Xh=>((show ∀W,(Afc m x w.heap.size (w.heap.size+1) (w.heap.size+2) (w.heap.size+3)) W→(Instr.loadAt 36 (pZ (w.heap.size+2) 0)).run prog W= .ok (x.fr.v) W from (fun W hS=>Aah HK.out.fr hS.2.2.2.1)) _ Xh)) (En.sty (fun Xw Xh=>((show ∀W,(Afc m x w.heap.size (w.heap.size+1) (w.heap.size+2) (w.heap.size+3)) W→(Instr.loadAt 36 (pZ (w.heap.size+3) 0)).run prog W= .ok (x.to.v) W from (fun W hS=>Aah HK.out.to hS.2.2.2.2)) _ Xh)) (En.sty (fun Xw Xh=>((show ∀W,(Instr.build 99 #[(0,x.id.v),(1, .string x.nm),(2,x.v.v),(3,x.fr.v),(4,x.to.v),(5, .int .i64 x.sd)]).run prog W= .ok x.a W from (fun W=>Az8 W HK.out)) _)) (En.efy (E.out.1) (E.out.2.1) (En.efy (E.out.2.2.1) (E.out.2.2.2.1) (En.eu (E.out.2.2.2.2) (En.fi ?_))))))))))
        intro a' w6 hw ha
        obtain rfl:y3=w6:=hw.symm
        subst ha
        simp only [En.pM,En.pU,Act.put,qsA,qsB,qsC]
        clear E LDL SA
        go_wp2
        go_ret
        exact ⟨by rw [C2.out];rfl,PUT.out⟩
end
section
variable {W:World} {b o:Nat} {x:OpM}
theorem Arv (x:OpM):x.c=[.int .i64 x.kind]++(x.id.c++(x.fr.c++(x.ti.c++([.string x.nm]++(x.v.c++[.int .i64 x.sd]))))):=rfl
theorem Aru (x:OpM):x.c=([.int .i64 x.kind]++x.id.c)++(x.fr.c++(x.ti.c++([.string x.nm]++(x.v.c++[.int .i64 x.sd])))):=by simp [OpM.c]
theorem Art (x:OpM):x.c=([.int .i64 x.kind]++x.id.c++x.fr.c)++(x.ti.c++([.string x.nm]++(x.v.c++[.int .i64 x.sd]))):=by simp [OpM.c]
theorem Ars (x:OpM):x.c=([.int .i64 x.kind]++x.id.c++x.fr.c++x.ti.c)++(.string x.nm::(x.v.c++[.int .i64 x.sd])):=by simp [OpM.c]
theorem Arr (x:OpM):x.c=([.int .i64 x.kind]++x.id.c++x.fr.c++x.ti.c++[.string x.nm])++(x.v.c++[.int .i64 x.sd]):=by simp [OpM.c]
theorem Arq (x:OpM):x.c=([.int .i64 x.kind]++x.id.c++x.fr.c++x.ti.c++[.string x.nm]++x.v.c)++(.int .i64 x.sd::[]):=by simp [OpM.c]
theorem A7m (hx:x.ok) (h:W.rangeAt b o x.c):(Instr.loadAt 36 (pZ b (o+1))).run prog W= .ok x.id.v W :=
 run_loadAt_mid (P:=prog) W b (o+1) 36 x.id.c _ (Ac9 (Arv x▸h) rfl) underlying36 rfl (by rw [IdK.len hx.id];exact Alv)
theorem A7n (hx:x.ok) (h:W.rangeAt b o x.c):(Instr.loadAt 36 (pZ b (o+34))).run prog W= .ok x.fr.v W :=
 run_loadAt_mid (P:=prog) W b (o+34) 36 x.fr.c _ (Ac9 (Aru x▸h) (by simp [IdK.len hx.id])) underlying36 rfl (by rw [IdK.len hx.fr];exact Alv)
theorem A5d (hx:x.ok) (h:W.rangeAt b o x.c):(Instr.loadAt 36 (pZ b (o+67))).run prog W= .ok x.ti.v W :=
 run_loadAt_mid (P:=prog) W b (o+67) 36 x.ti.c _ (Ac9 (Art x▸h) (by simp [IdK.len hx.id,IdK.len hx.fr])) underlying36 rfl (by rw [IdK.len hx.ti];exact Alv)
theorem A5f (hx:x.ok) (h:W.rangeAt b o x.c):(Instr.loadAt 9 (pZ b (o+100))).run prog W= .ok (.string x.nm) W:=by
 have hc:W.cell? ⟨b,o+100,none⟩=some (.string x.nm):=Af2 (Ars x▸h) (by simp [IdK.len hx.id,IdK.len hx.fr,IdK.len hx.ti])
 go_simp
theorem A8p (hx:x.ok) (h:W.rangeAt b o x.c):(Instr.loadAt 40 (pZ b (o+101))).run prog W= .ok x.v.v W :=
 run_loadAt_mid (P:=prog) W b (o+101) 40 x.v.c _ (Ac9 (Arr x▸h) (by simp [IdK.len hx.id,IdK.len hx.fr,IdK.len hx.ti])) underlying40 rfl (by rw [VaV.len];exact A39)
theorem A5e (hx:x.ok) (h:W.rangeAt b o x.c):(Instr.loadAt 3 (pZ b (o+105))).run prog W= .ok (.int .i64 x.sd) W:=by
 have hc:W.cell? ⟨b,o+105,none⟩=some (.int .i64 x.sd):=Af2 (Arq x▸h) (by simp [IdK.len hx.id,IdK.len hx.fr,IdK.len hx.ti,VaV.len])
 go_simp
end
theorem A0j (L:List MkV) (x:MkV):(Apr L x).length≤L.length+1:=by
 unfold Apr
 split
 ·simp
 ·omega
structure Gq (w:World) (sb mb rb:Nat) (E:List Elt) (L Lr:List MkV) (W:World):Prop where
 q:∃(s:Sx) (m:Mx) (r:Rx),s.sb=sb∧m.mb=mb∧r.rb=rb∧Aak W s E∧Acl W w.heap.size m∧Acr W w.heap.size r∧m.L=L∧r.L=Lr∧(∀j∈s.bl,w.heap.size≤j)∧(∀j,m.bl j→w.heap.size≤j)∧(∀j∈s.bl,¬m.bl j)∧(∀j∈s.bl,¬r.bl j)∧(∀j,m.bl j→¬r.bl j)
 bel:Below w.heap.size w W
section
variable {w W W':World} {sb mb rb:Nat} {E:List Elt} {L Lr:List MkV}
end
attribute [local go_sem] Oper.semAt_some
end
section
open Go.RowKit
theorem Afm (b o:Nat) (w:World):(Instr.fieldAt 40 (pZ b o) 1).run prog w= .ok (pZ b (o+1)) w:=by go_simp
theorem Aic (b o:Nat) (w:World):(Instr.fieldAt 40 (pZ b o) 2).run prog w= .ok (pZ b (o+2)) w:=by go_simp
theorem Ato (b o:Nat) (w:World):(Instr.fieldAt 40 (pZ b o) 3).run prog w= .ok (pZ b (o+3)) w:=by go_simp
section
variable {w:World} {a:Act} {o:Oper} {x y:Operand}
theorem Aif {b:Nat} {ts:Array TypeId} (ho:o.op= .call {callee:= .value (.func 68),args:= #[x],argTypes:=ts}) (hx:a.eval x= .float .f64 b):(execOp a.eval o).run prog w= .ok (.value (.int .u64 (b:Int))) w:=by
 have e0:a.eval (.func 68)= .func (.func 68) #[] #[]:=rfl
 have hf:=K.bits_run b w
 unfold execOp;simp [ho,resolve,invoke,hx,e0,Deferred.ofValue,Result.andThen,hf]
theorem Atx {p:Int} (ho:o.op= .binOp .eql 2 x y 2) (hx:a.eval x= .int .i64 p) (hy:a.eval y= .int .i64 p):(execOp a.eval o).run prog w= .ok (.value (.bool true)) w:=by
 unfold execOp
 simp only [ho,hx,hy]
 go_simp
theorem Azc {p:Int} (ho:o.op= .binOp .eql 123 x y 123) (hx:a.eval x= .int .u64 p) (hy:a.eval y= .int .u64 p):(execOp a.eval o).run prog w= .ok (.value (.bool true)) w:=by
 unfold execOp
 simp only [ho,hx,hy]
 go_simp
theorem A3s {s:ByteArray} (ho:o.op= .binOp .neq 9 x y 9) (hx:a.eval x= .string s) (hy:a.eval y= .string s):(execOp a.eval o).run prog w= .ok (.value (.bool false)) w:=by
 refine Aca ho hx hy ?_ ?_
 ·kernel_rfl
 ·have:(s.toList !=s.toList)=false:=by simp
  go_simp
end
def Aw0:Array Oper:=(⟨_,rfl⟩:{o // some o=rgB Tryz.f22 6}).1
theorem A8w {g o g2 o2 n c c2 i:Nat} {x:SpV} (S:World→Prop) (a:Act) (w:World) (Q:Exit→Act→World→Prop) (zz:a.tmps.size=68)
 (t0:a.tmps.getD 0 undef= .slice (some ⟨g,o,none⟩) n c)
 (t1:a.tmps.getD 1 undef= .slice (some ⟨g2,o2,none⟩) n c2)
 (t5:a.tmps.getD 5 undef= .int .i64 (i:Int))
 (h0:S w.drew) (hi:i<n) (hm:n≤9223372036854775807) (LA0:∀W,S W→(Instr.loadAt 3 (pZ g (o+7*i+0))).run prog W= .ok (.int .i64 x.fr) W) (LA1:∀W,S W→(Instr.loadAt 3 (pZ g (o+7*i+1))).run prog W= .ok (.int .i64 x.to) W) (LA2:∀W,S W→(Instr.loadAt 9 (pZ g (o+7*i+2))).run prog W= .ok (.string x.nm) W) (LA3:∀W,S W→(Instr.loadAt 40 (pZ g (o+7*i+3))).run prog W= .ok (x.v.v) W) (LB0:∀W,S W→(Instr.loadAt 3 (pZ g2 (o2+7*i+0))).run prog W= .ok (.int .i64 x.fr) W) (LB1:∀W,S W→(Instr.loadAt 3 (pZ g2 (o2+7*i+1))).run prog W= .ok (.int .i64 x.to) W) (LB2:∀W,S W→(Instr.loadAt 9 (pZ g2 (o2+7*i+2))).run prog W= .ok (.string x.nm) W) (LB3:∀W,S W→(Instr.loadAt 40 (pZ g2 (o2+7*i+3))).run prog W= .ok (x.v.v) W) (CS:Calls prog 53 #[x.v.v,x.v.v] w.drew fun e w'=>e= .returned (.bool true)∧S w')
 (h:∀a' w',S w'→a'=((((((((((((((((((((((((((((((((((((((((((((((((((a.put (some 17) (.slice (some ⟨g,o,none⟩) n c)).put (some 18) (.int .i64 (i:Int))).put (some 19) (pZ g (o+7*i))).put (some 20) (pZ g (o+7*i+0))).put (some 21) (.int .i64 x.fr)).put (some 22) (.slice (some ⟨g2,o2,none⟩) n c2)).put (some 23) (.int .i64 (i:Int))).put (some 24) (pZ g2 (o2+7*i))).put (some 25) (pZ g2 (o2+7*i+0))).put (some 26) (.int .i64 x.fr)).put (some 27) (.bool false)).put (some 28) (.bool false)).put (some 29) (.slice (some ⟨g,o,none⟩) n c)).put (some 30) (.int .i64 (i:Int))).put (some 31) (pZ g (o+7*i))).put (some 32) (pZ g (o+7*i+1))).put (some 33) (.int .i64 x.to)).put (some 34) (.slice (some ⟨g2,o2,none⟩) n c2)).put (some 35) (.int .i64 (i:Int))).put (some 36) (pZ g2 (o2+7*i))).put (some 37) (pZ g2 (o2+7*i+1))).put (some 38) (.int .i64 x.to)).put (some 39) (.bool false)).put (some 40) (.bool false)).put (some 41) (.bool false)).put (some 42) (.slice (some ⟨g,o,none⟩) n c)).put (some 43) (.int .i64 (i:Int))).put (some 44) (pZ g (o+7*i))).put (some 45) (pZ g (o+7*i+2))).put (some 46) (.string x.nm)).put (some 47) (.slice (some ⟨g2,o2,none⟩) n c2)).put (some 48) (.int .i64 (i:Int))).put (some 49) (pZ g2 (o2+7*i))).put (some 50) (pZ g2 (o2+7*i+2))).put (some 51) (.string x.nm)).put (some 52) (.bool false)).put (some 53) (.bool false)).put (some 54) (.bool false)).put (some 55) (.slice (some ⟨g,o,none⟩) n c)).put (some 56) (.int .i64 (i:Int))).put (some 57) (pZ g (o+7*i))).put (some 58) (pZ g (o+7*i+3))).put (some 59) (x.v.v)).put (some 60) (.slice (some ⟨g2,o2,none⟩) n c2)).put (some 61) (.int .i64 (i:Int))).put (some 62) (pZ g2 (o2+7*i))).put (some 63) (pZ g2 (o2+7*i+3))).put (some 64) (x.v.v)).put (some 65) (.bool true)).put (some 66) (.bool false)).put (some 67) (.bool false)→Q .normal a' w') :
 (Code.region 6 Aw0 true).wp prog Q a w:=by
 refine y0 (fun w'=>S w') (h0) (fun hHeld=> ?_)
 refine yv 0 rfl rfl (fun w1 hw=>xmv rfl (zi t0 rfl)) hHeld ?_
 refine yv 1 rfl rfl (fun w1 hw=>xmv rfl (zi t5 rfl)) hHeld ?_
 refine yv 2 rfl rfl (fun w1 hw=>xia rfl (zg zz rfl) (zg zz rfl) (Acn hi hm _)) hHeld ?_
 refine yv 3 rfl rfl (fun w1 hw=>xfa rfl (zg zz rfl) (Afl _ _ _)) hHeld ?_
 refine yv 4 rfl rfl (fun w1 hw=>xld rfl (zg zz rfl) (LA0 _ hw)) hHeld ?_
 refine yv 5 rfl rfl (fun w1 hw=>xmv rfl (zi t1 rfl)) hHeld ?_
 refine yv 6 rfl rfl (fun w1 hw=>xmv rfl (zi t5 rfl)) hHeld ?_
 refine yv 7 rfl rfl (fun w1 hw=>xia rfl (zg zz rfl) (zg zz rfl) (Acn hi hm _)) hHeld ?_
 refine yv 8 rfl rfl (fun w1 hw=>xfa rfl (zg zz rfl) (Afl _ _ _)) hHeld ?_
 refine yv 9 rfl rfl (fun w1 hw=>xld rfl (zg zz rfl) (LB0 _ hw)) hHeld ?_
 refine yv (v:= .bool false) 10 rfl rfl (fun w1 hw=>Atq rfl (zg zz rfl) (zg zz rfl) (decide_eq_false (fun q=>q rfl))) hHeld ?_
 refine yv 11 rfl rfl (fun w1 hw=>xmv rfl (zg zz rfl)) hHeld ?_
 refine yv 12 rfl (zw zz rfl rfl rfl (zg zz rfl)) (fun w1 hw=>xmv rfl (zi t0 rfl)) hHeld ?_
 refine yv 13 rfl (zw zz rfl rfl rfl (zg zz rfl)) (fun w1 hw=>xmv rfl (zi t5 rfl)) hHeld ?_
 refine yv 14 rfl (zw zz rfl rfl rfl (zg zz rfl)) (fun w1 hw=>xia rfl (zg zz rfl) (zg zz rfl) (Acn hi hm _)) hHeld ?_
 refine yv 15 rfl (zw zz rfl rfl rfl (zg zz rfl)) (fun w1 hw=>xfa rfl (zg zz rfl) (Ad3 _ _ _)) hHeld ?_
 refine yv 16 rfl (zw zz rfl rfl rfl (zg zz rfl)) (fun w1 hw=>xld rfl (zg zz rfl) (LA1 _ hw)) hHeld ?_
 refine yv 17 rfl (zw zz rfl rfl rfl (zg zz rfl)) (fun w1 hw=>xmv rfl (zi t1 rfl)) hHeld ?_
 refine yv 18 rfl (zw zz rfl rfl rfl (zg zz rfl)) (fun w1 hw=>xmv rfl (zi t5 rfl)) hHeld ?_
 refine yv 19 rfl (zw zz rfl rfl rfl (zg zz rfl)) (fun w1 hw=>xia rfl (zg zz rfl) (zg zz rfl) (Acn hi hm _)) hHeld ?_
 refine yv 20 rfl (zw zz rfl rfl rfl (zg zz rfl)) (fun w1 hw=>xfa rfl (zg zz rfl) (Ad3 _ _ _)) hHeld ?_
 refine yv 21 rfl (zw zz rfl rfl rfl (zg zz rfl)) (fun w1 hw=>xld rfl (zg zz rfl) (LB1 _ hw)) hHeld ?_
 refine yv (v:= .bool false) 22 rfl (zw zz rfl rfl rfl (zg zz rfl)) (fun w1 hw=>Atq rfl (zg zz rfl) (zg zz rfl) (decide_eq_false (fun q=>q rfl))) hHeld ?_
 refine yv 23 rfl rfl (fun w1 hw=>Aa0 rfl (zg zz rfl) (zg zz rfl)) hHeld ?_
 refine yv 24 rfl rfl (fun w1 hw=>xmv rfl (zg zz rfl)) hHeld ?_
 refine yv 25 rfl (zw zz rfl rfl rfl (zg zz rfl)) (fun w1 hw=>xmv rfl (zi t0 rfl)) hHeld ?_
 refine yv 26 rfl (zw zz rfl rfl rfl (zg zz rfl)) (fun w1 hw=>xmv rfl (zi t5 rfl)) hHeld ?_
 refine yv 27 rfl (zw zz rfl rfl rfl (zg zz rfl)) (fun w1 hw=>xia rfl (zg zz rfl) (zg zz rfl) (Acn hi hm _)) hHeld ?_
 refine yv 28 rfl (zw zz rfl rfl rfl (zg zz rfl)) (fun w1 hw=>xfa rfl (zg zz rfl) (Aib _ _ _)) hHeld ?_
 refine yv 29 rfl (zw zz rfl rfl rfl (zg zz rfl)) (fun w1 hw=>xld rfl (zg zz rfl) (LA2 _ hw)) hHeld ?_
 refine yv 30 rfl (zw zz rfl rfl rfl (zg zz rfl)) (fun w1 hw=>xmv rfl (zi t1 rfl)) hHeld ?_
 refine yv 31 rfl (zw zz rfl rfl rfl (zg zz rfl)) (fun w1 hw=>xmv rfl (zi t5 rfl)) hHeld ?_
 refine yv 32 rfl (zw zz rfl rfl rfl (zg zz rfl)) (fun w1 hw=>xia rfl (zg zz rfl) (zg zz rfl) (Acn hi hm _)) hHeld ?_
 refine yv 33 rfl (zw zz rfl rfl rfl (zg zz rfl)) (fun w1 hw=>xfa rfl (zg zz rfl) (Aib _ _ _)) hHeld ?_
 refine yv 34 rfl (zw zz rfl rfl rfl (zg zz rfl)) (fun w1 hw=>xld rfl (zg zz rfl) (LB2 _ hw)) hHeld ?_
 refine yv (v:= .bool false) 35 rfl (zw zz rfl rfl rfl (zg zz rfl)) (fun w1 hw=>A3s rfl (zg zz rfl) (zg zz rfl)) hHeld ?_
 refine yv 36 rfl rfl (fun w1 hw=>Aa0 rfl (zg zz rfl) (zg zz rfl)) hHeld ?_
 refine yv 37 rfl rfl (fun w1 hw=>xmv rfl (zg zz rfl)) hHeld ?_
 refine yv 38 rfl (zw zz rfl rfl rfl (zg zz rfl)) (fun w1 hw=>xmv rfl (zi t0 rfl)) hHeld ?_
 refine yv 39 rfl (zw zz rfl rfl rfl (zg zz rfl)) (fun w1 hw=>xmv rfl (zi t5 rfl)) hHeld ?_
 refine yv 40 rfl (zw zz rfl rfl rfl (zg zz rfl)) (fun w1 hw=>xia rfl (zg zz rfl) (zg zz rfl) (Acn hi hm _)) hHeld ?_
 refine yv 41 rfl (zw zz rfl rfl rfl (zg zz rfl)) (fun w1 hw=>xfa rfl (zg zz rfl) (Aia _ _ _)) hHeld ?_
 refine yv 42 rfl (zw zz rfl rfl rfl (zg zz rfl)) (fun w1 hw=>xld rfl (zg zz rfl) (LA3 _ hw)) hHeld ?_
 refine yv 43 rfl (zw zz rfl rfl rfl (zg zz rfl)) (fun w1 hw=>xmv rfl (zi t1 rfl)) hHeld ?_
 refine yv 44 rfl (zw zz rfl rfl rfl (zg zz rfl)) (fun w1 hw=>xmv rfl (zi t5 rfl)) hHeld ?_
 refine yv 45 rfl (zw zz rfl rfl rfl (zg zz rfl)) (fun w1 hw=>xia rfl (zg zz rfl) (zg zz rfl) (Acn hi hm _)) hHeld ?_
 refine yv 46 rfl (zw zz rfl rfl rfl (zg zz rfl)) (fun w1 hw=>xfa rfl (zg zz rfl) (Aia _ _ _)) hHeld ?_
 refine yv 47 rfl (zw zz rfl rfl rfl (zg zz rfl)) (fun w1 hw=>xld rfl (zg zz rfl) (LB3 _ hw)) hHeld ?_
 refine yc 48 rfl (zw zz rfl rfl rfl (zg zz rfl)) (Aap rfl (zg zz rfl) (zg zz rfl)) (CS) (fun e x48 hx=> ?_)
 obtain ⟨rfl,S1⟩:=hx
 refine ⟨_,rfl,S1,fun hHeld=> ?_⟩
 refine yv 49 rfl (zw zz rfl rfl rfl (zg zz rfl)) (fun w1 hw=>Anz rfl (zg zz rfl)) hHeld ?_
 refine yv 50 rfl rfl (fun w1 hw=>Aa0 rfl (zg zz rfl) (zg zz rfl)) hHeld ?_
 exact ye rfl (h _ _ (S1) rfl)
def Awu:Array Oper:=(⟨_,rfl⟩:{o // some o=rgB Tryz.f14 8}).1
theorem A8v {mb:Nat} {z:Int} {lv:Value} (Fin:Value→World→Prop) (a:Act) (w:World) (Q:Exit→Act→World→Prop) (zz:a.tmps.size=42)
 (t0:a.tmps.getD 0 undef= (pZ mb 0))
 (t5:a.tmps.getD 5 undef= .int .i64 z)
 (LL:(Instr.loadAt 85 (pZ mb (0+0))).run prog w= .ok (lv) w) (CC:Calls prog 46 #[lv, .int .i64 z] w fun e w1=> ∃u2,e= .returned u2∧∃w2,(Instr.storeAt 85 (pZ mb (0+0)) u2).run prog w1= .ok () w2∧Fin u2 w2)
 (h:∀(u2:Value) a' w',Fin u2 w'→a'=((((((((a.put (some 28) (pZ mb 0)).put (some 29) (pZ mb 0)).put (some 30) (pZ mb 0)).put (some 31) (pZ mb (0+0))).put (some 32) (lv)).put (some 33) (.int .i64 z)).put (some 34) (u2)).put (some 35) (pZ mb 0)).put (some 36) (pZ mb (0+0))→Q .normal a' w') :
 (Code.region 8 Awu false).wp prog Q a w:=by
 refine z0 rfl ?_
 iterate 2 refine zv rfl (xmv rfl (zi t0 rfl)) ?_
 refine zv rfl (xnc rfl (zg zz rfl)) ?_
 refine zv rfl (xfa rfl (zg zz rfl) (Ak8 _ _ _)) ?_
 refine zv rfl (xld rfl (zg zz rfl) LL) ?_
 refine zv rfl (xmv rfl (zi t5 rfl)) ?_
 refine zc rfl (Aap rfl (zg zz rfl) (zg zz rfl)) (CC) (fun e x6 hx=> ?_)
 obtain ⟨u2,rfl,w2,ES,HF⟩:=hx
 replace h:=h u2
 refine ⟨_,rfl, ?_⟩
 refine zv rfl (xnc rfl (zg zz rfl)) ?_
 refine zv rfl (xfa rfl (zg zz rfl) (Ak8 _ _ _)) ?_
 refine zs rfl (Aai rfl (zg zz rfl) (zg zz rfl) ES) ?_
 exact ze rfl (h _ _ (HF) rfl)
def Awt:Array Oper:=(⟨_,rfl⟩:{o // some o=rgB Tryz.f14 9}).1
theorem A8u {mb ib b1:Nat} {k:IdK} {w2:World} (S:World→Prop) (a:Act) (w:World) (Q:Exit→Act→World→Prop) (zz:a.tmps.size=42)
 (t0:a.tmps.getD 0 undef= (pZ mb 0))
 (t3:a.tmps.getD 3 undef= (pZ b1 0))
 (h0:S w.drew) (LM:∀W,S W→(Instr.loadAt 84 (pZ mb (0+1))).run prog W= .ok (.map (some ib)) W) (LK:∀W,S W→(Instr.loadAt 36 (pZ b1 0)).run prog W= .ok (k.v) W) (ED:(Builtin.delete_ #[84,36] 0 #[.map (some ib),k.v]).run prog w.drew= .ok (.tuple #[]) w2)
 (h:∀a' w',w'=w2→a'=((((a.put (some 37) (pZ mb 0)).put (some 38) (pZ mb 0)).put (some 39) (pZ mb (0+1))).put (some 40) (.map (some ib))).put (some 41) (k.v)→Q .normal a' w') :
 (Code.region 9 Awt true).wp prog Q a w:=by
 refine x0 5 (fun w'=>S w') (h0) (fun hHeld=> ?_)
 refine xv 0 rfl rfl (fun w1 hw=>xmv rfl (zi t0 rfl)) hHeld ?_
 refine xv 1 rfl rfl (fun w1 hw=>xnc rfl (zg zz rfl)) hHeld ?_
 refine xv 2 rfl rfl (fun w1 hw=>xfa rfl (zg zz rfl) (Atk _ _ _)) hHeld ?_
 refine xv 3 rfl rfl (fun w1 hw=>xld rfl (zg zz rfl) (LM _ hw)) hHeld ?_
 refine xv 4 rfl rfl (fun w1 hw=>xld rfl (zi t3 rfl) (LK _ hw)) hHeld ?_
 refine xd 5 rfl rfl (Alb rfl (zg zz rfl) (zg zz rfl) ED) (fun hne=>absurd rfl hne) (fun _=> ?_)
 exact xe rfl (h _ _ (rfl) rfl)
end
end Go.Proofs.YtifendlpeebofaaGreatDoor
