import Derived.Test.YtifendlpeebofaaGreatDoorP8
import Derived.Test.YtifendlpeebofaaGreatDoorP6
import Derived.Test.YtifendlpeebofaaGreatDoorP0
import Derived.Test.YtifendlpeebofaaGreatDoorP4
import Derived.Laws.Externs
import Derived.MapKept
import Derived.Test.YtifendlpeebofaaGreatDoorP2
set_option linter.unusedSimpArgs false
set_option linter.unusedVariables false
set_option maxRecDepth 100000
set_option maxHeartbeats 4000000
namespace Go.Proofs.YtifendlpeebofaaGreatDoor
open Go.Proofs.Tryz
section
open Go.RowKit Sq
attribute [local go_sem] Oper.semAt_some
def spO (E:List Elt) (L:List MkV) (e a b:Int) (nm:ByteArray):List SpV:=if (hoD E L nm e).2=true then [⟨a,b,nm,(hoD E L nm e).1⟩] else []
theorem A2g (E:List Elt) (L:List MkV) (e a b:Int) (l:List ByteArray):(l.flatMap (spO E L e a b)).length≤l.length:=by
 induction l with
 |nil=>simp
 |cons x l ih =>
  rw [List.flatMap_cons,List.length_append,List.length_cons]
  have:(spO E L e a b x).length≤1:=by unfold spO;split <;>simp
  omega
structure OvD (E:List Elt) (L:List MkV) (k:IdK) (O:List SpV):Prop where
 no:Abg E k=false→O=[]
 yes:∀(i:Nat) (hi:i<E.length),E[i].id=k→∃l,Acb L l∧O=l.flatMap (spO E L (i:Int) (Aac E true k) (if E[i].sh=true then Aac E true k+1 else Aac E true k))
theorem A1e {E:List Elt} {L:List MkV} (ok:∀x∈L,x.ok) (nm:ByteArray) (e:Int):(hoD E L nm e).1.ok:=by
 unfold hoD
 split
 ·next x hx=>exact (ok x (List.mem_filter.1 (List.mem_of_getLast? hx)).1).v
 ·exact Alo
theorem A6t {W:World} {b:Nat} {x:SpV} (h:RSp.Bx W b x) (z:Int):∃W',(Instr.storeAt 3 (pZ b (0+1)) (.int .i64 z)).run prog W= .ok () W'∧RSp.Bx W' b ⟨x.fr,z,x.nm,x.v⟩∧Tch (fun j=>j=b) W W':=by
 have hg:W.heap[b]? =some (.cells x.c.toArray 65 (0,0)):=h
 have hcell:W.cell? ⟨b,1,none⟩=some (.int .i64 x.to):=(cell_of_row W b 1 _ _ _ hg).trans rfl
 have hf:=frozen_of_row W b 1 _ _ hg
 have es:(Instr.storeAt 3 (pZ b (0+1)) (.int .i64 z)).run prog W= .ok () (W.setCell ⟨b,1,none⟩ (.int .i64 z)):=by
  go_simp
 refine ⟨_,es, ?_,⟨rfl,rfl,rfl,by simp [World.setCell],fun j _ hj=>Go.heap_setCell_other _ _ _ _ hj⟩⟩
 obtain ⟨hl2,hv⟩:=Array.getElem?_eq_some_iff.1 hg
 exact Go.heap_setCell_same _ _ 1 _ _ _ h
theorem Aqc {W:World} {b:Nat} {x:SpV} (h:RSp.Bx W b x) (u:SpV):∃W',(Instr.storeAt 65 (pZ b 0) u.a).run prog W= .ok () W'∧RSp.Bx W' b u∧Tch (fun j=>j=b) W W':=by
 have e2:=run_storeVar_row (P:=prog) W b 65 65 x.c.toArray u.c.toArray h (by rw [List.size_toArray,SpV.len];exact Aae.sz Aam)
  (by rw [List.size_toArray,List.size_toArray,SpV.len,SpV.len]) (by rw [List.all_toArray,List.all_eq_true];exact SpV.one u)
 refine ⟨W.setRow b u.c.toArray, ?_,setRow_heap W b _ _ _ _ h, ?_⟩
 ·simp only [Instr.storeAt,Instr.sureAddr,Sem.run_bind,Sem.run_pure,Result.andThen_ok,SpV.a,e2]
 ·have:=Aec W b u.c.toArray
  exact ⟨this.os,this.tape,this.output,this.size,fun j hj hn=>this.block j hj (fun e=>hn (by injection e with e;exact e.symm))⟩
theorem Agq {α β:Type} {l:List α} {j:Nat} {x:α} (h:l[j]? =some x) (f:α→List β):(l.take (j+1)).flatMap f=(l.take j).flatMap f++f x:=by
 rw [List.take_add_one,h]
 simp
theorem Agm {w:World} {base:Nat} {v:Value} {L:List SpV} (h:RSp.Own w base v L):∃a c,v= .slice a L.length c:=by
 rcases h.2 with ⟨e,hn⟩|⟨g,cap,cur,e,_⟩
 ·exact ⟨none,0,by rw [e,hn]⟩
 ·exact ⟨_,cap,e⟩
structure OvI (w4:World) (E:List Elt) (L:List MkV) (e a b:Int) (l:List ByteArray) (j:Nat) (lv:Value) (W:World):Prop where
 own:RSp.Own W w4.heap.size lv ((l.take j).flatMap (spO E L e a b))
 bel:Below w4.heap.size w4 W
set_option maxHeartbeats 8000000 in
theorem Aq6 {w:World} {base:Nat} {r:Rx} (h:Acr w base r) (h3:∀x∈r.L,0≤x.sd∧x.sd≤3) {B:Nat} {pv:Value} {R:List Elt} (hs:Aog w B pv R) {k:IdK} (hk:k.ok) :
 Calls prog 24 #[(pZ r.rb 0),pv,k.v] w fun e w'=> ∃v O,e= .returned v∧RSp.Own w' w.heap.size v O∧OvD (Ab5 R) r.L k O∧Below w.heap.size w w':=by
 have bx:Below w.heap.size w (w.alloc (.cells k.c.toArray 36)):=(Below.refl _ _).alloc (Nat.le_refl _) _
 have hx:=Acg w k
 have HWF:=Aaa (Afq hs.ok.1)
 have HOK:=Aaa hs.ok.1.row
 have hln:(Ab5 R).length≤1400000000000:=by rw [Adw];exact hs.ok.2
 have HH:=Aaa h
 have H3:=Aaa h3
 have HS:=Aaa hs
 have RW:=Aaa (Ahv (hs.below bx))
 have IDX:Hid (∀W,Below w.heap.size w W→Calls prog 62 #[pv,k.v] W fun e w'=>e= .returned (.int .i64 (Aac (Ab5 R) true k))∧Below W.heap.size W w'):=fun W b=>Asm (hs.below b) hk
 obtain ⟨E,hE⟩:∃E,Ab5 R=E:=⟨_,rfl⟩
 rw [hE] at HWF HOK hln RW IDX ⊢
 show Calls prog 24 #[(pZ r.rb 0),pv, .agg k.c.toArray] w _
 clear h h3 hs hE
 go_enter func24,ntmps24
 go_upto_region 1 with fail
 generalize w.alloc (.cells k.c.toArray 36)=wx at *
 obtain ⟨kb,hkb⟩:∃kb,w.heap.size=kb:=⟨_,rfl⟩
 have hx':Aaz wx kb k:=by rw [←hkb];exact hx
 rw [hkb]
 have HKB:=Aaa hkb
 have BX:=Aaa bx
 clear hx bx hkb
 refine En.zq tab rfl (En.ca RW.out ?_)
 rintro _ w1 ⟨ra,rc,rfl,o1,b1⟩
 refine ⟨_,rfl,En.fi ?_⟩
 simp only [En.pM,En.pU,Act.put,qsA,qsB,qsC]
 have zx:=BX.out.size
 have hat:RE.At w1 ra E:=by
  obtain ⟨a,c,e,ha,_⟩:=o1.open Adr HWF.out
  cases e
  exact ha
 have HAT:=Aaa hat
 have HI1:=Aaa (hx'.below b1)
 have B1:Hid (Below w.heap.size w w1):=BX.out.trans (b1.mono zx)
 clear RW o1 hx' BX
 obtain ⟨m,hm⟩:∃m,E.length=m:=⟨_,rfl⟩
 have PL:=Aaa (Ajd (lc:=rc) hat HWF.out HOK.out hln hk)
 have LK:=Aaa (Aah hk HI1.out)
 rw [hm] at PL
 rw [hm]
 have HM:=Aaa hm
 clear hat hm
 go_upto_region 2 with fail
 refine En.zq tab rfl (En.st LK.out (En.ca PL.out ?_))
 rintro _ w2 ⟨rfl,b2⟩
 refine ⟨_,rfl,En.fi ?_⟩
 simp only [En.pM,En.pU,Act.put,qsA,qsB,qsC]
 have B2:Hid (Below w.heap.size w w2):=B1.out.trans (b2.mono B1.out.size)
 have HAT2:=Aaa (HAT.out.below b2)
 have HI2:=Aaa (HI1.out.below b2)
 clear PL LK HAT HI1 B1 b2 b1
 go_upto_region 4 with fail
 cases hh:Abg E k with
 |false =>
  have c1:decide (Aac E false k<0)=true:=by rw [Adk hh];rfl
  refine En.zq tab rfl (En.cm c1 (En.fi ?_))
  simp only [En.pM,En.pU,Act.put,qsA,qsB,qsC]
  clear c1
  go_wp2
  go_ret
  refine ⟨_,[],rfl,RSp.own_nil _ _,⟨fun _=>rfl,fun i hi e=> ?_⟩,B2.out⟩
  have:Abg E k=true:=Aao.2 ⟨E[i],List.getElem_mem hi,e⟩
  rw [hh] at this;cases this
 |true =>
  obtain ⟨i,hi,hik⟩:∃i,∃hi:i<E.length,E[i].id=k:=by
   obtain ⟨x,hx,e⟩:=Aao.1 hh
   obtain ⟨i,hi,e2⟩:=List.getElem_of_mem hx
   exact ⟨i,hi,by rw [e2];exact e⟩
  have er:Aac E false k=(i:Int):=by rw [←hik];exact Afi HOK.out hi
  rw [er]
  have c1:decide ((i:Int)<0)=false:=decide_eq_false (by omega)
  refine En.zq tab rfl (En.cm c1 (En.fi ?_))
  simp only [En.pM,En.pU,Act.put,qsA,qsB,qsC]
  have NM:=Aaa (Aji (HH.out.below B2.out))
  have HIK:=Aaa hik
  clear c1 er hh
  go_upto_region 6 with fail
  refine En.zq tab rfl (En.ca NM.out ?_)
  rintro _ w3 ⟨nv,l,rfl,hnl,hno,b3⟩
  refine ⟨_,rfl,En.fi ?_⟩
  simp only [En.pM,En.pU,Act.put,qsA,qsB,qsC]
  have B3:Hid (Below w.heap.size w w3):=B2.out.trans (b3.mono B2.out.size)
  have HAT3:=Aaa (HAT2.out.below b3)
  have HI3:=Aaa (HI2.out.below b3)
  have HNL:=Aaa hnl
  have HNO:=Aaa hno
  obtain ⟨na,nc,env⟩:=hno.sl
  obtain ⟨n,hn⟩:∃n,l.length=n:=⟨_,rfl⟩
  rw [hn] at env
  subst env
  have HN:=Aaa hn
  have hn9:n≤900000000000:=by rw [←hn];exact Nat.le_trans hnl.len HH.out.n
  obtain ⟨ix,hix⟩:∃x,Aac E true k=x:=⟨_,rfl⟩
  have HIX:=Aaa hix
  rw [hix] at IDX
  have HBI:=Aaa (Aga E true k)
  rw [hix] at HBI
  obtain ⟨te,hto⟩:∃t,(if E[i].sh=true then ix+1 else ix)=t:=⟨_,rfl⟩
  have HTO:=Aaa hto
  obtain ⟨L,hL⟩:∃L,r.L=L:=⟨_,rfl⟩
  clear NM HAT2 HI2 B2 hnl hno b3 hn hix hto hik
  go_wp2
  go_loopw [9,11] (fun v9 v11 wr=> ∃j:Nat,v11= .int .i64 (j:Int)∧j≤n∧Hid (OvI w3 E r.L (i:Int) ix te l j v9 wr)) (fun _ v11 _=>n-(match v11 with | .int _ i=>i.toNat|_=>0))
  case atStart=>exact ⟨0,rfl,Nat.zero_le _,by simpa using RSp.own_nil _ _,Below.refl _ _⟩
  case round =>
   obtain ⟨j,rfl,hj,HO⟩:=hrel
   obtain ⟨sa,sc,ev⟩:=Agm HO.out.own
   obtain ⟨sn,hsn⟩:∃n,((l.take j).flatMap (spO E r.L (i:Int) ix te)).length=n:=⟨_,rfl⟩
   rw [hsn] at ev
   subst ev
   have HSN:=Aaa hsn
   clear hsn
   by_cases hjn:j<n
   ·obtain ⟨nm,hy⟩:∃nm,l[j]? =some nm:=⟨_,List.getElem?_eq_getElem (by rw [HN.out];exact hjn)⟩
    obtain ⟨lg,lc2,e3,_,_,lcc⟩:=HNO.out.cellB hy
    rw [HN.out] at e3
    cases e3
    have BW:Hid (∀W,Below w3.heap.size w3 W→Below w.heap.size w W):=fun W b=>B3.out.trans (b.mono B3.out.size)
    have LC:=Aaa lcc
    have HY:=Aaa hy
    have CH:=Ajq (lc:=rc) (HH.out.below (BW.out _ HO.out.bel)) H3.out (HAT3.out.below HO.out.bel) HWF.out HOK.out hln nm (i:Int)
    have SP:Hid (spO E r.L (i:Int) ix te nm=if (hoD E r.L nm (i:Int)).2=true then [⟨ix,te,nm,(hoD E r.L nm (i:Int)).1⟩] else []):=rfl
    have XO:=Aaa (A1e (E:=E) HH.out.ok nm (i:Int))
    obtain ⟨p,hp⟩:∃p,hoD E r.L nm (i:Int)=p:=⟨_,rfl⟩
    rw [HM.out,hp] at CH
    rw [hp] at SP XO
    obtain ⟨x,b⟩:=p
    have CHH:=Aaa CH
    have c1:decide ((j:Int)<(n:Int))=true:=decide_eq_true (by omega)
    clear lcc hy CH hp
    go_upto_region 8 with fail
    refine En.zq tab rfl (En.cm c1 (En.fi ?_))
    simp only [En.pM,En.pU,Act.put,qsA,qsB,qsC]
    clear c1
    go_upto_region 10 with fail
    refine En.zq tab rfl (En.st (Apt hjn (by omega) _) (En.st (LC.out _ HO.out.bel) (En.ca CHH.out ?_)))
    rintro _ w5 ⟨rfl,b5⟩
    have hv5:Abz (w5.alloc (.cells zVa.c.toArray 40)) w5.heap.size zVa:=heap_alloc_new _ _
    have b51:Below w5.heap.size w5 (w5.alloc (.cells zVa.c.toArray 40)):=(Below.refl _ _).alloc (Nat.le_refl _) _
    refine ⟨_,rfl,En.ef (Akn _) (En.eu (Afz (u:=x) hv5) (En.fi ?_))⟩
    simp only [En.pM,En.pU,Act.put,qsA,qsB,qsC]
    have hv6:=hv5.set x
    have b6:Below wr.heap.size wr ((w5.alloc (.cells zVa.c.toArray 40)).setRow w5.heap.size x.c.toArray):=(b5.trans (b51.mono b5.size)).trans ((Aby _ b51.size (Nat.le_refl _)).mono b5.size)
    have O6:Hid (OvI w3 E r.L (i:Int) ix te l j (.slice sa sn sc) ((w5.alloc (.cells zVa.c.toArray 40)).setRow w5.heap.size x.c.toArray)):=⟨HO.out.own.below b6,HO.out.bel.trans (b6.mono HO.out.bel.size)⟩
    obtain ⟨vb,hvb⟩:∃b,w5.heap.size=b:=⟨_,rfl⟩
    rw [hvb] at hv6 O6 ⊢
    generalize (w5.alloc (.cells zVa.c.toArray 40)).setRow vb x.c.toArray=w6 at *
    have HV6:=Aaa hv6
    clear hv5 b51 hv6 b6 b5 hvb CHH HO
    cases b with
    |false =>
     have N6:Hid (OvI w3 E r.L (i:Int) ix te l (j+1) (.slice sa sn sc) w6):=⟨by
      rw [Agq HY.out,SP.out,if_neg (by simp),List.append_nil];exact O6.out.own,O6.out.bel⟩
     clear O6 LC
     go_wp2
     rw [show ((j:Int)+1)=((j+1:Nat):Int) by omega]
     refine ⟨⟨j+1,rfl,hjn,N6⟩, ?_⟩
     show n-((j+1:Nat):Int).toNat<n-(j:Int).toNat
     omega
    |true =>
     go_upto_region 11 with fail
     refine En.zq tab rfl (En.fi ?_)
     simp only [En.pM,En.pU,Act.put,qsA,qsB,qsC]
     have LI:Hid (∀W,Below w6.heap.size w6 W→(Instr.loadAt 36 (pZ kb 0)).run prog W= .ok k.v W):=fun W b=>Aah hk (HI3.out.below (O6.out.bel.trans (b.mono O6.out.bel.size)))
     have LN6:Hid (∀W,Below w6.heap.size w6 W→(Instr.loadAt 9 (pZ lg (0+j))).run prog W= .ok (.string nm) W):=fun W b=>LC.out W (O6.out.bel.trans (b.mono O6.out.bel.size))
     have LV6:Hid (∀W,Below w6.heap.size w6 W→(Instr.loadAt 40 (pZ vb 0)).run prog W= .ok x.v W):=fun W b=>Abv (HV6.out.below b)
     have CI:Hid (∀W,Below w6.heap.size w6 W→Calls prog 62 #[pv,k.v] W fun e w'=>e= .returned (.int .i64 ix)∧Below W.heap.size W w'):=fun W b=>IDX.out W (BW.out _ (O6.out.bel.trans (b.mono O6.out.bel.size)))
     have AL6:Hid (∀W,(Instr.alloc 65 true (.tuple #[])).run prog W= .ok (pZ W.heap.size 0) (W.alloc (.cells Akg.c.toArray 65))):=fun W=>RSp.bx_zero Aam W
     clear LC
     go_upto_region 12 with fail
     refine En.zo tab (.one 0 (.one 1 (.one 3 (.one 4 (.one 6 (.one 7 (.one 8 (.one 9 (.one 10 (.two 2 (.two 5 (.one 11 (.one 12 (.one 13 .nil))) 12 (.one 5 (.one 11 (.one 13 .nil)))) 12 (.one 2 (.one 5 (.one 11 (.one 13 .nil)))))))))))))) 14 (fun W=>Below w6.heap.size w6 W) (hS:=(Below.refl _ _).drew) (h:=En.sty (fun W b=>LI.out W b) (En.sty (fun W b=>LI.out W b) (En.sty (fun W b=>Apt hjn (by omega) W) (En.sty (fun W b=>LN6.out W b) (En.sty (fun W b=>LV6.out W b) (En.Bo.mk ?pa ?pb))))))
     case' pa =>
      refine En.cay (CI.out _ ((Below.refl _ _).drew)) ?_
      rintro _ w7 ⟨rfl,b7⟩
      have D6:Below w6.heap.size w6 w6.drew:=(Below.refl _ _).drew
      have B7:Below w6.heap.size w6 w7:=D6.trans (b7.mono D6.size)
      refine ⟨_,rfl,B7,En.Bo.mk ?pc ?pd⟩
      case' pc =>
       refine En.cay (CI.out _ B7) ?_
       rintro _ w8 ⟨rfl,b8⟩
       have B8:=B7.trans (b8.mono B7.size)
       have n9:RSp.Bx (w8.alloc (.cells Akg.c.toArray 65)) w8.heap.size Akg:=heap_alloc_new _ _
       have b9:Below w6.heap.size w6 (w8.alloc (.cells Akg.c.toArray 65)):=B8.trans (((Below.refl _ _).alloc (Nat.le_refl _) _).mono B8.size)
       obtain ⟨w10,e10,n10,t10⟩:=Aqc n9 ⟨ix,ix,nm,x⟩
       have b10:Below w6.heap.size w6 w10:=b9.trans (t10.below b9.size (fun j e=>by rw [e];exact B8.size))
       refine ⟨_,rfl,B8,En.sty (fun W b=>Ab2 W ix ix nm x) (En.efy (AL6.out _) b9 (En.euy e10 b10 (En.fi ?_)))⟩
       have FN:=Aaa (And.intro n10 (And.intro b10 B8.size))
       clear n9 b9 e10 n10 t10 b10 B8 b8 B7 b7 D6
       generalize w8.heap.size=sb at *
      case' pd =>
       have n9:RSp.Bx (w7.alloc (.cells Akg.c.toArray 65)) w7.heap.size Akg:=heap_alloc_new _ _
       have b9:Below w6.heap.size w6 (w7.alloc (.cells Akg.c.toArray 65)):=B7.trans (((Below.refl _ _).alloc (Nat.le_refl _) _).mono B7.size)
       refine En.efy (AL6.out _) b9 (En.cay (CI.out _ b9) ?_)
       rintro _ w8 ⟨rfl,b8⟩
       have n9:=n9.below b8
       have B8:=b9.trans (b8.mono b9.size)
       obtain ⟨w10,e10,n10,t10⟩:=Aqc n9 ⟨ix,ix,nm,x⟩
       have b10:Below w6.heap.size w6 w10:=B8.trans (t10.below B8.size (fun j e=>by rw [e];exact B7.size))
       refine ⟨_,rfl,B8,En.sty (fun W b=>Ab2 W ix ix nm x) (En.euy e10 b10 (En.fi ?_))⟩
       have FN:=Aaa (And.intro n10 (And.intro b10 B7.size))
       clear n9 b9 e10 n10 t10 b10 B8 b8 B7 b7 D6
       generalize w7.heap.size=sb at *
     case' pb =>
      have D6:Below w6.heap.size w6 w6.drew:=(Below.refl _ _).drew
      have n9:RSp.Bx (w6.drew.alloc (.cells Akg.c.toArray 65)) w6.drew.heap.size Akg:=heap_alloc_new _ _
      have b9:Below w6.heap.size w6 (w6.drew.alloc (.cells Akg.c.toArray 65)):=D6.trans (((Below.refl _ _).alloc (Nat.le_refl _) _).mono D6.size)
      refine En.efy (AL6.out _) b9 (En.cay (CI.out _ b9) ?_)
      rintro _ w7 ⟨rfl,b7⟩
      have n9:=n9.below b7
      have B7:=b9.trans (b7.mono b9.size)
      refine ⟨_,rfl,B7,En.cay (CI.out _ B7) ?_⟩
      rintro _ w8 ⟨rfl,b8⟩
      have n9:=n9.below b8
      have B8:=B7.trans (b8.mono B7.size)
      obtain ⟨w10,e10,n10,t10⟩:=Aqc n9 ⟨ix,ix,nm,x⟩
      have b10:Below w6.heap.size w6 w10:=B8.trans (t10.below B8.size (fun j e=>by rw [e];exact D6.size))
      refine ⟨_,rfl,B8,En.sty (fun W b=>Ab2 W ix ix nm x) (En.euy e10 b10 (En.fi ?_))⟩
      have FN:=Aaa (And.intro n10 (And.intro b10 D6.size))
      clear n9 b9 e10 n10 t10 b10 B8 b8 B7 b7 D6
      generalize w6.drew.heap.size=sb at *
     all_goals
      simp only [En.pM,En.pU,Act.put,qsA,qsB,qsC]
      have N11:Hid (OvI w3 E r.L (i:Int) ix te l j (.slice sa sn sc) w10):=⟨O6.out.own.below FN.out.2.1,O6.out.bel.trans (FN.out.2.1.mono O6.out.bel.size)⟩
      have F11:Hid (RSp.Bx w10 sb ⟨ix,ix,nm,x⟩∧w6.heap.size≤sb):=⟨FN.out.1,FN.out.2.2⟩
      have OWN6:Hid (RSp.Own w6 w3.heap.size (.slice sa sn sc) ((l.take j).flatMap (spO E r.L (i:Int) ix te))):=O6.out.own
      obtain ⟨eb,eo,hra,rfl⟩:∃eb eo,w10.rangeAt eb (eo+67*i) E[i].c∧ra=some ⟨eb,eo,none⟩:=by
       rcases HAT3.out.below N11.out.bel with h|⟨g,o,e,hl,h2⟩
       ·rw [h] at hi;simp at hi
       ·exact ⟨g,o,h2 i _ (List.getElem?_eq_getElem hi),e⟩
      have LSH:=Aaa (A3z (HWF.out _ (List.getElem_mem hi)) hra)
      have IM:Hid (i<m):=Aaa (by rw [←HM.out];exact hi)
      have IB:Hid (m≤1400000000001):=Aaa (by have:=HM.out;omega)
      clear hra
      go_upto_region 13 with fail
      refine En.zq tab rfl (En.st (Agp IM.out IB.out _) (En.st LSH.out (En.fi ?_)))
      simp only [En.pM,En.pU,Act.put,qsA,qsB,qsC]
      clear LSH IM IB OWN6 N11 LI LN6 LV6 CI AL6
      rcases Bool.eq_false_or_eq_true E[i].sh with hsh|hsh
      case' inl =>
       rw [hsh]
       have hte:ix+1=te:=by have:=HTO.out;rw [if_pos hsh] at this;exact this
       obtain ⟨w11,e11,n11,t11⟩:=A6t F11.out.1 te
       have b11:Below w6.heap.size w6 w11:=FN.out.2.1.trans (t11.below FN.out.2.1.size (fun j e=>by rw [e];exact FN.out.2.2))
       have LT:=Aaa (Ag0 F11.out.1)
       have hwz:IntKind.i64.wrap (ix+1)=te:=by
           obtain ⟨h1,h2⟩:=HBI.out
           rw [Acc ⟨by omega,by omega⟩]
           exact hte
       go_upto_region 14 with fail
       refine En.zq tab rfl (En.st LT.out (En.ar (z:=te) hwz (En.eu e11 (En.fi ?_))))
       simp only [En.pM,En.pU,Act.put,qsA,qsB,qsC]
       have FX:=Aaa (And.intro n11 b11)
       clear LT e11 n11 b11 t11 hte hwz
      case' inr =>
       rw [hsh]
       have hte:ix=te:=by have:=HTO.out;rw [if_neg (by rw [hsh];decide)] at this;exact this
       have FX:=Aaa (And.intro (show RSp.Bx w10 sb ⟨ix,te,nm,x⟩ by rw [←hte];exact F11.out.1) FN.out.2.1)
       obtain ⟨w11,rfl⟩:∃q,q=w10:=⟨_,rfl⟩
       clear hte
      all_goals
       have okx:RSp.ok ⟨ix,te,nm,x⟩:=by
           have:=HBI.out
           have ht:te=ix∨te=ix+1:=by have:=HTO.out;split at this <;>omega
           refine ⟨by show _≤ix;omega,by show ix≤_;omega,by show _≤te;omega,by show te≤_;omega, ?_,XO.out⟩
           obtain ⟨y,hy,e⟩:=(HNL.out.mem nm).1 (List.mem_of_getElem? HY.out)
           rw [←e]
           exact (HH.out.ok y hy).nm
       have len:((l.take j).flatMap (spO E r.L (i:Int) ix te)).length≤900000000000:=by
           have h1:=A2g E r.L (i:Int) ix te (l.take j)
           rw [List.length_take] at h1
           omega
       have OW:RSp.Own w11 w3.heap.size (.slice sa sn sc) ((l.take j).flatMap (spO E r.L (i:Int) ix te)):=O6.out.own.below FX.out.2
       have BL:Below w3.heap.size w3 w11:=O6.out.bel.trans (FX.out.2.mono O6.out.bel.size)
       have LX:=Aaa (Aae.ld Aam okx (Aae.Bx.rng FX.out.1))
       obtain ⟨sv,y1,v2,y2,e1,e2,o2,b1,z1,g2,q2⟩:=Aae.run_push Aam w11 w3.heap.size (.slice sa sn sc) _ ⟨ix,te,nm,x⟩ OW okx (by unfold maxLen;omega) (by show _*72≤_;omega) BL.size
       have N13:Hid (OvI w3 E r.L (i:Int) ix te l (j+1) v2 y2):=⟨by
           rw [Agq HY.out,SP.out,if_pos rfl];exact o2,(BL.trans (b1.mono BL.size)).trans ((Below.refl _ _).grown g2 (Nat.le_trans BL.size b1.size) (fun k e=>(OW.cells e).1))⟩
       clear okx len o2 b1 z1 g2 q2 OW BL
       go_upto_region 15 with fail
       refine En.zq tab rfl (En.st LX.out (En.ef e1 (En.ef e2 (En.fi ?_))))
       simp only [En.pM,En.pU,Act.put,qsA,qsB,qsC]
       clear LX e1 e2
       go_wp2
       rw [show ((j:Int)+1)=((j+1:Nat):Int) by omega]
       refine ⟨⟨j+1,rfl,hjn,N13⟩, ?_⟩
       show n-((j+1:Nat):Int).toNat<n-(j:Int).toNat
       omega
   ·obtain rfl:j=n:=by omega
    have c1:decide ((j:Int)<(j:Int))=false:=decide_eq_false (by omega)
    go_upto_region 8 with fail
    refine En.zq tab rfl (En.cm c1 (En.fi ?_))
    simp only [En.pM,En.pU,Act.put,qsA,qsB,qsC]
    clear c1
    go_wp2
    go_ret
    have oo:=HO.out.own
    rw [List.take_of_length_le (by rw [HN.out];exact Nat.le_refl _)] at oo
    refine ⟨_,_,rfl,oo.mono B3.out.size,⟨fun q=> ?_,fun i2 hi2 e2=>⟨l,HNL.out, ?_⟩⟩,B3.out.trans (HO.out.bel.mono B3.out.size)⟩
    ·have:Abg E k=true:=Aao.2 ⟨E[i],List.getElem_mem hi,HIK.out⟩
     rw [q] at this;cases this
    ·have e3:i2=i:=by
      have h1:=Afi HOK.out hi
      have h2:=Afi HOK.out hi2
      rw [HIK.out] at h1
      rw [e2,h1] at h2
      omega
     subst e3
     rw [HIX.out,HTO.out]
def wS (E:List Elt) (L:List MkV) (nm:ByteArray):Nat→List SpV
 |0=>[]
 |i+1=>match E[i]? with
  |some x=>if x.sh=true∧(hoD E L nm (i:Int)).2=true then Adj (wS E L nm i) ⟨(Abn E i:Int),(Abn E i:Int)+1,nm,(hoD E L nm (i:Int)).1⟩ else wS E L nm i
  |none=>wS E L nm i
def opS (E:List Elt) (L:List MkV) (nm:ByteArray):Nat→Bool
 |0=>false
 |i+1=>match E[i]? with
  |some x=>if x.sh=true then (hoD E L nm (i:Int)).2 else opS E L nm i
  |none=>opS E L nm i
section
variable {E:List Elt} {L:List MkV} {nm:ByteArray}
theorem A57 (ok:Abf E) {i:Nat} (hi:i<E.length) (hs:E[i].sh=true):hE E L nm (Abn E i:Int)=if (hoD E L nm (i:Int)).2=true then some (hoD E L nm (i:Int)).1 else none:=by
 rw [A3j ok L nm hi hs]
 unfold hR hoD
 have e:(L.filter fun x=>decide (x.nm=nm)&&Air E (i:Int) x)=L.filter (PD E nm (i:Int)):=by
  refine List.filter_congr fun x _=> ?_
  unfold PD
  rw [A1m hi]
 rw [e]
 cases (L.filter (PD E nm (i:Int))).getLast? with
 |none=>simp
 |some x=>by_cases h:x.v.k=0 <;>simp [h]
theorem Ap0 {i:Nat} (hi:i<E.length) (hs:E[i].sh=false):wS E L nm (i+1)=wS E L nm i∧opS E L nm (i+1)=opS E L nm i∧Abn E (i+1)=Abn E i:=by
 refine ⟨?_, ?_, ?_⟩
 ·rw [wS,List.getElem?_eq_getElem hi];simp [hs]
 ·rw [opS,List.getElem?_eq_getElem hi];simp [hs]
 ·rw [Ad7 hi];simp [hs]
theorem A11 {i:Nat} (hi:i<E.length) (hs:E[i].sh=true) (h:(hoD E L nm (i:Int)).2=false):wS E L nm (i+1)=wS E L nm i∧opS E L nm (i+1)=false∧Abn E (i+1)=Abn E i+1:=by
 refine ⟨?_, ?_, ?_⟩
 ·rw [wS,List.getElem?_eq_getElem hi];simp [h]
 ·rw [opS,List.getElem?_eq_getElem hi];simp [hs,h]
 ·rw [Ad7 hi];simp [hs]
theorem Apy {i:Nat} (hi:i<E.length) (hs:E[i].sh=true) (h:(hoD E L nm (i:Int)).2=true):wS E L nm (i+1)=Adj (wS E L nm i) ⟨(Abn E i:Int),(Abn E i:Int)+1,nm,(hoD E L nm (i:Int)).1⟩∧opS E L nm (i+1)=true∧Abn E (i+1)=Abn E i+1:=by
 refine ⟨?_, ?_, ?_⟩
 ·rw [wS,List.getElem?_eq_getElem hi];simp [hs,h]
 ·rw [opS,List.getElem?_eq_getElem hi];simp [hs,h]
 ·rw [Ad7 hi];simp [hs]
theorem Akl (ok:Abf E):∀i,i≤E.length→Ack (hE E L nm) nm (Abn E i:Int) (wS E L nm i)
 |0,_=>by
  refine ⟨fun p hp=>(by cases hp),fun p hp=>(by cases hp),List.Pairwise.nil,fun l1 l2 p e=> ?_,fun j v hj hv=> ?_⟩
  ·exact absurd (congrArg List.length e) (by simp [wS])
  ·rw [A1g ok L nm (.inl (by have:Abn E 0=0:=by simp [Abn]
                             omega))] at hv
   cases hv
 |i+1,h=>by
  have ih:=Akl ok i (by omega)
  cases hs:E[i].sh with
  |false =>
   obtain ⟨a,_,c⟩:=Ap0 (L:=L) (nm:=nm) (by omega) hs
   rw [a,c];exact ih
  |true =>
   have e:=A57 (L:=L) (nm:=nm) ok (by omega) hs
   cases hh:(hoD E L nm (i:Int)).2 with
   |false =>
    obtain ⟨a,_,c⟩:=A11 (by omega) hs hh
    rw [a,c]
    rw [hh,if_neg (by decide)] at e
    exact ih.skip (by omega) fun j h1 h2=>by rw [show j=(Abn E i:Int) by omega];exact e
   |true =>
    obtain ⟨a,_,c⟩:=Apy (by omega) hs hh
    rw [a,c]
    rw [hh,if_pos rfl] at e
    exact ih.step (by omega) fun j h1 h2=>by rw [show j=(Abn E i:Int) by omega];exact e
theorem Af3 (ok:Abf E):∀i,i≤E.length→(opS E L nm i=true→∃q,(wS E L nm i).getLast?=some q∧q.to=(Abn E i:Int))∧(opS E L nm i=false→∀q∈wS E L nm i,q.to≠(Abn E i:Int))
 |0,_=>⟨fun h=>(by cases h),fun _ q hq=>(by cases hq)⟩
 |i+1,h=>by
  have ih:=Af3 ok i (by omega)
  have rr:=Akl (L:=L) (nm:=nm) ok i (by omega)
  cases hs:E[i].sh with
  |false =>
   obtain ⟨a,b,c⟩:=Ap0 (L:=L) (nm:=nm) (by omega) hs
   rw [a,b,c];exact ih
  |true =>
   cases hh:(hoD E L nm (i:Int)).2 with
   |false =>
    obtain ⟨a,b,c⟩:=A11 (by omega) hs hh
    rw [a,b,c]
    exact ⟨fun q=>(by cases q),fun _ q hq=>by have:=(rr.in' q hq).2.1;omega⟩
   |true =>
    obtain ⟨a,b,c⟩:=Apy (by omega) hs hh
    rw [a,b,c]
    refine ⟨fun _=> ?_,fun q=>(by cases q)⟩
    unfold Adj
    split
    ·split
     ·exact ⟨_,by simp;rfl,by show _=_;simp⟩
     ·exact ⟨_,by simp;rfl,by show _=_;simp⟩
    ·exact ⟨_,by simp;rfl,by show _=_;simp⟩
theorem Awy (ok:Abf E) {i:Nat} (hi:i<E.length) {v:VaV} (ho:opS E L nm i=true) {A:List SpV} {q:SpV} (hq:wS E L nm i=A++[q]) (hv:q.v=v):Adj (wS E L nm i) ⟨(Abn E i:Int),(Abn E i:Int)+1,nm,v⟩=A++[⟨q.fr,q.to+1,q.nm,q.v⟩]:=by
 obtain ⟨q2,h1,h2⟩:=(Af3 (L:=L) (nm:=nm) ok i (by omega)).1 ho
 rw [hq] at h1 ⊢
 simp at h1
 subst h1
 unfold Adj
 simp [h2,hv]
theorem Awz (ok:Abf E) {i:Nat} (hi:i<E.length) {v:VaV} (h:opS E L nm i=true→∀q,(wS E L nm i).getLast?=some q→q.v≠v):Adj (wS E L nm i) ⟨(Abn E i:Int),(Abn E i:Int)+1,nm,v⟩=wS E L nm i++[⟨(Abn E i:Int),(Abn E i:Int)+1,nm,v⟩]:=by
 have o:=Af3 (L:=L) (nm:=nm) ok i (by omega)
 unfold Adj
 split
 ·next q hq =>
  rw [if_neg]
  rintro ⟨h1,h2⟩
  cases ho:opS E L nm i with
  |true=>exact h ho q hq h2
  |false=>exact o.2 ho q (List.mem_of_getLast? hq) h1
 ·rfl
theorem Apz (ok:Abf E):∀k i,i+k=E.length→(wS E L nm i).length≤(wS E L nm E.length).length
 |0,i,h=>by rw [show i=E.length by omega];exact Nat.le_refl _
 |k+1,i,h=>by
  refine Nat.le_trans ?_ (Apz ok k (i+1) (by omega))
  rw [wS]
  split
  ·split
   ·unfold Adj
    split
    ·split
     ·next q hq _ =>
      obtain ⟨A,e⟩:=List.getLast?_eq_some_iff.1 hq
      rw [e];simp
     ·simp
    ·simp
   ·exact Nat.le_refl _
  ·exact Nat.le_refl _
def Aer (E:List Elt) (L:List MkV) (l:List ByteArray):List SpV:=l.flatMap fun nm=>wS E L nm E.length
theorem Ag4 (ok:Abf E):(∀p,p∈wS E L nm E.length↔Run (hE E L) p∧p.nm=nm)∧(wS E L nm E.length).Nodup:=by
 have r:=Akl (L:=L) (nm:=nm) ok E.length (Nat.le_refl _)
 refine ⟨fun p=>r.mem (fun j hj=>A1g ok L nm (.inr ?_)) p,r.nodup⟩
 rw [Ae7 E (Nat.le_refl _)] at hj
 exact hj
theorem Acb.nodup {L:List MkV} {l:List ByteArray} (h:Acb L l):l.Nodup:=h.srt.imp fun {a b} q e=>by rw [e,A2z] at q;cases q
theorem A0f (ok:Abf E) {l:List ByteArray} (h:Acb L l):(∀p,p∈Aer E L l↔Run (hE E L) p)∧(Aer E L l).Nodup:=by
 have nm_in:∀p,Run (hE E L) p→p.nm∈l:=fun p hp=>by
  obtain ⟨c,hc⟩:=List.exists_mem_of_ne_nil _ (Ahu hp)
  have hn:=A1k c hc
  have h1:=(List.mem_filter.1 (List.mem_filter.1 hc).1).1
  obtain ⟨x,hx,rfl⟩:=List.mem_map.1 h1
  exact (h.mem p.nm).2 ⟨x,hx,hn⟩
 refine ⟨fun p=> ?_, ?_⟩
 ·unfold Aer
  rw [List.mem_flatMap]
  exact ⟨fun ⟨nm,_,hp⟩=>(((Ag4 ok).1 p).1 hp).1,fun hp=>⟨p.nm,nm_in p hp,((Ag4 ok).1 p).2 ⟨hp,rfl⟩⟩⟩
 ·have nd:l.Nodup:=h.nodup
  unfold Aer
  clear h nm_in
  induction l with
  |nil=>simp
  |cons nm ns ih =>
   have n2:=List.nodup_cons.1 nd
   rw [List.flatMap_cons,List.nodup_append]
   refine ⟨(Ag4 ok).2,ih n2.2,fun p hp q hq e=> ?_⟩
   subst e
   obtain ⟨m,hm,hq⟩:=List.mem_flatMap.1 hq
   have e1:=(((Ag4 ok).1 p).1 hp).2
   have e2:=(((Ag4 ok).1 p).1 hq).2
   exact n2.1 (by rw [←e1,e2];exact hm)
theorem A4g (ok:Abf E):(wS E L nm E.length).length≤(Adv (cvN E L nm) nm (Aaf (cvN E L nm))).length:=by
 obtain ⟨m,nd⟩:=Ag4 (L:=L) (nm:=nm) ok
 by_cases hc:cvN E L nm=[]
 ·have:wS E L nm E.length=[]:=List.eq_nil_iff_forall_not_mem.2 fun p hp=>by
   obtain ⟨a,b⟩:=(m p).1 hp
   exact Ahu a (by rw [b];exact hc)
  rw [this];exact Nat.zero_le _
 ·obtain ⟨m2,nd2⟩:=Al2 (h:=hE E L) (nm:=nm) hc Auh (fun j=>rfl)
  exact Nat.le_of_eq ((List.perm_ext_iff_of_nodup nd nd2).2 fun p=>(m p).trans (m2 p).symm).length_eq
theorem Aof (ok:Abf E) {l:List ByteArray} (nd:l.Nodup):(Aer E L l).length≤2*L.length:=by
 refine Nat.le_trans ?_ (Ah7 (E:=E) (L:=L) nd)
 unfold Aer
 clear nd
 induction l with
 |nil=>simp
 |cons a ns ih =>
  rw [List.flatMap_cons,List.flatMap_cons,List.length_append,List.length_append]
  have:=A4g (L:=L) (nm:=a) ok
  omega
theorem Av5 (ok:Abf E) {l:List ByteArray} (nd:l.Nodup) {n:Nat} {nm:ByteArray} (hn:l[n]? =some nm) {i:Nat} (hi:i≤E.length):(Aer E L (l.take n)++wS E L nm i).length≤2*L.length:=by
 refine Nat.le_trans ?_ (Aof (L:=L) ok nd)
 have h1:=Apz (L:=L) (nm:=nm) ok (E.length-i) i (by omega)
 have hl:=(List.getElem?_eq_some_iff.1 hn)
 have e:l=l.take n++nm::l.drop (n+1):=by rw [←hl.2,List.getElem_cons_drop,List.take_append_drop]
 have e2:Aer E L l=Aer E L (l.take n)++(wS E L nm E.length++Aer E L (l.drop (n+1))):=by
  conv=>lhs;rw [e]
  unfold Aer
  rw [List.flatMap_append,List.flatMap_cons]
 rw [e2]
 simp only [List.length_append]
 omega
end
end
section
open Go.RowKit Go.Shelf Sq
def isN (nm:ByteArray) (x:MkV):Bool:=decide (x.nm=nm)
theorem Ad2 (nm:ByteArray) (p:MkV→Bool) (x:MkV) (l:List MkV):((x::l).find? fun y=>isN nm y&&p y)=if x.nm=nm∧p x=true then some x else l.find? fun y=>isN nm y&&p y:=by
 rw [List.find?_cons]
 unfold isN
 by_cases h:x.nm=nm∧p x=true
 ·rw [if_pos h];simp [h.1,h.2]
 ·rw [if_neg h]
  have:(decide (x.nm=nm)&&p x)=false:=by
   by_cases e:x.nm=nm
   ·have:p x=false:=by
     cases q:p x with
     |false=>rfl
     |true=>exact absurd ⟨e,q⟩ h
    simp [this]
   ·simp [e]
  rw [this]
theorem Ads (E:List Elt) (r:Int):∀(l acc:List MkV),(acc.map (·.nm)).Nodup→((l.foldl (Abc E r) acc).map (·.nm)).Nodup∧∀nm,(l.foldl (Abc E r) acc).find? (isN nm)=(acc.find? (isN nm)).or (l.find? fun y=>isN nm y&&Air E r y)
 |[],acc,h=>⟨h,fun nm=>by simp⟩
 |x::l,acc,h=>by
  rw [List.foldl_cons]
  by_cases hh:(acc.any fun y=>decide (y.nm=x.nm))=true
  ·have e:Abc E r acc x=acc:=by unfold Abc;rw [if_pos hh]
   rw [e]
   obtain ⟨h1,h2⟩:=Ads E r l acc h
   refine ⟨h1,fun nm=> ?_⟩
   rw [h2,Ad2]
   by_cases q:x.nm=nm∧Air E r x=true
   ·rw [if_pos q]
    cases f:acc.find? (isN nm) with
    |some y=>rfl
    |none =>
     obtain ⟨y,hy,hy2⟩:=List.any_eq_true.1 hh
     have:=List.find?_eq_none.1 f y hy
     unfold isN at this
     rw [←q.1] at this
     exact absurd hy2 this
   ·rw [if_neg q]
  ·by_cases hc:(Abo E x).1≤r∧r<(Abo E x).2
   ·have e:Abc E r acc x=acc++[x]:=by unfold Abc;rw [if_neg hh,if_pos hc]
    have hn:x.nm∉acc.map (·.nm):=fun q=>by
      obtain ⟨y,hy,e2⟩:=List.mem_map.1 q
      exact hh (List.any_eq_true.2 ⟨y,hy,decide_eq_true e2⟩)
    rw [e]
    obtain ⟨h1,h2⟩:=Ads E r l (acc++[x]) (by
      rw [List.map_append,List.nodup_append]
      refine ⟨h,by simp,fun a ha b hb e2=> ?_⟩
      simp at hb
      rw [←hb, ←e2] at hn
      exact hn ha)
    refine ⟨h1,fun nm=> ?_⟩
    have cr:Air E r x=true:=decide_eq_true hc
    rw [h2,Ad2,List.find?_append,Option.or_assoc]
    congr 1
    by_cases q:x.nm=nm
    ·rw [if_pos ⟨q,cr⟩]
     have:isN nm x=true:=decide_eq_true q
     simp [List.find?_cons,this]
    ·rw [if_neg (fun z=>q z.1)]
     have:isN nm x=false:=decide_eq_false q
     simp [List.find?_cons,this]
   ·have e:Abc E r acc x=acc:=by unfold Abc;rw [if_neg hh,if_neg hc]
    rw [e]
    obtain ⟨h1,h2⟩:=Ads E r l acc h
    refine ⟨h1,fun nm=> ?_⟩
    rw [h2,Ad2,if_neg (fun q=>hc (of_decide_eq_true q.2))]
theorem Aj4 (E:List Elt) (L:List MkV) (r:Int):((Agw E L r).map (·.nm)).Nodup:=(Ads E r L.reverse [] (by simp)).1
theorem Azn (E:List Elt) (L:List MkV) (r:Int) (nm:ByteArray):(Agw E L r).find? (isN nm)=(L.filter fun x=>decide (x.nm=nm)&&Air E r x).getLast?:=by
 unfold Agw
 rw [(Ads E r L.reverse [] (by simp)).2]
 rw [show ([]:List MkV).find? (isN nm)=none from rfl,Option.none_or, ←List.head?_filter,List.filter_reverse,List.head?_reverse]
 rfl
theorem Ald {E:List Elt} {L:List MkV} {r:Int} {x:MkV}:x∈Agw E L r↔(L.filter fun y=>decide (y.nm=x.nm)&&Air E r y).getLast?=some x:=by
 rw [←Azn]
 constructor
 ·intro h
  cases f:(Agw E L r).find? (isN x.nm) with
  |none=>exact absurd (show isN x.nm x=true from decide_eq_true rfl) (List.find?_eq_none.1 f x h)
  |some y =>
   have hy:=List.mem_of_find?_eq_some f
   have e0:isN x.nm y=true:=List.find?_some f
   have e:y.nm=x.nm:=of_decide_eq_true e0
   have nd:=Aj4 E L r
   obtain ⟨i,hi⟩:=List.mem_iff_getElem?.1 h
   obtain ⟨j,hj⟩:=List.mem_iff_getElem?.1 hy
   have hil:=(List.getElem?_eq_some_iff.1 hi).1
   have hjl:=(List.getElem?_eq_some_iff.1 hj).1
   have:i=j:=(List.getElem?_inj (by rw [List.length_map];exact hil) nd).1 (by rw [List.getElem?_map,List.getElem?_map,hi,hj];simp [e])
   rw [this,hj] at hi
   exact hi
 ·exact fun h=>List.mem_of_find?_eq_some h
theorem A2h {f t:Int} {C:List MkV} {p:SpV}:p∈spL f t C↔ ∃x∈C,x.v.k≠0∧p=⟨f,t,x.nm,x.v⟩:=by
 unfold spL
 rw [List.mem_map]
 constructor
 ·rintro ⟨x,hx,rfl⟩
  obtain ⟨h1,h2⟩:=List.mem_filter.1 hx
  exact ⟨x,h1,of_decide_eq_true h2,rfl⟩
 ·rintro ⟨x,h1,h2,rfl⟩
  exact ⟨x,List.mem_filter.2 ⟨h1,decide_eq_true h2⟩,rfl⟩
theorem A5a {E:List Elt} {L:List MkV} {r f t:Int} {p:SpV}:p∈spL f t (Agw E L r)↔p.fr=f∧p.to=t∧hR E L p.nm r=some p.v:=by
 rw [A2h]
 constructor
 ·rintro ⟨x,hx,hk,rfl⟩
  refine ⟨rfl,rfl, ?_⟩
  have:=Ald.1 hx
  unfold hR
  rw [this]
  show (if x.v.k=0 then none else some x.v)=_
  rw [if_neg hk]
 ·rintro ⟨rfl,rfl,h⟩
  unfold hR at h
  cases q:(L.filter fun x=>decide (x.nm=p.nm)&&Air E r x).getLast? with
  |none=>rw [q] at h;cases h
  |some x =>
   rw [q] at h
   have h':(if x.v.k=0 then none else some x.v)=some p.v:=h
   have hm:=List.mem_of_getLast? q
   have hn:x.nm=p.nm:=by
        have:=(List.mem_filter.1 hm).2
        simp only [Bool.and_eq_true,decide_eq_true_eq] at this
        exact this.1
   split at h'
   ·cases h'
   ·rename_i hk
    refine ⟨x,Ald.2 (by rw [hn];exact q),hk, ?_⟩
    rw [hn,Option.some.inj h']
theorem Ayd (E:List Elt) (L:List MkV) (r f t:Int):((spL f t (Agw E L r)).map (·.nm)).Nodup:=by
 have e:(spL f t (Agw E L r)).map (·.nm)=((Agw E L r).filter fun x=>decide (x.v.k≠0)).map (·.nm):=by
  unfold spL
  rw [List.map_map]
  rfl
 rw [e]
 exact (Aj4 E L r).sublist (List.Sublist.map _ List.filter_sublist)
end
section
open Go.RowKit
section
variable {w:World} {a:Act} {o:Oper} {x y:Operand}
theorem Azd {p q:Int} (ho:o.op= .binOp .eql 2 x y 2) (hx:a.eval x= .int .i64 p) (hy:a.eval y= .int .i64 q) (h:p≠q):(execOp a.eval o).run prog w= .ok (.value (.bool false)) w:=by
 unfold execOp
 simp only [ho,hx,hy]
 go_simp
theorem Atw {p q:Int} (ho:o.op= .binOp .eql 123 x y 123) (hx:a.eval x= .int .u64 p) (hy:a.eval y= .int .u64 q) (h:p≠q):(execOp a.eval o).run prog w= .ok (.value (.bool false)) w:=by
 unfold execOp
 simp only [ho,hx,hy]
 go_simp
theorem A3v {s t:ByteArray} {r:Bool} (ho:o.op= .binOp .eql 9 x y 9) (hx:a.eval x= .string s) (hy:a.eval y= .string t) (hr:decide (s=t)=r):(execOp a.eval o).run prog w= .ok (.value (.bool r)) w:=by
 refine Aca ho hx hy ?_ ?_
 ·kernel_rfl
 ·have e:(s.toList==t.toList)=r:=by
   subst hr
   by_cases h:s=t
   ·subst h;simp
   ·rw [decide_eq_false h]
    have:¬s.toList=t.toList:=fun q=>h (Aka q)
    simpa using this
  first
   |(go_simp;done)
   |(go_simp;exact e)
end
def Af1:Array Oper:=(⟨_,rfl⟩:{o // some o=rgB Tryz.f35 1}).1
theorem A84 {b2 b3:Nat} {x y:VaV} (S:World→Prop) (a:Act) (w:World) (Q:Exit→Act→World→Prop) (zz:a.tmps.size=33)
 (t2:a.tmps.getD 2 undef= (pZ b2 0))
 (t3:a.tmps.getD 3 undef= (pZ b3 0))
 (h0:S w.drew) (hk:¬x.k=y.k) (Lb20:∀W,S W→(Instr.loadAt 37 (pZ b2 (0+0))).run prog W= .ok (.int .u8 x.k) W) (Lb21:∀W,S W→(Instr.loadAt 2 (pZ b2 (0+1))).run prog W= .ok (.int .i64 x.n) W) (Lb22:∀W,S W→(Instr.loadAt 38 (pZ b2 (0+2))).run prog W= .ok (.float .f64 x.f) W) (Lb23:∀W,S W→(Instr.loadAt 9 (pZ b2 (0+3))).run prog W= .ok (.string x.s) W) (Lb30:∀W,S W→(Instr.loadAt 37 (pZ b3 (0+0))).run prog W= .ok (.int .u8 y.k) W) (Lb31:∀W,S W→(Instr.loadAt 2 (pZ b3 (0+1))).run prog W= .ok (.int .i64 y.n) W) (Lb32:∀W,S W→(Instr.loadAt 38 (pZ b3 (0+2))).run prog W= .ok (.float .f64 y.f) W) (Lb33:∀W,S W→(Instr.loadAt 9 (pZ b3 (0+3))).run prog W= .ok (.string y.s) W)
 (h:∀a' w',S w'→a'=((((((((((((((((((((((((((((a.put (some 5) (pZ b2 (0+0))).put (some 6) (.int .u8 x.k)).put (some 7) (pZ b3 (0+0))).put (some 8) (.int .u8 y.k)).put (some 9) (.bool false)).put (some 10) (.bool false)).put (some 11) (undef)).put (some 12) (undef)).put (some 13) (undef)).put (some 14) (undef)).put (some 15) (undef)).put (some 16) (.bool false)).put (some 17) (.bool false)).put (some 18) (undef)).put (some 19) (undef)).put (some 20) (undef)).put (some 21) (undef)).put (some 22) (undef)).put (some 23) (undef)).put (some 24) (undef)).put (some 25) (.bool false)).put (some 26) (.bool false)).put (some 27) (undef)).put (some 28) (undef)).put (some 29) (undef)).put (some 30) (undef)).put (some 31) (undef)).put (some 32) (.bool false)).put (some 4) (.bool false)→Q .normal a' w') :
 (Code.region 1 Af1 true).wp prog Q a w:=by
 refine y0 (fun w'=>S w') (h0) (fun hHeld=> ?_)
 refine yv 0 rfl rfl (fun w1 hw=>xfa rfl (zi t2 rfl) (Ad4 _ _ _)) hHeld ?_
 refine yv 1 rfl rfl (fun w1 hw=>xld rfl (zg zz rfl) (Lb20 _ hw)) hHeld ?_
 refine yv 2 rfl rfl (fun w1 hw=>xfa rfl (zi t3 rfl) (Ad4 _ _ _)) hHeld ?_
 refine yv 3 rfl rfl (fun w1 hw=>xld rfl (zg zz rfl) (Lb30 _ hw)) hHeld ?_
 refine yv (v:= .bool false) 4 rfl rfl (fun w1 hw=>Aig rfl (zg zz rfl) (zg zz rfl) (decide_eq_false hk)) hHeld ?_
 refine yv 5 rfl rfl (fun w1 hw=>xmv rfl (zg zz rfl)) hHeld ?_
 refine yn 6 rfl (zx zz rfl rfl rfl (zg zz rfl)) hHeld ?_
 refine yn 7 rfl (zx zz rfl rfl rfl (zg zz rfl)) hHeld ?_
 refine yn 8 rfl (zx zz rfl rfl rfl (zg zz rfl)) hHeld ?_
 refine yn 9 rfl (zx zz rfl rfl rfl (zg zz rfl)) hHeld ?_
 refine yn 10 rfl (zx zz rfl rfl rfl (zg zz rfl)) hHeld ?_
 refine yv 11 rfl rfl (fun w1 hw=>Aa0 rfl (zg zz rfl) rfl) hHeld ?_
 refine yv 12 rfl rfl (fun w1 hw=>xmv rfl (zg zz rfl)) hHeld ?_
 refine yn 13 rfl (zx zz rfl rfl rfl (zg zz rfl)) hHeld ?_
 refine yn 14 rfl (zx zz rfl rfl rfl (zg zz rfl)) hHeld ?_
 refine yn 15 rfl (zx zz rfl rfl rfl (zg zz rfl)) hHeld ?_
 refine yn 16 rfl (zx zz rfl rfl rfl (zg zz rfl)) hHeld ?_
 refine yn 17 rfl (zx zz rfl rfl rfl (zg zz rfl)) hHeld ?_
 refine yn 18 rfl (zx zz rfl rfl rfl (zg zz rfl)) hHeld ?_
 refine yn 19 rfl (zx zz rfl rfl rfl (zg zz rfl)) hHeld ?_
 refine yv 20 rfl rfl (fun w1 hw=>Aa0 rfl (zg zz rfl) rfl) hHeld ?_
 refine yv 21 rfl rfl (fun w1 hw=>xmv rfl (zg zz rfl)) hHeld ?_
 refine yn 22 rfl (zx zz rfl rfl rfl (zg zz rfl)) hHeld ?_
 refine yn 23 rfl (zx zz rfl rfl rfl (zg zz rfl)) hHeld ?_
 refine yn 24 rfl (zx zz rfl rfl rfl (zg zz rfl)) hHeld ?_
 refine yn 25 rfl (zx zz rfl rfl rfl (zg zz rfl)) hHeld ?_
 refine yn 26 rfl (zx zz rfl rfl rfl (zg zz rfl)) hHeld ?_
 refine yv 27 rfl rfl (fun w1 hw=>Aa0 rfl (zg zz rfl) rfl) hHeld ?_
 refine yv 28 rfl rfl (fun w1 hw=>xas rfl (zg zz rfl)) hHeld ?_
 exact ye rfl (h _ _ (hHeld) rfl)
theorem A83 {b2 b3:Nat} {x y:VaV} (S:World→Prop) (a:Act) (w:World) (Q:Exit→Act→World→Prop) (zz:a.tmps.size=33)
 (t2:a.tmps.getD 2 undef= (pZ b2 0))
 (t3:a.tmps.getD 3 undef= (pZ b3 0))
 (h0:S w.drew) (hk:x.k=y.k) (hn:x.n≠y.n) (Lb20:∀W,S W→(Instr.loadAt 37 (pZ b2 (0+0))).run prog W= .ok (.int .u8 x.k) W) (Lb21:∀W,S W→(Instr.loadAt 2 (pZ b2 (0+1))).run prog W= .ok (.int .i64 x.n) W) (Lb22:∀W,S W→(Instr.loadAt 38 (pZ b2 (0+2))).run prog W= .ok (.float .f64 x.f) W) (Lb23:∀W,S W→(Instr.loadAt 9 (pZ b2 (0+3))).run prog W= .ok (.string x.s) W) (Lb30:∀W,S W→(Instr.loadAt 37 (pZ b3 (0+0))).run prog W= .ok (.int .u8 y.k) W) (Lb31:∀W,S W→(Instr.loadAt 2 (pZ b3 (0+1))).run prog W= .ok (.int .i64 y.n) W) (Lb32:∀W,S W→(Instr.loadAt 38 (pZ b3 (0+2))).run prog W= .ok (.float .f64 y.f) W) (Lb33:∀W,S W→(Instr.loadAt 9 (pZ b3 (0+3))).run prog W= .ok (.string y.s) W)
 (h:∀a' w',S w'→a'=((((((((((((((((((((((((((((a.put (some 5) (pZ b2 (0+0))).put (some 6) (.int .u8 x.k)).put (some 7) (pZ b3 (0+0))).put (some 8) (.int .u8 y.k)).put (some 9) (.bool true)).put (some 10) (.bool true)).put (some 11) (pZ b2 (0+1))).put (some 12) (.int .i64 x.n)).put (some 13) (pZ b3 (0+1))).put (some 14) (.int .i64 y.n)).put (some 15) (.bool false)).put (some 16) (.bool false)).put (some 17) (.bool false)).put (some 18) (undef)).put (some 19) (undef)).put (some 20) (undef)).put (some 21) (undef)).put (some 22) (undef)).put (some 23) (undef)).put (some 24) (undef)).put (some 25) (.bool false)).put (some 26) (.bool false)).put (some 27) (undef)).put (some 28) (undef)).put (some 29) (undef)).put (some 30) (undef)).put (some 31) (undef)).put (some 32) (.bool false)).put (some 4) (.bool false)→Q .normal a' w') :
 (Code.region 1 Af1 true).wp prog Q a w:=by
 refine y0 (fun w'=>S w') (h0) (fun hHeld=> ?_)
 refine yv 0 rfl rfl (fun w1 hw=>xfa rfl (zi t2 rfl) (Ad4 _ _ _)) hHeld ?_
 refine yv 1 rfl rfl (fun w1 hw=>xld rfl (zg zz rfl) (Lb20 _ hw)) hHeld ?_
 refine yv 2 rfl rfl (fun w1 hw=>xfa rfl (zi t3 rfl) (Ad4 _ _ _)) hHeld ?_
 refine yv 3 rfl rfl (fun w1 hw=>xld rfl (zg zz rfl) (Lb30 _ hw)) hHeld ?_
 refine yv (v:= .bool true) 4 rfl rfl (fun w1 hw=>Aig rfl (zg zz rfl) (zg zz rfl) (decide_eq_true hk)) hHeld ?_
 refine yv 5 rfl rfl (fun w1 hw=>xmv rfl (zg zz rfl)) hHeld ?_
 refine yv 6 rfl (zw zz rfl rfl rfl (zg zz rfl)) (fun w1 hw=>xfa rfl (zi t2 rfl) (Afm _ _ _)) hHeld ?_
 refine yv 7 rfl (zw zz rfl rfl rfl (zg zz rfl)) (fun w1 hw=>xld rfl (zg zz rfl) (Lb21 _ hw)) hHeld ?_
 refine yv 8 rfl (zw zz rfl rfl rfl (zg zz rfl)) (fun w1 hw=>xfa rfl (zi t3 rfl) (Afm _ _ _)) hHeld ?_
 refine yv 9 rfl (zw zz rfl rfl rfl (zg zz rfl)) (fun w1 hw=>xld rfl (zg zz rfl) (Lb31 _ hw)) hHeld ?_
 refine yv (v:= .bool false) 10 rfl (zw zz rfl rfl rfl (zg zz rfl)) (fun w1 hw=>Azd rfl (zg zz rfl) (zg zz rfl) hn) hHeld ?_
 refine yv 11 rfl rfl (fun w1 hw=>Abm rfl (zg zz rfl) (zg zz rfl)) hHeld ?_
 refine yv 12 rfl rfl (fun w1 hw=>xmv rfl (zg zz rfl)) hHeld ?_
 refine yn 13 rfl (zx zz rfl rfl rfl (zg zz rfl)) hHeld ?_
 refine yn 14 rfl (zx zz rfl rfl rfl (zg zz rfl)) hHeld ?_
 refine yn 15 rfl (zx zz rfl rfl rfl (zg zz rfl)) hHeld ?_
 refine yn 16 rfl (zx zz rfl rfl rfl (zg zz rfl)) hHeld ?_
 refine yn 17 rfl (zx zz rfl rfl rfl (zg zz rfl)) hHeld ?_
 refine yn 18 rfl (zx zz rfl rfl rfl (zg zz rfl)) hHeld ?_
 refine yn 19 rfl (zx zz rfl rfl rfl (zg zz rfl)) hHeld ?_
 refine yv 20 rfl rfl (fun w1 hw=>Aa0 rfl (zg zz rfl) rfl) hHeld ?_
 refine yv 21 rfl rfl (fun w1 hw=>xmv rfl (zg zz rfl)) hHeld ?_
 refine yn 22 rfl (zx zz rfl rfl rfl (zg zz rfl)) hHeld ?_
 refine yn 23 rfl (zx zz rfl rfl rfl (zg zz rfl)) hHeld ?_
 refine yn 24 rfl (zx zz rfl rfl rfl (zg zz rfl)) hHeld ?_
 refine yn 25 rfl (zx zz rfl rfl rfl (zg zz rfl)) hHeld ?_
 refine yn 26 rfl (zx zz rfl rfl rfl (zg zz rfl)) hHeld ?_
 refine yv 27 rfl rfl (fun w1 hw=>Aa0 rfl (zg zz rfl) rfl) hHeld ?_
 refine yv 28 rfl rfl (fun w1 hw=>xas rfl (zg zz rfl)) hHeld ?_
 exact ye rfl (h _ _ (hHeld) rfl)
theorem A85 {b2 b3:Nat} {x y:VaV} (S:World→Prop) (a:Act) (w:World) (Q:Exit→Act→World→Prop) (zz:a.tmps.size=33)
 (t2:a.tmps.getD 2 undef= (pZ b2 0))
 (t3:a.tmps.getD 3 undef= (pZ b3 0))
 (h0:S w.drew) (hk:x.k=y.k) (hn:x.n=y.n) (hf:(x.f:Int)≠(y.f:Int)) (Lb20:∀W,S W→(Instr.loadAt 37 (pZ b2 (0+0))).run prog W= .ok (.int .u8 x.k) W) (Lb21:∀W,S W→(Instr.loadAt 2 (pZ b2 (0+1))).run prog W= .ok (.int .i64 x.n) W) (Lb22:∀W,S W→(Instr.loadAt 38 (pZ b2 (0+2))).run prog W= .ok (.float .f64 x.f) W) (Lb23:∀W,S W→(Instr.loadAt 9 (pZ b2 (0+3))).run prog W= .ok (.string x.s) W) (Lb30:∀W,S W→(Instr.loadAt 37 (pZ b3 (0+0))).run prog W= .ok (.int .u8 y.k) W) (Lb31:∀W,S W→(Instr.loadAt 2 (pZ b3 (0+1))).run prog W= .ok (.int .i64 y.n) W) (Lb32:∀W,S W→(Instr.loadAt 38 (pZ b3 (0+2))).run prog W= .ok (.float .f64 y.f) W) (Lb33:∀W,S W→(Instr.loadAt 9 (pZ b3 (0+3))).run prog W= .ok (.string y.s) W)
 (h:∀a' w',S w'→a'=((((((((((((((((((((((((((((a.put (some 5) (pZ b2 (0+0))).put (some 6) (.int .u8 x.k)).put (some 7) (pZ b3 (0+0))).put (some 8) (.int .u8 y.k)).put (some 9) (.bool true)).put (some 10) (.bool true)).put (some 11) (pZ b2 (0+1))).put (some 12) (.int .i64 x.n)).put (some 13) (pZ b3 (0+1))).put (some 14) (.int .i64 y.n)).put (some 15) (.bool true)).put (some 16) (.bool true)).put (some 17) (.bool true)).put (some 18) (pZ b2 (0+2))).put (some 19) (.float .f64 x.f)).put (some 21) (pZ b3 (0+2))).put (some 22) (.float .f64 y.f)).put (some 20) (.int .u64 (x.f:Int))).put (some 23) (.int .u64 (y.f:Int))).put (some 24) (.bool false)).put (some 25) (.bool false)).put (some 26) (.bool false)).put (some 27) (undef)).put (some 28) (undef)).put (some 29) (undef)).put (some 30) (undef)).put (some 31) (undef)).put (some 32) (.bool false)).put (some 4) (.bool false)→Q .normal a' w') :
 (Code.region 1 Af1 true).wp prog Q a w:=by
 refine y0 (fun w'=>S w') (h0) (fun hHeld=> ?_)
 refine yv 0 rfl rfl (fun w1 hw=>xfa rfl (zi t2 rfl) (Ad4 _ _ _)) hHeld ?_
 refine yv 1 rfl rfl (fun w1 hw=>xld rfl (zg zz rfl) (Lb20 _ hw)) hHeld ?_
 refine yv 2 rfl rfl (fun w1 hw=>xfa rfl (zi t3 rfl) (Ad4 _ _ _)) hHeld ?_
 refine yv 3 rfl rfl (fun w1 hw=>xld rfl (zg zz rfl) (Lb30 _ hw)) hHeld ?_
 refine yv (v:= .bool true) 4 rfl rfl (fun w1 hw=>Aig rfl (zg zz rfl) (zg zz rfl) (decide_eq_true hk)) hHeld ?_
 refine yv 5 rfl rfl (fun w1 hw=>xmv rfl (zg zz rfl)) hHeld ?_
 refine yv 6 rfl (zw zz rfl rfl rfl (zg zz rfl)) (fun w1 hw=>xfa rfl (zi t2 rfl) (Afm _ _ _)) hHeld ?_
 refine yv 7 rfl (zw zz rfl rfl rfl (zg zz rfl)) (fun w1 hw=>xld rfl (zg zz rfl) (Lb21 _ hw)) hHeld ?_
 refine yv 8 rfl (zw zz rfl rfl rfl (zg zz rfl)) (fun w1 hw=>xfa rfl (zi t3 rfl) (Afm _ _ _)) hHeld ?_
 refine yv 9 rfl (zw zz rfl rfl rfl (zg zz rfl)) (fun w1 hw=>xld rfl (zg zz rfl) (Lb31 _ hw)) hHeld ?_
 refine yv (v:= .bool true) 10 rfl (zw zz rfl rfl rfl (zg zz rfl)) (fun w1 hw=>Atx (p:=x.n) rfl (zg zz rfl) (by rw [hn];exact (zg zz rfl))) hHeld ?_
 refine yv 11 rfl rfl (fun w1 hw=>Abm rfl (zg zz rfl) (zg zz rfl)) hHeld ?_
 refine yv 12 rfl rfl (fun w1 hw=>xmv rfl (zg zz rfl)) hHeld ?_
 refine yv 13 rfl (zw zz rfl rfl rfl (zg zz rfl)) (fun w1 hw=>xfa rfl (zi t2 rfl) (Aic _ _ _)) hHeld ?_
 refine yv 14 rfl (zw zz rfl rfl rfl (zg zz rfl)) (fun w1 hw=>xld rfl (zg zz rfl) (Lb22 _ hw)) hHeld ?_
 refine yv 16 rfl (zw zz rfl rfl rfl (zg zz rfl)) (fun w1 hw=>xfa rfl (zi t3 rfl) (Aic _ _ _)) hHeld ?_
 refine yv 17 rfl (zw zz rfl rfl rfl (zg zz rfl)) (fun w1 hw=>xld rfl (zg zz rfl) (Lb32 _ hw)) hHeld ?_
 refine yr (v:= .int .u64 (x.f:Int)) 15 rfl (zw zz rfl rfl rfl (zg zz rfl)) (Aif rfl (zg zz rfl)) (h0) (fun hHeld=> ?_)
 refine yr (v:= .int .u64 (y.f:Int)) 18 rfl (zw zz rfl rfl rfl (zg zz rfl)) (Aif rfl (zg zz rfl)) (h0) (fun hHeld=> ?_)
 refine yv (v:= .bool false) 19 rfl (zw zz rfl rfl rfl (zg zz rfl)) (fun w1 hw=>Atw rfl (zg zz rfl) (zg zz rfl) hf) hHeld ?_
 refine yv 20 rfl rfl (fun w1 hw=>Abm rfl (zg zz rfl) (zg zz rfl)) hHeld ?_
 refine yv 21 rfl rfl (fun w1 hw=>xmv rfl (zg zz rfl)) hHeld ?_
 refine yn 22 rfl (zx zz rfl rfl rfl (zg zz rfl)) hHeld ?_
 refine yn 23 rfl (zx zz rfl rfl rfl (zg zz rfl)) hHeld ?_
 refine yn 24 rfl (zx zz rfl rfl rfl (zg zz rfl)) hHeld ?_
 refine yn 25 rfl (zx zz rfl rfl rfl (zg zz rfl)) hHeld ?_
 refine yn 26 rfl (zx zz rfl rfl rfl (zg zz rfl)) hHeld ?_
 refine yv 27 rfl rfl (fun w1 hw=>Aa0 rfl (zg zz rfl) rfl) hHeld ?_
 refine yv 28 rfl rfl (fun w1 hw=>xas rfl (zg zz rfl)) hHeld ?_
 exact ye rfl (h _ _ (h0) rfl)
theorem A82 {b2 b3:Nat} {x y:VaV} {r:Bool} (S:World→Prop) (a:Act) (w:World) (Q:Exit→Act→World→Prop) (zz:a.tmps.size=33)
 (t2:a.tmps.getD 2 undef= (pZ b2 0))
 (t3:a.tmps.getD 3 undef= (pZ b3 0))
 (h0:S w.drew) (hk:x.k=y.k) (hn:x.n=y.n) (hf:(x.f:Int)=(y.f:Int)) (hr:decide (x.s=y.s)=r) (Lb20:∀W,S W→(Instr.loadAt 37 (pZ b2 (0+0))).run prog W= .ok (.int .u8 x.k) W) (Lb21:∀W,S W→(Instr.loadAt 2 (pZ b2 (0+1))).run prog W= .ok (.int .i64 x.n) W) (Lb22:∀W,S W→(Instr.loadAt 38 (pZ b2 (0+2))).run prog W= .ok (.float .f64 x.f) W) (Lb23:∀W,S W→(Instr.loadAt 9 (pZ b2 (0+3))).run prog W= .ok (.string x.s) W) (Lb30:∀W,S W→(Instr.loadAt 37 (pZ b3 (0+0))).run prog W= .ok (.int .u8 y.k) W) (Lb31:∀W,S W→(Instr.loadAt 2 (pZ b3 (0+1))).run prog W= .ok (.int .i64 y.n) W) (Lb32:∀W,S W→(Instr.loadAt 38 (pZ b3 (0+2))).run prog W= .ok (.float .f64 y.f) W) (Lb33:∀W,S W→(Instr.loadAt 9 (pZ b3 (0+3))).run prog W= .ok (.string y.s) W)
 (h:∀a' w',S w'→a'=((((((((((((((((((((((((((((a.put (some 5) (pZ b2 (0+0))).put (some 6) (.int .u8 x.k)).put (some 7) (pZ b3 (0+0))).put (some 8) (.int .u8 y.k)).put (some 9) (.bool true)).put (some 10) (.bool true)).put (some 11) (pZ b2 (0+1))).put (some 12) (.int .i64 x.n)).put (some 13) (pZ b3 (0+1))).put (some 14) (.int .i64 y.n)).put (some 15) (.bool true)).put (some 16) (.bool true)).put (some 17) (.bool true)).put (some 18) (pZ b2 (0+2))).put (some 19) (.float .f64 x.f)).put (some 21) (pZ b3 (0+2))).put (some 22) (.float .f64 y.f)).put (some 20) (.int .u64 (x.f:Int))).put (some 23) (.int .u64 (y.f:Int))).put (some 24) (.bool true)).put (some 25) (.bool true)).put (some 26) (.bool true)).put (some 27) (pZ b2 (0+3))).put (some 28) (.string x.s)).put (some 29) (pZ b3 (0+3))).put (some 30) (.string y.s)).put (some 31) (.bool r)).put (some 32) (.bool r)).put (some 4) (.bool r)→Q .normal a' w') :
 (Code.region 1 Af1 true).wp prog Q a w:=by
 refine y0 (fun w'=>S w') (h0) (fun hHeld=> ?_)
 refine yv 0 rfl rfl (fun w1 hw=>xfa rfl (zi t2 rfl) (Ad4 _ _ _)) hHeld ?_
 refine yv 1 rfl rfl (fun w1 hw=>xld rfl (zg zz rfl) (Lb20 _ hw)) hHeld ?_
 refine yv 2 rfl rfl (fun w1 hw=>xfa rfl (zi t3 rfl) (Ad4 _ _ _)) hHeld ?_
 refine yv 3 rfl rfl (fun w1 hw=>xld rfl (zg zz rfl) (Lb30 _ hw)) hHeld ?_
 refine yv (v:= .bool true) 4 rfl rfl (fun w1 hw=>Aig rfl (zg zz rfl) (zg zz rfl) (decide_eq_true hk)) hHeld ?_
 refine yv 5 rfl rfl (fun w1 hw=>xmv rfl (zg zz rfl)) hHeld ?_
 refine yv 6 rfl (zw zz rfl rfl rfl (zg zz rfl)) (fun w1 hw=>xfa rfl (zi t2 rfl) (Afm _ _ _)) hHeld ?_
 refine yv 7 rfl (zw zz rfl rfl rfl (zg zz rfl)) (fun w1 hw=>xld rfl (zg zz rfl) (Lb21 _ hw)) hHeld ?_
 refine yv 8 rfl (zw zz rfl rfl rfl (zg zz rfl)) (fun w1 hw=>xfa rfl (zi t3 rfl) (Afm _ _ _)) hHeld ?_
 refine yv 9 rfl (zw zz rfl rfl rfl (zg zz rfl)) (fun w1 hw=>xld rfl (zg zz rfl) (Lb31 _ hw)) hHeld ?_
 refine yv (v:= .bool true) 10 rfl (zw zz rfl rfl rfl (zg zz rfl)) (fun w1 hw=>Atx (p:=x.n) rfl (zg zz rfl) (by rw [hn];exact (zg zz rfl))) hHeld ?_
 refine yv 11 rfl rfl (fun w1 hw=>Abm rfl (zg zz rfl) (zg zz rfl)) hHeld ?_
 refine yv 12 rfl rfl (fun w1 hw=>xmv rfl (zg zz rfl)) hHeld ?_
 refine yv 13 rfl (zw zz rfl rfl rfl (zg zz rfl)) (fun w1 hw=>xfa rfl (zi t2 rfl) (Aic _ _ _)) hHeld ?_
 refine yv 14 rfl (zw zz rfl rfl rfl (zg zz rfl)) (fun w1 hw=>xld rfl (zg zz rfl) (Lb22 _ hw)) hHeld ?_
 refine yv 16 rfl (zw zz rfl rfl rfl (zg zz rfl)) (fun w1 hw=>xfa rfl (zi t3 rfl) (Aic _ _ _)) hHeld ?_
 refine yv 17 rfl (zw zz rfl rfl rfl (zg zz rfl)) (fun w1 hw=>xld rfl (zg zz rfl) (Lb32 _ hw)) hHeld ?_
 refine yr (v:= .int .u64 (x.f:Int)) 15 rfl (zw zz rfl rfl rfl (zg zz rfl)) (Aif rfl (zg zz rfl)) (h0) (fun hHeld=> ?_)
 refine yr (v:= .int .u64 (y.f:Int)) 18 rfl (zw zz rfl rfl rfl (zg zz rfl)) (Aif rfl (zg zz rfl)) (h0) (fun hHeld=> ?_)
 refine yv (v:= .bool true) 19 rfl (zw zz rfl rfl rfl (zg zz rfl)) (fun w1 hw=>Azc (p:=(x.f:Int)) rfl (zg zz rfl) (by rw [hf];exact (zg zz rfl))) hHeld ?_
 refine yv 20 rfl rfl (fun w1 hw=>Abm rfl (zg zz rfl) (zg zz rfl)) hHeld ?_
 refine yv 21 rfl rfl (fun w1 hw=>xmv rfl (zg zz rfl)) hHeld ?_
 refine yv 22 rfl (zw zz rfl rfl rfl (zg zz rfl)) (fun w1 hw=>xfa rfl (zi t2 rfl) (Ato _ _ _)) hHeld ?_
 refine yv 23 rfl (zw zz rfl rfl rfl (zg zz rfl)) (fun w1 hw=>xld rfl (zg zz rfl) (Lb23 _ hw)) hHeld ?_
 refine yv 24 rfl (zw zz rfl rfl rfl (zg zz rfl)) (fun w1 hw=>xfa rfl (zi t3 rfl) (Ato _ _ _)) hHeld ?_
 refine yv 25 rfl (zw zz rfl rfl rfl (zg zz rfl)) (fun w1 hw=>xld rfl (zg zz rfl) (Lb33 _ hw)) hHeld ?_
 refine yv (v:= .bool r) 26 rfl (zw zz rfl rfl rfl (zg zz rfl)) (fun w1 hw=>A3v rfl (zg zz rfl) (zg zz rfl) hr) hHeld ?_
 refine yv 27 rfl rfl (fun w1 hw=>Abm rfl (zg zz rfl) (zg zz rfl)) hHeld ?_
 refine yv 28 rfl rfl (fun w1 hw=>xas rfl (zg zz rfl)) hHeld ?_
 exact ye rfl (h _ _ (h0) rfl)
end
section
open Go.RowKit Go.Shelf Sq
attribute [local go_sem] Oper.semAt_some
theorem A4p (x y:VaV) (hk:¬x.k=y.k) (w:World):Calls prog 35 #[x.v,y.v] w fun e w'=>e= .returned (.bool false)∧Below w.heap.size w w':=by
 obtain ⟨w1,hw1⟩:∃w1,w.alloc (.cells x.c.toArray 40)=w1:=⟨_,rfl⟩
 obtain ⟨w2,hw2⟩:∃w2,w1.alloc (.cells y.c.toArray 40)=w2:=⟨_,rfl⟩
 have p1:Abz w1 w.heap.size x:=by rw [←hw1];exact heap_alloc_new _ _
 have b1:Below w.heap.size w w1:=by rw [←hw1];exact (Below.refl _ _).alloc (Nat.le_refl _) _
 have z1:w1.heap.size=w.heap.size+1:=by rw [←hw1];simp
 have p2:Abz w2 (w.heap.size+1) y:=by rw [←hw2, ←z1];exact heap_alloc_new _ _
 have b2:Below w1.heap.size w1 w2:=by rw [←hw2];exact (Below.refl _ _).alloc (Nat.le_refl _) _
 have HB:=Aaa (And.intro (p1.below b2) (And.intro p2 (b1.trans (b2.mono b1.size))))
 have HW:=Aaa (And.intro hw1 hw2)
 clear p1 b1 z1 p2 b2 hw1 hw2
 show Calls prog 35 #[.agg x.c.toArray, .agg y.c.toArray] w _
 go_enter func35,ntmps35
 go_upto_region 1 with fail
 rw [HW.out.1,HW.out.2]
 refine A84 (b2:=w.heap.size) (b3:=w.heap.size+1) (x:=x) (y:=y) (fun W=>Abz W w.heap.size x∧Abz W (w.heap.size+1) y∧Below w.heap.size w W) _ w2 _ rfl rfl rfl ⟨HB.out.1,HB.out.2.1,HB.out.2.2.drew⟩ hk (fun W q=>Ada q.1) (fun W q=>Ajn q.1) (fun W q=>Ajo q.1) (fun W q=>Ajm q.1) (fun W q=>Ada q.2.1) (fun W q=>Ajn q.2.1) (fun W q=>Ajo q.2.1) (fun W q=>Ajm q.2.1) ?_
 intro a' w3 hf' ha
 have HF:=Aaa hf'
 subst ha
 simp only [Act.put,qsA,qsB,qsC]
 clear hf' HB HW
 go_wp2
 go_ret
 exact ⟨rfl,HF.out.2.2⟩
theorem A4o (x y:VaV) (hk:x.k=y.k) (hn:x.n≠y.n) (w:World):Calls prog 35 #[x.v,y.v] w fun e w'=>e= .returned (.bool false)∧Below w.heap.size w w':=by
 obtain ⟨w1,hw1⟩:∃w1,w.alloc (.cells x.c.toArray 40)=w1:=⟨_,rfl⟩
 obtain ⟨w2,hw2⟩:∃w2,w1.alloc (.cells y.c.toArray 40)=w2:=⟨_,rfl⟩
 have p1:Abz w1 w.heap.size x:=by rw [←hw1];exact heap_alloc_new _ _
 have b1:Below w.heap.size w w1:=by rw [←hw1];exact (Below.refl _ _).alloc (Nat.le_refl _) _
 have z1:w1.heap.size=w.heap.size+1:=by rw [←hw1];simp
 have p2:Abz w2 (w.heap.size+1) y:=by rw [←hw2, ←z1];exact heap_alloc_new _ _
 have b2:Below w1.heap.size w1 w2:=by rw [←hw2];exact (Below.refl _ _).alloc (Nat.le_refl _) _
 have HB:=Aaa (And.intro (p1.below b2) (And.intro p2 (b1.trans (b2.mono b1.size))))
 have HW:=Aaa (And.intro hw1 hw2)
 clear p1 b1 z1 p2 b2 hw1 hw2
 show Calls prog 35 #[.agg x.c.toArray, .agg y.c.toArray] w _
 go_enter func35,ntmps35
 go_upto_region 1 with fail
 rw [HW.out.1,HW.out.2]
 refine A83 (b2:=w.heap.size) (b3:=w.heap.size+1) (x:=x) (y:=y) (fun W=>Abz W w.heap.size x∧Abz W (w.heap.size+1) y∧Below w.heap.size w W) _ w2 _ rfl rfl rfl ⟨HB.out.1,HB.out.2.1,HB.out.2.2.drew⟩ hk hn (fun W q=>Ada q.1) (fun W q=>Ajn q.1) (fun W q=>Ajo q.1) (fun W q=>Ajm q.1) (fun W q=>Ada q.2.1) (fun W q=>Ajn q.2.1) (fun W q=>Ajo q.2.1) (fun W q=>Ajm q.2.1) ?_
 intro a' w3 hf' ha
 have HF:=Aaa hf'
 subst ha
 simp only [Act.put,qsA,qsB,qsC]
 clear hf' HB HW
 go_wp2
 go_ret
 exact ⟨rfl,HF.out.2.2⟩
theorem A4q (x y:VaV) (hk:x.k=y.k) (hn:x.n=y.n) (hf:(x.f:Int)≠(y.f:Int)) (w:World):Calls prog 35 #[x.v,y.v] w fun e w'=>e= .returned (.bool false)∧Below w.heap.size w w':=by
 obtain ⟨w1,hw1⟩:∃w1,w.alloc (.cells x.c.toArray 40)=w1:=⟨_,rfl⟩
 obtain ⟨w2,hw2⟩:∃w2,w1.alloc (.cells y.c.toArray 40)=w2:=⟨_,rfl⟩
 have p1:Abz w1 w.heap.size x:=by rw [←hw1];exact heap_alloc_new _ _
 have b1:Below w.heap.size w w1:=by rw [←hw1];exact (Below.refl _ _).alloc (Nat.le_refl _) _
 have z1:w1.heap.size=w.heap.size+1:=by rw [←hw1];simp
 have p2:Abz w2 (w.heap.size+1) y:=by rw [←hw2, ←z1];exact heap_alloc_new _ _
 have b2:Below w1.heap.size w1 w2:=by rw [←hw2];exact (Below.refl _ _).alloc (Nat.le_refl _) _
 have HB:=Aaa (And.intro (p1.below b2) (And.intro p2 (b1.trans (b2.mono b1.size))))
 have HW:=Aaa (And.intro hw1 hw2)
 clear p1 b1 z1 p2 b2 hw1 hw2
 show Calls prog 35 #[.agg x.c.toArray, .agg y.c.toArray] w _
 go_enter func35,ntmps35
 go_upto_region 1 with fail
 rw [HW.out.1,HW.out.2]
 refine A85 (b2:=w.heap.size) (b3:=w.heap.size+1) (x:=x) (y:=y) (fun W=>Abz W w.heap.size x∧Abz W (w.heap.size+1) y∧Below w.heap.size w W) _ w2 _ rfl rfl rfl ⟨HB.out.1,HB.out.2.1,HB.out.2.2.drew⟩ hk hn hf (fun W q=>Ada q.1) (fun W q=>Ajn q.1) (fun W q=>Ajo q.1) (fun W q=>Ajm q.1) (fun W q=>Ada q.2.1) (fun W q=>Ajn q.2.1) (fun W q=>Ajo q.2.1) (fun W q=>Ajm q.2.1) ?_
 intro a' w3 hf' ha
 have HF:=Aaa hf'
 subst ha
 simp only [Act.put,qsA,qsB,qsC]
 clear hf' HB HW
 go_wp2
 go_ret
 exact ⟨rfl,HF.out.2.2⟩
theorem A4n (x y:VaV) (hk:x.k=y.k) (hn:x.n=y.n) (hf:(x.f:Int)=(y.f:Int)) {r:Bool} (hr:decide (x.s=y.s)=r) (w:World):Calls prog 35 #[x.v,y.v] w fun e w'=>e= .returned (.bool r)∧Below w.heap.size w w':=by
 obtain ⟨w1,hw1⟩:∃w1,w.alloc (.cells x.c.toArray 40)=w1:=⟨_,rfl⟩
 obtain ⟨w2,hw2⟩:∃w2,w1.alloc (.cells y.c.toArray 40)=w2:=⟨_,rfl⟩
 have p1:Abz w1 w.heap.size x:=by rw [←hw1];exact heap_alloc_new _ _
 have b1:Below w.heap.size w w1:=by rw [←hw1];exact (Below.refl _ _).alloc (Nat.le_refl _) _
 have z1:w1.heap.size=w.heap.size+1:=by rw [←hw1];simp
 have p2:Abz w2 (w.heap.size+1) y:=by rw [←hw2, ←z1];exact heap_alloc_new _ _
 have b2:Below w1.heap.size w1 w2:=by rw [←hw2];exact (Below.refl _ _).alloc (Nat.le_refl _) _
 have HB:=Aaa (And.intro (p1.below b2) (And.intro p2 (b1.trans (b2.mono b1.size))))
 have HW:=Aaa (And.intro hw1 hw2)
 clear p1 b1 z1 p2 b2 hw1 hw2
 show Calls prog 35 #[.agg x.c.toArray, .agg y.c.toArray] w _
 go_enter func35,ntmps35
 go_upto_region 1 with fail
 rw [HW.out.1,HW.out.2]
 refine A82 (b2:=w.heap.size) (b3:=w.heap.size+1) (x:=x) (y:=y) (fun W=>Abz W w.heap.size x∧Abz W (w.heap.size+1) y∧Below w.heap.size w W) _ w2 _ rfl rfl rfl ⟨HB.out.1,HB.out.2.1,HB.out.2.2.drew⟩ hk hn hf hr (fun W q=>Ada q.1) (fun W q=>Ajn q.1) (fun W q=>Ajo q.1) (fun W q=>Ajm q.1) (fun W q=>Ada q.2.1) (fun W q=>Ajn q.2.1) (fun W q=>Ajo q.2.1) (fun W q=>Ajm q.2.1) ?_
 intro a' w3 hf' ha
 have HF:=Aaa hf'
 subst ha
 simp only [Act.put,qsA,qsB,qsC]
 clear hf' HB HW
 go_wp2
 go_ret
 exact ⟨rfl,HF.out.2.2⟩
theorem A2l (x y:VaV) (w:World):Calls prog 35 #[x.v,y.v] w fun e w'=>e= .returned (.bool (decide (x=y)))∧Below w.heap.size w w':=by
 by_cases hk:x.k=y.k
 ·by_cases hn:x.n=y.n
  ·by_cases hf:(x.f:Int)=(y.f:Int)
   ·have e:decide (x.s=y.s)=decide (x=y):=by
     refine decide_eq_decide.2 ⟨fun h=> ?_,fun h=>by rw [h]⟩
     obtain ⟨k,n,f,s⟩:=x
     obtain ⟨k',n',f',s'⟩:=y
     simp only at hk hn hf h
     have:f=f':=by omega
     subst this hk hn h
     rfl
    exact A4n x y hk hn hf e w
   ·rw [decide_eq_false fun e:x=y=>hf (by rw [e])]
    exact A4q x y hk hn hf w
  ·rw [decide_eq_false fun e:x=y=>hn (by rw [e])]
   exact A4o x y hk hn w
 ·rw [decide_eq_false fun e:x=y=>hk (by rw [e])]
  exact A4p x y hk w
end
section
open Go.RowKit
end
section
open Go.RowKit Go.Shelf Sq
attribute [local go_sem] Oper.semAt_some
theorem Al8 {x:VaV} (hx:x.ok) (w:World):Calls prog 67 #[x.v] w fun e w'=>e= .returned (.bool x.right)∧Below w.heap.size w w' :=
 K.V.right27_any x.k x.n x.f x.s w hx.k0 hx.ff (Nat.le_trans hx.ss (by decide))
theorem A0w {x y:VaV} (hx:x.ok) (hy:y.ok) (rx:x.right=true) (ry:y.right=true) (w:World):Calls prog 34 #[x.v,y.v] w fun e w'=>(∃c:Int,e= .returned (.int .i64 c)∧(c=0↔x=y))∧Below w.heap.size w w':=by
 obtain ⟨w1,hw1⟩:∃w1,w.alloc (.cells x.c.toArray 40)=w1:=⟨_,rfl⟩
 obtain ⟨w2,hw2⟩:∃w2,w1.alloc (.cells y.c.toArray 40)=w2:=⟨_,rfl⟩
 have p1:Abz w1 w.heap.size x:=by rw [←hw1];exact heap_alloc_new _ _
 have b1:Below w.heap.size w w1:=by rw [←hw1];exact (Below.refl _ _).alloc (Nat.le_refl _) _
 have z1:w1.heap.size=w.heap.size+1:=by rw [←hw1];simp
 have p2:Abz w2 (w.heap.size+1) y:=by rw [←hw2, ←z1];exact heap_alloc_new _ _
 have b2:Below w1.heap.size w1 w2:=by rw [←hw2];exact (Below.refl _ _).alloc (Nat.le_refl _) _
 have q1:=p1.below b2
 have bb:=b1.trans (b2.mono b1.size)
 have CA:=(Al8 hx w2).mono fun e w3 (h:_∧_)=>(And.intro h.1 (And.intro (And.intro (q1.below h.2) (And.intro (p2.below h.2) (bb.trans (h.2.mono bb.size)))) ((Al8 hy w3).mono fun e w4 (g:_∧_)=>(And.intro g.1 (And.intro (And.intro ((q1.below h.2).below g.2) (And.intro ((p2.below h.2).below g.2) ((bb.trans (h.2.mono bb.size)).trans (g.2.mono (bb.trans (h.2.mono bb.size)).size)))) ((A2l x y w4).mono fun e w5 (f:_∧_)=>(And.intro f.1 (And.intro (((q1.below h.2).below g.2).below f.2) (And.intro (((p2.below h.2).below g.2).below f.2) (((bb.trans (h.2.mono bb.size)).trans (g.2.mono (bb.trans (h.2.mono bb.size)).size)).trans (f.2.mono ((bb.trans (h.2.mono bb.size)).trans (g.2.mono (bb.trans (h.2.mono bb.size)).size)).size)))))))))))
 rw [rx,ry] at CA
 have HC:=Aaa CA
 have HB:=Aaa (And.intro q1 (And.intro p2 bb))
 have HW:=Aaa (And.intro hw1 hw2)
 clear p1 b1 z1 p2 b2 hw1 hw2 q1 bb CA hx hy rx ry
 show Calls prog 34 #[.agg x.c.toArray, .agg y.c.toArray] w _
 go_enter func34,ntmps34
 go_upto_region 1 with fail
 rw [HW.out.1,HW.out.2]
 refine En.zqc tab rfl (En.st (((show ∀W,(fun W=>Abz W w.heap.size x∧Abz W (w.heap.size+1) y∧Below w.heap.size w W) W→(Instr.loadAt 40 (pZ w.heap.size 0)).run prog W= .ok (x.v) W from (fun W q=>Abv q.1)) _ HB.out)) (En.ca (HC.out) ?_))
 rintro _ w3_ ⟨rfl,S0,CB⟩
 refine ⟨_,rfl,En.st (((show ∀W,(fun W=>Abz W w.heap.size x∧Abz W (w.heap.size+1) y∧Below w.heap.size w W) W→(Instr.loadAt 40 (pZ (w.heap.size+1) 0)).run prog W= .ok (y.v) W from (fun W q=>Abv q.2.1)) _ S0)) (En.ca (CB) ?_)⟩
 rintro _ w3_ ⟨rfl,S1,CC⟩
 refine ⟨_,rfl,En.st (((show ∀W,(fun W=>Abz W w.heap.size x∧Abz W (w.heap.size+1) y∧Below w.heap.size w W) W→(Instr.loadAt 40 (pZ w.heap.size 0)).run prog W= .ok (x.v) W from (fun W q=>Abv q.1)) _ S1)) (En.st (((show ∀W,(fun W=>Abz W w.heap.size x∧Abz W (w.heap.size+1) y∧Below w.heap.size w W) W→(Instr.loadAt 40 (pZ (w.heap.size+1) 0)).run prog W= .ok (y.v) W from (fun W q=>Abv q.2.1)) _ S1)) (En.ca (CC) ?_))⟩
 rintro _ w3_ ⟨rfl,HF⟩
 refine ⟨_,rfl,En.fi ?_⟩
 intro a' w3 hf0 ha
 have hf:=HF
 obtain rfl:w3=w3_:=hf0
 obtain ⟨A,B,C⟩:=hf
 have HF:=Aaa C
 subst ha
 simp only [En.pM,En.pU,Act.put,qsA,qsB,qsC]
 clear HB HW HC C
 by_cases e:x=y
 ·rw [decide_eq_true e]
  have E:=Aaa e
  clear e
  go_wp2
  go_ret
  exact ⟨⟨0,rfl,by simpa using E.out⟩,HF.out⟩
 ·rw [decide_eq_false e]
  have E:=Aaa e
  clear e
  have c0:w3.cell? ⟨w.heap.size,0,none⟩=some (.int .u8 x.k):=(cell_of_row w3 _ 0 _ _ _ A).trans rfl
  have c1:w3.cell? ⟨w.heap.size,1,none⟩=some (.int .i64 x.n):=(cell_of_row w3 _ 1 _ _ _ A).trans rfl
  have c2:w3.cell? ⟨w.heap.size,2,none⟩=some (.float .f64 x.f):=(cell_of_row w3 _ 2 _ _ _ A).trans rfl
  have c3:w3.cell? ⟨w.heap.size,3,none⟩=some (.string x.s):=(cell_of_row w3 _ 3 _ _ _ A).trans rfl
  have d0:w3.cell? ⟨w.heap.size+1,0,none⟩=some (.int .u8 y.k):=(cell_of_row w3 _ 0 _ _ _ B).trans rfl
  have d1:w3.cell? ⟨w.heap.size+1,1,none⟩=some (.int .i64 y.n):=(cell_of_row w3 _ 1 _ _ _ B).trans rfl
  have d2:w3.cell? ⟨w.heap.size+1,2,none⟩=some (.float .f64 y.f):=(cell_of_row w3 _ 2 _ _ _ B).trans rfl
  have d3:w3.cell? ⟨w.heap.size+1,3,none⟩=some (.string y.s):=(cell_of_row w3 _ 3 _ _ _ B).trans rfl
  clear A B
  go_wp2
  all_goals try (go_ret;exact ⟨⟨_,rfl,⟨fun q=>absurd q (by decide),fun q=>absurd q E.out⟩⟩,HF.out⟩)
  all_goals try (rename_i HK;refine HK _ _ ?_;go_wp2;go_ret;exact ⟨⟨_,rfl,⟨fun q=>absurd q (by decide),fun q=>absurd q E.out⟩⟩,HF.out⟩)
end
section
open Go.RowKit Sq
attribute [local go_sem] Oper.semAt_some
section
variable {W:World} {base g cap n:Nat} {L:List SpV}
theorem Ael (h:RSp.Own W base (.slice (some ⟨g,0,none⟩) n cap) L) (ok:∀x∈L,RSp.ok x) {i:Nat} {x:SpV} (hx:L[i]? =some x):W.rangeAt g (0+7*i) x.c:=by
 obtain ⟨hi,he⟩:=List.getElem?_eq_some_iff.1 hx
 obtain ⟨g2,cap2,e,hr⟩:=Aae.Own.zeroZ Aam h ok hi
 cases e
 rw [Nat.zero_add, ←he]
 exact hr
theorem A49 (h:RSp.Own W base (.slice (some ⟨g,0,none⟩) n cap) L) (ok:∀x∈L,RSp.ok x) {i:Nat} {x:SpV} (hx:L[i]? =some x):(Instr.loadAt 3 (pZ g (0+7*i+1))).run prog W= .ok (.int .i64 x.to) W:=by
 have hc:W.cell? ⟨g,0+7*i+1,none⟩=some (.int .i64 x.to):=Ael h ok hx 1 _ rfl
 generalize 0+7*i+1=o at *
 go_simp
theorem Ax8 (h:RSp.Own W base (.slice (some ⟨g,0,none⟩) n cap) L) (ok:∀x∈L,RSp.ok x) {i:Nat} {x:SpV} (hx:L[i]? =some x) (y:Int):∃W',(Instr.storeAt 3 (pZ g (0+7*i+1)) (.int .i64 y)).run prog W= .ok () W'∧RSp.Own W' base (.slice (some ⟨g,0,none⟩) n cap) (L.set i ⟨x.fr,y,x.nm,x.v⟩)∧Tch (fun j=>j=g) W W':=by
 obtain ⟨hi,he⟩:=List.getElem?_eq_some_iff.1 hx
 have hc:W.cell? ⟨g,0+7*i+1,none⟩=some (.int .i64 x.to):=Ael h ok hx 1 _ rfl
 have hn:n=L.length:=by
  obtain ⟨a,c,e,_⟩:=h.open Aam ok
  cases e;rfl
 obtain ⟨hbg,c0,hcg⟩:=h.cells (k:=g) rfl
 have hf:=frozen_of_row W g (0+7*i+1) _ _ hcg
 have es:(Instr.storeAt 3 (pZ g (0+7*i+1)) (.int .i64 y)).run prog W= .ok () (W.setCell ⟨g,0+7*i+1,none⟩ (.int .i64 y)):=by
  generalize 0+7*i+1=o at *
  go_simp
 refine ⟨W.setCell ⟨g,0+7*i+1,none⟩ (.int .i64 y),es, ?_,⟨rfl,rfl,rfl,by simp [World.setCell],fun j _ hj=>Go.heap_setCell_other _ _ _ _ hj⟩⟩
 have o3:=Aae.own_setCellZ Aam h hn ok hi (j:=1) (by decide) (x:=⟨x.fr,y,x.nm,x.v⟩) (u:= .int .i64 y) (by rw [he];rfl)
 rw [Nat.zero_add]
 exact o3
theorem Ajh (h:RSp.Own W base (.slice (some ⟨g,0,none⟩) n cap) L) (ok:∀x∈L,RSp.ok x) {i:Nat} (hi:i<L.length) {x:SpV} (hx:RSp.ok x):∃W',(Instr.storeAt 65 (pZ g (0+7*i)) x.a).run prog W= .ok () W'∧RSp.Own W' base (.slice (some ⟨g,0,none⟩) n cap) (L.set i x)∧Tch (fun j=>j=g) W W':=by
 obtain ⟨g2,cap2,e,_,W',e1,o,t,z⟩:=Aae.own_set Aam h ok hi hx
 cases e
 refine ⟨W',by rw [Nat.zero_add];exact e1,o,t.mono (fun j _ e=>by cases e;rfl)⟩
end
def A1w (S:List SpV) (i k:Nat):Prop:=∀(a b:Nat) (p q:SpV),a<b→b≤i→b≠k→S[a]? =some p→S[b]? =some q→cSp p q≤0
def Ag1 (S:List SpV) (i:Nat):Prop:=∀(a b:Nat) (p q:SpV),a<b→b<i→S[a]? =some p→S[b]? =some q→cSp p q≤0
def swp (S:List SpV) (k:Nat) (x y:SpV):List SpV:=(S.set (k+1) y).set k x
theorem A2a {S:List SpV} {k:Nat} {x y:SpV} (hk:k+1<S.length) (a:Nat):(swp S k x y)[a]? =if a=k then some x else if a=k+1 then some y else S[a]? :=by
 unfold swp
 rw [List.getElem?_set,List.getElem?_set]
 simp only [List.length_set]
 by_cases h1:a=k
 ·subst h1;simp;omega
 ·rw [if_neg (fun q=>h1 q.symm),if_neg h1]
  by_cases h2:a=k+1
  ·subst h2;simp;omega
  ·rw [if_neg (fun q=>h2 q.symm),if_neg h2]
theorem A1w.swap {S:List SpV} {i k:Nat} {x y:SpV} (h:A1w S i (k+1)) (hx:S[k+1]? =some x) (hy:S[k]? =some y) (hki:k+1≤i) (hlt:cSp x y<0):A1w (swp S k x y) i k:=by
 intro a b p q hab hbi hbk hp hq
 have hk:=(List.getElem?_eq_some_iff.1 hx).1
 rw [A2a hk] at hp hq
 rw [if_neg hbk] at hq
 by_cases e1:b=k+1
 ·rw [if_pos e1] at hq
  cases hq
  by_cases e2:a=k
  ·rw [if_pos e2] at hp;cases hp;omega
  ·rw [if_neg e2,if_neg (by omega)] at hp
   exact h a k p y (by omega) (by omega) (by omega) hp hy
 ·rw [if_neg e1] at hq
  by_cases e2:a=k
  ·rw [if_pos e2] at hp;cases hp
   exact h (k+1) b x q (by omega) hbi e1 hx hq
  ·rw [if_neg e2] at hp
   by_cases e3:a=k+1
   ·rw [if_pos e3] at hp;cases hp
    exact h k b y q (by omega) hbi e1 hy hq
   ·rw [if_neg e3] at hp
    exact h a b p q hab hbi e1 hp hq
theorem A1w.stop {S:List SpV} {i k:Nat} (h:A1w S i k) (hs:k=0∨∃j x y,k=j+1∧S[k]? =some x∧S[j]? =some y∧¬cSp x y<0):Ag1 S (i+1):=by
 intro a b p q hab hbi hp hq
 by_cases e:b=k
 ·rcases hs with rfl|⟨j,x,y,rfl,hx,hy,hn⟩
  ·omega
  ·subst e
   rw [hx] at hq
   cases hq
   have h1:cSp y q≤0:=by have:=Ag6.anti q y;omega
   by_cases e2:a=j
   ·subst e2;rw [hy] at hp;cases hp;exact h1
   ·exact Ag6.le _ _ _ (h a j p y (by omega) (by omega) (by omega) hp hy) h1
 ·exact h a b p q hab (by omega) e hp hq
theorem Ag1.start {S:List SpV} {i:Nat} (h:Ag1 S i):A1w S i i:=fun a b p q hab hbi hb hp hq=>h a b p q hab (by omega) hp hq
theorem Ag1.all {S:List SpV} {i:Nat} (hi:S.length≤i) (h:Ag1 S i):S.Pairwise (fun p q=>cSp p q≤0) :=
 List.pairwise_iff_getElem.2 fun a b ha hb hab=>h a b _ _ hab (by omega) (List.getElem?_eq_getElem ha) (List.getElem?_eq_getElem hb)
theorem Alw {S:List SpV} {k:Nat} {x y:SpV} (hx:S[k+1]? =some x) (hy:S[k]? =some y):(swp S k x y).Perm S:=by
 obtain ⟨h1,e1⟩:=List.getElem?_eq_some_iff.1 hx
 obtain ⟨h2,e2⟩:=List.getElem?_eq_some_iff.1 hy
 have:=List.set_set_perm h1 h2
 rw [e1,e2] at this
 exact this
end
namespace En
open Go Go.RowKit
section
variable {P:Program} {ops:Array Oper} {Q:Exit→Act→World→Prop} {md:Region.Mode} {S:World→Prop} {k:Nat}
def wpAnyF (P:Program) (md:Region.Mode) (ops:Array Oper) (Q:Exit→Act→World→Prop) (S:World→Prop) (k:Nat):Nat→Array Bool→Act→World→Prop
 |0,listed,a,w=>Region.ready md ops listed=[]∧Q .normal a w
 |fuel+1,listed,a,w =>
  (Region.ready md ops listed=[]→Q .normal a w) ∧
  ∀i∈Region.ready md ops listed,wpOp P ops Q i (fun a' w'=>(i≠k→(k<ops.size→listed.getD k true=false)→S w')∧wpAnyF P md ops Q S k fuel (listed.setIfInBounds i true) a' w') a w
theorem wpAny_of_F:∀(fuel:Nat) (listed:Array Bool) (a:Act) (w:World),wpAnyF P md ops Q S k fuel listed a w→wpAny P md ops Q fuel listed a w
 |0,_,_,_,h=>h
 |fuel+1,_,_,_,h=>⟨h.1,fun i hi=>wpOp_mono (fun a' w' h'=>wpAny_of_F fuel _ a' w' h'.2) (h.2 i hi)⟩
theorem getD_keep {listed:Array Bool} {i k:Nat} (h:listed.getD k true=true):(listed.setIfInBounds i true).getD k true=true:=by
 by_cases e:i=k
 ·subst e
  rcases Nat.lt_or_ge i listed.size with h'|h' <;>simp [h']
 ·rw [getD_set_ne true e];exact h
theorem getD_self (listed:Array Bool) (k:Nat):(listed.setIfInBounds k true).getD k true=true:=by
 rcases Nat.lt_or_ge k listed.size with h'|h' <;>simp [h']
theorem F_of_any (hk:k<ops.size):∀(fuel:Nat) (listed:Array Bool) (a:Act) (w:World),listed.getD k true=true→wpAny P md ops Q fuel listed a w→wpAnyF P md ops Q S k fuel listed a w
 |0,_,_,_,_,h=>h
 |fuel+1,_,_,_,hl,h=>⟨h.1,fun i hi=>wpOp_mono (fun a' w' h'=>⟨fun _ hp=>absurd (hp hk) (by rw [hl];decide),F_of_any hk fuel _ a' w' (getD_keep hl) h'⟩) (h.2 i hi)⟩
theorem wpAnyF_done {listed:Array Bool} {a:Act} {w:World} (hr:Region.ready md ops listed=[]) (h:Q .normal a w) :
 ∀fuel,wpAnyF P md ops Q S k fuel listed a w
 |0=>⟨hr,h⟩
 |_+1=>⟨fun _=>h,by rw [hr];simp⟩
theorem wp_region_F {id:Nat} {a:Act} {w:World} (k:Nat) (hm:P.follows .mixedOrders=true) (hS:S w.drew)
 (h:S w.drew→wpAnyF P .any ops Q S k ops.size (Array.replicate ops.size false) a w.drew):(Code.region id ops true).wp P Q a w :=
 wp_region_any hm (wpAny_of_F _ _ _ _ (h hS))
theorem wpAnyF_firstG {i f:Nat} {oi:Oper} {v:Value} (hik:i≠k) (hi:ops[i]? =some oi) (hsel:∀(j:Nat) (o:Oper) cs b,ops[j]? =some o→o.op≠ .select cs b)
 (hQ:∀c a w,Q (.panic c) (a.put oi.dst v) w→Q (.panic c) a w) :
 ∀(fuel:Nat) (listed:Array Bool) (a:Act) (w:World),
  (∀j oj,ops[j]? =some oj→j≠i→listed.getD j true=false→(∀e∈oj.after,Region.binds md e=true→e.on≠i)→oi.apart ops oj=true) →
  i∈Region.ready md ops listed→((Ab3 md ops listed f i k=true∧listed.getD k true=false)∨ops.size≤k)→YieldsIf P ops S oi v a→S w →
  wpAnyF P md ops Q S k fuel (listed.setIfInBounds i true) (a.put oi.dst v) w→wpAnyF P md ops Q S k (fuel+1) listed a w:=by
 intro fuel
 induction fuel with
 |zero =>
  intro listed a w _ hr hwt hy hS H
  refine ⟨fun h=>(by rw [h] at hr;cases hr),fun j hj=> ?_⟩
  by_cases hji:j=i
  ·subst hji;exact hy.wpOp hi hS ⟨fun _ _=>hS,H⟩
  ·have:=ready_mono hj hji
   rw [H.1] at this
   cases this
 |succ fuel ih =>
  intro listed a w hfree hr hwt hy hS H
  refine ⟨fun h=>(by rw [h] at hr;cases hr),fun j hj=> ?_⟩
  have hiu:=(mem_ready.1 hr).1
  by_cases hji:j=i
  ·subst hji;exact hy.wpOp hi hS ⟨fun _ _=>hS,H⟩
  ·have hjk:j≠k:=fun e=>by
        rcases hwt with hwt|hwt
        ·exact Aeb hiu f k hwt.1 (e▸hj)
        ·obtain ⟨_,oj,hoj,_⟩:=mem_ready.1 hj
         have:=(Array.getElem?_eq_some_iff.1 hoj).1
         omega
   have h1:=H.2 j (ready_mono hj hji)
   obtain ⟨hjun,oj,hoj,hall⟩:=mem_ready.1 hj
   have hnot:∀e∈oj.after,Region.binds md e=true→e.on≠i:=fun e he hb heq=>by
        have h1:=hall e he hb
        have h0:=hiu
        rw [heq] at h1
        rcases Nat.lt_or_ge i listed.size with h'|h'
        ·simp [h'] at h0 h1;rw [h0] at h1;cases h1
        ·simp [Array.getElem?_eq_none h'] at h1
   have h2:=wpOp_putIf hoj (hfree j oj hoj hji hjun hnot) (fun cs b=>hsel i oi cs b hi) (fun cs b=>hsel j oj cs b hoj) hQ hy h1
   have hfree':∀k ok,ops[k]? =some ok→k≠i→(listed.setIfInBounds j true).getD k true=false →
    (∀e∈ok.after,Region.binds md e=true→e.on≠i)→oi.apart ops ok=true:=fun k ok hk hki hun hno=>by
        refine hfree k ok hk hki ?_ hno
        by_cases hjk:j=k
        ·subst hjk;exact hjun
        ·rw [getD_set_ne true hjk] at hun;exact hun
   have hwt':(Ab3 md ops (listed.setIfInBounds j true) f i k=true∧(listed.setIfInBounds j true).getD k true=false)∨ops.size≤k:=hwt.imp (fun q=>⟨Adh hiu hj f k q.1,by rw [getD_set_ne true hjk];exact q.2⟩) id
   have hku:k<ops.size→(listed.setIfInBounds i true).getD k true=false:=fun hk=>by rw [getD_set_ne true hik];exact hwt.elim (fun q=>q.2) (fun q=>absurd hk (by omega))
   refine wpOp_mono (fun a' w' h3=>⟨fun q1 _=>h3.2.1 q1 hku,ih (listed.setIfInBounds j true) a' w' hfree' (ready_mono hr (Ne.symm hji)) hwt' h3.1 (h3.2.1 hjk hku) ?_⟩) h2
   rw [Array.setIfInBounds_comm _ _ hji]
   exact h3.2.2
theorem wpAnyF_firstP {i:Nat} {oi:Oper} {v:Value} (hik:i≠k) (hi:ops[i]? =some oi) (hsel:∀(j:Nat) (o:Oper) cs b,ops[j]? =some o→o.op≠ .select cs b)
 (hQ:∀c a w,Q (.panic c) (a.put oi.dst v) w→Q (.panic c) a w) :
 ∀(fuel:Nat) (listed:Array Bool) (a:Act) (w:World),
  (∀j oj,ops[j]? =some oj→j≠i→listed.getD j true=false→(∀e∈oj.after,Region.binds md e=true→e.on≠i)→oi.apart ops oj=true) →
  i∈Region.ready md ops listed→YieldsIf P ops (fun _=>True) oi v a→((k<ops.size→listed.getD k true=false)→S w) →
  wpAnyF P md ops Q S k fuel (listed.setIfInBounds i true) (a.put oi.dst v) w→wpAnyF P md ops Q S k (fuel+1) listed a w:=by
 intro fuel
 induction fuel with
 |zero =>
  intro listed a w _ hr hy hS H
  refine ⟨fun h=>(by rw [h] at hr;cases hr),fun j hj=> ?_⟩
  by_cases hji:j=i
  ·subst hji;exact hy.wpOp hi trivial ⟨fun _=>hS,H⟩
  ·have:=ready_mono hj hji
   rw [H.1] at this
   cases this
 |succ fuel ih =>
  intro listed a w hfree hr hy hS H
  refine ⟨fun h=>(by rw [h] at hr;cases hr),fun j hj=> ?_⟩
  have hiu:=(mem_ready.1 hr).1
  by_cases hji:j=i
  ·subst hji;exact hy.wpOp hi trivial ⟨fun _=>hS,H⟩
  ·have hset:(listed.setIfInBounds i true).getD k true=listed.getD k true:=getD_set_ne true hik
   have h1:=H.2 j (ready_mono hj hji)
   obtain ⟨hjun,oj,hoj,hall⟩:=mem_ready.1 hj
   have hnot:∀e∈oj.after,Region.binds md e=true→e.on≠i:=fun e he hb heq=>by
        have h1:=hall e he hb
        have h0:=hiu
        rw [heq] at h1
        rcases Nat.lt_or_ge i listed.size with h'|h'
        ·simp [h'] at h0 h1;rw [h0] at h1;cases h1
        ·simp [Array.getElem?_eq_none h'] at h1
   have h2:=wpOp_putIf hoj (hfree j oj hoj hji hjun hnot) (fun cs b=>hsel i oi cs b hi) (fun cs b=>hsel j oj cs b hoj) hQ hy h1
   have hfree':∀k ok,ops[k]? =some ok→k≠i→(listed.setIfInBounds j true).getD k true=false →
    (∀e∈ok.after,Region.binds md e=true→e.on≠i)→oi.apart ops ok=true:=fun k ok hk hki hun hno=>by
        refine hfree k ok hk hki ?_ hno
        by_cases hjk:j=k
        ·subst hjk;exact hjun
        ·rw [getD_set_ne true hjk] at hun;exact hun
   have hjz:j<ops.size:=(Array.getElem?_eq_some_iff.1 hoj).1
   refine wpOp_mono (fun a' w' h3=>⟨fun q1 q2=>h3.2.1 q1 (fun hk=>by rw [hset];exact q2 hk),ih (listed.setIfInBounds j true) a' w' hfree' (ready_mono hr (Ne.symm hji)) h3.1 (fun q=> ?_) ?_⟩) h2
   ·have hjk:j≠k:=fun e=>by
     subst e
     have:=q hjz
     rw [getD_self] at this;cases this
    exact h3.2.1 hjk (fun hk=>by have:=q hk;rw [getD_set_ne true hjk] at this;rw [hset];exact this)
   ·rw [Array.setIfInBounds_comm _ _ hji]
    exact h3.2.2
end
inductive Orc where
 |nil
 |one (i:Nat) (t:Orc)
 |cut (i k:Nat) (t:Orc)
def Orc.of:List Nat→Orc→Orc
 |[],t=>t
 |i::is,t=> .one i (Orc.of is t)
def Orc.dep:Orc→Nat
 | .nil=>0
 | .one _ t=>t.dep+1
 | .cut _ _ t=>t.dep+1
def Orc.end:Orc→Bool
 | .nil=>true
 |_=>false
def StpC {P:Program} (T:Tb P) (ops:List Oper) (G:Nat→Option Value) (S:World→Prop) (k:Nat) (fr:Bool) (i:Nat) (R:List (Nat × Value)→World→Prop) (M:List (Nat × Value)) (w:World):Prop :=
 match nth ops i with
 |none=>False
 |some o =>
  guardK G M ops o
   (viewK G M T o (fun v=>R (pM o.dst v M) w) (fun E=>StY P E (cond fr (fun _=>True) S) fun v=>R (pM o.dst v M) w)
    (fun E=>cond (Nat.beq i k) (Ef P E w fun v w'=>R (pM o.dst v M) w') (EfY P E S w fun v w'=>R (pM o.dst v M) w'))
    (fun E=>cond (Nat.beq i k) (Eu P E w fun w'=>R (pM o.dst undef M) w') (EuY P E S w fun w'=>R (pM o.dst undef M) w'))
    (fun F vs=>cond (Nat.beq i k) (Ca P F vs w fun v w'=>R (pM o.dst v M) w') (CaY P F vs S w fun v w'=>R (pM o.dst v M) w')))
   (R (pM o.dst undef M) w)
def ObC {P:Program} (T:Tb P) (ops:List Oper) (G:Nat→Option Value) (fr:List Nat) (K:List (Nat × Value)→World→Prop):Orc→(World→Prop)→Nat→List (Nat × Value)→World→Prop
 | .nil,_,_,M,w=>K M w
 | .one i t,S,k,M,w=>StpC T ops G S k (inL fr i) i (fun M w=>ObC T ops G fr K t S k M w) M w
 | .cut i k' t,S,k,M,w=>StpC T ops G S k false i (fun M w=> ∃S':World→Prop,S' w∧ObC T ops G fr K t S' k' M w) M w
def okC (ops:Array Oper) (fr:List Nat):Orc→Nat→Array Bool→Bool
 | .nil,_,listed=>(Region.ready .any ops listed).isEmpty
 | .one i t,k,listed=>(match ops[i]? with
   |none=>false
   |some o=>cond (effB o) ((Region.ready .any ops listed==[i])&&(cond (Nat.beq i k) t.end true)&& !(inL fr i)) (!(Nat.beq i k)&&Region.free .any ops listed i&&(Region.ready .any ops listed).contains i&&(inL fr i||Nat.ble ops.size k||(Ab3 .any ops listed ops.size i k&& !(listed.getD k true)))))&&okC ops fr t k (listed.setIfInBounds i true)
 | .cut i k' t,k,listed=>(match ops[i]? with
   |none=>false
   |some o=>effB o&&Nat.beq i k&&(Region.ready .any ops listed==[i]))&&okC ops fr t k' (listed.setIfInBounds i true)
section
variable {P:Program} {a:Act} {n:Nat} {G:Nat→Option Value} {Q:Exit→Act→World→Prop}
theorem stepC_out (T:Tb P) {S:World→Prop} {ops:Array Oper} {k:Nat} {R:List (Nat × Value)→World→Prop} {W:Act→World→Prop} {i:Nat} {M:List (Nat × Value)} {w:World} (f:Fr a n G M) (hS:S w)
 (go:∀o,ops[i]? =some o→∀v w',(i≠k→S w')→R (pM o.dst v M) w'→W ((pU a M).put o.dst v) w')
 (h:StpC T ops.toList G S k false i R M w):wpOp P ops Q i (fun a' w'=>(i≠k→S w')∧W a' w') (pU a M) w :=
 step_out (nf:=[]) T f hS rfl go h
theorem endC_nil {t:Orc} (h:t.end=true):t= .nil:=by
 cases t with
 |nil=>rfl
 |one _ _=>cases h
 |cut _ _ _=>cases h
theorem obc_out (T:Tb P) {ops:Array Oper} {fr:List Nat} {K:List (Nat × Value)→World→Prop} (hK:∀M w,Fr a n G M→K M w→Q .normal (pU a M) w)
 (hQ:∀c a a' w,Q (.panic c) a w→Q (.panic c) a' w) (hsel:Region.noSelect ops=true) (hd:dstB n ops.toList=true) :
 ∀(is:Orc) (S:World→Prop) (k:Nat) (fuel:Nat) {listed:Array Bool} {M:List (Nat × Value)} {w:World},Fr a n G M→is.dep≤fuel→okC ops fr is k listed=true→(is≠ .nil→S w)→ObC T ops.toList G fr K is S k M w→wpAnyF P .any ops Q S k fuel listed (pU a M) w
 | .nil,S,k,fuel,listed,M,w,f,_,ho,_,h=>wpAnyF_done (by unfold okC at ho;simpa using ho) (hK M w f h) fuel
 | .one i t,S,k,0,listed,M,w,f,hl,ho,hS,h=>by simp [Orc.dep] at hl
 | .cut i k' t,S,k,0,listed,M,w,f,hl,ho,hS,h=>by simp [Orc.dep] at hl
 | .cut i k' t,S,k,fuel+1,listed,M,w,f,hl,ho,hS0,h=>by
   have hS:=hS0 (by simp)
   unfold ObC at h
   unfold okC at ho
   rw [Bool.and_eq_true] at ho
   obtain ⟨ho1,ho2⟩:=ho
   have hl':t.dep≤fuel:=by simp [Orc.dep] at hl;omega
   cases hi:ops[i]? with
   |none=>rw [hi] at ho1;cases ho1
   |some o =>
    rw [hi] at ho1
    simp only [Bool.and_eq_true] at ho1
    obtain ⟨⟨_,hik⟩,hr⟩:=ho1
    have hik:=Nat.eq_of_beq_eq_true hik
    subst hik
    have hr:Region.ready .any ops listed=[i]:=by simpa using hr
    have hk:i<ops.size:=(Array.getElem?_eq_some_iff.1 hi).1
    refine ⟨fun h0=>absurd (hr.symm.trans h0) (by simp),fun i' hi'=> ?_⟩
    rw [hr] at hi'
    obtain rfl:i'=i:=by simpa using hi'
    refine wpOp_mono (fun a' w' h'=>⟨fun q=>absurd rfl q,h'.2⟩) (stepC_out T f hS (fun o hi v w' _ h=> ?_) h)
    obtain ⟨S',s',h'⟩:=h
    have hdo:dOk n o.dst=true:=dstB_mem hd (List.mem_of_getElem? (by rw [Array.getElem?_toList];exact hi))
    rw [←puts_putM]
    exact F_of_any hk fuel _ _ _ (getD_self _ _) (wpAny_of_F _ _ _ _ (obc_out T hK hQ hsel hd t S' k' fuel (f.put hdo) hl' ho2 (fun _=>s') h'))
 | .one i t,S,k,fuel+1,listed,M,w,f,hl,ho,hS0,h=>by
   have hS:=hS0 (by simp)
   unfold ObC at h
   unfold okC at ho
   rw [Bool.and_eq_true] at ho
   obtain ⟨ho1,ho2⟩:=ho
   have hl':t.dep≤fuel:=by simp [Orc.dep] at hl;omega
   cases hi:ops[i]? with
   |none=>rw [hi] at ho1;cases ho1
   |some o =>
   rw [hi] at ho1
   simp only at ho1
   have hdo:dOk n o.dst=true:=dstB_mem hd (List.mem_of_getElem? (by rw [Array.getElem?_toList];exact hi))
   cases hfl:effB o with
   |true =>
    rw [hfl] at ho1
    simp only [cond_true,Bool.and_eq_true,Bool.not_eq_true'] at ho1
    obtain ⟨⟨hr,hlast⟩,hnf⟩:=ho1
    have hr:Region.ready .any ops listed=[i]:=by simpa using hr
    refine ⟨fun h0=>absurd (hr.symm.trans h0) (by simp),fun i' hi'=> ?_⟩
    rw [hr] at hi'
    obtain rfl:i'=i:=by simpa using hi'
    rw [hnf] at h
    refine wpOp_mono (fun a' w' h'=>⟨fun q _=>h'.1 q,h'.2⟩) (stepC_out T f hS (fun o2 hi2 v w' s h=> ?_) h)
    have hdo:dOk n o2.dst=true:=dstB_mem hd (List.mem_of_getElem? (by rw [Array.getElem?_toList];exact hi2))
    rw [←puts_putM]
    refine obc_out T hK hQ hsel hd t S k fuel (f.put hdo) hl' ho2 (fun hne=>s (fun e=> ?_)) h
    rw [e,Nat.beq_refl] at hlast
    exact hne (endC_nil hlast)
   |false =>
    rw [hfl] at ho1
    simp only [cond_false,Bool.and_eq_true,Bool.or_eq_true,Bool.not_eq_true'] at ho1
    obtain ⟨⟨⟨hik,hfree⟩,hready⟩,hwt⟩:=ho1
    have hik:i≠k:=fun e=>by rw [e,Nat.beq_refl] at hik;cases hik
    have go:∀v,ObC T ops.toList G fr K t S k (pM o.dst v M) w→wpAnyF P .any ops Q S k fuel (listed.setIfInBounds i true) ((pU a M).put o.dst v) w:=fun v h=>by
        rw [←puts_putM]
        exact obc_out T hK hQ hsel hd t S k fuel (f.put hdo) hl' ho2 (fun _=>hS) h
    have firstP:∀v,YieldsIf P ops (fun _=>True) o v (pU a M)→ObC T ops.toList G fr K t S k (pM o.dst v M) w→wpAnyF P .any ops Q S k (fuel+1) listed (pU a M) w:=fun v hy q =>
        wpAnyF_firstP hik hi (Region.noSelect_spec hsel) (fun c a w q=>hQ c _ _ w q) fuel listed _ w (Region.free_spec hi hfree) (by simpa using hready) hy (fun _=>hS) (go v q)
    unfold StpC at h
    cases e0:nth ops.toList i with
    |none=>rw [e0] at h;exact h.elim
    |some o2 =>
     have hi2:ops[i]? =some o2:=by rw [←Array.getElem?_toList];exact nth_get e0
     rw [hi] at hi2
     cases hi2
     rw [e0] at h
     simp only at h
     rcases guardK_out f h with ⟨hw,h⟩|⟨hw,h⟩
     ·cases viewK_out f T h with
      |pure v hr k=>exact firstP v (.inl ⟨hw,fun w1 _=>hr w1⟩) k
      |still E hr q =>
       obtain ⟨v,e,q⟩:=q
       cases hf:inL fr i with
       |true =>
        rw [hf] at e
        exact firstP v (.inl ⟨hw,fun w1 _=>hr w1 v w1 (e w1 trivial)⟩) q
       |false =>
        rw [hf] at e hwt
        have hwt:(Ab3 .any ops listed ops.size i k=true∧listed.getD k true=false)∨ops.size≤k:=by
            rcases hwt with (q|q)|q
            ·cases q
            ·exact .inr (Nat.le_of_ble_eq_true q)
            ·exact .inl q
        exact wpAnyF_firstG hik hi (Region.noSelect_spec hsel) (fun c a w q=>hQ c _ _ w q) fuel listed _ w (Region.free_spec hi hfree) (by simpa using hready) hwt (.inl ⟨hw,fun w1 s=>hr w1 v w1 (e w1 s)⟩) hS (go v q)
      |eff E e _ _=>rw [hfl] at e;cases e
      |unit E e _ _=>rw [hfl] at e;cases e
      |call F vs e _ _=>rw [hfl] at e;cases e
     ·exact firstP undef (.inr ⟨hw,rfl⟩) h
termination_by is S k fuel=>fuel
theorem zc (T:Tb P) (is:Orc) (k:Nat) (S:World→Prop) {l:List Value} {ds:List Deferred} {id:Nat} {os:List Oper} {w:World} (fr:List Nat:=[]) (hS:S w.drew)
 (h:ObC T os (Glit l) fr (fun M w=>Fi (Q .normal (pU ⟨l.toArray,ds⟩ M) w)) is S k [] w.drew)
 (hk:okC os.toArray fr is k (Array.replicate os.length false)=true:=by kernel_rfl) (hd:dstB l.length os=true:=by kernel_rfl) (hs:Region.noSelect os.toArray=true:=by kernel_rfl) (hm:P.follows .mixedOrders=true:=by kernel_rfl) (hl:Nat.ble is.dep os.length=true:=by kernel_rfl) :
 (Code.region id os.toArray true).wp P Q ⟨l.toArray,ds⟩ w :=
 wp_region_noPanic (wp_region_F k hm hS (fun s=>obc_out (ops:=os.toArray) T (fun M w _ h=>NoPanic.normal h.out) (fun _ _ _ _ q=>q) hs hd is S k _ (fr_lit l ds) (by have:=Nat.le_of_ble_eq_true hl;simpa using this) hk (fun _=>s) h))
end
end En
section
open Go.RowKit Sq
attribute [local go_sem] Oper.semAt_some
structure SwD (w4:World) (S:List SpV) (lv:Value) (W:World):Prop where
 own:RSp.Own W w4.heap.size lv S
 ok:∀x∈S,SpV.ok x∧x.v.right=true
 bel:Below w4.heap.size w4 W
theorem SwD.below {w4 W W':World} {S:List SpV} {lv:Value} (h:SwD w4 S lv W) (b:Below W.heap.size W W'):SwD w4 S lv W':=⟨h.own.below b,h.ok,h.bel.trans (b.mono h.bel.size)⟩
theorem SwD.push {w4 W:World} {S:List SpV} {lv:Value} (h:SwD w4 S lv W) {x:SpV} (hx:SpV.ok x) (hr:x.v.right=true) (hl:S.length+1≤2000000000000) :
 ∃sv y1 v2 y2,(Instr.buildSlice 49 1 #[(0,x.a)]).run prog W= .ok sv y1∧(Builtin.append_ #[49,49] 49 #[lv,sv]).run prog y1= .ok v2 y2∧Below W.heap.size W y1∧SwD w4 (S++[x]) v2 y2∧∀b u,Abz W b u→Abz y1 b u∧Abz y2 b u:=by
 obtain ⟨sv,y1,v2,y2,e1,e2,o2,b1,z1,g2,q2⟩:=Aae.run_push Aam W w4.heap.size lv S x h.own hx (by unfold maxLen;omega) (by show _*72≤_;omega) h.bel.size
 refine ⟨sv,y1,v2,y2,e1,e2,b1,⟨o2,fun y hy=> ?_,(h.bel.trans (b1.mono h.bel.size)).trans ((Below.refl _ _).grown g2 (Nat.le_trans h.bel.size b1.size) (fun k e=>(h.own.cells e).1))⟩,fun b u hv=> ?_⟩
 ·rcases List.mem_append.1 hy with q|q
  ·exact h.ok y q
  ·rw [List.mem_singleton.1 q];exact ⟨hx,hr⟩
 ·have v1:=hv.below b1
  refine ⟨v1,(g2.block b (Array.getElem?_eq_some_iff.1 v1).1 (fun e=> ?_)).trans v1⟩
  obtain ⟨_,c,hc⟩:=h.own.cells e.symm
  have hv':W.heap[b]? =_:=hv
  rw [hc] at hv'
  simp [RSp] at hv'
theorem SwD.ext {w4 W:World} {A:List SpV} {q:SpV} {sa:Option Addr} {sn sc:Nat} (h:SwD w4 (A++[q]) (.slice sa sn sc) W) (hn:sn=A.length+1) {y:Int} (hy: -9223372036854775808≤y∧y≤9223372036854775807) :
 ∃g,sa=some ⟨g,0,none⟩∧(∀W',Below W.heap.size W W'→W'.rangeAt g (0+7*A.length) q.c∧(Instr.loadAt 3 (pZ g (0+7*A.length+1))).run prog W'= .ok (.int .i64 q.to) W')∧∃W',(Instr.storeAt 3 (pZ g (0+7*A.length+1)) (.int .i64 y)).run prog W= .ok () W'∧SwD w4 (A++[⟨q.fr,y,q.nm,q.v⟩]) (.slice sa sn sc) W':=by
 have ok:∀x∈A++[q],RSp.ok x:=fun x hx=>(h.ok x hx).1
 have hq:(A++[q])[A.length]? =some q:=by simp
 obtain ⟨g,cap,e,_⟩:=Aae.Own.zeroZ Aam h.own ok (i:=A.length) (by simp)
 cases e
 obtain ⟨W',e1,o,t⟩:=Ax8 h.own ok hq y
 have hg:=(h.own.cells (k:=g) rfl).1
 have es:(A++[q]).set A.length ⟨q.fr,y,q.nm,q.v⟩=A++[⟨q.fr,y,q.nm,q.v⟩]:=by rw [List.set_append_right _ _ (Nat.le_refl _)];simp
 rw [es] at o
 refine ⟨g,rfl,fun W2 b=>⟨Ael (h.own.below b) ok hq,A49 (h.own.below b) ok hq⟩,W',e1,o,fun x hx=> ?_,h.bel.trans (t.below h.bel.size (fun j e=>by rw [e];exact hg))⟩
 rcases List.mem_append.1 hx with z|z
 ·exact h.ok x (by simp [z])
 ·rw [List.mem_singleton.1 z]
  have k:=h.ok q (by simp)
  exact ⟨⟨k.1.f0,k.1.f1,hy.1,hy.2,k.1.nm,k.1.v⟩,k.2⟩
theorem A55 {E:List Elt} {L:List MkV} (rt:∀x∈L,x.v.right=true) {nm:ByteArray} {e:Int} (h:(hoD E L nm e).2=true):(hoD E L nm e).1.right=true:=by
 unfold hoD at h ⊢
 split
 ·next x hx=>exact rt x (List.mem_filter.1 (List.mem_of_getLast? hx)).1
 ·next hx=>rw [hx] at h;simp at h
set_option maxHeartbeats 8000000 in
theorem Aox {w:World} {base:Nat} {r:Rx} (h:Acr w base r) (h3:∀x∈r.L,0≤x.sd∧x.sd≤3) (h4:∀x∈r.L,x.v.right=true) {B:Nat} {pv:Value} {R:List Elt} (hs:Aog w B pv R) :
 Calls prog 26 #[(pZ r.rb 0),pv] w fun e w'=> ∃v S,e= .returned v∧RSp.Own w' w.heap.size v S∧Ac3 (hE (Ab5 R) r.L) S∧S.length≤2*r.L.length∧(∀x∈S,SpV.ok x)∧Below w.heap.size w w':=by
 have HWF:=Aaa (Afq hs.ok.1)
 have HOK:=Aaa hs.ok.1.row
 have hln:(Ab5 R).length≤1400000000000:=by rw [Adw];exact hs.ok.2
 have HH:=Aaa h
 have H3:=Aaa h3
 have H4:=Aaa h4
 have RW:=Aaa (Ahv hs)
 obtain ⟨E,hE⟩:∃E,Ab5 R=E:=⟨_,rfl⟩
 rw [hE] at HWF HOK hln RW ⊢
 clear h h3 h4 hs hE
 go_enter func26,ntmps26
 go_upto_region 1 with fail
 refine En.zq tab rfl (En.ca RW.out ?_)
 rintro _ w1 ⟨ra,rc,rfl,o1,b1⟩
 refine ⟨_,rfl,En.fi ?_⟩
 simp only [En.pM,En.pU,Act.put,qsA,qsB,qsC]
 have hat:RE.At w1 ra E:=by
  obtain ⟨a,c,e,ha,_⟩:=o1.open Adr HWF.out
  cases e
  exact ha
 have HAT:=Aaa hat
 have B1:=Aaa b1
 have NM:=Aaa (Aji (HH.out.below b1))
 clear RW o1 hat b1
 obtain ⟨m,hm⟩:∃m,E.length=m:=⟨_,rfl⟩
 rw [hm]
 have HM:=Aaa hm
 go_upto_region 2 with fail
 refine En.zq tab rfl (En.ca NM.out ?_)
 rintro _ w3 ⟨nv,l,rfl,hnl,hno,b3⟩
 refine ⟨_,rfl,En.fi ?_⟩
 simp only [En.pM,En.pU,Act.put,qsA,qsB,qsC]
 have B3:Hid (Below w.heap.size w w3):=B1.out.trans (b3.mono B1.out.size)
 have HAT3:=Aaa (HAT.out.below b3)
 have HNL:=Aaa hnl
 have HNO:=Aaa hno
 obtain ⟨na,nc,env⟩:=hno.sl
 obtain ⟨n,hn⟩:∃n,l.length=n:=⟨_,rfl⟩
 rw [hn] at env
 subst env
 have HN:=Aaa hn
 have hn9:n≤900000000000:=by rw [←hn];exact Nat.le_trans hnl.len HH.out.n
 have BW:Hid (∀W,Below w3.heap.size w3 W→Below w.heap.size w W):=fun W b=>B3.out.trans (b.mono B3.out.size)
 clear NM HAT B1 hnl hno b3 hn hm
 go_wp2
 go_loopw [7,8] (fun v7 v8 wr=> ∃j:Nat,v8= .int .i64 (j:Int)∧j≤n∧Hid (SwD w3 (Aer E r.L (l.take j)) v7 wr)) (fun _ v8 _=>n-(match v8 with | .int _ i=>i.toNat|_=>0))
 case atStart=>exact ⟨0,rfl,Nat.zero_le _,by simpa [Aer] using RSp.own_nil _ _,by simp [Aer],Below.refl _ _⟩
 case round =>
  obtain ⟨j,rfl,hj,HO⟩:=hrel
  by_cases hjn:j<n
  ·obtain ⟨nm,hy⟩:∃nm,l[j]? =some nm:=⟨_,List.getElem?_eq_getElem (by rw [HN.out];exact hjn)⟩
   obtain ⟨lg,lc2,e3,_,_,lcc⟩:=HNO.out.cellB hy
   rw [HN.out] at e3
   cases e3
   have LC:=Aaa lcc
   have HY:=Aaa hy
   have c1:decide ((j:Int)<(n:Int))=true:=decide_eq_true (by omega)
   clear lcc hy
   go_upto_region 5 with fail
   refine En.zq tab rfl (En.cm c1 (En.fi ?_))
   simp only [En.pM,En.pU,Act.put,qsA,qsB,qsC]
   clear c1
   go_wp2
   generalize wr=wC at *
   go_loopw [7,9,10,11] (fun v7 v9 v10 v11 wr=> ∃i:Nat,v11= .int .i64 (i:Int)∧i≤m∧v9= .int .i64 (Abn E i:Int)∧v10= .bool (opS E r.L nm i)∧Hid (SwD w3 (Aer E r.L (l.take j)++wS E r.L nm i) v7 wr)) (fun _ _ _ v11 _=>m-(match v11 with | .int _ i=>i.toNat|_=>0))
   case atStart=>exact ⟨0,rfl,Nat.zero_le _,by simp [Abn],rfl,by simpa [wS] using HO.out.own,by simpa [wS] using HO.out.ok,HO.out.bel⟩
   case round =>
        clear HO
        obtain ⟨i,rfl,hi,rfl,rfl,HI⟩:=hrel
        obtain ⟨sa,sc,ev⟩:=Agm HI.out.own
        obtain ⟨sn,hsn⟩:∃k,(Aer E r.L (l.take j)++wS E r.L nm i).length=k:=⟨_,rfl⟩
        rw [hsn] at ev
        subst ev
        have hsb:sn≤1800000000000:=by
         rw [←hsn]
         have h1:=Av5 (E:=E) (L:=r.L) HOK.out HNL.out.nodup HY.out (i:=i) (by rw [HM.out];exact hi)
         have:=HH.out.n
         omega
        have HSN:=Aaa hsn
        clear hsn
        by_cases him:i<m
        ·have hiE:i<E.length:=by rw [HM.out];exact him
         have ci:decide ((i:Int)<(m:Int))=true:=decide_eq_true (by omega)
         obtain ⟨eb,eo,hra,rfl⟩:∃eb eo,wr.rangeAt eb (eo+67*i) E[i].c∧ra=some ⟨eb,eo,none⟩:=by
          rcases HAT3.out.below HI.out.bel with h|⟨g,o,e,hl,h2⟩
          ·rw [h] at hiE;simp at hiE
          ·exact ⟨g,o,h2 i _ (List.getElem?_eq_getElem hiE),e⟩
         have LSH:=Aaa (A3z (HWF.out _ (List.getElem_mem hiE)) hra)
         have hm2:m≤1400000000001:=by have:=HM.out;omega
         have hcn:Abn E i≤1400000000000:=by
          have:Abn E i≤i:=by unfold Abn;exact Nat.le_trans (List.countP_le_length) (by rw [List.length_take];omega)
          omega
         clear hra
         go_upto_region 10 with fail
         refine En.zq tab rfl (En.cm ci (En.fi ?_))
         simp only [En.pM,En.pU,Act.put,qsA,qsB,qsC]
         clear ci
         go_upto_region 12 with fail
         refine En.zq tab rfl (En.st (Agp him hm2 _) (En.st LSH.out (En.fi ?_)))
         simp only [En.pM,En.pU,Act.put,qsA,qsB,qsC]
         clear LSH
         rcases Bool.eq_false_or_eq_true E[i].sh with hsh|hsh
         case inr =>
          rw [hsh]
          obtain ⟨a1,a2,a3⟩:=Ap0 (L:=r.L) (nm:=nm) hiE hsh
          rw [←a2, ←a3]
          have NI:Hid (SwD w3 (Aer E r.L (l.take j)++wS E r.L nm (i+1)) (.slice sa sn sc) wr):=by rw [a1];exact HI.out
          clear a1 a2 a3 HI HSN hsh
          go_wp2
          rw [show ((i:Int)+1)=((i+1:Nat):Int) by omega]
          refine ⟨⟨i+1,rfl,him,rfl,rfl,NI⟩, ?_⟩
          show m-((i+1:Nat):Int).toNat<m-(i:Int).toNat
          omega
         case inl =>
          rw [hsh]
          have CH:=Ajq (lc:=rc) (HH.out.below (BW.out _ HI.out.bel)) H3.out (HAT3.out.below HI.out.bel) HWF.out HOK.out hln nm (i:Int)
          have XO:=Aaa (A1e (E:=E) HH.out.ok nm (i:Int))
          have XR:=Aaa (fun q=>A55 (E:=E) H4.out (nm:=nm) (e:=(i:Int)) q)
          have NO:=Aaa (fun q=>A11 (L:=r.L) (nm:=nm) hiE hsh q)
          have YS:=Aaa (fun q=>Apy (L:=r.L) (nm:=nm) hiE hsh q)
          have SE:=Aaa (fun (v:VaV) (ho:opS E r.L nm i=true) (A:List SpV) (q:SpV) (hq:wS E r.L nm i=A++[q]) (hv:q.v=v)=>Awy (L:=r.L) (nm:=nm) HOK.out hiE ho hq hv)
          have SA:=Aaa (fun (v:VaV) (hv:opS E r.L nm i=true→∀q,(wS E r.L nm i).getLast?=some q→q.v≠v)=>Awz (L:=r.L) (nm:=nm) HOK.out hiE hv)
          have OL:=Aaa (Af3 (L:=r.L) (nm:=nm) HOK.out i (by omega))
          obtain ⟨p,hp⟩:∃p,hoD E r.L nm (i:Int)=p:=⟨_,rfl⟩
          rw [HM.out,hp] at CH
          rw [hp] at XO XR NO YS
          obtain ⟨x,b⟩:=p
          have CHH:=Aaa CH
          clear CH hp hsh
          go_upto_region 13 with fail
          refine En.zq tab rfl (En.st (Apt hjn (by omega) _) (En.st (LC.out _ HI.out.bel) (En.ca CHH.out ?_)))
          rintro _ w5 ⟨rfl,b5⟩
          have hv5:Abz (w5.alloc (.cells zVa.c.toArray 40)) w5.heap.size zVa:=heap_alloc_new _ _
          have b51:Below w5.heap.size w5 (w5.alloc (.cells zVa.c.toArray 40)):=(Below.refl _ _).alloc (Nat.le_refl _) _
          refine ⟨_,rfl,En.ef (Akn _) (En.eu (Afz (u:=x) hv5) (En.fi ?_))⟩
          simp only [En.pM,En.pU,Act.put,qsA,qsB,qsC]
          have hv6:=hv5.set x
          have b6:Below wr.heap.size wr ((w5.alloc (.cells zVa.c.toArray 40)).setRow w5.heap.size x.c.toArray):=(b5.trans (b51.mono b5.size)).trans ((Aby _ b51.size (Nat.le_refl _)).mono b5.size)
          have O6:Hid (SwD w3 (Aer E r.L (l.take j)++wS E r.L nm i) (.slice sa sn sc) ((w5.alloc (.cells zVa.c.toArray 40)).setRow w5.heap.size x.c.toArray)):=HI.out.below b6
          obtain ⟨vb,hvb⟩:∃b,w5.heap.size=b:=⟨_,rfl⟩
          rw [hvb] at hv6 O6 ⊢
          generalize (w5.alloc (.cells zVa.c.toArray 40)).setRow vb x.c.toArray=w6 at *
          have HV6:=Aaa hv6
          clear hv5 b51 hv6 b6 b5 hvb CHH HI
          cases b with
          |false =>
           obtain ⟨a1,a2,a3⟩:=NO.out rfl
           have O7:Hid (SwD w3 (Aer E r.L (l.take j)++wS E r.L nm (i+1)) (.slice sa sn sc) w6.drew):=by rw [a1];exact O6.out.below ((Below.refl _ _).drew)
           have A23:=Aaa (And.intro a2 a3)
           clear O6 HV6 LC NO YS SE SA OL XR XO a1 a2 a3
           go_upto_region 14 with fail
           refine En.zy tab [0,1,2,3,4,5,6,7,8,9,10,11,12,13,14,15] 16 (fun W=>True) (hS:=trivial) (h:=En.fi ?_)
           simp only [En.pM,En.pU,Act.put,qsA,qsB,qsC]
           generalize w6.drew=w7 at *
           go_upto_region 19 with fail
           refine En.zq tab rfl (En.ar (z:=((Abn E i+1:Nat):Int)) (by rw [Acc (by omega)];omega) (En.fi ?_))
           simp only [En.pM,En.pU,Act.put,qsA,qsB,qsC]
           go_wp2
           rw [show ((i:Int)+1)=((i+1:Nat):Int) by omega]
           refine ⟨⟨i+1,rfl,him,by rw [A23.out.2],by rw [A23.out.1],O7⟩, ?_⟩
           show m-((i+1:Nat):Int).toNat<m-(i:Int).toNat
           omega
          |true =>
           obtain ⟨a1,a2,a3⟩:=YS.out rfl
           have A23:=Aaa (And.intro a1 (And.intro a2 a3))
           have xr:=XR.out rfl
           have okx:SpV.ok ⟨(Abn E i:Int),(Abn E i:Int)+1,nm,x⟩:=by
             refine ⟨by show _≤(Abn E i:Int);omega,by show (Abn E i:Int)≤_;omega,by show _≤(Abn E i:Int)+1;omega,by show (Abn E i:Int)+1≤_;omega, ?_,XO.out⟩
             obtain ⟨y,hy,e⟩:=(HNL.out.mem nm).1 (List.mem_of_getElem? HY.out)
             rw [←e]
             exact (HH.out.ok y hy).nm
           have OKX:=Aaa (And.intro okx xr)
           clear a1 a2 a3 NO YS xr okx
           have HEQ:(∃A q,opS E r.L nm i=true∧wS E r.L nm i=A++[q]∧q.v=x∧q.to=(Abn E i:Int))∨(opS E r.L nm i=true∧∃A q,wS E r.L nm i=A++[q]∧q.v≠x)∨opS E r.L nm i=false:=by
             cases ho:opS E r.L nm i with
             |false=>exact .inr (.inr rfl)
             |true =>
              obtain ⟨q,h1,h2⟩:=OL.out.1 ho
              obtain ⟨A,e⟩:=List.getLast?_eq_some_iff.1 h1
              by_cases hv:q.v=x
              ·exact .inl ⟨A,q,rfl,e,hv,h2⟩
              ·exact .inr (.inl ⟨rfl,A,q,e,hv⟩)
           have PU:Hid (∀W,Below w6.heap.size w6 W→(opS E r.L nm i=true→∀q,(wS E r.L nm i).getLast?=some q→q.v≠x)→∃sv y1 v2 y2,(Instr.buildSlice 49 1 #[(0,SpV.a ⟨(Abn E i:Int),(Abn E i:Int)+1,nm,x⟩)]).run prog W= .ok sv y1∧(Builtin.append_ #[49,49] 49 #[.slice sa sn sc,sv]).run prog y1= .ok v2 y2∧(Below w3.heap.size w3 y1∧Abz y1 vb x)∧(Below w3.heap.size w3 y2∧Abz y2 vb x)∧SwD w3 (Aer E r.L (l.take j)++wS E r.L nm (i+1)) v2 y2):=fun W b hne=>by
             have o7:=O6.out.below b
             obtain ⟨sv,y1,v2,y2,e1,e2,b1,o8,hv⟩:=o7.push OKX.out.1 OKX.out.2 (by rw [HSN.out];omega)
             have v1:=hv vb x (HV6.out.below b)
             refine ⟨sv,y1,v2,y2,e1,e2,⟨o7.bel.trans (b1.mono o7.bel.size),v1.1⟩,⟨o8.bel,v1.2⟩, ?_⟩
             rw [A23.out.1,SA.out x hne, ←List.append_assoc]
             exact o8
           clear SA OL
           rcases HEQ with ⟨A,q,ho,hq,hv,ht⟩|⟨ho,A,q,hq,hv⟩|ho
           case inl =>
             have o6:SwD w3 ((Aer E r.L (l.take j)++A)++[q]) (.slice sa sn sc) w6:=by rw [List.append_assoc, ←hq];exact O6.out
             obtain ⟨k,hk⟩:∃k,(Aer E r.L (l.take j)++A).length=k:=⟨_,rfl⟩
             have hsk:sn=k+1:=by rw [←HSN.out,hq, ←hk, ←List.append_assoc,List.length_append];rfl
             obtain ⟨g,hsa,rg,_⟩:=o6.ext (by rw [hk];exact hsk) (y:=0) ⟨by omega,by omega⟩
             rw [hk] at rg
             have okq:=o6.ok q (by simp)
             have RG:=Aaa rg
             have CM:=fun W=>A0w okq.1.v XO.out okq.2 OKX.out.2 W
             have HA:=Aaa (SE.out x ho A q hq hv)
             rw [ho]
             subst hsa
             have HV:=Aaa hv
             have HT:=Aaa ht
             have HK:=Aaa hk
             have HO6:=Aaa o6
             clear o6 rg okq hv hq hk ho ht SE PU
             go_upto_region 14 with fail
             refine En.zy tab [0,1,2,3,4,5,6,7,8,9,10,11,12,13,14,15] 16 (fun W=>Below w6.heap.size w6 W) (hS:=(Below.refl _ _).drew) (h:=En.ar (z:=(k:Int)) (by rw [Acc (by omega)];omega) (En.sty (fun W b=>Acn (show k<sn by omega) (by omega) W) (En.sty (fun W b=>A4a (RG.out W b).1) (En.sty (fun W b=>Abv (HV6.out.below b)) (En.cay (CM _) ?_)))))
             rintro _ w7 ⟨⟨c,rfl,hc⟩,b7⟩
             have D6:Below w6.heap.size w6 w6.drew:=(Below.refl _ _).drew
             have B7:Below w6.heap.size w6 w7:=D6.trans (b7.mono D6.size)
             refine ⟨_,rfl,B7,En.cm (decide_eq_true (hc.2 HV.out)) (En.fi ?_)⟩
             simp only [En.pM,En.pU,Act.put,qsA,qsB,qsC]
             obtain ⟨g2,hg2,_,w8,e8,o8⟩:=(HO6.out.below B7).ext (by rw [HK.out];exact hsk) (y:=q.to+1) ⟨by rw [HT.out];omega,by rw [HT.out];omega⟩
             cases hg2
             rw [HK.out] at e8
             have LT:=Aaa (RG.out _ B7).2
             have NI:Hid (SwD w3 (Aer E r.L (l.take j)++wS E r.L nm (i+1)) (.slice (some ⟨g,0,none⟩) sn sc) w8):=by
               rw [A23.out.1,HA.out, ←List.append_assoc];exact o8
             have hw:IntKind.i64.wrap (q.to+1)=q.to+1:=by have:=HT.out;rw [Acc (by omega)]
             have hw2:IntKind.i64.wrap ((Abn E i:Int)+1)=(Abn E i:Int)+1:=by rw [Acc (by omega)]
             clear B7 D6 b7 hc CM RG HV HA HK HT HO6 o8 O6 HV6
             go_upto_region 15 with fail
             refine En.zq tab rfl (En.ar (z:=(k:Int)) (by rw [Acc (by omega)];omega) (En.st (Acn (show k<sn by omega) (by omega) _) (En.st LT.out (En.ar (z:=q.to+1) hw (En.st (Acn (show k<sn by omega) (by omega) _) (En.eu e8 (En.fi ?_)))))))
             simp only [En.pM,En.pU,Act.put,qsA,qsB,qsC]
             clear e8 LT hw
             go_upto_region 19 with fail
             refine En.zq tab rfl (En.ar (z:=(Abn E i:Int)+1) hw2 (En.fi ?_))
             simp only [En.pM,En.pU,Act.put,qsA,qsB,qsC]
             clear hw2
             go_wp2
             rw [show ((i:Int)+1)=((i+1:Nat):Int) by omega]
             refine ⟨⟨i+1,rfl,him,by rw [A23.out.2.2];rfl,by rw [A23.out.2.1],NI⟩, ?_⟩
             show m-((i+1:Nat):Int).toNat<m-(i:Int).toNat
             omega
           case' inr.inl =>
             have hne:opS E r.L nm i=true→∀q,(wS E r.L nm i).getLast?=some q→q.v≠x:=fun _ q2 h2=>by
               rw [hq] at h2
               simp at h2
               rw [←h2];exact hv
             have o6:SwD w3 ((Aer E r.L (l.take j)++A)++[q]) (.slice sa sn sc) w6:=by rw [List.append_assoc, ←hq];exact O6.out
             obtain ⟨k,hk⟩:∃k,(Aer E r.L (l.take j)++A).length=k:=⟨_,rfl⟩
             have hsk:sn=k+1:=by rw [←HSN.out,hq, ←hk, ←List.append_assoc,List.length_append];rfl
             obtain ⟨g,hsa,rg,_⟩:=o6.ext (by rw [hk];exact hsk) (y:=0) ⟨by omega,by omega⟩
             rw [hk] at rg
             have okq:=o6.ok q (by simp)
             have RG:=Aaa rg
             have CM:=fun W=>A0w okq.1.v XO.out okq.2 OKX.out.2 W
             rw [ho]
             subst hsa
             have hne2:=Aaa hne
             have HV:=Aaa hv
             clear o6 rg okq hne hv hq hk ho SE
             go_upto_region 14 with fail
             refine En.zy tab [0,1,2,3,4,5,6,7,8,9,10,11,12,13,14,15] 16 (fun W=>Below w6.heap.size w6 W) (hS:=(Below.refl _ _).drew) (h:=En.ar (z:=(k:Int)) (by rw [Acc (by omega)];omega) (En.sty (fun W b=>Acn (show k<sn by omega) (by omega) W) (En.sty (fun W b=>A4a (RG.out W b).1) (En.sty (fun W b=>Abv (HV6.out.below b)) (En.cay (CM _) ?_)))))
             rintro _ w7 ⟨⟨c,rfl,hc⟩,b7⟩
             have D6:Below w6.heap.size w6 w6.drew:=(Below.refl _ _).drew
             have B7:Below w6.heap.size w6 w7:=D6.trans (b7.mono D6.size)
             refine ⟨_,rfl,B7,En.cm (decide_eq_false (fun h=>HV.out (hc.1 h))) (En.fi ?_)⟩
             have HB7:=Aaa B7
             clear B7 D6 b7 hc CM RG HV
           case' inr.inr =>
             have hne2:Hid (opS E r.L nm i=true→∀q,(wS E r.L nm i).getLast?=some q→q.v≠x):=fun h=>by rw [ho] at h;cases h
             rw [ho]
             clear SE ho
             go_upto_region 14 with fail
             refine En.zy tab [0,1,2,3,4,5,6,7,8,9,10,11,12,13,14,15] 16 (fun W=>True) (hS:=trivial) (h:=En.fi ?_)
             have HB7:Hid (Below w6.heap.size w6 w6.drew):=(Below.refl _ _).drew
             generalize w6.drew=w7 at *
           all_goals
             simp only [En.pM,En.pU,Act.put,qsA,qsB,qsC]
             have D7:Below w6.heap.size w6 w7.drew:=HB7.out.drew
             obtain ⟨sv,y1,v2,y2,e1,e2,s1,s2,N⟩:=PU.out _ D7 hne2.out
             have S7:Below w3.heap.size w3 w7.drew∧Abz w7.drew vb x:=⟨(O6.out.below D7).bel,HV6.out.below D7⟩
             have NI:=Aaa N
             have hw:IntKind.i64.wrap ((Abn E i:Int)+1)=(Abn E i:Int)+1:=by rw [Acc (by omega)]
             clear PU D7 N HB7 O6 HV6
             go_upto_region 17 with fail
             refine En.zy tab [0,1,2,3,4,5,6,7,8,9,10,11,12] 13 (fun W=>Below w3.heap.size w3 W∧Abz W vb x) (hS:=S7) (h:=En.ar (z:=(Abn E i:Int)+1) hw (En.sty (fun W b=>Apt hjn (by omega) W) (En.sty (fun W b=>LC.out W b.1) (En.sty (fun W b=>Abv b.2) (En.sty (fun W b=>Ab2 W _ _ nm x) (En.efy e1 s1 (En.efy e2 s2 (En.fi ?_))))))))
             simp only [En.pM,En.pU,Act.put,qsA,qsB,qsC]
             clear e1 e2 s1 s2 S7
             go_upto_region 19 with fail
             refine En.zq tab rfl (En.ar (z:=(Abn E i:Int)+1) hw (En.fi ?_))
             simp only [En.pM,En.pU,Act.put,qsA,qsB,qsC]
             clear hw
             go_wp2
             rw [show ((i:Int)+1)=((i+1:Nat):Int) by omega]
             refine ⟨⟨i+1,rfl,him,by rw [A23.out.2.2];rfl,by rw [A23.out.2.1],NI⟩, ?_⟩
             show m-((i+1:Nat):Int).toNat<m-(i:Int).toNat
             omega
        ·obtain rfl:i=m:=by omega
         have ci:decide ((i:Int)<(i:Int))=false:=decide_eq_false (by omega)
         have NI:Hid (SwD w3 (Aer E r.L (l.take (j+1))) (.slice sa sn sc) wr):=by
          have e:Aer E r.L (l.take (j+1))=Aer E r.L (l.take j)++wS E r.L nm E.length:=Agq HY.out _
          rw [e,HM.out]
          exact HI.out
         clear HI HSN
         go_upto_region 10 with fail
         refine En.zq tab rfl (En.cm ci (En.fi ?_))
         simp only [En.pM,En.pU,Act.put,qsA,qsB,qsC]
         clear ci
         go_wp2
         rw [show ((j:Int)+1)=((j+1:Nat):Int) by omega]
         refine ⟨⟨j+1,rfl,hjn,NI⟩, ?_⟩
         show n-((j+1:Nat):Int).toNat<n-(j:Int).toNat
         omega
  ·obtain rfl:j=n:=by omega
   have c1:decide ((j:Int)<(j:Int))=false:=decide_eq_false (by omega)
   have HF:Hid (SwD w3 (Aer E r.L l) _ wr):=Aaa (by
        have:=HO.out
        rw [List.take_of_length_le (by rw [HN.out];exact Nat.le_refl _)] at this
        exact this)
   clear HO
   go_upto_region 5 with fail
   refine En.zq tab rfl (En.cm c1 (En.fi ?_))
   simp only [En.pM,En.pU,Act.put,qsA,qsB,qsC]
   clear c1
   obtain ⟨S0,hS0⟩:∃S0,Aer E r.L l=S0:=⟨_,rfl⟩
   have FIN:Hid (∀S,S.Perm S0→Ag1 S S.length→Ac3 (hE E r.L) S):=Aaa (fun S hp hs=>by
        obtain ⟨m1,nd⟩:=A0f (E:=E) (L:=r.L) HOK.out HNL.out
        rw [hS0] at m1 nd
        exact Aly (Ag1.all (Nat.le_refl _) hs) (hp.nodup_iff.2 nd) (fun p=>hp.mem_iff.trans (m1 p)))
   have FEW:Hid (S0.length≤2*r.L.length):=Aaa (by rw [←hS0];exact Aof HOK.out HNL.out.nodup)
   rw [hS0] at HF
   obtain ⟨fa,fc,ev⟩:=Agm HF.out.own
   obtain ⟨fn,hfn⟩:∃k,S0.length=k:=⟨_,rfl⟩
   rw [hfn] at ev
   have HFN:=Aaa hfn
   have hfb:fn≤1800000000000:=by have:=FEW.out;have:=HH.out.n;omega
   subst ev
   clear hS0 hfn
   go_wp2
   generalize wr=wD at *
   go_loopw [14] (fun v14 wr=> ∃i:Nat,v14= .int .i64 (i:Int)∧1≤i∧i≤fn+1∧Hid (∃S,S.Perm S0∧Ag1 S i∧SwD w3 S (.slice fa fn fc) wr)) (fun v14 _=>fn+1-(match v14 with | .int _ i=>i.toNat|_=>0))
   case atStart=>exact ⟨1,rfl,Nat.le_refl _,by omega,S0,List.Perm.refl _,fun a b p q h1 h2=>by omega,HF.out⟩
   case round =>
        clear HF
        obtain ⟨i,rfl,hi1,hi2,HI⟩:=hrel
        by_cases hin:i<fn
        ·have c1:decide ((i:Int)<(fn:Int))=true:=decide_eq_true (by omega)
         go_upto_region 21 with fail
         refine En.zq tab rfl (En.cm c1 (En.fi ?_))
         simp only [En.pM,En.pU,Act.put,qsA,qsB,qsC]
         clear c1
         go_wp2
         generalize wr=wC at *
         go_loopw [15] (fun v15 wr=> ∃k:Nat,v15= .int .i64 (k:Int)∧k≤i∧Hid (∃S,S.Perm S0∧A1w S i k∧SwD w3 S (.slice fa fn fc) wr)) (fun v15 _=>(match v15 with | .int _ i=>i.toNat|_=>0))
         case atStart =>
          obtain ⟨S,h1,h2,h3⟩:=HI.out
          exact ⟨i,rfl,Nat.le_refl _,S,h1,h2.start,h3⟩
         case round =>
          clear HI
          obtain ⟨k,rfl,hk,HI⟩:=hrel
          obtain ⟨S,hp,hs,hw⟩:=HI.out
          have hSl:S.length=fn:=by rw [hp.length_eq];exact HFN.out
          have HS:=Aaa (And.intro hp (And.intro hs hw))
          clear HI hp hs hw
          rcases Nat.eq_zero_or_pos k with rfl|hk0
          case inl =>
             have NI:Hid (∃S,S.Perm S0∧Ag1 S (i+1)∧SwD w3 S (.slice fa fn fc) wr.drew):=⟨S,HS.out.1,HS.out.2.1.stop (.inl rfl),HS.out.2.2.below ((Below.refl _ _).drew)⟩
             have c1:decide (((0:Nat):Int)>0)=false:=rfl
             clear HS
             go_upto_region 24 with fail
             refine En.zy tab [0,1,2,3,4,5,6,7,8,9,10,11,12,13] 14 (fun W=>True) (hS:=trivial) (h:=En.cm c1 (En.fi ?_))
             generalize wr.drew=w7 at *
             simp only [En.pM,En.pU,Act.put,qsA,qsB,qsC]
             go_wp2
             rw [show ((i:Int)+1)=((i+1:Nat):Int) by omega]
             refine ⟨⟨i+1,rfl,by omega,by omega,NI⟩, ?_⟩
             show fn+1-((i+1:Nat):Int).toNat<fn+1-(i:Int).toNat
             omega
          case inr =>
             obtain ⟨k,rfl⟩:∃j,k=j+1:=⟨k-1,by omega⟩
             obtain ⟨x,hx⟩:∃x,S[k+1]? =some x:=⟨_,List.getElem?_eq_getElem (by omega)⟩
             obtain ⟨y,hy⟩:∃y,S[k]? =some y:=⟨_,List.getElem?_eq_getElem (by omega)⟩
             have ok:∀x∈S,RSp.ok x:=fun x hx=>(HS.out.2.2.ok x hx).1
             obtain ⟨g,cap,e,_⟩:=Aae.Own.zeroZ Aam HS.out.2.2.own ok (i:=k) (by omega)
             rw [hSl] at e
             cases e
             have okx:=ok x (List.mem_of_getElem? hx)
             have oky:=ok y (List.mem_of_getElem? hy)
             have LX:Hid (∀W,Below wr.heap.size wr W→(Instr.loadAt 65 (pZ g (0+7*(k+1)))).run prog W= .ok x.a W):=fun W b=>Aae.ld Aam okx (Ael (HS.out.2.2.own.below b) ok hx)
             have LY:Hid (∀W,Below wr.heap.size wr W→(Instr.loadAt 65 (pZ g (0+7*k))).run prog W= .ok y.a W):=fun W b=>Aae.ld Aam oky (Ael (HS.out.2.2.own.below b) ok hy)
             have HXY:=Aaa (And.intro hx (And.intro hy (And.intro ok (And.intro okx oky))))
             have c1:decide (((k+1:Nat):Int)>0)=true:=decide_eq_true (by omega)
             clear hx hy ok okx oky
             go_upto_region 24 with fail
             refine En.zy tab [0,1,2,3,4,5,6,7,8,9,10,11,12,13] 14 (fun W=>Below wr.heap.size wr W) (hS:=(Below.refl _ _).drew) (h:=En.cm c1 (En.sty (fun W b=>Acn (show k+1<fn by omega) (by omega) W) (En.sty (fun W b=>LX.out W b) (En.ar (z:=(k:Int)) (by rw [Acc (by omega)];omega) (En.sty (fun W b=>Acn (show k<fn by omega) (by omega) W) (En.sty (fun W b=>LY.out W b) (En.cay (Av6 x y _) ?_)))))))
             rintro _ w7 ⟨rfl,b7⟩
             have D6:Below wr.heap.size wr wr.drew:=(Below.refl _ _).drew
             have B7:Below wr.heap.size wr w7:=D6.trans (b7.mono D6.size)
             refine ⟨_,rfl,B7,En.fi ?_⟩
             clear c1 b7 D6 LX LY
             rcases Bool.eq_false_or_eq_true (decide (cSp x y<0)) with hd|hd
             ·simp only [En.pM,En.pU,Act.put,qsA,qsB,qsC]
              rw [hd]
              have HB7:=Aaa B7
              have HD:=Aaa (of_decide_eq_true hd)
              clear B7 hd
              have D7:Below wr.heap.size wr w7.drew:=HB7.out.drew
              have h7:=HS.out.2.2.below D7
              obtain ⟨hx,hy,ok,okx,oky⟩:=HXY.out
              have L7:Hid ((Instr.loadAt 65 (pZ g (0+7*(k+1)))).run prog w7.drew= .ok x.a w7.drew∧(Instr.loadAt 65 (pZ g (0+7*k))).run prog w7.drew= .ok y.a w7.drew):=⟨Aae.ld Aam okx (Ael h7.own ok hx),Aae.ld Aam oky (Ael h7.own ok hy)⟩
              obtain ⟨w8,e8,o8,t8⟩:=Ajh h7.own ok (i:=k+1) (by omega) oky
              have ok8:∀z∈S.set (k+1) y,RSp.ok z:=fun z hz=>by
                rcases List.mem_or_eq_of_mem_set hz with q|q
                ·exact ok z q
                ·rw [q];exact oky
              obtain ⟨w9,e9,o9,t9⟩:=Ajh o8 ok8 (i:=k) (by rw [List.length_set];omega) okx
              have hg:=(h7.own.cells (k:=g) rfl).1
              have b8:=h7.bel.trans (t8.below h7.bel.size (fun j e=>by rw [e];exact hg))
              have b9:=b8.trans (t9.below b8.size (fun j e=>by rw [e];exact hg))
              have NI:Hid (∃S,S.Perm S0∧A1w S i k∧SwD w3 S (.slice (some ⟨g,0,none⟩) fn fc) w9):=⟨swp S k x y,(Alw hx hy).trans HS.out.1,HS.out.2.1.swap hx hy (by omega) HD.out,o9,fun z hz=>HS.out.2.2.ok z ((Alw hx hy).mem_iff.1 hz),b9⟩
              clear D7 h7 hx hy ok okx oky o8 t8 ok8 o9 t9 hg b8 b9 HS HXY HD HB7
              go_upto_region 26 with fail
              refine En.zc tab (En.Orc.of [0,1,2,3,4,5,6,7,8,9,10,11,12,13,14] (.cut 15 18 (.one 16 (.one 17 .nil)))) 15 (fun W=>W=w7.drew) (fr:=[2,3,4]) (hS:=rfl) (h:=En.ar (z:=(k:Int)) (by rw [Acc (by omega)];omega) (En.ar (z:=(k:Int)) (by rw [Acc (by omega)];omega) (En.se (Acn (show k<fn by omega) (by omega) _) (En.se L7.out.2 (En.se (Acn (show k+1<fn by omega) (by omega) _) (En.se L7.out.1 (En.se (Acn (show k+1<fn by omega) (by omega) _) (En.eu e8 ⟨fun _=>True,trivial,En.sty (fun W _=>Acn (show k<fn by omega) (by omega) W) (En.euy e9 trivial (En.fi ?_))⟩))))))))
              simp only [En.pM,En.pU,Act.put,qsA,qsB,qsC]
              clear e8 e9 L7
              go_upto_region 25 with fail
              refine En.zq tab rfl (En.ar (z:=(k:Int)) (by rw [Acc (by omega)];omega) (En.fi ?_))
              simp only [En.pM,En.pU,Act.put,qsA,qsB,qsC]
              go_wp2
              refine ⟨⟨k,rfl,by omega,NI⟩, ?_⟩
              show (k:Int).toNat<((k+1:Nat):Int).toNat
              omega
             ·rw [hd]
              have NI:Hid (∃S,S.Perm S0∧Ag1 S (i+1)∧SwD w3 S (.slice (some ⟨g,0,none⟩) fn fc) w7):=⟨S,HS.out.1,HS.out.2.1.stop (.inr ⟨k,x,y,rfl,HXY.out.1,HXY.out.2.1,of_decide_eq_false hd⟩),HS.out.2.2.below B7⟩
              clear HS HXY B7 hd
              simp only [En.pM,En.pU,Act.put,qsA,qsB,qsC]
              go_wp2
              rw [show ((i:Int)+1)=((i+1:Nat):Int) by omega]
              refine ⟨⟨i+1,rfl,by omega,by omega,NI⟩, ?_⟩
              show fn+1-((i+1:Nat):Int).toNat<fn+1-(i:Int).toNat
              omega
        ·have c1:decide ((i:Int)<(fn:Int))=false:=decide_eq_false (by omega)
         go_upto_region 21 with fail
         refine En.zq tab rfl (En.cm c1 (En.fi ?_))
         simp only [En.pM,En.pU,Act.put,qsA,qsB,qsC]
         obtain ⟨S,hp,hs,hw⟩:=HI.out
         have hSl:S.length=fn:=by rw [hp.length_eq];exact HFN.out
         have HS:=Aaa (And.intro hp (And.intro hs hw))
         clear HI hp hs hw c1
         go_wp2
         go_ret
         exact ⟨_,S,rfl,HS.out.2.2.own.mono B3.out.size,FIN.out S HS.out.1 (fun a b p q h1 h2=>HS.out.2.1 a b p q h1 (by omega)),by rw [HS.out.1.length_eq];exact FEW.out,fun x hx=>(HS.out.2.2.ok x hx).1,BW.out _ HS.out.2.2.bel⟩
attribute [local go_sem] Oper.semAt_some
theorem A2p (b:Nat) (x y:Operand) (w:World):(do eqGuard .eql 29 x y (pZ b 0) (.pointer none);binOp .eql 29 (pZ b 0) (.pointer none):Sem Value).run prog w= .ok (.bool false) w:=by
 refine bo rfl ?_
 go_simp
section
variable {w:World} {base:Nat} {r:Rx}
theorem Al7 (h:Acr w base r):Calls prog 28 #[(pZ r.rb 0)] w fun e w'=>e= .returned (.int .i64 (r.L.length:Int))∧w'=w:=by
 obtain ⟨a,c,e,_⟩:=h.sl
 have LD:=Aaa h.ldl
 rw [e] at LD
 clear h e
 go_enter func28,ntmps28
 go_upto_region 1 with fail
 refine En.zq tab rfl (En.st (A2p _ _ _ _) (En.fi ?_))
 simp only [En.pM,En.pU,Act.put,qsA,qsB,qsC]
 go_upto_region 3 with fail
 refine En.zq tab rfl (En.st LD.out (En.fi ?_))
 simp only [En.pM,En.pU,Act.put,qsA,qsB,qsC]
 go_wp2
 go_ret
 exact ⟨rfl,rfl⟩
theorem Aae.own_cut {κ:Type} {R:Aae κ} (I:R.Is) {n c:Nat} {L A B:List κ} (e:L=A++B) (ok:∀x∈L,R.ok x) {a:Option Addr} (h:R.Own w base (.slice a n c) L):R.Own w base (.slice a A.length c) A:=by
 subst e
 have okA:∀x∈A,R.ok x:=fun x hx=>ok x (by simp [hx])
 have lA:=Aae.flat_len I okA
 refine ⟨by rw [lA,Nat.mul_comm], ?_⟩
 rcases h.2 with ⟨e1,hn⟩|⟨g,cap,cur,e1,hb,hg,hnc,hcm,hcs,ht⟩
 ·cases e1
  have:A=[]:=by
   have:(A++B).length=0:=by omega
   cases A with
   |nil=>rfl
   |cons _ _=>simp at this
  subst this
  exact .inl ⟨rfl,rfl⟩
 ·cases e1
  rw [Aae.flat_app] at ht
  rw [List.length_append] at hnc
  refine .inr ⟨_,_,cur,rfl,hb,hg,by omega,hcm,hcs, ?_⟩
  have:=congrArg (List.take (A.length*R.k)) ht
  rw [List.take_take,Nat.min_eq_left (by rw [List.length_append];exact Nat.mul_le_mul_right _ (by omega)),List.take_left' (by rw [lA,Nat.mul_comm])] at this
  exact this
theorem Aqa {L:List MkV} (hn:(L.map (·.id)).Nodup) {k:IdK} {z:Int} (h:FdI L k z):Aiq L k=if z<0 then 4 else if z≠(L.length:Int)-1 then 2 else 0:=by
 unfold Aiq
 rcases h with ⟨rfl,h⟩|⟨i,x,rfl,hx,e,_⟩
 ·have q:Afs L k=false:=by
   cases q:Afs L k with
   |false=>rfl
   |true=>obtain ⟨x,hx,e⟩:=Adl.1 q;exact absurd e (h x hx)
  rw [if_pos q,if_pos (show (-1:Int)<0 by omega)]
 ·rw [if_neg (show ¬Afs L k=false by rw [Adl.2 ⟨x,List.mem_of_getElem? hx,e⟩];decide),if_neg (show ¬(i:Int)<0 by omega)]
  obtain ⟨hi,hx2⟩:=List.getElem?_eq_some_iff.1 hx
  by_cases hl:i=L.length-1
  ·rw [if_pos (show (L.getLast?.map (·.id))=some k by rw [List.getLast?_eq_getElem?, ←hl,hx];simp [e]),if_neg (show ¬(i:Int)≠(L.length:Int)-1 by omega)]
  ·rw [if_neg,if_pos (show (i:Int)≠(L.length:Int)-1 by omega)]
   intro q
   rw [List.getLast?_eq_getElem?,List.getElem?_eq_getElem (by omega)] at q
   simp only [Option.map_some,Option.some.injEq] at q
   have h2:=List.pairwise_iff_getElem.1 hn i (L.length-1) (by rw [List.length_map];omega) (by rw [List.length_map];omega) (by omega)
   simp only [List.getElem_map] at h2
   exact h2 (by rw [hx2,e,q])
theorem Aqy (h:Acr w base r) (hb:base≤w.heap.size) (hn:(r.L.map (·.id)).Nodup) {k:IdK} (hk:k.ok):Calls prog 15 #[(pZ r.rb 0),k.v] w fun e w'=>e= .returned (.int .i64 (Aiq r.L k))∧RkN r base (Aiv r.L k) w w':=by
 have bx:Below w.heap.size w (w.alloc (.cells k.c.toArray 36)):=(Below.refl _ _).alloc (Nat.le_refl _) _
 have hx:=Acg w k
 have HH:=Aaa h
 have HNO:=Aaa hn
 show Calls prog 15 #[(pZ r.rb 0), .agg k.c.toArray] w _
 have FD:Hid (∀W,Below w.heap.size w W→Calls prog 43 #[(pZ r.rb 0),k.v] W fun e w'=> ∃z,e= .returned (.int .i64 z)∧FdI r.L k z∧Below W.heap.size W w'):=fun W b=>Ahb (h.below b) hk
 clear h hn
 go_enter func15,ntmps15
 go_upto_region 1 with fail
 generalize w.alloc (.cells k.c.toArray 36)=wx at *
 obtain ⟨kb,hkb⟩:∃kb,w.heap.size=kb:=⟨_,rfl⟩
 have hx':Aaz wx kb k:=by rw [←hkb];exact hx
 rw [hkb]
 have LK:=Aaa (Aah hk hx')
 have BX:=Aaa bx
 clear hx hx' bx
 refine En.zq tab rfl (En.st (A2p _ _ _ _) (En.fi ?_))
 simp only [En.pM,En.pU,Act.put,qsA,qsB,qsC]
 go_upto_region 3 with fail
 refine En.zq tab rfl (En.st LK.out (En.ca (FD.out _ BX.out) ?_))
 rintro _ w2 ⟨z,rfl,hz,b2⟩
 refine ⟨_,rfl,En.fi ?_⟩
 simp only [En.pM,En.pU,Act.put,qsA,qsB,qsC]
 have B2:Hid (Below w.heap.size w w2):=BX.out.trans (b2.mono BX.out.size)
 have UC:=Aaa (Aqa HNO.out hz)
 have HZ:=Aaa hz
 clear LK FD b2 hz BX
 have HH2:=HH.out.below B2.out
 obtain ⟨a,c,elv,_⟩:=HH2.sl
 have LD:=HH2.ldl
 have hn9:=HH.out.n
 have SAME:Hid (Aiq r.L k≠0→RkN r base (Aiv r.L k) w w2):=fun q=>by
  unfold Aiv
  rw [if_neg q]
  exact RkN.same HH.out B2.out
 rw [elv] at LD
 obtain ⟨n,hn⟩:∃n,r.L.length=n:=⟨_,rfl⟩
 have HN:=Aaa hn
 rw [hn] at LD hn9 elv
 rw [hn] at UC
 clear hn
 have zb: -1≤z∧z<(n:Int):=by
  have:=HN.out
  rcases HZ.out with ⟨e,_⟩|⟨i,x,e,hx,_⟩
  ·omega
  ·have:=(List.getElem?_eq_some_iff.1 hx).1
   omega
 go_upto_region 4 with fail
 by_cases hz0:z<0
 ·have c1:decide (z<0)=true:=decide_eq_true hz0
  refine En.zq tab rfl (En.cm c1 (En.fi ?_))
  simp only [En.pM,En.pU,Act.put,qsA,qsB,qsC]
  have e4:=UC.out
  rw [if_pos hz0] at e4
  clear c1 UC HH2 LD
  go_wp2
  go_ret
  exact ⟨congrArg (fun z=>Ending.returned (Value.int IntKind.i64 z)) e4.symm,SAME.out (by rw [e4];decide)⟩
 ·have c1:decide (z<0)=false:=decide_eq_false hz0
  refine En.zq tab rfl (En.cm c1 (En.fi ?_))
  simp only [En.pM,En.pU,Act.put,qsA,qsB,qsC]
  clear c1
  rw [if_neg hz0] at UC
  obtain ⟨q,hq⟩:∃q,(n:Int)-1=q:=⟨_,rfl⟩
  rw [hq] at UC
  have hw:IntKind.i64.wrap ((n:Int)-1)=q:=by rw [Acc (by omega)];exact hq
  go_upto_region 6 with fail
  by_cases hzq:z≠q
  ·have c1:(!decide (z=q))=true:=by rw [decide_eq_false hzq];rfl
   refine En.zq tab rfl (En.st LD (En.ar (z:=q) hw (En.cm c1 (En.fi ?_))))
   simp only [En.pM,En.pU,Act.put,qsA,qsB,qsC]
   have e4:=UC.out
   rw [if_pos hzq] at e4
   have HE4:=Aaa e4
   have SM:=Aaa (SAME.out (by rw [e4];decide))
   clear c1 UC HH2 LD hw e4 SAME
   go_wp2
   go_ret
   exact ⟨congrArg (fun z=>Ending.returned (Value.int IntKind.i64 z)) HE4.out.symm,SM.out⟩
  ·have hzq:=Decidable.not_not.1 hzq
   have c1:(!decide (z=q))=false:=by rw [decide_eq_true hzq];rfl
   refine En.zq tab rfl (En.st LD (En.ar (z:=q) hw (En.cm c1 (En.fi ?_))))
   simp only [En.pM,En.pU,Act.put,qsA,qsB,qsC]
   have e4:=UC.out
   rw [if_neg (show ¬z≠q from fun h=>h hzq)] at e4
   clear c1 UC hw
   obtain ⟨i,rfl⟩:∃i:Nat,z=(i:Int):=⟨z.toNat,by omega⟩
   have hin:n=i+1:=by omega
   obtain ⟨A,x,eL⟩:∃A x,r.L=A++[x]:=⟨r.L.dropLast,r.L.getLast (fun q=>by have:=HN.out;rw [q] at this;simp at this;omega),(List.dropLast_concat_getLast _).symm⟩
   have hA:A.length=i:=by have:=HN.out;rw [eL,List.length_append] at this;simp at this;omega
   have hic:i≤c:=by
        obtain ⟨a2,c2,e2,_,hc,_⟩:=HH2.row.open Ain HH2.ok
        rw [elv] at e2
        cases e2
        have:=HN.out
        omega
   obtain ⟨w3,es,g3,t3⟩:=A2b (a:=a) (n:=i) (c:=c) HH2.cell ⟨a,n,c,elv⟩
   have e5:Aiv r.L k=A:=by unfold Aiv;rw [if_pos e4,eL];simp
   have FIN:Hid (RkN r base (Aiv r.L k) w w3):=by
        have own2:=HH2.row
        rw [elv] at own2
        have own3:=Aae.own_cut Ain eL HH2.ok own2
        rw [hA] at own3
        rw [e5]
        refine ⟨⟨r.rb, .slice a i c,A⟩,⟨g3,own3.keep (fun j hj=>t3.block j ((Aae.Own.lt own3 hj)) (fun e=> ?_)),fun y hy=>HH.out.ok y (by rw [eL];simp [hy]),HH2.b,by show A.length≤_;have:=HN.out;omega⟩,rfl,rfl, .inl (by rw [elv];cases a <;>rfl),((Aan B2.out _).trans (t3.mono (fun j _ e=> .inl e)))⟩
        obtain ⟨_,c3,q3⟩:=own3.cells hj
        have q4:=HH2.cell
        rw [←e,q3] at q4
        simp [RR] at q4
   clear HH2 g3 t3 hA e5
   go_upto_region 8 with fail
   refine En.zq tab rfl (En.st LD (En.st (Aae.sl_upto Ain a hic _) (En.eu es (En.fi ?_))))
   simp only [En.pM,En.pU,Act.put,qsA,qsB,qsC]
   have HE4:=Aaa e4
   clear es LD e4 eL elv SAME
   go_wp2
   go_ret
   exact ⟨congrArg (fun z=>Ending.returned (Value.int IntKind.i64 z)) HE4.out.symm,FIN.out⟩
end
attribute [local go_sem] Oper.semAt_some
section
variable {w:World} {base:Nat} {r:Rx}
theorem Aq8 (h:Acr w base r):Calls prog 21 #[(pZ r.rb 0)] w fun e w'=> ∃r':Rx,e= .returned (pZ r'.rb 0)∧Acr w' w.heap.size r'∧r'.L=r.L∧Below w.heap.size w w':=by
 have HH:=Aaa h
 have NW:=Aaa (Ai9 w)
 clear h
 go_enter func21,ntmps21
 go_upto_region 1 with fail
 refine En.zq tab rfl (En.st (A2p _ _ _ _) (En.fi ?_))
 simp only [En.pM,En.pU,Act.put,qsA,qsB,qsC]
 go_upto_region 3 with fail
 refine En.zq tab rfl (En.ca NW.out ?_)
 rintro _ w1 ⟨f,rfl,hf,fL,b1⟩
 refine ⟨_,rfl,En.fi ?_⟩
 simp only [En.pM,En.pU,Act.put,qsA,qsB,qsC]
 have D1:Below w.heap.size w w1.drew:=b1.drew
 have hf1:Acr w1.drew w.heap.size f:=hf.below ((Below.refl _ _).drew)
 have hr1:=HH.out.below D1
 obtain ⟨ra,rc,erl,rat⟩:=hr1.sl
 have hn:=HH.out.n
 obtain ⟨v2,w2,e2,o2,g2,q2⟩:=Aae.run_app Ain w1.drew w.heap.size f.lv f.L ra r.L rc hf1.row rat (fun y hy=>HH.out.ok y hy) (by rw [fL];unfold maxLen;simp;omega) (by rw [fL];show _*184≤_;simp;omega) D1.size
 rw [fL,List.nil_append] at o2
 obtain ⟨fa,fc,efl,_⟩:=hf1.sl
 rw [fL] at efl
 obtain ⟨va,vc,ev2,_⟩:=o2.open Ain HH.out.ok
 have keep:∀{j:Nat} {c:Array Value} {t:TypeId} {z:Nat × Nat},w1.drew.heap[j]? =some (.cells c t z)→t≠99→w2.heap[j]? =some (.cells c t z):=fun {j c t z} hj ht=>by
  refine (g2.block j (Array.getElem?_eq_some_iff.1 hj).1 (fun e=> ?_)).trans hj
  obtain ⟨_,c3,h3⟩:=hf1.row.cells e.symm
  rw [hj] at h3
  simp [RR] at h3
  exact ht h3.2.1
 have cf2:=keep hf1.cell (by decide)
 have cr2:=keep hr1.cell (by decide)
 have D2:Below w.heap.size w w2:=D1.trans ((Below.refl _ _).grown g2 D1.size (fun k e=>(hf1.row.cells e).1))
 obtain ⟨w3,e3,g3,t3⟩:=A2b (a:=va) (n:=r.L.length) (c:=vc) cf2 ⟨fa,_,fc,efl⟩
 rw [←ev2] at e3 g3
 have L1:Hid ((Instr.loadAt 88 (pZ f.rb (0+0))).run prog w1.drew= .ok f.lv w1.drew∧(Instr.loadAt 88 (pZ r.rb (0+0))).run prog w1.drew= .ok (.slice ra r.L.length rc) w1.drew):=⟨Apa hf1.cell ⟨fa,_,fc,efl⟩,by rw [←erl];exact Apa hr1.cell ⟨ra,_,rc,erl⟩⟩
 have L2:Hid ((Instr.loadAt 88 (pZ f.rb (0+0))).run prog w2= .ok f.lv w2∧(Instr.loadAt 88 (pZ r.rb (0+0))).run prog w2= .ok (.slice ra r.L.length rc) w2):=⟨Apa cf2 ⟨fa,_,fc,efl⟩,by rw [←erl];exact Apa cr2 ⟨ra,_,rc,erl⟩⟩
 have FIN:Hid (Acr w3 w.heap.size ⟨f.rb,v2,r.L⟩∧Below w.heap.size w w3):=by
  refine ⟨⟨g3,o2.keep (fun j hj=>t3.block j (Aae.Own.lt o2 hj) (fun e=> ?_)),HH.out.ok,hf1.b,hn⟩,D2.trans (t3.below D2.size (fun j e=>by rw [e];exact hf1.b))⟩
  obtain ⟨_,c3,q3⟩:=o2.cells hj
  rw [e] at q3
  rw [cf2] at q3
  simp [RR] at q3
 have HE:=Aaa (And.intro e2 e3)
 clear hf hf1 hr1 rat o2 g2 q2 keep cf2 cr2 D2 g3 t3 D1 b1 fL e2 e3 hn NW
 go_upto_region 4 with fail
 refine En.zy tab [0,1,2,3,4,5,6,7,8,9,10,11,12] 12 (fun W=>(Instr.loadAt 88 (pZ f.rb (0+0))).run prog W= .ok f.lv W∧(Instr.loadAt 88 (pZ r.rb (0+0))).run prog W= .ok (.slice ra r.L.length rc) W) (hS:=L1.out) (h:=En.sty (fun W b=>b.1) (En.sty (fun W b=>b.2) (En.efy HE.out.1 L2.out (En.eu HE.out.2 (En.fi ?_)))))
 simp only [En.pM,En.pU,Act.put,qsA,qsB,qsC]
 clear HE L1 L2
 go_wp2
 go_ret
 exact ⟨⟨f.rb,v2,r.L⟩,rfl,FIN.out.1,rfl,FIN.out.2⟩
end
theorem A1f {E:List Elt} {L:List MkV} {nm:ByteArray} {i:Nat} (hi:i<E.length):hR E L nm (i:Int)=if (hoD E L nm (i:Int)).2=true then some (hoD E L nm (i:Int)).1 else none:=by
 unfold hR hoD
 have e:(L.filter fun x=>decide (x.nm=nm)&&Air E (i:Int) x)=L.filter (PD E nm (i:Int)):=by
  refine List.filter_congr fun x _=> ?_
  unfold PD
  rw [A1m hi]
 rw [e]
 cases (L.filter (PD E nm (i:Int))).getLast? with
 |none=>simp
 |some x=>by_cases h:x.v.k=0 <;>simp [h]
theorem A2f {E:List Elt} {L:List MkV} {l:List ByteArray} (hl:Acb L l) {i:Nat} (hi:i<E.length) {a b:Int} {p:SpV}:p∈l.flatMap (spO E L (i:Int) a b)↔p.fr=a∧p.to=b∧hR E L p.nm (i:Int)=some p.v:=by
 rw [List.mem_flatMap]
 constructor
 ·rintro ⟨nm,_,h⟩
  unfold spO at h
  split at h
  ·next hh =>
   rw [List.mem_singleton.1 h]
   exact ⟨rfl,rfl,by rw [A1f hi,if_pos hh]⟩
  ·cases h
 ·rintro ⟨rfl,rfl,h⟩
  refine ⟨p.nm, ?_, ?_⟩
  ·unfold hR at h
   cases q:(L.filter fun x=>decide (x.nm=p.nm)&&Air E (i:Int) x).getLast? with
   |none=>rw [q] at h;cases h
   |some x =>
    have:=List.mem_filter.1 (List.mem_of_getLast? q)
    simp only [Bool.and_eq_true,decide_eq_true_eq] at this
    exact (hl.mem p.nm).2 ⟨x,this.1,this.2.1⟩
  ·rw [A1f hi] at h
   unfold spO
   split at h
   ·next hh=>rw [if_pos hh,List.mem_singleton,Option.some.inj h]
   ·cases h
theorem A6s {p q:SpV} (h1:p.fr=q.fr) (h2:p.to=q.to) (h:ltS p.nm q.nm=true):cSp p q<0:=by
 have:=A1o p q
 rw [if_neg (fun e=>e h1),if_neg (fun e=>e h2),h] at this
 exact of_decide_eq_true this
theorem A2e {E:List Elt} {L:List MkV} {l:List ByteArray} (hl:Srt l) {i a b:Int}:(l.flatMap (spO E L i a b)).Pairwise (fun p q=>cSp p q<0):=by
 have one:∀nm p,p∈spO E L i a b nm→p.fr=a∧p.to=b∧p.nm=nm:=fun nm p h=>by
  unfold spO at h
  split at h
  ·rw [List.mem_singleton.1 h];exact ⟨rfl,rfl,rfl⟩
  ·cases h
 induction l with
 |nil=>exact List.Pairwise.nil
 |cons nm ns ih =>
  have hp:=List.pairwise_cons.1 hl
  rw [List.flatMap_cons]
  refine List.pairwise_append.2 ⟨?_,ih hp.2,fun p h1 q h2=> ?_⟩
  ·unfold spO;split <;>simp
  ·obtain ⟨n2,hn2,hq⟩:=List.mem_flatMap.1 h2
   have o1:=one nm p h1
   have o2:=one n2 q hq
   exact A6s (by rw [o1.1,o2.1]) (by rw [o1.2.1,o2.2.1]) (by rw [o1.2.2,o2.2.2];exact hp.1 n2 hn2)
theorem Arn {E:List Elt} (ok:Abf E) {L:List MkV} {k:IdK} {S O:List SpV} (hO:OvD E L k O) (hS:if Abg E k=true then S.Perm (ovL E L k)∧SdS S else S=[]):S=O:=by
 cases hh:Abg E k with
 |false =>
  rw [hh,if_neg (by decide)] at hS
  rw [hS,hO.no hh]
 |true =>
  rw [hh,if_pos rfl] at hS
  obtain ⟨x,hx,e⟩:=Aao.1 hh
  obtain ⟨i,hi,e2⟩:=List.getElem_of_mem hx
  have hik:E[i].id=k:=by rw [e2];exact e
  obtain ⟨l,hl,rfl⟩:=hO.yes i hi hik
  have r1:Aac E false k=(i:Int):=by rw [←hik];exact Afi ok hi
  have r2:Aac E true k=(Abn E i:Int):=by rw [←hik];exact Aim ok true hi
  have r3:(if E[i].sh=true then Aac E true k+1 else Aac E true k)=(Abn E (i+1):Int):=by
   rw [Ad7 hi,r2];split <;>omega
  have r4:Aem E (Aac E false k)=(Abn E i:Int):=by rw [r1];exact Ad0 ok (by omega)
  have r5:Aem E (Aac E false k+1)=(Abn E (i+1):Int):=by rw [r1];exact Ad0 ok (r:=i+1) (by omega)
  rw [r3,r2]
  unfold ovL at hS
  rw [r4,r5,r1] at hS
  obtain ⟨hp,hs⟩:=hS
  have nd:(S.map (·.nm)).Nodup:=(hp.map _).nodup_iff.2 (Ayd E L _ _ _)
  refine Afh ?_ (A2e hl.srt) (fun p=>(hp.mem_iff.trans A5a).trans (A2f hl hi).symm)
  have nd2:S.Pairwise (fun p q=>p.nm≠q.nm):=List.pairwise_map.1 nd
  refine (hs.and nd2).imp fun {p q} h=> ?_
  by_cases h0:cSp p q=0
  ·exact absurd (Aob h0).2.2 h.2
  ·have:=h.1;omega
attribute [local go_sem] Oper.semAt_some
theorem At5 (d:Nat) (t k e:TypeId) (p:Option Nat) (w:World) (h:prog.underlying t=some (.map k e)):(Op.equalIn (d+1) t (.map p) (.map none)).run prog w= .ok p.isNone w:=by
 cases p <;>simp [Op.equalIn,run_underlying h]
theorem Apj (t k e:TypeId) (p:Option Nat) (w:World) (h:prog.underlying t=some (.map k e)):(binOp .eql t (.map p) (.map none)).run prog w= .ok (.bool p.isNone) w:=by
 simp only [binOp]
 simp [show Op.equal t (.map p) (.map none)=Op.equalIn (9999+1) t (.map p) (.map none) from rfl,At5 9999 t k e p w h]
theorem A6v (t xT k e:TypeId) (v:Value) (w:World) (h:prog.underlying t=some (.map k e)):(Instr.typeAssert (.iface t v) xT t false).run prog w= .ok v w:=by
 simp [Instr.typeAssert,run_underlying h,go_sem,Result.andThen]
theorem A6r {w:World} {r:Nat} {es:Array MapEntry} {clock:Nat} (t:TypeId) (hb:w.heap[r]? =some (.map es clock)) :
 (Extern.MapsClone.clone #[.iface t (.map (some r))]).run prog w= .ok (.iface t (.map (some w.heap.size))) (w.alloc (.map es clock)):=by
 have e:Extern.MapsClone.clone #[.iface t (.map (some r))]=(getObj r >>= fun o=>match o with
  | .map entries clock=>(newObj (.map entries clock) >>= fun n=>pure (.iface t (.map (some n))))
  |_=>stuck "maps.clone: a map expected"):=rfl
 rw [e]
 simp [MapKept.run_getObj_map hb,Result.andThen,go_sem]
theorem Avi {w:World} {b:Nat} {es:Array MapEntry} {clock:Nat} (hb:w.heap[b]? =some (.map es clock)):Calls prog 52 #[.map (some b)] w fun e w'=>e= .returned (.map (some w.heap.size))∧w'=w.alloc (.map es clock):=by
 have hq:=fun w=>Apj 84 _ _ (some b) w underlying84
 go_enter func52,ntmps52
 go_wp2
 rw [run_callFunc_extern func75 (by kernel_rfl) (by kernel_rfl) (by kernel_rfl) (e:=Extern.MapsClone.clone) (by kernel_rfl),A6r 84 hb]
 simp only [Result.andThen]
 rw [Oper.upon_value]
 go_wp2
 rw [A6v 84 _ _ _ _ _ underlying84]
 simp only [Result.andThen]
 rw [Oper.upon_value]
 go_wp2
 go_ret
 exact ⟨rfl,rfl⟩
attribute [local go_sem] Oper.semAt_some
theorem A4y (b:Nat) (x y:Operand) (w:World):(do eqGuard .eql 27 x y (pZ b 0) (.pointer none);binOp .eql 27 (pZ b 0) (.pointer none):Sem Value).run prog w= .ok (.bool false) w:=by
 refine bo rfl ?_
 go_simp
theorem Apo (a:Option Addr) (n c i:Nat) (W:World):(Instr.build 87 #[(0, .slice a n c),(1, .map (some i))]).run prog W= .ok (.agg #[.slice a n c, .map (some i)]) W:=by kernel_rfl
theorem Ar6 {w:World} {base:Nat} {m:Mx} (h:Acl w base m):Calls prog 20 #[(pZ m.mb 0)] w fun e w'=> ∃m':Mx,e= .returned (pZ m'.mb 0)∧Acl w' base m'∧m'.L=m.L∧w.heap.size≤m'.mb∧w.heap.size≤m'.ib∧m'.lv.ownBlock=m.lv.ownBlock∧(∀a n c,m'.lv= .slice a n c→c=n)∧Below w.heap.size w w':=by
 obtain ⟨a,c,e,hat,hlc,hcm,_⟩:=h.lo.open Acs (fun x hx=>(h.ok x hx).1)
 obtain ⟨⟨es,clock,hes,hmap⟩,hnd,hV⟩:=h.map
 have HH:=Aaa h
 have LD:=fun (W:World) (b:Below w.heap.size w W)=>(h.below b).ldl
 rw [e] at LD
 have LM:=fun (W:World) (b:Below w.heap.size w W)=>(h.below b).ldm
 have L1:=Aaa LD
 have L2:=Aaa LM
 obtain ⟨n,hn⟩:∃n,m.L.length=n:=⟨_,rfl⟩
 clear LD LM h
 go_enter func20,ntmps20
 go_upto_region 1 with fail
 refine En.zq tab rfl (En.st (A4y _ _ _ _) (En.fi ?_))
 simp only [En.pM,En.pU,Act.put,qsA,qsB,qsC]
 go_upto_region 3 with fail
 have CUT:=fun W=>Auj (w:=W) a m.L.length c m.L.length hlc hcm
 have CLO:=fun (W:World) (b:Below w.heap.size w W)=>Avi (w:=W) ((b.block _ (Array.getElem?_eq_some_iff.1 hes).1).trans hes)
 have D0:Below w.heap.size w w.drew:=(Below.refl _ _).drew
 refine En.zy tab [0,1,2,3,4,5,6,7,8,10,11,12,13,9,14,15,16,17] 18 (fun W=>Below w.heap.size w W) (hS:=D0) (h:=En.sty (fun W b=>L1.out W b) (En.sty (fun W b=>L1.out W b) (En.sty (fun W b=>L2.out W b) (En.cay (CUT _) ?_))))
 rintro _ w1 ⟨rfl,rfl⟩
 refine ⟨_,rfl,D0,En.cay (CLO _ D0) ?_⟩
 rintro _ w2 ⟨rfl,rfl⟩
 have D1:Below w.heap.size w (w.drew.alloc (.map es clock)):=D0.alloc D0.size _
 have D2:Below w.heap.size w ((w.drew.alloc (.map es clock)).alloc (.cells #[.slice a m.L.length m.L.length, .map (some w.drew.heap.size)] 87)):=D1.alloc D1.size _
 refine ⟨_,rfl,D1,En.sty (fun W b=>Apo a _ _ _ W) (En.efy (Aev _ _ _) D2 (En.fi ?_))⟩
 have hl:(m.L.take m.L.length)=m.L:=List.take_of_length_le (Nat.le_refl _)
 obtain ⟨v',hv',lo',ob'⟩:=Aae.Lo.cut Acs (fun x hx=>(HH.out.ok x hx).1) HH.out.lo (Nat.le_refl _)
 rw [hl] at lo'
 have ev:=hv' a c e
 subst ev
 have FIN:Hid (Acl ((w.drew.alloc (.map es clock)).alloc (.cells #[.slice a m.L.length m.L.length, .map (some w.drew.heap.size)] 87)) base {mb:=(w.drew.alloc (.map es clock)).heap.size,ib:=w.drew.heap.size,lv:= .slice a m.L.length m.L.length,L:=m.L}∧(Value.slice a m.L.length m.L.length).ownBlock=m.lv.ownBlock∧Below w.heap.size w ((w.drew.alloc (.map es clock)).alloc (.cells #[.slice a m.L.length m.L.length, .map (some w.drew.heap.size)] 87))):=by
  refine ⟨⟨heap_alloc_new _ _,lo'.below D2,HH.out.ok,⟨⟨es,clock, ?_,hmap⟩,hnd,hV⟩,HH.out.n⟩,ob',D2⟩
  show ((w.drew.alloc (.map es clock)).alloc _).heap[w.drew.heap.size]? =_
  rw [Below.heap_alloc _ _ _ (by simp)]
  exact heap_alloc_new _ _
 have z1:w.heap.size≤(w.drew.alloc (.map es clock)).heap.size:=D1.size
 have z0:w.heap.size≤w.drew.heap.size:=D0.size
 simp only [En.pM,En.pU,Act.put,qsA,qsB,qsC]
 clear D0 D1 D2 lo' ob' hv' hl CUT CLO L1 L2 hes hmap hnd hV
 go_wp2
 go_ret
 exact ⟨_,rfl,FIN.out.1,rfl,z1,z0,FIN.out.2.1,fun a2 n2 c2 q=>by cases q;rfl,FIN.out.2.2⟩
theorem A5b {E:List Elt} (ok:Abf E) (hl:E.length≤1400000000000) {L:List MkV} (hL:∀x∈L,x.ok) {k:IdK} (hh:Abg E k=true):∀p∈ovL E L k,SpV.ok p:=by
 intro p hp
 obtain ⟨x,hx,e⟩:=Aao.1 hh
 obtain ⟨i,hi,e2⟩:=List.getElem_of_mem hx
 have hik:E[i].id=k:=by rw [e2];exact e
 have r1:Aac E false k=(i:Int):=by rw [←hik];exact Afi ok hi
 have bd:∀n,Abn E n≤1400000000000:=fun n=>by
  have h1:Abn E n≤(E.take n).length:=by unfold Abn;exact List.countP_le_length
  rw [List.length_take] at h1
  omega
 have r4:Aem E (Aac E false k)=(Abn E i:Int):=by rw [r1];exact Ad0 ok (by omega)
 have r5:Aem E (Aac E false k+1)=(Abn E (i+1):Int):=by rw [r1];exact Ad0 ok (r:=i+1) (by omega)
 unfold ovL spL at hp
 rw [r4,r5] at hp
 obtain ⟨y,hy,rfl⟩:=List.mem_map.1 hp
 have hyL:y∈L:=by
  have:=Ald.1 (List.mem_filter.1 hy).1
  exact (List.mem_filter.1 (List.mem_of_getLast? this)).1
 have hok:=hL y hyL
 have h1:=bd i
 have h2:=bd (i+1)
 exact ⟨by show _≤(Abn E i:Int);omega,by show (Abn E i:Int)≤_;omega,by show _≤(Abn E (i+1):Int);omega,by show (Abn E (i+1):Int)≤_;omega,hok.nm,hok.v⟩
section
variable {w:World} {s:Sx} {base b2 B:Nat} {m:Mx} {r:Rx} {pv:Value} {R:List Elt}
theorem Ag7 (hs:Aak w s (Ab5 R)) (hm:Acl w base m) (hr:Acr w b2 r) (hv:Aog w B pv R) (el:r.L=m.L) (rt:∀x∈m.L,x.v.right=true) (hT:K.V.Tabs w) :
 Calls prog 25 #[(pZ m.mb 0), (pZ s.sb 0)] w fun e w1=> ∃v,e= .returned v∧Below w.heap.size w w1∧Calls prog 26 #[(pZ r.rb 0),pv] w1 fun e w2=> ∃u,e= .returned u∧Below w.heap.size w w2∧Calls prog 22 #[v,u] w2 fun e w3=>e= .returned (.bool true)∧Below w.heap.size w w3:=by
 refine (Av7 hs hm rt hT).mono ?_
 rintro e w1 ⟨v,rfl,S,lo,is,ok,len,b⟩
 refine ⟨v,rfl,b,(Aox (hr.below b) (fun x hx=>(hm.ok x (el▸hx)).2) (fun x hx=>rt x (el▸hx)) (hv.below b)).mono ?_⟩
 rintro e w2 ⟨u,S2,rfl,own,is2,len2,ok2,c⟩
 have bc:=b.trans (c.mono b.size)
 refine ⟨u,rfl,bc, ?_⟩
 rw [el] at is2
 have eS:S2=S:=Ac3.unique is2 is
 subst eS
 obtain ⟨a1,c1,rfl,hat,_⟩:=(lo.below c).open Aam ok2
 obtain ⟨a2,c2,rfl,hat2,_⟩:=own.open Aam ok2
 refine (Ai4 hat hat2 ok2 (by have:=hr.n;omega)).mono ?_
 rintro e w3 ⟨rfl,d⟩
 exact ⟨rfl,bc.trans (d.mono bc.size)⟩
theorem Aro (hs:Aak w s (Ab5 R)) (hm:Acl w base m) (hr:Acr w b2 r) (hv:Aog w B pv R) (el:r.L=m.L) {k:IdK} (hk:k.ok) :
 Calls prog 23 #[(pZ m.mb 0), (pZ s.sb 0),k.v] w fun e w1=> ∃v,e= .returned v∧Below w.heap.size w w1∧Calls prog 24 #[(pZ r.rb 0),pv,k.v] w1 fun e w2=> ∃u,e= .returned u∧Below w.heap.size w w2∧Calls prog 22 #[v,u] w2 fun e w3=>e= .returned (.bool true)∧Below w.heap.size w w3:=by
 refine (Ayc hs hm hk).mono ?_
 rintro e w1 ⟨v,S,rfl,lo,hS,b⟩
 have ok1:(∀x∈S,SpV.ok x)∧S.length≤m.L.length:=by
  cases hh:Abg (Ab5 R) k with
  |false =>
   rw [hh,if_neg (by decide)] at hS
   rw [hS]
   exact ⟨fun x hx=>(by cases hx),Nat.zero_le _⟩
  |true =>
   rw [hh,if_pos rfl] at hS
   refine ⟨fun x hx=>A5b hv.ok.1.row (by rw [Adw];exact hv.ok.2) (fun y hy=>(hm.ok y hy).1) hh x (hS.1.mem_iff.1 hx), ?_⟩
   rw [hS.1.length_eq]
   unfold ovL spL
   rw [List.length_map]
   exact Nat.le_trans (List.length_filter_le _ _) (An4 _ _ _)
 obtain ⟨ok1,len1⟩:=ok1
 refine ⟨v,rfl,b,(Aq6 (hr.below b) (fun x hx=>(hm.ok x (el▸hx)).2) (hv.below b) hk).mono ?_⟩
 rintro e w2 ⟨u,O,rfl,own,hO,c⟩
 have bc:=b.trans (c.mono b.size)
 refine ⟨u,rfl,bc, ?_⟩
 rw [el] at hO
 have eS:S=O:=Arn hv.ok.1.row hO hS
 subst eS
 obtain ⟨a1,c1,rfl,hat,_⟩:=(lo.below c).open Aam ok1
 obtain ⟨a2,c2,rfl,hat2,_⟩:=own.open Aam ok1
 refine (Ai4 hat hat2 ok1 ?_).mono ?_
 ·have:=hm.n;omega
 ·rintro e w3 ⟨rfl,d⟩
  exact ⟨rfl,bc.trans (d.mono bc.size)⟩
end
structure Adp (W:World) (F:Nat) (m:Mx) (r:Rx):Prop where
 pm:Acl W 0 m
 rk:Acr W F r
 el:r.L=m.L
 mb:F≤m.mb
 ib:F≤m.ib
 own:tgt m.lv∨∀j,m.lv.ownBlock=some j→F≤j
 rt:∀x∈m.L,x.v.right=true
 le:F≤W.heap.size
structure Ake (W:World) (F:Nat) (m:Mx) (r:Rx):Prop where
 pm:Acl W 0 m
 rk:Acr W 0 r
 el:r.L=m.L
 bm:∀j,m.bl j→j<F
 br:∀j,r.bl j→j<F
 rt:∀x∈m.L,x.v.right=true
section
variable {W W':World} {F:Nat} {m:Mx} {r:Rx}
theorem Adp.below (h:Adp W F m r) (b:Below W.heap.size W W'):Adp W' F m r:=⟨h.pm.below b,h.rk.below b,h.el,h.mb,h.ib,h.own,h.rt,Nat.le_trans h.le b.size⟩
theorem Ake.below (h:Ake W F m r) (b:Below W.heap.size W W'):Ake W' F m r:=⟨h.pm.below b,h.rk.below b,h.el,h.bm,h.br,h.rt⟩
theorem Ake.tch (h:Ake W F m r) {O:Nat→Prop} (t:Tch O W W') (hO:∀j,O j→F≤j):Ake W' F m r :=
 ⟨h.pm.keep (fun j hj=>t.block j (Mx.lt h.pm hj) (fun q=>by have:=hO j q;have:=h.bm j hj;omega)),h.rk.keep (fun j hj=>t.block j (h.rk.lt hj) (fun q=>by have:=hO j q;have:=h.br j hj;omega)),h.el,h.bm,h.br,h.rt⟩
theorem Amo {base b2:Nat} (hm:Acl W base m) (hr:Acr W b2 r) {j:Nat} (h1:m.bl j) (h2:r.bl j):False:=by
 have tm:(∃c t z,W.heap[j]? =some (.cells c t z)∧(t=87∨t=95))∨∃es c,W.heap[j]? =some (.map es c):=by
  rcases h1 with rfl|rfl|q
  ·exact .inl ⟨_,_,_,hm.cell, .inl rfl⟩
  ·obtain ⟨⟨es,c,e,_⟩,_⟩:=hm.map
   exact .inr ⟨es,c,e⟩
  ·obtain ⟨_,c,e⟩:=hm.lo.cells q
   exact .inl ⟨_,_,_,e, .inr rfl⟩
 have tr:∃c t z,W.heap[j]? =some (.cells c t z)∧(t=90∨t=99):=by
  rcases h2 with rfl|q
  ·exact ⟨_,_,_,hr.cell, .inl rfl⟩
  ·obtain ⟨_,c,e⟩:=hr.row.cells q
   exact ⟨_,_,_,e, .inr rfl⟩
 obtain ⟨c,t,z,e,ht⟩:=tr
 rcases tm with ⟨c2,t2,z2,e2,ht2⟩|⟨es,c2,e2⟩
 ·have:=Aag e e2
  subst this
  rcases ht with q|q <;>rcases ht2 with q2|q2 <;>rw [q] at q2 <;>revert q2 <;>decide
 ·rw [e] at e2;cases e2
theorem Adp.next {L':List MkV} (h:Adp W F m r) (q:MkT m 0 L' W W') (hr:∀x∈L',x.v.right=true):∃m',m'.mb=m.mb∧m'.L=L'∧Acl W' 0 m'∧F≤m'.ib∧(tgt m'.lv∨∀j,m'.lv.ownBlock=some j→F≤j)∧Acr W' F r∧(∀j,m'.bl j→m.bl j∨W.heap.size≤j)∧∃O:Nat→Prop,(∀j,O j→F≤j∧m.bl j)∧Tch O W W':=by
 obtain ⟨m',a,e1,e2,e3,d,t,g⟩:=q
 have hrk:Acr W' F r:=h.rk.keep (fun j hj=>t.block j (h.rk.lt hj) (fun q=>Amo h.pm h.rk (j:=j) q hj))
 refine ⟨m',e1,e3,a,by rw [e2];exact h.ib, ?_,hrk,fun j hj=> ?_, ?_⟩
 ·rcases h.own with q|q
  ·rcases (g q).2 with z|z
   ·exact .inl z
   ·exact .inr fun j hj=>Nat.le_trans h.le (z j hj)
  ·rcases d with z|z
   ·exact .inr fun j hj=>q j (by rw [←z];exact hj)
   ·exact .inr fun j hj=>Nat.le_trans h.le (z j hj)
 ·rcases hj with q|q|q
  ·exact .inl (.inl (by rw [q,e1]))
  ·exact .inl (.inr (.inl (by rw [q,e2])))
  ·rcases d with z|z
   ·exact .inl (.inr (.inr (by rw [←z];exact q)))
   ·exact .inr (z j q)
 ·rcases h.own with q|q
  ·refine ⟨_,fun j hj=> ?_,(g q).1⟩
   rcases hj with rfl|rfl
   ·exact ⟨h.mb, .inl rfl⟩
   ·exact ⟨h.ib, .inr (.inl rfl)⟩
  ·refine ⟨_,fun j hj=>⟨?_,hj⟩,t⟩
   rcases hj with rfl|rfl|hj
   ·exact h.mb
   ·exact h.ib
   ·exact q j hj
theorem Adp.next2 {L':List MkV} {w w1 w2:World} {m':Mx} (h:Adp w F m r) (eL:m'.L=L') (emb:m'.mb=m.mb) (hm:Acl w1 0 m') (hib:F≤m'.ib) (hown:tgt m'.lv∨∀j,m'.lv.ownBlock=some j→F≤j) (hr:∀x∈L',x.v.right=true) (hrk:Acr w1 F r) (hF:F≤w1.heap.size) (q:RkN r F L' w1 w2):∃r',r'.rb=r.rb∧Adp w2 F m' r'∧Tch (fun j=>F≤j∧r.bl j) w1 w2:=by
 obtain ⟨r',a,e1,e2,d,t⟩:=q
 refine ⟨r',e1,⟨hm.keep (fun j hj=>t.block j (Mx.lt hm hj) (fun q=>Amo hm hrk hj q)),a,by rw [e2,eL],by rw [emb];exact h.mb,hib,hown,by rw [eL];exact hr,Nat.le_trans hF t.size⟩,t.mono (fun j _ q=>⟨hrk.ge q,q⟩)⟩
theorem Akc {L:List MkV} (rt:∀x∈L,x.v.right=true) (x:MkV):∀y∈Apr L x,y.v.right=true:=by
 intro y hy
 unfold Apr at hy
 split at hy
 ·next hc =>
  rcases List.mem_append.1 hy with q|q
  ·exact rt y q
  ·rw [List.mem_singleton.1 q]
   cases hr:x.v.right with
   |true=>rfl
   |false =>
    exfalso
    unfold Ais at hc
    rw [hr] at hc
    revert hc
    (repeat' split) <;>simp_all
 ·exact rt y hy
theorem Adp.add (h:Adp W F m r) (hT:K.V.Tabs W) {x:MkV} (hx:x.ok) (hn:m.L.length+1≤900000000000) :
 Calls prog 12 #[(pZ m.mb 0),x.id.v, .string x.nm,x.v.v,x.fr.v,x.to.v, .int .i64 x.sd] W fun e w1=>e= .returned (.int .i64 (Ais m.L x))∧Tch (fun j=>F≤j∧(m.bl j∨r.bl j)) W w1∧Calls prog 13 #[(pZ r.rb 0),x.id.v, .string x.nm,x.v.v,x.fr.v,x.to.v, .int .i64 x.sd] w1 fun e w2=>e= .returned (.int .i64 (Ais m.L x))∧Tch (fun j=>F≤j∧(m.bl j∨r.bl j)) W w2∧∃m' r',m'.mb=m.mb∧r'.rb=r.rb∧(∀j,m'.bl j→m.bl j∨W.heap.size≤j)∧m'.L=Apr m.L x∧Adp w2 F m' r':=by
 refine (A0i h.pm (Nat.zero_le _) hT hx hn).mono ?_
 rintro e w1 ⟨rfl,q⟩
 obtain ⟨m',e1,e2,hm,hib,hown,hrk,hbl,O,hO,t⟩:=h.next q (Akc h.rt x)
 have t1:Tch (fun j=>F≤j∧(m.bl j∨r.bl j)) W w1:=t.mono (fun j _ o=>⟨(hO j o).1, .inl (hO j o).2⟩)
 have hF:=Nat.le_trans h.le t1.size
 refine ⟨rfl,t1,(Ax0 hrk hF hx (by rw [h.el];exact hn)).mono ?_⟩
 rintro e w2 ⟨rfl,q2⟩
 rw [h.el] at q2
 obtain ⟨r',e3,c,t2⟩:=h.next2 e2 e1 hm hib hown (Akc h.rt x) hrk hF q2
 exact ⟨by rw [h.el],t1.trans (t2.mono (fun j _ q=>⟨q.1, .inr q.2⟩)),m',r',e1,e3,hbl,e2,c⟩
theorem Adp.undo (h:Adp W F m r) {k:IdK} (hk:k.ok) :
 Calls prog 14 #[(pZ m.mb 0),k.v] W fun e w1=>e= .returned (.int .i64 (Aiq m.L k))∧Tch (fun j=>F≤j∧(m.bl j∨r.bl j)) W w1∧Calls prog 15 #[(pZ r.rb 0),k.v] w1 fun e w2=>e= .returned (.int .i64 (Aiq m.L k))∧Tch (fun j=>F≤j∧(m.bl j∨r.bl j)) W w2∧∃m' r',m'.mb=m.mb∧r'.rb=r.rb∧(∀j,m'.bl j→m.bl j∨W.heap.size≤j)∧m'.L=Aiv m.L k∧Adp w2 F m' r':=by
 have nd:(r.L.map (·.id)).Nodup:=by
  have:=h.pm.map.2.1
  rw [h.el]
  rw [idE,List.map_map] at this
  exact this
 have hrt:∀y∈Aiv m.L k,y.v.right=true:=fun y hy=>by
  unfold Aiv at hy
  split at hy
  ·exact h.rt y (List.dropLast_subset _ hy)
  ·exact h.rt y hy
 refine (Ap9 h.pm (Nat.zero_le _) hk).mono ?_
 rintro e w1 ⟨rfl,q⟩
 obtain ⟨m',e1,e2,hm,hib,hown,hrk,hbl,O,hO,t⟩:=h.next q hrt
 have t1:Tch (fun j=>F≤j∧(m.bl j∨r.bl j)) W w1:=t.mono (fun j _ o=>⟨(hO j o).1, .inl (hO j o).2⟩)
 have hF:=Nat.le_trans h.le t1.size
 refine ⟨rfl,t1,(Aqy hrk hF nd hk).mono ?_⟩
 rintro e w2 ⟨rfl,q2⟩
 rw [h.el] at q2
 obtain ⟨r',e3,c,t2⟩:=h.next2 e2 e1 hm hib hown hrt hrk hF q2
 exact ⟨by rw [h.el],t1.trans (t2.mono (fun j _ q=>⟨q.1, .inr q.2⟩)),m',r',e1,e3,hbl,e2,c⟩
theorem Adp.fork (h:Adp W F m r) :
 Calls prog 20 #[(pZ m.mb 0)] W fun e w1=> ∃m',e= .returned (pZ m'.mb 0)∧Below W.heap.size W w1∧Calls prog 21 #[(pZ r.rb 0)] w1 fun e w2=> ∃r',e= .returned (pZ r'.rb 0)∧Below W.heap.size W w2∧m'.L=m.L∧(∀j,m'.bl j→m.bl j∨W.heap.size≤j)∧Adp w2 W.heap.size m' r'∧Ake w2 W.heap.size m r:=by
 refine (Ar6 h.pm).mono ?_
 rintro e w1 ⟨m',rfl,hm,eL,z1,z2,z3,tg,b⟩
 refine ⟨m',rfl,b,(Aq8 (h.rk.below b)).mono ?_⟩
 rintro e w2 ⟨r',rfl,hr,eR,c⟩
 have bc:=b.trans (c.mono b.size)
 have hr0:Acr w2 W.heap.size r':=⟨hr.cell,hr.row.mono b.size,hr.ok,Nat.le_trans b.size hr.b,hr.n⟩
 refine ⟨r',rfl,bc,eL,fun j hj=>hj.elim (fun q=> .inr (by rw [q];exact z1)) (fun q=>q.elim (fun q=> .inr (by rw [q];exact z2)) (fun q=> .inl (.inr (.inr (by rw [←z3];exact q))))),⟨hm.below c,hr0,by rw [eR,h.el,eL],z1,z2, .inl tg,by rw [eL];exact h.rt,bc.size⟩,⟨h.pm.below bc, ?_,h.el,fun j hj=>Mx.lt h.pm hj,fun j hj=>h.rk.lt hj,h.rt⟩⟩
 have:=h.rk.below bc
 exact ⟨this.cell,this.row.mono (Nat.zero_le _),this.ok,Nat.zero_le _,this.n⟩
end
section
variable {W:World} {F0 base b2 d:Nat} {s:Sx} {E R:List Elt} {m:Mx} {r:Rx} {v:Value} {j:Nat}
theorem Akz (hm:Acl W base m) (h:m.bl j):(∃c t z,W.heap[j]? =some (.cells c t z)∧(t=87∨t=95))∨∃es c,W.heap[j]? =some (.map es c):=by
 rcases h with rfl|rfl|q
 ·exact .inl ⟨_,_,_,hm.cell, .inl rfl⟩
 ·obtain ⟨⟨es,c,e,_⟩,_⟩:=hm.map
  exact .inr ⟨es,c,e⟩
 ·obtain ⟨_,c,e⟩:=hm.lo.cells q
  exact .inl ⟨_,_,_,e, .inr rfl⟩
theorem Aku (hr:Acr W b2 r) (h:r.bl j):∃c t z,W.heap[j]? =some (.cells c t z)∧(t=90∨t=99):=by
 rcases h with rfl|q
 ·exact ⟨_,_,_,hr.cell, .inl rfl⟩
 ·obtain ⟨_,c,e⟩:=hr.row.cells q
  exact ⟨_,_,_,e, .inr rfl⟩
theorem Al1 (hs:Aak W s E) (h0:s.sb<F0) (h1:s.mb<F0) (hm:Acl W base m) (bm:∀j,m.bl j→F0≤j) (a:j∈s.bl) (b:m.bl j):False:=by
 have hj:=bm j b
 simp only [Sx.bl,List.mem_cons,List.not_mem_nil,or_false] at a
 rcases a with rfl|rfl|rfl
 ·omega
 ·omega
 ·obtain ⟨cur,hg,_⟩:=hs.row.blk
  rcases Akz hm b with ⟨c,t,z,e,ht⟩|⟨es,c,e⟩
  ·have:=Aag hg e
   subst this
   revert ht;decide
  ·rw [hg] at e;cases e
theorem Alx (hs:Aak W s E) (h0:s.sb<F0) (h1:s.mb<F0) (hr:Acr W b2 r) (br:∀j,r.bl j→F0≤j) (a:j∈s.bl) (b:r.bl j):False:=by
 have hj:=br j b
 simp only [Sx.bl,List.mem_cons,List.not_mem_nil,or_false] at a
 rcases a with rfl|rfl|rfl
 ·omega
 ·omega
 ·obtain ⟨cur,hg,_⟩:=hs.row.blk
  obtain ⟨c,t,z,e,ht⟩:=Aku hr b
  have:=Aag hg e
  subst this
  revert ht;decide
def rbl (d:Nat) (v:Value) (j:Nat):Prop:=j=d∨v.ownBlock=some j
theorem Age (h:Abj W base d v R) (hj:rbl d v j):∃c t z,W.heap[j]? =some (.cells c t z)∧(t=83∨t=105):=by
 rcases hj with rfl|q
 ·exact ⟨_,_,_,h.c0, .inl rfl⟩
 ·obtain ⟨_,c,e⟩:=h.own.cells q
  exact ⟨_,_,_,e, .inr rfl⟩
theorem Alt (h:Abj W base d v R) (hm:Acl W b2 m) (a:rbl d v j) (b:m.bl j):False:=by
 obtain ⟨c,t,z,e,ht⟩:=Age h a
 rcases Akz hm b with ⟨c2,t2,z2,e2,ht2⟩|⟨es,c2,e2⟩
 ·have:=Aag e e2
  subst this
  rcases ht with q|q <;>rcases ht2 with q2|q2 <;>rw [q] at q2 <;>revert q2 <;>decide
 ·rw [e] at e2;cases e2
theorem Als (h:Abj W base d v R) (hr:Acr W b2 r) (a:rbl d v j) (b:r.bl j):False:=by
 obtain ⟨c,t,z,e,ht⟩:=Age h a
 obtain ⟨c2,t2,z2,e2,ht2⟩:=Aku hr b
 have:=Aag e e2
 subst this
 rcases ht with q|q <;>rcases ht2 with q2|q2 <;>rw [q] at q2 <;>revert q2 <;>decide
theorem Ahq (hs:Aak W s E) (h:Abj W base d v R) (h0:s.sb<F0) (h1:s.mb<F0) (bo:∀j,v.ownBlock=some j→F0≤j) (a:j∈s.bl) (b:rbl d v j):False:=by
 simp only [Sx.bl,List.mem_cons,List.not_mem_nil,or_false] at a
 rcases a with rfl|rfl|rfl
 ·rcases b with q|q
  ·have c:=hs.c0
   rw [q,cell_of_row W d 0 _ _ _ h.c0] at c
   obtain ⟨va,vc,e,_⟩:=h.own.open Adr h.wf
   simp [e] at c
  ·have:=bo _ q;omega
 ·obtain ⟨⟨es,c,e,_⟩,_⟩:=hs.map
  obtain ⟨c2,t2,z2,e2,_⟩:=Age h b
  rw [e] at e2;cases e2
 ·obtain ⟨cur,hg,_⟩:=hs.row.blk
  obtain ⟨c2,t2,z2,e2,ht⟩:=Age h b
  have:=Aag hg e2
  subst this
  revert ht;decide
end
theorem Ax9 {w:World} {base g n cap r e sz:Nat} {F:List Value} (h:w.ownsRow base e sz (.slice (some ⟨g,0,none⟩) n cap) n F) (x:Value) (hr:r<F.length):(w.setCell ⟨g,r,none⟩ x).ownsRow base e sz (.slice (some ⟨g,0,none⟩) n cap) n (F.set r x):=by
 refine ⟨by rw [List.length_set];exact h.1, ?_⟩
 rcases h.2 with ⟨e1,_⟩|⟨g2,cap2,cur,e1,hb,hg,hnc,hcm,hcs,ht⟩
 ·cases e1
 ·cases e1
  refine .inr ⟨g,cap,cur.setIfInBounds r x,rfl,hb,Go.heap_setCell_same _ _ r _ _ _ hg,hnc,hcm,by rw [Array.size_setIfInBounds];exact hcs, ?_⟩
  rw [Array.toList_setIfInBounds,List.take_set,ht]
theorem Aae.flat_set {κ:Type} {R:Aae κ} (I:R.Is) {L:List κ} (ok:∀x∈L,R.ok x) {i:Nat} (hi:i<L.length) {j:Nat} (hj:j<R.k) {x:κ} {u:Value} (hx:R.c x=(R.c L[i]).set j u):(R.flat L).set (R.k*i+j) u=R.flat (L.set i x):=by
 have e:L=L.take i++L[i]::L.drop (i+1):=by rw [List.getElem_cons_drop];exact (List.take_append_drop i L).symm
 have hl:(L.take i).length=i:=by rw [List.length_take];omega
 have oky:=ok L[i] (List.getElem_mem hi)
 have okA:∀x∈L.take i,R.ok x:=fun x hx=>ok x (List.mem_of_mem_take hx)
 generalize L[i]=y at *
 have e2:L.set i x=L.take i++x::L.drop (i+1):=by
  conv=>lhs;rw [e]
  rw [List.set_append_right _ _ (by omega),hl];simp
 have lA:=Aae.flat_len I okA
 rw [hl] at lA
 have ly:=I.len y oky
 rw [e2]
 conv=>lhs;rw [e]
 rw [Aae.flat_app,Aae.flat_app,Aae.flat_cons,Aae.flat_cons,hx,List.set_append_right _ _ (by omega),lA,show R.k*i+j-R.k*i=j by omega,List.set_append_left _ _ (by omega)]
theorem Aae.own_setCell {κ:Type} {R:Aae κ} (I:R.Is) {w:World} {base:Nat} {g cap n:Nat} {L:List κ} (own:R.Own w base (.slice (some ⟨g,0,none⟩) n cap) L) (hn:n=L.length) (ok:∀x∈L,R.ok x) {i:Nat} (hi:i<L.length) {j:Nat} (hj:j<R.k) {x:κ} {u:Value} (hx:R.c x=(R.c L[i]).set j u):R.Own (w.setCell ⟨g,R.k*i+j,none⟩ u) base (.slice (some ⟨g,0,none⟩) n cap) (L.set i x):=by
 subst hn
 unfold Aae.Own
 rw [List.length_set, ←Aae.flat_set I ok hi hj hx]
 refine Ax9 own u ?_
 rw [Aae.flat_len I ok]
 have:=Nat.mul_le_mul_left R.k (show i+1≤L.length from hi)
 rw [Nat.mul_succ] at this
 omega
structure Av8 (w:World) (base d:Nat) (v:Value) (R':List Elt) (v':Value) (w':World):Prop where
 at':Abj w' base d v' R'
 tch:Tch (fun j=>j=d∨v.ownBlock=some j) w w'
 own:∀k,v'.ownBlock=some k→v.ownBlock=some k∨w.heap.size≤k
theorem Av8.same {w w':World} {base d:Nat} {v:Value} {R:List Elt} (h:Abj w base d v R) (b:Below w.heap.size w w'):Av8 w base d v R v w':=⟨h.below b,Aan b _,fun k hk=> .inl hk⟩
theorem Elt.setSh (e:Elt) (s:Bool) (h:e.wf):Elt.c {e with sh:=s}=(Elt.c e).set 66 (.bool s):=by
 have l1:=IdK.len h.1
 have l2:=IdK.len h.2
 unfold Elt.c
 simp only
 rw [List.set_append_right _ _ (by omega),l1,List.set_append_right _ _ (by omega),l2]
 rfl
section
variable {w:World} {base d:Nat} {v:Value} {R:List Elt}
theorem Asf (h:Abj w base d v R) {k b:IdK} (hk:k.ok) (hb:b.ok) (hl:R.length+1≤1400000000000) (hbase:base≤w.heap.size):Calls prog 17 #[(pZ d 0),k.v,b.v] w fun e w'=>e= .returned (.int .i64 (Afe R k b:Int))∧∃v',Av8 w base d v (Asi R k b) v' w':=by
 obtain ⟨hx,hy,bx,zx⟩:=Aiw w k b
 have HFK:Hid (∀W,Abj W base d v R→Calls prog 50 #[(pZ d 0),k.v] W fun e w'=>e= .returned (.int .i64 (Aac R false k))∧Below W.heap.size W w'):=fun W hW=>Ak7 hW hk
 have HFB:Hid (∀W,Abj W base d v R→Calls prog 50 #[(pZ d 0),b.v] W fun e w'=>e= .returned (.int .i64 (Aac R false b))∧Below W.heap.size W w'):=fun W hW=>Ak7 hW hb
 have gK:decide (Aac R false k≥0)=Abg R k:=by
  cases q:Abg R k with
  |true=>exact decide_eq_true (Al9 q)
  |false=>exact decide_eq_false (by rw [Adk q];omega)
 have gB:decide (Aac R false b<0)= !Abg R b:=by
  cases q:Abg R b with
  |true=>exact decide_eq_false (by have:=Al9 (c:=false) q;omega)
  |false=>exact decide_eq_true (by rw [Adk q];omega)
 have HC:Hid (Afe R k b=if k.n<1 then 2 else if Abg R k=true then 5 else if b≠zId∧Abg R b=false then 4 else 0):=rfl
 have HD:Hid (Asi R k b=if Afe R k b=0 then R++[⟨k,b,true⟩] else R):=rfl
 have HOK:=Aaa (h.ok.ins hk hb)
 generalize Asi R k b=R' at *
 generalize Afe R k b=cc at *
 show Calls prog 17 #[(pZ d 0), .agg k.c.toArray, .agg b.c.toArray] w _
 go_enter func17,ntmps17
 go_upto_region 3 with fail
 generalize (w.alloc (.cells k.c.toArray 36)).alloc (.cells b.c.toArray 36)=wx at *
 have hR1:=h.below bx
 have HZX:=Aaa zx
 clear zx
 by_cases hn:k.n<1
 ·have e1:cc=2:=by rw [HC.out,if_pos hn]
  have e2:R'=R:=by rw [HD.out,if_neg (by rw [e1];decide)]
  refine En.zqc tab rfl (En.st ((Awc hk hx)) (En.cm (c':=true) ((decide_eq_true hn)) (En.fi ?_)))
  intro a' w1 hw ha
  subst ha
  obtain rfl:w1=wx:=hw
  simp only [En.pM,En.pU,Act.put,qsA,qsB,qsC]
  have E12:=Aaa (And.intro e1 e2)
  clear e1 e2 HC HD HFK HFB gK gB hn
  go_wp2
  go_ret
  exact ⟨by rw [E12.out.1];rfl,v,by rw [E12.out.2];exact Av8.same h bx⟩
 ·refine En.zqc tab rfl (En.st ((Awc hk hx)) (En.cm (c':=false) ((decide_eq_false hn)) (En.fi ?_)))
  intro a' w1 hw ha
  subst ha
  obtain rfl:w1=wx:=hw
  simp only [En.pM,En.pU,Act.put,qsA,qsB,qsC]
  go_upto_region 5 with fail
  refine En.zqc tab rfl (En.st ((Aah hk hx)) (En.ca ((HFK.out _ hR1)) ?_))
  rintro _ w2_ ⟨rfl,HF⟩
  refine ⟨_,rfl,En.cm (c':=(Abg R k)) (gK) (En.fi ?_)⟩
  intro a' w2 hw0 ha
  have hw:=HF
  obtain rfl:w2=w2_:=hw0
  subst ha
  simp only [En.pM,En.pU,Act.put,qsA,qsB,qsC]
  have hR2:=hR1.below hw
  have hx2:=hx.below hw
  have hy2:=hy.below hw
  have b2:=bx.trans (hw.mono bx.size)
  have HN:=Aaa hn
  clear HFK gK hw hn
  cases hq:Abg R k with
  |true =>
   have e1:cc=5:=by rw [HC.out,if_neg HN.out,if_pos hq]
   have e2:R'=R:=by rw [HD.out,if_neg (by rw [e1];decide)]
   have E12:=Aaa (And.intro e1 e2)
   clear e1 e2 HC HD HFB gB hq
   go_wp2
   go_ret
   exact ⟨by rw [E12.out.1];rfl,v,by rw [E12.out.2];exact Av8.same h b2⟩
  |false =>
   have HQ:=Aaa hq
   clear hq
   have PUT:Hid (cc=0→∀w3,Abj w3 base d v R→Aaz w3 w.heap.size k→Aaz w3 (w.heap.size+1) b→Below w.heap.size w w3→∃sv w4 va vn vc w5 w6,(Instr.buildSlice 81 1 #[(0, .agg (Elt.c ⟨k,b,true⟩).toArray)]).run prog w3.drew= .ok sv w4∧(Builtin.append_ #[81,81] 81 #[v,sv]).run prog w4= .ok (.slice va vn vc) w5∧(Instr.storeAt 81 (pZ d (0+0)) (.slice va vn vc)).run prog w5= .ok () w6 ∧
    (w4.heap[d]? =some (.cells #[v] 83 (0,0))∧Aaz w4 w.heap.size k∧Aaz w4 (w.heap.size+1) b)∧(w5.heap[d]? =some (.cells #[v] 83 (0,0))∧Aaz w5 w.heap.size k∧Aaz w5 (w.heap.size+1) b)∧Av8 w base d v R' (.slice va vn vc) w6):=fun hc w3 hR3 hk3 hb3 b3=>by
        have hR4:=hR3.below ((Below.refl w3.heap.size w3).drew)
        obtain ⟨sv,w4,v2,w5,e1,e2,o,b1,z1,g,q⟩:=Aae.run_push Adr w3.drew base v R ⟨k,b,true⟩ hR4.own ⟨hk,hb⟩ (by unfold maxLen;omega) (by show _*88≤_;omega) (Nat.le_trans hbase b3.size)
        have hR':R'=R++[⟨k,b,true⟩]:=by rw [HD.out,if_pos hc]
        have okR:∀e∈R++[(⟨k,b,true⟩:Elt)],RE.ok e:=fun e he=>by
         rcases List.mem_append.1 he with q|q
         ·exact h.wf e q
         ·rw [List.mem_singleton.1 q];exact ⟨hk,hb⟩
        obtain ⟨va,vc,rfl,_⟩:=o.open Adr okR
        have hd4:w4.heap[d]? =some (.cells #[v] 83 (0,0)):=(b1.block d hR4.lt).trans hR4.c0
        have hlt4:d<w4.heap.size:=(Array.getElem?_eq_some_iff.1 hd4).1
        have hd5:w5.heap[d]? =some (.cells #[v] 83 (0,0)):=(g.block d hlt4 (fun e=>h.ne e.symm)).trans hd4
        have hb1:∀j (kk:IdK),w.heap.size≤j→Aaz w3 j kk→Aaz w4 j kk∧Aaz w5 j kk:=fun j kk hj hi=>by
         have i4:Aaz w4 j kk:=(b1.block j hi.lt).trans hi
         refine ⟨i4,(g.block j i4.lt (fun e=> ?_)).trans i4⟩
         have:=h.own.lt e.symm
         omega
        obtain ⟨s1,s2⟩:=A4l (a:=va) (n:=(R++[(⟨k,b,true⟩:Elt)]).length) (c:=vc) hd5
        have tg:Tch (fun j=>j=d∨v.ownBlock=some j) w w5:=by
         refine ((Aan b3 _).drew).trans' (Tch.mono (O:=fun j=>v.ownBlock=some j) ?_ (fun j _ e=> .inr e)) (fun j _ e=>e)
         have t1:Tch (fun j=>v.ownBlock=some j) w3.drew w4:=Aan b1 _
         exact t1.trans ⟨g.os,g.tape,g.output,g.size,fun j hj hn=>g.block j hj (fun e=>hn e.symm)⟩
        have hown6:RE.Own (w5.setCell ⟨d,0,none⟩ (.slice va (R++[(⟨k,b,true⟩:Elt)]).length vc)) base (.slice va (R++[(⟨k,b,true⟩:Elt)]).length vc) (R++[⟨k,b,true⟩]):=by
         refine o.keep (fun j hj=> ?_)
         refine Below.heap_setCell _ _ _ _ (fun e=> ?_)
         obtain ⟨_,c,q2⟩:=o.cells hj
         rw [show j=d from e] at q2
         rw [hd5] at q2
         simp [RE] at q2
        refine ⟨sv,w4,va,_,vc,w5,_,e1,e2,s1,⟨hd4,(hb1 _ _ (Nat.le_refl _) hk3).1,(hb1 _ _ (by omega) hb3).1⟩,⟨hd5,(hb1 _ _ (Nat.le_refl _) hk3).2,(hb1 _ _ (by omega) hb3).2⟩,⟨s2,by rw [hR'];exact hown6,HOK.out,h.hd,by rw [hR',List.length_append];exact hl⟩,tg.trans' (Ahs w5 d 0 _) (fun j _ e=> .inl e),fun j hj=> ?_⟩
        rcases q with e|e
        ·exact .inl (e▸hj)
        ·rw [e] at hj
         simp only [Option.some.injEq] at hj
         have:=b1.size
         have:=b3.size
         exact .inr (by have hd:w3.drew.heap.size=w3.heap.size:=rfl;omega)
   obtain ⟨a0,c0,hv0,_⟩:=h.open
   have HV0:=Aaa hv0
   clear hv0
   by_cases hz:b=zId
   ·have e1:cc=0:=by rw [HC.out,if_neg HN.out,if_neg (by rw [HQ.out];decide),if_neg (fun q=>q.1 hz)]
    obtain ⟨sv,w4,va,vn,vc,w5,w6,p1,p2,p3,p4,p5,p6⟩:=PUT.out e1 w2 hR2 hx2 hy2 b2
    rw [HV0.out] at p2 p4 p5
    have hc2:=hR2.c0
    rw [HV0.out] at hc2
    have E1:=Aaa e1
    have HP:=Aaa p6
    clear PUT HC HD HFB gB e1 p6
    go_upto_region 7 with fail
    refine A6n (b:=b) _ _ _ rfl rfl rfl hb hz hy2 ?_
    intro a' w3 hw ha
    subst ha
    obtain rfl:w3=w2:=hw
    simp only [Act.put,qsA,qsB,qsC]
    go_upto_region 9 with fail
    refine A6m (k:=k) (b:=b) _ _ _ rfl rfl rfl rfl hk hb ⟨hc2,hx2,hy2⟩ p4 p5 p1 p2 p3 ?_
    intro a' w7 hw ha
    subst ha
    obtain rfl:w7=w6:=hw
    simp only [Act.put,qsA,qsB,qsC]
    clear p1 p2 p3 p4 p5 hz
    go_wp2
    go_ret
    exact ⟨by rw [E1.out];rfl,_,HP.out⟩
   ·cases hqb:Abg R b with
    |false =>
     have e1:cc=4:=by rw [HC.out,if_neg HN.out,if_neg (by rw [HQ.out];decide),if_pos ⟨hz,hqb⟩]
     have e2:R'=R:=by rw [HD.out,if_neg (by rw [e1];decide)]
     have E12:=Aaa (And.intro e1 e2)
     rw [hqb] at gB
     clear e1 e2 HC HD PUT
     go_upto_region 7 with fail
     refine A1j (b:=b) (r:=Aac R false b) (g:=true) (fun w'=>Below w2.heap.size w2 w') _ _ _ rfl rfl rfl hb hz hy2 gB (HFB.out _ hR2) ?_
     intro a' w3 hw ha
     subst ha
     simp only [Act.put,qsA,qsB,qsC]
     have b3:=b2.trans (hw.mono b2.size)
     clear hz hqb HFB gB
     go_wp2
     go_ret
     exact ⟨by rw [E12.out.1];rfl,v,by rw [E12.out.2];exact Av8.same h b3⟩
    |true =>
     have e1:cc=0:=by rw [HC.out,if_neg HN.out,if_neg (by rw [HQ.out];decide),if_neg (fun q=>by rw [hqb] at q;cases q.2)]
     rw [hqb] at gB
     have E1:=Aaa e1
     clear HC HD e1
     go_upto_region 7 with fail
     refine A1j (b:=b) (r:=Aac R false b) (g:=false) (fun w'=>Below w2.heap.size w2 w') _ _ _ rfl rfl rfl hb hz hy2 gB (HFB.out _ hR2) ?_
     intro a' w3 hw ha
     subst ha
     simp only [Act.put,qsA,qsB,qsC]
     have b3:=b2.trans (hw.mono b2.size)
     have hR3:=hR2.below hw
     have hx3:=hx2.below hw
     have hy3:=hy2.below hw
     obtain ⟨sv,w4,va,vn,vc,w5,w6,p1,p2,p3,p4,p5,p6⟩:=PUT.out E1.out w3 hR3 hx3 hy3 b3
     rw [HV0.out] at p2 p4 p5
     have hc2:=hR3.c0
     rw [HV0.out] at hc2
     have HP:=Aaa p6
     clear PUT HFB gB p6 hz hqb
     go_upto_region 9 with fail
     refine A6m (k:=k) (b:=b) _ _ _ rfl rfl rfl rfl hk hb ⟨hc2,hx3,hy3⟩ p4 p5 p1 p2 p3 ?_
     intro a' w7 hw ha
     subst ha
     obtain rfl:w7=w6:=hw
     simp only [Act.put,qsA,qsB,qsC]
     clear p1 p2 p3 p4 p5
     go_wp2
     go_ret
     exact ⟨by rw [E1.out];rfl,_,HP.out⟩
end
section
variable {w:World} {base d:Nat} {v:Value} {R:List Elt}
theorem Axp (h:Abj w base d v R) {k:IdK} (hk:k.ok) (s:Bool):Calls prog 19 #[(pZ d 0),k.v, .bool s] w fun e w'=>e= .returned (.int .i64 (Adt R k:Int))∧∃v',Av8 w base d v (Abb R k s) v' w':=by
 have bx:Below w.heap.size w (w.alloc (.cells k.c.toArray 36)):=(Below.refl _ _).alloc (Nat.le_refl _) _
 have hx:=Acg w k
 have HFK:=Aaa (Ak7 (h.below bx) hk)
 show Calls prog 19 #[(pZ d 0), .agg k.c.toArray, .bool s] w _
 cases hq:Abg R k with
 |false =>
  have e1:Aac R false k= -1:=Adk hq _
  rw [e1] at HFK
  have HE:=Aaa (Ag9 (b:=s) hq)
  have HC:Hid (Adt R k=4):=by show Adt R k=4;unfold Adt;rw [hq];rfl
  clear hq e1
  go_enter func19,ntmps19
  go_upto_region 3 with fail
  generalize w.alloc (.cells k.c.toArray 36)=wx at *
  refine En.zqc tab rfl (En.st ((Aah hk hx)) (En.ca (HFK.out) ?_))
  rintro _ w2_ ⟨rfl,HF⟩
  refine ⟨_,rfl,En.fi ?_⟩
  intro a' w2 hw0 ha
  have hw:=HF
  obtain rfl:w2=w2_:=hw0
  subst ha
  simp only [En.pM,En.pU,Act.put,qsA,qsB,qsC]
  have b2:=bx.trans (hw.mono bx.size)
  clear HFK
  go_wp2
  go_ret
  exact ⟨by rw [HC.out];rfl,v,by rw [HE.out];exact Av8.same h b2⟩
 |true =>
  obtain ⟨e,he,hid⟩:=Aao.1 hq
  obtain ⟨i,hi,rfl⟩:=List.getElem_of_mem he
  have e1:Aac R false k=(i:Int):=by rw [←hid];exact Ama h.ok.seq hi
  rw [e1] at HFK
  have HC:Hid (Adt R k=0):=by show Adt R k=0;unfold Adt;rw [hq];rfl
  have HSE:Hid (R.set i {R[i] with sh:=s}=Abb R k s):=by
   have:=Axb h.ok.nd hi s
   rw [hid] at this
   exact this
  have hneg:¬((i:Int)<0):=by omega
  have HOK:=Aaa (h.ok.show k s)
  have hIX:∃g cap,v= .slice (some ⟨g,0,none⟩) R.length cap:=by
   obtain ⟨g,cap,e,_⟩:=h.own.zero Adr h.wf hi
   exact ⟨g,cap,e⟩
  obtain ⟨g,cap,hv⟩:=hIX
  have HV:=Aaa hv
  clear hv
  clear e1 hq he
  go_enter func19,ntmps19
  go_upto_region 3 with fail
  generalize w.alloc (.cells k.c.toArray 36)=wx at *
  refine En.zqc tab rfl (En.st ((Aah hk hx)) (En.ca (HFK.out) ?_))
  rintro _ w2_ ⟨rfl,HF⟩
  refine ⟨_,rfl,En.fi ?_⟩
  intro a' w2 hw0 ha
  have hw:=HF
  obtain rfl:w2=w2_:=hw0
  subst ha
  simp only [En.pM,En.pU,Act.put,qsA,qsB,qsC]
  have b2:=bx.trans (hw.mono bx.size)
  have hR2:=h.below b2
  have hc2:=hR2.c0
  rw [HV.out] at hc2
  have hx0:=h.wf _ (List.getElem_mem hi)
  have hrow:∃cs,w2.heap[g]? =some (.cells cs 105 (0,0)):=(hR2.own.cells (k:=g) (by rw [HV.out];rfl)).2
  obtain ⟨cs,hrow⟩:=hrow
  have hcell:w2.cell? ⟨g,67*i+66,none⟩=some (.bool R[i].sh):=by
   obtain ⟨g2,cap2,e2,hr2⟩:=hR2.own.zero Adr h.wf hi
   rw [HV.out] at e2
   cases e2
   refine hr2 66 _ ?_
   show (Elt.c R[i])[66]? =_
   have l1:=IdK.len hx0.1
   have l2:=IdK.len hx0.2
   unfold Elt.c
   rw [List.getElem?_append_right (by omega),l1,List.getElem?_append_right (by omega),l2]
   rfl
  have hst:(Instr.storeAt 4 (pZ g (0+67*i+66)) (.bool s)).run prog w2= .ok () (w2.setCell ⟨g,67*i+66,none⟩ (.bool s)):=by
   rw [Nat.zero_add]
   have hf:=frozen_of_row w2 g (67*i+66) _ _ hrow
   go_simp
  have hown:RE.Own (w2.setCell ⟨g,67*i+66,none⟩ (.bool s)) base v (Abb R k s):=by
   have ho:=hR2.own
   rw [HV.out] at ho
   rw [HV.out, ←HSE.out]
   exact Aae.own_setCell Adr ho rfl h.wf hi (j:=66) (by decide) (Elt.setSh _ s hx0)
  have HP:Hid (Av8 w base d v (Abb R k s) v (w2.setCell ⟨g,67*i+66,none⟩ (.bool s))):=by
   refine ⟨⟨?_,hown,HOK.out,h.hd,by rw [Ai2];exact h.len⟩,(Aan b2 _).trans' (Ahs w2 g _ _) (fun j _ e=> .inr (by rw [e,HV.out];rfl)),fun j hj=> .inl hj⟩
   refine ((Ahs w2 g (67*i+66) (.bool s)).block d hR2.lt (fun e=> ?_)).trans hR2.c0
   exact h.ne (by rw [HV.out,e];rfl)
  obtain ⟨n,hn⟩:∃n,R.length=n:=⟨_,rfl⟩
  have hln:=h.len
  rw [hn] at hc2 hi hln
  clear hown hcell hrow HFK hn
  generalize w2.setCell ⟨g,67*i+66,none⟩ (.bool s)=w3 at *
  go_upto_region 6 with fail
  refine En.zqc tab rfl (En.st ((Aez hc2 rfl)) (En.st ((Agp hi (by omega) _)) (En.eu (hst) (En.fi ?_))))
  intro a' w4 hw ha
  subst ha
  obtain rfl:w4=w3:=hw
  simp only [En.pM,En.pU,Act.put,qsA,qsB,qsC]
  clear hst hc2
  go_wp2
  go_ret
  exact ⟨by rw [HC.out];rfl,_,HP.out⟩
end
theorem A2s (w:World):Calls prog 9 #[] w fun e w'=>e= .returned (pZ w.heap.size 0)∧Abj w' w.heap.size w.heap.size (.slice none 0 0) []∧Below w.heap.size w w':=by
 have hb:∀W:World,(Instr.build 83 #[]).run prog W= .ok (.agg #[.slice none 0 0]) W:=fun W=>by kernel_rfl
 have b1:Below w.heap.size w (w.alloc (.cells #[.slice none 0 0] 83)):=(Below.refl _ _).alloc (Nat.le_refl _) _
 have hR:Abj (w.alloc (.cells #[.slice none 0 0] 83)) w.heap.size w.heap.size (.slice none 0 0) []:=⟨heap_alloc_new _ _,Aae.own_nil RE _ _,Ac4.nil,Nat.le_refl _,by simp⟩
 go_enter func9,ntmps9
 go_wp2_with (first
  |(refine A10 rfl (hb _) rfl ?_)
  |fail)
 go_ret
 exact ⟨rfl,hR,b1⟩
section
variable {w:World} {base d:Nat} {v:Value} {R:List Elt}
end
structure SqP (W:World) (n0 F0:Nat) (s:Sx) (d:Nat) (v:Value) (R:List Elt):Prop where
 sq:Aak W s (Ab5 R)
 rf:Abj W 0 d v R
 sb:s.sb<F0
 mb:s.mb<F0
 own:∀j,v.ownBlock=some j→F0≤j
 le:F0≤W.heap.size
 sn:∀j∈s.bl,n0≤j
 dn:n0≤d
 nF:n0≤F0
section
variable {W W':World} {n0 F0 d:Nat} {s:Sx} {v:Value} {R:List Elt}
theorem SqP.below (h:SqP W n0 F0 s d v R) (b:Below W.heap.size W W'):SqP W' n0 F0 s d v R :=
 ⟨h.sq.keep (fun j hj=>b.block j (h.sq.lt j hj)),h.rf.below b,h.sb,h.mb,h.own,Nat.le_trans h.le b.size,h.sn,h.dn,h.nF⟩
theorem SqP.next {s':Sx} {E':List Elt} (h:SqP W n0 F0 s d v R) (q:Nxt s W s' E' W'):Abj W' 0 d v R:=by
 refine h.rf.keep (q.tch.block d h.rf.lt (fun a=> ?_)) (fun j hj=>q.tch.block j ?_ (fun a=> ?_))
 ·exact Ahq h.sq h.rf h.sb h.mb h.own a (.inl rfl)
 ·exact Aae.Own.lt h.rf.own hj
 ·exact Ahq h.sq h.rf h.sb h.mb h.own a (.inr hj)
theorem SqP.next2 {w1 w2:World} {s':Sx} {R':List Elt} {v':Value} (h:SqP W n0 F0 s d v R) (q:Nxt s W s' (Ab5 R') w1) (q2:Av8 w1 0 d v R' v' w2):SqP w2 n0 F0 s' d v' R'∧Tch (fun j=>j∈s.bl∨rbl d v j) W w2:=by
 have rf1:=h.next q
 have b1:s'.sb<F0:=by rw [q.sb];exact h.sb
 have b2:s'.mb<F0:=by rw [q.mb];exact h.mb
 have hs:Aak w2 s' (Ab5 R'):=q.at'.keep (fun j hj=>q2.tch.block j (q.at'.lt j hj) (fun a=>Ahq q.at' rf1 b1 b2 h.own hj a))
 refine ⟨⟨hs,q2.at',b1,b2,fun j hj=> ?_,Nat.le_trans h.le (Nat.le_trans q.tch.size q2.tch.size),fun j hj=> ?_,h.dn,h.nF⟩,(q.tch.mono (fun j _ e=> .inl e)).trans (q2.tch.mono (fun j _ e=> .inr e))⟩
 ·rcases q2.own j hj with z|z
  ·exact h.own j z
  ·exact Nat.le_trans h.le (Nat.le_trans q.tch.size z)
 simp only [Sx.bl,List.mem_cons,List.not_mem_nil,or_false] at hj
 rcases hj with rfl|rfl|rfl
 ·rw [q.sb];exact h.sn _ (by simp [Sx.bl])
 ·rw [q.mb];exact h.sn _ (by simp [Sx.bl])
 ·rcases q.own with z|z
  ·rw [z];exact h.sn _ (by simp [Sx.bl])
  ·exact Nat.le_trans (Nat.le_trans h.nF h.le) z
theorem SqP.insert (h:SqP W n0 F0 s d v R) {k b:IdK} (hk:k.ok) (hb:b.ok) (hl:R.length+2≤1400000000000) :
 Calls prog 16 #[(pZ s.sb 0),k.v,b.v] W fun e w1=>e= .returned (.int .i64 (Afe R k b:Int))∧Tch (fun j=>j∈s.bl∨rbl d v j) W w1∧Calls prog 17 #[(pZ d 0),k.v,b.v] w1 fun e w2=>e= .returned (.int .i64 (Afe R k b:Int))∧∃s' v',s'.sb=s.sb∧SqP w2 n0 F0 s' d v' (Asi R k b)∧Tch (fun j=>j∈s.bl∨rbl d v j) W w2:=by
 refine (Apd h.sq hk hb (by rw [Adw];exact hl)).mono ?_
 rintro e w1 ⟨rfl,s',q⟩
 rw [Amz]
 rw [←Ayx] at q
 refine ⟨rfl,q.tch.mono (fun j _ e=> .inl e),(Asf (h.next q) hk hb (by omega) (Nat.zero_le _)).mono ?_⟩
 rintro e w2 ⟨rfl,v',q2⟩
 obtain ⟨a,t⟩:=h.next2 q q2
 exact ⟨rfl,s',v',q.sb,a,t⟩
theorem SqP.leaves {m:Mx} {r:Rx} {base b2:Nat} (h:SqP W n0 F0 s d v R) (t:Tch (fun j=>j∈s.bl∨rbl d v j) W W') (hm:Acl W base m) (hr:Acr W b2 r) (bm:∀j,m.bl j→F0≤j) (br:∀j,r.bl j→F0≤j):Acl W' base m∧Acr W' b2 r :=
 ⟨hm.keep (fun j hj=>t.block j (Mx.lt hm hj) (fun a=>a.elim (fun q=>Al1 h.sq h.sb h.mb hm bm q hj) (fun q=>Alt h.rf hm q hj))),hr.keep (fun j hj=>t.block j (hr.lt hj) (fun a=>a.elim (fun q=>Alx h.sq h.sb h.mb hr br q hj) (fun q=>Als h.rf hr q hj)))⟩
theorem SqP.left {O:Nat→Prop} (h:SqP W n0 F0 s d v R) (t:Tch O W W') (h1:∀j,O j→j∈s.bl→False) (h2:∀j,O j→rbl d v j→False):SqP W' n0 F0 s d v R :=
 ⟨h.sq.keep (fun j hj=>t.block j (h.sq.lt j hj) (fun o=>h1 j o hj)),h.rf.keep (t.block d h.rf.lt (fun o=>h2 d o (.inl rfl))) (fun j hj=>t.block j (Aae.Own.lt h.rf.own hj) (fun o=>h2 j o (.inr hj))),h.sb,h.mb,h.own,Nat.le_trans h.le t.size,h.sn,h.dn,h.nF⟩
end
section
variable {w:World} {rb ro g cap i:Nat} {L:List Sp}
theorem Aq5 (h:Aax w rb ro g cap L) {t:T} (hg:Ad9 L t) (hi:i∈t.ids) (b:Bool):Calls prog 51 #[(pZ rb ro), .int .i64 (i:Int), .bool b] w fun e w'=>e= .returned (.tuple #[])∧∃L' t',Ad9 L' t'∧t'.ids=t.ids∧Kept (setSh L i b) L'∧Did w rb ro g cap L' w':=by
 have hil:=(hg.lt hi).2
 obtain ⟨w2,e2,a2,t2,z2⟩:=h.num (k:=0) (t:=4) (v:= .bool b) hil (fun s=>{s with sh:=b}) rfl rfl (by decide) (by kernel_rfl) rfl rfl
 have d2:Did w rb ro g cap (setSh L i b) w2:=⟨a2,t2,z2⟩
 clear a2 t2 z2
 obtain ⟨c,l,r,et,z,hcc,hc⟩:=hg.focus hi
 have nd:=z.nd
 simp only [T.ids,List.nodup_append,List.nodup_cons,List.mem_append,List.mem_cons] at nd
 have hsame:∀j,j≠i→(gt (setSh L i b) j).sh=(gt L j).sh∧∀w,ct (gt (setSh L i b) j) w=ct (gt L j) w:=fun j hj=>⟨by rw [(Acm L i b j).2.2.2,if_neg (fun q=>hj q.1.symm)],(Acm L i b j).2.2.1⟩
 have m:Mid (setSh L i b) c (.nd i l r):=by
  refine ⟨Apv z i b,hcc.same (fun j hj=>hsame j (fun e=>nd.2.2 i (.inr (.inl rfl)) j hj e.symm)),i,l,r,rfl,hc.2.1.same (fun j hj=>hsame j (nd.1.2.2 j hj i (.inl rfl))),hc.2.2.same (fun j hj=>hsame j (fun e=>nd.1.2.1.1 (e▸hj)))⟩
 have HM:=Aaa (Amr d2.at' (Awf.of_mid m))
 have HI:=Aaa (show (plug c (.nd i l r)).ids=t.ids by rw [et])
 clear m hsame nd z hcc hc et
 go_enter func51,ntmps51
 go_upto_region 0 with fail
 refine En.zqc tab rfl (En.st ((Ado h)) (En.st ((Ad8 hil h.len _)) (En.eu (e2) (En.fi ?_))))
 intro a' w1 hw ha
 subst ha
 obtain rfl:w1=w2:=hw
 simp only [En.pM,En.pU,Act.put,qsA,qsB,qsC]
 go_wp2_with (first
  |(go_at_call 74;refine HM.out.mono ?_;rintro e w3 ⟨rfl,L3,t3,z3,c3,i3,k3,d3⟩;clear HM)
  |fail)
 go_end0
 rw [HI.out] at i3
 exact ⟨rfl,L3,t3,⟨z3,c3,fun j h0 hj=>by rw [i3];exact hg.all j h0 (by have:=k3.len;rw [this] at hj;unfold setSh at hj;rwa [md_len] at hj)⟩,i3,k3,d2.trans d3⟩
end
attribute [local go_sem] Oper.semAt_some
theorem A0x (b:Nat) (x y:Operand) (w:World):(do eqGuard .eql 23 x y (pZ b 0) (.pointer none);binOp .eql 23 (pZ b 0) (.pointer none):Sem Value).run prog w= .ok (.bool false) w:=by
 refine bo rfl ?_
 go_simp
section
variable {w:World} {s:Sx} {E:List Elt}
theorem Axd (h:Aak w s E) {k:IdK} (hk:k.ok) (b:Bool):Calls prog 18 #[(pZ s.sb 0),k.v, .bool b] w fun e w'=>e= .returned (.int .i64 (Adt E k:Int))∧∃s',Nxt s w s' (Abb E k b) w':=by
 have bx:Below w.heap.size w (w.alloc (.cells k.c.toArray 36)):=(Below.refl _ _).alloc (Nat.le_refl _) _
 have hx:=Acg w k
 have HS0:=Aaa h
 show Calls prog 18 #[(pZ s.sb 0), .agg k.c.toArray, .bool b] w _
 clear h
 go_enter func18,ntmps18
 go_upto_region 1 with fail
 generalize w.alloc (.cells k.c.toArray 36)=wx at *
 obtain ⟨kb,hkb⟩:∃kb,w.heap.size=kb:=⟨_,rfl⟩
 have hx':Aaz wx kb k:=by rw [←hkb];exact hx
 rw [hkb]
 have HX:=Aaa hx'
 have BX:=Aaa bx
 clear hx hx' bx
 refine En.zq tab rfl (En.st (A0x _ _ _ _) (En.fi ?_))
 simp only [En.pM,En.pU,Act.put,qsA,qsB,qsC]
 go_upto_region 3 with fail
 refine En.zq tab rfl (En.st (Aah hk HX.out) (En.ca (Ah6 (HS0.out.below BX.out) hk) ?_))
 rintro _ w1 ⟨rfl,hw⟩
 refine ⟨_,rfl, ?_⟩
 have h2:=(HS0.out.below BX.out).below hw
 have hx2:=HX.out.below hw
 have b2:=BX.out.trans (hw.mono BX.out.size)
 cases hq:Abg E k with
 |false =>
  refine En.fi ?_
  simp only [En.pM,En.pU,Act.put,qsA,qsB,qsC]
  have HQ:=Aaa hq
  clear hq
  go_wp2
  go_ret
  exact ⟨by unfold Adt;rw [HQ.out];rfl,s,by rw [Ag9 HQ.out];exact Nxt.same HS0.out b2⟩
 |true =>
  refine En.fi ?_
  simp only [En.pM,En.pU,Act.put,qsA,qsB,qsC]
  have HQ:=Aaa hq
  have HS:=Aaa (Aq5 h2.drew.row HS0.out.lk.good (HS0.out.lk.spot hq).1 b)
  have HL:=Aaa (fun (L':List Sp) (t':T) (a1:Ad9 L' t') (a2:t'.ids=s.t.ids) (a3:Kept (setSh s.L (Aaq s k) b) L')=>HS0.out.lk.show (b:=b) hq a1 a2 a3)
  have HH2:=Aaa h2
  have HX2:=Aaa hx2
  have B2:=Aaa b2
  clear h2 hx2 b2 hw
  go_upto_region 5 with fail
  have S2:=HH2.out.drew
  have LM:(Instr.loadAt 72 (pZ s.sb (0+0))).run prog w1.drew= .ok (.map (some s.mb)) w1.drew:=by
   have:=S2.c0
   go_simp
  refine En.zy tab [0,1,2,3,4,5,6,7,8,9,10] 10 (fun W=>W=w1.drew) (hS:=rfl) (h:=En.se LM (En.se (Aah hk (HX2.out.below ((Below.refl _ _).drew))) (En.se (Aey S2 k hk) (En.ca HS.out ?_))))
  rintro _ w3 ⟨rfl,L',t',a1,a2,a3,d⟩
  refine ⟨_,rfl,En.fi ?_⟩
  simp only [En.pM,En.pU,Act.put,qsA,qsB,qsC]
  have HR:Hid (∃s',Nxt s w s' (Abb E k b) w3):=by
   refine ⟨_,S2.did d (HL.out L' t' a1 a2 a3),rfl,rfl, .inl rfl, ?_⟩
   refine ((Aan B2.out _).drew).trans' d.tch (fun i _ q=> ?_)
   rw [q];simp [Sx.bl]
  clear LM S2 HS HL a1 a2 a3 d
  go_wp2
  go_ret
  exact ⟨by unfold Adt;rw [HQ.out];rfl,HR.out⟩
end
section
variable {W:World} {n0 F0 d:Nat} {s:Sx} {v:Value} {R:List Elt}
theorem SqP.show (h:SqP W n0 F0 s d v R) {k:IdK} (hk:k.ok) (b:Bool) :
 Calls prog 18 #[(pZ s.sb 0),k.v, .bool b] W fun e w1=>e= .returned (.int .i64 (Adt R k:Int))∧Tch (fun j=>j∈s.bl∨rbl d v j) W w1∧Calls prog 19 #[(pZ d 0),k.v, .bool b] w1 fun e w2=>e= .returned (.int .i64 (Adt R k:Int))∧∃s' v',s'.sb=s.sb∧SqP w2 n0 F0 s' d v' (Abb R k b)∧Tch (fun j=>j∈s.bl∨rbl d v j) W w2:=by
 refine (Axd h.sq hk b).mono ?_
 rintro e w1 ⟨rfl,s',q⟩
 rw [Aql]
 rw [←Axc] at q
 refine ⟨rfl,q.tch.mono (fun j _ e=> .inl e),(Axp (h.next q) hk b).mono ?_⟩
 rintro e w2 ⟨rfl,v',q2⟩
 obtain ⟨a,t⟩:=h.next2 q q2
 exact ⟨rfl,s',v',q.sb,a,t⟩
end
end
end Go.Proofs.YtifendlpeebofaaGreatDoor
