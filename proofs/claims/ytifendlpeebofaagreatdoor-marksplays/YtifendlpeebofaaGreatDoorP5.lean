import Derived.Test.YtifendlpeebofaaGreatDoorP0
import Derived.Test.YtifendlpeebofaaGreatDoorP4
import Derived.Test.YtifendlpeebofaaGreatDoorP2
import Derived.WalkKit
import Derived.WalkSpells
import Derived.WalkLawsBesides
import Derived.Lib.Bytealg
import Derived.Deep.RegionHeld3
import Derived.Deep.Cut
import Derived.Shelf.Sort.Plain
import Derived.Shelf.Slices.CompactI
import Derived.Shelf.Slices.SearchI
import Derived.Shelf.SlGeneric
import Derived.Ground.NamesProg
import Derived.Ground.Names2Prog
import Derived.Test.YtifendlpeebofaaGreatDoorRows
import Derived.Lib.SlicesCompact
import Derived.Sort.OwnSortedInts
import Derived.Lib.OwnBridge
set_option linter.unusedSimpArgs false
set_option linter.unusedVariables false
set_option maxRecDepth 100000
set_option maxHeartbeats 4000000
namespace Go.Proofs.YtifendlpeebofaaGreatDoor
open Go.Proofs.Tryz
section
open Go.RowKit Go.Shelf Sq
attribute [local go_sem] Oper.semAt_some
section
variable {w wl W W':World} {b4 b5 b7 b8 fm:Nat} {sb:Nat} {r:Int} {acc:List MkV}
theorem LC.ldf (h:LC w wl b4 b5 b7 b8 fm (pZ sb 0) r acc W):(Instr.loadAt 136 (pZ b8 0)).run prog W= .ok (.map (some fm)) W:=by
 have hc:W.cell? ⟨b8,0,none⟩=some (.map (some fm)):=(cell_of_row W b8 0 _ _ _ h.m).trans rfl
 go_simp
theorem LC.lds (h:LC w wl b4 b5 b7 b8 fm (pZ sb 0) r acc W):(Instr.loadAt 23 (pZ b4 0)).run prog W= .ok (pZ sb 0) W:=by
 have hc:W.cell? ⟨b4,0,none⟩=some (pZ sb 0):=(cell_of_row W b4 0 _ _ _ h.s).trans rfl
 go_simp
theorem LC.ldr (h:LC w wl b4 b5 b7 b8 fm (pZ sb 0) r acc W):(Instr.loadAt 3 (pZ b5 0)).run prog W= .ok (.int .i64 r) W:=by
 have hc:W.cell? ⟨b5,0,none⟩=some (.int .i64 r):=(cell_of_row W b5 0 _ _ _ h.r).trans rfl
 go_simp
end
def LCs (w wl:World) (b4 b5 b7 b8 fm:Nat) (sp:Value) (r:Int) (bs:Nat) (acc:List MkV) (W:World):Prop:=LC w wl b4 b5 b7 b8 fm sp r acc W∧∃c,W.heap[bs]? =some (.cells c 85 (0,0))
theorem LCs.own {α:Type} (w wl:World) (b4 b5 b7 b8 fm:Nat) (sp:Value) (r:Int) (bs:Nat) (f:List α→List MkV) (hw:w.heap.size≤wl.heap.size) (hfm:fm<wl.heap.size):OwnFrom wl.heap.size (fun pre W=>LCs w wl b4 b5 b7 b8 fm sp r bs (f pre) W):=by
 intro pre W W' row hs hg hr
 obtain ⟨h1,c,h2⟩:=hs
 refine ⟨LC.own w wl b4 b5 b7 b8 fm sp r f hw hfm pre W W' row h1 hg hr,c,(hg.block bs (Array.getElem?_eq_some_iff.1 h2).1 (fun e=> ?_)).trans h2⟩
 obtain ⟨_,o,ho,hc⟩:=hr bs e.symm
 rw [h2] at ho;cases ho;cases hc
set_option maxHeartbeats 8000000 in
theorem Aj3 {w:World} {s:Sx} {E:List Elt} {base:Nat} {m:Mx} (h:Aak w s E) (hm:Acl w base m) (r:Int) :
 Calls prog 56 #[(pZ m.mb 0), (pZ s.sb 0), .int .i64 r] w fun e w'=> ∃v,e= .returned v∧RM.Lo w' w.heap.size v (Agw E m.L r)∧Below w.heap.size w w':=by
 obtain ⟨LK,hLK⟩:=Ak0 (P:=fun x:MkV=>x.ok∧(0≤x.sd∧x.sd≤3)) m.L hm.ok
 obtain ⟨la,lc,elv,hat⟩:=hm.lvS
 have hla:∀j∈adB la,j<w.heap.size:=by
  rcases hm.lo with ⟨e,_⟩|⟨g,cap,cur,e,_,hg,_⟩
  ·rw [elv] at e
   injection e with e1
   rw [e1]
   simp [adB]
  ·rw [elv] at e
   injection e with e1
   rw [e1]
   intro j hj
   simp [adB] at hj
   rw [hj]
   exact (Array.getElem?_eq_some_iff.1 hg).1
 have hlen:m.L.length=LK.length:=by rw [←hLK,List.length_map]
 have hn:LK.length≤900000000000:=by rw [←hlen];exact hm.n
 rw [←hLK] at hat
 rw [hlen] at elv
 obtain ⟨w1,w2,w3,w4,w5,w6,e1,e2,e3,e4,e5,e6,L6,z6⟩:=Aum w s.sb r
 have HE:=Aaa (And.intro e1 (And.intro e2 (And.intro e3 (And.intro e4 (And.intro e5 e6)))))
 have HH:=Aaa (fun (W:World) (b:Below w.heap.size w W)=>h.below b)
 have HM:=Aaa (fun (W:World) (b:Below w.heap.size w W)=>hm.below b)
 have HL6:=Aaa L6
 have HZ6:=Aaa z6
 have HLA:=Aaa hla
 have HN:=Aaa hn
 clear e1 e2 e3 e4 e5 e6 z6 hla
 refine (callsIn_wide (n:=4)).1 ?_
 refine callsIn_of_wp_marks func56 rfl trivial ?_ rfl
 simp only [ntmps56,List.size_toArray,List.length_cons,List.length_nil,Nat.reduceAdd,Nat.reduceSub,Array.replicate_succ,Array.replicate_zero,List.push_toArray,List.append_toArray,List.nil_append,List.cons_append]
 refine wpIn_wide.2 ?_
 go_upto_region 0 with fail
 refine En.zqc tab rfl (En.ef (HE.out.1) (En.ef (HE.out.2.1) (En.fi ?_)))
 intro a' wx hw ha
 obtain rfl:w2=wx:=hw.symm
 subst ha
 simp only [En.pM,En.pU,Act.put,qsA,qsB,qsC]
 go_upto_region 1 with fail
 refine En.zqc tab rfl (En.ef (HE.out.2.2.1) (En.fi ?_))
 intro a' wx hw ha
 obtain rfl:w3=wx:=hw.symm
 subst ha
 simp only [En.pM,En.pU,Act.put,qsA,qsB,qsC]
 go_upto_region 2 with fail
 refine En.zqc tab rfl (En.ef (HE.out.2.2.2.1) (En.ef (HE.out.2.2.2.2.1) (En.eu (HE.out.2.2.2.2.2) (En.fi ?_))))
 intro a' wx hw ha
 obtain rfl:w6=wx:=hw.symm
 subst ha
 simp only [En.pM,En.pU,Act.put,qsA,qsB,qsC]
 clear HE
 go_upto_region 3 with fail
 refine A98 (mb:=m.mb) (lv:=m.lv) (fun v W=>v= .func (.func 101) #[] #[(pZ w6.heap.size 0)]∧W.heap.size=w6.heap.size+1∧W.heap[w6.heap.size]? =some (.cells #[.slice la LK.length lc] 85 (0,0))∧Below w6.heap.size w6 W) _ w6 _ rfl rfl (fun W e=>by rw [e];exact (HM.out w6 L6.bel).ldl) ?_ ?_
 ·rw [elv]
  refine (Aj9 w6 la LK.length lc).mono ?_
  rintro e W ⟨rfl,q⟩
  exact ⟨_,rfl,rfl,q⟩
 rintro v a' w7 ⟨rfl,z7,c7,b7⟩ ha
 subst ha
 simp only [Act.put,qsA,qsB,qsC]
 have b07:Below w.heap.size w w7:=L6.bel.trans (b7.mono L6.bel.size)
 have L7:LC w w7 w.heap.size (w.heap.size+1) (w.heap.size+2) (w.heap.size+4) (w.heap.size+3) (pZ s.sb 0) r [] w7:=by
  have q:=L6.below b7
  exact ⟨q.v,q.m,q.f,q.s,q.r,q.bel,Nat.le_refl _⟩
 have hat7:RM.At w7 la (LK.map (·.1)):=hat.below b07
 have ST:=Aaa (Avo (4-1) w6.heap.size LK hn w7 ((cell_of_row _ _ 0 _ _ _ c7).trans rfl) hat7)
 have LK0:=Aaa hLK
 have HB7:=Aaa b07
 have Z7:=Aaa z7
 have HL7:=Aaa (show LCs w w7 w.heap.size (w.heap.size+1) (w.heap.size+2) (w.heap.size+4) (w.heap.size+3) (pZ s.sb 0) r w6.heap.size [] w7 from ⟨L7,_,c7⟩)
 clear c7 hat7 hat elv HL6 b7 z7 L7 L6 hlen hLK hn b07
 go_wp2
 refine (wpIn_wide (n:=4)).1 ?_
 refine wpIn_rangeFunc_ownH (F:=Fence.wide) rfl (by omega) (gf:=101) (lb:= #[(pZ w6.heap.size 0)]) rfl trivial (enters_of func101 (by kernel_rfl) rfl)
  ST.out (fun h k=>h.trans k) ?kb (Below.refl _ _) (fun _=>rfl)
  (fun pre W=>LCs w w7 w.heap.size (w.heap.size+1) (w.heap.size+2) (w.heap.size+4) (w.heap.size+3) (pZ s.sb 0) r w6.heap.size (Agv E r pre) W)
  (fun _ _ _=>False)
  (LCs.own w w7 w.heap.size (w.heap.size+1) (w.heap.size+2) (w.heap.size+4) (w.heap.size+3) (pZ s.sb 0) r w6.heap.size (Agv E r) HB7.out.size (by have:=HZ6.out;have:=Z7.out;omega))
  (fun _ _ _ _ _ hs _ _=>hs)
  HL7.out (AxM w.heap.size (w.heap.size+1) (w.heap.size+2) (w.heap.size+4)) (AxM.own w.heap.size (w.heap.size+1) (w.heap.size+2) (w.heap.size+4) w7.heap.size) ?assign ?body ?done ?stop
 case kb =>
  refine Kl.put (fun j hj=> ?_)
  have:=Z7.out
  rcases List.mem_cons.1 hj with rfl|hj
  ·omega
  ·have:=HLA.out j hj
   have:=HB7.out.size
   omega
 case assign =>
  intro l pre x W K hI0 hK
  obtain ⟨hI,cbs,hbs⟩:=hI0
  have hz:(#[21,22].zip #[.int .i64 (x.2:Int),x.1.1.a]:Array (Tmp × Value))= #[(21, .int .i64 (x.2:Int)),(22,x.1.1.a)]:=by simp
  rw [hz]
  simp only [List.foldl_toArray',List.foldl_cons,List.foldl_nil,List.setIfInBounds_toArray,List.set_cons_succ,List.set_cons_zero]
  refine A97 (v:=x.1.1.a) (eb:=W.heap.size) _ W _ rfl rfl (Aae.bx_zero Acs W) (Aae.bx_new Acs W x.1.2.1) ?_
  intro a' W' hw ha
  obtain ⟨hbx,hbl⟩:=Aae.bx_is RM W x.1.1
  rw [←hw] at hbx hbl
  refine hK _ _ (Ab9 hbl) (fun j hj=>hbl.block j ?_) ⟨hI.below hbl,cbs,(hbl.block _ (Array.getElem?_eq_some_iff.1 hbs).1).trans hbs⟩ ⟨W.heap.size, ?_, ?_, ?_, ?_, ?_, ?_,hbx⟩
  ·have:=hI.sz
   have:=Z7.out
   rcases List.mem_cons.1 hj with rfl|hj
   ·omega
   ·have:=HLA.out j hj
    have:=HB7.out.size
    omega
  ·subst ha;rfl
  ·subst ha;rfl
  ·subst ha;rfl
  ·subst ha;rfl
  ·subst ha;rfl
  ·subst ha;rfl
 case body =>
  rintro l pre x a' W hl hr' ⟨hI,cbs,hbs⟩ ⟨eb,hz,t4,t5,t7,t8,t10,hE⟩ hpl
  have kls:∀{W':World},Below W.heap.size W W'→Kl (w6.heap.size::adB la) W W':=fun b j hj=>b.block j (by
   have:=hI.sz
   have:=Z7.out
   rcases List.mem_cons.1 hj with rfl|hj
   ·omega
   ·have:=HLA.out j hj
    have:=HB7.out.size
    omega)
  have okA:∀y∈Agv E r pre,y.ok:=fun y hy=>by
   rcases Ae2 hy with hy|hy
   ·cases hy
   ·obtain ⟨q,_,rfl⟩:=List.mem_map.1 hy
    exact q.1.2.1
  have lnA:(Agv E r pre).length≤pre.length:=by
   have:=Aih (E:=E) (r:=r) (pre.map (·.1.1)) []
   simpa [Agv] using this
  have hst:=Aun E r pre x
  obtain ⟨y1,y2,f1,c1,f2,c2⟩:=A0r W
  obtain ⟨q1,hq1⟩:∃q,Asu (Agv E r pre) x.1.1.nm=q:=⟨_,rfl⟩
  refine wpIn_block ?_
  refine wpIn_seq ?_
  refine wpIn_seq ?_
  refine A96 (eb:=eb) (b8:=w.heap.size+4) (fm:=w.heap.size+3) (ub:=W.heap.size) (nm:=x.1.1.nm) (r:=q1) (w1:=y1) (w2:=y2) _ W _ hz t8 t10 hI.ldf (Ah2 x.1.2.1 hE.rng) (by rw [←hq1];exact hI.lookn x.1.2.1.nm) f1 f2 ?_
  intro a2 W2 hw ha
  obtain rfl:y2=W2:=hw.symm
  have z2:a2.tmps.size=53:=by rw [ha];simp only [Aff];exact hz
  have s12:a2.tmps.getD 12 undef= .bool q1:=by rw [ha];simp only [Ac0,Aff,hz, ↓reduceIte,Nat.reduceLT,Nat.reduceEqDiff,reduceCtorEq]
  have s4:a2.tmps.getD 4 undef= (pZ w.heap.size 0):=by rw [ha];simp only [Ac0];exact t4
  have s5:a2.tmps.getD 5 undef= (pZ (w.heap.size+1) 0):=by rw [ha];simp only [Ac0];exact t5
  have s7:a2.tmps.getD 7 undef= (pZ (w.heap.size+2) 0):=by rw [ha];simp only [Ac0];exact t7
  have s8:a2.tmps.getD 8 undef= (pZ (w.heap.size+4) 0):=by rw [ha];simp only [Ac0];exact t8
  have s10:a2.tmps.getD 10 undef= (pZ eb 0):=by rw [ha];simp only [Ac0];exact t10
  clear ha t4 t5 t7 t8 t10 hz
  refine wpIn_seq ?_
  refine A95 (r:=q1) _ y2 _ z2 s12 ?_
  intro a3 W3 hw ha
  obtain rfl:y2=W3:=hw.symm
  have z3:a3.tmps.size=53:=by rw [ha];simp only [Aff];exact z2
  have u30:a3.tmps.getD 30 undef= .bool q1:=by rw [ha];simp only [Ac0,Aff,z2, ↓reduceIte,Nat.reduceLT,Nat.reduceEqDiff,reduceCtorEq]
  have u4:a3.tmps.getD 4 undef= (pZ w.heap.size 0):=by rw [ha];simp only [Ac0];exact s4
  have u5:a3.tmps.getD 5 undef= (pZ (w.heap.size+1) 0):=by rw [ha];simp only [Ac0];exact s5
  have u7:a3.tmps.getD 7 undef= (pZ (w.heap.size+2) 0):=by rw [ha];simp only [Ac0];exact s7
  have u8:a3.tmps.getD 8 undef= (pZ (w.heap.size+4) 0):=by rw [ha];simp only [Ac0];exact s8
  have u10:a3.tmps.getD 10 undef= (pZ eb 0):=by rw [ha];simp only [Ac0];exact s10
  clear ha s4 s5 s7 s8 s10 s12 z2
  refine wpIn_cond (t:=q1) u30 ?_
  cases q1 with
  |true =>
   refine wpIn_exit ?_
   have e:Agv E r (pre++[x])=Agv E r pre:=by rw [hst];unfold Abc;rw [if_pos (show (Agv E r pre).any _=true from hq1)]
   show KeepsFrom _ _ _∧Kl _ _ _∧LCs _ _ _ _ _ _ _ _ _ _ _ _
   rw [e]
   exact ⟨Ab9 c2,kls c2,hI.below c2,cbs,(c2.block _ (Array.getElem?_eq_some_iff.1 hbs).1).trans hbs⟩
  |false =>
   refine wpIn_skip ?_
   have I2:=hI.below c2
   have E2:=hE.below c2
   refine wpIn_seq ?_
   refine A94 (eb:=eb) (b4:=w.heap.size) (sp:= (pZ s.sb 0)) (f:=(Abo E x.1.1).1) (u:=(Abo E x.1.1).2) (fun W'=>Below y2.heap.size y2 W') _ y2 _ z3 u4 u10 (by omega) I2.lds (Ajc (HH.out _ I2.bel) x.1.2.1 x.1.2.2 E2) ?_
   intro a4 W4 bw ha
   have z4:a4.tmps.size=53:=by rw [ha];simp only [Aff];exact z3
   have v13:a4.tmps.getD 13 undef= .int .i64 (Abo E x.1.1).1:=by rw [ha];simp only [Ac0,Aff,z3, ↓reduceIte,Nat.reduceLT,Nat.reduceEqDiff,reduceCtorEq]
   have v14:a4.tmps.getD 14 undef= .int .i64 (Abo E x.1.1).2:=by rw [ha];simp only [Ac0,Aff,z3, ↓reduceIte,Nat.reduceLT,Nat.reduceEqDiff,reduceCtorEq]
   have v5:a4.tmps.getD 5 undef= (pZ (w.heap.size+1) 0):=by rw [ha];simp only [Ac0];exact u5
   have v7:a4.tmps.getD 7 undef= (pZ (w.heap.size+2) 0):=by rw [ha];simp only [Ac0];exact u7
   have v8:a4.tmps.getD 8 undef= (pZ (w.heap.size+4) 0):=by rw [ha];simp only [Ac0];exact u8
   have v10:a4.tmps.getD 10 undef= (pZ eb 0):=by rw [ha];simp only [Ac0];exact u10
   clear ha u4 u5 u7 u8 u10 u30 z3
   have b4:Below W.heap.size W W4:=c2.trans (bw.mono c2.size)
   have I4:=hI.below b4
   have E4:=hE.below b4
   have bs4:=(b4.block _ (Array.getElem?_eq_some_iff.1 hbs).1).trans hbs
   refine wpIn_seq ?_
   by_cases hf:(Abo E x.1.1).1≤r
   ·obtain ⟨zz,hzz⟩:∃z,decide (r<(Abo E x.1.1).2)=z:=⟨_,rfl⟩
    refine A8e (b5:=w.heap.size+1) (f:=(Abo E x.1.1).1) (u:=(Abo E x.1.1).2) (r:=r) (z:=zz) _ W4 _ z4 v5 v13 v14 (decide_eq_true hf) hzz I4.ldr ?_
    intro a5 W5 hw ha
    obtain rfl:W4=W5:=hw.symm
    have z5:a5.tmps.size=53:=by rw [ha];simp only [Aff];exact z4
    have x43:a5.tmps.getD 43 undef= .bool zz:=by rw [ha];simp only [Ac0,Aff,z4, ↓reduceIte,Nat.reduceLT,Nat.reduceEqDiff,reduceCtorEq]
    have x7:a5.tmps.getD 7 undef= (pZ (w.heap.size+2) 0):=by rw [ha];simp only [Ac0];exact v7
    have x8:a5.tmps.getD 8 undef= (pZ (w.heap.size+4) 0):=by rw [ha];simp only [Ac0];exact v8
    have x10:a5.tmps.getD 10 undef= (pZ eb 0):=by rw [ha];simp only [Ac0];exact v10
    clear ha v5 v7 v8 v10 v13 v14 z4
    refine wpIn_cond (t:=zz) x43 ?_
    cases zz with
    |false =>
     refine wpIn_skip ?_
     have e:Agv E r (pre++[x])=Agv E r pre:=by
         rw [hst];unfold Abc
         rw [if_neg (by rw [show (Agv E r pre).any _=false from hq1];decide),if_neg (fun q=>by rw [decide_eq_true q.2] at hzz;cases hzz)]
     show KeepsFrom _ _ _∧Kl _ _ _∧LCs _ _ _ _ _ _ _ _ _ _ _ _
     rw [e]
     exact ⟨Ab9 b4,kls b4,I4,cbs,bs4⟩
    |true =>
     have e:Agv E r (pre++[x])=Agv E r pre++[x.1.1]:=by
         rw [hst];unfold Abc
         rw [if_neg (by rw [show (Agv E r pre).any _=false from hq1];decide),if_pos ⟨hf,of_decide_eq_true hzz⟩]
     obtain ⟨wa,v,sv,wb,v2,wc,wd,g1,ka,g2,g3,g4,g5,I5,kf,bd,kd⟩:=I4.more x.1.2.1 okA (by have:=HN.out;omega) hq1 HB7.out.size ⟨by omega,by have:=HZ6.out;have:=Z7.out;omega⟩ (by omega)
     have Ea:RM.Bx wa eb x.1.1:=(ka _ _ _ _ E4).trans E4
     refine wpIn_seq ?_
     refine A93 (eb:=eb) (b8:=w.heap.size+4) (fm:=w.heap.size+3) (nm:=x.1.1.nm) (w1:=wa) _ W4 _ z5 x8 x10 I4.ldf (Ah2 x.1.2.1 E4.rng) (Aod W4) g1 ?_
     intro a6 W6 hw ha
     obtain rfl:wa=W6:=hw.symm
     have z6:a6.tmps.size=53:=by rw [ha];simp only [Aff];exact z5
     have y7:a6.tmps.getD 7 undef= (pZ (w.heap.size+2) 0):=by rw [ha];simp only [Ac0];exact x7
     have y10:a6.tmps.getD 10 undef= (pZ eb 0):=by rw [ha];simp only [Ac0];exact x10
     clear ha x7 x8 x10 x43 z5
     refine A8g (eb:=eb) (b7:=w.heap.size+2) (x:=x.1.1) (u:=v) (sv:=sv) (u2:=v2) (w1:=wb) (w2:=wc) (w3:=wd) _ wa _ z6 y7 y10 g2 (Aae.ld Acs x.1.2.1 Ea.rng) g3 g4 g5 ?_
     intro a7 W7 hw ha
     obtain rfl:wd=W7:=hw.symm
     show KeepsFrom _ _ _∧Kl _ _ _∧LCs _ _ _ _ _ _ _ _ _ _ _ _
     rw [e]
     have bs5:=kd _ _ _ _ bs4 (by decide) (by have:=HZ6.out;omega)
     refine ⟨(Ab9 b4).trans kf,(kls b4).trans (fun j hj=> ?_),I5,cbs,bs5.trans bs4⟩
     rcases List.mem_cons.1 hj with rfl|hj
     ·exact bs5
     ·exact bd.block j (HLA.out j hj)
   ·refine A8f (b5:=w.heap.size+1) (f:=(Abo E x.1.1).1) (r:=r) _ W4 _ z4 v5 v13 (decide_eq_false hf) I4.ldr ?_
    intro a5 W5 hw ha
    obtain rfl:W4=W5:=hw.symm
    have x43:a5.tmps.getD 43 undef= .bool false:=by rw [ha];simp only [Ac0,Aff,z4, ↓reduceIte,Nat.reduceLT,Nat.reduceEqDiff,reduceCtorEq]
    clear ha v5 v7 v8 v10 v13 v14
    refine wpIn_cond (t:=false) x43 ?_
    refine wpIn_skip ?_
    have e:Agv E r (pre++[x])=Agv E r pre:=by
     rw [hst];unfold Abc
     rw [if_neg (by rw [show (Agv E r pre).any _=false from hq1];decide),if_neg (fun q=>hf q.1)]
    show KeepsFrom _ _ _∧Kl _ _ _∧LCs _ _ _ _ _ _ _ _ _ _ _ _
    rw [e]
    exact ⟨Ab9 b4,kls b4,I4,cbs,bs4⟩
 case done =>
  rintro D ys W hD rfl ⟨hI,_⟩ hK
  obtain ⟨v,v1,v2⟩:=hI.v
  rw [Azo,LK0.out] at v2
  have okc:∀y∈Agw E m.L r,y.ok:=fun y hy=>by
   rcases Ae2 hy with hy|hy
   ·cases hy
   ·exact (hm.ok y (List.mem_reverse.1 hy)).1
  obtain ⟨a0,c0,e0,_⟩:=v2.open Acs okc
  have LV:=Aaa (Ar1 v1 ⟨a0,_,c0,e0⟩)
  have kb:∀k,k≠D→(W.putObj D (.deferred none)).heap[k]? =W.heap[k]? :=fun k hk=>World.putObj_heap_other hk
  have bD:Below w.heap.size W (W.putObj D (.deferred none)):=(Below.refl _ W).grown (grownBy_putObj' W D (.deferred none)) hI.bel.size (fun k e=>by cases e;have:=HB7.out.size;omega)
  have RES:=Aaa (show RM.Lo (W.putObj D (.deferred none)) w.heap.size v (Agw E m.L r) from v2.keep (fun k hk=>kb k (fun e=>by
   obtain ⟨_,cc,e2⟩:=v2.cells hk
   rw [e,hK] at e2
   cases e2)))
  have RB:=Aaa (hI.bel.trans bD)
  clear v1 v2 hI e0
  gi_wp2
  go_upto_region 11 with fail
  refine En.zqc tab rfl (En.st (LV.out) (En.fi ?_))
  intro a' w3 hw ha
  subst ha
  obtain rfl:W=w3:=hw.symm
  simp only [En.pM,En.pU,Act.put,qsA,qsB,qsC]
  go_wp2
  refine ⟨by simp, .inl ⟨_,_,rfl,run_takeDeferred hK, ?_⟩⟩
  exact ⟨_,results_tmp (t:=6) rfl _ _ _,v,rfl,RES.out,RB.out⟩
 case stop =>
  exact fun D c pre W _ _ h _=>h.elim
end
section
open Go.RowKit
def cI (a b:Int):Int:=if a<b then -1 else if b<a then 1 else 0
def cS (a b:ByteArray):Int:=if Op.bytesLess a.toList b.toList=true then -1 else if (a.toList==b.toList)=true then 0 else 1
theorem Ab4:∀l:List UInt8,Op.bytesLess l l=false
 |[]=>rfl
 |a::x=>by
  unfold Op.bytesLess
  simp [Ab4 x]
theorem Aeq (a b:UInt8) (x y:List UInt8):Op.bytesLess (a::x) (b::y)=true↔a.toNat<b.toNat∨(a=b∧Op.bytesLess x y=true):=by
 rw [Op.bytesLess]
 simp [UInt8.lt_iff_toNat_lt]
theorem Ac7:∀{a b:List UInt8},Op.bytesLess a b=true→Op.bytesLess b a=false
 |[],[],h=>by simp [Op.bytesLess] at h
 |[],_::_,_=>rfl
 |_::_,[],h=>by simp [Op.bytesLess] at h
 |a::x,b::y,h=>by
  cases hq:Op.bytesLess (b::y) (a::x) with
  |false=>rfl
  |true =>
   rw [Aeq] at h hq
   rcases h with h|⟨rfl,h⟩
   ·rcases hq with q|⟨rfl,q⟩ <;>omega
   ·rcases hq with q|⟨_,q⟩
    ·omega
    ·rw [Ac7 h] at q;cases q
theorem Ail:∀{a b:List UInt8},Op.bytesLess a b=false→Op.bytesLess b a=false→a=b
 |[],[],_,_=>rfl
 |[],_::_,h,_=>by simp [Op.bytesLess] at h
 |_::_,[],_,h=>by simp [Op.bytesLess] at h
 |a::x,b::y,h1,h2=>by
  have e1:¬(a.toNat<b.toNat∨(a=b∧Op.bytesLess x y=true)):=by rw [←Aeq,h1];simp
  have e2:¬(b.toNat<a.toNat∨(b=a∧Op.bytesLess y x=true)):=by rw [←Aeq,h2];simp
  have e:a=b:=UInt8.toNat_inj.1 (by omega)
  subst e
  have h3:Op.bytesLess x y=false:=by cases hq:Op.bytesLess x y with |false=>rfl|true=>exact absurd (.inr ⟨rfl,hq⟩) e1
  have h4:Op.bytesLess y x=false:=by cases hq:Op.bytesLess y x with |false=>rfl|true=>exact absurd (.inr ⟨rfl,hq⟩) e2
  rw [Ail h3 h4]
theorem Ae9:∀{a b c:List UInt8},Op.bytesLess a b=true→Op.bytesLess b c=true→Op.bytesLess a c=true
 |_,[],_,h,_=>by cases ‹List UInt8› <;>simp [Op.bytesLess] at h
 |_,_::_,[],_,h=>by simp [Op.bytesLess] at h
 |[],_::_,_::_,_,_=>rfl
 |a::x,b::y,c::z,h1,h2=>by
  rw [Aeq] at h1 h2 ⊢
  rcases h1 with h1|⟨rfl,h1⟩
  ·rcases h2 with h2|⟨rfl,h2⟩ <;>exact .inl (by omega)
  ·rcases h2 with h2|⟨rfl,h2⟩
   ·exact .inl h2
   ·exact .inr ⟨rfl,Ae9 h1 h2⟩
structure TO {α:Type} (c:α→α→Int):Prop where
 anti:∀a b,c b a= - c a b
 le:∀a b d,c a b≤0→c b d≤0→c a d≤0
 lt:∀a b d,c a b≤0→c b d≤0→(c a b<0∨c b d<0)→c a d<0
theorem TO.zero {α:Type} {c:α→α→Int} (h:TO c) {a b d:α} (h1:c a b=0) (h2:c b d=0):c a d=0:=by
 have e1:=h.le a b d (by omega) (by omega)
 have e2:=h.le d b a (by rw [h.anti];omega) (by rw [h.anti];omega)
 rw [h.anti] at e2
 omega
def or2 (a b:Int):Int:=if a=0 then b else a
theorem TO.lex {α β:Type} {c:α→α→Int} {d:β→β→Int} (hc:TO c) (hd:TO d):TO (fun (p q:α × β)=>or2 (c p.1 q.1) (d p.2 q.2)):=by
 refine ⟨fun a b=> ?_,fun a b e h1 h2=> ?_,fun a b e h1 h2 h3=> ?_⟩
 ·simp only [or2]
  have:=hc.anti a.1 b.1
  have:=hd.anti a.2 b.2
  split <;>split <;>omega
 ·simp only [or2] at *
  have:=hc.le a.1 b.1 e.1
  have:=hc.lt a.1 b.1 e.1
  have:= @TO.zero _ _ hc a.1 b.1 e.1
  have:=hd.le a.2 b.2 e.2
  split at h1 <;>split at h2 <;>split <;>omega
 ·simp only [or2] at *
  have:=hc.le a.1 b.1 e.1
  have:=hc.lt a.1 b.1 e.1
  have:= @TO.zero _ _ hc a.1 b.1 e.1
  have:=hd.le a.2 b.2 e.2
  have:=hd.lt a.2 b.2 e.2
  split at h1 <;>split at h2 <;>split <;>split at h3 <;>(try split at h3) <;>omega
theorem A17:TO cI:=by
 refine ⟨fun a b=> ?_,fun a b d=> ?_,fun a b d=> ?_⟩ <;>simp only [cI] <;>repeat' split
 all_goals omega
theorem Ae8 (a b:ByteArray):(Op.bytesLess a.toList b.toList=true∧cS a b= -1)∨(a.toList=b.toList∧cS a b=0)∨(Op.bytesLess b.toList a.toList=true∧cS a b=1):=by
 unfold cS
 cases h1:Op.bytesLess a.toList b.toList with
 |true=>exact .inl ⟨rfl,by simp⟩
 |false =>
  cases h2:Op.bytesLess b.toList a.toList with
  |true =>
   have hne:¬a.toList=b.toList:=fun e=>by rw [e,Ab4] at h2;cases h2
   exact .inr (.inr ⟨rfl,by simp [hne]⟩)
  |false =>
   have e:=Ail h1 h2
   exact .inr (.inl ⟨e,by simp [e]⟩)
theorem A4i:TO cS:=by
 refine ⟨fun a b=> ?_,fun a b d h1 h2=> ?_,fun a b d h1 h2 h3=> ?_⟩
 ·rcases Ae8 a b with ⟨p,e⟩|⟨p,e⟩|⟨p,e⟩ <;>rcases Ae8 b a with ⟨q,g⟩|⟨q,g⟩|⟨q,g⟩
  all_goals first
   |(rw [e,g];done)
   |(rw [e,g];rfl)
   |(exfalso;rw [Ac7 p] at q;cases q;done)
   |(exfalso;rw [q,Ab4] at p;cases p;done)
   |(exfalso;rw [p,Ab4] at q;cases q;done)
 ·rcases Ae8 a b with ⟨p,e⟩|⟨p,e⟩|⟨p,e⟩ <;>rcases Ae8 b d with ⟨q,g⟩|⟨q,g⟩|⟨q,g⟩ <;>rcases Ae8 a d with ⟨r,i⟩|⟨r,i⟩|⟨r,i⟩ <;>(try omega)
  ·have:=Ae9 p q;rw [Ac7 this] at r;cases r
  ·rw [q] at p;rw [Ac7 p] at r;cases r
  ·rw [←p] at q;rw [Ac7 q] at r;cases r
  ·rw [p,q,Ab4] at r;cases r
 ·rcases Ae8 a b with ⟨p,e⟩|⟨p,e⟩|⟨p,e⟩ <;>rcases Ae8 b d with ⟨q,g⟩|⟨q,g⟩|⟨q,g⟩ <;>rcases Ae8 a d with ⟨r,i⟩|⟨r,i⟩|⟨r,i⟩ <;>(try omega)
  ·have:=Ae9 p q;rw [r,Ab4] at this;cases this
  ·have:=Ae9 p q;rw [Ac7 this] at r;cases r
  ·rw [q, ←r,Ab4] at p;cases p
  ·rw [q] at p;rw [Ac7 p] at r;cases r
  ·rw [←p,r,Ab4] at q;cases q
  ·rw [←p] at q;rw [Ac7 q] at r;cases r
theorem A8t:∀(x y:List UInt8),Lib.compareBytes x y=if Op.bytesLess x y=true then -1 else if (x==y)=true then 0 else 1
 |[],[]=>by simp [Lib.compareBytes,Op.bytesLess]
 |[],_::_=>by simp [Lib.compareBytes,Op.bytesLess]
 |_::_,[]=>by simp [Lib.compareBytes,Op.bytesLess]
 |a::x,b::y=>by
  unfold Lib.compareBytes
  rw [A8t x y]
  by_cases h1:a<b
  ·have:Op.bytesLess (a::x) (b::y)=true:=(Aeq a b x y).2 (.inl (UInt8.lt_iff_toNat_lt.1 h1))
   rw [if_pos h1,if_pos this]
  ·rw [if_neg h1]
   have h1':¬a.toNat<b.toNat:=fun h=>h1 (UInt8.lt_iff_toNat_lt.2 h)
   by_cases h2:b<a
   ·have h2':b.toNat<a.toNat:=UInt8.lt_iff_toNat_lt.1 h2
    have n1:¬Op.bytesLess (a::x) (b::y)=true:=by
       rw [Aeq]
       rintro (h|⟨rfl,_⟩) <;>omega
    have n2:¬((a::x)==(b::y))=true:=by
       intro h
       have:a=b:=by simpa using (List.cons.inj (by simpa using h:a::x=b::y)).1
       subst this
       omega
    rw [if_pos h2,if_neg n1,if_neg n2]
   ·have e:a=b:=UInt8.toNat_inj.1 (by have:¬b.toNat<a.toNat:=fun h=>h2 (UInt8.lt_iff_toNat_lt.2 h);omega)
    subst e
    rw [if_neg h2]
    have q1:(Op.bytesLess (a::x) (a::y)=true)↔(Op.bytesLess x y=true):=by rw [Aeq];simp
    have q2:(((a::x)==(a::y))=true)↔((x==y)=true):=by simp
    simp only [q1,q2]
theorem A99 (a b:ByteArray):Lib.compareBytes a.data.toList b.data.toList=cS a b:=by
 rw [A8t]
 unfold cS
 simp only [ByteArray.toList_eq]
theorem A9i (k:Int) (w:World):Calls prog 106 #[.int .i64 k] w fun e w'=>e= .returned (.bool false)∧w'=w:=by
 go_enter func106,ntmps106
 go_wp2
 go_ret
 exact ⟨by simp,rfl⟩
theorem A8s (a b:Int) (w:World):Calls prog 85 #[.int .i64 a, .int .i64 b] w fun e w'=>e= .returned (.int .i64 (cI a b))∧w'=w:=by
 have H:Hid (∀k wx,Calls prog 106 #[.int .i64 k] wx fun e w'=>e= .returned (.bool false)∧w'=wx):=fun k wx=>A9i k wx
 unfold cI
 by_cases h1:a<b
 ·rw [if_pos h1]
  go_enter func85,ntmps85
  go_wp2_with (first|(go_at_call 106;refine (H.out _ _).mono ?_;rintro e _ ⟨rfl,rfl⟩)|fail)
  go_ret
  exact ⟨rfl,rfl⟩
 ·rw [if_neg h1]
  by_cases h2:b<a
  ·rw [if_pos h2]
   go_enter func85,ntmps85
   go_wp2_with (first|(go_at_call 106;refine (H.out _ _).mono ?_;rintro e _ ⟨rfl,rfl⟩)|fail)
   go_ret
   exact ⟨rfl,rfl⟩
  ·rw [if_neg h2]
   go_enter func85,ntmps85
   go_wp2_with (first|(go_at_call 106;refine (H.out _ _).mono ?_;rintro e _ ⟨rfl,rfl⟩)|fail)
   go_ret
   exact ⟨rfl,rfl⟩
theorem A6g (a b:ByteArray) (w:World):(callFunc 139 #[.string a, .string b]).run prog w= .ok (.value (.int .i64 (cS a b))) w:=by
 rw [run_callFunc_extern func139 (by kernel_rfl) (by kernel_rfl) (by kernel_rfl) (e:=Extern.BytealgCompare.compare) (by kernel_rfl)]
 rw [Lib.run_compareString,A99]
 rfl
theorem Az3 (a b:ByteArray) (w:World):Calls prog 107 #[.string a, .string b] w fun e w'=>e= .returned (.int .i64 (cS a b))∧w'=w:=by
 have hx:=A6g a b w
 go_enter func107,ntmps107
 go_wp2
 go_ret
 exact ⟨rfl,rfl⟩
theorem Az1 (a b:ByteArray) (w:World):Calls prog 86 #[.string a, .string b] w fun e w'=>e= .returned (.int .i64 (cS a b))∧w'=w:=by
 have H:=Aaa (Az3 a b w)
 go_enter func86,ntmps86
 go_wp2_with fail
 refine H.out.mono ?_
 rintro e w1 ⟨rfl,hw⟩
 subst hw
 go_wp2
 go_ret
 exact ⟨rfl,rfl⟩
def or3 (a b c:Int):Int:=if a=0 then (if b=0 then c else b) else a
def Akh (a b c:Int) (k:Nat):Int:=if k=0 then a else if k=1 then b else c
theorem or_any (g:Nat) (a b c:Int) (w:World) (t:TypeId) (fr:Nat × Nat) (hg:w.heap[g]? =some (.cells #[.int .i64 a, .int .i64 b, .int .i64 c] t fr)) :
 Calls prog 84 #[.slice (some ⟨g,0,none⟩) 3 3] w fun e w'=>e= .returned (.int .i64 (or3 a b c))∧w'=w:=by
 have HC:Hid (∀k,k<3→w.cell? ⟨g,k,none⟩=some (.int .i64 (Akh a b c k))):=fun k hk=>by
  rw [cell_of_row w g k _ _ _ hg]
  rcases (show k=0∨k=1∨k=2 by omega) with rfl|rfl|rfl <;>rfl
 have HO:Hid (∀k,k<3→(∀j,j<k→Akh a b c j=0)→Akh a b c k≠0→or3 a b c=Akh a b c k):=fun k hk h1 h2=>by
  rcases (show k=0∨k=1∨k=2 by omega) with rfl|rfl|rfl
  ·simp only [Akh,if_true] at h2 ⊢;unfold or3;rw [if_neg h2]
  ·have:=h1 0 (by omega)
   simp [Akh] at h2 this
   simp [or3,Akh,this,h2]
  ·have:=h1 0 (by omega)
   have:=h1 1 (by omega)
   simp_all [or3,Akh]
 have HZ:Hid ((∀j,j<3→Akh a b c j=0)→or3 a b c=0):=fun h=>by
  have:=h 0 (by omega)
  have:=h 1 (by omega)
  have:=h 2 (by omega)
  simp_all [or3,Akh]
 generalize or3 a b c=O at *
 clear hg
 go_enter func84,ntmps84
 go_wp2
 go_loopw [8] (fun i wr=> ∃k:Nat,k≤3∧i= .int .i64 k∧wr=w∧Hid (∀j,j<k→Akh a b c j=0)) (fun i _=>3-(intOf i).toNat)
 case atStart=>exact ⟨0,by omega,rfl,rfl,fun j hj=>by omega⟩
 case round =>
  obtain ⟨k,hk,rfl,rfl,hj⟩:=hrel
  by_cases h1:k<3
  ·have h1':(k:Int)<3:=by omega
   have cx:=HC.out k h1
   by_cases h0:Akh a b c k=0
   ·have HN:Hid (∀j,j<k+1→Akh a b c j=0):=fun j hj2=>by
     rcases Nat.lt_or_ge j k with h|h
     ·exact hj.out j h
     ·have:j=k:=by omega
      subst this;exact h0
    generalize Akh a b c k=X at cx h0
    subst h0
    go_wp2
    go_roundw
    case rel=>exact ⟨k+1,by omega,by go_num,by trivial,HN⟩
    case measure=>simp [intOf];omega
   ·have eO:Hid (O=Akh a b c k):=HO.out k h1 hj.out h0
    generalize Akh a b c k=X at *
    go_wp2
    go_ret
    exact ⟨by rw [eO.out];rfl,rfl⟩
  ·have h1':¬(k:Int)<3:=by omega
   obtain rfl:k=3:=by omega
   have eO:Hid (O=0):=HZ.out hj.out
   clear HO HZ hj HC
   go_wp2
   go_ret
   exact ⟨by rw [eO.out];rfl,rfl⟩
theorem Afl (b o:Nat) (w:World):(Instr.fieldAt 65 (pZ b o) 0).run prog w= .ok (pZ b (o+0)) w:=by go_simp
theorem Ad3 (b o:Nat) (w:World):(Instr.fieldAt 65 (pZ b o) 1).run prog w= .ok (pZ b (o+1)) w:=by go_simp
theorem Aib (b o:Nat) (w:World):(Instr.fieldAt 65 (pZ b o) 2).run prog w= .ok (pZ b (o+2)) w:=by go_simp
theorem Afx {P:Program} {w w2:World} {a:Act} {o:Oper} {t n:Nat} {x y z:Operand} {xv yv zv v:Value} (ho:o.op= .buildSlice t n #[(0,x),(1,y),(2,z)]) (hx:a.eval x=xv) (hy:a.eval y=yv) (hz:a.eval z=zv) (hl:(Instr.buildSlice t n #[(0,xv),(1,yv),(2,zv)]).run P w= .ok v w2):(execOp a.eval o).run P w= .ok (.value v) w2:=by
 unfold execOp;simp only [ho,List.map_toArray,List.map_cons,List.map_nil,hx,hy,hz,Sem.run_bind,hl,Result.andThen_ok,Sem.run_pure]
theorem Aen {P:Program} {w:World} {a:Act} {o:Oper} {t:TypeId} {x0 x1 x2 x3:Operand} {v0 v1 v2 v3 v:Value} (ho:o.op= .build t #[(0,x0),(1,x1),(2,x2),(3,x3)]) (h0:a.eval x0=v0) (h1:a.eval x1=v1) (h2:a.eval x2=v2) (h3:a.eval x3=v3) (hl:(Instr.build t #[(0,v0),(1,v1),(2,v2),(3,v3)]).run P w= .ok v w):(execOp a.eval o).run P w= .ok (.value v) w:=by
 unfold execOp;simp only [ho,List.map_toArray,List.map_cons,List.map_nil,h0,h1,h2,h3,Sem.run_bind,hl,Result.andThen_ok,Sem.run_pure]
theorem A3r {w:World} {a:Act} {o:Oper} {x y:Operand} {b:Nat} (ho:o.op= .binOp .eql 27 x y 27) (hx:a.eval x= (pZ b 0)) (hy:a.eval y= .pointer none):(execOp a.eval o).run prog w= .ok (.value (.bool false)) w:=by
 refine Aca ho hx hy ?_ ?_
 ·first|kernel_rfl|go_simp
 ·go_simp
def Aw3:Array Oper:=(⟨_,rfl⟩:{o // some o=rgB Tryz.f83 1}).1
theorem A8x {pb qb:Nat} {p q:SpV} {x1 x2 x3 z:Int} {sv:Value} (S:World→Prop) (a:Act) (w:World) (Q:Exit→Act→World→Prop) (zz:a.tmps.size=22)
 (t2:a.tmps.getD 2 undef= (pZ pb 0))
 (t3:a.tmps.getD 3 undef= (pZ qb 0))
 (h0:S w.drew) (Lpb0:∀W,S W→(Instr.loadAt 3 (pZ pb (0+0))).run prog W= .ok (.int .i64 p.fr) W) (Lpb1:∀W,S W→(Instr.loadAt 3 (pZ pb (0+1))).run prog W= .ok (.int .i64 p.to) W) (Lpb2:∀W,S W→(Instr.loadAt 9 (pZ pb (0+2))).run prog W= .ok (.string p.nm) W) (Lqb0:∀W,S W→(Instr.loadAt 3 (pZ qb (0+0))).run prog W= .ok (.int .i64 q.fr) W) (Lqb1:∀W,S W→(Instr.loadAt 3 (pZ qb (0+1))).run prog W= .ok (.int .i64 q.to) W) (Lqb2:∀W,S W→(Instr.loadAt 9 (pZ qb (0+2))).run prog W= .ok (.string q.nm) W) (CA:Calls prog 85 #[.int .i64 p.fr, .int .i64 q.fr] w.drew fun e w1=>e= .returned (.int .i64 x1)∧S w1∧Calls prog 85 #[.int .i64 p.to, .int .i64 q.to] w1 fun e w2=>e= .returned (.int .i64 x2)∧S w2∧Calls prog 86 #[.string p.nm, .string q.nm] w2 fun e w3=>e= .returned (.int .i64 x3)∧S w3∧∃w4,(Instr.buildSlice 150 3 #[(0, .int .i64 x1),(1, .int .i64 x2),(2, .int .i64 x3)]).run prog w3= .ok sv w4∧S w4∧Calls prog 84 #[sv] w4 fun e w5=>e= .returned (.int .i64 z)∧S w5)
 (h:∀a' w',S w'→a'=(((((((((((((((((a.put (some 5) (pZ pb (0+0))).put (some 6) (.int .i64 p.fr)).put (some 7) (pZ qb (0+0))).put (some 8) (.int .i64 q.fr)).put (some 10) (pZ pb (0+1))).put (some 11) (.int .i64 p.to)).put (some 12) (pZ qb (0+1))).put (some 13) (.int .i64 q.to)).put (some 15) (pZ pb (0+2))).put (some 16) (.string p.nm)).put (some 17) (pZ qb (0+2))).put (some 18) (.string q.nm)).put (some 9) (.int .i64 x1)).put (some 14) (.int .i64 x2)).put (some 19) (.int .i64 x3)).put (some 20) (sv)).put (some 21) (.int .i64 z)).put (some 4) (.int .i64 z)→Q .normal a' w') :
 (Code.region 1 Aw3 true).wp prog Q a w:=by
 refine y0 (fun w'=>S w') (h0) (fun hHeld=> ?_)
 refine yv 0 rfl rfl (fun w1 hw=>xfa rfl (zi t2 rfl) (Afl _ _ _)) hHeld ?_
 refine yv 1 rfl rfl (fun w1 hw=>xld rfl (zg zz rfl) (Lpb0 _ hw)) hHeld ?_
 refine yv 2 rfl rfl (fun w1 hw=>xfa rfl (zi t3 rfl) (Afl _ _ _)) hHeld ?_
 refine yv 3 rfl rfl (fun w1 hw=>xld rfl (zg zz rfl) (Lqb0 _ hw)) hHeld ?_
 refine yv 5 rfl rfl (fun w1 hw=>xfa rfl (zi t2 rfl) (Ad3 _ _ _)) hHeld ?_
 refine yv 6 rfl rfl (fun w1 hw=>xld rfl (zg zz rfl) (Lpb1 _ hw)) hHeld ?_
 refine yv 7 rfl rfl (fun w1 hw=>xfa rfl (zi t3 rfl) (Ad3 _ _ _)) hHeld ?_
 refine yv 8 rfl rfl (fun w1 hw=>xld rfl (zg zz rfl) (Lqb1 _ hw)) hHeld ?_
 refine yv 10 rfl rfl (fun w1 hw=>xfa rfl (zi t2 rfl) (Aib _ _ _)) hHeld ?_
 refine yv 11 rfl rfl (fun w1 hw=>xld rfl (zg zz rfl) (Lpb2 _ hw)) hHeld ?_
 refine yv 12 rfl rfl (fun w1 hw=>xfa rfl (zi t3 rfl) (Aib _ _ _)) hHeld ?_
 refine yv 13 rfl rfl (fun w1 hw=>xld rfl (zg zz rfl) (Lqb2 _ hw)) hHeld ?_
 refine yc 4 rfl rfl (Aap rfl (zg zz rfl) (zg zz rfl)) (CA) (fun e x4 hx=> ?_)
 obtain ⟨rfl,S0,CB⟩:=hx
 refine ⟨_,rfl,S0,fun hHeld=> ?_⟩
 refine yc 9 rfl rfl (Aap rfl (zg zz rfl) (zg zz rfl)) (CB) (fun e x9 hx=> ?_)
 obtain ⟨rfl,S1,CC⟩:=hx
 refine ⟨_,rfl,S1,fun hHeld=> ?_⟩
 refine yc 14 rfl rfl (Aap rfl (zg zz rfl) (zg zz rfl)) (CC) (fun e x14 hx=> ?_)
 obtain ⟨rfl,S2,w4,EB,S3,CD⟩:=hx
 refine ⟨_,rfl,S2,fun hHeld=> ?_⟩
 refine yr (v:=sv) 15 rfl rfl (Afx rfl (zg zz rfl) (zg zz rfl) (zg zz rfl) EB) (S3) (fun hHeld=> ?_)
 refine yc 16 rfl rfl (Adc rfl (zg zz rfl)) (CD) (fun e x16 hx=> ?_)
 obtain ⟨rfl,S4⟩:=hx
 refine ⟨_,rfl,S4,fun hHeld=> ?_⟩
 refine yv 17 rfl rfl (fun w1 hw=>xas rfl (zg zz rfl)) hHeld ?_
 exact ye rfl (h _ _ (S4) rfl)
def Ayb:Array Oper:=(⟨_,rfl⟩:{o // some o=rgB Tryz.f23 1}).1
theorem A9g {mb sb ib:Nat} {k:IdK} {q:Bool} (Fin:World→Prop) (a:Act) (w:World) (Q:Exit→Act→World→Prop) (zz:a.tmps.size=58)
 (t0:a.tmps.getD 0 undef= (pZ mb 0))
 (t1:a.tmps.getD 1 undef= (pZ sb 0))
 (t5:a.tmps.getD 5 undef= (pZ ib 0))
 (LI:∀W,W=w→(Instr.loadAt 36 (pZ ib 0)).run prog W= .ok (k.v) W) (CH:Calls prog 47 #[(pZ sb 0),k.v] w fun e w'=>e= .returned (.bool q)∧Fin w')
 (h:∀a' w',Fin w'→a'=(((((((a.put (some 13) (pZ mb 0)).put (some 14) (.bool false)).put (some 15) (.bool false)).put (some 16) (pZ sb 0)).put (some 17) (k.v)).put (some 18) (.bool q)).put (some 19) (.bool (!q))).put (some 20) (.bool (!q))→Q .normal a' w') :
 (Code.region 1 Ayb false).wp prog Q a w:=by
 refine z0 rfl ?_
 refine zv rfl (xmv rfl (zi t0 rfl)) ?_
 refine zv (v:= .bool false) rfl (A3r rfl (zg zz rfl) rfl) ?_
 refine zv rfl (xmv rfl (zg zz rfl)) ?_
 refine zv (zw zz rfl rfl rfl (zg zz rfl)) (xmv rfl (zi t1 rfl)) ?_
 refine zv (zw zz rfl rfl rfl (zg zz rfl)) (xld rfl (zi t5 rfl) (LI _ rfl)) ?_
 refine zc (zw zz rfl rfl rfl (zg zz rfl)) (Aap rfl (zg zz rfl) (zg zz rfl)) (CH) (fun e x5 hx=> ?_)
 obtain ⟨rfl,HF⟩:=hx
 refine ⟨_,rfl, ?_⟩
 refine zv (zw zz rfl rfl rfl (zg zz rfl)) (Anz rfl (zg zz rfl)) ?_
 refine zv rfl (Aa0 rfl (zg zz rfl) (zg zz rfl)) ?_
 exact ze rfl (h _ _ (HF) rfl)
def Aya:Array Oper:=(⟨_,rfl⟩:{o // some o=rgB Tryz.f23 6}).1
theorem A9f {mb sb:Nat} {rk:Int} (Fin:Option Addr→Nat→Nat→World→Prop) (a:Act) (w:World) (Q:Exit→Act→World→Prop) (zz:a.tmps.size=58)
 (t0:a.tmps.getD 0 undef= (pZ mb 0))
 (t1:a.tmps.getD 1 undef= (pZ sb 0))
 (t7:a.tmps.getD 7 undef= .int .i64 rk)
 (CC:Calls prog 56 #[(pZ mb 0), (pZ sb 0), .int .i64 rk] w fun e w'=> ∃la n c,e= .returned (.slice la n c)∧Fin la n c w')
 (h:∀(la:Option Addr) (n c:Nat) a' w',Fin la n c w'→a'=(((((a.put (some 31) (pZ mb 0)).put (some 32) (pZ sb 0)).put (some 33) (.int .i64 rk)).put (some 34) (.slice la n c)).put (some 35) (.int .i64 (n:Int))).put (some 36) (.int .i64 0)→Q .normal a' w') :
 (Code.region 6 Aya false).wp prog Q a w:=by
 refine z0 rfl ?_
 refine zv rfl (xmv rfl (zi t0 rfl)) ?_
 refine zv rfl (xmv rfl (zi t1 rfl)) ?_
 refine zv rfl (xmv rfl (zi t7 rfl)) ?_
 refine zc rfl (Afn rfl (zg zz rfl) (zg zz rfl) (zg zz rfl)) (CC) (fun e x3 hx=> ?_)
 obtain ⟨la,n,c,rfl,HF⟩:=hx
 replace h:=h la n c
 refine ⟨_,rfl, ?_⟩
 refine zv rfl (Af4 rfl (zg zz rfl) (A1a _ _ _ _)) ?_
 refine zv rfl (xmv rfl rfl) ?_
 exact ze rfl (h _ _ (HF) rfl)
end
section
open Go.Shelf
def Aqg:Go.Shelf.Ren:=⟨fun |189=>108|125=>105|257=>140|128=>137|129=>138|294=>158|295=>159|296=>160|297=>161|298=>162|299=>163|216=>143|300=>164|301=>165|328=>174|329=>154|330=>155|331=>175|332=>176|215=>106|343=>177|n=>n,fun |28=>150|3=>3|46=>156|0=>0|51=>191|53=>123|4=>4|183=>185|182=>184|131=>161|5=>5|9=>9|218=>205|222=>209|228=>222|229=>140|n=>n,fun |n=>n⟩
theorem A7g:Go.Proofs.Lays.n189 prog Aqg:={
 mixed:=by kernel_rfl
 f125:=func105.trans (congrArg some (by kernel_rfl))
 f128:=func137.trans (congrArg some (by kernel_rfl))
 f129:=func138.trans (congrArg some (by kernel_rfl))
 f189:=func108.trans (congrArg some (by kernel_rfl))
 f215:=func106.trans (congrArg some (by kernel_rfl))
 f216:=func143.trans (congrArg some (by kernel_rfl))
 f257:=func140.trans (congrArg some (by kernel_rfl))
 f294:=func158.trans (congrArg some (by kernel_rfl))
 f295:=func159.trans (congrArg some (by kernel_rfl))
 f296:=func160.trans (congrArg some (by kernel_rfl))
 f297:=func161.trans (congrArg some (by kernel_rfl))
 f298:=func162.trans (congrArg some (by kernel_rfl))
 f299:=func163.trans (congrArg some (by kernel_rfl))
 f300:=func164.trans (congrArg some (by kernel_rfl))
 f301:=func165.trans (congrArg some (by kernel_rfl))
 f328:=func174.trans (congrArg some (by kernel_rfl))
 f329:=func154.trans (congrArg some (by kernel_rfl))
 f330:=func155.trans (congrArg some (by kernel_rfl))
 f331:=func175.trans (congrArg some (by kernel_rfl))
 f332:=func176.trans (congrArg some (by kernel_rfl))
 f343:=func177.trans (congrArg some (by kernel_rfl))
 t0:=underlying0
 a0:=Tryz.isAgg0
 z0:=Tryz.sizeOf0
 v0:=Tryz.zeroValue0
 t3:=underlying3
 a3:=Tryz.isAgg3
 z3:=Tryz.sizeOf3
 v3:=Tryz.zeroValue3
 t4:=underlying4
 a4:=Tryz.isAgg4
 z4:=Tryz.sizeOf4
 v4:=Tryz.zeroValue4
 t5:=underlying5
 a5:=Tryz.isAgg5
 z5:=Tryz.sizeOf5
 v5:=Tryz.zeroValue5
 t9:=underlying9
 a9:=Tryz.isAgg9
 z9:=Tryz.sizeOf9
 v9:=Tryz.zeroValue9
 t28:=underlying150
 a28:=Tryz.isAgg150
 z28:=Tryz.sizeOf150
 v28:=Tryz.zeroValue150
 t46:=underlying156
 a46:=Tryz.isAgg156
 z46:=Tryz.sizeOf156
 v46:=Tryz.zeroValue156
 t51:=underlying191
 a51:=Tryz.isAgg191
 z51:=Tryz.sizeOf191
 v51:=Tryz.zeroValue191
 t53:=underlying123
 a53:=Tryz.isAgg123
 z53:=Tryz.sizeOf123
 v53:=Tryz.zeroValue123
 t131:=underlying161
 a131:=Tryz.isAgg161
 z131:=Tryz.sizeOf161
 v131:=Tryz.zeroValue161
 t182:=underlying184
 a182:=Tryz.isAgg184
 z182:=Tryz.sizeOf184
 v182:=Tryz.zeroValue184
 t183:=underlying185
 a183:=Tryz.isAgg185
 z183:=Tryz.sizeOf185
 v183:=Tryz.zeroValue185
 t218:=underlying205
 a218:=Tryz.isAgg205
 z218:=Tryz.sizeOf205
 v218:=Tryz.zeroValue205
 t222:=underlying209
 a222:=Tryz.isAgg209
 z222:=Tryz.sizeOf209
 v222:=Tryz.zeroValue209
 t228:=underlying222
 a228:=Tryz.isAgg222
 z228:=Tryz.sizeOf222
 v228:=Tryz.zeroValue222
 t229:=underlying140
 a229:=Tryz.isAgg140
 z229:=Tryz.sizeOf140
 v229:=Tryz.zeroValue140}
def Aj6:Go.Shelf.Ren:=⟨fun |20=>109|n=>n,fun |22=>150|3=>3|4=>4|0=>0|n=>n,fun |n=>n⟩
theorem Azv:Go.Proofs.Lays2.n20 prog Aj6:={
 mixed:=by kernel_rfl
 f20:=func109.trans (congrArg some (by kernel_rfl))
 t0:=underlying0
 a0:=Tryz.isAgg0
 z0:=Tryz.sizeOf0
 v0:=Tryz.zeroValue0
 t3:=underlying3
 a3:=Tryz.isAgg3
 z3:=Tryz.sizeOf3
 v3:=Tryz.zeroValue3
 t4:=underlying4
 a4:=Tryz.isAgg4
 z4:=Tryz.sizeOf4
 v4:=Tryz.zeroValue4
 t22:=underlying150
 a22:=Tryz.isAgg150
 z22:=Tryz.sizeOf150
 v22:=Tryz.zeroValue150
 i3:=by kernel_rfl}
def Akq:Go.Shelf.Ren:=⟨fun |25=>112|31=>143|32=>144|37=>106|n=>n,fun |22=>150|3=>3|4=>4|40=>156|0=>0|n=>n,fun |n=>n⟩
theorem A2k:Go.Proofs.Lays2.n25 prog Akq:={
 mixed:=by kernel_rfl
 f25:=func112.trans (congrArg some (by kernel_rfl))
 f31:=func143.trans (congrArg some (by kernel_rfl))
 f32:=func144.trans (congrArg some (by kernel_rfl))
 f37:=func106.trans (congrArg some (by kernel_rfl))
 t0:=underlying0
 a0:=Tryz.isAgg0
 z0:=Tryz.sizeOf0
 v0:=Tryz.zeroValue0
 t3:=underlying3
 a3:=Tryz.isAgg3
 z3:=Tryz.sizeOf3
 v3:=Tryz.zeroValue3
 t4:=underlying4
 a4:=Tryz.isAgg4
 z4:=Tryz.sizeOf4
 v4:=Tryz.zeroValue4
 t22:=underlying150
 a22:=Tryz.isAgg150
 z22:=Tryz.sizeOf150
 v22:=Tryz.zeroValue150
 t40:=underlying156
 a40:=Tryz.isAgg156
 z40:=Tryz.sizeOf156
 v40:=Tryz.zeroValue156}
end
section
open Go.RowKit
def A63 (w:World) (a:Option Addr) (X:List Value):Prop:=X=[]∨∃b off,a=some ⟨b,off,none⟩∧∀j u,X[j]? =some u→w.cell? ⟨b,off+j,none⟩=some u
def Ab7 (w:World) (base:Nat) (e:TypeId) (v:Value) (X:List Value):Prop:=w.ownsRow base e 1 v X.length X
theorem Ab7.below {w w':World} {base:Nat} {e:TypeId} {v:Value} {X:List Value} (h:Ab7 w base e v X) (hb:Below w.heap.size w w'):Ab7 w' base e v X:=by
 refine ⟨h.1, ?_⟩
 rcases h.2 with hn|⟨g,cap,cur,rfl,hbg,hg,rest⟩
 ·exact .inl hn
 ·exact .inr ⟨g,cap,cur,rfl,hbg,by rw [hb.block g (Array.getElem?_eq_some_iff.1 hg).1];exact hg,rest⟩
theorem Ab7.keep {w w':World} {base:Nat} {e:TypeId} {v:Value} {X:List Value} (h:Ab7 w base e v X) (hk:∀k,v.ownBlock=some k→w'.heap[k]? =w.heap[k]?):Ab7 w' base e v X:=by
 refine ⟨h.1, ?_⟩
 rcases h.2 with hn|⟨g,cap,cur,rfl,hbg,hg,rest⟩
 ·exact .inl hn
 ·exact .inr ⟨g,cap,cur,rfl,hbg,by rw [hk g rfl];exact hg,rest⟩
theorem Ab7.ge {w:World} {base:Nat} {e:TypeId} {v:Value} {X:List Value} (h:Ab7 w base e v X):∀j,v.ownBlock=some j→base≤j∧∃c,w.heap[j]? =some (.cells c e (0,0)):=by
 intro j hj
 rcases h.2 with ⟨rfl,hn⟩|⟨g,cap,cur,rfl,hbg,hg,rest⟩
 ·cases hj
 ·obtain rfl:g=j:=by simpa [Value.ownBlock] using hj
  exact ⟨hbg,_,hg⟩
theorem Ab7.open {w:World} {base:Nat} {e:TypeId} {v:Value} {X:List Value} (h:Ab7 w base e v X) :
 ∃a cap,v= .slice a X.length cap∧X.length≤cap∧A63 w a X∧(a=none→X=[]∧cap=0):=by
 rcases h.2 with ⟨rfl,hn⟩|⟨g,cap,cur,rfl,hbg,hg,hnc,hcm,hcs,htake⟩
 ·obtain rfl:X=[]:=List.eq_nil_of_length_eq_zero hn
  exact ⟨none,0,rfl,Nat.le_refl _, .inl rfl,fun _=>⟨rfl,rfl⟩⟩
 ·refine ⟨some ⟨g,0,none⟩,cap,rfl,hnc, .inr ⟨g,0,rfl,fun j u hj=> ?_⟩,fun h=>by cases h⟩
  rw [Nat.zero_add,cell_of_row w g j cur e (0,0) hg]
  rw [←htake,List.getElem?_take] at hj
  split at hj
  ·simpa using hj
  ·cases hj
theorem Al5 (T e y:TypeId) (z:Value) (ht:prog.underlying T=some (.slice e)) (hi:(prog.info? e).map (fun i=>(i.zero,i.size,i.bytes))=some (some z,1,y)) (hy:y=8∨y=24) (hz1:z.cells.size=1)
 (w:World) (base:Nat) (ty:TypeId) (v:Value) (L:List Value) (a:Option Addr) (M:List Value) (c:Nat) (hown:Ab7 w base e v L) (hb:A63 w a M) (h1:∀u∈M,u.oneCell'=true)
 (h:L.length+M.length≤2000000000000) (hbase:base≤w.heap.size) :
 ∃v' w',(Builtin.append_ #[T,T] ty #[v, .slice a M.length c]).run prog w= .ok v' w'∧Ab7 w' base e v' (L++M)∧w.grownBy w' v.ownBlock∧(v'.ownBlock=v.ownBlock∨v'.ownBlock=some w.heap.size):=by
 obtain ⟨i,hi,hz,hs,hby⟩:=info_parts hi
 cases a with
 |some ad =>
  have hnews:∀j u,M[j]? =some u→w.cell? (ad.add j)=some u:=fun j u hj=>by
   rcases hb with rfl|⟨b,off,e,hc⟩
   ·simp at hj
   ·cases e
    rw [Addr.add_mid]
    exact hc j u hj
  obtain ⟨v',w',hr,h2,h3,h5⟩:=Akb (P:=prog) w base T ty e i z 1 y ht hi hz hs hby hz1 (by decide) v L.length L hown ad M.length c M (by omega) hnews h1 (by unfold maxLen;omega) (by rcases hy with rfl|rfl <;>omega) hbase
  refine ⟨v',w',hr, ?_,h3,h5⟩
  unfold Ab7
  rw [List.length_append]
  exact h2
 |none =>
  obtain rfl:M=[]:=by
   rcases hb with rfl|⟨b,off,e,_⟩
   ·rfl
   ·cases e
  rcases hown.2 with ⟨rfl,hn⟩|⟨g,cap,cur,rfl,hbg,hg,hnc,rest⟩
  ·refine ⟨.slice none 0 0,w, ?_,by rw [List.append_nil];exact hown,⟨rfl,rfl,rfl,Nat.le_refl _,fun _ _ _=>rfl⟩, .inl rfl⟩
   simp [Builtin.append_,run_underlying ht,sizeOf,typeInfo,hi,Builtin.lenOf,Builtin.firstCells,loadCells,loadCellsFrom]
  ·refine ⟨.slice (some ⟨g,0,none⟩) L.length cap,w, ?_,by rw [List.append_nil];exact hown,⟨rfl,rfl,rfl,Nat.le_refl _,fun _ _ _=>rfl⟩, .inl rfl⟩
   simp [Builtin.append_,run_underlying ht,sizeOf,typeInfo,hi,Builtin.lenOf,Builtin.firstCells,hnc,storeCells]
theorem Ab7.form {w:World} {B:Nat} {e:TypeId} {v:Value} {X:List Value} (h:Ab7 w B e v X) {i:Nat} (hi:i<X.length):∃bb c,v= .slice (some ⟨bb,0,none⟩) X.length c∧w.cell? ⟨bb,i,none⟩=some X[i]:=by
 rcases h.2 with ⟨_,hn⟩|⟨g,cap,cur,rfl,_,hg,_,_,_,ht⟩
 ·omega
 ·refine ⟨g,cap,rfl, ?_⟩
  rw [cell_of_row w g i cur e (0,0) hg]
  have hj:=List.getElem?_eq_getElem hi
  generalize X[i]=u at *
  rw [←ht,List.getElem?_take] at hj
  split at hj
  ·simpa using hj
  ·cases hj
theorem Ab7.lt {w:World} {base:Nat} {e:TypeId} {v:Value} {X:List Value} (h:Ab7 w base e v X) {k:Nat} (hk:v.ownBlock=some k):k<w.heap.size:=by
 obtain ⟨_,c,q⟩:=h.ge k hk
 exact (Array.getElem?_eq_some_iff.1 q).1
theorem Awp (w:World) (u:Value) (t:TypeId):A63 (w.alloc (.cells #[u] t)) (some ⟨w.heap.size,0,none⟩) [u] :=
 .inr ⟨w.heap.size,0,rfl,fun j x hj=>by
  have hl:=(List.getElem?_eq_some_iff.1 hj).1
  obtain rfl:j=0:=by simp at hl;omega
  simp at hj
  subst hj
  exact Af9 w [u] t 0 u rfl⟩
theorem Ai7 (T e:TypeId) (ht:prog.underlying T=some (.slice e)) (hi:(prog.info? e).map (fun i=>(i.zero,i.size,i.bytes))=some (some (.pointer none),1,8)) (hbs:∀(p:Option Addr) (W:World),(Instr.buildSlice T 1 #[(0, .pointer p)]).run prog W= .ok (.slice (some ⟨W.heap.size,0,none⟩) 1 1) (W.alloc (.cells #[.pointer p] e)))
 (w:World) (base:Nat) (v:Value) (L:List Value) (p:Option Addr) (hown:Ab7 w base e v L) (h:L.length+1≤2000000000000) (hbase:base≤w.heap.size) :
 ∃sv w1 v' w',(Instr.buildSlice T 1 #[(0, .pointer p)]).run prog w= .ok sv w1∧(Builtin.append_ #[T,T] T #[v,sv]).run prog w1= .ok v' w'∧Ab7 w' base e v' (L++[.pointer p])∧Below w.heap.size w w1∧w1.heap.size=w.heap.size+1∧w1.grownBy w' v.ownBlock∧(v'.ownBlock=v.ownBlock∨v'.ownBlock=some w1.heap.size):=by
 have b1:Below w.heap.size w (w.alloc (.cells #[.pointer p] e)):=(Below.refl _ _).alloc (Nat.le_refl _) _
 obtain ⟨v',w',e2,o,g,q⟩:=Al5 T e 8 (.pointer none) ht hi (.inl rfl) rfl _ base T v L _ [.pointer p] 1 (hown.below b1) (Awp w (.pointer p) e) (fun u hu=>by rw [List.mem_singleton.1 hu];rfl) (by simpa using h) (Nat.le_trans hbase b1.size)
 exact ⟨_,_,v',w',hbs p w,e2,o,b1,by simp,g,q⟩
def cSp (p q:SpV):Int:=or3 (cI p.fr q.fr) (cI p.to q.to) (cS p.nm q.nm)
theorem Ag6:TO cSp:=by
 have h:=A17.lex (A17.lex A4i)
 exact ⟨fun a b=>h.anti (a.fr,a.to,a.nm) (b.fr,b.to,b.nm),fun a b d=>h.le (a.fr,a.to,a.nm) (b.fr,b.to,b.nm) (d.fr,d.to,d.nm),fun a b d=>h.lt (a.fr,a.to,a.nm) (b.fr,b.to,b.nm) (d.fr,d.to,d.nm)⟩
section
variable {W:World} {b:Nat} {x:SpV}
theorem Aiy (h:RSp.Bx W b x):(Instr.loadAt 3 (pZ b (0+0))).run prog W= .ok (.int .i64 x.fr) W:=by
 have hc:W.cell? ⟨b,0,none⟩=some (.int .i64 x.fr):=(cell_of_row W b 0 _ _ _ h).trans rfl
 go_simp
theorem Ag0 (h:RSp.Bx W b x):(Instr.loadAt 3 (pZ b (0+1))).run prog W= .ok (.int .i64 x.to) W:=by
 have hc:W.cell? ⟨b,1,none⟩=some (.int .i64 x.to):=(cell_of_row W b 1 _ _ _ h).trans rfl
 go_simp
theorem Aw7 (h:RSp.Bx W b x):(Instr.loadAt 9 (pZ b (0+2))).run prog W= .ok (.string x.nm) W:=by
 have hc:W.cell? ⟨b,2,none⟩=some (.string x.nm):=(cell_of_row W b 2 _ _ _ h).trans rfl
 go_simp
end
theorem A2n (a b c:Int) (w:World):(Instr.buildSlice 150 3 #[(0, .int .i64 a),(1, .int .i64 b),(2, .int .i64 c)]).run prog w= .ok (.slice (some ⟨w.heap.size,0,none⟩) 3 3) (w.alloc (.cells #[.int .i64 a, .int .i64 b, .int .i64 c] 3)):=by
 kernel_rfl
theorem Avh (p q:SpV) (w:World):Calls prog 83 #[p.a,q.a] w fun e w'=>e= .returned (.int .i64 (cSp p q))∧Below w.heap.size w w'∧w.drawn≤w'.drawn:=by
 obtain ⟨W,hW⟩:∃W,(w.alloc (.cells p.c.toArray 65)).alloc (.cells q.c.toArray 65)=W:=⟨_,rfl⟩
 have zW:W.heap.size=w.heap.size+2:=by rw [←hW];simp
 have S0:Hid (RSp.Bx W w.heap.size p∧RSp.Bx W (w.heap.size+1) q∧Below w.heap.size w W∧w.drawn≤W.drawn):=by
  refine ⟨?_, ?_, ?_, ?_⟩
  ·rw [←hW]
   show _=_
   rw [Below.heap_alloc _ _ _ (by simp)];exact heap_alloc_new _ _
  ·rw [←hW]
   have:=heap_alloc_new (w.alloc (.cells p.c.toArray 65)) (.cells q.c.toArray 65)
   rw [show (w.alloc (.cells p.c.toArray 65)).heap.size=w.heap.size+1 by simp] at this
   exact this
  ·rw [←hW];exact ((Below.refl _ _).alloc (Nat.le_refl _) _).alloc (by simp) _
  ·rw [←hW];exact Nat.le_refl _
 have HK:Hid (∀{X:World} {v:Array Value} {t:TypeId},(RSp.Bx X w.heap.size p∧RSp.Bx X (w.heap.size+1) q∧Below w.heap.size w X∧w.drawn≤X.drawn)→(RSp.Bx (X.alloc (.cells v t)) w.heap.size p∧RSp.Bx (X.alloc (.cells v t)) (w.heap.size+1) q∧Below w.heap.size w (X.alloc (.cells v t))∧w.drawn≤(X.alloc (.cells v t)).drawn)):=fun {X v t} h=>by
  have b:Below X.heap.size X (X.alloc (.cells v t)):=(Below.refl _ _).alloc (Nat.le_refl _) _
  exact ⟨h.1.below b,h.2.1.below b,h.2.2.1.trans (b.mono h.2.2.1.size),h.2.2.2⟩
 have HX:=Aaa hW
 clear hW
 unfold SpV.a
 go_enter func83,ntmps83
 go_upto_region 1 with fail
 rw [HX.out]
 clear HX
 have D0:Hid (RSp.Bx W.drew w.heap.size p∧RSp.Bx W.drew (w.heap.size+1) q∧Below w.heap.size w W.drew∧w.drawn≤W.drew.drawn):=⟨S0.out.1,S0.out.2.1,S0.out.2.2.1.drew,Nat.le_trans S0.out.2.2.2 (Nat.le_succ _)⟩
 refine A8x (p:=p) (q:=q) (pb:=w.heap.size) (qb:=w.heap.size+1) (x1:=cI p.fr q.fr) (x2:=cI p.to q.to) (x3:=cS p.nm q.nm) (z:=cSp p q) (sv:= .slice (some ⟨W.drew.heap.size,0,none⟩) 3 3) (fun X=>RSp.Bx X w.heap.size p∧RSp.Bx X (w.heap.size+1) q∧Below w.heap.size w X∧w.drawn≤X.drawn) _ W _ rfl rfl rfl D0.out
  (fun X h=>Aiy h.1) (fun X h=>Ag0 h.1) (fun X h=>Aw7 h.1) (fun X h=>Aiy h.2.1) (fun X h=>Ag0 h.2.1) (fun X h=>Aw7 h.2.1) ((A8s _ _ _).mono ?_) ?_
 ·rintro e _ ⟨rfl,rfl⟩
  refine ⟨rfl,D0.out,(A8s _ _ _).mono ?_⟩
  rintro e _ ⟨rfl,rfl⟩
  refine ⟨rfl,D0.out,(Az1 _ _ _).mono ?_⟩
  rintro e _ ⟨rfl,rfl⟩
  refine ⟨rfl,D0.out,_,A2n _ _ _ _,HK.out D0.out,(or_any W.drew.heap.size _ _ _ _ 3 (0,0) (heap_alloc_new _ _)).mono ?_⟩
  rintro e _ ⟨rfl,rfl⟩
  exact ⟨rfl,HK.out D0.out⟩
 intro a' w2 hf ha
 subst ha
 simp only [Act.put,qsA,qsB,qsC]
 have HF:=Aaa hf
 clear hf D0 S0 HK zW
 go_wp2
 go_ret
 exact ⟨rfl,HF.out.2.2.1,HF.out.2.2.2⟩
def SdS (L:List SpV):Prop:=L.Pairwise fun x y=>cSp x y≤0
def A64 (W:World) (base:Nat) (v:Value) (L:List SpV) (e:Ending) (w':World):Prop:=e= .returned (.tuple #[])∧∃L',L'.Perm L∧SdS L'∧RSp.Lo w' base v L'∧Tch (fun j=>v.ownBlock=some j) W w'
end
section
theorem Agy {a b:Int} (h:cI a b=0):a=b:=by unfold cI at h;split at h; · omega
                                           ·split at h <;>omega
theorem Avm {a b:ByteArray} (h:cS a b=0):a=b:=by
 rcases Ae8 a b with ⟨_,e⟩|⟨p,_⟩|⟨_,e⟩
 ·omega
 ·exact Aka p
 ·omega
theorem Aob {p q:SpV} (h:cSp p q=0):p.fr=q.fr∧p.to=q.to∧p.nm=q.nm:=by
 unfold cSp or3 at h
 split at h
 ·next h1 =>
  split at h
  ·next h2=>exact ⟨Agy h1,Agy h2,Avm h⟩
  ·next h2=>exact absurd h h2
 ·next h1=>exact absurd h h1
def Run (h:ByteArray→Int→Option VaV) (p:SpV):Prop:=p.fr<p.to∧(∀j,p.fr≤j→j<p.to→h p.nm j=some p.v)∧h p.nm (p.fr-1)≠some p.v∧h p.nm p.to≠some p.v
structure Ac3 (h:ByteArray→Int→Option VaV) (S:List SpV):Prop where
 srt:S.Pairwise (fun p q=>cSp p q<0)
 mem:∀p,p∈S↔Run h p
theorem Aoc (p:SpV):cSp p p=0:=by have:=Ag6.anti p p;omega
theorem Afh:∀{S T:List SpV},S.Pairwise (fun p q=>cSp p q<0)→T.Pairwise (fun p q=>cSp p q<0)→(∀p,p∈S↔p∈T)→S=T
 |[],[],_,_,_=>rfl
 |[],q::T,_,_,h=>by have:=(h q).2 (by simp);cases this
 |p::S,[],_,_,h=>by have:=(h p).1 (by simp);cases this
 |p::S,q::T,h1,h2,h=>by
  have a1:=List.pairwise_cons.1 h1
  have a2:=List.pairwise_cons.1 h2
  have e:p=q:=by
   by_cases e:p=q
   ·exact e
   ·have m1:p∈T:=by
      rcases List.mem_cons.1 ((h p).1 (by simp)) with x|x
      ·exact absurd x e
      ·exact x
    have m2:q∈S:=by
      rcases List.mem_cons.1 ((h q).2 (by simp)) with x|x
      ·exact absurd x.symm e
      ·exact x
    have l1:=a1.1 q m2
    have l2:=a2.1 p m1
    have:=Ag6.anti p q
    omega
  subst e
  have n1:∀r∈S,r≠p:=fun r hr e=>by have:=a1.1 r hr;rw [e,Aoc] at this;omega
  have n2:∀r∈T,r≠p:=fun r hr e=>by have:=a2.1 r hr;rw [e,Aoc] at this;omega
  rw [Afh a1.2 a2.2 (fun r=>⟨fun hr=>by
   rcases List.mem_cons.1 ((h r).1 (by simp [hr])) with x|x
   ·exact absurd x (n1 r hr)
   ·exact x,fun hr=>by
   rcases List.mem_cons.1 ((h r).2 (by simp [hr])) with x|x
   ·exact absurd x (n2 r hr)
   ·exact x⟩)]
theorem Ac3.unique {h:ByteArray→Int→Option VaV} {S T:List SpV} (a:Ac3 h S) (b:Ac3 h T):S=T :=
 Afh a.srt b.srt (fun p=>(a.mem p).trans (b.mem p).symm)
theorem Run.eq {h:ByteArray→Int→Option VaV} {p q:SpV} (a:Run h p) (b:Run h q) (e:p.nm=q.nm) {j:Int} (h1:p.fr≤j) (h2:j<p.to) (h3:q.fr≤j) (h4:j<q.to):p=q:=by
 obtain ⟨pf,pt,pn,pv⟩:=p
 obtain ⟨qf,qt,qn,qv⟩:=q
 simp only at e h1 h2 h3 h4
 subst e
 obtain ⟨a1,a2,a3,a4⟩:=a
 obtain ⟨b1,b2,b3,b4⟩:=b
 simp only at a1 a2 a3 a4 b1 b2 b3 b4
 have ev:pv=qv:=by have:=a2 j h1 h2;rw [b2 j h3 h4] at this;exact (Option.some.inj this).symm
 subst ev
 have e1:pf=qf:=by
  rcases Int.lt_trichotomy pf qf with x|x|x
  ·exact absurd (a2 (qf-1) (by omega) (by omega)) b3
  ·exact x
  ·exact absurd (b2 (pf-1) (by omega) (by omega)) a3
 have e2:pt=qt:=by
  rcases Int.lt_trichotomy pt qt with x|x|x
  ·exact absurd (b2 pt (by omega) (by omega)) a4
  ·exact x
  ·exact absurd (a2 qt (by omega) (by omega)) b4
 subst e1 e2
 rfl
theorem Run.eq_fr {h:ByteArray→Int→Option VaV} {p q:SpV} (a:Run h p) (b:Run h q) (e:p.nm=q.nm) (h1:p.fr=q.fr):p=q :=
 a.eq b e (Int.le_refl _) a.1 (by omega) (by have:=b.1;omega)
theorem Aly {h:ByteArray→Int→Option VaV} {S:List SpV} (hs:S.Pairwise (fun p q=>cSp p q≤0)) (hn:S.Nodup) (hm:∀p,p∈S↔Run h p):Ac3 h S:=by
 refine ⟨?_,hm⟩
 have:S.Pairwise (fun p q=>cSp p q≤0∧p≠q):=hs.and hn
 refine this.imp_of_mem (fun {p q} hp hq hpq=> ?_)
 obtain ⟨h1,h2⟩:=hpq
 by_cases h0:cSp p q=0
 ·obtain ⟨e1,e2,e3⟩:=Aob h0
  exact absurd (((hm p).1 hp).eq_fr ((hm q).1 hq) e3 e1) h2
 ·omega
def inC (j:Int) (c:SpV):Bool:=decide (c.fr≤j∧j<c.to)
def Acy:List SpV→Int→Option Nat
 |[],_=>none
 |c::C,j=>match Acy C j with
  |some i=>some (i+1)
  |none=>if inC j c=true then some 0 else none
def A16 (C:List SpV) (o:Option Nat):Option VaV:=match o with
 |some i=>match C[i]? with
  |some c=>if c.v.k=0 then none else some c.v
  |none=>none
 |none=>none
def Ag5 (C:List SpV) (j:Int):Option VaV:=A16 C (Acy C j)
theorem Acu:∀{C:List SpV} {j:Int},Acy C j=none↔ ∀c∈C,inC j c=false
 |[],j=>by simp [Acy]
 |c::C,j=>by
  have ih:=Acu (C:=C) (j:=j)
  unfold Acy
  cases h:Acy C j with
  |some i =>
   simp only [reduceCtorEq,false_iff]
   intro q
   rw [h] at ih
   have:=ih.2 (fun x hx=>q x (by simp [hx]))
   cases this
  |none =>
   have i2:=ih.1 h
   simp only [List.mem_cons,forall_eq_or_imp]
   cases hc:inC j c <;>simp_all
theorem Aef:∀{C:List SpV} {j:Int} {i:Nat},Acy C j=some i↔ ∃c,C[i]? =some c∧inC j c=true∧∀k d,i<k→C[k]? =some d→inC j d=false
 |[],j,i=>by simp [Acy]
 |c::C,j,i=>by
  unfold Acy
  cases h:Acy C j with
  |some m =>
   obtain ⟨d,h1,h2,h3⟩:=Aef.1 h
   simp only [Option.some.injEq]
   constructor
   ·rintro rfl
    refine ⟨d,by simpa using h1,h2,fun k e hk he=> ?_⟩
    cases k with
    |zero=>omega
    |succ k=>exact h3 k e (by omega) (by simpa using he)
   ·rintro ⟨e,h4,h5,h6⟩
    rcases Nat.lt_trichotomy (m+1) i with x|x|x
    ·cases i with
     |zero=>omega
     |succ i =>
      have:=h3 i e (by omega) (by simpa using h4)
      rw [h5] at this;cases this
    ·exact x
    ·have:=h6 (m+1) d x (by simpa using h1)
     rw [h2] at this;cases this
  |none =>
   have hn:=Acu.1 h
   simp only
   constructor
   ·intro q
    split at q
    ·next hc =>
     cases q
     refine ⟨c,rfl,hc,fun k e hk he=> ?_⟩
     cases k with
     |zero=>omega
     |succ k=>exact hn e (List.mem_of_getElem? (by simpa using he))
    ·cases q
   ·rintro ⟨e,h4,h5,h6⟩
    cases i with
    |zero =>
     simp only [List.getElem?_cons_zero,Option.some.injEq] at h4
     subst h4
     rw [if_pos h5]
    |succ i =>
     have:=hn e (List.mem_of_getElem? (by simpa using h4))
     rw [h5] at this;cases this
theorem Agn {j k:Int}:∀{C:List SpV},(∀c∈C,inC j c=inC k c)→Acy C j=Acy C k
 |[],_=>rfl
 |c::C,h=>by
  unfold Acy
  rw [Agn (C:=C) (fun x hx=>h x (by simp [hx])),h c (by simp)]
def Adj (l:List SpV) (p:SpV):List SpV:=match l.getLast? with
 |some q=>if q.to=p.fr∧q.v=p.v then l.dropLast++[⟨q.fr,p.to,q.nm,q.v⟩] else l++[p]
 |none=>l++[p]
structure Ack (h:Int→Option VaV) (nm:ByteArray) (z:Int) (l:List SpV):Prop where
 nm:∀p∈l,p.nm=nm
 in':∀p∈l,p.fr<p.to∧p.to≤z∧(∀j,p.fr≤j→j<p.to→h j=some p.v)∧h (p.fr-1)≠some p.v
 pw:l.Pairwise (fun p q=>p.to≤q.fr)
 ends:∀(l1 l2:List SpV) (p:SpV),l=l1++p::l2→h p.to≠some p.v∨(p.to=z∧l2=[])
 all:∀j v,j<z→h j=some v→∃p∈l,p.fr≤j∧j<p.to
theorem Ack.skip {h:Int→Option VaV} {nm:ByteArray} {z y:Int} {l:List SpV} (r:Ack h nm z l) (hz:z<y) (h0:∀j,z≤j→j<y→h j=none):Ack h nm y l:=by
 refine ⟨r.nm,fun p hp=> ?_,r.pw,fun l1 l2 p e=> ?_,fun j v hj hv=> ?_⟩
 ·obtain ⟨a,b,c,d⟩:=r.in' p hp
  exact ⟨a,by omega,c,d⟩
 ·rcases r.ends l1 l2 p e with x|⟨x,rfl⟩
  ·exact .inl x
  ·exact .inl (by rw [x,h0 z (by omega) hz];exact fun q=>by cases q)
 ·by_cases q:j<z
  ·exact r.all j v q hv
  ·rw [h0 j (by omega) hj] at hv;cases hv
theorem Ack.step {h:Int→Option VaV} {nm:ByteArray} {z y:Int} {l:List SpV} (r:Ack h nm z l) (hz:z<y) {v:VaV} (h0:∀j,z≤j→j<y→h j=some v):Ack h nm y (Adj l ⟨z,y,nm,v⟩):=by
 unfold Adj
 cases hl:l.getLast? with
 |none =>
  rw [List.getLast?_eq_none_iff] at hl
  subst hl
  simp only [List.nil_append]
  refine ⟨by simp,fun p hp=> ?_,by simp,fun l1 l2 p e=> ?_,fun j w hj hw=> ?_⟩
  ·rw [List.mem_singleton] at hp
   subst hp
   refine ⟨hz,Int.le_refl _,h0,fun q=> ?_⟩
   obtain ⟨p,hp,_⟩:=r.all (z-1) v (by omega) q
   cases hp
  ·cases l1 with
   |nil=>simp only [List.nil_append,List.cons.injEq] at e;exact .inr ⟨by rw [←e.1],e.2.symm⟩
   |cons a l1=>simp at e
  ·by_cases q:j<z
   ·obtain ⟨p,hp,_⟩:=r.all j w q hw
    cases hp
   ·exact ⟨_,List.mem_singleton.2 rfl,by show z≤j;omega,hj⟩
 |some q =>
  obtain ⟨l0,rfl⟩:=List.getLast?_eq_some_iff.1 hl
  have hq:=r.in' q (by simp)
  simp only [List.dropLast_concat]
  split
  ·next hc =>
   obtain ⟨c1,c2⟩:=hc
   have pw:=List.pairwise_append.1 r.pw
   refine ⟨fun p hp=> ?_,fun p hp=> ?_, ?_,fun l1 l2 p e=> ?_,fun j w hj hw=> ?_⟩
   ·rcases List.mem_append.1 hp with x|x
    ·exact r.nm p (by simp [x])
    ·rw [List.mem_singleton] at x;rw [x];exact r.nm q (by simp)
   ·rcases List.mem_append.1 hp with x|x
    ·obtain ⟨a,b,c,d⟩:=r.in' p (by simp [x])
     exact ⟨a,by omega,c,d⟩
    ·rw [List.mem_singleton] at x
     subst x
     refine ⟨by show q.fr<y;omega,Int.le_refl _,fun j h1 h2=> ?_,hq.2.2.2⟩
     show h j=some q.v
     by_cases g:j<z
     ·exact hq.2.2.1 j h1 (by omega)
     ·rw [h0 j (by omega) h2,c2]
   ·refine List.pairwise_append.2 ⟨pw.1,by simp,fun p hp s hs=> ?_⟩
    rw [List.mem_singleton] at hs
    subst hs
    exact pw.2.2 p hp q (by simp)
   ·rcases List.eq_nil_or_concat l2 with rfl|⟨l3,t,rfl⟩
    ·have:p=(⟨q.fr,y,q.nm,q.v⟩:SpV):=by
          have:=congrArg List.getLast? e
          simp at this
          exact this.symm
     exact .inr ⟨by rw [this],rfl⟩
    ·have e2:l0=l1++p::l3:=by
          have:=congrArg List.dropLast e
          simp only [List.dropLast_concat] at this
          rw [this,show l1++p::(l3.concat t)=(l1++p::l3)++[t] by simp,List.dropLast_concat]
     rcases r.ends l1 (l3++[q]) p (by rw [e2];simp) with x|⟨_,x⟩
     ·exact .inl x
     ·simp at x
   ·by_cases g:j<z
    ·obtain ⟨p,hp,h1,h2⟩:=r.all j w g hw
     rcases List.mem_append.1 hp with x|x
     ·exact ⟨p,by simp [x],h1,h2⟩
     ·rw [List.mem_singleton] at x
      subst x
      exact ⟨_,List.mem_append.2 (.inr (List.mem_singleton.2 rfl)),h1,by show j<y;omega⟩
    ·exact ⟨_,List.mem_append.2 (.inr (List.mem_singleton.2 rfl)),by show q.fr≤j;omega,hj⟩
  ·next hc =>
   refine ⟨fun p hp=> ?_,fun p hp=> ?_, ?_,fun l1 l2 p e=> ?_,fun j w hj hw=> ?_⟩
   ·rcases List.mem_append.1 hp with x|x
    ·exact r.nm p x
    ·rw [List.mem_singleton] at x;rw [x]
   ·rcases List.mem_append.1 hp with x|x
    ·obtain ⟨a,b,c,d⟩:=r.in' p x
     exact ⟨a,by omega,c,d⟩
    ·rw [List.mem_singleton] at x
     subst x
     refine ⟨hz,Int.le_refl _,h0,fun g=> ?_⟩
     show False
     obtain ⟨p,hp,h1,h2⟩:=r.all (z-1) v (by omega) g
     have pw:=List.pairwise_append.1 r.pw
     rcases List.mem_append.1 hp with x|x
     ·have a1:=pw.2.2 p x q (by simp)
      have:=hq.1
      have:=hq.2.1
      omega
     ·rw [List.mem_singleton] at x
      subst x
      have a3:=hq.2.2.1 (z-1) h1 h2
      simp only at g
      rw [g] at a3
      exact hc ⟨by have:=hq.2.1;omega,(Option.some.inj a3).symm⟩
   ·refine List.pairwise_append.2 ⟨r.pw,by simp,fun p hp s hs=> ?_⟩
    rw [List.mem_singleton] at hs
    subst hs
    exact (r.in' p hp).2.1
   ·rcases List.eq_nil_or_concat l2 with rfl|⟨l3,t,rfl⟩
    ·have:p=⟨z,y,nm,v⟩:=by
          have:=congrArg List.getLast? e
          simp at this
          exact this.symm
     exact .inr ⟨by rw [this],rfl⟩
    ·have e2:l0++[q]=l1++p::l3:=by
          have:=congrArg List.dropLast e
          simp only [List.dropLast_concat] at this
          rw [this,show l1++p::(l3.concat t)=(l1++p::l3)++[t] by simp,List.dropLast_concat]
     rcases r.ends l1 l3 p e2 with x|⟨x1,x2⟩
     ·exact .inl x
     ·subst x2
      have e3:q=p:=by
           have:=congrArg List.getLast? e2
           simp at this
           exact this
      subst e3
      refine .inl (fun g=>hc ⟨x1, ?_⟩)
      rw [x1,h0 z (by omega) hz] at g
      exact (Option.some.inj g).symm
   ·by_cases g:j<z
    ·obtain ⟨p,hp,h1,h2⟩:=r.all j w g hw
     exact ⟨p,List.mem_append.2 (.inl hp),h1,h2⟩
    ·exact ⟨_,List.mem_append.2 (.inr (List.mem_singleton.2 rfl)),by show z≤j;omega,hj⟩
theorem Ack.mem {h:ByteArray→Int→Option VaV} {nm:ByteArray} {z:Int} {l:List SpV} (r:Ack (h nm) nm z l) (hz:∀j,z≤j→h nm j=none) (p:SpV):p∈l↔Run h p∧p.nm=nm:=by
 have one:∀p∈l,Run h p∧p.nm=nm:=fun p hp=>by
  obtain ⟨a,b,c,d⟩:=r.in' p hp
  have e:=r.nm p hp
  refine ⟨⟨a,by rw [e];exact c,by rw [e];exact d, ?_⟩,e⟩
  rw [e]
  obtain ⟨l1,l2,rfl⟩:=List.append_of_mem hp
  rcases r.ends l1 l2 p rfl with x|⟨x,_⟩
  ·exact x
  ·rw [x,hz z (Int.le_refl _)];exact fun q=>by cases q
 refine ⟨one p,fun ⟨hp,e⟩=> ?_⟩
 have h1:=hp.2.1 p.fr (Int.le_refl _) hp.1
 rw [e] at h1
 have hlt:p.fr<z:=by
  rcases Int.lt_or_le p.fr z with x|x
  ·exact x
  ·rw [hz p.fr x] at h1;cases h1
 obtain ⟨q,hq,h2,h3⟩:=r.all p.fr p.v hlt h1
 obtain ⟨hq1,hq2⟩:=one q hq
 rw [hp.eq hq1 (e.trans hq2.symm) (Int.le_refl _) hp.1 h2 h3]
 exact hq
theorem Ack.nodup {h:Int→Option VaV} {nm:ByteArray} {z:Int} {l:List SpV} (r:Ack h nm z l):l.Nodup:=by
 refine r.pw.imp_of_mem (fun {p q} hp hq hpq e=> ?_)
 subst e
 have:=(r.in' p hp).1
 omega
def hI (C:List SpV) (i:Nat) (j:Int):Int:=match Acy C j with
 |some r=>if i≤r then (r:Int) else -1
 |none=> -1
theorem Amu {C:List SpV} {j:Int} {r:Nat} (h:Acy C j=some r):r<C.length:=by
 obtain ⟨c,h1,_⟩:=Aef.1 h
 exact (List.getElem?_eq_some_iff.1 h1).1
theorem A6a (C:List SpV) (j:Int):hI C C.length j= -1:=by
 unfold hI
 cases h:Acy C j with
 |none=>rfl
 |some r=>have:=Amu h;simp only;rw [if_neg (by omega)]
theorem Asw {C:List SpV} {i:Nat} {c:SpV} (hc:C[i]? =some c) (j:Int):hI C i j=if hI C (i+1) j= -1 then (if inC j c=true then (i:Int) else -1) else hI C (i+1) j:=by
 unfold hI
 cases h:Acy C j with
 |none =>
  simp only [if_true]
  rw [if_neg (by rw [Acu.1 h c (List.mem_of_getElem? hc)];decide)]
 |some r =>
  obtain ⟨d,h1,h2,h3⟩:=Aef.1 h
  simp only
  rcases Nat.lt_trichotomy r i with x|x|x
  ·have n1:¬i≤r:=by omega
   have n2:¬i+1≤r:=by omega
   simp only [if_neg n1,if_neg n2,if_true,h3 i c x hc,Bool.false_eq_true,if_false]
  ·subst x
   rw [hc] at h1;cases h1
   have n2:¬r+1≤r:=by omega
   simp only [Nat.le_refl,if_neg n2,if_true,h2]
  ·have n1:i≤r:=by omega
   have n2:i+1≤r:=by omega
   have n3:¬((r:Int)= -1):=by omega
   simp only [if_pos n1,if_pos n2,if_neg n3]
theorem Asx {C:List SpV} {i:Nat} {j:Int} (h:hI C i j≠ -1):hI C 0 j=hI C i j:=by
 unfold hI at *
 cases e:Acy C j with
 |none=>rfl
 |some r =>
  rw [e] at h
  simp only at h ⊢
  by_cases q:i≤r
  ·rw [if_pos q,if_pos (Nat.zero_le _)]
  ·rw [if_neg q] at h;exact absurd rfl h
def Ap7 (C:List SpV) (z:Int):Option VaV:=if z= -1 then none else A16 C (some z.toNat)
theorem A14 (C:List SpV) (j:Int):Ap7 C (hI C 0 j)=Ag5 C j:=by
 unfold Ap7 Ag5 hI
 cases e:Acy C j with
 |none=>simp [A16]
 |some r=>simp
structure Ac8 (C:List SpV) (K:List Int):Prop where
 asc:K.Pairwise (· < ·)
 mem:∀x,x∈K↔ ∃c∈C,x=c.fr∨x=c.to
theorem Aln {K:List Int} (h:K.Pairwise (· < ·)) {a b:Nat} {x y:Int} (ha:K[a]? =some x) (hb:K[b]? =some y) (hab:a<b):x<y:=by
 obtain ⟨h1,rfl⟩:=List.getElem?_eq_some_iff.1 ha
 obtain ⟨h2,rfl⟩:=List.getElem?_eq_some_iff.1 hb
 exact List.pairwise_iff_getElem.1 h a b h1 h2 hab
theorem Afa {K:List Int} (h:K.Pairwise (· < ·)) {a b:Nat} {x y:Int} (ha:K[a]? =some x) (hb:K[b]? =some y):x<y↔a<b:=by
 rcases Nat.lt_trichotomy a b with q|q|q
 ·exact ⟨fun _=>q,fun _=>Aln h ha hb q⟩
 ·subst q;rw [ha] at hb;cases hb;omega
 ·have:=Aln h hb ha q;omega
section
variable {C:List SpV} {K:List Int} (k:Ac8 C K)
include k
theorem Ac8.piece {a:Nat} {x y:Int} (ha:K[a]? =some x) (hb:K[a+1]? =some y) {j:Int} (h1:x≤j) (h2:j<y):∀c∈C,inC j c=inC x c:=fun c hc=>by
 obtain ⟨p,hp⟩:=List.mem_iff_getElem?.1 ((k.mem c.fr).2 ⟨c,hc, .inl rfl⟩)
 obtain ⟨q,hq⟩:=List.mem_iff_getElem?.1 ((k.mem c.to).2 ⟨c,hc, .inr rfl⟩)
 have e1:=Afa k.asc ha hp
 have e2:=Afa k.asc hp hb
 have e3:=Afa k.asc ha hq
 have e4:=Afa k.asc hq hb
 unfold inC
 rw [Bool.eq_iff_iff]
 simp only [decide_eq_true_eq]
 constructor
 ·rintro ⟨g1,g2⟩
  have:p<a+1:=e2.1 (by omega)
  have:¬x<c.fr:=fun g=>by have:=e1.1 g;omega
  exact ⟨by omega,by omega⟩
 ·rintro ⟨g1,g2⟩
  have:=e3.1 g2
  have:¬c.to<y:=fun g=>by have:=e4.1 g;omega
  exact ⟨by omega,by omega⟩
theorem Ac8.val {a:Nat} {x y:Int} (ha:K[a]? =some x) (hb:K[a+1]? =some y) {j:Int} (h1:x≤j) (h2:j<y):Ag5 C j=Ag5 C x:=by
 unfold Ag5
 rw [Agn (k.piece ha hb h1 h2)]
theorem Ac8.inp {c:SpV} (hc:c∈C) {p q a:Nat} {x:Int} (hp:K[p]? =some c.fr) (hq:K[q]? =some c.to) (ha:K[a]? =some x):inC x c=true↔p≤a∧a<q:=by
 unfold inC
 have e1:=Afa k.asc ha hp
 have e2:=Afa k.asc ha hq
 simp only [decide_eq_true_eq]
 constructor
 ·rintro ⟨g1,g2⟩
  exact ⟨by rcases Nat.lt_or_ge a p with g|g; · have:=e1.2 g;omega
            ·exact g,e2.1 g2⟩
 ·rintro ⟨g1,g2⟩
  refine ⟨?_,e2.2 g2⟩
  have:¬x<c.fr:=fun g=>by have:=e1.1 g;omega
  omega
theorem Ac8.first {x:Int} (h0:K[0]? =some x) {j:Int} (hj:j<x):Ag5 C j=none:=by
 have:Acy C j=none:=Acu.2 fun c hc=>by
  obtain ⟨p,hp⟩:=List.mem_iff_getElem?.1 ((k.mem c.fr).2 ⟨c,hc, .inl rfl⟩)
  have e:=Afa k.asc hp h0
  unfold inC
  rw [decide_eq_false_iff_not]
  rintro ⟨g,_⟩
  have:=e.1 (by omega)
  omega
 unfold Ag5
 rw [this];rfl
theorem Ac8.last {x:Int} {m:Nat} (hm:K.length=m+1) (h0:K[m]? =some x) {j:Int} (hj:x≤j):Ag5 C j=none:=by
 have:Acy C j=none:=Acu.2 fun c hc=>by
  obtain ⟨p,hp⟩:=List.mem_iff_getElem?.1 ((k.mem c.to).2 ⟨c,hc, .inr rfl⟩)
  have e:=Afa k.asc h0 hp
  have:=(List.getElem?_eq_some_iff.1 hp).1
  unfold inC
  rw [decide_eq_false_iff_not]
  rintro ⟨_,g⟩
  have:=e.1 (by omega)
  omega
 unfold Ag5
 rw [this];rfl
theorem Ac8.runs0 (nm:ByteArray) {x:Int} (h0:K[0]? =some x):Ack (Ag5 C) nm x [] :=
 ⟨by simp,by simp,by simp,fun l1 l2 p e=>by simp at e,fun j v hj hv=>by rw [k.first h0 hj] at hv;cases hv⟩
def Ahx (C:List SpV) (nm:ByteArray) (x y:Int) (z:Int) (l:List SpV):List SpV:=match Ap7 C z with
 |some v=>Adj l ⟨x,y,nm,v⟩
 |none=>l
theorem Ac8.next {nm:ByteArray} {l:List SpV} {a:Nat} {x y:Int} (ha:K[a]? =some x) (hb:K[a+1]? =some y) (r:Ack (Ag5 C) nm x l):Ack (Ag5 C) nm y (Ahx C nm x y (hI C 0 x) l):=by
 have hxy:=Aln k.asc ha hb (by omega)
 unfold Ahx
 rw [A14]
 cases e:Ag5 C x with
 |none=>exact r.skip hxy (fun j h1 h2=>by rw [k.val ha hb h1 h2,e])
 |some v=>exact r.step hxy (fun j h1 h2=>by rw [k.val ha hb h1 h2,e])
end
structure NX (H:List Int) (X:List Nat):Prop where
 len:X.length=H.length+1
 le:∀(a x:Nat),X[a]? =some x→a≤x∧x≤H.length
 cl:∀(a x b:Nat),X[a]? =some x→a≤b→b<x→H[b]? ≠some (-1)
 fix:∀(a x:Nat),X[a]? =some x→(x=a↔a=H.length∨H[a]? =some (-1))
theorem NX.half {H:List Int} {X:List Nat} (n:NX H X) {a x y:Nat} (ha:X[a]? =some x) (hx:X[x]? =some y) (hne:x≠a):NX H (X.set a y):=by
 have l1:=n.le a x ha
 have l2:=n.le x y hx
 have al:=(List.getElem?_eq_some_iff.1 ha).1
 have get:∀b z,(X.set a y)[b]? =some z→(b=a∧z=y)∨(b≠a∧X[b]? =some z):=fun b z h=>by
  by_cases e:b=a
  ·subst e
   rw [List.getElem?_set_self al] at h
   exact .inl ⟨rfl,(Option.some.inj h).symm⟩
  ·rw [List.getElem?_set_ne (Ne.symm e)] at h
   exact .inr ⟨e,h⟩
 refine ⟨by simp [n.len],fun b z h=> ?_,fun b z c h h1 h2=> ?_,fun b z h=> ?_⟩
 ·rcases get b z h with ⟨rfl,rfl⟩|⟨_,g⟩
  ·exact ⟨by omega,l2.2⟩
  ·exact n.le b z g
 ·rcases get b z h with ⟨rfl,rfl⟩|⟨_,g⟩
  ·by_cases q:c<x
   ·exact n.cl _ x c ha h1 q
   ·exact n.cl x _ c hx (by omega) h2
  ·exact n.cl b z c g h1 h2
 ·rcases get b z h with ⟨rfl,rfl⟩|⟨_,g⟩
  ·have:=n.fix _ x ha
   constructor
   ·intro e;omega
   ·intro e;exact absurd (this.2 e) hne
  ·exact n.fix b z g
theorem NX.take {H:List Int} {X:List Nat} (n:NX H X) {a:Nat} (ha:X[a]? =some a) (hl:a<H.length) {i:Int} (hi:i≠ -1):NX (H.set a i) (X.set a (a+1)):=by
 have al:=(List.getElem?_eq_some_iff.1 ha).1
 have get:∀b z,(X.set a (a+1))[b]? =some z→(b=a∧z=a+1)∨(b≠a∧X[b]? =some z):=fun b z h=>by
  by_cases e:b=a
  ·subst e
   rw [List.getElem?_set_self al] at h
   exact .inl ⟨rfl,(Option.some.inj h).symm⟩
  ·rw [List.getElem?_set_ne (Ne.symm e)] at h
   exact .inr ⟨e,h⟩
 have gh:∀b,(H.set a i)[b]? =some (-1)→b≠a∧H[b]? =some (-1):=fun b h=>by
  by_cases e:b=a
  ·subst e
   rw [List.getElem?_set_self hl] at h
   exact absurd (Option.some.inj h) hi
  ·rw [List.getElem?_set_ne (Ne.symm e)] at h
   exact ⟨e,h⟩
 refine ⟨by simp [n.len],fun b z h=> ?_,fun b z c h h1 h2=> ?_,fun b z h=> ?_⟩
 ·rw [List.length_set]
  rcases get b z h with ⟨rfl,rfl⟩|⟨_,g⟩
  ·exact ⟨by omega,by omega⟩
  ·exact n.le b z g
 ·intro q
  obtain ⟨g1,g2⟩:=gh c q
  rcases get b z h with ⟨rfl,rfl⟩|⟨_,g⟩
  ·omega
  ·exact n.cl b z c g h1 h2 g2
 ·rw [List.length_set]
  rcases get b z h with ⟨rfl,rfl⟩|⟨e,g⟩
  ·constructor
   ·intro e;omega
   ·rintro (e|e)
    ·omega
    ·exact absurd rfl (gh _ e).1
  ·rw [n.fix b z g]
   constructor
   ·rintro (e|q)
    ·exact .inl e
    ·exact .inr (by rw [List.getElem?_set_ne (Ne.symm e)];exact q)
   ·rintro (e|q)
    ·exact .inl e
    ·exact .inr (gh b q).2
theorem Ayg (m:Nat):NX (List.replicate m (-1)) (List.range (m+1)):=by
 have get:∀a x,(List.range (m+1))[a]? =some x→x=a∧a≤m:=fun a x h=>by
  obtain ⟨h1,h2⟩:=List.getElem?_eq_some_iff.1 h
  simp at h1 h2
  exact ⟨h2.symm,by omega⟩
 refine ⟨by simp,fun a x h=> ?_,fun a x b h h1 h2=> ?_,fun a x h=> ?_⟩
 ·obtain ⟨rfl,h2⟩:=get a x h;simp;omega
 ·obtain ⟨rfl,h3⟩:=get a x h;omega
 ·obtain ⟨rfl,h3⟩:=get a x h
  simp only [List.length_replicate,true_iff]
  by_cases e:x=m
  ·exact .inl e
  ·exact .inr (by rw [List.getElem?_replicate,if_pos (by omega)])
structure FI (C:List SpV) (K:List Int) (i:Nat) (p e a:Nat) (H:List Int):Prop where
 len:H.length+1=K.length
 get:∀(b:Nat) (h x:Int),H[b]? =some h→K[b]? =some x→h=hI C (i+1) x∨(h=(i:Int)∧hI C (i+1) x= -1∧p≤b∧b<e)
 cl:∀(b:Nat),p≤b→b<a→b<e→H[b]? ≠some (-1)
structure FD (C:List SpV) (K:List Int) (i:Nat) (H:List Int):Prop where
 len:H.length+1=K.length
 get:∀(b:Nat) (h x:Int),H[b]? =some h→K[b]? =some x→h=hI C i x
theorem FD.start {C:List SpV} {K:List Int} {i:Nat} {H:List Int} (f:FD C K (i+1) H) (p e:Nat):FI C K i p e p H :=
 ⟨f.len,fun b h x h1 h2=> .inl (f.get b h x h1 h2),fun b h1 h2=>by omega⟩
theorem FD.zero {C:List SpV} {K:List Int} {m:Nat} (hm:m+1=K.length):FD C K C.length (List.replicate m (-1)) :=
 ⟨by simp [hm],fun b h x h1 h2=>by
  rw [A6a]
  rw [List.getElem?_replicate] at h1
  split at h1
  ·exact (Option.some.inj h1).symm
  ·cases h1⟩
section
variable {C:List SpV} {K:List Int} {i p e a:Nat} {H:List Int} {c:SpV}
theorem FI.more (f:FI C K i p e a H) {r:Nat} (hr:∀b,a≤b→b<r→H[b]? ≠some (-1)):FI C K i p e r H :=
 ⟨f.len,f.get,fun b h1 h2 h3=>by
  by_cases q:b<a
  ·exact f.cl b h1 q h3
  ·exact hr b (by omega) h2⟩
theorem FI.take (f:FI C K i p e a H) (k:Ac8 C K) (ho:H[a]? =some (-1)) (hp:p≤a) (he:a<e):FI C K i p e (a+1) (H.set a (i:Int)):=by
 have al:=(List.getElem?_eq_some_iff.1 ho).1
 refine ⟨by simp [f.len],fun b h x h1 h2=> ?_,fun b h1 h2 h3=> ?_⟩
 ·by_cases q:b=a
  ·subst q
   rw [List.getElem?_set_self al] at h1
   cases h1
   rcases f.get b (-1) x ho h2 with g|⟨g,_⟩
   ·exact .inr ⟨rfl,g.symm,hp,he⟩
   ·omega
  ·rw [List.getElem?_set_ne (Ne.symm q)] at h1
   exact f.get b h x h1 h2
 ·by_cases q:b=a
  ·subst q
   rw [List.getElem?_set_self al]
   intro g;have:=Option.some.inj g;omega
  ·rw [List.getElem?_set_ne (Ne.symm q)]
   exact f.cl b h1 (by omega) h3
theorem FI.done (f:FI C K i p e a H) (k:Ac8 C K) (hc:C[i]? =some c) (hp:K[p]? =some c.fr) (hq:K[e]? =some c.to) (ha:e≤a):FD C K i H:=by
 refine ⟨f.len,fun b h x h1 h2=> ?_⟩
 rw [Asw hc]
 have ip:=k.inp (List.mem_of_getElem? hc) hp hq h2
 rcases f.get b h x h1 h2 with g|⟨g1,g2,g3,g4⟩
 ·by_cases z:hI C (i+1) x= -1
  ·rw [if_pos z]
   rw [z] at g
   subst g
   rw [if_neg]
   intro y
   obtain ⟨y1,y2⟩:=ip.1 y
   exact f.cl b y1 (by omega) y2 h1
  ·rw [if_neg z];exact g
 ·rw [if_pos g2,if_pos (ip.2 ⟨g3,g4⟩)];exact g1
theorem FI.full (f:FI C K i p e a H) (k:Ac8 C K) (hc:C[i]? =some c) (hp:K[p]? =some c.fr) (hq:K[e]? =some c.to) (hz:H.countP (fun z=>decide (z= -1))=0):FD C K 0 H:=by
 refine ⟨f.len,fun b h x h1 h2=> ?_⟩
 have ip:=k.inp (List.mem_of_getElem? hc) hp hq h2
 have hne:h≠ -1:=fun q=>by
  rw [List.countP_eq_zero] at hz
  exact hz h (List.mem_of_getElem? h1) (by simp [q])
 rcases f.get b h x h1 h2 with g|⟨g1,g2,g3,g4⟩
 ·rw [Asx (i:=i+1) (by rw [←g];exact hne)];exact g
 ·have:hI C i x=(i:Int):=by rw [Asw hc,if_pos g2,if_pos (ip.2 ⟨g3,g4⟩)]
  rw [Asx (i:=i) (by rw [this];omega),this];exact g1
end
theorem Aj5:∀{H:List Int} {a:Nat} {i:Int},H[a]? =some (-1)→i≠ -1→H.countP (fun z=>decide (z= -1))=(H.set a i).countP (fun z=>decide (z= -1))+1
 |[],a,i,h,_=>by simp at h
 |x::H,0,i,h,hi=>by
  simp only [List.getElem?_cons_zero,Option.some.injEq] at h
  subst h
  simp [List.countP_cons,hi]
 |x::H,a+1,i,h,hi=>by
  have:=Aj5 (H:=H) (a:=a) (i:=i) (by simpa using h) hi
  simp only [List.set_cons_succ,List.countP_cons,this]
  omega
theorem Ac5 {d:List Int} {i:Nat} (h:i<d.length):d.toArray[i]! =d[i]:=by simp [h]
theorem Ali {d:List Int} (h:d.Pairwise (· ≤ ·)):(Lib.compact d).Pairwise (· < ·):=by
 unfold Lib.compact Lib.compactUpTo
 rw [List.pairwise_map]
 have h0:((List.range d.length).filter (Lib.keeps d.toArray)).Pairwise (· < ·):=(List.pairwise_lt_range (n:=d.length)).filter _
 refine h0.imp_of_mem (fun {a b} ha hb hab=> ?_)
 rw [List.mem_filter,List.mem_range] at ha hb
 have e1:=Ac5 ha.1
 have e2:=Ac5 hb.1
 have e3:d.toArray[b-1]! =d[b-1]:=Ac5 (by omega)
 have hk:=hb.2
 unfold Lib.keeps at hk
 rw [decide_eq_true_eq] at hk
 rcases hk with q|q
 ·omega
 ·rw [e2,e3] at q
  rw [e1,e2]
  have g:=List.pairwise_iff_getElem.1 h
  have g1:=g (b-1) b (by omega) hb.1 (by omega)
  by_cases x:a=b-1
  ·subst x;omega
  ·have:=g a (b-1) ha.1 (by omega) (by omega);omega
theorem Alh {d:List Int} (x:Int):x∈Lib.compact d↔x∈d:=by
 unfold Lib.compact Lib.compactUpTo
 rw [List.mem_map]
 constructor
 ·rintro ⟨j,hj,rfl⟩
  rw [List.mem_filter,List.mem_range] at hj
  rw [Ac5 hj.1]
  exact List.getElem_mem hj.1
 ·intro hx
  obtain ⟨j,hj,rfl⟩:=List.mem_iff_getElem.1 hx
  clear hx
  induction j with
  |zero=>exact ⟨0,by rw [List.mem_filter,List.mem_range];exact ⟨hj,by simp [Lib.keeps]⟩,Ac5 hj⟩
  |succ j ih =>
   by_cases q:d[j+1]=d[j]
   ·obtain ⟨k,hk,e⟩:=ih (by omega)
    exact ⟨k,hk,by rw [e,q]⟩
   ·refine ⟨j+1, ?_,Ac5 hj⟩
    rw [List.mem_filter,List.mem_range]
    refine ⟨hj, ?_⟩
    unfold Lib.keeps
    rw [decide_eq_true_eq]
    refine .inr ?_
    rw [Ac5 hj,show j+1-1=j by omega,Ac5 (by omega)]
    exact q
theorem Ahk (d:List Int):(Lib.compact d).length≤d.length:=by
 unfold Lib.compact Lib.compactUpTo
 rw [List.length_map]
 have:=List.length_filter_le (Lib.keeps d.toArray) (List.range d.length)
 simpa using this
theorem Av2 {K:List Int} (h:K.Pairwise (· < ·)) {p:Nat} {x:Int} (hp:K[p]? =some x):K.countP (fun y=>decide (y<x))=p:=by
 induction K generalizing p with
 |nil=>simp at hp
 |cons y K ih =>
  have a:=List.pairwise_cons.1 h
  cases p with
  |zero =>
   simp only [List.getElem?_cons_zero,Option.some.injEq] at hp
   subst hp
   rw [List.countP_cons]
   have:K.countP (fun z=>decide (z<y))=0:=List.countP_eq_zero.2 fun z hz=>by have:=a.1 z hz;simp;omega
   rw [this]
   simp
  |succ p =>
   have hx:K[p]? =some x:=by simpa using hp
   have:=a.1 x (List.mem_of_getElem? hx)
   rw [List.countP_cons,ih a.2 hx,if_pos (by simpa using this)]
def Ad6 (C:List SpV):List Int:=C.flatMap fun c=>[c.fr,c.to]
def Aop (l:List Int):List Int:=l.mergeSort fun x y=>decide (x≤y)
theorem Aw2 (l:List Int):(Aop l).Pairwise (· ≤ ·):=by
 have:=List.pairwise_mergeSort (le:=fun x y:Int=>decide (x≤y)) (fun a b c h1 h2=>by simp at *;omega) (fun a b=>by simp;omega) l
 unfold Aop
 simpa using this
theorem Aw1 (l:List Int) (x:Int):x∈Aop l↔x∈l:=by unfold Aop;exact List.mem_mergeSort
theorem Aeu (l:List Int):(Aop l).length=l.length:=by unfold Aop;exact List.length_mergeSort l
def Aaf (C:List SpV):List Int:=Lib.compact (Aop (Ad6 C))
theorem Afp (C:List SpV):Ac8 C (Aaf C):=⟨Ali (Aw2 _),fun x=>by
 unfold Aaf
 rw [Alh,Aw1]
 unfold Ad6
 simp only [List.mem_flatMap,List.mem_cons,List.not_mem_nil,or_false]⟩
theorem Ae1 (C:List SpV):(Ad6 C).length=2*C.length:=by
 unfold Ad6
 induction C with
 |nil=>rfl
 |cons c C ih=>simp only [List.flatMap_cons,List.length_append,List.length_cons,List.length_nil,ih];omega
theorem Af7 (C:List SpV):(Aaf C).length≤2*C.length:=by
 unfold Aaf
 have:=Ahk (Aop (Ad6 C))
 rw [Aeu,Ae1] at this
 exact this
theorem Af6 {C:List SpV} {c:SpV} (hc:c∈C) (h:c.fr<c.to):2≤(Aaf C).length:=by
 obtain ⟨p,hp⟩:=List.mem_iff_getElem?.1 (((Afp C).mem c.fr).2 ⟨c,hc, .inl rfl⟩)
 obtain ⟨q,hq⟩:=List.mem_iff_getElem?.1 (((Afp C).mem c.to).2 ⟨c,hc, .inr rfl⟩)
 have:=(Afa (Afp C).asc hp hq).1 h
 have:=(List.getElem?_eq_some_iff.1 hq).1
 omega
end
section
open Go.RowKit Go.Shelf Go.Sort
abbrev iz (x:Int):Value:= .int .i64 x
def Ab0 (w:World) (base:Nat) (v:Value) (L:List Int):Prop:=Ab7 w base 3 v (L.map iz)
theorem Ay0:(prog.info? 3).map (fun i=>(i.zero,i.size,i.bytes))=some (some (.int .i64 0),1,8):=by kernel_rfl
theorem A0q:prog.underlying 150=some (.slice 3):=underlying150
section
variable {w w':World} {base:Nat} {v:Value} {L:List Int}
theorem Ab0.keep (h:Ab0 w base v L) (hk:∀k,v.ownBlock=some k→w'.heap[k]? =w.heap[k]?):Ab0 w' base v L:=Ab7.keep h hk
theorem Ab0.below (h:Ab0 w base v L) (hb:Below w.heap.size w w'):Ab0 w' base v L:=Ab7.below h hb
theorem Ab0.ge (h:Ab0 w base v L):∀j,v.ownBlock=some j→base≤j∧∃c,w.heap[j]? =some (.cells c 3 (0,0)):=Ab7.ge h
theorem Ab0.lt (h:Ab0 w base v L) {k:Nat} (hk:v.ownBlock=some k):k<w.heap.size:=Ab7.lt h hk
theorem Ab0.mono {b2:Nat} (h:Ab0 w base v L) (hb:b2≤base):Ab0 w b2 v L:=by
 refine ⟨h.1, ?_⟩
 rcases h.2 with hn|⟨g,cap,cur,rfl,hbg,rest⟩
 ·exact .inl hn
 ·exact .inr ⟨g,cap,cur,rfl,Nat.le_trans hb hbg,rest⟩
theorem A0z (w:World) (base:Nat):Ab0 w base (.slice none 0 0) []:=⟨by simp, .inl ⟨rfl,rfl⟩⟩
theorem Ab0.form (h:Ab0 w base v L):∃a cap,v= .slice a L.length cap∧L.length≤cap:=by
 obtain ⟨a,cap,e,hc,_⟩:=Ab7.open h
 rw [List.length_map] at e hc
 exact ⟨a,cap,e,hc⟩
theorem Ab0.at (h:Ab0 w base v L) (hne:L≠[]):∃g cap,v= .slice (some ⟨g,0,none⟩) L.length cap∧base≤g∧g<w.heap.size∧(∀i x,L[i]? =some x→w.cell? ⟨g,i,none⟩=some (iz x))∧v.ownBlock=some g:=by
 rcases h.2 with ⟨_,hn⟩|⟨g,cap,cur,rfl,hbg,hg,hnc,hcm,hcs,ht⟩
 ·rw [List.length_map] at hn
  exact absurd (List.eq_nil_of_length_eq_zero hn) hne
 ·refine ⟨g,cap,by rw [List.length_map],hbg,(Array.getElem?_eq_some_iff.1 hg).1,fun i x hx=> ?_,rfl⟩
  rw [cell_of_row w g i cur 3 (0,0) hg]
  have hj:(L.map iz)[i]? =some (iz x):=by rw [List.getElem?_map,hx];rfl
  rw [←ht,List.getElem?_take] at hj
  split at hj
  ·simpa using hj
  ·cases hj
theorem Ab0.set (h:Ab0 w base v L) {i:Nat} (hi:i<L.length) (x:Int):∃g cap,v= .slice (some ⟨g,0,none⟩) L.length cap∧g<w.heap.size∧(Instr.storeAt 3 (pZ g i) (iz x)).run prog w= .ok () (w.setCell ⟨g,i,none⟩ (iz x))∧Ab0 (w.setCell ⟨g,i,none⟩ (iz x)) base v (L.set i x)∧Tch (fun j=>v.ownBlock=some j) w (w.setCell ⟨g,i,none⟩ (iz x)):=by
 rcases h.2 with ⟨_,hn⟩|⟨g,cap,cur,rfl,hbg,hg,hnc,hcm,hcs,ht⟩
 ·rw [List.length_map] at hn;omega
 ·rw [List.length_map] at hnc ht
  have hic:i<cur.size:=by omega
  obtain ⟨y,hy⟩:∃y,cur[i]? =some y:=⟨_,Array.getElem?_eq_getElem hic⟩
  have hc:w.cell? ⟨g,i,none⟩=some (iz L[i]):=by
   have hj:(L.map iz)[i]? =some (iz L[i]):=by rw [List.getElem?_map,List.getElem?_eq_getElem hi];rfl
   rw [←ht,List.getElem?_take] at hj
   rw [cell_of_row w g i cur 3 (0,0) hg]
   split at hj
   ·simpa using hj
   ·cases hj
  have hf:=frozen_of_row w g i _ _ hg
  have hh:=Go.heap_setCell_same w g i _ _ (iz x) hg
  have ho:∀j,j≠g→(w.setCell ⟨g,i,none⟩ (iz x)).heap[j]? =w.heap[j]? :=fun j hj=>Below.heap_setCell _ _ _ _ hj
  refine ⟨g,cap,by rw [List.length_map],(Array.getElem?_eq_some_iff.1 hg).1,by go_simp,⟨by simp, .inr ⟨g,cap,_,by simp,hbg,hh,by simp;omega,hcm,by simpa using hcs, ?_⟩⟩,⟨rfl,rfl,rfl,by simp [World.setCell],fun j hj hn=>ho j (fun e=>hn (by rw [e];rfl))⟩⟩
  rw [List.length_map,List.length_set,List.map_set]
  rw [Array.toList_setIfInBounds,List.take_set,ht]
theorem Al4 (x:Int) (w:World):(Instr.buildSlice 150 1 #[(0, .int .i64 x)]).run prog w= .ok (.slice (some ⟨w.heap.size,0,none⟩) 1 1) (w.alloc (.cells #[.int .i64 x] 3)):=by
 obtain ⟨ie,hi,hz0,hs,hby⟩:=info_parts Ay0
 refine run_buildSlice w 150 3 1 _ #[.int .i64 x] ie _ A0q hi hz0 (by rw [hs];decide) (by rw [hs];decide) ?_
 rw [hs]
 have:=Go.Great.fill_whole (s:=1) (by decide) [.int .i64 x] ((Array.range (1*1)).map ((Value.int .i64 0).cells[· % (Value.int .i64 0).cells.size]!)) (by intro u hu;simp at hu;subst hu;rfl) (by simp)
 simpa [Value.cells] using this
theorem Axl (x y:Int) (w:World):(Instr.buildSlice 150 2 #[(0, .int .i64 x),(1, .int .i64 y)]).run prog w= .ok (.slice (some ⟨w.heap.size,0,none⟩) 2 2) (w.alloc (.cells #[.int .i64 x, .int .i64 y] 3)):=by
 obtain ⟨ie,hi,hz0,hs,hby⟩:=info_parts Ay0
 refine run_buildSlice w 150 3 2 _ #[.int .i64 x, .int .i64 y] ie _ A0q hi hz0 (by rw [hs];decide) (by rw [hs];decide) ?_
 rw [hs]
 have:=Go.Great.fill_whole (s:=1) (by decide) [.int .i64 x, .int .i64 y] ((Array.range (2*1)).map ((Value.int .i64 0).cells[· % (Value.int .i64 0).cells.size]!)) (by intro u hu;simp at hu;rcases hu with rfl|rfl <;>rfl) (by simp)
 simpa [Value.cells] using this
theorem Ap6 (w:World) (M:List Int):A63 (w.alloc (.cells (M.map iz).toArray 3)) (some ⟨w.heap.size,0,none⟩) (M.map iz) :=
 .inr ⟨_,_,rfl,fun j u hj=>by
  rw [Nat.zero_add,cell_of_row _ _ _ _ _ _ (heap_alloc_new _ _)]
  simpa using hj⟩
theorem Ab0.app (h:Ab0 w base v L) (hb:base≤w.heap.size) (M:List Int) {bs:Sem Value} (hbs:bs.run prog w= .ok (.slice (some ⟨w.heap.size,0,none⟩) M.length M.length) (w.alloc (.cells (M.map iz).toArray 3))) (hn:L.length+M.length≤2000000000000) :
 ∃sv w1 v2 w2,bs.run prog w= .ok sv w1∧Below w.heap.size w w1∧(Builtin.append_ #[150,150] 150 #[v,sv]).run prog w1= .ok v2 w2∧Ab0 w2 base v2 (L++M)∧Tch (fun j=>v.ownBlock=some j) w w2∧(v2.ownBlock=v.ownBlock∨∀j,v2.ownBlock=some j→w.heap.size≤j):=by
 have b1:Below w.heap.size w (w.alloc (.cells (M.map iz).toArray 3)):=(Below.refl _ _).alloc (Nat.le_refl _) _
 have v1:=Ap6 w M
 generalize w.alloc (.cells (M.map iz).toArray 3)=w1 at *
 obtain ⟨v2,w2,e2,o2,g2,q2⟩:=Al5 150 3 8 (.int .i64 0) A0q Ay0 (.inl rfl) rfl w1 base 150 v (L.map iz) _ (M.map iz) M.length (Ab7.below h b1) v1 (fun u hu=>by obtain ⟨x,_,rfl⟩:=List.mem_map.1 hu;rfl) (by simpa using hn) (Nat.le_trans hb b1.size)
 rw [List.length_map] at e2
 have t2:Tch (fun j=>v.ownBlock=some j) w1 w2:=⟨g2.os,g2.tape,g2.output,g2.size,fun j hj hn=>g2.block j hj (fun e=>hn e.symm)⟩
 refine ⟨_,w1,v2,w2,hbs,b1,e2, ?_,(Aan b1 _).trans t2,q2.imp id (fun q j hj=>by rw [q] at hj;injection hj with hj;have:=b1.size;omega)⟩
 unfold Ab0
 rw [List.map_append]
 exact o2
theorem Ab0.holds (h:Ab0 w base v L) (hne:L≠[]):∃g cap,v= .slice (some ⟨g,0,none⟩) L.length cap∧base≤g∧g<w.heap.size∧L.length≤cap∧cap≤maxLen∧Holds iz w g 0 L.toArray∧∃cur,w.heap[g]? =some (.cells cur 3 (0,0))∧cur.size=cap*1:=by
 have h':w.ownsRow base 3 1 v L.length (L.map iz):=by have:=h;unfold Ab0 Ab7 at this;rw [List.length_map] at this;exact this
 have hv:v≠ .slice none 0 0:=fun e=>by
  rcases h'.2 with ⟨_,hn⟩|⟨g,cap,cur,e2,_⟩
  ·exact hne (List.eq_nil_of_length_eq_zero hn)
  ·rw [e] at e2;cases e2
 obtain ⟨g,cap,e,hb,hlt,hn,hm,_,hH⟩:=Lib.holds_of_ownsRow h' hv
 refine ⟨g,cap,e,hb,hlt,hn,hm,hH, ?_⟩
 rcases h'.2 with ⟨e0,_⟩|⟨g',cap',cur,e2,_,hg,_,_,hs,_⟩
 ·exact absurd e0 hv
 ·rw [e] at e2;cases e2
  exact ⟨cur,hg,hs⟩
theorem Ab0.sort (h:Ab0 w base v L) (hne:L≠[]) (hn:L.length≤2000000000000):Calls prog 108 #[v] w fun e w'=>e= .returned (.tuple #[])∧Ab0 w' base v (Aop L)∧Tch (fun j=>v.ownBlock=some j) w w':=by
 obtain ⟨g,cap,rfl,hb,hlt,hnc,hcm,hH,cur,hg,hs⟩:=h.holds hne
 have c:=Any.slices_Sort_int A7g g 0 cap L w hH hlt (by omega)
 change Calls prog 108 _ _ _ at c
 refine c.mono ?_
 rintro e w' ⟨he,n,os,rfl⟩
 refine ⟨he, ?_, ?_⟩
 ·have:=ownsRow_sortedI (ts:=Aop L) (ss:=L) (os:=os) (n:=n) (Aeu L) hb hg hnc hcm hs
  unfold Ab0 Ab7
  rw [List.length_map,Aeu]
  exact this
 ·have gb:=grownBy_sortedI (w:=w) (g:=g) (n:=n) (os:=os) (Aop L).toArray
  exact ⟨gb.os,gb.tape,gb.output,gb.size,fun j hj hn=>gb.block j hj (fun e=>hn (by cases e;rfl))⟩
theorem Ab0.compact (h:Ab0 w base v L) (hne:L≠[]) (hn:L.length≤2000000000000):Calls prog 109 #[v] w fun e w'=> ∃v',e= .returned v'∧Ab0 w' base v' (Lib.compact L)∧v'.ownBlock=v.ownBlock∧Tch (fun j=>v.ownBlock=some j) w w':=by
 obtain ⟨g,cap,rfl,hb,hlt,hnc,hcm,hH,cur,hg,hs⟩:=h.holds hne
 have c:=Any.slices_Compact_int Azv g 0 cap L w hH (by omega) hnc
 change Calls prog 109 _ _ _ at c
 refine c.mono ?_
 rintro e w' ⟨he,q,rfl⟩
 have h':w.ownsRow base 3 1 (.slice (some ⟨g,0,none⟩) L.length cap) L.length (L.map iz):=by have:=h;unfold Ab0 Ab7 at this;rw [List.length_map] at this;exact this
 have hl:=Ahk L
 have o:=Lib.ownsRow_putRow (q:=q) (k:=(Lib.compact L).length) (ys:=Lib.compact L++List.replicate (L.length-(Lib.compact L).length) 0) h' (by simp;omega) hl
 rw [List.take_left] at o
 refine ⟨_,he, ?_,rfl, ?_⟩
 ·unfold Ab0 Ab7
  rw [List.length_map]
  exact o
 ·have gb:=grownBy_sortedI (w:=w) (g:=g) (n:=q) (os:= #[]) (Lib.compact L++List.replicate (L.length-(Lib.compact L).length) 0).toArray
  have e0:∀W:World,grow W #[]=W:=fun W=>by simp [grow]
  rw [e0] at gb
  exact ⟨gb.os,gb.tape,gb.output,gb.size,fun j hj hn=>gb.block j hj (fun e=>hn (by cases e;rfl))⟩
theorem Ab0.search (h:Ab0 w base v L) (hs:L.Pairwise (· < ·)) (hn:L.length≤2000000000000) {p:Nat} {x:Int} (hp:L[p]? =some x):Calls prog 112 #[v,iz x] w fun e w'=> ∃b,e= .returned (.tuple #[.int .i64 (p:Int), .bool b])∧∃q,w'=w.drewN q:=by
 have hne:L≠[]:=fun e=>by rw [e] at hp;simp at hp
 obtain ⟨g,cap,rfl,hb,hlt,hc,_⟩:=h.at hne
 have c:=Any.slices_BinarySearch_int A2k g 0 L.length cap L x w (Nat.le_refl _) (by omega) (fun j hj=>by
  rw [Nat.zero_add,List.getD_eq_getElem?_getD,List.getElem?_eq_getElem hj]
  exact hc j _ (List.getElem?_eq_getElem hj)) (by rw [List.take_length];exact hs.imp (fun h=>by omega))
 change Calls prog 112 _ _ _ at c
 refine c.mono ?_
 rintro e w' ⟨he,q⟩
 rw [List.take_length,Av2 hs hp] at he
 exact ⟨_,he,q⟩
end
end
section
open Go.RowKit
theorem Aeh (b o:Nat) (w:World):(Instr.fieldAt 152 (pZ b o) 0).run prog w= .ok (pZ b (o+0)) w:=by go_simp
theorem Anx (b o:Nat) (w:World):(Instr.fieldAt 152 (pZ b o) 1).run prog w= .ok (pZ b (o+1)) w:=by go_simp
theorem Ay8 (b o:Nat) (w:World):(Instr.fieldAt 152 (pZ b o) 2).run prog w= .ok (pZ b (o+2)) w:=by go_simp
theorem Aia (b o:Nat) (w:World):(Instr.fieldAt 65 (pZ b o) 3).run prog w= .ok (pZ b (o+3)) w:=by go_simp
theorem A7t (a:Option Addr) (m c:Nat) (w:World):(Builtin.len_ #[150] 3 #[.slice a m c]).run prog w= .ok (.int .i64 (m:Int)) w:=by go_simp
theorem A5w (a:Option Addr) (m c:Nat) (w:World):(Builtin.len_ #[49] 3 #[.slice a m c]).run prog w= .ok (.int .i64 (m:Int)) w:=by go_simp
theorem Awd {b n c i:Nat} (hi:i<n) (hm:n≤9223372036854775807) (W:World):(Instr.indexAt 150 (.slice (some ⟨b,0,none⟩) n c) (.int .i64 (i:Int))).run prog W= .ok (pZ b i) W:=by
 go_simp
theorem Acn {b o n c i:Nat} (hi:i<n) (hm:n≤9223372036854775807) (W:World):(Instr.indexAt 49 (.slice (some ⟨b,o,none⟩) n c) (.int .i64 (i:Int))).run prog W= .ok (pZ b (o+7*i)) W:=by
 rw [Nat.mul_comm]
 go_simp
theorem Aig {a:Act} {w:World} {o:Oper} {x y:Operand} {p q:Int} {r:Bool} (ho:o.op= .binOp .eql 37 x y 37) (hx:a.eval x= .int .u8 p) (hy:a.eval y= .int .u8 q) (h:decide (p=q)=r):(execOp a.eval o).run prog w= .ok (.value (.bool r)) w:=by
 unfold execOp
 simp only [ho,hx,hy]
 subst h
 by_cases e:p=q <;>go_simp
def pcZ:Value:= .agg #[.slice none 0 0, .slice none 0 0, .slice none 0 0]
theorem Az9 (w:World):(Instr.build 152 #[]).run prog w= .ok pcZ w:=by kernel_rfl
theorem Aj1 {P:Program} {w:World} {a:Act} {o:Oper} {t:TypeId} {x y:Operand} {xv yv v:Value} (ho:o.op= .lookup t x y false) (hx:a.eval x=xv) (hy:a.eval y=yv) (hl:(Instr.lookup t xv yv false).run P w= .ok v w):(execOp a.eval o).run P w= .ok (.value v) w:=by
 unfold execOp;simp only [ho,hx,hy,Sem.run_bind,hl,Result.andThen_ok,Sem.run_pure]
theorem Ak9 {P:Program} {w w2:World} {a:Act} {o:Oper} {t:TypeId} {x:Operand} {xv v:Value} (ho:o.op= .range t x) (hx:a.eval x=xv) (hl:(Instr.range t xv).run P w= .ok v w2):(execOp a.eval o).run P w= .ok (.value v) w2:=by
 unfold execOp;simp only [ho,hx,Sem.run_bind,hl,Result.andThen_ok,Sem.run_pure]
theorem Ala {P:Program} {w:World} {a:Act} {o:Oper} {x:Operand} {xv v:Value} (ho:o.op= .entry x) (hx:a.eval x=xv) (hl:(Instr.entry xv).run P w= .ok v w):(execOp a.eval o).run P w= .ok (.value v) w:=by
 unfold execOp;simp only [ho,hx,Sem.run_bind,hl,Result.andThen_ok,Sem.run_pure]
theorem Atq {w:World} {a:Act} {o:Oper} {x y:Operand} {p q:Int} {r:Bool} (ho:o.op= .binOp .neq 3 x y 3) (hx:a.eval x= .int .i64 p) (hy:a.eval y= .int .i64 q) (h:decide (p≠q)=r):(execOp a.eval o).run prog w= .ok (.value (.bool r)) w:=by
 unfold execOp
 simp only [ho,hx,hy]
 subst h
 by_cases e:p=q <;>go_simp
theorem Alc {w:World} {a:Act} {o:Oper} {x y:Operand} {p m:Int} (ho:o.op= .binOp .sub 3 x y 3) (hx:a.eval x= .int .i64 p) (hy:a.eval y= .int .i64 1) (h:p-1=m) (hb: -9223372036854775808≤p-1∧p-1≤9223372036854775807):(execOp a.eval o).run prog w= .ok (.value (.int .i64 m)) w:=by
 rw [←h]
 exact Atp ho hx hy hb
theorem A3x {w:World} {a:Act} {o:Oper} {x y:Operand} {p k:Nat} (h:(p:Int)+1=(k:Int)) (hb:(k:Int)≤9223372036854775807) (ho:o.op= .binOp .add 3 x y 3) (hx:a.eval x= .int .i64 p) (hy:a.eval y= .int .i64 1):(execOp a.eval o).run prog w= .ok (.value (.int .i64 (k:Int))) w:=by
 rw [←h]
 exact An1 ho hx hy (by omega)
def Asy:Array Oper:=(⟨_,rfl⟩:{o // some o=rgB Tryz.f90 1}).1
theorem A7y {ab bb:Nat} {p q:SpV} {z:Int} {r:Bool} (Fin:World→Prop) (a:Act) (w:World) (Q:Exit→Act→World→Prop) (zz:a.tmps.size=18)
 (t2:a.tmps.getD 2 undef= (pZ ab 0))
 (t3:a.tmps.getD 3 undef= (pZ bb 0))
 (hq:decide (p.to=q.fr)=true) (hz:decide (z=0)=r) (L1:(Instr.loadAt 3 (pZ ab (0+1))).run prog w= .ok (.int .i64 p.to) w) (L2:(Instr.loadAt 3 (pZ bb (0+0))).run prog w= .ok (.int .i64 q.fr) w) (L3:(Instr.loadAt 40 (pZ ab (0+3))).run prog w= .ok (p.v.v) w) (L4:(Instr.loadAt 40 (pZ bb (0+3))).run prog w= .ok (q.v.v) w) (CC:Calls prog 114 #[p.v.v,q.v.v] w fun e w'=>e= .returned (.int .i64 z)∧Fin w')
 (h:∀a' w',Fin w'→a'=(((((((((((((a.put (some 5) (pZ ab (0+1))).put (some 6) (.int .i64 p.to)).put (some 7) (pZ bb (0+0))).put (some 8) (.int .i64 q.fr)).put (some 9) (.bool true)).put (some 10) (.bool true)).put (some 11) (pZ ab (0+3))).put (some 12) (p.v.v)).put (some 13) (pZ bb (0+3))).put (some 14) (q.v.v)).put (some 15) (.int .i64 z)).put (some 16) (.bool r)).put (some 17) (.bool r)).put (some 4) (.bool r)→Q .normal a' w') :
 (Code.region 1 Asy false).wp prog Q a w:=by
 refine z0 rfl ?_
 refine zv rfl (xfa rfl (zi t2 rfl) (Ad3 _ _ _)) ?_
 refine zv rfl (xld rfl (zg zz rfl) L1) ?_
 refine zv rfl (xfa rfl (zi t3 rfl) (Afl _ _ _)) ?_
 refine zv rfl (xld rfl (zg zz rfl) L2) ?_
 refine zv (v:= .bool true) rfl (Agt rfl (zg zz rfl) (zg zz rfl) hq) ?_
 refine zv rfl (xmv rfl (zg zz rfl)) ?_
 refine zv (zw zz rfl rfl rfl (zg zz rfl)) (xfa rfl (zi t2 rfl) (Aia _ _ _)) ?_
 refine zv (zw zz rfl rfl rfl (zg zz rfl)) (xld rfl (zg zz rfl) L3) ?_
 refine zv (zw zz rfl rfl rfl (zg zz rfl)) (xfa rfl (zi t3 rfl) (Aia _ _ _)) ?_
 refine zv (zw zz rfl rfl rfl (zg zz rfl)) (xld rfl (zg zz rfl) L4) ?_
 refine zc (zw zz rfl rfl rfl (zg zz rfl)) (Aap rfl (zg zz rfl) (zg zz rfl)) (CC) (fun e x10 hx=> ?_)
 obtain ⟨rfl,HF⟩:=hx
 refine ⟨_,rfl, ?_⟩
 refine zv (v:= .bool r) (zw zz rfl rfl rfl (zg zz rfl)) (Agt rfl (zg zz rfl) rfl hz) ?_
 refine zv rfl (Abm rfl (zg zz rfl) (zg zz rfl)) ?_
 refine zv rfl (xas rfl (zg zz rfl)) ?_
 exact ze rfl (h _ _ (HF) rfl)
def Azm:Array Oper:=(⟨_,rfl⟩:{o // some o=rgB Tryz.f88 7}).1
theorem A92 {pb:Nat} {kv:Value} (Fin:World→Prop) (a:Act) (w:World) (Q:Exit→Act→World→Prop) (zz:a.tmps.size=73)
 (t3:a.tmps.getD 3 undef= (pZ pb 0))
 (LK:(Instr.loadAt 150 (pZ pb (0+0))).run prog w= .ok (kv) w) (CC:Calls prog 108 #[kv] w fun e w'=>e= .returned (.tuple #[])∧Fin w')
 (h:∀a' w',Fin w'→a'=((((a.put (some 29) (pZ pb 0)).put (some 30) (pZ pb 0)).put (some 31) (pZ pb (0+0))).put (some 32) (kv)).put (some 33) (.tuple #[])→Q .normal a' w') :
 (Code.region 7 Azm false).wp prog Q a w:=by
 refine z0 rfl ?_
 refine zv rfl (xmv rfl (zi t3 rfl)) ?_
 refine zv rfl (xnc rfl (zg zz rfl)) ?_
 refine zv rfl (xfa rfl (zg zz rfl) (Aeh _ _ _)) ?_
 refine zv rfl (xld rfl (zg zz rfl) LK) ?_
 refine zc rfl (Adc rfl (zg zz rfl)) (CC) (fun e x4 hx=> ?_)
 obtain ⟨rfl,HF⟩:=hx
 refine ⟨_,rfl, ?_⟩
 exact ze rfl (h _ _ (HF) rfl)
def Azl:Array Oper:=(⟨_,rfl⟩:{o // some o=rgB Tryz.f88 8}).1
theorem A91 {pb:Nat} {kv:Value} (Fin:Value→World→Prop) (a:Act) (w:World) (Q:Exit→Act→World→Prop) (zz:a.tmps.size=73)
 (t3:a.tmps.getD 3 undef= (pZ pb 0))
 (LK:(Instr.loadAt 150 (pZ pb (0+0))).run prog w= .ok (kv) w) (CC:Calls prog 109 #[kv] w fun e w1=> ∃u2,e= .returned u2∧∃w2,(Instr.storeAt 150 (pZ pb (0+0)) u2).run prog w1= .ok () w2∧Fin u2 w2)
 (h:∀(u2:Value) a' w',Fin u2 w'→a'=(((((((a.put (some 34) (pZ pb 0)).put (some 35) (pZ pb 0)).put (some 36) (pZ pb 0)).put (some 37) (pZ pb (0+0))).put (some 38) (kv)).put (some 39) (u2)).put (some 40) (pZ pb 0)).put (some 41) (pZ pb (0+0))→Q .normal a' w') :
 (Code.region 8 Azl false).wp prog Q a w:=by
 refine z0 rfl ?_
 iterate 2 refine zv rfl (xmv rfl (zi t3 rfl)) ?_
 refine zv rfl (xnc rfl (zg zz rfl)) ?_
 refine zv rfl (xfa rfl (zg zz rfl) (Aeh _ _ _)) ?_
 refine zv rfl (xld rfl (zg zz rfl) LK) ?_
 refine zc rfl (Adc rfl (zg zz rfl)) (CC) (fun e x5 hx=> ?_)
 obtain ⟨u2,rfl,w2,ES,HF⟩:=hx
 replace h:=h u2
 refine ⟨_,rfl, ?_⟩
 refine zv rfl (xnc rfl (zg zz rfl)) ?_
 refine zv rfl (xfa rfl (zg zz rfl) (Aeh _ _ _)) ?_
 refine zs rfl (Aai rfl (zg zz rfl) (zg zz rfl) ES) ?_
 exact ze rfl (h _ _ (HF) rfl)
def Aul:Array Oper:=(⟨_,rfl⟩:{o // some o=rgB Tryz.f88 14}).1
theorem A8d {pb n c:Nat} {m:Int} {la:Option Addr} {sv:Value} {w1:World} (Fin:Value→World→Prop) (a:Act) (w:World) (Q:Exit→Act→World→Prop) (zz:a.tmps.size=73)
 (t3:a.tmps.getD 3 undef= (pZ pb 0))
 (hm:(n:Int)-1=m) (hb: -9223372036854775808≤(n:Int)-1∧(n:Int)-1≤9223372036854775807) (EB:(Instr.buildSlice 150 1 #[(0, .int .i64 (-1))]).run prog w= .ok sv w1) (LK:(Instr.loadAt 150 (pZ pb (0+0))).run prog w1= .ok (.slice la n c) w1) (CC:Calls prog 110 #[sv, .int .i64 m] w1 fun e w1=> ∃u2,e= .returned u2∧∃w2,(Instr.storeAt 150 (pZ pb (0+1)) u2).run prog w1= .ok () w2∧Fin u2 w2)
 (h:∀(u2:Value) a' w',Fin u2 w'→a'=((((((((((a.put (some 61) (pZ pb 0)).put (some 62) (sv)).put (some 63) (pZ pb 0)).put (some 64) (pZ pb 0)).put (some 65) (pZ pb (0+0))).put (some 66) (.slice la n c)).put (some 67) (.int .i64 (n:Int))).put (some 68) (.int .i64 m)).put (some 69) (u2)).put (some 70) (pZ pb 0)).put (some 71) (pZ pb (0+1))→Q .normal a' w') :
 (Code.region 14 Aul false).wp prog Q a w:=by
 refine z0 rfl ?_
 refine zv rfl (xmv rfl (zi t3 rfl)) ?_
 refine zv (v:=sv) rfl (Aba rfl rfl EB) ?_
 refine zv rfl (xmv rfl (zi t3 rfl)) ?_
 refine zv rfl (xnc rfl (zg zz rfl)) ?_
 refine zv rfl (xfa rfl (zg zz rfl) (Aeh _ _ _)) ?_
 refine zv rfl (xld rfl (zg zz rfl) LK) ?_
 refine zv rfl (Af4 rfl (zg zz rfl) (A7t _ _ _ _)) ?_
 refine zv (v:= .int .i64 m) rfl (Alc rfl (zg zz rfl) rfl hm hb) ?_
 refine zc rfl (Aap rfl (zg zz rfl) (zg zz rfl)) (CC) (fun e x8 hx=> ?_)
 obtain ⟨u2,rfl,w2,ES,HF⟩:=hx
 replace h:=h u2
 refine ⟨_,rfl, ?_⟩
 refine zv rfl (xnc rfl (zg zz rfl)) ?_
 refine zv rfl (xfa rfl (zg zz rfl) (Anx _ _ _)) ?_
 refine zs rfl (Aai rfl (zg zz rfl) (zg zz rfl) ES) ?_
 exact ze rfl (h _ _ (HF) rfl)
def Aq2:Array Oper:=(⟨_,rfl⟩:{o // some o=rgB Tryz.f64 10}).1
theorem A4s {n c:Nat} {m:Int} {la:Option Addr} (a:Act) (w:World) (Q:Exit→Act→World→Prop) (zz:a.tmps.size=81)
 (t4:a.tmps.getD 4 undef= .slice la n c)
 (hm:(n:Int)-1=m) (hb: -9223372036854775808≤(n:Int)-1∧(n:Int)-1≤9223372036854775807)
 (h:∀a' w',w'=w→a'=(((a.put (some 56) (.slice la n c)).put (some 57) (.int .i64 (n:Int))).put (some 58) (.int .i64 m)).put (some 8) (.int .i64 m)→Q .normal a' w') :
 (Code.region 10 Aq2 false).wp prog Q a w:=by
 refine z0 rfl ?_
 refine zv rfl (xmv rfl (zi t4 rfl)) ?_
 refine zv rfl (Af4 rfl (zg zz rfl) (A5w _ _ _ _)) ?_
 refine zv (v:= .int .i64 m) rfl (Alc rfl (zg zz rfl) rfl hm hb) ?_
 refine zv rfl (xas rfl (zg zz rfl)) ?_
 exact ze rfl (h _ _ (rfl) rfl)
def Aov:Array Oper:=(⟨_,rfl⟩:{o // some o=rgB Tryz.f64 11}).1
theorem A4r {g n c m eb:Nat} {p q:SpV} {r:Bool} (S:World→Prop) (a:Act) (w:World) (Q:Exit→Act→World→Prop) (zz:a.tmps.size=81)
 (t4:a.tmps.getD 4 undef= .slice (some ⟨g,0,none⟩) n c)
 (t7:a.tmps.getD 7 undef= (pZ eb 0))
 (t8:a.tmps.getD 8 undef= .int .i64 (m:Int))
 (h0:S w.drew) (hi:m<n) (hm:n≤9223372036854775807) (hz:decide ((m:Int)≥0)=true) (LP:∀W,S W→(Instr.loadAt 65 (pZ g (0+7*m))).run prog W= .ok (p.a) W) (LQ:∀W,S W→(Instr.loadAt 65 (pZ eb 0)).run prog W= .ok (q.a) W) (CC:Calls prog 90 #[p.a,q.a] w.drew fun e w'=>e= .returned (.bool r)∧S w')
 (h:∀a' w',S w'→a'=(((((((((a.put (some 59) (.int .i64 (m:Int))).put (some 60) (.bool true)).put (some 61) (.bool true)).put (some 62) (.slice (some ⟨g,0,none⟩) n c)).put (some 63) (.int .i64 (m:Int))).put (some 64) (pZ g (0+7*m))).put (some 65) (p.a)).put (some 66) (q.a)).put (some 67) (.bool r)).put (some 68) (.bool r)→Q .normal a' w') :
 (Code.region 11 Aov true).wp prog Q a w:=by
 refine y0 (fun w'=>S w') (h0) (fun hHeld=> ?_)
 refine yv 0 rfl rfl (fun w1 hw=>xmv rfl (zi t8 rfl)) hHeld ?_
 refine yv (v:= .bool true) 1 rfl rfl (fun w1 hw=>Atv rfl (zg zz rfl) rfl hz) hHeld ?_
 refine yv 2 rfl rfl (fun w1 hw=>xmv rfl (zg zz rfl)) hHeld ?_
 refine yv 3 rfl (zw zz rfl rfl rfl (zg zz rfl)) (fun w1 hw=>xmv rfl (zi t4 rfl)) hHeld ?_
 refine yv 4 rfl (zw zz rfl rfl rfl (zg zz rfl)) (fun w1 hw=>xmv rfl (zi t8 rfl)) hHeld ?_
 refine yv 5 rfl (zw zz rfl rfl rfl (zg zz rfl)) (fun w1 hw=>xia rfl (zg zz rfl) (zg zz rfl) (Acn hi hm _)) hHeld ?_
 refine yv 6 rfl (zw zz rfl rfl rfl (zg zz rfl)) (fun w1 hw=>xld rfl (zg zz rfl) (LP _ hw)) hHeld ?_
 refine yv 7 rfl (zw zz rfl rfl rfl (zg zz rfl)) (fun w1 hw=>xld rfl (zi t7 rfl) (LQ _ hw)) hHeld ?_
 refine yc 8 rfl (zw zz rfl rfl rfl (zg zz rfl)) (Aap rfl (zg zz rfl) (zg zz rfl)) (CC) (fun e x8 hx=> ?_)
 obtain ⟨rfl,S1⟩:=hx
 refine ⟨_,rfl,S1,fun hHeld=> ?_⟩
 refine yv 9 rfl rfl (fun w1 hw=>Abm rfl (zg zz rfl) (zg zz rfl)) hHeld ?_
 exact ye rfl (h _ _ (hHeld) rfl)
def Aq1:Array Oper:=(⟨_,rfl⟩:{o // some o=rgB Tryz.f64 12}).1
theorem A7h {g n c m eb:Nat} {y:Int} {w1:World} (a:Act) (w:World) (Q:Exit→Act→World→Prop) (zz:a.tmps.size=81)
 (t4:a.tmps.getD 4 undef= .slice (some ⟨g,0,none⟩) n c)
 (t7:a.tmps.getD 7 undef= (pZ eb 0))
 (t8:a.tmps.getD 8 undef= .int .i64 (m:Int))
 (hi:m<n) (hm:n≤9223372036854775807) (LY:(Instr.loadAt 3 (pZ eb (0+1))).run prog w= .ok (.int .i64 y) w) (ES:(Instr.storeAt 3 (pZ g (0+7*m+1)) (.int .i64 y)).run prog w= .ok () w1)
 (h:∀a' w',w'=w1→a'=(((((a.put (some 69) (.slice (some ⟨g,0,none⟩) n c)).put (some 70) (.int .i64 (m:Int))).put (some 71) (pZ eb (0+1))).put (some 72) (.int .i64 y)).put (some 73) (pZ g (0+7*m))).put (some 74) (pZ g (0+7*m+1))→Q .normal a' w') :
 (Code.region 12 Aq1 false).wp prog Q a w:=by
 refine z0 rfl ?_
 refine zv rfl (xmv rfl (zi t4 rfl)) ?_
 refine zv rfl (xmv rfl (zi t8 rfl)) ?_
 refine zv rfl (xfa rfl (zi t7 rfl) (Ad3 _ _ _)) ?_
 refine zv rfl (xld rfl (zg zz rfl) LY) ?_
 refine zv rfl (xia rfl (zg zz rfl) (zg zz rfl) (Acn hi hm _)) ?_
 refine zv rfl (xfa rfl (zg zz rfl) (Ad3 _ _ _)) ?_
 refine zs rfl (Aai rfl (zg zz rfl) (zg zz rfl) ES) ?_
 exact ze rfl (h _ _ (rfl) rfl)
def Auf:Oper:=⟨some 26, .move (.tmp 1),23,"tell.go:63", #[],none⟩
def Aue:Oper:=⟨some 27, .move (.tmp 8),3,"tell.go:63", #[],none⟩
def Agu:Oper:=⟨some 28, .call {callee:=Callee.value (Operand.func 55),args:= #[.tmp 26, .tmp 27],argTypes:= #[23,3]},3,"tell.go:63", #[⟨0, .data⟩,⟨1, .data⟩],none⟩
def Aud:Oper:=⟨some 29, .move (.tmp 1),23,"tell.go:63", #[],none⟩
def Auc:Oper:=⟨some 30, .move (.tmp 9),3,"tell.go:63", #[],none⟩
def Aep:Oper:=⟨some 31, .call {callee:=Callee.value (Operand.func 55),args:= #[.tmp 29, .tmp 30],argTypes:= #[23,3]},3,"tell.go:63", #[⟨3, .data⟩,⟨4, .data⟩,⟨2, .chain⟩],none⟩
def Aub:Oper:=⟨some 32, .fieldAddr 95 (.tmp 7) 1,0,"tell.go:63", #[],none⟩
def Aua:Oper:=⟨some 33, .load 9 (.tmp 32),9,"tell.go:63", #[⟨6, .data⟩],none⟩
def At9:Oper:=⟨some 34, .fieldAddr 95 (.tmp 7) 2,0,"tell.go:63", #[],none⟩
def At8:Oper:=⟨some 35, .load 40 (.tmp 34),40,"tell.go:63", #[⟨8, .data⟩],none⟩
def Af5:Oper:=⟨some 36, .build 65 #[(0, .tmp 28),(1, .tmp 31),(2, .tmp 33),(3, .tmp 35)],65,"tell.go:63", #[⟨2, .data⟩,⟨5, .data⟩,⟨7, .data⟩,⟨9, .data⟩],none⟩
def Adn:Oper:=⟨some 10, .alloc 65,0,"tell.go:63", #[],none⟩
def Adm:Oper:=⟨none, .store 65 (.tmp 10) (.tmp 36),0,"tell.go:63", #[⟨11, .data⟩,⟨10, .data⟩,⟨5, .chain⟩,⟨0, .phase⟩,⟨1, .phase⟩,⟨2, .phase⟩,⟨3, .phase⟩,⟨4, .phase⟩,⟨5, .phase⟩,⟨6, .phase⟩,⟨7, .phase⟩,⟨8, .phase⟩,⟨9, .phase⟩,⟨10, .phase⟩,⟨11, .phase⟩],none⟩
def Azk:Array Oper:= #[Auf,Aue,Agu,Aud,Auc,Aep,Aub,Aua,At9,At8,Af5,Adn,Adm]
theorem A90 {sb eb:Nat} {f t fi ti:Int} {x:MkV} (S:World→Prop) (B Fin:Nat→World→Prop) (a:Act) (w:World) (Q:Exit→Act→World→Prop) (hsz:a.tmps.size=54)
 (t1:a.tmps.getD 1 undef= (pZ sb 0))
 (t7:a.tmps.getD 7 undef= (pZ eb 0))
 (t8:a.tmps.getD 8 undef= .int .i64 f)
 (t9:a.tmps.getD 9 undef= .int .i64 t)
 (h0:S w.drew) (BS:∀pb W,B pb W→S W) (FS:∀pb W,Fin pb W→S W) (LN:∀W,S W→(Instr.loadAt 9 (pZ eb (0+33))).run prog W= .ok (.string x.nm) W) (LV:∀W,S W→(Instr.loadAt 40 (pZ eb (0+34))).run prog W= .ok (x.v.v) W) (C1:∀W,S W→Calls prog 55 #[(pZ sb 0), .int .i64 f] W fun e w1=>e= .returned (.int .i64 fi)∧S w1) (C2:∀W,S W→Calls prog 55 #[(pZ sb 0), .int .i64 t] W fun e w1=>e= .returned (.int .i64 ti)∧S w1) (C1b:∀pb W,B pb W→Calls prog 55 #[(pZ sb 0), .int .i64 f] W fun e w1=>e= .returned (.int .i64 fi)∧B pb w1) (C2b:∀pb W,B pb W→Calls prog 55 #[(pZ sb 0), .int .i64 t] W fun e w1=>e= .returned (.int .i64 ti)∧B pb w1) (EA:∀W,S W→∃pb w3,(Instr.alloc 65 true (.tuple #[])).run prog W= .ok (pZ pb 0) w3∧B pb w3) (ES:∀pb W,B pb W→∃w4,(Instr.storeAt 65 (pZ pb 0) (SpV.a ⟨fi,ti,x.nm,x.v⟩)).run prog W= .ok () w4∧Fin pb w4)
 (h1:∀(pb:Nat) a' w',Fin pb w'→a'=(((((((((((a.put (some 26) (pZ sb 0)).put (some 27) (.int .i64 f)).put (some 29) (pZ sb 0)).put (some 30) (.int .i64 t)).put (some 32) (pZ eb (0+33))).put (some 33) (.string x.nm)).put (some 34) (pZ eb (0+34))).put (some 35) (x.v.v)).put (some 28) (.int .i64 fi)).put (some 31) (.int .i64 ti)).put (some 36) (SpV.a ⟨fi,ti,x.nm,x.v⟩)).put (some 10) (pZ pb 0)→Q .normal a' w')
 (h2:∀(pb:Nat) a' w',Fin pb w'→a'=(((((((((((a.put (some 26) (pZ sb 0)).put (some 27) (.int .i64 f)).put (some 29) (pZ sb 0)).put (some 30) (.int .i64 t)).put (some 32) (pZ eb (0+33))).put (some 33) (.string x.nm)).put (some 34) (pZ eb (0+34))).put (some 35) (x.v.v)).put (some 28) (.int .i64 fi)).put (some 10) (pZ pb 0)).put (some 31) (.int .i64 ti)).put (some 36) (SpV.a ⟨fi,ti,x.nm,x.v⟩)→Q .normal a' w')
 (h3:∀(pb:Nat) a' w',Fin pb w'→a'=(((((((((((a.put (some 26) (pZ sb 0)).put (some 27) (.int .i64 f)).put (some 29) (pZ sb 0)).put (some 30) (.int .i64 t)).put (some 32) (pZ eb (0+33))).put (some 33) (.string x.nm)).put (some 34) (pZ eb (0+34))).put (some 35) (x.v.v)).put (some 10) (pZ pb 0)).put (some 28) (.int .i64 fi)).put (some 31) (.int .i64 ti)).put (some 36) (SpV.a ⟨fi,ti,x.nm,x.v⟩)→Q .normal a' w') :
 (Code.region 6 Azk true).wp prog Q a w:=by
 refine wp_region_noPanic ?_
 refine wp_region_held_drew (S:=fun w'=>S w') (by kernel_rfl) (h0) (fun hHeld=> ?_)
 refine wpAnyH_take (i:=0) (oi:=Auf) (v:= (pZ sb 0)) rfl (by kernel_rfl) (by kernel_rfl) (by kernel_rfl) (fun _ _ _ h=>h) (Or.inl ⟨by rfl,fun w1 hw=>xmv rfl t1⟩) hHeld ?_
 change wpAnyH _ _ _ _ _ _ _ (a.put (some 26) (pZ sb 0)) _
 obtain ⟨a1,e1⟩:∃act,act=a.put (some 26) (pZ sb 0):=⟨_,rfl⟩
 rw [←e1] at h1 h2 h3 ⊢
 have z1:=pz e1 hsz
 replace t1:=pk e1 t1
 replace t7:=pk e1 t7
 replace t8:=pk e1 t8
 replace t9:=pk e1 t9
 have t26:=pq e1 hsz
 clear e1 hsz
 refine wpAnyH_take (i:=1) (oi:=Aue) (v:= .int .i64 f) rfl (by kernel_rfl) (by kernel_rfl) (by kernel_rfl) (fun _ _ _ h=>h) (Or.inl ⟨by rfl,fun w1 hw=>xmv rfl t8⟩) hHeld ?_
 change wpAnyH _ _ _ _ _ _ _ (a1.put (some 27) (.int .i64 f)) _
 obtain ⟨a2,e2⟩:∃act,act=a1.put (some 27) (.int .i64 f):=⟨_,rfl⟩
 rw [←e2] at h1 h2 h3 ⊢
 have z2:=pz e2 z1
 replace t1:=pk e2 t1
 replace t7:=pk e2 t7
 replace t9:=pk e2 t9
 replace t26:=pk e2 t26
 clear t8
 have t27:=pq e2 z1
 clear e2 z1
 refine wpAnyH_take (i:=3) (oi:=Aud) (v:= (pZ sb 0)) rfl (by kernel_rfl) (by kernel_rfl) (by kernel_rfl) (fun _ _ _ h=>h) (Or.inl ⟨by rfl,fun w1 hw=>xmv rfl t1⟩) hHeld ?_
 change wpAnyH _ _ _ _ _ _ _ (a2.put (some 29) (pZ sb 0)) _
 obtain ⟨a3,e3⟩:∃act,act=a2.put (some 29) (pZ sb 0):=⟨_,rfl⟩
 rw [←e3] at h1 h2 h3 ⊢
 have z3:=pz e3 z2
 replace t7:=pk e3 t7
 replace t9:=pk e3 t9
 replace t26:=pk e3 t26
 replace t27:=pk e3 t27
 clear t1
 have t29:=pq e3 z2
 clear e3 z2
 refine wpAnyH_take (i:=4) (oi:=Auc) (v:= .int .i64 t) rfl (by kernel_rfl) (by kernel_rfl) (by kernel_rfl) (fun _ _ _ h=>h) (Or.inl ⟨by rfl,fun w1 hw=>xmv rfl t9⟩) hHeld ?_
 change wpAnyH _ _ _ _ _ _ _ (a3.put (some 30) (.int .i64 t)) _
 obtain ⟨a4,e4⟩:∃act,act=a3.put (some 30) (.int .i64 t):=⟨_,rfl⟩
 rw [←e4] at h1 h2 h3 ⊢
 have z4:=pz e4 z3
 replace t7:=pk e4 t7
 replace t26:=pk e4 t26
 replace t27:=pk e4 t27
 replace t29:=pk e4 t29
 clear t9
 have t30:=pq e4 z3
 clear e4 z3
 refine wpAnyH_take (i:=6) (oi:=Aub) (v:= (pZ eb (0+33))) rfl (by kernel_rfl) (by kernel_rfl) (by kernel_rfl) (fun _ _ _ h=>h) (Or.inl ⟨by rfl,fun w1 hw=>xfa rfl t7 (Ags _ _ _)⟩) hHeld ?_
 change wpAnyH _ _ _ _ _ _ _ (a4.put (some 32) (pZ eb (0+33))) _
 obtain ⟨a5,e5⟩:∃act,act=a4.put (some 32) (pZ eb (0+33)):=⟨_,rfl⟩
 rw [←e5] at h1 h2 h3 ⊢
 have z5:=pz e5 z4
 replace t7:=pk e5 t7
 replace t26:=pk e5 t26
 replace t27:=pk e5 t27
 replace t29:=pk e5 t29
 replace t30:=pk e5 t30
 have t32:=pq e5 z4
 clear e5 z4
 refine wpAnyH_take (i:=7) (oi:=Aua) (v:= .string x.nm) rfl (by kernel_rfl) (by kernel_rfl) (by kernel_rfl) (fun _ _ _ h=>h) (Or.inl ⟨by rfl,fun w1 hw=>xld rfl t32 (LN _ hw)⟩) hHeld ?_
 change wpAnyH _ _ _ _ _ _ _ (a5.put (some 33) (.string x.nm)) _
 obtain ⟨a6,e6⟩:∃act,act=a5.put (some 33) (.string x.nm):=⟨_,rfl⟩
 rw [←e6] at h1 h2 h3 ⊢
 have z6:=pz e6 z5
 replace t7:=pk e6 t7
 replace t26:=pk e6 t26
 replace t27:=pk e6 t27
 replace t29:=pk e6 t29
 replace t30:=pk e6 t30
 clear t32
 have t33:=pq e6 z5
 clear e6 z5
 refine wpAnyH_take (i:=8) (oi:=At9) (v:= (pZ eb (0+34))) rfl (by kernel_rfl) (by kernel_rfl) (by kernel_rfl) (fun _ _ _ h=>h) (Or.inl ⟨by rfl,fun w1 hw=>xfa rfl t7 (A3q _ _ _)⟩) hHeld ?_
 change wpAnyH _ _ _ _ _ _ _ (a6.put (some 34) (pZ eb (0+34))) _
 obtain ⟨a7,e7⟩:∃act,act=a6.put (some 34) (pZ eb (0+34)):=⟨_,rfl⟩
 rw [←e7] at h1 h2 h3 ⊢
 have z7:=pz e7 z6
 replace t26:=pk e7 t26
 replace t27:=pk e7 t27
 replace t29:=pk e7 t29
 replace t30:=pk e7 t30
 replace t33:=pk e7 t33
 clear t7
 have t34:=pq e7 z6
 clear e7 z6
 refine wpAnyH_take (i:=9) (oi:=At8) (v:=x.v.v) rfl (by kernel_rfl) (by kernel_rfl) (by kernel_rfl) (fun _ _ _ h=>h) (Or.inl ⟨by rfl,fun w1 hw=>xld rfl t34 (LV _ hw)⟩) hHeld ?_
 change wpAnyH _ _ _ _ _ _ _ (a7.put (some 35) (x.v.v)) _
 obtain ⟨a8,e8⟩:∃act,act=a7.put (some 35) (x.v.v):=⟨_,rfl⟩
 rw [←e8] at h1 h2 h3 ⊢
 have z8:=pz e8 z7
 replace t26:=pk e8 t26
 replace t27:=pk e8 t27
 replace t29:=pk e8 t29
 replace t30:=pk e8 t30
 replace t33:=pk e8 t33
 clear t34
 have t35:=pq e8 z7
 clear e8 z7
 refine wpAnyH_ready (rs:=[2,11]) (by kernel_rfl) (by simp) ?_
 refine AllReadyH.cons (o:=Agu) rfl (fun K hK=> ?_) (AllReadyH.cons (o:=Adn) rfl (fun K hK=> ?_) (AllReadyH.nil))
 ·clear h3
  rw [if_pos (by rfl)]
  unfold Agu at hK ⊢
  go_simp
  refine (C1 _ hHeld).mono ?_
  rintro e x9 ⟨rfl,S1⟩
  try go_wp2_with fail
  skip
  refine hK.out _ _ (S1) (fun hHeld=> ?_)
  clear hK K
  change wpAnyH _ _ _ _ _ _ _ (a8.put (some 28) (.int .i64 fi)) _
  obtain ⟨a9,e9⟩:∃act,act=a8.put (some 28) (.int .i64 fi):=⟨_,rfl⟩
  rw [←e9] at h1 h2 ⊢
  have z9:=pz e9 z8
  replace t29:=pk e9 t29
  replace t30:=pk e9 t30
  replace t33:=pk e9 t33
  replace t35:=pk e9 t35
  clear t26 t27
  have t28:=pq e9 z8
  clear e9 z8
  refine wpAnyH_ready (rs:=[5,11]) (by kernel_rfl) (by simp) ?_
  refine AllReadyH.cons (o:=Aep) rfl (fun K hK=> ?_) (AllReadyH.cons (o:=Adn) rfl (fun K hK=> ?_) (AllReadyH.nil))
  ·clear h2
   rw [if_pos (by rfl)]
   unfold Aep at hK ⊢
   go_simp
   refine (C2 _ hHeld).mono ?_
   rintro e x10 ⟨rfl,S1⟩
   try go_wp2_with fail
   skip
   refine hK.out _ _ (S1) (fun hHeld=> ?_)
   clear hK K
   change wpAnyH _ _ _ _ _ _ _ (a9.put (some 31) (.int .i64 ti)) _
   obtain ⟨a10,e10⟩:∃act,act=a9.put (some 31) (.int .i64 ti):=⟨_,rfl⟩
   rw [←e10] at h1 ⊢
   have z10:=pz e10 z9
   replace t33:=pk e10 t33
   replace t35:=pk e10 t35
   replace t28:=pk e10 t28
   clear t29 t30
   have t31:=pq e10 z9
   clear e10 z9
   refine wpAnyH_take (i:=10) (oi:=Af5) (v:=SpV.a ⟨fi,ti,x.nm,x.v⟩) rfl (by kernel_rfl) (by kernel_rfl) (by kernel_rfl) (fun _ _ _ h=>h) (Or.inl ⟨by rfl,fun w1 hw=>Aen rfl t28 t31 t33 t35 (Ab2 _ _ _ _ _)⟩) hHeld ?_
   change wpAnyH _ _ _ _ _ _ _ (a10.put (some 36) (SpV.a ⟨fi,ti,x.nm,x.v⟩)) _
   obtain ⟨a11,e11⟩:∃act,act=a10.put (some 36) (SpV.a ⟨fi,ti,x.nm,x.v⟩):=⟨_,rfl⟩
   rw [←e11] at h1 ⊢
   have z11:=pz e11 z10
   clear t33 t35 t28 t31
   have t36:=pq e11 z10
   clear e11 z10
   refine wpAnyH_ready (rs:=[11]) (by kernel_rfl) (by simp) ?_
   refine AllReadyH.cons (o:=Adn) rfl (fun K hK=> ?_) AllReadyH.nil
   obtain ⟨pb,wa,EA1,HB⟩:=EA _ hHeld;replace h1:=h1 pb
   have X:=Abd (P:=prog) (a:=a11) (o:=Adn) rfl EA1
   rw [if_pos (by rfl),Oper.wp,X]
   show K _ _
   clear X
   refine hK.out _ _ (BS _ _ HB) (fun hHeld=> ?_)
   clear hK K
   change wpAnyH _ _ _ _ _ _ _ (a11.put (some 10) (pZ pb 0)) _
   obtain ⟨a12,e12⟩:∃act,act=a11.put (some 10) (pZ pb 0):=⟨_,rfl⟩
   rw [←e12] at h1 ⊢
   have z12:=pz e12 z11
   replace t36:=pk e12 t36
   have t10:=pq e12 z11
   clear e12 z11
   refine wpAnyH_ready (rs:=[12]) (by kernel_rfl) (by simp) ?_
   refine AllReadyH.cons (o:=Adm) rfl (fun K hK=> ?_) AllReadyH.nil
   obtain ⟨w9,ES1,HF⟩:=ES _ _ HB
   have X:=Aai (P:=prog) (a:=a12) (o:=Adm) rfl t10 t36 ES1
   rw [if_pos (by rfl),Oper.wp,X]
   show K _ _
   clear X
   refine hK.out _ _ (FS _ _ HF) (fun hHeld=> ?_)
   clear hK K
   exact wpAnyH_done (by kernel_rfl) (NoPanic.normal (h1 _ _ (HF) rfl)) _
  ·clear h1
   obtain ⟨pb,wa,EA1,HB⟩:=EA _ hHeld;replace h2:=h2 pb
   have X:=Abd (P:=prog) (a:=a9) (o:=Adn) rfl EA1
   rw [if_pos (by rfl),Oper.wp,X]
   show K _ _
   clear X
   refine hK.out _ _ (BS _ _ HB) (fun hHeld=> ?_)
   clear hK K
   change wpAnyH _ _ _ _ _ _ _ (a9.put (some 10) (pZ pb 0)) _
   obtain ⟨a14,e14⟩:∃act,act=a9.put (some 10) (pZ pb 0):=⟨_,rfl⟩
   rw [←e14] at h2 ⊢
   have z14:=pz e14 z9
   replace t29:=pk e14 t29
   replace t30:=pk e14 t30
   replace t33:=pk e14 t33
   replace t35:=pk e14 t35
   replace t28:=pk e14 t28
   have t10:=pq e14 z9
   clear e14 z9
   refine wpAnyH_ready (rs:=[5]) (by kernel_rfl) (by simp) ?_
   refine AllReadyH.cons (o:=Aep) rfl (fun K hK=> ?_) AllReadyH.nil
   rw [if_pos (by rfl)]
   unfold Aep at hK ⊢
   go_simp
   refine (C2b _ _ HB).mono ?_
   rintro e x15 ⟨rfl,HB⟩
   try go_wp2_with fail
   skip
   refine hK.out _ _ (BS _ _ HB) (fun hHeld=> ?_)
   clear hK K
   change wpAnyH _ _ _ _ _ _ _ (a14.put (some 31) (.int .i64 ti)) _
   obtain ⟨a15,e15⟩:∃act,act=a14.put (some 31) (.int .i64 ti):=⟨_,rfl⟩
   rw [←e15] at h2 ⊢
   have z15:=pz e15 z14
   replace t33:=pk e15 t33
   replace t35:=pk e15 t35
   replace t28:=pk e15 t28
   replace t10:=pk e15 t10
   clear t29 t30
   have t31:=pq e15 z14
   clear e15 z14
   refine wpAnyH_take (i:=10) (oi:=Af5) (v:=SpV.a ⟨fi,ti,x.nm,x.v⟩) rfl (by kernel_rfl) (by kernel_rfl) (by kernel_rfl) (fun _ _ _ h=>h) (Or.inl ⟨by rfl,fun w1 hw=>Aen rfl t28 t31 t33 t35 (Ab2 _ _ _ _ _)⟩) hHeld ?_
   change wpAnyH _ _ _ _ _ _ _ (a15.put (some 36) (SpV.a ⟨fi,ti,x.nm,x.v⟩)) _
   obtain ⟨a16,e16⟩:∃act,act=a15.put (some 36) (SpV.a ⟨fi,ti,x.nm,x.v⟩):=⟨_,rfl⟩
   rw [←e16] at h2 ⊢
   have z16:=pz e16 z15
   replace t10:=pk e16 t10
   clear t33 t35 t28 t31
   have t36:=pq e16 z15
   clear e16 z15
   refine wpAnyH_ready (rs:=[12]) (by kernel_rfl) (by simp) ?_
   refine AllReadyH.cons (o:=Adm) rfl (fun K hK=> ?_) AllReadyH.nil
   obtain ⟨w9,ES1,HF⟩:=ES _ _ HB
   have X:=Aai (P:=prog) (a:=a16) (o:=Adm) rfl t10 t36 ES1
   rw [if_pos (by rfl),Oper.wp,X]
   show K _ _
   clear X
   refine hK.out _ _ (FS _ _ HF) (fun hHeld=> ?_)
   clear hK K
   exact wpAnyH_done (by kernel_rfl) (NoPanic.normal (h2 _ _ (HF) rfl)) _
 ·clear h1 h2
  obtain ⟨pb,wa,EA1,HB⟩:=EA _ hHeld;replace h3:=h3 pb
  have X:=Abd (P:=prog) (a:=a8) (o:=Adn) rfl EA1
  rw [if_pos (by rfl),Oper.wp,X]
  show K _ _
  clear X
  refine hK.out _ _ (BS _ _ HB) (fun hHeld=> ?_)
  clear hK K
  change wpAnyH _ _ _ _ _ _ _ (a8.put (some 10) (pZ pb 0)) _
  obtain ⟨a18,e18⟩:∃act,act=a8.put (some 10) (pZ pb 0):=⟨_,rfl⟩
  rw [←e18] at h3 ⊢
  have z18:=pz e18 z8
  replace t26:=pk e18 t26
  replace t27:=pk e18 t27
  replace t29:=pk e18 t29
  replace t30:=pk e18 t30
  replace t33:=pk e18 t33
  replace t35:=pk e18 t35
  have t10:=pq e18 z8
  clear e18 z8
  refine wpAnyH_ready (rs:=[2]) (by kernel_rfl) (by simp) ?_
  refine AllReadyH.cons (o:=Agu) rfl (fun K hK=> ?_) AllReadyH.nil
  rw [if_pos (by rfl)]
  unfold Agu at hK ⊢
  go_simp
  refine (C1b _ _ HB).mono ?_
  rintro e x19 ⟨rfl,HB⟩
  try go_wp2_with fail
  skip
  refine hK.out _ _ (BS _ _ HB) (fun hHeld=> ?_)
  clear hK K
  change wpAnyH _ _ _ _ _ _ _ (a18.put (some 28) (.int .i64 fi)) _
  obtain ⟨a19,e19⟩:∃act,act=a18.put (some 28) (.int .i64 fi):=⟨_,rfl⟩
  rw [←e19] at h3 ⊢
  have z19:=pz e19 z18
  replace t29:=pk e19 t29
  replace t30:=pk e19 t30
  replace t33:=pk e19 t33
  replace t35:=pk e19 t35
  replace t10:=pk e19 t10
  clear t26 t27
  have t28:=pq e19 z18
  clear e19 z18
  refine wpAnyH_ready (rs:=[5]) (by kernel_rfl) (by simp) ?_
  refine AllReadyH.cons (o:=Aep) rfl (fun K hK=> ?_) AllReadyH.nil
  rw [if_pos (by rfl)]
  unfold Aep at hK ⊢
  go_simp
  refine (C2b _ _ HB).mono ?_
  rintro e x20 ⟨rfl,HB⟩
  try go_wp2_with fail
  skip
  refine hK.out _ _ (BS _ _ HB) (fun hHeld=> ?_)
  clear hK K
  change wpAnyH _ _ _ _ _ _ _ (a19.put (some 31) (.int .i64 ti)) _
  obtain ⟨a20,e20⟩:∃act,act=a19.put (some 31) (.int .i64 ti):=⟨_,rfl⟩
  rw [←e20] at h3 ⊢
  have z20:=pz e20 z19
  replace t33:=pk e20 t33
  replace t35:=pk e20 t35
  replace t10:=pk e20 t10
  replace t28:=pk e20 t28
  clear t29 t30
  have t31:=pq e20 z19
  clear e20 z19
  refine wpAnyH_take (i:=10) (oi:=Af5) (v:=SpV.a ⟨fi,ti,x.nm,x.v⟩) rfl (by kernel_rfl) (by kernel_rfl) (by kernel_rfl) (fun _ _ _ h=>h) (Or.inl ⟨by rfl,fun w1 hw=>Aen rfl t28 t31 t33 t35 (Ab2 _ _ _ _ _)⟩) hHeld ?_
  change wpAnyH _ _ _ _ _ _ _ (a20.put (some 36) (SpV.a ⟨fi,ti,x.nm,x.v⟩)) _
  obtain ⟨a21,e21⟩:∃act,act=a20.put (some 36) (SpV.a ⟨fi,ti,x.nm,x.v⟩):=⟨_,rfl⟩
  rw [←e21] at h3 ⊢
  have z21:=pz e21 z20
  replace t10:=pk e21 t10
  clear t33 t35 t28 t31
  have t36:=pq e21 z20
  clear e21 z20
  refine wpAnyH_ready (rs:=[12]) (by kernel_rfl) (by simp) ?_
  refine AllReadyH.cons (o:=Adm) rfl (fun K hK=> ?_) AllReadyH.nil
  obtain ⟨w9,ES1,HF⟩:=ES _ _ HB
  have X:=Aai (P:=prog) (a:=a21) (o:=Adm) rfl t10 t36 ES1
  rw [if_pos (by rfl),Oper.wp,X]
  show K _ _
  clear X
  refine hK.out _ _ (FS _ _ HF) (fun hHeld=> ?_)
  clear hK K
  exact wpAnyH_done (by kernel_rfl) (NoPanic.normal (h3 _ _ (HF) rfl)) _
def Azj:Array Oper:=(⟨_,rfl⟩:{o // some o=rgB Tryz.f63 8}).1
theorem A9z {fm eb sb:Nat} {p:SpV} {x:MkV} {u sv v2:Value} {w1 w2 w3:World} (S:World→Prop) (a:Act) (w:World) (Q:Exit→Act→World→Prop) (zz:a.tmps.size=54)
 (t5:a.tmps.getD 5 undef= .map (some fm))
 (t7:a.tmps.getD 7 undef= (pZ eb 0))
 (t10:a.tmps.getD 10 undef= (pZ sb 0))
 (h0:S w.drew) (LN:∀W,S W→(Instr.loadAt 9 (pZ eb (0+33))).run prog W= .ok (.string x.nm) W) (LB:∀W,S W→(Instr.loadAt 65 (pZ sb 0)).run prog W= .ok (p.a) W) (LU:∀W,S W→(Instr.lookup 117 (.map (some fm)) (.string x.nm) false).run prog W= .ok u W) (EB:(Instr.buildSlice 49 1 #[(0,p.a)]).run prog w.drew= .ok sv w1) (S1:S w1) (EA:(Builtin.append_ #[49,49] 49 #[u,sv]).run prog w1= .ok v2 w2) (S2:S w2) (EM:(Instr.mapUpdate 117 (.map (some fm)) (.string x.nm) v2).run prog w2= .ok () w3)
 (h:∀a' w',w'=w3→a'=(((((((((a.put (some 42) (.map (some fm))).put (some 43) (pZ eb (0+33))).put (some 44) (.string x.nm)).put (some 45) (.map (some fm))).put (some 46) (pZ eb (0+33))).put (some 47) (.string x.nm)).put (some 48) (u)).put (some 49) (p.a)).put (some 50) (sv)).put (some 51) (v2)→Q .normal a' w') :
 (Code.region 8 Azj true).wp prog Q a w:=by
 refine x0 10 (fun w'=>S w') (h0) (fun hHeld=> ?_)
 refine xv 0 rfl rfl (fun w1 hw=>xmv rfl (zi t5 rfl)) hHeld ?_
 refine xv 1 rfl rfl (fun w1 hw=>xfa rfl (zi t7 rfl) (Ags _ _ _)) hHeld ?_
 refine xv 2 rfl rfl (fun w1 hw=>xld rfl (zg zz rfl) (LN _ hw)) hHeld ?_
 refine xv 3 rfl rfl (fun w1 hw=>xmv rfl (zi t5 rfl)) hHeld ?_
 refine xv 4 rfl rfl (fun w1 hw=>xfa rfl (zi t7 rfl) (Ags _ _ _)) hHeld ?_
 refine xv 5 rfl rfl (fun w1 hw=>xld rfl (zg zz rfl) (LN _ hw)) hHeld ?_
 refine xv (v:=u) 6 rfl rfl (fun w1 hw=>Aj1 rfl (zg zz rfl) (zg zz rfl) (LU _ hw)) hHeld ?_
 refine xv 7 rfl rfl (fun w1 hw=>xld rfl (zi t10 rfl) (LB _ hw)) hHeld ?_
 refine xr (v:=sv) 8 rfl rfl (Aba rfl (zg zz rfl) EB) (fun _=>S1) (fun hHeld=> ?_)
 replace hHeld:=hHeld (by decide)
 refine xr (v:=v2) 9 rfl rfl (Ab1 rfl (zg zz rfl) (zg zz rfl) EA) (fun _=>S2) (fun hHeld=> ?_)
 replace hHeld:=hHeld (by decide)
 refine xs 10 rfl rfl (Adb rfl (zg zz rfl) (zg zz rfl) (zg zz rfl) EM) (fun hne=>absurd rfl hne) (fun _=> ?_)
 exact xe rfl (h _ _ (rfl) rfl)
def Aw6:Array Oper:=(⟨_,rfl⟩:{o // some o=rgB Tryz.f25 4}).1
theorem A80 {mb sb:Nat} (Fin:Nat→Nat→World→Prop) (a:Act) (w:World) (Q:Exit→Act→World→Prop) (zz:a.tmps.size=25)
 (t0:a.tmps.getD 0 undef= (pZ mb 0))
 (t1:a.tmps.getD 1 undef= (pZ sb 0))
 (CC:Calls prog 63 #[(pZ mb 0), (pZ sb 0)] w fun e w1=> ∃fm,e= .returned (.map (some fm))∧∃rb w2,(Instr.range 117 (.map (some fm))).run prog w1= .ok (pZ rb 0) w2∧Fin fm rb w2)
 (h:∀(fm rb:Nat) a' w',Fin fm rb w'→a'=(((a.put (some 10) (pZ mb 0)).put (some 11) (pZ sb 0)).put (some 12) (.map (some fm))).put (some 13) (pZ rb 0)→Q .normal a' w') :
 (Code.region 4 Aw6 false).wp prog Q a w:=by
 refine z0 rfl ?_
 refine zv rfl (xmv rfl (zi t0 rfl)) ?_
 refine zv rfl (xmv rfl (zi t1 rfl)) ?_
 refine zc rfl (Aap rfl (zg zz rfl) (zg zz rfl)) (CC) (fun e x2 hx=> ?_)
 obtain ⟨fm,rfl,rb,w2,ER,HF⟩:=hx
 replace h:=h fm rb
 refine ⟨_,rfl, ?_⟩
 refine zv (v:= (pZ rb 0)) rfl (Ak9 rfl (zg zz rfl) ER) ?_
 exact ze rfl (h _ _ (HF) rfl)
def Aw4:Array Oper:=(⟨_,rfl⟩:{o // some o=rgB Tryz.f25 7}).1
theorem A8y {lv cv:Value} (Fin:Value→Value→World→Prop) (a:Act) (w:World) (Q:Exit→Act→World→Prop) (zz:a.tmps.size=25)
 (t5:a.tmps.getD 5 undef=lv)
 (t7:a.tmps.getD 7 undef=cv)
 (CC:Calls prog 64 #[cv] w fun e w1=> ∃u,e= .returned u∧∃v2 w2,(Builtin.append_ #[49,49] 49 #[lv,u]).run prog w1= .ok v2 w2∧Fin u v2 w2)
 (h:∀(u v2:Value) a' w',Fin u v2 w'→a'=((((a.put (some 18) (lv)).put (some 19) (cv)).put (some 20) (u)).put (some 21) (v2)).put (some 5) (v2)→Q .normal a' w') :
 (Code.region 7 Aw4 false).wp prog Q a w:=by
 refine z0 rfl ?_
 refine zv rfl (xmv rfl (zi t5 rfl)) ?_
 refine zv rfl (xmv rfl (zi t7 rfl)) ?_
 refine zc rfl (Adc rfl (zg zz rfl)) (CC) (fun e x2 hx=> ?_)
 obtain ⟨u,rfl,v2,w2,EA,HF⟩:=hx
 replace h:=h u v2
 refine ⟨_,rfl, ?_⟩
 refine zv (v:=v2) rfl (Ab1 rfl (zg zz rfl) (zg zz rfl) EA) ?_
 refine zv rfl (xas rfl (zg zz rfl)) ?_
 exact ze rfl (h _ _ (HF) rfl)
end
namespace K
open Go.RowKit
namespace V
theorem nan43 (k:Int) (w:World):Calls prog 168 #[.int .u8 k] w fun e w'=>e= .returned (.bool false)∧w'=w:=by
 go_enter func168,ntmps168
 go_wp2
 go_ret
 exact ⟨by simp,rfl⟩
theorem cmp29 (a b:Int) (w:World):Calls prog 145 #[.int .u8 a, .int .u8 b] w fun e w'=>e= .returned (.int .i64 (cI a b))∧w'=w:=by
 have H:Hid (∀k wx,Calls prog 168 #[.int .u8 k] wx fun e w'=>e= .returned (.bool false)∧w'=wx):=fun k wx=>nan43 k wx
 unfold cI
 by_cases h1:a<b
 ·rw [if_pos h1]
  go_enter func145,ntmps145
  go_wp2_with (first|(go_at_call 168;refine (H.out _ _).mono ?_;rintro e _ ⟨rfl,rfl⟩)|fail)
  go_ret
  exact ⟨rfl,rfl⟩
 ·rw [if_neg h1]
  by_cases h2:b<a
  ·rw [if_pos h2]
   go_enter func145,ntmps145
   go_wp2_with (first|(go_at_call 168;refine (H.out _ _).mono ?_;rintro e _ ⟨rfl,rfl⟩)|fail)
   go_ret
   exact ⟨rfl,rfl⟩
  ·rw [if_neg h2]
   go_enter func145,ntmps145
   go_wp2_with (first|(go_at_call 168;refine (H.out _ _).mono ?_;rintro e _ ⟨rfl,rfl⟩)|fail)
   go_ret
   exact ⟨rfl,rfl⟩
theorem nan44 (k:Int) (w:World):Calls prog 169 #[.int .i64 k] w fun e w'=>e= .returned (.bool false)∧w'=w:=by
 go_enter func169,ntmps169
 go_wp2
 go_ret
 exact ⟨by simp,rfl⟩
theorem cmp30 (a b:Int) (w:World):Calls prog 146 #[.int .i64 a, .int .i64 b] w fun e w'=>e= .returned (.int .i64 (cI a b))∧w'=w:=by
 have H:Hid (∀k wx,Calls prog 169 #[.int .i64 k] wx fun e w'=>e= .returned (.bool false)∧w'=wx):=fun k wx=>nan44 k wx
 unfold cI
 by_cases h1:a<b
 ·rw [if_pos h1]
  go_enter func146,ntmps146
  go_wp2_with (first|(go_at_call 169;refine (H.out _ _).mono ?_;rintro e _ ⟨rfl,rfl⟩)|fail)
  go_ret
  exact ⟨rfl,rfl⟩
 ·rw [if_neg h1]
  by_cases h2:b<a
  ·rw [if_pos h2]
   go_enter func146,ntmps146
   go_wp2_with (first|(go_at_call 169;refine (H.out _ _).mono ?_;rintro e _ ⟨rfl,rfl⟩)|fail)
   go_ret
   exact ⟨rfl,rfl⟩
  ·rw [if_neg h2]
   go_enter func146,ntmps146
   go_wp2_with (first|(go_at_call 169;refine (H.out _ _).mono ?_;rintro e _ ⟨rfl,rfl⟩)|fail)
   go_ret
   exact ⟨rfl,rfl⟩
theorem nan46 (s:ByteArray) (w:World):Calls prog 171 #[.string s] w fun e w'=>e= .returned (.bool false)∧w'=w:=by
 go_enter func171,ntmps171
 go_wp2
 go_ret
 exact ⟨by simp,rfl⟩
theorem cmp32 (a b:ByteArray) (w:World):Calls prog 148 #[.string a, .string b] w fun e w'=>e= .returned (.int .i64 (cS a b))∧w'=w:=by
 have H:Hid (∀k wx,Calls prog 171 #[.string k] wx fun e w'=>e= .returned (.bool false)∧w'=wx):=fun k wx=>nan46 k wx
 unfold cS
 by_cases h1:Op.bytesLess a.toList b.toList=true
 ·rw [if_pos h1]
  go_enter func148,ntmps148
  go_wp2_with (first|(go_at_call 171;refine (H.out _ _).mono ?_;rintro e _ ⟨rfl,rfl⟩)|fail)
  go_ret
  exact ⟨rfl,rfl⟩
 ·rw [if_neg h1]
  have h1':Op.bytesLess a.toList b.toList=false:=by simpa using h1
  by_cases h2:(a.toList==b.toList)=true
  ·rw [if_pos h2]
   go_enter func148,ntmps148
   go_wp2_with (first|(go_at_call 171;refine (H.out _ _).mono ?_;rintro e _ ⟨rfl,rfl⟩)|fail)
   go_ret
   exact ⟨rfl,rfl⟩
  ·rw [if_neg h2]
   have h2':(a.toList==b.toList)=false:=by simpa using h2
   go_enter func148,ntmps148
   go_wp2_with (first|(go_at_call 171;refine (H.out _ _).mono ?_;rintro e _ ⟨rfl,rfl⟩)|fail)
   go_ret
   exact ⟨rfl,rfl⟩
theorem ford_lt (a b:Nat) (ha:ffin a) (hb:ffin b):(Ieee.double.order a b==some .lt)=decide (fkey a<fkey b):=by
 rw [forder a b ha hb]
 simp only [compare,compareOfLessAndEq]
 by_cases h:fkey a<fkey b
 ·rw [if_pos h];simp [h]
 ·rw [if_neg h]
  by_cases h2:fkey a=fkey b
  ·rw [if_pos h2];simp [h]
  ·rw [if_neg h2];simp [h]
theorem ford_gt (a b:Nat) (ha:ffin a) (hb:ffin b):(Ieee.double.order a b==some .gt)=decide (fkey b<fkey a):=by
 rw [forder a b ha hb]
 simp only [compare,compareOfLessAndEq]
 by_cases h:fkey a<fkey b
 ·rw [if_pos h]
  have:¬fkey b<fkey a:=by omega
  simp [this]
 ·rw [if_neg h]
  by_cases h2:fkey a=fkey b
  ·rw [if_pos h2]
   have:¬fkey b<fkey a:=by omega
   simp [this]
  ·rw [if_neg h2]
   have:fkey b<fkey a:=by omega
   simp [this]
theorem nan45 (f:Nat) (w:World) (hf:ffin f):Calls prog 170 #[.float .f64 f] w fun e w'=>e= .returned (.bool false)∧w'=w:=by
 have h:(FloatKind.f64.format.order f f !=some .eq)=false:=by
  rw [show FloatKind.f64.format.order f f=Ieee.double.order f f from rfl,ford_self f hf];rfl
 go_enter func170,ntmps170
 go_wp2
 go_ret
 exact ⟨rfl,rfl⟩
theorem cmp31 (a b:Nat) (w:World) (ha:ffin a) (hb:ffin b):Calls prog 147 #[.float .f64 a, .float .f64 b] w fun e w'=>e= .returned (.int .i64 (cI (fkey a) (fkey b)))∧w'=w:=by
 have HA:Hid (∀wx,Calls prog 170 #[.float .f64 a] wx fun e w'=>e= .returned (.bool false)∧w'=wx):=fun wx=>nan45 a wx ha
 have HB:Hid (∀wx,Calls prog 170 #[.float .f64 b] wx fun e w'=>e= .returned (.bool false)∧w'=wx):=fun wx=>nan45 b wx hb
 have e1:(FloatKind.f64.format.order a b==some .lt)=decide (fkey a<fkey b):=ford_lt a b ha hb
 have e2:(FloatKind.f64.format.order a b==some .gt)=decide (fkey b<fkey a):=ford_gt a b ha hb
 generalize fkey a=x at *
 generalize fkey b=y at *
 clear ha hb
 unfold cI
 rcases (show x<y∨y<x∨x=y by omega) with h|h|h
 ·rw [if_pos h]
  rw [decide_eq_true h] at e1
  rw [decide_eq_false (by omega)] at e2
  go_enter func147,ntmps147
  go_wp2_with fail
  refine (HA.out _).mono ?_
  rintro e _ ⟨rfl,rfl⟩
  go_wp2_with fail
  refine (HB.out _).mono ?_
  rintro e _ ⟨rfl,rfl⟩
  go_wp2
  go_ret
  exact ⟨rfl,rfl⟩
 ·rw [if_neg (by omega),if_pos h]
  rw [decide_eq_false (by omega)] at e1
  rw [decide_eq_true h] at e2
  go_enter func147,ntmps147
  go_wp2_with fail
  refine (HA.out _).mono ?_
  rintro e _ ⟨rfl,rfl⟩
  go_wp2_with fail
  refine (HB.out _).mono ?_
  rintro e _ ⟨rfl,rfl⟩
  go_wp2
  go_ret
  exact ⟨rfl,rfl⟩
 ·rw [if_neg (by omega),if_neg (by omega)]
  rw [decide_eq_false (by omega)] at e1
  rw [decide_eq_false (by omega)] at e2
  go_enter func147,ntmps147
  go_wp2_with fail
  refine (HA.out _).mono ?_
  rintro e _ ⟨rfl,rfl⟩
  go_wp2_with fail
  refine (HB.out _).mono ?_
  rintro e _ ⟨rfl,rfl⟩
  go_wp2
  go_ret
  exact ⟨rfl,rfl⟩
def or4 (a b c d:Int):Int:=if a=0 then (if b=0 then (if c=0 then d else c) else b) else a
def sel4 (a b c d:Int) (k:Nat):Int:=if k=0 then a else if k=1 then b else if k=2 then c else d
theorem or_any (g:Nat) (a b c d:Int) (w:World) (t:TypeId) (fr:Nat × Nat) (hg:w.heap[g]? =some (.cells #[.int .i64 a, .int .i64 b, .int .i64 c, .int .i64 d] t fr)) :
 Calls prog 84 #[.slice (some ⟨g,0,none⟩) 4 4] w fun e w'=>e= .returned (.int .i64 (or4 a b c d))∧w'=w:=by
 have HC:Hid (∀k,k<4→w.cell? ⟨g,k,none⟩=some (.int .i64 (sel4 a b c d k))):=fun k hk=>by
  rw [cell_of_row w g k _ _ _ hg]
  rcases (show k=0∨k=1∨k=2∨k=3 by omega) with rfl|rfl|rfl|rfl <;>rfl
 have HO:Hid (∀k,k<4→(∀j,j<k→sel4 a b c d j=0)→sel4 a b c d k≠0→or4 a b c d=sel4 a b c d k):=fun k hk h1 h2=>by
  rcases (show k=0∨k=1∨k=2∨k=3 by omega) with rfl|rfl|rfl|rfl
  ·simp only [sel4,if_true] at h2 ⊢;unfold or4;rw [if_neg h2]
  ·have:=h1 0 (by omega)
   simp [sel4] at h2 this
   simp [or4,sel4,this,h2]
  ·have:=h1 0 (by omega)
   have:=h1 1 (by omega)
   simp_all [or4,sel4]
  ·have:=h1 0 (by omega)
   have:=h1 1 (by omega)
   have:=h1 2 (by omega)
   simp_all [or4,sel4]
 have HZ:Hid ((∀j,j<4→sel4 a b c d j=0)→or4 a b c d=0):=fun h=>by
  have:=h 0 (by omega)
  have:=h 1 (by omega)
  have:=h 2 (by omega)
  have:=h 3 (by omega)
  simp_all [or4,sel4]
 generalize or4 a b c d=O at *
 clear hg
 go_enter func84,ntmps84
 go_wp2
 go_loopw [8] (fun i wr=> ∃k:Nat,k≤4∧i= .int .i64 k∧wr=w∧Hid (∀j,j<k→sel4 a b c d j=0)) (fun i _=>4-(intOf i).toNat)
 case atStart=>exact ⟨0,by omega,rfl,rfl,fun j hj=>by omega⟩
 case round =>
  obtain ⟨k,hk,rfl,rfl,hj⟩:=hrel
  by_cases h1:k<4
  ·have h1':(k:Int)<4:=by omega
   have cx:=HC.out k h1
   by_cases h0:sel4 a b c d k=0
   ·have HN:Hid (∀j,j<k+1→sel4 a b c d j=0):=fun j hj2=>by
     rcases Nat.lt_or_ge j k with h|h
     ·exact hj.out j h
     ·have:j=k:=by omega
      subst this;exact h0
    generalize sel4 a b c d k=X at cx h0
    subst h0
    go_wp2
    go_roundw
    case rel=>exact ⟨k+1,by omega,by go_num,by trivial,HN⟩
    case measure=>simp [intOf];omega
   ·have eO:Hid (O=sel4 a b c d k):=HO.out k h1 hj.out h0
    generalize sel4 a b c d k=X at *
    go_wp2
    go_ret
    exact ⟨by rw [eO.out];rfl,rfl⟩
  ·have h1':¬(k:Int)<4:=by omega
   obtain rfl:k=4:=by omega
   have eO:Hid (O=0):=HZ.out hj.out
   clear HO HZ hj HC
   go_wp2
   go_ret
   exact ⟨by rw [eO.out];rfl,rfl⟩
theorem bel_box2 (w:World) (c d:Array Value) (t u:TypeId):Below w.heap.size w ((w.alloc (.cells c t)).alloc (.cells d u)):=((Below.refl _ _).alloc (Nat.le_refl _) _).alloc (by simp) _
theorem right_fin {k n:Int} {f:Nat} {s:ByteArray} (h:rightV k n f s=true):ffin f:=by
 unfold rightV at h
 split at h
 ·unfold rightF finB at h
  simp at h
  unfold ffin
  omega
 ·have h0:f=0:=by
   split at h
   ·unfold rightT at h
    simp at h
    omega
   ·unfold rightB at h
    split at h
    ·simp at h;omega
    ·split at h
     ·simp at h;omega
     ·split at h
      ·simp at h;omega
      ·split at h
       ·simp at h;omega
       ·split at h
        ·simp at h;omega
        ·cases h
  subst h0
  unfold ffin
  omega
def cmpV (k n:Int) (f:Nat) (s:ByteArray) (k' n':Int) (f':Nat) (s':ByteArray):Int :=
 if rightV k n f s=true∧rightV k' n' f' s'=true then or4 (cI k k') (cI n n') (cI (fkey f) (fkey f')) (cS s s') else 0
structure Boxes (w wx:World) (k n:Int) (f:Nat) (s:ByteArray) (k' n':Int) (f':Nat) (s':ByteArray):Prop where
 all:wx.cell? ⟨w.heap.size,0,none⟩=some (.int .u8 k)∧wx.cell? ⟨w.heap.size,1,none⟩=some (.int .i64 n)∧wx.cell? ⟨w.heap.size,2,none⟩=some (.float .f64 f)∧wx.cell? ⟨w.heap.size,3,none⟩=some (.string s)∧wx.cell? ⟨w.heap.size+1,0,none⟩=some (.int .u8 k')∧wx.cell? ⟨w.heap.size+1,1,none⟩=some (.int .i64 n')∧wx.cell? ⟨w.heap.size+1,2,none⟩=some (.float .f64 f')∧wx.cell? ⟨w.heap.size+1,3,none⟩=some (.string s')
theorem boxes_new (w:World) (k n:Int) (f:Nat) (s:ByteArray) (k' n':Int) (f':Nat) (s':ByteArray):Boxes w ((w.alloc (.cells #[.int .u8 k, .int .i64 n, .float .f64 f, .string s] 40)).alloc (.cells #[.int .u8 k', .int .i64 n', .float .f64 f', .string s'] 40)) k n f s k' n' f' s':=by
 have g0:((w.alloc (.cells #[.int .u8 k, .int .i64 n, .float .f64 f, .string s] 40)).alloc (.cells #[.int .u8 k', .int .i64 n', .float .f64 f', .string s'] 40)).heap[w.heap.size]? =some (.cells #[.int .u8 k, .int .i64 n, .float .f64 f, .string s] 40 (0,0)):=by
  rw [Below.heap_alloc _ _ _ (by simp)];exact heap_alloc_new _ _
 have g1:((w.alloc (.cells #[.int .u8 k, .int .i64 n, .float .f64 f, .string s] 40)).alloc (.cells #[.int .u8 k', .int .i64 n', .float .f64 f', .string s'] 40)).heap[w.heap.size+1]? =some (.cells #[.int .u8 k', .int .i64 n', .float .f64 f', .string s'] 40 (0,0)):=by
  have:=heap_alloc_new (w.alloc (.cells #[.int .u8 k, .int .i64 n, .float .f64 f, .string s] 40)) (.cells #[.int .u8 k', .int .i64 n', .float .f64 f', .string s'] 40)
  simpa using this
 exact ⟨(cell_of_row _ _ 0 _ _ _ g0).trans rfl,(cell_of_row _ _ 1 _ _ _ g0).trans rfl,(cell_of_row _ _ 2 _ _ _ g0).trans rfl,(cell_of_row _ _ 3 _ _ _ g0).trans rfl,(cell_of_row _ _ 0 _ _ _ g1).trans rfl,(cell_of_row _ _ 1 _ _ _ g1).trans rfl,(cell_of_row _ _ 2 _ _ _ g1).trans rfl,(cell_of_row _ _ 3 _ _ _ g1).trans rfl⟩
theorem Boxes.below {w W wx:World} {k n:Int} {f:Nat} {s:ByteArray} {k' n':Int} {f':Nat} {s':ByteArray} (h:Boxes w W k n f s k' n' f' s') (z:w.heap.size+1<W.heap.size) (hx:Below W.heap.size W wx):Boxes w wx k n f s k' n' f' s':=by
 obtain ⟨h0,h1,h2,h3,h4,h5,h6,h7⟩:=h.all
 have z0:w.heap.size<W.heap.size:=by omega
 exact ⟨(hx.cell (p:=⟨w.heap.size,0,none⟩) z0).trans h0,(hx.cell (p:=⟨w.heap.size,1,none⟩) z0).trans h1,(hx.cell (p:=⟨w.heap.size,2,none⟩) z0).trans h2,(hx.cell (p:=⟨w.heap.size,3,none⟩) z0).trans h3,(hx.cell (p:=⟨w.heap.size+1,0,none⟩) z).trans h4,(hx.cell (p:=⟨w.heap.size+1,1,none⟩) z).trans h5,(hx.cell (p:=⟨w.heap.size+1,2,none⟩) z).trans h6,(hx.cell (p:=⟨w.heap.size+1,3,none⟩) z).trans h7⟩
theorem compare_any (k n:Int) (f:Nat) (s:ByteArray) (k' n':Int) (f':Nat) (s':ByteArray) (w:World) (hk:0≤k) (hf:f<18446744073709551616) (hs:s.size≤9223372036854775807) (hk':0≤k') (hf':f'<18446744073709551616) (hs':s'.size≤9223372036854775807) (hT:Tabs w) :
 Calls prog 114 #[.agg #[.int .u8 k, .int .i64 n, .float .f64 f, .string s], .agg #[.int .u8 k', .int .i64 n', .float .f64 f', .string s']] w fun e w'=>e= .returned (.int .i64 (cmpV k n f s k' n' f' s'))∧Below w.heap.size w w':=by
 have bx:=bel_box2 w #[.int .u8 k, .int .i64 n, .float .f64 f, .string s] #[.int .u8 k', .int .i64 n', .float .f64 f', .string s'] 40 40
 have zW:w.heap.size+1<((w.alloc (.cells #[.int .u8 k, .int .i64 n, .float .f64 f, .string s] 40)).alloc (.cells #[.int .u8 k', .int .i64 n', .float .f64 f', .string s'] 40)).heap.size:=by simp
 have hB:=boxes_new w k n f s k' n' f' s'
 have hT0:=hT.below bx
 have RA:Hid (∀wx,Below ((w.alloc (.cells #[.int .u8 k, .int .i64 n, .float .f64 f, .string s] 40)).alloc (.cells #[.int .u8 k', .int .i64 n', .float .f64 f', .string s'] 40)).heap.size ((w.alloc (.cells #[.int .u8 k, .int .i64 n, .float .f64 f, .string s] 40)).alloc (.cells #[.int .u8 k', .int .i64 n', .float .f64 f', .string s'] 40)) wx→Calls prog 71 #[.agg #[.int .u8 k, .int .i64 n, .float .f64 f, .string s]] wx fun e w'=>e= .returned (.bool (rightV k n f s))∧Below ((w.alloc (.cells #[.int .u8 k, .int .i64 n, .float .f64 f, .string s] 40)).alloc (.cells #[.int .u8 k', .int .i64 n', .float .f64 f', .string s'] 40)).heap.size ((w.alloc (.cells #[.int .u8 k, .int .i64 n, .float .f64 f, .string s] 40)).alloc (.cells #[.int .u8 k', .int .i64 n', .float .f64 f', .string s'] 40)) w'):=fun wx hx=>(right26_any k n f s wx hk hf hs (hT0.below hx)).mono fun e w' h=>⟨h.1,hx.trans (h.2.mono hx.size)⟩
 have RB:Hid (∀wx,Below ((w.alloc (.cells #[.int .u8 k, .int .i64 n, .float .f64 f, .string s] 40)).alloc (.cells #[.int .u8 k', .int .i64 n', .float .f64 f', .string s'] 40)).heap.size ((w.alloc (.cells #[.int .u8 k, .int .i64 n, .float .f64 f, .string s] 40)).alloc (.cells #[.int .u8 k', .int .i64 n', .float .f64 f', .string s'] 40)) wx→Calls prog 71 #[.agg #[.int .u8 k', .int .i64 n', .float .f64 f', .string s']] wx fun e w'=>e= .returned (.bool (rightV k' n' f' s'))∧Below ((w.alloc (.cells #[.int .u8 k, .int .i64 n, .float .f64 f, .string s] 40)).alloc (.cells #[.int .u8 k', .int .i64 n', .float .f64 f', .string s'] 40)).heap.size ((w.alloc (.cells #[.int .u8 k, .int .i64 n, .float .f64 f, .string s] 40)).alloc (.cells #[.int .u8 k', .int .i64 n', .float .f64 f', .string s'] 40)) w'):=fun wx hx=>(right26_any k' n' f' s' wx hk' hf' hs' (hT0.below hx)).mono fun e w' h=>⟨h.1,hx.trans (h.2.mono hx.size)⟩
 have eC:Hid (cmpV k n f s k' n' f' s'=if rightV k n f s=true∧rightV k' n' f' s'=true then or4 (cI k k') (cI n n') (cI (fkey f) (fkey f')) (cS s s') else 0):=rfl
 have F1:Hid (rightV k n f s=true→ffin f):=right_fin
 have F2:Hid (rightV k' n' f' s'=true→ffin f'):=right_fin
 generalize rightV k n f s=V1 at *
 generalize rightV k' n' f' s'=V2 at *
 rw [eC.out]
 clear eC hT hT0 hf hs hf' hs'
 cases V1 with
 |false =>
  rw [if_neg (by simp)]
  go_enter func114,ntmps114
  go_wp2_with fail
  refine (RA.out _ (Below.refl _ _)).mono ?_
  rintro e w1 ⟨rfl,b1⟩
  clear RA RB F1 F2
  go_wp2
  go_ret
  exact ⟨rfl,bx.trans (b1.mono (by simp;omega))⟩
 |true =>
  cases V2 with
  |false =>
   rw [if_neg (by simp)]
   go_enter func114,ntmps114
   go_wp2_with fail
   refine (RA.out _ (Below.refl _ _)).mono ?_
   rintro e w1 ⟨rfl,b1⟩
   obtain ⟨a0,a1,a2,a3,e0,e1,e2,e3⟩:=(hB.below zW b1).all
   go_wp2_with fail
   refine (RB.out _ b1).mono ?_
   rintro e w2 ⟨rfl,b2⟩
   clear RA RB F1 F2
   go_wp2
   go_ret
   exact ⟨rfl,bx.trans (b2.mono (by simp;omega))⟩
  |true =>
   rw [if_pos (by simp)]
   have ff:=F1.out rfl
   have ff':=F2.out rfl
   clear F1 F2
   go_enter func114,ntmps114
   go_wp2_with fail
   refine (RA.out _ (Below.refl _ _)).mono ?_
   rintro e w1 ⟨rfl,b1⟩
   obtain ⟨a0,a1,a2,a3,e0,e1,e2,e3⟩:=(hB.below zW b1).all
   go_wp2_with fail
   refine (RB.out _ b1).mono ?_
   rintro e w2 ⟨rfl,b2⟩
   have sB:=(hB.below zW b2)
   have bw2:Below w.heap.size w w2:=bx.trans (b2.mono (by simp;omega))
   have z2:w.heap.size+1<w2.heap.size:=by have:=b2.size;omega
   clear RA RB a0 a1 a2 a3 e0 e1 e2 e3 b1 b2 hB bx zW
   go_upto_region 3 with fail
   obtain ⟨a0,a1,a2,a3,e0,e1,e2,e3⟩:=sB.all
   have C1:Hid (∀wx,Calls prog 145 #[.int .u8 k, .int .u8 k'] wx fun e w'=>e= .returned (.int .i64 (cI k k'))∧w'=wx):=fun wx=>cmp29 k k' wx
   have C2:Hid (∀wx,Calls prog 146 #[.int .i64 n, .int .i64 n'] wx fun e w'=>e= .returned (.int .i64 (cI n n'))∧w'=wx):=fun wx=>cmp30 n n' wx
   have C3:Hid (∀wx,Calls prog 147 #[.float .f64 f, .float .f64 f'] wx fun e w'=>e= .returned (.int .i64 (cI (fkey f) (fkey f')))∧w'=wx):=fun wx=>cmp31 f f' wx ff ff'
   have C4:Hid (∀wx,Calls prog 148 #[.string s, .string s'] wx fun e w'=>e= .returned (.int .i64 (cS s s'))∧w'=wx):=fun wx=>cmp32 s s' wx
   generalize hx1:cI k k'=x1 at *
   have X1:Hid (cI k k'=x1):=hx1
   clear hx1
   generalize hx2:cI n n'=x2 at *
   have X2:Hid (cI n n'=x2):=hx2
   clear hx2
   generalize hx3:cI (fkey f) (fkey f')=x3 at *
   have X3:Hid (cI (fkey f) (fkey f')=x3):=hx3
   clear hx3
   generalize hx4:cS s s'=x4 at *
   have X4:Hid (cS s s'=x4):=hx4
   clear hx4
   clear ff ff'
   go_region_held3 (fun w'=>w'.cell? ⟨w.heap.size,0,none⟩=some (.int .u8 k)∧w'.cell? ⟨w.heap.size,1,none⟩=some (.int .i64 n)∧w'.cell? ⟨w.heap.size,2,none⟩=some (.float .f64 f)∧w'.cell? ⟨w.heap.size,3,none⟩=some (.string s)∧w'.cell? ⟨w.heap.size+1,0,none⟩=some (.int .u8 k')∧w'.cell? ⟨w.heap.size+1,1,none⟩=some (.int .i64 n')∧w'.cell? ⟨w.heap.size+1,2,none⟩=some (.float .f64 f')∧w'.cell? ⟨w.heap.size+1,3,none⟩=some (.string s')) (first|assumption|go_keep) (first
        |(go_at_call 145;refine (C1.out _).mono ?_;rintro e _ ⟨rfl,rfl⟩)
        |(go_at_call 146;refine (C2.out _).mono ?_;rintro e _ ⟨rfl,rfl⟩)
        |(go_at_call 147;refine (C3.out _).mono ?_;rintro e _ ⟨rfl,rfl⟩)
        |(go_at_call 148;refine (C4.out _).mono ?_;rintro e _ ⟨rfl,rfl⟩)
        |(go_at_call 84;refine (or_any _ x1 x2 x3 x4 _ 3 (0,0) (by exact heap_alloc_new _ _)).mono ?_;rintro e _ ⟨rfl,rfl⟩))
   go_wp2
   go_ret
   refine ⟨by rw [X1.out,X2.out,X3.out,X4.out];rfl, ?_⟩
   first|exact (bw2.alloc (by omega) _).drew|exact bw2.alloc (by omega) _|exact below_drewN (bw2.alloc (by omega) _) _|exact ((below_drewN bw2 _).alloc (by simp;omega) _).drew
theorem or4_zero {a b c d:Int} (h:or4 a b c d=0):a=0∧b=0∧c=0∧d=0:=by
 unfold or4 at h
 split at h
 ·split at h
  ·split at h
   ·exact ⟨by assumption,by assumption,by assumption,h⟩
   ·exact absurd h (by assumption)
  ·exact absurd h (by assumption)
 ·exact absurd h (by assumption)
end V
end K
section
theorem Aim {F:List Elt} (ok:Abf F) (c:Bool) {i:Nat} (hi:i<F.length):Aac F c F[i].id=((F.take i).countP (cE c):Int):=by
 have hs:F=F.take i++F[i]::F.drop (i+1):=by rw [List.getElem_cons_drop];exact (List.take_append_drop i F).symm
 have hh:Abg F F[i].id=true:=Aao.2 ⟨F[i],List.getElem_mem hi,rfl⟩
 unfold Aac
 rw [if_pos hh]
 have e:F.takeWhile (fun e=> !decide (e.id=F[i].id))=F.take i:=by
  have nd:=ok.nd
  generalize F[i]=x at *
  rw [hs,List.map_append,List.map_cons,List.nodup_append] at nd
  conv=>lhs;rw [hs]
  refine Adi (fun y hy=> ?_) (by simp)
  have:y.id≠x.id:=nd.2.2 y.id (List.mem_map.2 ⟨y,hy,rfl⟩) x.id (by simp)
  simpa using this
 rw [e]
theorem Azz (l:List Elt):l.countP (cE false)=l.length:=List.countP_eq_length.2 fun x _=>rfl
theorem Afi {F:List Elt} (ok:Abf F) {i:Nat} (hi:i<F.length):Aac F false F[i].id=(i:Int):=by
 rw [Aim ok false hi,Azz,List.length_take,Nat.min_eq_left (by omega)]
def Abn (E:List Elt) (r:Nat):Nat:=(E.take r).countP (cE true)
theorem Ad7 {E:List Elt} {r:Nat} (hr:r<E.length):Abn E (r+1)=Abn E r+(if E[r].sh=true then 1 else 0):=by
 unfold Abn
 rw [List.take_add_one,List.getElem?_eq_getElem hr,Option.toList,List.countP_append,List.countP_cons,List.countP_nil]
 simp [cE]
theorem Alj {E:List Elt} {a b:Nat} (h:a≤b):Abn E a≤Abn E b:=by
 unfold Abn
 exact (List.take_sublist_take_left h).countP_le
theorem Ae7 (E:List Elt) {r:Nat} (h:E.length≤r):Abn E r=(Adg E true).length:=by
 unfold Abn Adg
 rw [List.take_of_length_le h,List.countP_eq_length_filter]
theorem Avg (E:List Elt) (r:Nat):Abn E r≤(Adg E true).length:=by
 rw [←Ae7 E (Nat.le_refl _)]
 rcases Nat.le_total r E.length with h|h
 ·exact Alj h
 ·rw [Ae7 E h,Ae7 E (Nat.le_refl _)];exact Nat.le_refl _
theorem Ad0 {E:List Elt} (ok:Abf E) {r:Nat} (hr:r≤E.length):Aem E (r:Int)=(Abn E r:Int):=by
 unfold Aem Aex
 rw [Ap3]
 by_cases h:r<E.length
 ·have h1:(0:Int)≤(r:Int)∧(r:Int)<(E.length:Int):=by omega
  simp only [if_pos h1,if_true,Int.toNat_natCast]
  rw [List.getD_eq_getElem?_getD,List.getElem?_map,List.getElem?_eq_getElem h]
  exact Aim ok true h
 ·have h1:¬((0:Int)≤(r:Int)∧(r:Int)<(E.length:Int)):=by omega
  simp only [if_neg h1,Bool.false_eq_true,if_false]
  rw [Ae7 E (by omega)]
theorem Agg {E:List Elt} (ok:Abf E) (x:MkV):∃f t:Nat,Abo E x=((f:Int),(t:Int))∧f≤E.length∧t≤E.length:=by
 have edge:∀(k:IdK) (bh:Bool) (z:Nat),z≤E.length→(Acp E k bh (z:Int)).2=true→∃n:Nat,(Acp E k bh (z:Int)).1=(n:Int)∧n≤E.length:=fun k bh z hz h=>by
  unfold Acp at *
  by_cases q:k=zId
  ·rw [if_pos q] at *;exact ⟨z,rfl,hz⟩
  ·rw [if_neg q] at *
   have hl:∀y:Int,y=Aac E false k→decide (y≥0)=true→∃n:Nat,y=(n:Int)∧n+1≤E.length:=fun y e hy=>by
        have hy:=of_decide_eq_true hy
        have hh:Abg E k=true:=by
         cases hq:Abg E k with
         |true=>rfl
         |false=>unfold Aac at e;rw [hq] at e;simp at e;omega
        obtain ⟨d,hd,rfl⟩:=Aao.1 hh
        obtain ⟨i,hi,rfl⟩:=List.mem_iff_getElem.1 hd
        rw [Afi ok hi] at e
        exact ⟨i,e,hi⟩
   cases bh with
   |true =>
    rw [if_pos rfl] at *
    obtain ⟨n,e,hn⟩:=hl _ rfl h
    exact ⟨n+1,by simp only;omega,hn⟩
   |false =>
    rw [if_neg (by decide)] at *
    obtain ⟨n,e,hn⟩:=hl _ rfl h
    exact ⟨n,e,by omega⟩
 unfold Abo
 by_cases q:(Acp E x.fr (bF x.sd) 0).2=true∧(Acp E x.to (bT x.sd) (E.length:Int)).2=true
 ·rw [if_pos q]
  obtain ⟨f,e1,h1⟩:=edge x.fr (bF x.sd) 0 (by omega) q.1
  obtain ⟨t,e2,h2⟩:=edge x.to (bT x.sd) E.length (Nat.le_refl _) q.2
  refine ⟨f,t, ?_,h1,h2⟩
  rw [e2]
  rw [show (0:Int)=((0:Nat):Int) from rfl,e1]
 ·rw [if_neg q]
  exact ⟨0,0,rfl,Nat.zero_le _,Nat.zero_le _⟩
def Air (E:List Elt) (r:Int) (x:MkV):Bool:=decide ((Abo E x).1≤r∧r<(Abo E x).2)
def cvE (E:List Elt) (x:MkV):SpV:=⟨Aem E (Abo E x).1,Aem E (Abo E x).2,x.nm,x.v⟩
theorem A6o {E:List Elt} (ok:Abf E) (x:MkV):0≤(cvE E x).fr∧(cvE E x).to≤((Adg E true).length:Int)∧(cvE E x).fr≤((Adg E true).length:Int)∧0≤(cvE E x).to:=by
 obtain ⟨f,t,e,h1,h2⟩:=Agg ok x
 unfold cvE
 rw [e]
 simp only [Ad0 ok h1,Ad0 ok h2]
 have:=Avg E t
 have:=Avg E f
 omega
theorem A8c {E:List Elt} (ok:Abf E) (x:MkV) {r:Nat} (hr:r<E.length) (hs:E[r].sh=true):inC (Abn E r:Int) (cvE E x)=Air E (r:Int) x:=by
 obtain ⟨f,t,e,h1,h2⟩:=Agg ok x
 have s1:=Ad7 hr
 rw [if_pos hs] at s1
 unfold inC Air cvE
 rw [e]
 simp only [Ad0 ok h1,Ad0 ok h2]
 rw [Bool.eq_iff_iff]
 simp only [decide_eq_true_eq]
 have key:∀n:Nat,(Abn E n:Int)≤(Abn E r:Int)↔n≤r:=fun n=>by
  constructor
  ·intro h
   rcases Nat.lt_or_ge r n with q|q
   ·have:=Alj (E:=E) (show r+1≤n from q);omega
   ·exact q
  ·intro h;have:=Alj (E:=E) h;omega
 have k1:=key f
 have k2:=key t
 constructor
 ·rintro ⟨g1,g2⟩;exact ⟨by have:=k1.1 g1;omega,by
   have:¬t≤r:=fun q=>by have:=k2.2 q;omega
   omega⟩
 ·rintro ⟨g1,g2⟩;exact ⟨k1.2 (by omega),by
   have:¬(Abn E t:Int)≤(Abn E r:Int):=fun q=>by have:=k2.1 q;omega
   omega⟩
def cvL (E:List Elt) (L:List MkV):List SpV:=(L.map (cvE E)).filter fun c=>decide (c.fr<c.to)
def cvN (E:List Elt) (L:List MkV) (nm:ByteArray):List SpV:=(cvL E L).filter fun c=>decide (c.nm=nm)
def hE (E:List Elt) (L:List MkV) (nm:ByteArray) (j:Int):Option VaV:=Ag5 (cvN E L nm) j
theorem Afr {C:List SpV} {j:Int}:Ag5 C j=((C.filter (inC j)).getLast?).bind fun c=>if c.v.k=0 then none else some c.v:=by
 unfold Ag5
 cases h:Acy C j with
 |none =>
  have:=Acu.1 h
  rw [List.filter_eq_nil_iff.2 (fun c hc=>by rw [this c hc];decide)]
  rfl
 |some i =>
  obtain ⟨c,h1,h2,h3⟩:=Aef.1 h
  have hi:=(List.getElem?_eq_some_iff.1 h1)
  have hs:C=C.take i++c::C.drop (i+1):=by
   obtain ⟨hl,rfl⟩:=hi
   rw [List.getElem_cons_drop];exact (List.take_append_drop i C).symm
  have hd:(C.drop (i+1)).filter (inC j)=[]:=List.filter_eq_nil_iff.2 fun d hd=>by
   obtain ⟨k,hk⟩:=List.mem_iff_getElem?.1 hd
   rw [List.getElem?_drop] at hk
   rw [h3 _ d (by omega) hk];decide
  have e:C.filter (inC j)=(C.take i).filter (inC j)++[c]:=by
   conv=>lhs;rw [hs]
   rw [List.filter_append,List.filter_cons,if_pos h2,hd]
  rw [e]
  simp [A16,h1]
def hR (E:List Elt) (L:List MkV) (nm:ByteArray) (r:Int):Option VaV:=((L.filter fun x=>decide (x.nm=nm)&&Air E r x).getLast?).bind fun x=>if x.v.k=0 then none else some x.v
theorem A3j {E:List Elt} (ok:Abf E) (L:List MkV) (nm:ByteArray) {r:Nat} (hr:r<E.length) (hs:E[r].sh=true):hE E L nm (Abn E r:Int)=hR E L nm (r:Int):=by
 unfold hE hR
 rw [Afr]
 have e:(cvN E L nm).filter (inC (Abn E r:Int))=(L.filter fun x=>decide (x.nm=nm)&&Air E (r:Int) x).map (cvE E):=by
  unfold cvN cvL
  rw [List.filter_filter,List.filter_filter,List.filter_map]
  congr 1
  refine List.filter_congr fun x _=> ?_
  have h:=A8c ok x hr hs
  simp only [Function.comp,h]
  by_cases q:Air E (r:Int) x=true
  ·have:(cvE E x).fr<(cvE E x).to:=by rw [q] at h;unfold inC at h;have:=of_decide_eq_true h;omega
   simp [q,this]
   rfl
  ·have:Air E (r:Int) x=false:=by simpa using q
   simp [this]
 rw [e,List.getLast?_map]
 cases (L.filter fun x=>decide (x.nm=nm)&&Air E (r:Int) x).getLast? with
 |none=>rfl
 |some x=>rfl
theorem A1g {E:List Elt} (ok:Abf E) (L:List MkV) (nm:ByteArray) {j:Int} (h:j<0∨((Adg E true).length:Int)≤j):hE E L nm j=none:=by
 unfold hE
 rw [Afr,List.filter_eq_nil_iff.2]
 ·rfl
 ·intro c hc
  have h1:=(List.mem_filter.1 (List.mem_filter.1 hc).1).1
  obtain ⟨x,_,rfl⟩:=List.mem_map.1 h1
  have b:=A6o ok x
  unfold inC
  simp only [decide_eq_true_eq]
  omega
end
end Go.Proofs.YtifendlpeebofaaGreatDoor
