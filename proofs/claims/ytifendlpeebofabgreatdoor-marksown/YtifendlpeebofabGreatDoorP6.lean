import Derived.Test.YtifendlpeebofabGreatDoorP5
import Derived.Test.YtifendlpeebofabGreatDoorP4
import Derived.Test.YtifendlpeebofabGreatDoorP0
import Derived.Test.YtifendlpeebofabGreatDoorMa
import Derived.Maps.RangeRun
import Derived.Laws.FloatArith
import Derived.Test.YtifendlpeebofabGreatDoorTie
import Derived.Test.YtifendlpeebofabGreatDoorCards
import Derived.Lib.LaidU8T
import Derived.Lib.LaidU8
import Derived.LaidMore
import Derived.MakeChecks
import Derived.Lay
import Derived.Lib.SmallJoins
import Derived.Stop.Joined
import Derived.SevenTiedAt
import Derived.SizedLaws
import Derived.Deep.DeepHandedRow
import Derived.JoinedCond
import Derived.Test.YtifendlpeebofabGreatDoorRows
import Derived.WalkKit
import Derived.WalkSpells
import Derived.WalkLawsBesides
import Derived.Maps.AppendAt
import Derived.Laws.OwnMore
import Derived.Below
import Derived.OwnWalk
import Derived.Deep.MidRow
import Derived.Laws.Concat
import Derived.Laws.IdiomStrings
set_option linter.unusedSimpArgs false
set_option linter.unusedVariables false
set_option maxRecDepth 100000
set_option maxHeartbeats 4000000
namespace Go.Proofs.YtifendlpeebofabGreatDoor
open Go.RowKit Go.Shelf Sq
theorem cvN_snoc (E:List Elt) (L:List MkV) (x:MkV) (nm:ByteArray):cvN E (L++[x]) nm=cvN E L nm++(if (cvE E x).fr<(cvE E x).to∧nm=x.nm then [cvE E x] else []):=by
 unfold cvN cvL
 rw [List.map_append,List.filter_append,List.filter_append]
 congr 1
 by_cases h:(cvE E x).fr<(cvE E x).to
 ·by_cases e:nm=x.nm
  ·have e2:(cvE E x).nm=nm:=e.symm
   rw [if_pos ⟨h,e⟩]
   simp [h,e2]
  ·have e2:¬(cvE E x).nm=nm:=fun q=>e q.symm
   rw [if_neg (fun q=>e q.2)]
   simp [h,e2]
 ·rw [if_neg (fun q=>h q.1)]
  simp [h]
theorem cvN_len (E:List Elt) (L:List MkV) (nm:ByteArray):(cvN E L nm).length≤L.length:=by
 unfold cvN cvL
 refine Nat.le_trans (List.length_filter_le _ _) (Nat.le_trans (List.length_filter_le _ _) ?_)
 rw [List.length_map]
 exact Nat.le_refl _
theorem cvN_mem {E:List Elt} {L:List MkV} {nm:ByteArray} {c:SpV} (h:c∈cvN E L nm):∃x∈L,c=cvE E x:=by
 unfold cvN cvL at h
 obtain ⟨x,hx,e⟩:=List.mem_map.1 (List.mem_filter.1 (List.mem_filter.1 h).1).1
 exact ⟨x,hx,e.symm⟩
theorem cvE_ok {w:World} {s:Sx} {E:List Elt} (h:SeqAt w s E) {x:MkV} (hx:x.ok):(cvE E x).ok:=by
 have b:=cv_bd h.lk.ok x
 have n:(visE E true).length≤E.length:=List.length_filter_le _ _
 have f:=h.few
 exact ⟨by omega,by omega,by omega,by omega,hx.nm,hx.v⟩
theorem zeroSl (w:World):(zeroValue 48).run Tryz.prog w= .ok (.slice none 0 0) w:=by kernel_rfl
structure CmAt (W:World) (base fm:Nat) (D:List (ByteArray × Value)) (F:ByteArray→List SpV):Prop where
 m:M.MapAt W fm tx txOk D
 rows:∀k v,M.look D k=some v→RSp.Own W base v (F k)∧F k≠[]
 nil:∀k,M.look D k=none→F k=[]
 ds:∀k1 v1 k2 v2 j,M.look D k1=some v1→M.look D k2=some v2→k1≠k2→v1.ownBlock=some j→v2.ownBlock≠some j
 fb:base≤fm
section
variable {W W':World} {base fm:Nat} {D:List (ByteArray × Value)} {F:ByteArray→List SpV}
theorem CmAt.below (h:CmAt W base fm D F) (b:Below W.heap.size W W'):CmAt W' base fm D F :=
 ⟨h.m.below (b.block _ h.m.lt),fun k v e=>⟨(h.rows k v e).1.below b,(h.rows k v e).2⟩,h.nil,h.ds,h.fb⟩
theorem CmAt.new (w:World):(Instr.makeMap 72 none).run Tryz.prog w= .ok (.map (some w.heap.size)) (w.alloc (.map #[] 0))∧CmAt (w.alloc (.map #[] 0)) w.heap.size w.heap.size [] (fun _=>[])∧Below w.heap.size w (w.alloc (.map #[] 0)) :=
 ⟨by simp [Instr.makeMap,run_underlying Tryz.underlying72],⟨M.MapAt.new w tx txOk,fun k v e=>(by cases e),fun _ _=>rfl,fun _ _ _ _ _ e=>(by cases e),Nat.le_refl _⟩,(Below.refl _ _).alloc (Nat.le_refl _) _⟩
def uV (D:List (ByteArray × Value)) (k:ByteArray):Value:=(M.look D k).getD (.slice none 0 0)
theorem CmAt.lookr (h:M.MapAt W fm tx txOk D) {k:ByteArray} (hk:txOk k):(Instr.lookup 72 (.map (some fm)) (.string k) false).run Tryz.prog W= .ok (uV D k) W:=by
 have:=M.run_look txKey Tryz.underlying72 h k hk (zeroSl W) false
 rw [show (Value.string k)=tx k from rfl,this]
 rfl
theorem CmAt.own (h:CmAt W base fm D F) (k:ByteArray):RSp.Own W base (uV D k) (F k):=by
 unfold uV
 cases e:M.look D k with
 |none=>rw [h.nil k e];exact RowT.own_nil _ _ _
 |some v=>exact (h.rows k v e).1
theorem CmAt.push (h:CmAt W base fm D F) (hb:base≤W.heap.size) {k:ByteArray} (hk:txOk k) {x:SpV} (hx:x.ok) (hl:(F k).length+1≤2000000000000) :
 ∃sv w1 v2 w2 w3,(Instr.buildSlice 48 1 #[(0,x.a)]).run Tryz.prog W= .ok sv w1∧Below W.heap.size W w1∧(Builtin.append_ #[48,48] 48 #[uV D k,sv]).run Tryz.prog w1= .ok v2 w2∧(∀j,j<W.heap.size→(uV D k).ownBlock≠some j→w2.heap[j]? =W.heap[j]?)∧M.MapAt w2 fm tx txOk D∧(Instr.mapUpdate 72 (.map (some fm)) (.string k) v2).run Tryz.prog w2= .ok () w3∧Below base W w3∧CmAt w3 base fm (M.put D k v2) (fun k'=>if k'=k then F k++[x] else F k'):=by
 have ho:=h.own k
 obtain ⟨u,hu⟩:∃u,uV D k=u:=⟨_,rfl⟩
 rw [hu] at ho ⊢
 obtain ⟨sv,w1,v',w2,e1,e2,o,b1,z1,g,q⟩:=RowT.run_push RSp_is W base u (F k) x ho hx (by unfold maxLen;omega) (by show _*72≤_;omega) hb
 have no:∀j,u.ownBlock=some j→base≤j∧∃c,W.heap[j]? =some (.cells c RSp.e (0,0)):=fun j hj=>ho.cells hj
 have k2:∀j,j<W.heap.size→u.ownBlock≠some j→w2.heap[j]? =W.heap[j]? :=fun j hj hn=>(g.block j (Nat.lt_of_lt_of_le hj b1.size) (fun e=>hn e.symm)).trans (b1.block j hj)
 obtain ⟨⟨es,ck,hfm,_⟩,_⟩:=h.m
 have nf:u.ownBlock≠some fm:=fun e=>by
  obtain ⟨_,c,hc⟩:=no fm e
  rw [hfm] at hc;cases hc
 have m2:M.MapAt w2 fm tx txOk D:=h.m.below (k2 fm h.m.lt nf)
 obtain ⟨ob,ep,mp⟩:=M.run_put (P:=Tryz.prog) (w:=w2) txKey Tryz.underlying72 m2 k hk v'
 have lk:=M.put_look D k v' h.m.2.1
 have vf:v'.ownBlock≠some fm:=fun e=>by
  rcases q with q|q
  ·rw [q] at e;exact nf e
  ·rw [q] at e
   have:=h.m.lt
   cases e
   have:=b1.size
   omega
 have o3:RSp.Own (M.setM w2 fm ob) base v' (F k++[x]):=o.keep (fun j hj=>M.setM_other _ (fun e=>vf (by rw [←e];exact hj)))
 have dsu:∀kk v2 j,M.look D kk=some v2→kk≠k→v2.ownBlock=some j→u.ownBlock≠some j:=fun kk v2 j e hne hj hu2=>by
  unfold uV at hu
  cases el:M.look D k with
  |none=>rw [el] at hu;subst hu;cases hu2
  |some v =>
   rw [el] at hu
   have hu':v=u:=by rw [Option.getD_some] at hu;exact hu
   subst hu'
   exact h.ds kk v2 k v j e el hne hj hu2
 have dsv:∀kk v2 j,M.look D kk=some v2→kk≠k→v2.ownBlock=some j→v'.ownBlock≠some j:=fun kk v2 j e hne hj hv=>by
  rcases q with q|q
  ·rw [q] at hv;exact dsu kk v2 j e hne hj hv
  ·rw [q] at hv
   cases hv
   have:=(h.rows kk v2 e).1.lt hj
   have:=b1.size
   omega
 refine ⟨sv,w1,v',w2,M.setM w2 fm ob,e1,b1,e2,k2,m2,ep, ?_,mp,fun k' v e=> ?_,fun k' e=> ?_,fun k1 v1 k3 v3 j a1 a3 hne hj=> ?_,h.fb⟩
 ·exact M.setM_below _ ((b1.mono hb).trans ((Below.refl _ _).grown g (Nat.le_trans hb b1.size) (fun k e=>(no k e).1))) h.fb
 ·rw [lk k'] at e
  by_cases hc:k'=k
  ·rw [if_pos hc] at e ⊢
   cases e
   exact ⟨o3,by simp⟩
  ·rw [if_neg hc] at e ⊢
   obtain ⟨r1,r2⟩:=h.rows k' v e
   refine ⟨r1.keep (fun j hj=> ?_),r2⟩
   have nj:j≠fm:=fun e2=>by
      obtain ⟨_,c,hcc⟩:=r1.cells hj
      rw [e2,hfm] at hcc;cases hcc
   rw [M.setM_other _ nj]
   exact k2 j (r1.lt hj) (dsu k' v j e hc hj)
 ·rw [lk k'] at e
  by_cases hc:k'=k
  ·rw [if_pos hc] at e;cases e
  ·rw [if_neg hc] at e ⊢
   exact h.nil k' e
 ·rw [lk k1] at a1
  rw [lk k3] at a3
  by_cases h1:k1=k
  ·rw [if_pos h1] at a1
   cases a1
   have h3:k3≠k:=fun e=>hne (by rw [h1,e])
   rw [if_neg h3] at a3
   exact fun e=>dsv k3 v3 j a3 h3 e hj
  ·rw [if_neg h1] at a1
   by_cases h3:k3=k
   ·rw [if_pos h3] at a3
    cases a3
    exact dsv k1 v1 j a1 h1 hj
   ·rw [if_neg h3] at a3
    exact h.ds k1 v1 k3 v3 j a1 a3 hne hj
end
attribute [local go_sem] Oper.semAt_some
def CvS (w:World) (fm:Nat) (E:List Elt) (L:List MkV) (W:World):Prop:=∃D,CmAt W w.heap.size fm D (fun nm=>cvN E L nm)∧Below w.heap.size w W
theorem CvS.skip {w W W':World} {fm:Nat} {E:List Elt} {L:List MkV} {x:MkV} (h:CvS w fm E L W) (b:Below W.heap.size W W') (hx:¬(cvE E x).fr<(cvE E x).to):CvS w fm E (L++[x]) W':=by
 obtain ⟨D,c,bl⟩:=h
 refine ⟨D, ?_,bl.trans (b.mono bl.size)⟩
 rw [show (fun nm=>cvN E (L++[x]) nm)=fun nm=>cvN E L nm from funext fun nm=>by rw [cvN_snoc,if_neg (fun q=>hx q.1),List.append_nil]]
 exact c.below b
theorem cvN_put {E:List Elt} {L:List MkV} {x:MkV} (hx:(cvE E x).fr<(cvE E x).to):(fun nm=>cvN E (L++[x]) nm)=fun k'=>if k'=x.nm then cvN E L x.nm++[cvE E x] else cvN E L k':=by
 funext nm
 rw [cvN_snoc]
 by_cases h:nm=x.nm
 ·rw [if_pos ⟨hx,h⟩,if_pos h,h]
 ·rw [if_neg (fun q=>h q.2),if_neg h,List.append_nil]
theorem CvS.more {w W:World} {fm:Nat} {E:List Elt} {L:List MkV} {x:MkV} {p:SpV} {D:List (ByteArray × Value)} (hp:cvE E x=p) (hl:(cvE E x).fr<(cvE E x).to) (c:CmAt W w.heap.size fm D (fun k'=>if k'=x.nm then cvN E L x.nm++[p] else cvN E L k')) (b:Below w.heap.size w W):CvS w fm E (L++[x]) W:=by
 subst hp
 rw [←cvN_put hl] at c
 exact ⟨D,c,b⟩
set_option maxHeartbeats 8000000 in
theorem covers_any {w:World} {s:Sx} {E:List Elt} {base:Nat} {m:Mx} (h:SeqAt w s E) (hm:MkAt w base m) :
 Calls Tryz.prog 17 #[.pointer (some ⟨m.mb,0,none⟩), .pointer (some ⟨s.sb,0,none⟩)] w fun e w'=> ∃fm,e= .returned (.map (some fm))∧CvS w fm E m.L w':=by
 obtain ⟨E1,C1,b1⟩:=CmAt.new w
 obtain ⟨w1,hw1⟩:∃w1,w.alloc (.map #[] 0)=w1:=⟨_,rfl⟩
 rw [hw1] at E1 C1 b1
 obtain ⟨la,lc,elv,hat⟩:=hm.lvS
 have LL:=(hm.below b1).ldl
 rw [elv] at LL
 have HH:=hidMk (fun (W:World) (b:Below w.heap.size w W)=>h.below b)
 have HOK:=hidMk (fun x hx=>cvE_ok (x:=x) h hx)
 have RN:=hidMk (fun x=>reach_nat h.lk.ok x)
 have FEW:=hidMk h.few
 have HAT:=hidMk (fun (W:World) (b:Below w.heap.size w W)=>hat.below b)
 have MOK:=hidMk hm.ok
 obtain ⟨n,hn⟩:∃n,m.L.length=n:=⟨_,rfl⟩
 have HN:=hidMk (show m.L.length=n∧n≤900000000000 from ⟨hn,by rw [←hn];exact hm.n⟩)
 rw [hn] at LL
 obtain ⟨fm,hfm⟩:∃fm,w.heap.size=fm:=⟨_,rfl⟩
 have I0:=hidMk (show CvS w fm E (m.L.take 0) w1 from ⟨[],by rw [←hfm];exact C1,b1⟩)
 rw [hfm] at E1
 clear hw1 C1 b1 elv hat h hm hn hfm
 go_enter Tryz.func17,Tryz.ntmps17
 go_upto_region 1 with fail
 refine cvr1 (fm:=fm) (w1:=w1) _ w _ rfl E1 ?_
 intro a' w3 hw ha
 obtain rfl:w1=w3:=hw.symm
 subst ha
 simp only [Act.put,qsA,qsB,qsC]
 clear E1
 go_upto_region 2 with fail
 refine cvr2 (mb:=m.mb) (n:=n) (c:=lc) (la:=la) _ w1 _ rfl rfl LL ?_
 intro a' w3 hw ha
 obtain rfl:w1=w3:=hw.symm
 subst ha
 simp only [Act.put,qsA,qsB,qsC]
 clear LL
 go_wp2
 go_loopw [17] (fun v17 wr=> ∃i:Nat,v17= .int .i64 (i:Int)∧i≤n∧Hid (CvS w fm E (m.L.take i) wr)) (fun v17 _=>n-(intOf v17).toNat)
 case atStart=>exact ⟨0,rfl,Nat.zero_le _,I0⟩
 case round =>
  clear I0
  obtain ⟨i,rfl,hi,HI⟩:=hrel
  by_cases h:i<n
  ·have h':(i:Int)<(n:Int):=by omega
   have hn64:n≤9223372036854775807:=by have:=HN.out;omega
   obtain ⟨x,hx⟩:∃x,m.L[i]? =some x:=⟨_,List.getElem?_eq_getElem (by have:=HN.out;omega)⟩
   have MX:=hidMk (MOK.out x (List.mem_of_getElem? hx))
   have TK:=hidMk (show m.L.take (i+1)=m.L.take i++[x] by rw [List.take_add_one,hx];rfl)
   have MS:=hidMk (show n-(((i+1:Nat):Int)).toNat<n-((i:Nat):Int).toNat by simp only [Int.toNat_natCast];omega)
   have HH1:=hidMk h
   obtain ⟨D,HC,hbl⟩:∃D,Hid (CmAt wr w.heap.size fm D (fun nm=>cvN E (m.L.take i) nm))∧Hid (Below w.heap.size w wr):=by
        obtain ⟨D,c,b⟩:=HI.out
        exact ⟨D,hidMk c,hidMk b⟩
   obtain ⟨g,o,rfl,_,hr⟩:=(HAT.out wr hbl.out).get (i:=i) (by have:=HN.out;omega)
   have hr':wr.rangeAt g (o+105*i) x.c:=by
        have e:m.L[i]'(by have:=HN.out;omega)=x:=(List.getElem?_eq_some_iff.1 hx).2
        rw [e] at hr;exact hr
   have LX:=RowT.ld RM_is MX.out.1 hr'
   have EA:=RowT.bx_zero RM_is wr
   have ES:=RowT.bx_new RM_is wr MX.out.1
   obtain ⟨hbx,hbb⟩:=RowT.bx_is RM wr x
   clear hr hr' hx
   go_upto_region 4 with fail
   refine cvr4 (g:=g) (o:=o) (n:=n) (c:=lc) (i:=i) (eb:=wr.heap.size) (x:=x) _ wr _ rfl rfl rfl h hn64 LX EA ES ?_
   intro a' w3 hw ha
   subst ha
   rw [←hw] at hbx hbb
   obtain ⟨w4,hw4⟩:∃w4,w3=w4:=⟨_,rfl⟩
   rw [hw4] at hbx hbb ⊢
   simp only [Act.put,qsA,qsB,qsC]
   clear LX EA ES hw hw4
   obtain ⟨f,t,hft,hf,ht⟩:=RN.out x
   have b4:=hbl.out.trans (hbb.mono hbl.out.size)
   have RC:=hidMk (reach_any (HH.out w4 b4) MX.out.1 MX.out.2 hbx)
   have HFT:=hidMk hft
   have HB4:=hidMk (And.intro hbx hbb)
   have hF:=hidMk (show cvE E x=⟨idxE E (f:Int),idxE E (t:Int),x.nm,x.v⟩ by unfold cvE;rw [hft])
   rw [hft] at RC
   clear hbx hbb b4 hft
   go_upto_region 5 with fail
   refine cvr5 (sb:=s.sb) (eb:=wr.heap.size) (f:=(f:Int)) (t:=(t:Int)) (fun W=>Below w4.heap.size w4 W) _ w4 _ rfl rfl rfl RC.out ?_
   intro a' w5 b5 ha
   subst ha
   simp only [Act.put,qsA,qsB,qsC]
   clear RC
   have hb05:Below wr.heap.size wr w5:=HB4.out.2.trans (b5.mono HB4.out.2.size)
   have hbx5:=HB4.out.1.below b5
   have B05:=hidMk hb05
   have BX5:=hidMk hbx5
   clear hb05 hbx5 b5 HB4
   have hfe:=FEW.out
   have H5:∀W,Below w5.heap.size w5 W→SeqAt W s E:=fun W b=>HH.out W ((hbl.out.trans (B05.out.mono hbl.out.size)).trans (b.mono (Nat.le_trans hbl.out.size B05.out.size)))
   have IX:∀(r:Nat),r≤E.length→∀W,Below w5.heap.size w5 W→Calls Tryz.prog 22 #[.pointer (some ⟨s.sb,0,none⟩), .int .i64 (r:Int)] W fun e w1=>e= .returned (.int .i64 (idxE E (r:Int)))∧Below W.heap.size W w1:=fun r hr W b=>index_at_any (H5 W b) (by omega)
   have okp:=HOK.out x MX.out.1
   rw [hF.out] at okp
   have IF:=IX f hf
   have IT:=IX t ht
   clear IX H5 hfe
   obtain ⟨fi,hfi⟩:∃fi,idxE E (f:Int)=fi:=⟨_,rfl⟩
   obtain ⟨ti,hti⟩:∃ti,idxE E (t:Int)=ti:=⟨_,rfl⟩
   rw [hfi] at IF okp hF
   rw [hti] at IT okp hF
   clear hfi hti
   go_upto_region 6 with fail
   refine cvr6 (sb:=s.sb) (eb:=wr.heap.size) (f:=(f:Int)) (t:=(t:Int)) (fi:=fi) (ti:=ti) (x:=x) (fun W=>Below w5.heap.size w5 W) (fun pb W=>Below w5.heap.size w5 W∧w5.heap.size≤pb∧RSp.Bx W pb zSp7) (fun pb W=>Below w5.heap.size w5 W∧w5.heap.size≤pb∧RSp.Bx W pb ⟨fi,ti,x.nm,x.v⟩) _ w5 _ rfl rfl rfl rfl rfl ((Below.refl _ _).drew) (fun _ _ h=>h.1) (fun _ _ h=>h.1) (fun W b=>mk_nm MX.out.1 (RowT.Bx.rng (BX5.out.below b))) (fun W b=>mk_v MX.out.1 (RowT.Bx.rng (BX5.out.below b)))
        (fun W b=>(IF W b).mono fun e W1 q=>⟨q.1,b.trans (q.2.mono b.size)⟩) (fun W b=>(IT W b).mono fun e W1 q=>⟨q.1,b.trans (q.2.mono b.size)⟩)
        (fun pb W b=>(IF W b.1).mono fun e W1 q=>⟨q.1,b.1.trans (q.2.mono b.1.size),b.2.1,b.2.2.below q.2⟩) (fun pb W b=>(IT W b.1).mono fun e W1 q=>⟨q.1,b.1.trans (q.2.mono b.1.size),b.2.1,b.2.2.below q.2⟩)
        (fun W b=>⟨_,_,RowT.bx_zero RSp_is W,b.trans ((RowT.bx_is RSp W zSp7).2.mono b.size),b.size,(RowT.bx_is RSp W zSp7).1⟩)
        (fun pb W b=>⟨_,RowT.bx_store RSp_is zSp7_ok okp b.2.2,b.1.trans (set_below _ b.1.size b.2.1),b.2.1,setRow_heap W pb _ _ _ _ b.2.2⟩) ?_ ?_ ?_
   all_goals
        rintro pb a' w6 ⟨b6,hpb,hb6⟩ ha
        subst ha
        simp only [Act.put,qsA,qsB,qsC]
        have b06:Below wr.heap.size wr w6:=B05.out.trans (b6.mono B05.out.size)
        have bx6:=BX5.out.below b6
        have PB:=hidMk (Nat.le_trans B05.out.size hpb)
        have PL:=hidMk (Array.getElem?_eq_some_iff.1 hb6).1
        obtain ⟨r,hr⟩:∃r,decide (fi<ti)=r:=⟨_,rfl⟩
        have L1:=sp_fr hb6
        have L2:=sp_to hb6
        have B06:=hidMk b06
        have BX6:=hidMk bx6
        have HB6:=hidMk hb6
        clear b6 hpb hb6 b06 bx6
        go_upto_region 7 with fail
        refine cvr7 (eb:=pb) (p:=⟨fi,ti,x.nm,x.v⟩) (r:=r) _ w6 _ rfl rfl hr L1 L2 ?_
        intro a' w3 hw ha
        obtain rfl:w6=w3:=hw.symm
        subst ha
        simp only [Act.put,qsA,qsB,qsC]
        clear L1 L2
        have H:=HH1.out
        cases r with
        |false =>
         have NI:=hidMk (show CvS w fm E (m.L.take (i+1)) w6 by
          rw [TK.out]
          exact CvS.skip HI.out B06.out (by rw [hF.out];exact of_decide_eq_false hr))
         clear HI HC
         go_wp2
         rw [show ((i:Int)+1)=((i+1:Nat):Int) by omega]
         exact ⟨⟨i+1,rfl,H,NI⟩,MS.out⟩
        |true =>
         have B6d:Below wr.heap.size wr w6.drew:=B06.out.trans ((Below.refl _ _).drew)
         have C6:=HC.out.below B6d
         have ltp:(cvE E x).fr<(cvE E x).to:=by rw [hF.out];exact of_decide_eq_true hr
         have nmk:txOk x.nm:=MX.out.1.nm
         have lnk:(cvN E (m.L.take i) x.nm).length+1≤2000000000000:=by
          have:=cvN_len E (m.L.take i) x.nm
          rw [List.length_take] at this
          have:=HN.out
          omega
         obtain ⟨sv,y1,v2,y2,y3,g1,bb1,g2,k2,m2,g3,b3,C7⟩:=C6.push (Nat.le_trans hbl.out.size B6d.size) nmk okp lnk
         have NI:=hidMk (show CvS w fm E (m.L.take (i+1)) y3 by
          rw [TK.out]
          exact CvS.more hF.out ltp C7 ((hbl.out.trans (B6d.mono hbl.out.size)).trans b3))
         have ow:∀j,(uV D x.nm).ownBlock=some j→j<wr.heap.size:=fun j hj=>(HC.out.own x.nm).lt hj
         have ne1:(uV D x.nm).ownBlock≠some wr.heap.size:=fun e=>Nat.lt_irrefl _ (ow _ e)
         have ne2:(uV D x.nm).ownBlock≠some pb:=fun e=>Nat.lt_irrefl _ (Nat.lt_of_lt_of_le (ow _ e) PB.out)
         have X6:RM.Bx w6.drew wr.heap.size x:=BX6.out
         have P6:RSp.Bx w6.drew pb ⟨fi,ti,x.nm,x.v⟩:=HB6.out
         have l1:=(Array.getElem?_eq_some_iff.1 X6).1
         have l2:=(Array.getElem?_eq_some_iff.1 P6).1
         have S2:M.MapAt y2 fm tx txOk D∧RM.Bx y2 wr.heap.size x∧RSp.Bx y2 pb ⟨fi,ti,x.nm,x.v⟩:=⟨m2,(k2 _ l1 ne1).trans X6,(k2 _ l2 ne2).trans P6⟩
         have S1:M.MapAt y1 fm tx txOk D∧RM.Bx y1 wr.heap.size x∧RSp.Bx y1 pb ⟨fi,ti,x.nm,x.v⟩:=⟨C6.m.below (bb1.block _ C6.m.lt),X6.below bb1,P6.below bb1⟩
         have S0:M.MapAt w6.drew fm tx txOk D∧RM.Bx w6.drew wr.heap.size x∧RSp.Bx w6.drew pb ⟨fi,ti,x.nm,x.v⟩:=⟨C6.m,X6,P6⟩
         clear HI HC B6d C6 ltp lnk bb1 k2 m2 b3 C7 ow ne1 ne2 X6 P6 l1 l2 B06 BX6 HB6
         go_upto_region 8 with fail
         refine cvr8 (fm:=fm) (eb:=wr.heap.size) (sb:=pb) (p:=⟨fi,ti,x.nm,x.v⟩) (x:=x) (u:=uV D x.nm) (sv:=sv) (v2:=v2) (w1:=y1) (w2:=y2) (w3:=y3) (fun W=>M.MapAt W fm tx txOk D∧RM.Bx W wr.heap.size x∧RSp.Bx W pb ⟨fi,ti,x.nm,x.v⟩) _ w6 _ rfl rfl rfl rfl S0 (fun W q=>mk_nm MX.out.1 (RowT.Bx.rng q.2.1)) (fun W q=>RowT.ld RSp_is okp (RowT.Bx.rng q.2.2)) (fun W q=>CmAt.lookr q.1 nmk) g1 S1 g2 S2 g3 ?_
         intro a' w3 hw ha
         obtain rfl:y3=w3:=hw.symm
         subst ha
         simp only [Act.put,qsA,qsB,qsC]
         clear g1 g2 g3 S0 S1 S2
         go_wp2
         rw [show ((i:Int)+1)=((i+1:Nat):Int) by omega]
         exact ⟨⟨i+1,rfl,H,NI⟩,MS.out⟩
  ·have h':¬((i:Int)<(n:Int)):=by omega
   obtain rfl:i=n:=by omega
   go_wp2
   go_ret
   refine ⟨_,rfl, ?_⟩
   have:=HI.out
   rw [List.take_of_length_le (by have:=HN.out;omega)] at this
   exact this
end Go.Proofs.YtifendlpeebofabGreatDoor
namespace Go.Proofs.YtifendlpeebofabGreatDoor
open Go.RowKit
def spn5f_ops:Array Oper:=(⟨_,rfl⟩:{o // some o=rgB Tryz.f6 5}).1
theorem spn5f {rb:Nat} (a:Act) (w:World) (Q:Exit→Act→World→Prop) (zz:a.tmps.size=25)
 (t13:a.tmps.getD 13 undef= .pointer (some ⟨rb,0,none⟩))
 (EN:(Instr.next (.pointer (some ⟨rb,0,none⟩)) false 0).run Tryz.prog w= .ok (.tuple #[.bool false]) w)
 (h:∀a' w',w'=w→a'=(a.put (some 14) (.tuple #[.bool false])).put (some 15) (.bool false)→Q .normal a' w') :
 (Code.region 5 spn5f_ops false).wp Tryz.prog Q a w:=by
 refine z0 rfl ?_
 refine zv (v:= .tuple #[.bool false]) rfl (exec_nextM rfl (zi t13 rfl) EN) ?_
 refine zv rfl (exec_extract rfl (zg zz rfl) rfl) ?_
 exact ze rfl (h _ _ (rfl) rfl)
theorem spn5t {rb:Nat} {kx vx:Value} {w1:World} (a:Act) (w:World) (Q:Exit→Act→World→Prop) (zz:a.tmps.size=25)
 (t13:a.tmps.getD 13 undef= .pointer (some ⟨rb,0,none⟩))
 (EN:(Instr.next (.pointer (some ⟨rb,0,none⟩)) false 0).run Tryz.prog w= .ok (.tuple #[.bool true,kx,vx]) w1)
 (h:∀a' w',w'=w1→a'=(a.put (some 14) (.tuple #[.bool true,kx,vx])).put (some 15) (.bool true)→Q .normal a' w') :
 (Code.region 5 spn5f_ops false).wp Tryz.prog Q a w:=by
 refine z0 rfl ?_
 refine zv (v:= .tuple #[.bool true,kx,vx]) rfl (exec_nextM rfl (zi t13 rfl) EN) ?_
 refine zv rfl (exec_extract rfl (zg zz rfl) rfl) ?_
 exact ze rfl (h _ _ (rfl) rfl)
def spn6_ops:Array Oper:=(⟨_,rfl⟩:{o // some o=rgB Tryz.f6 6}).1
theorem spn6 {rb:Nat} {kx vx:Value} (a:Act) (w:World) (Q:Exit→Act→World→Prop) (zz:a.tmps.size=25)
 (t13:a.tmps.getD 13 undef= .pointer (some ⟨rb,0,none⟩))
 (EE:(Instr.entry (.pointer (some ⟨rb,0,none⟩))).run Tryz.prog w= .ok (.tuple #[kx,vx]) w)
 (h:∀a' w',w'=w→a'=((a.put (some 16) (.tuple #[kx,vx])).put (some 17) (vx)).put (some 7) (vx)→Q .normal a' w') :
 (Code.region 6 spn6_ops false).wp Tryz.prog Q a w:=by
 refine z0 rfl ?_
 refine zv (v:= .tuple #[kx,vx]) rfl (exec_entryM rfl (zi t13 rfl) EE) ?_
 refine zv rfl (exec_extract rfl (zg zz rfl) rfl) ?_
 refine zv rfl (xas rfl (zg zz rfl)) ?_
 exact ze rfl (h _ _ (rfl) rfl)
def spn8_ops:Array Oper:=(⟨_,rfl⟩:{o // some o=rgB Tryz.f6 8}).1
theorem spn8 {lv:Value} (Fin:World→Prop) (a:Act) (w:World) (Q:Exit→Act→World→Prop) (zz:a.tmps.size=25)
 (t5:a.tmps.getD 5 undef=lv)
 (CC:Calls Tryz.prog 19 #[lv] w fun e w'=>e= .returned (.tuple #[])∧Fin w')
 (h:∀a' w',Fin w'→a'=(a.put (some 22) (lv)).put (some 23) (.tuple #[])→Q .normal a' w') :
 (Code.region 8 spn8_ops false).wp Tryz.prog Q a w:=by
 refine z0 rfl ?_
 refine zv rfl (xmv rfl (zi t5 rfl)) ?_
 refine zc rfl (exec_c1 rfl (zg zz rfl)) (CC) (fun e x1 hx=> ?_)
 obtain ⟨rfl,HF⟩:=hx
 refine ⟨_,rfl, ?_⟩
 exact ze rfl (h _ _ (HF) rfl)
end Go.Proofs.YtifendlpeebofabGreatDoor
namespace Go.Proofs.YtifendlpeebofabGreatDoor.M
open Go.RowKit Go.ChangeMaps
section
variable {P:Program} {κ:Type}
def kv (e:MapEntry):Value × Value:=(e.key,e.val)
def Iter (w:World) (b r:Nat) (enc:κ→Value) (E T:List (κ × Value)):Prop :=
 ∃es clock since seen c0,w.heap[b]? =some (.map es clock)∧es.toList.map (fun e=>(e.key,e.val))=E.map (fun p=>(enc p.1,p.2))∧Stamps (es.toList.map (·.born)) clock ∧
  w.heap[r]? =some (.mapIter (some b) since seen c0)∧(∀x∈es.toList,x.born<since)∧since≤c0∧since≤clock∧(leftOf es seen).toList.map (fun e=>(e.key,e.val))=T.map (fun p=>(enc p.1,p.2))
def Now (w:World) (b r:Nat) (x y:Value):Prop :=
 ∃(es:Array MapEntry) (clock since:Nat) (seen:Array Nat) (e:MapEntry),w.heap[r]? =some (.mapIter (some b) since (seen.push e.born) clock)∧w.heap[b]? =some (.map es clock)∧e∈es.toList∧(es.toList.map (·.born)).Nodup∧e.key=x∧e.val=y
theorem Iter.same {w w':World} {b r:Nat} {enc:κ→Value} {E T:List (κ × Value)} (h:Iter w b r enc E T) (hb:w'.heap[b]? =w.heap[b]?) (hr:w'.heap[r]? =w.heap[r]?):Iter w' b r enc E T:=by
 obtain ⟨es,c,s,n,c0,h1,h2,h3,h4,h5⟩:=h
 exact ⟨es,c,s,n,c0,hb.trans h1,h2,h3,hr.trans h4,h5⟩
theorem Now.run {w:World} {b r:Nat} {x y:Value} (h:Now w b r x y):(Instr.entry (.pointer (some ⟨r,0,none⟩))).run P w= .ok (.tuple #[x,y]) w:=by
 obtain ⟨es,c,s,n,e,h1,h2,h3,h4,rfl,rfl⟩:=h
 exact run_entry_at w r b s n es c e h1 h2 h3 h4
theorem range_any {t k e:TypeId} {w:World} {b:Nat} {enc:κ→Value} {V:κ→Prop} {E:List (κ × Value)} (ht:P.underlying t=some (.map k e)) (h:MapAt w b enc V E) :
 ∃w',(Instr.range t (.map (some b))).run P w= .ok (.pointer (some ⟨w.heap.size,0,none⟩)) w'∧Iter w' b w.heap.size enc E E∧w'.heap.size=w.heap.size+1∧Below w.heap.size w w':=by
 have hlt:=h.lt
 obtain ⟨⟨es,c,hb,he,hs⟩,hn,hV⟩:=h
 refine ⟨_,run_range_map w t k e b es c ht hb,⟨es,c,c, #[],c,(heap_alloc_old w _ hlt).trans hb,he,hs,heap_alloc_new _ _,fun x hx=>hs.1 _ (List.mem_map.2 ⟨x,hx,rfl⟩),Nat.le_refl _,Nat.le_refl _, ?_⟩,by simp,(Below.refl _ _).alloc (Nat.le_refl _) _⟩
 rw [show leftOf es #[]=es by simp [leftOf]]
 exact he
theorem next_any {ty:TypeId} {w:World} {b r:Nat} {enc:κ→Value} {E T:List (κ × Value)} (h:Iter w b r enc E T) :
 (T=[]∧(Instr.next (.pointer (some ⟨r,0,none⟩)) false ty).run P w= .ok (.tuple #[.bool false]) w) ∨
 ∃A p B w',T=A++p::B∧(Instr.next (.pointer (some ⟨r,0,none⟩)) false ty).run P w= .ok (.tuple #[.bool true,enc p.1,p.2]) w'∧Iter w' b r enc E (A++B)∧Now w' b r (enc p.1) p.2∧Tch (fun j=>j=r) w w'∧w'.heap.size=w.heap.size:=by
 obtain ⟨es,c,since,seen,c0,hb,he,hs,hr,hold,hsc,hc,hl⟩:=h
 have hrl:r<w.heap.size:=(Array.getElem?_eq_some_iff.1 hr).1
 have hne:b≠r:=by
  rintro rfl
  rw [hb] at hr
  cases hr
 rcases run_next_at (P:=P) w ty r b since c0 seen es c hr hb hold hsc with ⟨h0,hrun⟩|⟨e,hm,w1,hw1,hrun⟩
 ·left
  refine ⟨?_,hrun⟩
  have:(leftOf es seen).toList=[]:=by rw [←Array.length_toList] at h0;exact List.eq_nil_of_length_eq_zero h0
  rw [this] at hl
  simpa using hl.symm
 ·right
  obtain ⟨X,Y,hXY⟩:=List.append_of_mem hm
  rw [hXY,List.map_append,List.map_cons] at hl
  obtain ⟨A,T2,rfl,hA,hT2⟩:=List.map_eq_append_iff.1 hl.symm
  obtain ⟨p,B,rfl,hp,hB⟩:=List.map_eq_cons_iff.1 hT2
  have hk1:enc p.1=e.key:=(Prod.mk.inj hp).1
  have hk2:p.2=e.val:=(Prod.mk.inj hp).2
  have hmem:e∈es.toList:=by
   have:e∈leftOf es seen:=by simpa using hm
   unfold leftOf at this
   rw [Array.mem_filter] at this
   simpa using this.1
  have hsub:((leftOf es seen).toList.map (·.born)).Nodup:=by
   refine hs.2.sublist (List.Sublist.map _ ?_)
   unfold leftOf
   rw [Array.toList_filter]
   exact List.filter_sublist
  have hlf:(leftOf es (seen.push e.born)).toList=X++Y:=by
   have e1:leftOf es (seen.push e.born)=(leftOf es seen).filter (fun x=> !(x.born==e.born)):=by
        unfold leftOf
        rw [Array.filter_filter]
        congr 1
        funext x
        cases h1:(x.born==e.born) <;>cases h2:seen.contains x.born <;>simp_all [Array.contains_push]
   rw [e1,Array.toList_filter,hXY,List.filter_append,List.filter_cons]
   rw [hXY,List.map_append,List.map_cons] at hsub
   have hd:=List.nodup_append.1 hsub
   have hd2:=List.nodup_cons.1 hd.2.1
   rw [if_neg (by simp)]
   congr 1
   ·refine List.filter_eq_self.2 fun x hx=> ?_
    have:=hd.2.2 x.born (List.mem_map.2 ⟨x,hx,rfl⟩) e.born (List.mem_cons_self ..)
    simpa using this
   ·refine List.filter_eq_self.2 fun x hx=> ?_
    have:x.born≠e.born:=fun q=>hd2.1 (by rw [←q];exact List.mem_map.2 ⟨x,hx,rfl⟩)
    simpa using this
  have hw:∀j:Nat,w1.heap[j]? =w.heap[j]? :=fun j=>by rcases hw1 with rfl|rfl <;>rfl
  have hsz:w1.heap.size=w.heap.size:=by rcases hw1 with rfl|rfl <;>rfl
  have hrr:(setBlock w1 r (.mapIter (some b) since (seen.push e.born) c)).heap[r]? =some (.mapIter (some b) since (seen.push e.born) c):=by
   simp [setBlock,hsz,hrl]
  have ho:∀j,j≠r→(setBlock w1 r (.mapIter (some b) since (seen.push e.born) c)).heap[j]? =w.heap[j]? :=fun j hj=>by
   rw [←hw j]
   simp [setBlock,Array.getElem?_setIfInBounds,Ne.symm hj]
  refine ⟨A,p,B,_,rfl,by rw [hk1,hk2];exact hrun,⟨es,c,since,_,c,(ho b hne).trans hb,he,hs,hrr,hold,hc,hc, ?_⟩,⟨es,c,since,seen,e,hrr,(ho b hne).trans hb,hmem,hs.2,hk1.symm,hk2.symm⟩, ?_, ?_⟩
  ·rw [hlf,List.map_append,List.map_append,hA,hB]
  ·refine ⟨?_, ?_, ?_,by simp [setBlock,hsz],fun j hj hn=>ho j hn⟩
   all_goals (rcases hw1 with rfl|rfl <;>rfl)
  ·simp [setBlock,hsz]
end
end Go.Proofs.YtifendlpeebofabGreatDoor.M
namespace Go.Proofs.YtifendlpeebofabGreatDoor
open Go.RowKit
theorem iter_left {κ:Type} {w:World} {b r:Nat} {enc:κ→Value} {E T:List (κ × Value)} (h:M.Iter w b r enc E T):w.rangeLeft b r=T.length:=by
 obtain ⟨es,c,since,seen,c0,hb,he,hs,hr,hold,hsc,hc,hl⟩:=h
 simp only [World.rangeLeft,hb,hr]
 have:=congrArg List.length hl
 simpa using this
theorem iter_r {κ:Type} {w:World} {b r:Nat} {enc:κ→Value} {E T:List (κ × Value)} (h:M.Iter w b r enc E T):(∃a s n c,w.heap[r]? =some (.mapIter a s n c))∧∃es c,w.heap[b]? =some (.map es c):=by
 obtain ⟨es,c,since,seen,c0,hb,he,hs,hr,_⟩:=h
 exact ⟨⟨_,_,_,_,hr⟩,_,_,hb⟩
end Go.Proofs.YtifendlpeebofabGreatDoor
namespace Go.Proofs.YtifendlpeebofabGreatDoor
open Go.RowKit Go.Shelf Sq
def rnsN (E:List Elt) (L:List MkV) (nm:ByteArray):List SpV:=runsL (cvN E L nm) nm (cutsL (cvN E L nm))
structure SpI (w:World) (E:List Elt) (L:List MkV) (fm r:Nat) (D:List (ByteArray × Value)) (X:List ByteArray) (T:List (ByteArray × Value)) (lv:Value) (W:World):Prop where
 cm:CmAt W w.heap.size fm D (fun nm=>cvN E L nm)
 it:M.Iter W fm r tx D T
 row:RSp.Own W w.heap.size lv (X.flatMap (rnsN E L))
 perm:(X++T.map (·.1)).Perm (D.map (·.1))
 sub:∀p∈T,p∈D
 ds:∀k v j,M.look D k=some v→v.ownBlock=some j→lv.ownBlock≠some j
 rb:w.heap.size≤r
 bel:Below w.heap.size w W
section
variable {w W W':World} {E:List Elt} {L:List MkV} {fm r:Nat} {D T:List (ByteArray × Value)} {X:List ByteArray} {lv:Value}
theorem SpI.nodup (h:SpI w E L fm r D X T lv W):X.Nodup:=by
 have:=h.perm.nodup_iff.2 h.cm.m.2.1
 exact (List.nodup_append.1 this).1
theorem SpI.few (h:SpI w E L fm r D X T lv W):(X.flatMap (rnsN E L)).length≤2*L.length:=flat_few h.nodup
theorem SpI.rcell (h:SpI w E L fm r D X T lv W) {v:Value} {M:List SpV} {b:Nat} (o:RSp.Own W b v M):v.ownBlock≠some r∧v.ownBlock≠some fm:=by
 obtain ⟨⟨_,_,_,_,hr⟩,_,_,hb⟩:=iter_r h.it
 refine ⟨fun e=> ?_,fun e=> ?_⟩
 ·obtain ⟨_,c,hc⟩:=o.cells e
  rw [hc] at hr;cases hr
 ·obtain ⟨_,c,hc⟩:=o.cells e
  rw [hc] at hb;cases hb
theorem SpI.next (h:SpI w E L fm r D X T lv W) {A B:List (ByteArray × Value)} {p:ByteArray × Value} (hT:T=A++p::B) (it:M.Iter W' fm r tx D (A++B)) (t:Tch (fun j=>j=r) W W') :
 CmAt W' w.heap.size fm D (fun nm=>cvN E L nm)∧RSp.Own W' w.heap.size lv (X.flatMap (rnsN E L))∧Below w.heap.size w W':=by
 have kb:∀j,j<W.heap.size→j≠r→W'.heap[j]? =W.heap[j]? :=fun j hj hn=>t.block j hj hn
 obtain ⟨⟨_,_,_,_,hr⟩,_,_,hb⟩:=iter_r h.it
 have nfr:fm≠r:=fun e=>by rw [e,hr] at hb;cases hb
 refine ⟨⟨h.cm.m.below (kb fm h.cm.m.lt nfr),fun k v e=>⟨(h.cm.rows k v e).1.keep (fun j hj=>kb j ((h.cm.rows k v e).1.lt hj) (fun q=>(h.rcell (h.cm.rows k v e).1).1 (by rw [←q];exact hj))),(h.cm.rows k v e).2⟩,h.cm.nil,h.cm.ds,h.cm.fb⟩,h.row.keep (fun j hj=>kb j (h.row.lt hj) (fun q=>(h.rcell h.row).1 (by rw [←q];exact hj))),h.bel.trans (t.below h.bel.size (fun j e=>by rw [e];exact h.rb))⟩
theorem SpI.more (h:SpI w E L fm r D X T lv W) {A B:List (ByteArray × Value)} {p:ByteArray × Value} (hT:T=A++p::B) {W1 W2:World} (it1:M.Iter W1 fm r tx D (A++B)) (cm1:CmAt W1 w.heap.size fm D (fun nm=>cvN E L nm)) (row1:RSp.Own W1 w.heap.size lv (X.flatMap (rnsN E L))) (b1:Below w.heap.size w W1)
 {u:Value} {b:Nat} (hb:w.heap.size≤b) (b2:Below W1.heap.size W1 W2) (hu:RSp.Own W2 b u (rnsN E L p.1)) (oku:∀x∈rnsN E L p.1,x.ok) (hL:L.length≤900000000000) :
 ∃v2 W3,(Builtin.append_ #[48,48] 48 #[lv,u]).run Tryz.prog W2= .ok v2 W3∧SpI w E L fm r D (X++[p.1]) (A++B) v2 W3:=by
 have pm:((X++[p.1])++(A++B).map (·.1)).Perm (D.map (·.1)):=by
  refine List.Perm.trans ?_ h.perm
  rw [hT,List.append_assoc,List.map_append,List.map_append,List.map_cons,List.singleton_append]
  exact List.Perm.append_left X List.perm_middle.symm
 have nd:(X++[p.1]).Nodup:=(List.nodup_append.1 (pm.nodup_iff.2 h.cm.m.2.1)).1
 have fl:((X++[p.1]).flatMap (rnsN E L)).length≤2*L.length:=flat_few nd
 have fe:(X++[p.1]).flatMap (rnsN E L)=X.flatMap (rnsN E L)++rnsN E L p.1:=by simp
 rw [fe,List.length_append] at fl
 obtain ⟨a,c,rfl,hat,_⟩:=hu.open RSp_is oku
 have bw2:w.heap.size≤W2.heap.size:=Nat.le_trans b1.size b2.size
 have row2:=row1.below b2
 have cm2:=cm1.below b2
 have it2:=it1.same (b2.block fm cm1.m.lt) (b2.block r (by
  obtain ⟨⟨_,_,_,_,hr⟩,_⟩:=iter_r it1
  exact (Array.getElem?_eq_some_iff.1 hr).1))
 obtain ⟨v2,W3,e,o3,g,q⟩:=RowT.run_app RSp_is W2 w.heap.size lv _ a (rnsN E L p.1) c row2 hat oku (by unfold maxLen;omega) (by show _*72≤_;omega) bw2
 have no:∀j,lv.ownBlock=some j→w.heap.size≤j∧∃c,W2.heap[j]? =some (.cells c RSp.e (0,0)):=fun j hj=>row2.cells hj
 have kb:∀j,j<W2.heap.size→lv.ownBlock≠some j→W3.heap[j]? =W2.heap[j]? :=fun j hj hn=>g.block j hj (fun e=>hn e.symm)
 obtain ⟨⟨_,_,_,_,hr⟩,_,_,hbm⟩:=iter_r it2
 have nr:lv.ownBlock≠some r:=fun e=>by
  obtain ⟨_,c,hc⟩:=no r e
  rw [hc] at hr;cases hr
 have nf:lv.ownBlock≠some fm:=fun e=>by
  obtain ⟨_,c,hc⟩:=no fm e
  rw [hc] at hbm;cases hbm
 refine ⟨v2,W3,e,⟨cm2.m.below (kb fm cm2.m.lt nf),fun k v e=>⟨(cm2.rows k v e).1.keep (fun j hj=>kb j ((cm2.rows k v e).1.lt hj) (h.ds k v j e hj)),(cm2.rows k v e).2⟩,cm2.nil,cm2.ds,cm2.fb⟩,it2.same (kb fm cm2.m.lt nf) (kb r (Array.getElem?_eq_some_iff.1 hr).1 nr),by rw [fe];exact o3,pm,fun x hx=>h.sub x (by
  rw [hT]
  rcases List.mem_append.1 hx with hx|hx
  ·simp [hx]
  ·simp [hx]),fun k v j e hj hv=> ?_,h.rb,(b1.trans (b2.mono b1.size)).trans ((Below.refl _ _).grown g bw2 (fun k e=>(no k e).1))⟩
 rcases q with q|q
 ·rw [q] at hv;exact h.ds k v j e hj hv
 ·rw [q] at hv
  cases hv
  exact Nat.lt_irrefl _ ((cm2.rows k v e).1.lt hj)
end
theorem cvN_ok {w:World} {s:Sx} {E:List Elt} (h:SeqAt w s E) {L:List MkV} (ok:∀x∈L,x.ok) (rt:∀x∈L,x.v.right=true) (hn:L.length≤900000000000) {nm:ByteArray} (hne:cvN E L nm≠[]):CvOk (cvN E L nm) nm where
 ok:=fun c hc=>by
  obtain ⟨x,hx,rfl⟩:=cvN_mem hc
  exact cvE_ok h (ok x hx)
 rt:=fun c hc=>by
  obtain ⟨x,hx,rfl⟩:=cvN_mem hc
  exact rt x hx
 nm:=cvN_nm
 lt:=cvN_lt
 ne:=hne
 len:=Nat.le_trans (cvN_len E L nm) hn
theorem CvOk.all {C:List SpV} {nm:ByteArray} (h:CvOk C nm):∀q∈runsL C nm (cutsL C),PkOk q:=by
 obtain ⟨c,hc⟩:=List.exists_mem_of_ne_nil C h.ne
 have:=cuts_two hc (h.lt c hc)
 exact h.runs _ (by omega)
attribute [local go_sem] Oper.semAt_some
def SpR (w:World) (E:List Elt) (L:List MkV) (v:Value) (w':World):Prop:=∃S,RSp.Own w' w.heap.size v S∧SpansIs (hE E L) S∧(∀p∈S,PkOk p)∧S.length≤2*L.length∧Below w.heap.size w w'
theorem SpI.done {w W:World} {E:List Elt} {L:List MkV} {fm r:Nat} {D:List (ByteArray × Value)} {X:List ByteArray} {lv:Value} (h:SpI w E L fm r D X [] lv W) (ck:∀nm,cvN E L nm≠[]→CvOk (cvN E L nm) nm) {S:List SpV} (hp:S.Perm (X.flatMap (rnsN E L))) (hs:SdS S):SpansIs (hE E L) S∧(∀p∈S,PkOk p)∧S.length≤2*L.length:=by
 have pm:X.Perm (D.map (·.1)):=by simpa using h.perm
 have hn:∀nm,nm∈X↔cvN E L nm≠[]:=fun nm=>by
  rw [pm.mem_iff]
  constructor
  ·intro hm
   obtain ⟨⟨k,v⟩,hkv,rfl⟩:=List.mem_map.1 hm
   exact (h.cm.rows k v (M.look_of_mem h.cm.m.2.1 hkv)).2
  ·intro hne
   cases e:M.look D nm with
   |none=>exact absurd (h.cm.nil nm e) hne
   |some v=>exact List.mem_map.2 ⟨_,M.look_mem e,rfl⟩
 refine ⟨spans_all h.nodup hn hp hs,fun p hpm=> ?_, ?_⟩
 ·obtain ⟨nm,h1,h2⟩:=List.mem_flatMap.1 (hp.mem_iff.1 hpm)
  exact (ck nm ((hn nm).1 h1)).all p h2
 ·rw [hp.length_eq]
  exact h.few
theorem SpI.rok {w W:World} {E:List Elt} {L:List MkV} {fm r:Nat} {D T:List (ByteArray × Value)} {X:List ByteArray} {lv:Value} (h:SpI w E L fm r D X T lv W) (ck:∀nm,cvN E L nm≠[]→CvOk (cvN E L nm) nm):∀x∈X.flatMap (rnsN E L),x.ok:=fun p hp=>by
 obtain ⟨nm,h1,h2⟩:=List.mem_flatMap.1 hp
 have:nm∈D.map (·.1):=h.perm.mem_iff.1 (List.mem_append_left _ h1)
 obtain ⟨⟨k,v⟩,hkv,rfl⟩:=List.mem_map.1 this
 exact ((ck k (h.cm.rows k v (M.look_of_mem h.cm.m.2.1 hkv)).2).all p h2).1
set_option maxHeartbeats 8000000 in
theorem Spans_any {w:World} {s:Sx} {E:List Elt} {base:Nat} {m:Mx} (h:SeqAt w s E) (hm:MkAt w base m) (rt:∀x∈m.L,x.v.right=true) (hT:K.V.Tabs w) :
 Calls Tryz.prog 6 #[.pointer (some ⟨m.mb,0,none⟩), .pointer (some ⟨s.sb,0,none⟩)] w fun e w'=> ∃v,e= .returned v∧SpR w E m.L v w':=by
 have CK:=hidMk (fun nm (q:cvN E m.L nm≠[])=>cvN_ok h (L:=m.L) (fun x hx=>(hm.ok x hx).1) rt hm.n (nm:=nm) q)
 have HN:=hidMk hm.n
 have HT:=hidMk (fun (W:World) (b:Below w.heap.size w W)=>hT.below b)
 have CC:=hidMk ((covers_any h hm).mono (R':=fun e w1=> ∃fm,e= .returned (.map (some fm))∧∃rb w2,(Instr.range 72 (.map (some fm))).run Tryz.prog w1= .ok (.pointer (some ⟨rb,0,none⟩)) w2∧∃D,SpI w E m.L fm rb D [] D (.slice none 0 0) w2) (fun e w1 q=>by
  obtain ⟨fm,rfl,D,c,b⟩:=q
  obtain ⟨w2,er,it,z,b2⟩:=M.range_any (P:=Tryz.prog) Tryz.underlying72 c.m
  exact ⟨fm,rfl,_,w2,er,D,c.below b2,it,RowT.own_nil _ _ _,by simp,fun _ q=>q,fun _ _ _ _ _ q=>(by cases q),b.size,b.trans (b2.mono b.size)⟩))
 clear h hm rt hT
 go_enter Tryz.func6,Tryz.ntmps6
 go_upto_region 4 with fail
 refine spn4 (mb:=m.mb) (sb:=s.sb) (fun fm rb w2=> ∃D,SpI w E m.L fm rb D [] D (.slice none 0 0) w2) _ w _ rfl rfl rfl CC.out ?_
 rintro fm rb a' w2 ⟨D,hI⟩ ha
 subst ha
 simp only [Act.put,qsA,qsB,qsC]
 clear CC
 have I0:=hidMk hI
 clear hI
 go_wp2
 go_loopw [5] (fun v5 wr=> ∃(X:List ByteArray) (T:List (ByteArray × Value)),Hid (SpI w E m.L fm rb D X T v5 wr)) (fun _ wr=>wr.rangeLeft fm rb)
 case atStart=>exact ⟨[],D,I0⟩
 case round =>
  clear I0
  obtain ⟨X,T,HI⟩:=hrel
  rcases M.next_any (P:=Tryz.prog) (ty:=0) HI.out.it with ⟨rfl,hnx⟩|⟨A,p,B,w5,hTe,hnx,it5,now5,t5,z5⟩
  ·go_upto_region 5 with fail
   refine spn5f (rb:=rb) _ wr _ rfl rfl hnx ?_
   intro a' w3 hw ha
   obtain rfl:wr=w3:=hw.symm
   subst ha
   simp only [Act.put,qsA,qsB,qsC]
   clear hnx
   have CS:=hidMk (sortSp_any wr w.heap.size u5 _ HI.out.row (HI.out.rok CK.out) (Nat.le_trans HI.out.few (by have:=HN.out;omega)))
   go_upto_region 8 with fail
   refine spn8 (lv:=u5) (fun W=>SpR w E m.L u5 W) _ wr _ rfl rfl (CS.out.mono ?_) ?_
   ·rintro e W ⟨rfl,S,hp,hs,lo,t⟩
    obtain ⟨q1,q2,q3⟩:=HI.out.done CK.out hp hs
    exact ⟨rfl,S,lo,q1,q2,q3,HI.out.bel.trans (t.below HI.out.bel.size (fun j hj=>(HI.out.row.cells hj).1))⟩
   rintro a' w4 hf ha
   have HF:=hidMk hf
   subst ha
   simp only [Act.put,qsA,qsB,qsC]
   clear CS hf
   go_wp2
   go_ret
   exact ⟨_,rfl,HF.out⟩
  ·obtain ⟨cm5,row5,b5⟩:=HI.out.next hTe it5 t5
   have hml:=iter_left HI.out.it
   have hpD:p∈D:=HI.out.sub p (by rw [hTe];simp)
   have hlk:=M.look_of_mem cm5.m.2.1 (k:=p.1) (v:=p.2) hpD
   obtain ⟨rw5,ne5⟩:=cm5.rows p.1 p.2 hlk
   have ck:=CK.out p.1 ne5
   obtain ⟨pa,pc,ep,hat,_⟩:=rw5.open RSp_is ck.ok
   have RA:=runs_any (lc:=pc) hat ck (HT.out w5 b5)
   have CR:Calls Tryz.prog 18 #[p.2] w5 fun e w1=> ∃u,e= .returned u∧∃v2 w2,(Builtin.append_ #[48,48] 48 #[u5,u]).run Tryz.prog w1= .ok v2 w2∧SpI w E m.L fm rb D (X++[p.1]) (A++B) v2 w2:=by
        rw [ep]
        refine RA.mono ?_
        rintro e W ⟨u,rfl,o,b⟩
        obtain ⟨v2,W3,ea,nx⟩:=HI.out.more hTe it5 cm5 row5 b5 b5.size b o (fun q hq=>(ck.all q hq).1) HN.out
        exact ⟨u,rfl,v2,W3,ea,nx⟩
   have HC:=hidMk CR
   have EE:=now5.run (P:=Tryz.prog)
   have HML:=hidMk (show wr.rangeLeft fm rb=A.length+B.length+1 by rw [hml,hTe];simp;omega)
   clear cm5 row5 b5 hml hpD hlk rw5 ne5 ck ep hat RA CR it5 now5 t5 z5 hTe HI
   go_upto_region 5 with fail
   refine spn5t (rb:=rb) (kx:=tx p.1) (vx:=p.2) (w1:=w5) _ wr _ rfl rfl hnx ?_
   intro a' w3 hw ha
   obtain rfl:w5=w3:=hw.symm
   subst ha
   simp only [Act.put,qsA,qsB,qsC]
   clear hnx
   go_upto_region 6 with fail
   refine spn6 (rb:=rb) (kx:=tx p.1) (vx:=p.2) _ w5 _ rfl rfl EE ?_
   intro a' w3 hw ha
   obtain rfl:w5=w3:=hw.symm
   subst ha
   simp only [Act.put,qsA,qsB,qsC]
   clear EE
   go_upto_region 7 with fail
   refine spn7 (lv:=u5) (cv:=p.2) (fun u v2 W=>SpI w E m.L fm rb D (X++[p.1]) (A++B) v2 W) _ w5 _ rfl rfl rfl HC.out ?_
   rintro u v2 a' w6 hf ha
   have NI:=hidMk hf
   have ML:w6.rangeLeft fm rb<wr.rangeLeft fm rb:=by
        rw [iter_left hf.it,HML.out]
        simp
   have HM:=hidMk ML
   subst ha
   simp only [Act.put,qsA,qsB,qsC]
   clear HC hf ML
   go_wp2
   exact ⟨⟨_,_,NI⟩,HM.out⟩
end Go.Proofs.YtifendlpeebofabGreatDoor
namespace Go.Proofs.YtifendlpeebofabGreatDoor
open Go.ChangeShapes Go.WideShapes Go.ChangeAt Go.RowKit
def RowAt {κ:Type} (k:Nat) (encd:κ→List Value) (w:World) (a:Option Addr) (L:List κ):Prop:=L=[]∨∃b off,a=some ⟨b,off,none⟩∧b<w.heap.size∧∀i x,L[i]? =some x→w.rangeAt b (off+i*k) (encd x)
section
variable {H:Type} {enc:TypeId × Value→H} {W:World}
theorem view_rows {κ:Type} {T e k:Nat} {encd:κ→List Value} {ok:κ→Prop} (hT:Tryz.prog.underlying T=some (.slice e)) (hce:Tryz.prog.cellsOf e=k) (hk:0<k) (hlen:∀x,ok x→(encd x).length=k)
 (hcells:∀(fuel:Nat) (cs:List Value) (y:DataW H × List MemPlace),DataW.trod enc Tryz.prog W 0 (fun _=>true) true fuel e cs=some y→∃x,ok x∧cs=encd x)
 {a:Option Addr} {len cap:Nat} {d:DataW H} {p:List MemPlace} (h:DataW.Trod enc Tryz.prog W 0 (fun _=>true) true T (.slice a len cap) d p) :
 ∃L:List κ,L.length=len∧(∀x∈L,ok x)∧RowAt k encd W a L∧(d= .nil∧len=0∨∃el sp,d= .slice el sp∧el.length=len):=by
 obtain ⟨fuel,hf⟩:=h
 rcases DataW.trod_slice hT hf with ⟨hcs',hx⟩|⟨ad,l,c,elems,rest,n,_,hcs',hx,_,hl,hm,hel,hcell,_,_⟩
 ·simp [Value.cells] at hcs'
  obtain ⟨rfl,rfl,rfl⟩:=hcs'
  simp only [Prod.mk.injEq] at hx
  exact ⟨[],rfl,fun v hv=>(by cases hv), .inl rfl, .inl ⟨hx.1,rfl⟩⟩
 ·simp [Value.cells] at hcs'
  obtain ⟨rfl,rfl,rfl⟩:=hcs'
  simp only [Prod.mk.injEq] at hx
  obtain ⟨b,off,spot⟩:=ad
  have raw:∀i,i<len→∃v:κ,ok v∧∀j u,(encd v)[j]? =some u→W.cell? (((⟨b,off,spot⟩:Addr).add (i*k)).add j)=some u:=fun i hi=>by
   have hi2:=hcell i hi
   rw [List.getElem?_eq_getElem (by omega),hce,Option.bind_eq_some_iff] at hi2
   obtain ⟨cs,hc1,hc2⟩:=hi2
   obtain ⟨v,hv,rfl⟩:=hcells _ _ _ hc2
   obtain ⟨_,_,hc3⟩:=World.cells?_some hc1
   refine ⟨v,hv,fun j u hu=> ?_⟩
   have hj:=(List.getElem?_eq_some_iff.1 hu).1
   rw [hlen v hv] at hj
   rw [hc3 j hj]
   exact hu
  have hspot:0<len→spot=none∧b<W.heap.size:=fun h0=>by
   obtain ⟨v,hv,hc⟩:=raw 0 h0
   have q:=hc 0 _ (List.getElem?_eq_getElem (by rw [hlen v hv];omega))
   have q1:=World.cell?_spot q
   have q2:spot=none:=by simpa [Addr.add] using q1
   subst q2
   refine ⟨rfl, ?_⟩
   rw [Addr.add_mid,Addr.add_mid] at q
   exact block_lt_of_cell q
  by_cases h0:0<len
  ·obtain ⟨hs,hb⟩:=hspot h0
   subst hs
   obtain ⟨v0,_⟩:=raw 0 h0
   let F:Nat→κ:=fun i=>if h:i<len then Classical.choose (raw i h) else v0
   have hF:∀i (h:i<len),F i=Classical.choose (raw i h):=fun i h=>dif_pos h
   refine ⟨(List.range len).map F,by simp,fun v hv=> ?_, ?_, .inr ⟨_,_,hx.1,by simp [hel]⟩⟩
   ·rw [List.mem_map] at hv
    obtain ⟨i,hi,rfl⟩:=hv
    rw [List.mem_range] at hi
    rw [hF i hi]
    exact (Classical.choose_spec (raw i hi)).1
   ·refine .inr ⟨b,off,rfl,hb,fun i v hv=> ?_⟩
    have hi:i<len:=by
        have:=(List.getElem?_eq_some_iff.1 hv).1
        simpa using this
    rw [List.getElem?_map,List.getElem?_range hi] at hv
    simp only [Option.map_some,Option.some.injEq] at hv
    subst hv
    rw [hF i hi]
    intro j u hu
    have:=(Classical.choose_spec (raw i hi)).2 j u hu
    rwa [Addr.add_mid,Addr.add_mid] at this
  ·obtain rfl:len=0:=by omega
   exact ⟨[],rfl,fun v hv=>(by cases hv), .inl rfl, .inr ⟨_,_,hx.1,by simp [hel]⟩⟩
theorem i64_wf {z:Int} (h:(Lit.int .i64 z).wf=true): -9223372036854775808≤z∧z≤9223372036854775807:=by
 simp [Lit.wf,IntKind.min,IntKind.max,IntKind.signed,IntKind.bits] at h
 omega
theorem u8_wf {z:Int} (h:(Lit.int .u8 z).wf=true):0≤z∧z≤255:=by
 simp [Lit.wf,IntKind.min,IntKind.max,IntKind.signed,IntKind.bits] at h
 omega
def intV:Value→Int
 | .int _ z=>z
 |_=>0
theorem cells_int:Tryz.prog.cellsOf 3=1:=by kernel_rfl
theorem cells_str:Tryz.prog.cellsOf 9=1:=by kernel_rfl
theorem cells_hash:Tryz.prog.cellsOf 53=32:=by kernel_rfl
theorem cells_id:Tryz.prog.cellsOf 55=33:=by kernel_rfl
theorem hash_cells {fuel:Nat} {cs:List Value} {y:DataW H × List MemPlace} (h:DataW.trod enc Tryz.prog W 0 (fun _=>true) true fuel 53 cs=some y):∃l:List UInt8,l.length=32∧cs=hcs l:=by
 obtain ⟨xs,m,_,_,hlen,hxs,hall⟩:=DataW.trod_array Tryz.underlying53 h
 rw [cells_hash] at hlen
 have hce:Tryz.prog.cellsOf 5=1:=by kernel_rfl
 have key:∀i (hi:i<cs.length),∃z:Int,cs[i]= .int .u8 z∧0≤z∧z≤255:=by
  intro i hi
  have h1:=hall i (by omega)
  rw [hce,Nat.mul_one,List.getElem?_eq_getElem (by omega)] at h1
  obtain ⟨z,e0,_,w0⟩:=DataW.trod_int Tryz.underlying5 h1
  have hb:=u8_wf w0
  refine ⟨z, ?_,hb.1,hb.2⟩
  rw [List.drop_eq_getElem_cons hi,List.take_succ_cons,List.take_zero] at e0
  exact (List.cons.inj e0).1
 refine ⟨cs.map (fun v=>UInt8.ofNat (intV v).toNat),by simpa using hlen, ?_⟩
 apply List.ext_getElem
 ·simp [hcs,bs]
 ·intro i h1 h2
  obtain ⟨z,hz,z0,z1⟩:=key i h1
  simp only [hcs,bs,List.map_map,List.getElem_map,Function.comp_apply]
  rw [hz]
  simp only [intV,Value.int.injEq,true_and]
  rw [UInt8.toNat_ofNat']
  omega
theorem list_split {α:Type} {l:List α} {n m:Nat} (h:l.length=n+m):∃a b,l=a++b∧a.length=n∧b.length=m:=⟨l.take n,l.drop n,(List.take_append_drop n l).symm,by simp;omega,by simp;omega⟩
theorem id_cells {fuel:Nat} {cs:List Value} {y:DataW H × List MemPlace} (h:DataW.trod enc Tryz.prog W 0 (fun _=>true) true fuel 55 cs=some y):∃x:IdK,x.ok∧cs=x.c:=by
 obtain ⟨y0,y1,n,_,hcl,h0,h1⟩:=trod_struct2 Tryz.underlying55 h
 rw [cells_id] at hcl
 obtain ⟨A,B,rfl,hA,hB⟩:=list_split (n:=32) (m:=1) hcl
 simp only [cells_hash,cells_int,List.drop_zero] at h0 h1
 rw [←hA,List.take_left] at h0
 rw [←hA,List.drop_left,List.take_of_length_le (by omega)] at h1
 obtain ⟨k,hk,rfl⟩:=hash_cells h0
 obtain ⟨z,e0,_,w0⟩:=DataW.trod_int Tryz.underlying3 h1
 subst e0
 have b:=i64_wf w0
 exact ⟨⟨k,z⟩,⟨hk,b.1,b.2⟩,rfl⟩
end
theorem trod_float {H:Type} {enc:TypeId × Value→H} {P:Program} {w:World} {base:Nat} {spare:Nat→Bool} {held:Bool} {fuel:Nat} {t:TypeId} {cs:List Value} {x:DataW H × List MemPlace} {k:FloatKind} (ht:P.underlying t=some (.float k)) (h:DataW.trod enc P w base spare held fuel t cs=some x) :
 ∃b,cs=[.float k b]∧(Lit.float k b).wf=true:=by
 cases fuel with
 |zero=>simp [DataW.trod] at h
 |succ n =>
  unfold DataW.trod at h
  rw [ht] at h
  split at h <;>simp_all
theorem cells_u8k:Tryz.prog.cellsOf 65=1:=by kernel_rfl
theorem cells_i64:Tryz.prog.cellsOf 2=1:=by kernel_rfl
theorem cells_flt:Tryz.prog.cellsOf 66=1:=by kernel_rfl
theorem cells_va:Tryz.prog.cellsOf 68=4:=by kernel_rfl
section
variable {H:Type} {enc:TypeId × Value→H} {W:World}
theorem va_cells (fuel:Nat) (cs:List Value) (y:DataW H × List MemPlace) (h:DataW.trod enc Tryz.prog W 0 (fun _=>true) true fuel 68 cs=some y):∃x:VaV,x.ok∧cs=x.c:=by
 obtain ⟨xs,n,_,hx,hcl,hlen,hfs⟩:=DataW.trod_struct Tryz.underlying68 h
 rw [cells_va] at hcl
 have hlen:xs.length=4:=hlen
 obtain ⟨a,b,c,d,rfl⟩:∃a b c d,cs=[a,b,c,d]:=by
  match cs,hcl with
  |[a,b,c,d],_=>exact ⟨a,b,c,d,rfl⟩
 match xs,hlen with
 |[y0,y1,y2,y3],_ =>
  have t0:DataW.trod enc Tryz.prog W 0 (fun _=>true) true n 65 (([a,b,c,d].drop 0).take (Tryz.prog.cellsOf 65))=some y0:=hfs 0 _ rfl
  have t1:DataW.trod enc Tryz.prog W 0 (fun _=>true) true n 2 (([a,b,c,d].drop 1).take (Tryz.prog.cellsOf 2))=some y1:=hfs 1 _ rfl
  have t2:DataW.trod enc Tryz.prog W 0 (fun _=>true) true n 66 (([a,b,c,d].drop 2).take (Tryz.prog.cellsOf 66))=some y2:=hfs 2 _ rfl
  have t3:DataW.trod enc Tryz.prog W 0 (fun _=>true) true n 9 (([a,b,c,d].drop 3).take (Tryz.prog.cellsOf 9))=some y3:=hfs 3 _ rfl
  rw [cells_u8k] at t0
  rw [cells_i64] at t1
  rw [cells_flt] at t2
  rw [cells_str] at t3
  obtain ⟨z0,q0,_,w0⟩:=DataW.trod_int Tryz.underlying65 t0
  obtain ⟨z1,q1,_,w1⟩:=DataW.trod_int Tryz.underlying2 t1
  obtain ⟨z2,q2,w2⟩:=trod_float Tryz.underlying66 t2
  obtain ⟨z3,q3,_,w3⟩:=DataW.trod_string Tryz.underlying9 t3
  simp at q0 q1 q2 q3
  subst q0 q1 q2 q3
  have u0:=u8_wf w0
  have u1:=i64_wf w1
  exact ⟨⟨z0,z1,z2,z3⟩,⟨u0.1,u0.2,u1.1,u1.2,by simpa [Lit.wf] using w2,w3⟩,rfl⟩
end
structure OpM where
 kind:Int
 id:IdK
 fr:IdK
 ti:IdK
 nm:ByteArray
 v:VaV
 sd:Int
def OpM.c (o:OpM):List Value:=[.int .i64 o.kind]++(o.id.c++(o.fr.c++(o.ti.c++([.string o.nm]++(o.v.c++[.int .i64 o.sd])))))
structure OpM.ok (o:OpM):Prop where
 id:o.id.ok
 fr:o.fr.ok
 ti:o.ti.ok
 kind: -9223372036854775808≤o.kind∧o.kind≤9223372036854775807
 nm:o.nm.size≤maxLen
 v:o.v.ok
 sd: -9223372036854775808≤o.sd∧o.sd≤9223372036854775807
def OpM.mk' (o:OpM):MkV:=⟨o.id,o.nm,o.v,o.fr,o.ti,o.sd⟩
theorem OpM.mkok {o:OpM} (h:o.ok):o.mk'.ok:=⟨h.id,h.nm,h.v,h.fr,h.ti,h.sd.1,h.sd.2⟩
theorem OpM.len {o:OpM} (h:o.ok):o.c.length=106:=by
 have h1:=IdK.len h.id
 have h2:=IdK.len h.fr
 have h3:=IdK.len h.ti
 simp [OpM.c,h1,h2,h3,VaV.len]
theorem OpM.one (o:OpM):∀v∈o.c,v.oneCell'=true:=by
 intro v hv
 simp only [OpM.c,List.mem_append,List.mem_singleton] at hv
 rcases hv with rfl|h|h|h|rfl|h|rfl
 ·rfl
 ·exact IdK.one _ v h
 ·exact IdK.one _ v h
 ·exact IdK.one _ v h
 ·rfl
 ·exact VaV.one _ v h
 ·rfl
def zOpM:OpM:=⟨0,zId,zId,zId,⟨#[]⟩,zVa,0⟩
theorem zOpM_ok:zOpM.ok:=⟨zId_ok,zId_ok,zId_ok,by decide,by decide,zVa_ok,by decide⟩
theorem bytes_opM:Tryz.prog.bytesOf 70=192:=by kernel_rfl
def RO:RowT OpM:=⟨OpM.c,OpM.ok,106,192,70,22,zOpM⟩
theorem RO_is:RO.Is:=⟨zOpM_ok,fun _ h=>OpM.len h,OpM.one,Tryz.underlying22,by kernel_rfl,⟨_,Tryz.underlying70,rfl⟩,by decide,by decide⟩
theorem cells_opM:Tryz.prog.cellsOf 70=106:=by kernel_rfl
section
variable {H:Type} {enc:TypeId × Value→H} {W:World}
theorem opM_cells (fuel:Nat) (cs:List Value) (y:DataW H × List MemPlace) (h:DataW.trod enc Tryz.prog W 0 (fun _=>true) true fuel 70 cs=some y):∃x:OpM,x.ok∧cs=x.c:=by
 obtain ⟨xs,n,_,hx,hcl,hlen,hfs⟩:=DataW.trod_struct Tryz.underlying70 h
 rw [cells_opM] at hcl
 have hlen:xs.length=7:=hlen
 obtain ⟨A,R,rfl,hA,hR⟩:=list_split (n:=1) (m:=105) hcl
 obtain ⟨B,R,rfl,hB,hR⟩:=list_split (n:=33) (m:=72) hR
 obtain ⟨C,R,rfl,hC,hR⟩:=list_split (n:=33) (m:=39) hR
 obtain ⟨D,R,rfl,hD,hR⟩:=list_split (n:=33) (m:=6) hR
 obtain ⟨E,R,rfl,hE,hR⟩:=list_split (n:=1) (m:=5) hR
 obtain ⟨F,G,rfl,hF,hG⟩:=list_split (n:=4) (m:=1) hR
 match xs,hlen with
 |[y0,y1,y2,y3,y4,y5,y6],_ =>
  have t0:DataW.trod enc Tryz.prog W 0 (fun _=>true) true n 3 (((A++(B++(C++(D++(E++(F++G)))))).drop 0).take (Tryz.prog.cellsOf 3))=some y0:=hfs 0 _ rfl
  have t1:DataW.trod enc Tryz.prog W 0 (fun _=>true) true n 55 (((A++(B++(C++(D++(E++(F++G)))))).drop 1).take (Tryz.prog.cellsOf 55))=some y1:=hfs 1 _ rfl
  have t2:DataW.trod enc Tryz.prog W 0 (fun _=>true) true n 55 (((A++(B++(C++(D++(E++(F++G)))))).drop 34).take (Tryz.prog.cellsOf 55))=some y2:=hfs 2 _ rfl
  have t3:DataW.trod enc Tryz.prog W 0 (fun _=>true) true n 55 (((A++(B++(C++(D++(E++(F++G)))))).drop 67).take (Tryz.prog.cellsOf 55))=some y3:=hfs 3 _ rfl
  have t4:DataW.trod enc Tryz.prog W 0 (fun _=>true) true n 9 (((A++(B++(C++(D++(E++(F++G)))))).drop 100).take (Tryz.prog.cellsOf 9))=some y4:=hfs 4 _ rfl
  have t5:DataW.trod enc Tryz.prog W 0 (fun _=>true) true n 68 (((A++(B++(C++(D++(E++(F++G)))))).drop 101).take (Tryz.prog.cellsOf 68))=some y5:=hfs 5 _ rfl
  have t6:DataW.trod enc Tryz.prog W 0 (fun _=>true) true n 3 (((A++(B++(C++(D++(E++(F++G)))))).drop 105).take (Tryz.prog.cellsOf 3))=some y6:=hfs 6 _ rfl
  rw [cells_int] at t0
  rw [List.drop_zero, ←hA,List.take_left] at t0
  rw [cells_id] at t1
  rw [show 1=A.length by omega,List.drop_left, ←hB,List.take_left] at t1
  rw [cells_id] at t2
  rw [show 34=A.length+B.length by omega, ←List.drop_drop,List.drop_left,List.drop_left, ←hC,List.take_left] at t2
  rw [cells_id] at t3
  rw [show 67=A.length+B.length+C.length by omega, ←List.drop_drop, ←List.drop_drop,List.drop_left,List.drop_left,List.drop_left, ←hD,List.take_left] at t3
  rw [cells_str] at t4
  rw [show 100=A.length+B.length+C.length+D.length by omega, ←List.drop_drop, ←List.drop_drop, ←List.drop_drop,List.drop_left,List.drop_left,List.drop_left,List.drop_left, ←hE,List.take_left] at t4
  rw [cells_va] at t5
  rw [show 101=A.length+B.length+C.length+D.length+E.length by omega, ←List.drop_drop, ←List.drop_drop, ←List.drop_drop, ←List.drop_drop,List.drop_left,List.drop_left,List.drop_left,List.drop_left,List.drop_left, ←hF,List.take_left] at t5
  rw [cells_int] at t6
  rw [show 105=A.length+B.length+C.length+D.length+E.length+F.length by omega, ←List.drop_drop, ←List.drop_drop, ←List.drop_drop, ←List.drop_drop, ←List.drop_drop,List.drop_left,List.drop_left,List.drop_left,List.drop_left,List.drop_left,List.drop_left,List.take_of_length_le (by omega)] at t6
  obtain ⟨z0,q0,_,w0⟩:=DataW.trod_int Tryz.underlying3 t0
  obtain ⟨x1,o1,q1⟩:=id_cells t1
  obtain ⟨x2,o2,q2⟩:=id_cells t2
  obtain ⟨x3,o3,q3⟩:=id_cells t3
  obtain ⟨z4,q4,_,w4⟩:=DataW.trod_string Tryz.underlying9 t4
  obtain ⟨x5,o5,q5⟩:=va_cells _ _ _ t5
  obtain ⟨z6,q6,_,w6⟩:=DataW.trod_int Tryz.underlying3 t6
  subst q0 q1 q2 q3 q4 q5 q6
  exact ⟨⟨z0,x1,x2,x3,z4,x5,z6⟩,⟨o1,o2,o3,i64_wf w0,w4,o5,i64_wf w6⟩,rfl⟩
theorem view_opsM {a:Option Addr} {len cap:Nat} {d:DataW H} {p:List MemPlace} (h:DataW.Trod enc Tryz.prog W 0 (fun _=>true) true 22 (.slice a len cap) d p) :
 ∃L:List OpM,L.length=len∧(∀x∈L,x.ok)∧RO.At W a L∧(d= .nil∧len=0∨∃el sp,d= .slice el sp∧el.length=len):=by
 obtain ⟨L,h1,h2,h3,h4⟩:=view_rows Tryz.underlying22 cells_opM (by omega) (fun x hx=>OpM.len hx) opM_cells h
 refine ⟨L,h1,h2, ?_,h4⟩
 rcases h3 with h3|⟨b,off,e,hl,hr⟩
 ·exact .inl h3
 ·exact .inr ⟨b,off,e,hl,fun i x hx=>by have:=hr i x hx;rw [Nat.mul_comm] at this;exact this⟩
end
end Go.Proofs.YtifendlpeebofabGreatDoor
namespace Go.Proofs.YtifendlpeebofabGreatDoor
open Go.RowKit
def idN (n:Int):IdK:=⟨zId.h,n⟩
theorem build_idN (n:Int) (w:World):(Instr.build 55 #[(1, .int .i64 n)]).run Tryz.prog w= .ok (idN n).v w:=by kernel_rfl
section
variable {w:World} {a:Act} {o:Oper} {x y:Operand}
theorem exec_build1 {P:Program} {t:TypeId} {v0 v:Value} (ho:o.op= .build t #[(1,x)]) (h0:a.eval x=v0) (hl:(Instr.build t #[(1,v0)]).run P w= .ok v w):(execOp a.eval o).run P w= .ok (.value v) w:=by
 unfold execOp;simp only [ho,List.map_toArray,List.map_cons,List.map_nil,h0,Sem.run_bind,hl,Result.andThen_ok,Sem.run_pure]
theorem exec_c7 {P:Program} {F:Nat} {ts:Array TypeId} {x1 x2 x3 x4 x5 x6 x7:Operand} {v1 v2 v3 v4 v5 v6 v7:Value} (ho:o.op= .call {callee:= .value (.func F),args:= #[x1,x2,x3,x4,x5,x6,x7],argTypes:=ts}) (h1:a.eval x1=v1) (h2:a.eval x2=v2) (h3:a.eval x3=v3) (h4:a.eval x4=v4) (h5:a.eval x5=v5) (h6:a.eval x6=v6) (h7:a.eval x7=v7) (hf:(callFunc F #[v1,v2,v3,v4,v5,v6,v7]).run P w= .ok (.enter F #[v1,v2,v3,v4,v5,v6,v7]) w:=by go_simp):(execOp a.eval o).run P w= .ok (.enter F #[v1,v2,v3,v4,v5,v6,v7]) w:=by
 have e0:a.eval (.func F)= .func (.func F) #[] #[]:=rfl
 unfold execOp;simp [ho,resolve,invoke,h1,h2,h3,h4,h5,h6,h7,e0,Deferred.ofValue,Result.andThen,hf]
theorem ex_rem {n r:Int} {m:Nat} (h0:0<m) (hr:Int.tmod n (m:Int)=r) (ho:o.op= .binOp .rem 3 x y 3) (hx:a.eval x= .int .i64 n) (hy:a.eval y= .int .i64 (m:Int)):(execOp a.eval o).run Tryz.prog w= .ok (.value (.int .i64 r)) w:=by
 have l1: -(m:Int)<Int.tmod n (m:Int):=by have:=Int.lt_tmod_of_pos n (show (0:Int)<(m:Int) by omega);omega
 have l2:Int.tmod n (m:Int)<(m:Int):=Int.tmod_lt_of_pos n (by omega)
 subst hr
 refine exec_binOp ho hx hy ?_ ?_
 ·kernel_rfl
 ·have hne:¬(m=0):=by omega
  go_simp
end
def lai4_ops:Array Oper:=(⟨_,rfl⟩:{o // some o=rgB Tryz.f4 4}).1
theorem lai4 {lb:Nat} {w1 w2:World} (a:Act) (w:World) (Q:Exit→Act→World→Prop) (zz:a.tmps.size=79)
 (EA:(Instr.alloc 55 true (.tuple #[])).run Tryz.prog w= .ok (.pointer (some ⟨lb,0,none⟩)) w1) (ES:(Instr.storeAt 55 (.pointer (some ⟨lb,0,none⟩)) zId.v).run Tryz.prog w1= .ok () w2)
 (h:∀a' w',w'=w2→a'=(a.put (some 23) (zId.v)).put (some 9) (.pointer (some ⟨lb,0,none⟩))→Q .normal a' w') :
 (Code.region 4 lai4_ops false).wp Tryz.prog Q a w:=by
 refine z0 rfl ?_
 refine zv rfl (exec_build0 rfl (build_id _)) ?_
 refine zv (v:= .pointer (some ⟨lb,0,none⟩)) rfl (exec_alloc rfl EA) ?_
 refine zs rfl (exec_store rfl (zg zz rfl) (zg zz rfl) ES) ?_
 exact ze rfl (h _ _ (rfl) rfl)
def lai8_ops:Array Oper:=(⟨_,rfl⟩:{o // some o=rgB Tryz.f4 8}).1
theorem lai8 {ib:Nat} {i:Int} {w1 w2:World} (a:Act) (w:World) (Q:Exit→Act→World→Prop) (zz:a.tmps.size=79)
 (t10:a.tmps.getD 10 undef= .int .i64 i)
 (EA:(Instr.alloc 55 true (.tuple #[])).run Tryz.prog w= .ok (.pointer (some ⟨ib,0,none⟩)) w1) (ES:(Instr.storeAt 55 (.pointer (some ⟨ib,0,none⟩)) (idN i).v).run Tryz.prog w1= .ok () w2)
 (h:∀a' w',w'=w2→a'=((a.put (some 29) (.int .i64 i)).put (some 30) ((idN i).v)).put (some 11) (.pointer (some ⟨ib,0,none⟩))→Q .normal a' w') :
 (Code.region 8 lai8_ops false).wp Tryz.prog Q a w:=by
 refine z0 rfl ?_
 refine zv rfl (xmv rfl (zi t10 rfl)) ?_
 refine zv rfl (exec_build1 rfl (zg zz rfl) (build_idN _ _)) ?_
 refine zv (v:= .pointer (some ⟨ib,0,none⟩)) rfl (exec_alloc rfl EA) ?_
 refine zs rfl (exec_store rfl (zg zz rfl) (zg zz rfl) ES) ?_
 exact ze rfl (h _ _ (rfl) rfl)
def lai9_ops:Array Oper:=(⟨_,rfl⟩:{o // some o=rgB Tryz.f4 9}).1
theorem lai9 {sb lb ib:Nat} {k q:IdK} {z:Int} {r:Bool} (Fin:World→Prop) (a:Act) (w:World) (Q:Exit→Act→World→Prop) (zz:a.tmps.size=79)
 (t7:a.tmps.getD 7 undef= .pointer (some ⟨sb,0,none⟩))
 (t9:a.tmps.getD 9 undef= .pointer (some ⟨lb,0,none⟩))
 (t11:a.tmps.getD 11 undef= .pointer (some ⟨ib,0,none⟩))
 (hz:decide (z≠0)=r) (L0:∀W,W=w→(Instr.loadAt 55 (.pointer (some ⟨lb,0,none⟩))).run Tryz.prog W= .ok (q.v) W) (L1:∀W,W=w→(Instr.loadAt 55 (.pointer (some ⟨ib,0,none⟩))).run Tryz.prog W= .ok (k.v) W) (CI:Calls Tryz.prog 13 #[.pointer (some ⟨sb,0,none⟩),k.v,q.v] w fun e w'=>e= .returned (.int .i64 z)∧Fin w')
 (h:∀a' w',Fin w'→a'=((((a.put (some 31) (.pointer (some ⟨sb,0,none⟩))).put (some 32) (k.v)).put (some 33) (q.v)).put (some 34) (.int .i64 z)).put (some 35) (.bool r)→Q .normal a' w') :
 (Code.region 9 lai9_ops false).wp Tryz.prog Q a w:=by
 refine z0 rfl ?_
 refine zv rfl (xmv rfl (zi t7 rfl)) ?_
 refine zv rfl (xld rfl (zi t11 rfl) (L1 _ rfl)) ?_
 refine zv rfl (xld rfl (zi t9 rfl) (L0 _ rfl)) ?_
 refine zc rfl (exec_c3 rfl (zg zz rfl) (zg zz rfl) (zg zz rfl)) (CI) (fun e x3 hx=> ?_)
 obtain ⟨rfl,HF⟩:=hx
 refine ⟨_,rfl, ?_⟩
 refine zv (v:= .bool r) rfl (ex_neqE rfl (zg zz rfl) rfl hz) ?_
 exact ze rfl (h _ _ (HF) rfl)
def lai11_ops:Array Oper:=(⟨_,rfl⟩:{o // some o=rgB Tryz.f4 11}).1
theorem lai11 {lb ib:Nat} {k:IdK} {w1:World} (a:Act) (w:World) (Q:Exit→Act→World→Prop) (zz:a.tmps.size=79)
 (t9:a.tmps.getD 9 undef= .pointer (some ⟨lb,0,none⟩))
 (t11:a.tmps.getD 11 undef= .pointer (some ⟨ib,0,none⟩))
 (L1:∀W,W=w→(Instr.loadAt 55 (.pointer (some ⟨ib,0,none⟩))).run Tryz.prog W= .ok (k.v) W) (ES:(Instr.storeAt 55 (.pointer (some ⟨lb,0,none⟩)) k.v).run Tryz.prog w= .ok () w1)
 (h:∀a' w',w'=w1→a'=a.put (some 36) (k.v)→Q .normal a' w') :
 (Code.region 11 lai11_ops false).wp Tryz.prog Q a w:=by
 refine z0 rfl ?_
 refine zv rfl (xld rfl (zi t11 rfl) (L1 _ rfl)) ?_
 refine zs rfl (exec_store rfl (zi t9 rfl) (zg zz rfl) ES) ?_
 exact ze rfl (h _ _ (rfl) rfl)
theorem fg_109_0 (b o:Nat) (w:World):(Instr.fieldAt 109 (.pointer (some ⟨b,o,none⟩)) 0).run Tryz.prog w= .ok (.pointer (some ⟨b,o+0,none⟩)) w:=by go_simp
theorem fg_103_0 (b o:Nat) (w:World):(Instr.fieldAt 103 (.pointer (some ⟨b,o,none⟩)) 0).run Tryz.prog w= .ok (.pointer (some ⟨b,o+0,none⟩)) w:=by go_simp
theorem fg_70_1 (b o:Nat) (w:World):(Instr.fieldAt 70 (.pointer (some ⟨b,o,none⟩)) 1).run Tryz.prog w= .ok (.pointer (some ⟨b,o+1,none⟩)) w:=by go_simp
theorem fg_70_2 (b o:Nat) (w:World):(Instr.fieldAt 70 (.pointer (some ⟨b,o,none⟩)) 2).run Tryz.prog w= .ok (.pointer (some ⟨b,o+34,none⟩)) w:=by go_simp
theorem fg_70_3 (b o:Nat) (w:World):(Instr.fieldAt 70 (.pointer (some ⟨b,o,none⟩)) 3).run Tryz.prog w= .ok (.pointer (some ⟨b,o+67,none⟩)) w:=by go_simp
theorem fg_70_4 (b o:Nat) (w:World):(Instr.fieldAt 70 (.pointer (some ⟨b,o,none⟩)) 4).run Tryz.prog w= .ok (.pointer (some ⟨b,o+100,none⟩)) w:=by go_simp
theorem fg_70_5 (b o:Nat) (w:World):(Instr.fieldAt 70 (.pointer (some ⟨b,o,none⟩)) 5).run Tryz.prog w= .ok (.pointer (some ⟨b,o+101,none⟩)) w:=by go_simp
theorem fg_70_6 (b o:Nat) (w:World):(Instr.fieldAt 70 (.pointer (some ⟨b,o,none⟩)) 6).run Tryz.prog w= .ok (.pointer (some ⟨b,o+105,none⟩)) w:=by go_simp
theorem len_rm (a:Option Addr) (m c:Nat) (w:World):(Builtin.len_ #[101] 3 #[.slice a m c]).run Tryz.prog w= .ok (.int .i64 (m:Int)) w:=by go_simp
theorem ix_rm {b o n c i:Nat} (hi:i<n) (hm:n≤9223372036854775807) (W:World):(Instr.indexAt 101 (.slice (some ⟨b,o,none⟩) n c) (.int .i64 (i:Int))).run Tryz.prog W= .ok (.pointer (some ⟨b,o+105*i,none⟩)) W:=by
 rw [Nat.mul_comm]
 go_simp
theorem ix_op {b o n c i:Nat} (hi:i<n) (hm:n≤9223372036854775807) (W:World):(Instr.indexAt 22 (.slice (some ⟨b,o,none⟩) n c) (.int .i64 (i:Int))).run Tryz.prog W= .ok (.pointer (some ⟨b,o+106*i,none⟩)) W:=by
 rw [Nat.mul_comm]
 go_simp
def rfd0_ops:Array Oper:=(⟨_,rfl⟩:{o // some o=rgB Tryz.f50 0}).1
theorem rfd0 {k:IdK} {b3:Nat} {w1:World} (a:Act) (w:World) (Q:Exit→Act→World→Prop) (zz:a.tmps.size=26)
 (t1:a.tmps.getD 1 undef=k.v)
 (E1:(Instr.box 55 k.v).run Tryz.prog w= .ok (.pointer (some ⟨b3,0,none⟩)) w1)
 (h:∀a' w',w'=w1→a'=(a.put (some 3) (.pointer (some ⟨b3,0,none⟩))).put (some 4) (.int .i64 0)→Q .normal a' w') :
 (Code.region 0 rfd0_ops false).wp Tryz.prog Q a w:=by
 refine z0 rfl ?_
 refine zv (v:= .pointer (some ⟨b3,0,none⟩)) rfl (exec_boxM rfl (zi t1 rfl) E1) ?_
 refine zv rfl (xas rfl rfl) ?_
 exact ze rfl (h _ _ (rfl) rfl)
def rfd2_ops:Array Oper:=(⟨_,rfl⟩:{o // some o=rgB Tryz.f50 2}).1
theorem rfd2 {rb n c i:Nat} {la:Option Addr} {r:Bool} (a:Act) (w:World) (Q:Exit→Act→World→Prop) (zz:a.tmps.size=26)
 (t0:a.tmps.getD 0 undef= .pointer (some ⟨rb,0,none⟩))
 (t5:a.tmps.getD 5 undef= .int .i64 (i:Int))
 (hr:decide ((i:Int)<(n:Int))=r) (LL:(Instr.loadAt 101 (.pointer (some ⟨rb,0+0,none⟩))).run Tryz.prog w= .ok (.slice la n c) w)
 (h:∀a' w',w'=w→a'=((((((a.put (some 6) (.int .i64 (i:Int))).put (some 7) (.pointer (some ⟨rb,0,none⟩))).put (some 8) (.pointer (some ⟨rb,0,none⟩))).put (some 9) (.pointer (some ⟨rb,0+0,none⟩))).put (some 10) (.slice la n c)).put (some 11) (.int .i64 (n:Int))).put (some 12) (.bool r)→Q .normal a' w') :
 (Code.region 2 rfd2_ops false).wp Tryz.prog Q a w:=by
 refine z0 rfl ?_
 refine zv rfl (xmv rfl (zi t5 rfl)) ?_
 refine zv rfl (xmv rfl (zi t0 rfl)) ?_
 refine zv rfl (xnc rfl (zg zz rfl)) ?_
 refine zv rfl (xfa rfl (zg zz rfl) (fg_103_0 _ _ _)) ?_
 refine zv rfl (xld rfl (zg zz rfl) LL) ?_
 refine zv rfl (exec_len rfl (zg zz rfl) (len_rm _ _ _ _)) ?_
 refine zv (v:= .bool r) rfl (ex_lss rfl (zg zz rfl) (zg zz rfl) hr) ?_
 exact ze rfl (h _ _ (rfl) rfl)
def rfd4_ops:Array Oper:=(⟨_,rfl⟩:{o // some o=rgB Tryz.f50 4}).1
theorem rfd4 {rb b3 g o n c i:Nat} {q k:IdK} {r:Bool} (S:World→Prop) (a:Act) (w:World) (Q:Exit→Act→World→Prop) (zz:a.tmps.size=26)
 (t0:a.tmps.getD 0 undef= .pointer (some ⟨rb,0,none⟩))
 (t3:a.tmps.getD 3 undef= .pointer (some ⟨b3,0,none⟩))
 (t5:a.tmps.getD 5 undef= .int .i64 (i:Int))
 (h0:S w.drew) (hi:i<n) (hm:n≤9223372036854775807) (hq:q.ok) (hk:k.ok) (hz:decide (q=k)=r) (LL:∀W,S W→(Instr.loadAt 101 (.pointer (some ⟨rb,0+0,none⟩))).run Tryz.prog W= .ok (.slice (some ⟨g,o,none⟩) n c) W) (LX:∀W,S W→(Instr.loadAt 55 (.pointer (some ⟨g,o+105*i+0,none⟩))).run Tryz.prog W= .ok (q.v) W) (LK:∀W,S W→(Instr.loadAt 55 (.pointer (some ⟨b3,0,none⟩))).run Tryz.prog W= .ok (k.v) W)
 (h:∀a' w',S w'→a'=(((((((((a.put (some 15) (.pointer (some ⟨rb,0,none⟩))).put (some 16) (.pointer (some ⟨rb,0,none⟩))).put (some 17) (.pointer (some ⟨rb,0+0,none⟩))).put (some 18) (.slice (some ⟨g,o,none⟩) n c)).put (some 19) (.int .i64 (i:Int))).put (some 20) (.pointer (some ⟨g,o+105*i,none⟩))).put (some 21) (.pointer (some ⟨g,o+105*i+0,none⟩))).put (some 22) (q.v)).put (some 23) (k.v)).put (some 24) (.bool r)→Q .normal a' w') :
 (Code.region 4 rfd4_ops true).wp Tryz.prog Q a w:=by
 refine y0 (fun w'=>S w') (h0) (fun hHeld=> ?_)
 refine yv 0 rfl rfl (fun w1 hw=>xmv rfl (zi t0 rfl)) hHeld ?_
 refine yv 1 rfl rfl (fun w1 hw=>xnc rfl (zg zz rfl)) hHeld ?_
 refine yv 2 rfl rfl (fun w1 hw=>xfa rfl (zg zz rfl) (fg_103_0 _ _ _)) hHeld ?_
 refine yv 3 rfl rfl (fun w1 hw=>xld rfl (zg zz rfl) (LL _ hw)) hHeld ?_
 refine yv 4 rfl rfl (fun w1 hw=>xmv rfl (zi t5 rfl)) hHeld ?_
 refine yv 5 rfl rfl (fun w1 hw=>xia rfl (zg zz rfl) (zg zz rfl) (ix_rm hi hm _)) hHeld ?_
 refine yv 6 rfl rfl (fun w1 hw=>xfa rfl (zg zz rfl) (fg_109_0 _ _ _)) hHeld ?_
 refine yv 7 rfl rfl (fun w1 hw=>xld rfl (zg zz rfl) (LX _ hw)) hHeld ?_
 refine yv 8 rfl rfl (fun w1 hw=>xld rfl (zi t3 rfl) (LK _ hw)) hHeld ?_
 refine yv (v:= .bool r) 9 rfl rfl (fun w1 hw=>ex_eqlI rfl (zg zz rfl) (zg zz rfl) hq hk hz) hHeld ?_
 exact ye rfl (h _ _ (hHeld) rfl)
def rad3a_ops:Array Oper:=(⟨_,rfl⟩:{o // some o=rgB Tryz.f16 3}).1
theorem rad3a {b1:Nat} {k:IdK} (a:Act) (w:World) (Q:Exit→Act→World→Prop) (zz:a.tmps.size=65)
 (t8:a.tmps.getD 8 undef= .pointer (some ⟨b1,0,none⟩))
 (hn:decide (k.n<1)=true) (LN:∀W,W=w→(Instr.loadAt 3 (.pointer (some ⟨b1,0+32,none⟩))).run Tryz.prog W= .ok (.int .i64 k.n) W)
 (h:∀a' w',w'=w→a'=(((((((((((a.put (some 19) (.pointer (some ⟨b1,0+32,none⟩))).put (some 20) (.int .i64 k.n)).put (some 21) (.bool true)).put (some 22) (.bool true)).put (some 23) (undef)).put (some 24) (undef)).put (some 25) (.bool true)).put (some 26) (.bool true)).put (some 27) (undef)).put (some 28) (undef)).put (some 29) (.bool true)).put (some 18) (.bool true)→Q .normal a' w') :
 (Code.region 3 rad3a_ops false).wp Tryz.prog Q a w:=by
 refine z0 rfl ?_
 refine zv rfl (xfa rfl (zi t8 rfl) (fg_55_1 _ _ _)) ?_
 refine zv rfl (xld rfl (zg zz rfl) (LN _ rfl)) ?_
 refine zv (v:= .bool true) rfl (ex_lss rfl (zg zz rfl) rfl hn) ?_
 refine zv rfl (xmv rfl (zg zz rfl)) ?_
 iterate 2 refine zn (zx zz rfl rfl rfl (zg zz rfl)) ?_
 refine zv rfl (exec_pickT rfl (zg zz rfl) rfl) ?_
 refine zv rfl (xmv rfl (zg zz rfl)) ?_
 iterate 2 refine zn (zx zz rfl rfl rfl (zg zz rfl)) ?_
 refine zv rfl (exec_pickT rfl (zg zz rfl) rfl) ?_
 refine zv rfl (xas rfl (zg zz rfl)) ?_
 exact ze rfl (h _ _ (rfl) rfl)
theorem rad3b {b1:Nat} {k:IdK} {sd:Int} (a:Act) (w:World) (Q:Exit→Act→World→Prop) (zz:a.tmps.size=65)
 (t8:a.tmps.getD 8 undef= .pointer (some ⟨b1,0,none⟩))
 (t6:a.tmps.getD 6 undef= .int .i64 sd)
 (hn:decide (k.n<1)=false) (h1:decide (sd<0)=true) (LN:∀W,W=w→(Instr.loadAt 3 (.pointer (some ⟨b1,0+32,none⟩))).run Tryz.prog W= .ok (.int .i64 k.n) W)
 (h:∀a' w',w'=w→a'=(((((((((((a.put (some 19) (.pointer (some ⟨b1,0+32,none⟩))).put (some 20) (.int .i64 k.n)).put (some 21) (.bool false)).put (some 22) (.bool false)).put (some 23) (.int .i64 sd)).put (some 24) (.bool true)).put (some 25) (.bool true)).put (some 26) (.bool true)).put (some 27) (undef)).put (some 28) (undef)).put (some 29) (.bool true)).put (some 18) (.bool true)→Q .normal a' w') :
 (Code.region 3 rad3a_ops false).wp Tryz.prog Q a w:=by
 refine z0 rfl ?_
 refine zv rfl (xfa rfl (zi t8 rfl) (fg_55_1 _ _ _)) ?_
 refine zv rfl (xld rfl (zg zz rfl) (LN _ rfl)) ?_
 refine zv (v:= .bool false) rfl (ex_lss rfl (zg zz rfl) rfl hn) ?_
 refine zv rfl (xmv rfl (zg zz rfl)) ?_
 refine zv (zw zz rfl rfl rfl (zg zz rfl)) (xmv rfl (zi t6 rfl)) ?_
 refine zv (v:= .bool true) (zw zz rfl rfl rfl (zg zz rfl)) (ex_lss rfl (zg zz rfl) rfl h1) ?_
 refine zv rfl (exec_pickF rfl (zg zz rfl) (zg zz rfl)) ?_
 refine zv rfl (xmv rfl (zg zz rfl)) ?_
 iterate 2 refine zn (zx zz rfl rfl rfl (zg zz rfl)) ?_
 refine zv rfl (exec_pickT rfl (zg zz rfl) rfl) ?_
 refine zv rfl (xas rfl (zg zz rfl)) ?_
 exact ze rfl (h _ _ (rfl) rfl)
theorem rad3c {b1:Nat} {k:IdK} {sd:Int} {r:Bool} (a:Act) (w:World) (Q:Exit→Act→World→Prop) (zz:a.tmps.size=65)
 (t8:a.tmps.getD 8 undef= .pointer (some ⟨b1,0,none⟩))
 (t6:a.tmps.getD 6 undef= .int .i64 sd)
 (hn:decide (k.n<1)=false) (h1:decide (sd<0)=false) (h2:decide (sd>3)=r) (LN:∀W,W=w→(Instr.loadAt 3 (.pointer (some ⟨b1,0+32,none⟩))).run Tryz.prog W= .ok (.int .i64 k.n) W)
 (h:∀a' w',w'=w→a'=(((((((((((a.put (some 19) (.pointer (some ⟨b1,0+32,none⟩))).put (some 20) (.int .i64 k.n)).put (some 21) (.bool false)).put (some 22) (.bool false)).put (some 23) (.int .i64 sd)).put (some 24) (.bool false)).put (some 25) (.bool false)).put (some 26) (.bool false)).put (some 27) (.int .i64 sd)).put (some 28) (.bool r)).put (some 29) (.bool r)).put (some 18) (.bool r)→Q .normal a' w') :
 (Code.region 3 rad3a_ops false).wp Tryz.prog Q a w:=by
 refine z0 rfl ?_
 refine zv rfl (xfa rfl (zi t8 rfl) (fg_55_1 _ _ _)) ?_
 refine zv rfl (xld rfl (zg zz rfl) (LN _ rfl)) ?_
 refine zv (v:= .bool false) rfl (ex_lss rfl (zg zz rfl) rfl hn) ?_
 refine zv rfl (xmv rfl (zg zz rfl)) ?_
 refine zv (zw zz rfl rfl rfl (zg zz rfl)) (xmv rfl (zi t6 rfl)) ?_
 refine zv (v:= .bool false) (zw zz rfl rfl rfl (zg zz rfl)) (ex_lss rfl (zg zz rfl) rfl h1) ?_
 refine zv rfl (exec_pickF rfl (zg zz rfl) (zg zz rfl)) ?_
 refine zv rfl (xmv rfl (zg zz rfl)) ?_
 refine zv (zw zz rfl rfl rfl (zg zz rfl)) (xmv rfl (zi t6 rfl)) ?_
 refine zv (v:= .bool r) (zw zz rfl rfl rfl (zg zz rfl)) (ex_gtr rfl (zg zz rfl) rfl h2) ?_
 refine zv rfl (exec_pickF rfl (zg zz rfl) (zg zz rfl)) ?_
 refine zv rfl (xas rfl (zg zz rfl)) ?_
 exact ze rfl (h _ _ (rfl) rfl)
def rad5_ops:Array Oper:=(⟨_,rfl⟩:{o // some o=rgB Tryz.f16 5}).1
theorem rad5 {rb b1:Nat} {k:IdK} {r:Bool} (Fin:World→Prop) (a:Act) (w:World) (Q:Exit→Act→World→Prop) (zz:a.tmps.size=65)
 (t0:a.tmps.getD 0 undef= .pointer (some ⟨rb,0,none⟩))
 (t8:a.tmps.getD 8 undef= .pointer (some ⟨b1,0,none⟩))
 (LK:∀W,W=w→(Instr.loadAt 55 (.pointer (some ⟨b1,0,none⟩))).run Tryz.prog W= .ok (k.v) W) (CH:Calls Tryz.prog 50 #[.pointer (some ⟨rb,0,none⟩),k.v] w fun e w'=> ∃z,e= .returned (.int .i64 z)∧decide (z≥0)=r∧Fin w')
 (h:∀(z:Int) a' w',Fin w'→a'=((((a.put (some 31) (.pointer (some ⟨rb,0,none⟩))).put (some 32) (k.v)).put (some 33) (.int .i64 z)).put (some 34) (.bool r)).put (some 30) (.bool r)→Q .normal a' w') :
 (Code.region 5 rad5_ops false).wp Tryz.prog Q a w:=by
 refine z0 rfl ?_
 refine zv rfl (xmv rfl (zi t0 rfl)) ?_
 refine zv rfl (xld rfl (zi t8 rfl) (LK _ rfl)) ?_
 refine zc rfl (exec_c2 rfl (zg zz rfl) (zg zz rfl)) (CH) (fun e x2 hx=> ?_)
 obtain ⟨z,rfl,hr,HF⟩:=hx
 replace h:=h z
 refine ⟨_,rfl, ?_⟩
 refine zv (v:= .bool r) rfl (ex_geq rfl (zg zz rfl) rfl hr) ?_
 refine zv rfl (xas rfl (zg zz rfl)) ?_
 exact ze rfl (h _ _ (HF) rfl)
def rad7_ops:Array Oper:=(⟨_,rfl⟩:{o // some o=rgB Tryz.f16 7}).1
theorem rad7 {nm:ByteArray} {r:Bool} (Fin:World→Prop) (a:Act) (w:World) (Q:Exit→Act→World→Prop) (zz:a.tmps.size=65)
 (t2:a.tmps.getD 2 undef= .string nm)
 (CK:Calls Tryz.prog 51 #[.string nm] w fun e w'=>e= .returned (.bool r)∧Fin w')
 (h:∀a' w',Fin w'→a'=(((a.put (some 36) (.string nm)).put (some 37) (.bool r)).put (some 38) (.bool (!r))).put (some 35) (.bool (!r))→Q .normal a' w') :
 (Code.region 7 rad7_ops false).wp Tryz.prog Q a w:=by
 refine z0 rfl ?_
 refine zv rfl (xmv rfl (zi t2 rfl)) ?_
 refine zc rfl (exec_c1 rfl (zg zz rfl)) (CK) (fun e x1 hx=> ?_)
 obtain ⟨rfl,HF⟩:=hx
 refine ⟨_,rfl, ?_⟩
 refine zv rfl (exec_not rfl (zg zz rfl)) ?_
 refine zv rfl (xas rfl (zg zz rfl)) ?_
 exact ze rfl (h _ _ (HF) rfl)
def rad9a_ops:Array Oper:=(⟨_,rfl⟩:{o // some o=rgB Tryz.f16 9}).1
theorem rad9a {b2:Nat} {x:VaV} {z:Int} (Fin:World→Prop) (a:Act) (w:World) (Q:Exit→Act→World→Prop) (zz:a.tmps.size=65)
 (t10:a.tmps.getD 10 undef= .pointer (some ⟨b2,0,none⟩))
 (hz:decide (z≠0)=true) (LV:∀W,W=w→(Instr.loadAt 68 (.pointer (some ⟨b2,0,none⟩))).run Tryz.prog W= .ok (x.v) W) (CR:Calls Tryz.prog 52 #[x.v] w fun e w'=>e= .returned (.int .i64 z)∧Fin w')
 (h:∀a' w',Fin w'→a'=(((((((((a.put (some 40) (x.v)).put (some 41) (.int .i64 z)).put (some 42) (.bool true)).put (some 43) (.bool true)).put (some 44) (undef)).put (some 45) (undef)).put (some 46) (undef)).put (some 47) (undef)).put (some 48) (.bool true)).put (some 39) (.bool true)→Q .normal a' w') :
 (Code.region 9 rad9a_ops false).wp Tryz.prog Q a w:=by
 refine z0 rfl ?_
 refine zv rfl (xld rfl (zi t10 rfl) (LV _ rfl)) ?_
 refine zc rfl (exec_c1 rfl (zg zz rfl)) (CR) (fun e x1 hx=> ?_)
 obtain ⟨rfl,HF⟩:=hx
 refine ⟨_,rfl, ?_⟩
 refine zv (v:= .bool true) rfl (ex_neqE rfl (zg zz rfl) rfl hz) ?_
 refine zv rfl (xmv rfl (zg zz rfl)) ?_
 iterate 4 refine zn (zx zz rfl rfl rfl (zg zz rfl)) ?_
 refine zv rfl (exec_pickT rfl (zg zz rfl) rfl) ?_
 refine zv rfl (xas rfl (zg zz rfl)) ?_
 exact ze rfl (h _ _ (HF) rfl)
theorem rad9b {b2:Nat} {x:VaV} {z:Int} {r:Bool} (Fin:World→Prop) (a:Act) (w:World) (Q:Exit→Act→World→Prop) (zz:a.tmps.size=65)
 (t10:a.tmps.getD 10 undef= .pointer (some ⟨b2,0,none⟩))
 (hz:decide (z≠0)=false) (LV:∀W,W=w→(Instr.loadAt 68 (.pointer (some ⟨b2,0,none⟩))).run Tryz.prog W= .ok (x.v) W) (CR:Calls Tryz.prog 52 #[x.v] w fun e w'=>e= .returned (.int .i64 z)∧(Instr.loadAt 65 (.pointer (some ⟨b2,0+0,none⟩))).run Tryz.prog w'= .ok (.int .u8 x.k) w'∧Calls Tryz.prog 53 #[.int .u8 x.k] w' fun e w2=>e= .returned (.bool r)∧Fin w2)
 (h:∀a' w',Fin w'→a'=(((((((((a.put (some 40) (x.v)).put (some 41) (.int .i64 z)).put (some 42) (.bool false)).put (some 43) (.bool false)).put (some 44) (.pointer (some ⟨b2,0+0,none⟩))).put (some 45) (.int .u8 x.k)).put (some 46) (.bool r)).put (some 47) (.bool (!r))).put (some 48) (.bool (!r))).put (some 39) (.bool (!r))→Q .normal a' w') :
 (Code.region 9 rad9a_ops false).wp Tryz.prog Q a w:=by
 refine z0 rfl ?_
 refine zv rfl (xld rfl (zi t10 rfl) (LV _ rfl)) ?_
 refine zc rfl (exec_c1 rfl (zg zz rfl)) (CR) (fun e x1 hx=> ?_)
 obtain ⟨rfl,LKD,CS⟩:=hx
 refine ⟨_,rfl, ?_⟩
 refine zv (v:= .bool false) rfl (ex_neqE rfl (zg zz rfl) rfl hz) ?_
 refine zv rfl (xmv rfl (zg zz rfl)) ?_
 refine zv (zw zz rfl rfl rfl (zg zz rfl)) (xfa rfl (zi t10 rfl) (fg_68_0 _ _ _)) ?_
 refine zv (zw zz rfl rfl rfl (zg zz rfl)) (xld rfl (zg zz rfl) LKD) ?_
 refine zc (zw zz rfl rfl rfl (zg zz rfl)) (exec_c1 rfl (zg zz rfl)) (CS) (fun e x6 hx=> ?_)
 obtain ⟨rfl,HF⟩:=hx
 refine ⟨_,rfl, ?_⟩
 refine zv (zw zz rfl rfl rfl (zg zz rfl)) (exec_not rfl (zg zz rfl)) ?_
 refine zv rfl (exec_pickF rfl (zg zz rfl) (zg zz rfl)) ?_
 refine zv rfl (xas rfl (zg zz rfl)) ?_
 exact ze rfl (h _ _ (HF) rfl)
def rad11_ops:Array Oper:=(⟨_,rfl⟩:{o // some o=rgB Tryz.f16 11}).1
theorem rad11 {rb b1 b2 b3 b4:Nat} {x:MkV} {lv sv v2:Value} {w1 w2 w3:World} (S:World→Prop) (a:Act) (w:World) (Q:Exit→Act→World→Prop) (zz:a.tmps.size=65)
 (t0:a.tmps.getD 0 undef= .pointer (some ⟨rb,0,none⟩))
 (t2:a.tmps.getD 2 undef= .string x.nm)
 (t6:a.tmps.getD 6 undef= .int .i64 x.sd)
 (t8:a.tmps.getD 8 undef= .pointer (some ⟨b1,0,none⟩))
 (t10:a.tmps.getD 10 undef= .pointer (some ⟨b2,0,none⟩))
 (t11:a.tmps.getD 11 undef= .pointer (some ⟨b3,0,none⟩))
 (t12:a.tmps.getD 12 undef= .pointer (some ⟨b4,0,none⟩))
 (h0:S w.drew) (L0:∀W,S W→(Instr.loadAt 101 (.pointer (some ⟨rb,0+0,none⟩))).run Tryz.prog W= .ok (lv) W) (L1:∀W,S W→(Instr.loadAt 55 (.pointer (some ⟨b1,0,none⟩))).run Tryz.prog W= .ok (x.id.v) W) (L2:∀W,S W→(Instr.loadAt 68 (.pointer (some ⟨b2,0,none⟩))).run Tryz.prog W= .ok (x.v.v) W) (L3:∀W,S W→(Instr.loadAt 55 (.pointer (some ⟨b3,0,none⟩))).run Tryz.prog W= .ok (x.fr.v) W) (L4:∀W,S W→(Instr.loadAt 55 (.pointer (some ⟨b4,0,none⟩))).run Tryz.prog W= .ok (x.to.v) W) (HB:∀W,(Instr.build 109 #[(0,x.id.v),(1, .string x.nm),(2,x.v.v),(3,x.fr.v),(4,x.to.v),(5, .int .i64 x.sd)]).run Tryz.prog W= .ok x.a W) (E1:(Instr.buildSlice 101 1 #[(0,x.a)]).run Tryz.prog w.drew= .ok sv w1) (S1:S w1) (E2:(Builtin.append_ #[101,101] 101 #[lv,sv]).run Tryz.prog w1= .ok v2 w2) (S2:S w2) (E3:(Instr.storeAt 101 (.pointer (some ⟨rb,0+0,none⟩)) v2).run Tryz.prog w2= .ok () w3)
 (h:∀a' w',w'=w3→a'=(((((((((((((((a.put (some 49) (.pointer (some ⟨rb,0,none⟩))).put (some 50) (.pointer (some ⟨rb,0,none⟩))).put (some 51) (.pointer (some ⟨rb,0,none⟩))).put (some 52) (.pointer (some ⟨rb,0+0,none⟩))).put (some 53) (lv)).put (some 54) (x.id.v)).put (some 55) (.string x.nm)).put (some 56) (x.v.v)).put (some 57) (x.fr.v)).put (some 58) (x.to.v)).put (some 59) (.int .i64 x.sd)).put (some 60) (x.a)).put (some 61) (sv)).put (some 62) (v2)).put (some 63) (.pointer (some ⟨rb,0,none⟩))).put (some 64) (.pointer (some ⟨rb,0+0,none⟩))→Q .normal a' w') :
 (Code.region 11 rad11_ops true).wp Tryz.prog Q a w:=by
 refine x0 16 (fun w'=>S w') (h0) (fun hHeld=> ?_)
 refine xv 0 rfl rfl (fun w1 hw=>xmv rfl (zi t0 rfl)) hHeld ?_
 refine xv 1 rfl rfl (fun w1 hw=>xmv rfl (zi t0 rfl)) hHeld ?_
 refine xv 2 rfl rfl (fun w1 hw=>xnc rfl (zg zz rfl)) hHeld ?_
 refine xv 3 rfl rfl (fun w1 hw=>xfa rfl (zg zz rfl) (fg_103_0 _ _ _)) hHeld ?_
 refine xv 4 rfl rfl (fun w1 hw=>xld rfl (zg zz rfl) (L0 _ hw)) hHeld ?_
 refine xv 5 rfl rfl (fun w1 hw=>xld rfl (zi t8 rfl) (L1 _ hw)) hHeld ?_
 refine xv 6 rfl rfl (fun w1 hw=>xmv rfl (zi t2 rfl)) hHeld ?_
 refine xv 7 rfl rfl (fun w1 hw=>xld rfl (zi t10 rfl) (L2 _ hw)) hHeld ?_
 refine xv 8 rfl rfl (fun w1 hw=>xld rfl (zi t11 rfl) (L3 _ hw)) hHeld ?_
 refine xv 9 rfl rfl (fun w1 hw=>xld rfl (zi t12 rfl) (L4 _ hw)) hHeld ?_
 refine xv 10 rfl rfl (fun w1 hw=>xmv rfl (zi t6 rfl)) hHeld ?_
 refine xv 11 rfl rfl (fun w1 hw=>exec_build6 rfl (zg zz rfl) (zg zz rfl) (zg zz rfl) (zg zz rfl) (zg zz rfl) (zg zz rfl) (HB _)) hHeld ?_
 refine xr (v:=sv) 12 rfl rfl (exec_buildSlice rfl (zg zz rfl) E1) (fun _=>S1) (fun hHeld=> ?_)
 replace hHeld:=hHeld (by decide)
 refine xr (v:=v2) 13 rfl rfl (exec_append rfl (zg zz rfl) (zg zz rfl) E2) (fun _=>S2) (fun hHeld=> ?_)
 replace hHeld:=hHeld (by decide)
 refine xv 14 rfl rfl (fun w1 hw=>xnc rfl (zg zz rfl)) hHeld ?_
 refine xv 15 rfl rfl (fun w1 hw=>xfa rfl (zg zz rfl) (fg_103_0 _ _ _)) hHeld ?_
 refine xs 16 rfl rfl (exec_store rfl (zg zz rfl) (zg zz rfl) E3) (fun hne=>absurd rfl hne) (fun _=> ?_)
 exact xe rfl (h _ _ (rfl) rfl)
def lai16_ops:Array Oper:=(⟨_,rfl⟩:{o // some o=rgB Tryz.f4 16}).1
theorem lai16 {g o n c i ob:Nat} {x:OpM} {w1 w2:World} (a:Act) (w:World) (Q:Exit→Act→World→Prop) (zz:a.tmps.size=79)
 (t1:a.tmps.getD 1 undef= .slice (some ⟨g,o,none⟩) n c)
 (t13:a.tmps.getD 13 undef= .int .i64 (i:Int))
 (hi:i<n) (hm:n≤9223372036854775807) (LX:(Instr.loadAt 70 (.pointer (some ⟨g,o+106*i,none⟩))).run Tryz.prog w= .ok (.agg x.c.toArray) w) (EA:(Instr.alloc 70 true (.tuple #[])).run Tryz.prog w= .ok (.pointer (some ⟨ob,0,none⟩)) w1) (ES:(Instr.storeAt 70 (.pointer (some ⟨ob,0,none⟩)) (.agg x.c.toArray)).run Tryz.prog w1= .ok () w2)
 (h:∀a' w',w'=w2→a'=((((a.put (some 44) (.slice (some ⟨g,o,none⟩) n c)).put (some 45) (.int .i64 (i:Int))).put (some 46) (.pointer (some ⟨g,o+106*i,none⟩))).put (some 47) ((.agg x.c.toArray))).put (some 14) (.pointer (some ⟨ob,0,none⟩))→Q .normal a' w') :
 (Code.region 16 lai16_ops false).wp Tryz.prog Q a w:=by
 refine z0 rfl ?_
 refine zv rfl (xmv rfl (zi t1 rfl)) ?_
 refine zv rfl (xmv rfl (zi t13 rfl)) ?_
 refine zv rfl (xia rfl (zg zz rfl) (zg zz rfl) (ix_op hi hm _)) ?_
 refine zv rfl (xld rfl (zg zz rfl) LX) ?_
 refine zv (v:= .pointer (some ⟨ob,0,none⟩)) rfl (exec_alloc rfl EA) ?_
 refine zs rfl (exec_store rfl (zg zz rfl) (zg zz rfl) ES) ?_
 exact ze rfl (h _ _ (rfl) rfl)
def lai17_ops:Array Oper:=(⟨_,rfl⟩:{o // some o=rgB Tryz.f4 17}).1
theorem lai17 {mb rb ob:Nat} {x:MkV} {c1 c2:Int} {r:Bool} (S Fin:World→Prop) (a:Act) (w:World) (Q:Exit→Act→World→Prop) (zz:a.tmps.size=79)
 (t8:a.tmps.getD 8 undef= .pointer (some ⟨mb,0,none⟩))
 (t12:a.tmps.getD 12 undef= .pointer (some ⟨rb,0,none⟩))
 (t14:a.tmps.getD 14 undef= .pointer (some ⟨ob,0,none⟩))
 (h0:S w.drew) (hz:decide (c1≠c2)=r) (L0:∀W,S W→(Instr.loadAt 55 (.pointer (some ⟨ob,0+1,none⟩))).run Tryz.prog W= .ok (x.id.v) W) (L1:∀W,S W→(Instr.loadAt 9 (.pointer (some ⟨ob,0+100,none⟩))).run Tryz.prog W= .ok (.string x.nm) W) (L2:∀W,S W→(Instr.loadAt 68 (.pointer (some ⟨ob,0+101,none⟩))).run Tryz.prog W= .ok (x.v.v) W) (L3:∀W,S W→(Instr.loadAt 55 (.pointer (some ⟨ob,0+34,none⟩))).run Tryz.prog W= .ok (x.fr.v) W) (L4:∀W,S W→(Instr.loadAt 55 (.pointer (some ⟨ob,0+67,none⟩))).run Tryz.prog W= .ok (x.to.v) W) (L5:∀W,S W→(Instr.loadAt 3 (.pointer (some ⟨ob,0+105,none⟩))).run Tryz.prog W= .ok (.int .i64 x.sd) W) (CA:Calls Tryz.prog 15 #[.pointer (some ⟨mb,0,none⟩),x.id.v, .string x.nm,x.v.v,x.fr.v,x.to.v, .int .i64 x.sd] w.drew fun e w1=>e= .returned (.int .i64 c1)∧S w1∧Calls Tryz.prog 16 #[.pointer (some ⟨rb,0,none⟩),x.id.v, .string x.nm,x.v.v,x.fr.v,x.to.v, .int .i64 x.sd] w1 fun e w2=>e= .returned (.int .i64 c2)∧S w2∧Fin w2)
 (h:∀a' w',Fin w'→a'=((((((((((((((((((((((((((((a.put (some 48) (.pointer (some ⟨mb,0,none⟩))).put (some 49) (.pointer (some ⟨ob,0+1,none⟩))).put (some 50) (x.id.v)).put (some 51) (.pointer (some ⟨ob,0+100,none⟩))).put (some 52) (.string x.nm)).put (some 53) (.pointer (some ⟨ob,0+101,none⟩))).put (some 54) (x.v.v)).put (some 55) (.pointer (some ⟨ob,0+34,none⟩))).put (some 56) (x.fr.v)).put (some 57) (.pointer (some ⟨ob,0+67,none⟩))).put (some 58) (x.to.v)).put (some 59) (.pointer (some ⟨ob,0+105,none⟩))).put (some 60) (.int .i64 x.sd)).put (some 62) (.pointer (some ⟨rb,0,none⟩))).put (some 63) (.pointer (some ⟨ob,0+1,none⟩))).put (some 64) (x.id.v)).put (some 65) (.pointer (some ⟨ob,0+100,none⟩))).put (some 66) (.string x.nm)).put (some 67) (.pointer (some ⟨ob,0+101,none⟩))).put (some 68) (x.v.v)).put (some 69) (.pointer (some ⟨ob,0+34,none⟩))).put (some 70) (x.fr.v)).put (some 71) (.pointer (some ⟨ob,0+67,none⟩))).put (some 72) (x.to.v)).put (some 73) (.pointer (some ⟨ob,0+105,none⟩))).put (some 74) (.int .i64 x.sd)).put (some 61) (.int .i64 c1)).put (some 75) (.int .i64 c2)).put (some 76) (.bool r)→Q .normal a' w') :
 (Code.region 17 lai17_ops true).wp Tryz.prog Q a w:=by
 refine y0 (fun w'=>S w') (h0) (fun hHeld=> ?_)
 refine yv 0 rfl rfl (fun w1 hw=>xmv rfl (zi t8 rfl)) hHeld ?_
 refine yv 1 rfl rfl (fun w1 hw=>xfa rfl (zi t14 rfl) (fg_70_1 _ _ _)) hHeld ?_
 refine yv 2 rfl rfl (fun w1 hw=>xld rfl (zg zz rfl) (L0 _ hw)) hHeld ?_
 refine yv 3 rfl rfl (fun w1 hw=>xfa rfl (zi t14 rfl) (fg_70_4 _ _ _)) hHeld ?_
 refine yv 4 rfl rfl (fun w1 hw=>xld rfl (zg zz rfl) (L1 _ hw)) hHeld ?_
 refine yv 5 rfl rfl (fun w1 hw=>xfa rfl (zi t14 rfl) (fg_70_5 _ _ _)) hHeld ?_
 refine yv 6 rfl rfl (fun w1 hw=>xld rfl (zg zz rfl) (L2 _ hw)) hHeld ?_
 refine yv 7 rfl rfl (fun w1 hw=>xfa rfl (zi t14 rfl) (fg_70_2 _ _ _)) hHeld ?_
 refine yv 8 rfl rfl (fun w1 hw=>xld rfl (zg zz rfl) (L3 _ hw)) hHeld ?_
 refine yv 9 rfl rfl (fun w1 hw=>xfa rfl (zi t14 rfl) (fg_70_3 _ _ _)) hHeld ?_
 refine yv 10 rfl rfl (fun w1 hw=>xld rfl (zg zz rfl) (L4 _ hw)) hHeld ?_
 refine yv 11 rfl rfl (fun w1 hw=>xfa rfl (zi t14 rfl) (fg_70_6 _ _ _)) hHeld ?_
 refine yv 12 rfl rfl (fun w1 hw=>xld rfl (zg zz rfl) (L5 _ hw)) hHeld ?_
 refine yv 14 rfl rfl (fun w1 hw=>xmv rfl (zi t12 rfl)) hHeld ?_
 refine yv 15 rfl rfl (fun w1 hw=>xfa rfl (zi t14 rfl) (fg_70_1 _ _ _)) hHeld ?_
 refine yv 16 rfl rfl (fun w1 hw=>xld rfl (zg zz rfl) (L0 _ hw)) hHeld ?_
 refine yv 17 rfl rfl (fun w1 hw=>xfa rfl (zi t14 rfl) (fg_70_4 _ _ _)) hHeld ?_
 refine yv 18 rfl rfl (fun w1 hw=>xld rfl (zg zz rfl) (L1 _ hw)) hHeld ?_
 refine yv 19 rfl rfl (fun w1 hw=>xfa rfl (zi t14 rfl) (fg_70_5 _ _ _)) hHeld ?_
 refine yv 20 rfl rfl (fun w1 hw=>xld rfl (zg zz rfl) (L2 _ hw)) hHeld ?_
 refine yv 21 rfl rfl (fun w1 hw=>xfa rfl (zi t14 rfl) (fg_70_2 _ _ _)) hHeld ?_
 refine yv 22 rfl rfl (fun w1 hw=>xld rfl (zg zz rfl) (L3 _ hw)) hHeld ?_
 refine yv 23 rfl rfl (fun w1 hw=>xfa rfl (zi t14 rfl) (fg_70_3 _ _ _)) hHeld ?_
 refine yv 24 rfl rfl (fun w1 hw=>xld rfl (zg zz rfl) (L4 _ hw)) hHeld ?_
 refine yv 25 rfl rfl (fun w1 hw=>xfa rfl (zi t14 rfl) (fg_70_6 _ _ _)) hHeld ?_
 refine yv 26 rfl rfl (fun w1 hw=>xld rfl (zg zz rfl) (L5 _ hw)) hHeld ?_
 refine yc 13 rfl rfl (exec_c7 rfl (zg zz rfl) (zg zz rfl) (zg zz rfl) (zg zz rfl) (zg zz rfl) (zg zz rfl) (zg zz rfl)) (CA) (fun e x13 hx=> ?_)
 obtain ⟨rfl,S0,CB⟩:=hx
 refine ⟨_,rfl,S0,fun hHeld=> ?_⟩
 refine yc 27 rfl rfl (exec_c7 rfl (zg zz rfl) (zg zz rfl) (zg zz rfl) (zg zz rfl) (zg zz rfl) (zg zz rfl) (zg zz rfl)) (CB) (fun e x27 hx=> ?_)
 obtain ⟨rfl,S1,HF⟩:=hx
 refine ⟨_,rfl,S1,fun hHeld=> ?_⟩
 refine yv (v:= .bool r) 28 rfl rfl (fun w1 hw=>ex_neqE rfl (zg zz rfl) (zg zz rfl) hz) hHeld ?_
 exact ye rfl (h _ _ (HF) rfl)
end Go.Proofs.YtifendlpeebofabGreatDoor
namespace Go.Proofs.YtifendlpeebofabGreatDoor
open Go.RowKit Sq
theorem idN_inj {a b:Int}:idN a=idN b↔a=b:=by simp [idN]
theorem idN_zero:idN 0=zId:=rfl
theorem idN_ok {n:Int} (h: -9223372036854775808≤n∧n≤9223372036854775807):(idN n).ok:=⟨zId_ok.l,h.1,h.2⟩
def seg (a n:Nat):List Elt:=(List.range n).map fun (i:Nat)=>(⟨idN ((a+i+1:Nat):Int),idN ((a+i:Nat):Int),true⟩:Elt)
theorem seg_len (a n:Nat):(seg a n).length=n:=by simp [seg]
theorem seg_succ (a n:Nat):seg a (n+1)=seg a n++[⟨idN ((a+n+1:Nat):Int),idN ((a+n:Nat):Int),true⟩]:=by
 unfold seg
 rw [List.range_succ,List.map_append]
 rfl
theorem seg_app (a m:Nat):∀n,seg a (m+n)=seg a m++seg (a+m) n
 |0=>by simp [seg]
 |n+1=>by rw [←Nat.add_assoc,seg_succ,seg_app a m n,seg_succ,List.append_assoc,Nat.add_assoc a m n]
theorem seg_one (a:Nat):seg a 1=[⟨idN ((a+1:Nat):Int),idN ((a:Nat):Int),true⟩]:=by simp [seg]
theorem seg_mem {a n:Nat} {y:Elt} (h:y∈seg a n):∃i,i<n∧y.id=idN ((a+i+1:Nat):Int):=by
 obtain ⟨i,hi,rfl⟩:=List.mem_map.1 h
 exact ⟨i,List.mem_range.1 hi,rfl⟩
theorem seg_not {a n:Nat} {p:Int} (h:p≤a∨(a:Int)+n<p):∀y∈seg a n,y.id≠idN p:=fun y hy e=>by
 obtain ⟨i,hi,q⟩:=seg_mem hy
 rw [q,idN_inj] at e
 omega
theorem seg_cut {a n p:Nat} (h0:a<p) (h1:p≤a+n):seg a n=seg a (p-a-1)++(⟨idN (p:Int),idN ((p-1:Nat):Int),true⟩:Elt)::seg p (a+n-p):=by
 have e:n=(p-a-1)+(1+(a+n-p)):=by omega
 rw [show seg a n=seg a ((p-a-1)+(1+(a+n-p))) by rw [←e],seg_app,seg_app,seg_one]
 rw [show a+(p-a-1)=p-1 by omega,show p-1+1=p by omega]
 rfl
theorem ahead_mid {A B:List Elt} {e:Elt} (h:∀y∈A,y.id≠e.id):aheadE (A++e::B) false e.id=(A.length:Int):=by
 unfold aheadE
 rw [if_pos (hasE_iff.2 ⟨e,by simp,rfl⟩),takeWhile_mid (fun y hy=>by simp [h y hy]) (by simp)]
 congr 1
 rw [List.countP_eq_length]
 intro y _
 rfl
theorem ahead_seg {k p:Nat} (h0:0<p) (h1:p≤k):aheadE (seg 0 k) false (idN (p:Int))=(p:Int)-1:=by
 rw [seg_cut h0 (by omega)]
 have:=ahead_mid (A:=seg 0 (p-0-1)) (B:=seg p (0+k-p)) (e:=⟨idN (p:Int),idN ((p-1:Nat):Int),true⟩) (seg_not (.inr (by omega)))
 rw [this,seg_len]
 omega
theorem has_seg {k p:Nat} (h0:0<p) (h1:p≤k):hasE (seg 0 k) (idN (p:Int))=true:=by
 rw [seg_cut h0 (by omega)]
 exact hasE_iff.2 ⟨_,List.mem_append.2 (.inr (List.mem_cons_self ..)),rfl⟩
theorem hasnt {E:List Elt} {k:IdK} (h:∀y∈E,y.id≠k):hasE E k=false:=by
 cases e:hasE E k with
 |false=>rfl
 |true=>obtain ⟨y,hy,q⟩:=hasE_iff.1 e;exact absurd q (h y hy)
theorem ins_seg (k:Nat):insC (seg 0 k) (idN ((k:Int)+1)) (idN (k:Int))=0∧insR (seg 0 k) (idN ((k:Int)+1)) (idN (k:Int))=seg 0 (k+1):=by
 have c:insC (seg 0 k) (idN ((k:Int)+1)) (idN (k:Int))=0:=by
  unfold insC
  rw [if_neg (show ¬(idN ((k:Int)+1)).n<1 by show ¬(k:Int)+1<1;omega),if_neg (by rw [hasnt (seg_not (.inr (by omega)))];decide),if_neg]
  rintro ⟨h1,h2⟩
  rcases Nat.eq_zero_or_pos k with rfl|hk
  ·exact h1 idN_zero
  ·rw [has_seg hk (Nat.le_refl _)] at h2;cases h2
 refine ⟨c, ?_⟩
 unfold insR
 rw [if_pos c,seg_succ,Nat.zero_add]
 unfold putE
 rcases Nat.eq_zero_or_pos k with rfl|hk
 ·rw [if_pos (by exact idN_zero)];rfl
 ·rw [if_neg (fun e=>by rw [←idN_zero,idN_inj] at e;omega)]
  rw [show k=(k-1)+1 by omega,seg_succ,Nat.zero_add]
  have:=insE_mid (A:=seg 0 (k-1)) (B:=[]) (e:=⟨idN ((k-1+1:Nat):Int),idN ((k-1:Nat):Int),true⟩) (x:=⟨idN ((k-1+1:Nat)+1),idN ((k-1+1:Nat):Int),true⟩) (seg_not (.inr (by omega)))
  rw [this]
  simp
def szP (n:Int):Int:=if Int.tmod n ((13:Nat):Int)<0 then -(Int.tmod n ((13:Nat):Int)) else Int.tmod n ((13:Nat):Int)
theorem szP_bd (n:Int):0≤szP n∧szP n≤12:=by
 have l1: -((13:Nat):Int)<Int.tmod n ((13:Nat):Int):=by have:=Int.lt_tmod_of_pos n (show (0:Int)<((13:Nat):Int) by omega);omega
 have l2:Int.tmod n ((13:Nat):Int)<((13:Nat):Int):=Int.tmod_lt_of_pos n (by omega)
 unfold szP
 split <;>omega
theorem size_any (n:Int) (w:World):Calls Tryz.prog 5 #[.int .i64 n] w fun e w'=>e= .returned (.int .i64 (szP n))∧w'=w:=by
 have l1: -((13:Nat):Int)<Int.tmod n ((13:Nat):Int):=by have:=Int.lt_tmod_of_pos n (show (0:Int)<((13:Nat):Int) by omega);omega
 have l2:Int.tmod n ((13:Nat):Int)<((13:Nat):Int):=Int.tmod_lt_of_pos n (by omega)
 unfold szP
 obtain ⟨r,hr⟩:∃r,Int.tmod n ((13:Nat):Int)=r:=⟨_,rfl⟩
 have HR:=hidMk hr
 rw [hr] at l1 l2 ⊢
 clear hr
 by_cases hz:r<0
 ·rw [if_pos hz]
  go_enter Tryz.func5,Tryz.ntmps5
  go_wp2_with (first|(refine wpList_val rfl (ex_rem (m:=13) (by omega) HR.out rfl rfl rfl) ?_)|fail)
  go_ret
  refine ⟨?_,rfl⟩
  first|rfl|(congr 2;go_num)|(simp;go_num)|(show Ending.returned _=_;congr 2;unfold Go.RowKit.wrap64;omega)
 ·rw [if_neg hz]
  go_enter Tryz.func5,Tryz.ntmps5
  go_wp2_with (first|(refine wpList_val rfl (ex_rem (m:=13) (by omega) HR.out rfl rfl rfl) ?_)|fail)
  go_ret
  exact ⟨rfl,rfl⟩
theorem gr_new {w w1 w2:World} {s:Sx} {m:Mx} (hs:SeqAt w1 s []) (c1:∀j∈s.bl,w.heap.size≤j) (b1:Below w.heap.size w w1) (hm:MkAt w2 w1.heap.size m) (hL:m.L=[]) (c2:∀j,m.bl j→w1.heap.size≤j) (b2:Below w1.heap.size w1 w2):Gr w s.sb m.mb (seg 0 0) [] w2 :=
 ⟨⟨s,m,rfl,rfl,hs.below b2,⟨hm.cell,hm.lo.mono b1.size,hm.ok,hm.map,hm.n⟩,hL,c1,fun j hj=>Nat.le_trans b1.size (c2 j hj),fun j hj hq=>by
   have:=hs.lt j hj
   have:=c2 j hq
   omega⟩,b1.trans (b2.mono b1.size)⟩
end Go.Proofs.YtifendlpeebofabGreatDoor
namespace Go.Proofs.YtifendlpeebofabGreatDoor
open Go.RowKit Go.Shelf Sq
attribute [local go_sem] Oper.semAt_some
def RR:RowT MkV:=⟨MkV.c,MkV.ok,105,184,109,101,zMk⟩
theorem RR_is:RR.Is:=⟨zMk_ok,fun _ h=>MkV.len h,MkV.one,Tryz.underlying101,by kernel_rfl,⟨_,Tryz.underlying109,rfl⟩,by decide,by decide⟩
structure Rx where
 rb:Nat
 lv:Value
 L:List MkV
structure RkAt (w:World) (base:Nat) (r:Rx):Prop where
 cell:w.heap[r.rb]? =some (.cells #[r.lv] 103 (0,0))
 row:RR.Own w base r.lv r.L
 ok:∀x∈r.L,x.ok
 b:base≤r.rb
 n:r.L.length≤900000000000
def Rx.bl (r:Rx) (j:Nat):Prop:=j=r.rb∨r.lv.ownBlock=some j
section
variable {w w' W:World} {base:Nat} {r:Rx}
theorem RkAt.below (h:RkAt w base r) (b:Below w.heap.size w w'):RkAt w' base r :=
 ⟨(b.block _ (Array.getElem?_eq_some_iff.1 h.cell).1).trans h.cell,h.row.below b,h.ok,h.b,h.n⟩
theorem RkAt.lt (h:RkAt w base r) {j:Nat} (hj:r.bl j):j<w.heap.size:=by
 rcases hj with rfl|hj
 ·exact (Array.getElem?_eq_some_iff.1 h.cell).1
 ·exact h.row.lt hj
theorem RkAt.keep (h:RkAt w base r) (hk:∀j,r.bl j→w'.heap[j]? =w.heap[j]?):RkAt w' base r :=
 ⟨(hk _ (.inl rfl)).trans h.cell,h.row.keep (fun j hj=>hk j (.inr hj)),h.ok,h.b,h.n⟩
theorem RkAt.ge (h:RkAt w base r) {j:Nat} (hj:r.bl j):base≤j:=by
 rcases hj with rfl|hj
 ·exact h.b
 ·exact (h.row.cells hj).1
theorem RkAt.sl (h:RkAt w base r):∃a c,r.lv= .slice a r.L.length c∧RR.At w a r.L:=by
 obtain ⟨a,c,e,hat,_⟩:=h.row.open RR_is h.ok
 exact ⟨a,c,e,hat⟩
theorem ld_rk {lv:Value} {b:Nat} (h:w.heap[b]? =some (.cells #[lv] 103 (0,0))) (hl:∃a n c,lv= .slice a n c):(Instr.loadAt 101 (.pointer (some ⟨b,0+0,none⟩))).run Tryz.prog w= .ok lv w:=by
 obtain ⟨a,n,c,rfl⟩:=hl
 have hc:w.cell? ⟨b,0,none⟩=some (.slice a n c):=(cell_of_row w b 0 _ _ _ h).trans rfl
 go_simp
theorem RkAt.ldl (h:RkAt w base r):(Instr.loadAt 101 (.pointer (some ⟨r.rb,0+0,none⟩))).run Tryz.prog w= .ok r.lv w:=by
 obtain ⟨a,c,e,_⟩:=h.sl
 exact ld_rk h.cell ⟨a,_,c,e⟩
theorem rknew_any (w:World):Calls Tryz.prog 14 #[] w fun e w'=> ∃r,e= .returned (.pointer (some ⟨r.rb,0,none⟩))∧RkAt w' w.heap.size r∧r.L=[]∧Below w.heap.size w w':=by
 go_enter Tryz.func14,Tryz.ntmps14
 go_wp2
 go_ret
 exact ⟨⟨w.heap.size, .slice none 0 0,[]⟩,rfl,⟨heap_alloc_new _ _,RowT.own_nil _ _ _,by simp,Nat.le_refl _,by simp⟩,rfl,(Below.refl _ _).alloc (Nat.le_refl _) _⟩
def FdI (L:List MkV) (k:IdK) (z:Int):Prop:=(z= -1∧∀x∈L,x.id≠k)∨∃(i:Nat) (x:MkV),z=i∧L[i]? =some x∧x.id=k∧∀j y,j<i→L[j]? =some y→y.id≠k
theorem FdI.has {L:List MkV} {k:IdK} {z:Int} (h:FdI L k z):decide (z≥0)=hasM L k:=by
 rcases h with ⟨rfl,h⟩|⟨i,x,rfl,hx,e,_⟩
 ·rw [show hasM L k=false from by
   cases q:hasM L k with
   |false=>rfl
   |true=>obtain ⟨x,hx,e⟩:=hasM_iff.1 q;exact absurd e (h x hx)]
  decide
 ·rw [hasM_iff.2 ⟨x,List.mem_of_getElem? hx,e⟩]
  exact decide_eq_true (by omega)
theorem rkfind_any (h:RkAt w base r) {k:IdK} (hk:k.ok):Calls Tryz.prog 50 #[.pointer (some ⟨r.rb,0,none⟩),k.v] w fun e w'=> ∃z,e= .returned (.int .i64 z)∧FdI r.L k z∧Below w.heap.size w w':=by
 have E1:=run_boxM (P:=Tryz.prog) 55 k.v w
 have b1:Below w.heap.size w (w.alloc (.cells k.v.cells 55)):=(Below.refl _ _).alloc (Nat.le_refl _) _
 have i1:IdAt (w.alloc (.cells k.v.cells 55)) w.heap.size k:=heap_alloc_new _ _
 obtain ⟨w1,hw1⟩:∃w1,w.alloc (.cells k.v.cells 55)=w1:=⟨_,rfl⟩
 rw [hw1] at E1 b1 i1
 have HH:=hidMk (fun (W:World) (b:Below w.heap.size w W)=>h.below b)
 obtain ⟨la,lc,el,hat⟩:=h.sl
 have HAT:=hidMk (fun (W:World) (b:Below w.heap.size w W)=>hat.below b)
 have EL:=hidMk el
 have OK:=hidMk h.ok
 obtain ⟨n,hn⟩:∃n,r.L.length=n:=⟨_,rfl⟩
 have HN:=hidMk (show r.L.length=n∧n≤900000000000 from ⟨hn,by rw [←hn];exact h.n⟩)
 have I0:=hidMk (And.intro b1 i1)
 clear h hat el hw1 b1 i1 hn
 show Calls Tryz.prog 50 #[.pointer (some ⟨r.rb,0,none⟩), .agg k.c.toArray] w _
 go_enter Tryz.func50,Tryz.ntmps50
 go_upto_region 0 with fail
 refine rfd0 (k:=k) (b3:=w.heap.size) (w1:=w1) _ w _ rfl rfl E1 ?_
 intro a' w3 hw ha
 obtain rfl:w1=w3:=hw.symm
 subst ha
 simp only [Act.put,qsA,qsB,qsC]
 clear E1
 go_wp2
 go_loopw [5] (fun v5 wr=> ∃i:Nat,v5= .int .i64 (i:Int)∧i≤n∧Hid ((∀j y,j<i→r.L[j]? =some y→y.id≠k)∧Below w.heap.size w wr∧IdAt wr w.heap.size k)) (fun v5 _=>n-(intOf v5).toNat)
 case atStart=>exact ⟨0,rfl,Nat.zero_le _,fun j y hj=>by omega,I0.out.1,I0.out.2⟩
 case round =>
  clear I0
  obtain ⟨i,rfl,hi,HI⟩:=hrel
  have LL:=(HH.out wr HI.out.2.1).ldl
  rw [EL.out,HN.out.1] at LL
  obtain ⟨t,ht⟩:∃t,decide ((i:Int)<(n:Int))=t:=⟨_,rfl⟩
  go_upto_region 2 with fail
  refine rfd2 (rb:=r.rb) (n:=n) (c:=lc) (i:=i) (la:=la) (r:=t) _ wr _ rfl rfl rfl ht LL ?_
  intro a' w3 hw ha
  obtain rfl:wr=w3:=hw.symm
  subst ha
  simp only [Act.put,qsA,qsB,qsC]
  cases t with
  |false =>
   have hin:i=n:=by have:=of_decide_eq_false ht;omega
   subst hin
   clear LL
   go_wp2
   go_ret
   refine ⟨-1,rfl, .inl ⟨rfl,fun x hx=> ?_⟩,HI.out.2.1⟩
   obtain ⟨j,hj⟩:=List.mem_iff_getElem?.1 hx
   exact HI.out.1 j x (by have:=(List.getElem?_eq_some_iff.1 hj).1;have:=HN.out.1;omega) hj
  |true =>
   have hlt:i<n:=by have:=of_decide_eq_true ht;omega
   have hn64:n≤9223372036854775807:=by have:=HN.out;omega
   obtain ⟨x,hx⟩:∃x,r.L[i]? =some x:=⟨_,List.getElem?_eq_getElem (by have:=HN.out.1;omega)⟩
   have okx:=OK.out x (List.mem_of_getElem? hx)
   obtain ⟨g,o,rfl,hgl,hr⟩:=(HAT.out wr HI.out.2.1).get (i:=i) (by have:=HN.out.1;omega)
   have hr':wr.rangeAt g (o+105*i) x.c:=by
        have e:r.L[i]'(by have:=HN.out.1;omega)=x:=(List.getElem?_eq_some_iff.1 hx).2
        rw [e] at hr;exact hr
   obtain ⟨z,hz⟩:∃z,decide (x.id=k)=z:=⟨_,rfl⟩
   have HX:=hidMk hx
   have MS:n-(((i+1:Nat):Int)).toNat<n-((i:Nat):Int).toNat:=by simp only [Int.toNat_natCast];omega
   have HMS:=hidMk MS
   clear hr hx MS LL
   go_upto_region 4 with fail
   refine rfd4 (rb:=r.rb) (b3:=w.heap.size) (g:=g) (o:=o) (n:=n) (c:=lc) (i:=i) (q:=x.id) (k:=k) (r:=z) (fun W=>Below wr.heap.size wr W) _ wr _ rfl rfl rfl rfl ((Below.refl _ _).drew) hlt hn64 okx.i hk hz (fun W b=>by have:=(HH.out W (HI.out.2.1.trans (b.mono HI.out.2.1.size))).ldl;rw [EL.out,HN.out.1] at this;exact this) (fun W b=>mk_id okx (rangeAt_keep hr' (b.block g hgl))) (fun W b=>load_id hk (HI.out.2.2.below b)) ?_
   intro a' w4 bw ha
   subst ha
   simp only [Act.put,qsA,qsB,qsC]
   have B4:=hidMk (HI.out.2.1.trans (bw.mono HI.out.2.1.size))
   cases z with
   |true =>
    have OLD:=hidMk HI.out.1
    clear hr' bw HI
    go_wp2
    go_ret
    exact ⟨_,rfl, .inr ⟨i,x,rfl,HX.out,of_decide_eq_true hz,OLD.out⟩,B4.out⟩
   |false =>
    have NI:Hid ((∀j y,j<i+1→r.L[j]? =some y→y.id≠k)∧Below w.heap.size w w4∧IdAt w4 w.heap.size k):=⟨fun j y hj hy=>by
     by_cases e:j=i
     ·subst e
      rw [HX.out] at hy
      cases hy
      exact of_decide_eq_false hz
     ·exact HI.out.1 j y (by omega) hy,B4.out,HI.out.2.2.below bw⟩
    clear hr' bw HI
    go_wp2
    rw [show ((i:Int)+1)=((i+1:Nat):Int) by omega]
    exact ⟨⟨i+1,rfl,hlt,NI⟩,HMS.out⟩
end
def RkN (r:Rx) (base:Nat) (L':List MkV) (w w':World):Prop:=∃r',RkAt w' base r'∧r'.rb=r.rb∧r'.L=L'∧(r'.lv.ownBlock=r.lv.ownBlock∨∀j,r'.lv.ownBlock=some j→w.heap.size≤j)∧Tch (fun j=>r.bl j) w w'
theorem wkeyR (s:ByteArray) (w:World):Calls Tryz.prog 51 #[.string s] w fun e w'=>e= .returned (.bool (keyB s))∧Below w.heap.size w w':=(rkey_any s w).mono fun e w' q=>⟨q.1,by rw [q.2];exact Below.refl _ _⟩
theorem RkN.same {r:Rx} {base:Nat} {w W:World} (h:RkAt w base r) (b:Below w.heap.size w W):RkN r base r.L w W:=⟨r,h.below b,rfl,rfl, .inl rfl,tch_below b _⟩
theorem RkN.from {r:Rx} {base:Nat} {L':List MkV} {w W W':World} (h:RkN r base L' W W') (t:Tch (fun j=>r.bl j) w W) (hs:w.heap.size≤W.heap.size):RkN r base L' w W':=by
 obtain ⟨r',a,b,c,d,e⟩:=h
 exact ⟨r',a,b,c,d.imp id (fun q j hj=>Nat.le_trans hs (q j hj)),t.trans e⟩
def RAddS (m:Rx) (x:MkV) (b1 b2 b3 b4:Nat) (W:World):Prop:=W.heap[m.rb]? =some (.cells #[m.lv] 103 (0,0))∧IdAt W b1 x.id∧VaAt W b2 x.v∧IdAt W b3 x.fr∧IdAt W b4 x.to
section
variable {w W:World} {base:Nat} {m:Rx}
theorem RAddS.below {x:MkV} {b1 b2 b3 b4:Nat} {W':World} (h:RAddS m x b1 b2 b3 b4 W) (b:Below W.heap.size W W'):RAddS m x b1 b2 b3 b4 W' :=
 ⟨(b.block _ (Array.getElem?_eq_some_iff.1 h.1).1).trans h.1,h.2.1.below b,h.2.2.1.below b,h.2.2.2.1.below b,h.2.2.2.2.below b⟩
theorem st_rk {lv:Value} {b:Nat} {a:Option Addr} {n c:Nat} (h:W.heap[b]? =some (.cells #[lv] 103 (0,0))) (hl:∃a n c,lv= .slice a n c):∃W',(Instr.storeAt 101 (.pointer (some ⟨b,0+0,none⟩)) (.slice a n c)).run Tryz.prog W= .ok () W'∧W'.heap[b]? =some (.cells #[.slice a n c] 103 (0,0))∧Tch (fun j=>j=b) W W':=by
 obtain ⟨a0,n0,c0,rfl⟩:=hl
 have c2:W.cell? ⟨b,0,none⟩=some (.slice a0 n0 c0):=(cell_of_row W b 0 _ _ _ h).trans rfl
 have f2:=frozen_of_row W b 0 _ _ h
 exact ⟨W.setCell ⟨b,0,none⟩ (.slice a n c),by go_simp,Go.heap_setCell_same _ _ 0 _ _ _ h,⟨rfl,rfl,rfl,by simp [World.setCell],fun j _ hj=>Go.heap_setCell_other _ _ _ _ hj⟩⟩
theorem radd_list (h:RkAt W base m) (hb:base≤W.heap.size) {x:MkV} (hx:x.ok) (hn:m.L.length+1≤900000000000) {b1 b2 b3 b4:Nat} (hS:RAddS m x b1 b2 b3 b4 W) :
 ∃sv w1 v2 w2 w3,(Instr.buildSlice 101 1 #[(0,x.a)]).run Tryz.prog W= .ok sv w1∧RAddS m x b1 b2 b3 b4 w1∧(Builtin.append_ #[101,101] 101 #[m.lv,sv]).run Tryz.prog w1= .ok v2 w2∧RAddS m x b1 b2 b3 b4 w2∧(Instr.storeAt 101 (.pointer (some ⟨m.rb,0+0,none⟩)) v2).run Tryz.prog w2= .ok () w3∧RkN m base (m.L++[x]) W w3:=by
 obtain ⟨sv,w1,v2,w2,e1,e2,o,bl1,z1,g,q⟩:=RowT.run_push RR_is W base m.lv m.L x h.row hx (by unfold maxLen;omega) (by show _*184≤_;omega) hb
 have okx:∀y∈m.L++[x],y.ok:=fun y hy=>by
  rcases List.mem_append.1 hy with hy|hy
  ·exact h.ok y hy
  ·rw [List.mem_singleton.1 hy];exact hx
 have S1:=hS.below bl1
 have own:∀j,m.lv.ownBlock=some j→∃c,w1.heap[j]? =some (.cells c 109 (0,0)):=fun j hj=>((h.below bl1).row.cells hj).2
 have keep:∀{j:Nat} {c:Array Value} {t:TypeId} {f:Nat × Nat},w1.heap[j]? =some (.cells c t f)→t≠109→w2.heap[j]? =some (.cells c t f):=fun hj ht =>
  (g.block _ (Array.getElem?_eq_some_iff.1 hj).1 (fun e=>by
   obtain ⟨c2,hc2⟩:=own _ e.symm
   exact ht (two_typesM hj hc2))).trans hj
 have S2:RAddS m x b1 b2 b3 b4 w2:=⟨keep S1.1 (by decide),keep S1.2.1 (by decide),keep S1.2.2.1 (by decide),keep S1.2.2.2.1 (by decide),keep S1.2.2.2.2 (by decide)⟩
 obtain ⟨a2,c2,ev,_⟩:=o.open RR_is okx
 obtain ⟨a0,c0,e0,_⟩:=h.sl
 obtain ⟨w3,e3,n3,t3⟩:=st_rk (a:=a2) (n:=(m.L++[x]).length) (c:=c2) S2.1 ⟨a0,_,c0,e0⟩
 have n2:v2.ownBlock≠some m.rb:=fun e=>by
  obtain ⟨_,c,hc⟩:=o.cells e
  have:=two_typesM hc S2.1
  revert this;decide
 refine ⟨sv,w1,v2,w2,w3,e1,S1,e2,S2,by rw [ev];exact e3,⟨m.rb,v2,m.L++[x]⟩,⟨by rw [ev];exact n3,o.keep (fun j hj=>t3.block j (o.lt hj) (fun e=>n2 (by rw [←e];exact hj))),okx,h.b,by simp only [List.length_append,List.length_singleton];exact hn⟩,rfl,rfl,q.imp id (fun q j hj=>by
  simp only at hj
  rw [q] at hj;injection hj with hj;have:=bl1.size;omega), ?_⟩
 have t1:Tch (fun j=>m.bl j) W w1:=tch_below bl1 _
 have t2:Tch (fun j=>m.bl j) w1 w2:=⟨g.os,g.tape,g.output,g.size,fun j hj hO=>g.block j hj (fun e=>hO (.inr e.symm))⟩
 exact (t1.trans t2).trans (t3.mono (fun j _ e=> .inl e))
theorem radd_any (h:RkAt w base m) (hb:base≤w.heap.size) {x:MkV} (hx:x.ok) (hn:m.L.length+1≤900000000000) :
 Calls Tryz.prog 16 #[.pointer (some ⟨m.rb,0,none⟩),x.id.v, .string x.nm,x.v.v,x.fr.v,x.to.v, .int .i64 x.sd] w fun e w'=>e= .returned (.int .i64 (addC m.L x))∧RkN m base (addR m.L x) w w':=by
 obtain ⟨wx,ewx,i1,i2,i3,i4,bx,zx⟩:=four_boxes w x.id x.v x.fr x.to
 have HX:=hidMk (And.intro i1 (And.intro i2 (And.intro i3 i4)))
 have HH:=hidMk h
 have HK:=hidMk hx
 have HB:=hidMk hb
 have HNN:=hidMk hn
 have BX:=hidMk bx
 have ZX:=hidMk zx
 have hlt:m.rb<w.heap.size:=(Array.getElem?_eq_some_iff.1 h.cell).1
 have HLT:=hidMk hlt
 have HC:Hid (addC m.L x=if x.id.n<1 then 2 else if x.sd<0 then 2 else if x.sd>3 then 2 else if hasM m.L x.id=true then 5 else if keyB x.nm=false then 41 else if x.v.right=false then 30 else if x.v.k≤7 then 0 else 30):=rfl
 have HR:Hid (addR m.L x=if addC m.L x=0 then m.L++[x] else m.L):=rfl
 have HW:=hidMk ewx
 have SAME:Hid (∀(W:World) (c:Int),Below w.heap.size w W→addC m.L x=c→c≠0→(Ending.returned (.int .i64 c):Ending)= .returned (.int .i64 (addC m.L x))∧RkN m base (addR m.L x) w W):=fun W c b e hc=>by
  refine ⟨by rw [e], ?_⟩
  rw [HR.out,if_neg (by rw [e];exact hc)]
  exact RkN.same h b
 clear i1 i2 i3 i4 bx zx h hx hb hn hlt ewx
 show Calls Tryz.prog 16 #[.pointer (some ⟨m.rb,0,none⟩), .agg x.id.c.toArray, .string x.nm, .agg x.v.c.toArray, .agg x.fr.c.toArray, .agg x.to.c.toArray, .int .i64 x.sd] w _
 generalize addR m.L x=rr at *
 generalize addC m.L x=cc at *
 go_enter Tryz.func16,Tryz.ntmps16
 go_upto_region 3 with fail
 rw [←HW.out]
 cases hn1:decide (x.id.n<1) with
 |true =>
  have HN:=hidMk hn1
  clear hn1
  refine rad3a (k:=x.id) (b1:=w.heap.size) _ wx _ rfl rfl HN.out (fun W e=>by rw [e,Nat.zero_add];exact ld_n HK.out.i HX.out.1) ?_
  intro a' w2 hw ha
  obtain rfl:wx=w2:=hw.symm
  subst ha
  simp only [Act.put,qsA,qsB,qsC]
  clear HX
  go_wp2
  go_ret
  exact SAME.out _ _ BX.out (by rw [HC.out,if_pos (of_decide_eq_true HN.out)]) (by decide)
 |false =>
  have HN:=hidMk hn1
  clear hn1
  cases hs0:decide (x.sd<0) with
  |true =>
   have H0:=hidMk hs0
   clear hs0
   refine rad3b (k:=x.id) (sd:=x.sd) (b1:=w.heap.size) _ wx _ rfl rfl rfl HN.out H0.out (fun W e=>by rw [e,Nat.zero_add];exact ld_n HK.out.i HX.out.1) ?_
   intro a' w2 hw ha
   obtain rfl:wx=w2:=hw.symm
   subst ha
   simp only [Act.put,qsA,qsB,qsC]
   clear HX
   go_wp2
   go_ret
   exact SAME.out _ _ BX.out (by rw [HC.out,if_neg (of_decide_eq_false HN.out),if_pos (of_decide_eq_true H0.out)]) (by decide)
  |false =>
   have H0:=hidMk hs0
   clear hs0
   obtain ⟨r3,hr3⟩:∃r,decide (x.sd>3)=r:=⟨_,rfl⟩
   have H3:=hidMk hr3
   clear hr3
   refine rad3c (k:=x.id) (sd:=x.sd) (b1:=w.heap.size) (r:=r3) _ wx _ rfl rfl rfl HN.out H0.out H3.out (fun W e=>by rw [e,Nat.zero_add];exact ld_n HK.out.i HX.out.1) ?_
   intro a' w2 hw ha
   obtain rfl:wx=w2:=hw.symm
   subst ha
   simp only [Act.put,qsA,qsB,qsC]
   cases r3 with
   |true =>
    clear HX
    go_wp2
    go_ret
    exact SAME.out _ _ BX.out (by rw [HC.out,if_neg (of_decide_eq_false HN.out),if_neg (of_decide_eq_false H0.out),if_pos (of_decide_eq_true H3.out)]) (by decide)
   |false =>
    have C0:Hid (cc=if hasM m.L x.id=true then 5 else if keyB x.nm=false then 41 else if x.v.right=false then 30 else if x.v.k≤7 then 0 else 30):=by
        show cc=_
        rw [HC.out,if_neg (of_decide_eq_false HN.out),if_neg (of_decide_eq_false H0.out),if_neg (of_decide_eq_false H3.out)]
    have HSD:Hid (0≤x.sd∧x.sd≤3):=by
        have h1:=of_decide_eq_false H0.out
        have h2:=of_decide_eq_false H3.out
        show 0≤x.sd∧x.sd≤3
        omega
    clear HC H3 H0
    go_upto_region 5 with fail
    obtain ⟨hz0,hhz⟩:∃h,hasM m.L x.id=h:=⟨_,rfl⟩
    have RF:=hidMk ((rkfind_any (HH.out.below BX.out) HK.out.i).mono (fun e w' q=>q))
    refine rad5 (k:=x.id) (b1:=w.heap.size) (rb:=m.rb) (r:=hasM m.L x.id) (fun W=>Below wx.heap.size wx W) _ wx _ rfl rfl rfl (fun W e=>by rw [e];exact load_id HK.out.i HX.out.1) (RF.out.mono fun e W q=>by obtain ⟨z,q1,q2,q3⟩:=q;exact ⟨z,q1,q2.has,q3⟩) ?_
    intro zz a' w3 hf ha
    subst ha
    simp only [Act.put,qsA,qsB,qsC]
    have B3:Hid (Below w.heap.size w w3):=BX.out.trans (hf.mono BX.out.size)
    have X3:Hid (IdAt w3 w.heap.size x.id∧VaAt w3 (w.heap.size+1) x.v∧IdAt w3 (w.heap.size+2) x.fr∧IdAt w3 (w.heap.size+3) x.to):=⟨HX.out.1.below hf,HX.out.2.1.below hf,HX.out.2.2.1.below hf,HX.out.2.2.2.below hf⟩
    clear hf HX
    cases hq:hasM m.L x.id with
    |true =>
     have HQ:=hidMk hq
     clear hq
     go_wp2
     go_ret
     exact SAME.out _ _ B3.out (by rw [C0.out,if_pos HQ.out]) (by decide)
    |false =>
     have HQ:=hidMk hq
     clear hq
     go_upto_region 7 with fail
     obtain ⟨kb,hkb⟩:∃r,keyB x.nm=r:=⟨_,rfl⟩
     have CK:Hid (Calls Tryz.prog 51 #[.string x.nm] w3 fun e w'=>e= .returned (.bool kb)∧Below w3.heap.size w3 w'):=by rw [←hkb];exact wkeyR x.nm w3
     have HKB:=hidMk hkb
     clear hkb
     refine rad7 (nm:=x.nm) (r:=kb) (fun W=>Below w3.heap.size w3 W) _ w3 _ rfl rfl CK.out ?_
     intro a' w4 hf ha
     subst ha
     simp only [Act.put,qsA,qsB,qsC]
     have B4:Hid (Below w.heap.size w w4):=B3.out.trans (hf.mono B3.out.size)
     have X4:Hid (IdAt w4 w.heap.size x.id∧VaAt w4 (w.heap.size+1) x.v∧IdAt w4 (w.heap.size+2) x.fr∧IdAt w4 (w.heap.size+3) x.to):=⟨X3.out.1.below hf,X3.out.2.1.below hf,X3.out.2.2.1.below hf,X3.out.2.2.2.below hf⟩
     clear hf CK X3 B3
     cases kb with
     |false =>
      go_wp2
      go_ret
      exact SAME.out _ _ B4.out (by rw [C0.out,if_neg (by rw [HQ.out];decide),if_pos HKB.out]) (by decide)
     |true =>
      have C1:Hid (cc=if x.v.right=false then 30 else if x.v.k≤7 then 0 else 30):=by
          show cc=_
          rw [C0.out,if_neg (by rw [HQ.out];decide),if_neg (by rw [HKB.out];decide)]
      clear C0 HKB
      go_upto_region 9 with fail
      have CR:=hidMk (rvright_any x.v HK.out.v w4)
      cases hr:x.v.right with
      |false =>
       have ez:vaC x.v=30:=by unfold vaC;rw [hr];rfl
       rw [ez] at CR
       have HRR:=hidMk hr
       clear hr ez
       refine rad9a (x:=x.v) (b2:=w.heap.size+1) (z:=30) (fun W=>Below w4.heap.size w4 W) _ w4 _ rfl rfl (by decide) (fun W e=>by rw [e];exact load_va X4.out.2.1) CR.out ?_
       intro a' w5 hf ha
       subst ha
       simp only [Act.put,qsA,qsB,qsC]
       have B5:Hid (Below w.heap.size w w5):=B4.out.trans (hf.mono B4.out.size)
       clear hf CR X4
       go_wp2
       go_ret
       exact SAME.out _ _ B5.out (by rw [C1.out,if_pos HRR.out]) (by decide)
      |true =>
       have ez:vaC x.v=0:=by unfold vaC;rw [hr];rfl
       rw [ez] at CR
       have HRR:=hidMk hr
       clear hr ez
       obtain ⟨sc,hsc⟩:∃r,decide (x.v.k≤7)=r:=⟨_,rfl⟩
       have HSC:=hidMk hsc
       clear hsc
       refine rad9b (x:=x.v) (b2:=w.heap.size+1) (z:=0) (r:=sc) (fun W=>Below w4.heap.size w4 W) _ w4 _ rfl rfl (by decide) (fun W e=>by rw [e];exact load_va X4.out.2.1) (CR.out.mono ?_) ?_
       ·rintro e W ⟨rfl,b⟩
        refine ⟨rfl,load_kd (X4.out.2.1.below b),(rvscalar_any x.v.k W).mono ?_⟩
        rintro e W' ⟨rfl,rfl⟩
        exact ⟨by rw [HSC.out],b⟩
       intro a' w5 hf ha
       subst ha
       simp only [Act.put,qsA,qsB,qsC]
       have B5:Hid (Below w.heap.size w w5):=B4.out.trans (hf.mono B4.out.size)
       have X5:Hid (IdAt w5 w.heap.size x.id∧VaAt w5 (w.heap.size+1) x.v∧IdAt w5 (w.heap.size+2) x.fr∧IdAt w5 (w.heap.size+3) x.to):=⟨X4.out.1.below hf,X4.out.2.1.below hf,X4.out.2.2.1.below hf,X4.out.2.2.2.below hf⟩
       clear hf CR X4 B4
       cases sc with
       |false =>
        go_wp2
        go_ret
        exact SAME.out _ _ B5.out (by rw [C1.out,if_neg (by rw [HRR.out];decide),if_neg (of_decide_eq_false HSC.out)]) (by decide)
       |true =>
        have C2:Hid (cc=0):=by show cc=0;rw [C1.out,if_neg (by rw [HRR.out];decide),if_pos (of_decide_eq_true HSC.out)]
        clear C1 HSC HRR SAME
        have bd:Below w5.heap.size w5 w5.drew:=(Below.refl _ _).drew
        have B6:Hid (Below w.heap.size w w5.drew):=B5.out.drew
        have SA:Hid (RAddS m x w.heap.size (w.heap.size+1) (w.heap.size+2) (w.heap.size+3) w5.drew):=⟨(HH.out.below B6.out).cell,X5.out.1.below bd,X5.out.2.1.below bd,X5.out.2.2.1.below bd,X5.out.2.2.2.below bd⟩
        obtain ⟨sv,y1,v2,y2,y3,e1,s1,e2,s2,e3,N3⟩:=radd_list (HH.out.below B6.out) (Nat.le_trans HB.out B6.out.size) HK.out HNN.out SA.out
        have E:=hidMk (And.intro e1 (And.intro s1 (And.intro e2 (And.intro s2 e3))))
        have LDL:Hid (∀W,RAddS m x w.heap.size (w.heap.size+1) (w.heap.size+2) (w.heap.size+3) W→(Instr.loadAt 101 (.pointer (some ⟨m.rb,0+0,none⟩))).run Tryz.prog W= .ok m.lv W):=fun W hS=>by
            obtain ⟨a,c,e,_⟩:=HH.out.sl
            exact ld_rk hS.1 ⟨a,_,c,e⟩
        have PUT:Hid (RkN m base rr w y3):=by
            show RkN m base rr w y3
            rw [HR.out,if_pos C2.out]
            exact N3.from (tch_below B6.out _) B6.out.size
        clear e1 s1 e2 s2 e3 N3 bd X5 B5
        go_upto_region 11 with fail
        refine rad11 (x:=x) (rb:=m.rb) (b1:=w.heap.size) (b2:=w.heap.size+1) (b3:=w.heap.size+2) (b4:=w.heap.size+3) (lv:=m.lv) (sv:=sv) (v2:=v2) (w1:=y1) (w2:=y2) (w3:=y3) (RAddS m x w.heap.size (w.heap.size+1) (w.heap.size+2) (w.heap.size+3)) _ w5 _ rfl rfl rfl rfl rfl rfl rfl rfl SA.out LDL.out (fun W hS=>load_id HK.out.i hS.2.1) (fun W hS=>load_va hS.2.2.1) (fun W hS=>load_id HK.out.fr hS.2.2.2.1) (fun W hS=>load_id HK.out.to hS.2.2.2.2) (fun W=>build_rk W HK.out) E.out.1 E.out.2.1 E.out.2.2.1 E.out.2.2.2.1 E.out.2.2.2.2 ?_
        intro a' w6 hw ha
        obtain rfl:y3=w6:=hw.symm
        subst ha
        simp only [Act.put,qsA,qsB,qsC]
        clear E LDL SA
        go_wp2
        go_ret
        exact ⟨by rw [C2.out];rfl,PUT.out⟩
end
section
variable {W:World} {b o:Nat} {x:OpM}
theorem om_split1 (x:OpM):x.c=[.int .i64 x.kind]++(x.id.c++(x.fr.c++(x.ti.c++([.string x.nm]++(x.v.c++[.int .i64 x.sd]))))):=rfl
theorem om_split2 (x:OpM):x.c=([.int .i64 x.kind]++x.id.c)++(x.fr.c++(x.ti.c++([.string x.nm]++(x.v.c++[.int .i64 x.sd])))):=by simp [OpM.c]
theorem om_split3 (x:OpM):x.c=([.int .i64 x.kind]++x.id.c++x.fr.c)++(x.ti.c++([.string x.nm]++(x.v.c++[.int .i64 x.sd]))):=by simp [OpM.c]
theorem om_split4 (x:OpM):x.c=([.int .i64 x.kind]++x.id.c++x.fr.c++x.ti.c)++(.string x.nm::(x.v.c++[.int .i64 x.sd])):=by simp [OpM.c]
theorem om_split5 (x:OpM):x.c=([.int .i64 x.kind]++x.id.c++x.fr.c++x.ti.c++[.string x.nm])++(x.v.c++[.int .i64 x.sd]):=by simp [OpM.c]
theorem om_split6 (x:OpM):x.c=([.int .i64 x.kind]++x.id.c++x.fr.c++x.ti.c++[.string x.nm]++x.v.c)++(.int .i64 x.sd::[]):=by simp [OpM.c]
theorem om_id (hx:x.ok) (h:W.rangeAt b o x.c):(Instr.loadAt 55 (.pointer (some ⟨b,o+1,none⟩))).run Tryz.prog W= .ok x.id.v W :=
 run_loadAt_mid (P:=Tryz.prog) W b (o+1) 55 x.id.c _ (rng_sub (om_split1 x▸h) rfl) Tryz.underlying55 rfl (by rw [IdK.len hx.id];exact szId)
theorem om_fr (hx:x.ok) (h:W.rangeAt b o x.c):(Instr.loadAt 55 (.pointer (some ⟨b,o+34,none⟩))).run Tryz.prog W= .ok x.fr.v W :=
 run_loadAt_mid (P:=Tryz.prog) W b (o+34) 55 x.fr.c _ (rng_sub (om_split2 x▸h) (by simp [IdK.len hx.id])) Tryz.underlying55 rfl (by rw [IdK.len hx.fr];exact szId)
theorem om_ti (hx:x.ok) (h:W.rangeAt b o x.c):(Instr.loadAt 55 (.pointer (some ⟨b,o+67,none⟩))).run Tryz.prog W= .ok x.ti.v W :=
 run_loadAt_mid (P:=Tryz.prog) W b (o+67) 55 x.ti.c _ (rng_sub (om_split3 x▸h) (by simp [IdK.len hx.id,IdK.len hx.fr])) Tryz.underlying55 rfl (by rw [IdK.len hx.ti];exact szId)
theorem om_nm (hx:x.ok) (h:W.rangeAt b o x.c):(Instr.loadAt 9 (.pointer (some ⟨b,o+100,none⟩))).run Tryz.prog W= .ok (.string x.nm) W:=by
 have hc:W.cell? ⟨b,o+100,none⟩=some (.string x.nm):=rng_cell (om_split4 x▸h) (by simp [IdK.len hx.id,IdK.len hx.fr,IdK.len hx.ti])
 go_simp
theorem om_v (hx:x.ok) (h:W.rangeAt b o x.c):(Instr.loadAt 68 (.pointer (some ⟨b,o+101,none⟩))).run Tryz.prog W= .ok x.v.v W :=
 run_loadAt_mid (P:=Tryz.prog) W b (o+101) 68 x.v.c _ (rng_sub (om_split5 x▸h) (by simp [IdK.len hx.id,IdK.len hx.fr,IdK.len hx.ti])) Tryz.underlying68 rfl (by rw [VaV.len];exact szVa)
theorem om_sd (hx:x.ok) (h:W.rangeAt b o x.c):(Instr.loadAt 3 (.pointer (some ⟨b,o+105,none⟩))).run Tryz.prog W= .ok (.int .i64 x.sd) W:=by
 have hc:W.cell? ⟨b,o+105,none⟩=some (.int .i64 x.sd):=rng_cell (om_split6 x▸h) (by simp [IdK.len hx.id,IdK.len hx.fr,IdK.len hx.ti,VaV.len])
 go_simp
end
def addL (L:List MkV) (O:List OpM):List MkV:=O.foldl (fun L o=>addR L o.mk') L
theorem addL_snoc (L:List MkV) (O:List OpM) (o:OpM):addL L (O++[o])=addR (addL L O) o.mk':=by simp [addL]
theorem addR_len (L:List MkV) (x:MkV):(addR L x).length≤L.length+1:=by
 unfold addR
 split
 ·simp
 ·omega
theorem addL_len (L:List MkV):∀O:List OpM,(addL L O).length≤L.length+O.length
 |[]=>Nat.le_refl _
 |o::O=>by
  have:=addL_len (addR L o.mk') O
  have:=addR_len L o.mk'
  show (addL (addR L o.mk') O).length≤_
  simp only [List.length_cons]
  omega
theorem addC_right {L:List MkV} {x:MkV} (h:addC L x=0):x.v.right=true:=by
 unfold addC at h
 cases e:x.v.right with
 |true=>rfl
 |false =>
  rw [e] at h
  repeat' split at h
  all_goals first
   |(cases h;done)
   |omega
   |exact absurd rfl (by assumption)
theorem addR_right {L:List MkV} {x:MkV} (h:∀y∈L,y.v.right=true):∀y∈addR L x,y.v.right=true:=by
 unfold addR
 split
 ·next e =>
  intro y hy
  rcases List.mem_append.1 hy with hy|hy
  ·exact h y hy
  ·rw [List.mem_singleton.1 hy];exact addC_right e
 ·exact h
theorem addL_right:∀(O:List OpM) {L:List MkV},(∀y∈L,y.v.right=true)→∀y∈addL L O,y.v.right=true
 |[],L,h=>h
 |o::O,L,h=>addL_right O (L:=addR L o.mk') (addR_right h)
def NT (W W':World):Prop:=∀(j:Nat) (c:Array Value) (t:TypeId) (z:Nat × Nat),W.heap[j]? =some (.cells c t z)→t≠97→t≠82→t≠103→t≠109→W'.heap[j]? =W.heap[j]?
structure Gq (w:World) (sb mb rb:Nat) (E:List Elt) (L Lr:List MkV) (W:World):Prop where
 q:∃(s:Sx) (m:Mx) (r:Rx),s.sb=sb∧m.mb=mb∧r.rb=rb∧SeqAt W s E∧MkAt W w.heap.size m∧RkAt W w.heap.size r∧m.L=L∧r.L=Lr∧(∀j∈s.bl,w.heap.size≤j)∧(∀j,m.bl j→w.heap.size≤j)∧(∀j∈s.bl,¬m.bl j)∧(∀j∈s.bl,¬r.bl j)∧(∀j,m.bl j→¬r.bl j)
 bel:Below w.heap.size w W
section
variable {w W W':World} {sb mb rb:Nat} {E:List Elt} {L Lr:List MkV}
theorem Gq.gr (h:Gq w sb mb rb E L Lr W):Gr w sb mb E L W:=by
 obtain ⟨⟨s,m,r,e1,e2,e3,hs,hm,hr,e4,e5,c1,c2,d1,d2,d3⟩,b⟩:=h
 exact ⟨⟨s,m,e1,e2,hs,hm,e4,c1,c2,d1⟩,b⟩
theorem Gq.below (h:Gq w sb mb rb E L Lr W) (b:Below W.heap.size W W'):Gq w sb mb rb E L Lr W':=by
 obtain ⟨⟨s,m,r,e1,e2,e3,hs,hm,hr,e4,e5,c1,c2,d1,d2,d3⟩,b'⟩:=h
 exact ⟨⟨s,m,r,e1,e2,e3,hs.below b,hm.below b,hr.below b,e4,e5,c1,c2,d1,d2,d3⟩,b'.trans (b.mono b'.size)⟩
theorem Gr.withr (h:Gr w sb mb E L W) {r:Rx} (hr:RkAt W' W.heap.size r) (b:Below W.heap.size W W'):Gq w sb mb r.rb E L r.L W':=by
 obtain ⟨⟨s,m,e1,e2,hs,hm,e3,c1,c2,d⟩,b'⟩:=h
 exact ⟨⟨s,m,r,e1,e2,rfl,hs.below b,hm.below b,⟨hr.cell,hr.row.mono b'.size,hr.ok,Nat.le_trans b'.size hr.b,hr.n⟩,e3,rfl,c1,c2,d,fun j hj hq=>by have:=hs.lt j hj;have:=hr.ge hq;omega,fun j hj hq=>by have:=Mx.lt hm hj;have:=hr.ge hq;omega⟩,b'.trans (b.mono b'.size)⟩
theorem Gq.add (h:Gq w sb mb rb E L Lr W) (hT:K.V.Tabs W) {x:MkV} (hx:x.ok) (hn:L.length+1≤900000000000):Calls Tryz.prog 15 #[.pointer (some ⟨mb,0,none⟩),x.id.v, .string x.nm,x.v.v,x.fr.v,x.to.v, .int .i64 x.sd] W fun e w'=>e= .returned (.int .i64 (addC L x))∧Gq w sb mb rb E (addR L x) Lr w'∧NT W w':=by
 obtain ⟨⟨s,m,r,rfl,rfl,rfl,hs,hm,hr,rfl,rfl,c1,c2,d,d2,d3⟩,b'⟩:=h
 refine (add_any hm b'.size hT hx hn).mono ?_
 rintro e w' ⟨rfl,m',hm',e1,e2,e3,ow,tch⟩
 have tch':Tch m.bl W w':=tch
 have bb:Below w.heap.size W w':=⟨tch'.os,tch'.tape,tch'.output,tch'.size,fun j hj=>tch'.block j (Nat.lt_of_lt_of_le hj b'.size) (fun q=>by have:=c2 j q;omega)⟩
 have inb:∀j,m'.bl j→m.bl j∨W.heap.size≤j:=fun j hj=>by
  rcases hj with q|q|q
  ·exact .inl (.inl (q.trans e1))
  ·exact .inl (.inr (.inl (q.trans e2)))
  ·rcases ow with e|e
   ·exact .inl (.inr (.inr (e▸q)))
   ·exact .inr (e j q)
 refine ⟨rfl,⟨⟨s,m',r,rfl,e1,rfl,hs.keep (fun j hj=>tch'.block j (hs.lt j hj) (d j hj)),hm',hr.keep (fun j hj=>tch'.block j (hr.lt hj) (fun q=>d3 j q hj)),e3,rfl,c1,fun j hj=> ?_,fun j hj hq=> ?_,d2,fun j hj hq=> ?_⟩,b'.trans bb⟩,fun j c t z hj t1 t2 t3 t4=>tch'.block j (Array.getElem?_eq_some_iff.1 hj).1 (fun q=> ?_)⟩
 ·rcases inb j hj with q|q
  ·exact c2 j q
  ·exact Nat.le_trans b'.size q
 ·rcases inb j hq with q|q
  ·exact d j hj q
  ·have:=hs.lt j hj;omega
 ·rcases inb j hj with q|q
  ·exact d3 j q hq
  ·have:=hr.lt hq;omega
 ·rcases q with rfl|rfl|q
  ·exact t1 (two_typesM hj hm.cell)
  ·obtain ⟨⟨es,cc,hq,_⟩,_⟩:=hm.map
   rw [hj] at hq;cases hq
  ·obtain ⟨_,c,hc⟩:=hm.lo.cells q
   exact t2 (two_typesM hj hc)
theorem Gq.radd (h:Gq w sb mb rb E L Lr W) {x:MkV} (hx:x.ok) (hn:Lr.length+1≤900000000000):Calls Tryz.prog 16 #[.pointer (some ⟨rb,0,none⟩),x.id.v, .string x.nm,x.v.v,x.fr.v,x.to.v, .int .i64 x.sd] W fun e w'=>e= .returned (.int .i64 (addC Lr x))∧Gq w sb mb rb E L (addR Lr x) w'∧NT W w':=by
 obtain ⟨⟨s,m,r,rfl,rfl,rfl,hs,hm,hr,rfl,rfl,c1,c2,d,d2,d3⟩,b'⟩:=h
 refine (radd_any hr b'.size hx hn).mono ?_
 rintro e w' ⟨rfl,r',hr',e1,e3,ow,tch⟩
 have c3:∀j,r.bl j→w.heap.size≤j:=fun j hj=>hr.ge hj
 have bb:Below w.heap.size W w':=⟨tch.os,tch.tape,tch.output,tch.size,fun j hj=>tch.block j (Nat.lt_of_lt_of_le hj b'.size) (fun q=>by have:=c3 j q;omega)⟩
 have inb:∀j,r'.bl j→r.bl j∨W.heap.size≤j:=fun j hj=>by
  rcases hj with q|q
  ·exact .inl (.inl (q.trans e1))
  ·rcases ow with e|e
   ·exact .inl (.inr (e▸q))
   ·exact .inr (e j q)
 refine ⟨rfl,⟨⟨s,m,r',rfl,rfl,e1,hs.keep (fun j hj=>tch.block j (hs.lt j hj) (d2 j hj)),hm.keep (fun j hj=>tch.block j (Mx.lt hm hj) (d3 j hj)),hr',rfl,e3,c1,c2,d,fun j hj hq=> ?_,fun j hj hq=> ?_⟩,b'.trans bb⟩,fun j c t z hj t1 t2 t3 t4=>tch.block j (Array.getElem?_eq_some_iff.1 hj).1 (fun q=> ?_)⟩
 ·rcases inb j hq with q|q
  ·exact d2 j hj q
  ·have:=hs.lt j hj;omega
 ·rcases inb j hq with q|q
  ·exact d3 j hj q
  ·have:=Mx.lt hm hj;omega
 ·rcases q with rfl|q
  ·exact t3 (two_typesM hj hr.cell)
  ·obtain ⟨_,c,hc⟩:=hr.row.cells q
   exact t4 (two_typesM hj hc)
end
attribute [local go_sem] Oper.semAt_some
theorem laidO_any (k:Nat) (hk:k≤90) (w:World) (hT:K.V.Tabs w) {la:Option Addr} {lc:Nat} {O:List OpM} (hat:RO.At w la O) (hok:∀x∈O,x.ok) (hO:O.length≤800000000000):Calls Tryz.prog 4 #[.int .i64 (k:Int), .slice la O.length lc] w fun e w'=> ∃sb mb,e= .returned (.tuple #[.pointer (some ⟨sb,0,none⟩), .pointer (some ⟨mb,0,none⟩), .bool true])∧Gr w sb mb (seg 0 k) (addL [] O) w':=by
 have HT:=hidMk (fun (W:World) (b:Below w.heap.size w W)=>hT.below b)
 have HAT:=hidMk (fun (W:World) (b:Below w.heap.size w W)=>hat.below b)
 have HOK:=hidMk hok
 obtain ⟨n,hn⟩:∃n,O.length=n:=⟨_,rfl⟩
 have HN:=hidMk (show O.length=n∧n≤800000000000 from ⟨hn,by omega⟩)
 rw [hn]
 clear hT hat hok hO hn
 have HN:=hidMk (new_any w)
 have HM:=hidMk mnew_any
 have HR:=hidMk rknew_any
 go_enter Tryz.func4,Tryz.ntmps4
 go_upto_region 4 with (first
  |(go_at_call 11;refine HN.out.mono ?_;rintro e w1 ⟨s,rfl,hs,c1,b1⟩)
  |(go_at_call 12;refine (HM.out _).mono ?_;rintro e w2 ⟨m,rfl,hm,hL,c2,b2⟩)
  |fail)
 have G0:=gr_new hs c1 b1 hm hL c2 b2
 have i0:=id_new w2 zId
 have bx:Below w2.heap.size w2 (w2.alloc (.cells zId.c.toArray 55)):=(Below.refl _ _).alloc (Nat.le_refl _) _
 have ez:=id_zero w2
 have es:=store_id zId_ok zId_ok i0
 have i3:=i0.set zId
 have b3:=bx.trans (set_below zId.c.toArray bx.size (Nat.le_refl w2.heap.size))
 have G3:=G0.below b3
 have hl0:w.heap.size≤w2.heap.size:=G0.bel.size
 obtain ⟨W3,hW3⟩:∃W,(w2.alloc (.cells zId.c.toArray 55)).setRow w2.heap.size zId.c.toArray=W:=⟨_,rfl⟩
 rw [hW3] at es i3 G3
 clear hs c1 b1 hm hL c2 b2 HN HM G0 i0 bx b3 hW3
 refine lai4 (lb:=w2.heap.size) _ w2 _ rfl ez es ?_
 intro a' W hw ha
 obtain rfl:W3=W:=hw.symm
 subst ha
 simp only [Act.put,qsA,qsB,qsC]
 clear ez es
 generalize s.sb=sb at *
 generalize m.mb=mb at *
 generalize w2.heap.size=lb at *
 have LB0:=hidMk hl0
 clear hl0
 go_wp2
 go_loopw [10] (fun v10 wr=> ∃j:Nat,v10= .int .i64 (j:Int)∧1≤j∧j≤k+1∧Hid (Gr w sb mb (seg 0 (j-1)) [] wr∧IdAt wr lb (idN ((j-1:Nat):Int)))) (fun v10 _=>(k+1)-(match v10 with | .int _ i=>i.toNat|_=>0))
 case atStart=>exact ⟨1,rfl,by omega,by omega,G3,i3⟩
 case round =>
  clear G3 i3
  obtain ⟨j,rfl,hj1,hjk,HI⟩:=hrel
  obtain ⟨i,rfl⟩:∃i,j=i+1:=⟨j-1,by omega⟩
  rw [Nat.add_sub_cancel] at HI
  by_cases hj:i+1≤k
  ·obtain ⟨G,iq⟩:=HI.out
   have oki:(idN (i:Int)).ok:=idN_ok (by omega)
   have okj:(idN ((i:Int)+1)).ok:=idN_ok (by omega)
   have hjj:((i+1:Nat):Int)≤(k:Int):=by omega
   have i0:=id_new wr zId
   have bx:Below wr.heap.size wr (wr.alloc (.cells zId.c.toArray 55)):=(Below.refl _ _).alloc (Nat.le_refl _) _
   have ez:=id_zero wr
   have es:=store_id zId_ok okj i0
   have i3:=i0.set (idN ((i:Int)+1))
   have b3:=bx.trans (set_below (idN ((i:Int)+1)).c.toArray bx.size (Nat.le_refl wr.heap.size))
   have G3:=G.below b3
   have q3:=iq.below b3
   obtain ⟨W4,hW4⟩:∃W,(wr.alloc (.cells zId.c.toArray 55)).setRow wr.heap.size (idN ((i:Int)+1)).c.toArray=W:=⟨_,rfl⟩
   rw [hW4] at es i3 G3 q3
   clear G iq HI i0 bx b3 hW4
   rw [show ((i+1:Nat):Int)=(i:Int)+1 by omega] at *
   go_upto_region 8 with fail
   refine lai8 (ib:=wr.heap.size) (i:=(i:Int)+1) _ wr _ rfl rfl ez es ?_
   intro a' W hw ha
   obtain rfl:W4=W:=hw.symm
   subst ha
   simp only [Act.put,qsA,qsB,qsC]
   clear ez es
   go_upto_region 9 with fail
   refine lai9 (sb:=sb) (lb:=lb) (ib:=wr.heap.size) (k:=idN ((i:Int)+1)) (q:=idN (i:Int)) (z:=0) (r:=false) (fun X=>Gr w sb mb (seg 0 (i+1)) [] X∧IdAt X wr.heap.size (idN ((i:Int)+1))∧IdAt X lb (idN (i:Int))) _ W4 _ rfl rfl rfl rfl rfl (fun X e=>by rw [e];exact load_id oki q3) (fun X e=>by rw [e];exact load_id okj i3) ((G3.insI okj oki (by rw [seg_len];omega) okj oki i3 q3).mono ?_) ?_
   ·rintro e X ⟨rfl,g,x1,x2⟩
    rw [(ins_seg i).2] at g
    exact ⟨by rw [(ins_seg i).1];rfl,g,x1,x2⟩
   intro a' W5 hf ha
   subst ha
   simp only [Act.put,qsA,qsB,qsC]
   obtain ⟨G5,i5,q5⟩:=hf
   have es:=store_id oki okj q5
   have q6:=q5.set (idN ((i:Int)+1))
   have G6:=G5.put oki q5 LB0.out ((setRow_tch W5 lb (idN ((i:Int)+1)).c.toArray).mono (fun j _ e=>by simpa using e.symm))
   obtain ⟨W6,hW6⟩:∃W,W5.setRow lb (idN ((i:Int)+1)).c.toArray=W:=⟨_,rfl⟩
   rw [hW6] at es q6 G6
   have NX:Hid (Gr w sb mb (seg 0 (i+1)) [] W6∧IdAt W6 lb (idN ((i:Int)+1))):=⟨G6,q6⟩
   clear G3 i3 q3 G5 q5 q6 G6 hW6
   go_upto_region 11 with fail
   refine lai11 (lb:=lb) (ib:=wr.heap.size) (k:=idN ((i:Int)+1)) _ W5 _ rfl rfl rfl (fun X e=>by rw [e];exact load_id okj i5) es ?_
   intro a' W hw ha
   obtain rfl:W6=W:=hw.symm
   subst ha
   simp only [Act.put,qsA,qsB,qsC]
   clear es i5
   go_wp2
   rw [show ((i:Int)+1+1)=((i+2:Nat):Int) by omega]
   refine ⟨⟨i+2,rfl,by omega,by omega, ?_⟩, ?_⟩
   ·have:=NX.out
    exact this
   ·show (k+1)-((i+2:Nat):Int).toNat<(k+1)-((i:Int)+1).toNat
    omega
  ·obtain rfl:i=k:=by omega
   have hjj:¬((i+1:Nat):Int)≤(i:Int):=by omega
   have GG:=hidMk HI.out.1
   clear HI
   go_wp2_with (first
        |(go_at_call 14;refine (HR.out _).mono ?_;rintro e w9 ⟨r,rfl,hr,hrL,b9⟩)
        |fail)
   have G9:=GG.out.withr hr b9
   rw [hrL] at G9
   have HG9:=hidMk G9
   clear GG hr hrL b9 G9 HR
   generalize r.rb=rb at *
   go_loopw [13] (fun v13 wr=> ∃j:Nat,v13= .int .i64 (j:Int)∧j≤n∧Hid (Gq w sb mb rb (seg 0 i) (addL [] (O.take j)) (addL [] (O.take j)) wr)) (fun v13 _=>n-(intOf v13).toNat)
   case atStart=>exact ⟨0,rfl,Nat.zero_le _,HG9⟩
   case round =>
        clear HG9
        obtain ⟨j,rfl,hj2,HJ⟩:=hrel
        by_cases h2:j<n
        ·have h2':(j:Int)<(n:Int):=by omega
         have hn64:n≤9223372036854775807:=by have:=HN.out;omega
         obtain ⟨x,hx⟩:∃x,O[j]? =some x:=⟨_,List.getElem?_eq_getElem (by have:=HN.out;omega)⟩
         have okx:=HOK.out x (List.mem_of_getElem? hx)
         have TK:=hidMk (show addL [] (O.take (j+1))=addR (addL [] (O.take j)) x.mk' by rw [List.take_add_one,hx];exact addL_snoc _ _ _)
         have LB:=hidMk (show (addL [] (O.take j)).length+1≤900000000000 by
          have:=addL_len [] (O.take j)
          rw [List.length_take] at this
          have:=HN.out
          have z:([]:List MkV).length=0:=rfl
          omega)
         obtain ⟨g,o,rfl,_,hr⟩:=(HAT.out wr HJ.out.bel).get (i:=j) (by have:=HN.out;omega)
         have hr':wr.rangeAt g (o+106*j) x.c:=by
          have e:O[j]'(by have:=HN.out;omega)=x:=(List.getElem?_eq_some_iff.1 hx).2
          rw [e] at hr;exact hr
         have LX:=RowT.ld RO_is okx hr'
         have EA:=RowT.bx_zero RO_is wr
         have ES:=RowT.bx_new RO_is wr okx
         obtain ⟨hbx,hbl⟩:=RowT.bx_is RO wr x
         have HH2:=hidMk h2
         have MS:=hidMk (show n-(((j+1:Nat):Int)).toNat<n-((j:Nat):Int).toNat by simp only [Int.toNat_natCast];omega)
         clear hr hr' hx
         go_upto_region 16 with fail
         refine lai16 (g:=g) (o:=o) (n:=n) (c:=lc) (i:=j) (ob:=wr.heap.size) (x:=x) _ wr _ rfl rfl rfl h2 hn64 LX EA ES ?_
         intro a' w3 hw ha
         subst ha
         rw [←hw] at hbx hbl
         obtain ⟨w4,hw4⟩:∃w4,w3=w4:=⟨_,rfl⟩
         rw [hw4] at hbx hbl ⊢
         simp only [Act.put,qsA,qsB,qsC]
         clear LX EA ES hw hw4
         have G4:=(HJ.out.below hbl).below ((Below.refl _ _).drew)
         have X4:RO.Bx w4.drew wr.heap.size x:=hbx
         have T4:=HT.out w4.drew G4.bel
         have mok:=OpM.mkok okx
         have nt:∀W W',NT W W'→RO.Bx W wr.heap.size x→RO.Bx W' wr.heap.size x:=fun W W' h1 h3=>(h1 _ _ _ _ h3 (by decide) (by decide) (by decide) (by decide)).trans h3
         have CA:=hidMk ((G4.add T4 mok LB.out).mono (R':=fun e w1=>e= .returned (.int .i64 (addC (addL [] (O.take j)) x.mk'))∧RO.Bx w1 wr.heap.size x∧Calls Tryz.prog 16 #[.pointer (some ⟨rb,0,none⟩),x.mk'.id.v, .string x.mk'.nm,x.mk'.v.v,x.mk'.fr.v,x.mk'.to.v, .int .i64 x.mk'.sd] w1 fun e w2=>e= .returned (.int .i64 (addC (addL [] (O.take j)) x.mk'))∧RO.Bx w2 wr.heap.size x∧Gq w sb mb rb (seg 0 i) (addL [] (O.take (j+1))) (addL [] (O.take (j+1))) w2) (fun e w1 q=>by
          refine ⟨q.1,nt _ _ q.2.2 X4,(q.2.1.radd mok LB.out).mono fun e2 w2 q2=>⟨q2.1,nt _ _ q2.2.2 (nt _ _ q.2.2 X4), ?_⟩⟩
          rw [TK.out]
          exact q2.2.1))
         have HX4:=hidMk X4
         clear HJ hbx hbl G4 X4 T4 mok nt
         go_upto_region 17 with fail
         refine lai17 (mb:=mb) (rb:=rb) (ob:=wr.heap.size) (x:=x.mk') (c1:=addC (addL [] (O.take j)) x.mk') (c2:=addC (addL [] (O.take j)) x.mk') (r:=false) (fun W=>RO.Bx W wr.heap.size x) (fun W=>Gq w sb mb rb (seg 0 i) (addL [] (O.take (j+1))) (addL [] (O.take (j+1))) W) _ w4 _ rfl rfl rfl rfl HX4.out (decide_eq_false (fun q=>q rfl)) (fun W q=>om_id okx (RowT.Bx.rng q)) (fun W q=>om_nm okx (RowT.Bx.rng q)) (fun W q=>om_v okx (RowT.Bx.rng q)) (fun W q=>om_fr okx (RowT.Bx.rng q)) (fun W q=>om_ti okx (RowT.Bx.rng q)) (fun W q=>om_sd okx (RowT.Bx.rng q)) CA.out ?_
         intro a' w5 hf ha
         have NI:=hidMk hf
         subst ha
         simp only [Act.put,qsA,qsB,qsC]
         clear CA HX4 hf
         go_wp2
         rw [show ((j:Int)+1)=((j+1:Nat):Int) by omega]
         exact ⟨⟨j+1,rfl,HH2.out,NI⟩,MS.out⟩
        ·have h2':¬((j:Int)<(n:Int)):=by omega
         obtain rfl:j=n:=by omega
         have GG:=hidMk HJ.out.gr
         clear HJ
         go_wp2
         refine bodyPost_ret (results_tmp3 rfl _ _ _) rfl ?_
         refine ⟨sb,mb,rfl, ?_⟩
         have:=GG.out
         rw [List.take_of_length_le (by have:=HN.out;omega)] at this
         exact this
end Go.Proofs.YtifendlpeebofabGreatDoor
namespace Go.Proofs.YtifendlpeebofabGreatDoor
open Go.RowKit
section
variable {w:World} {a:Act} {o:Oper} {x y:Operand}
theorem ex_eqT {s:ByteArray} (ho:o.op= .binOp .eql 9 x y 9) (hx:a.eval x= .string s) (hy:a.eval y= .string s):(execOp a.eval o).run Tryz.prog w= .ok (.value (.bool true)) w:=by
 refine exec_binOp ho hx hy ?_ ?_
 ·kernel_rfl
 ·have:(s.toList==s.toList)=true:=by simp
  go_simp
theorem ex_netx {s:ByteArray} (ho:o.op= .binOp .neq 9 x y 9) (hx:a.eval x= .string s) (hy:a.eval y= .string s):(execOp a.eval o).run Tryz.prog w= .ok (.value (.bool false)) w:=by
 refine exec_binOp ho hx hy ?_ ?_
 ·kernel_rfl
 ·have:(s.toList !=s.toList)=false:=by simp
  go_simp
end
def ssp1_ops:Array Oper:=(⟨_,rfl⟩:{o // some o=rgB Tryz.f10 1}).1
theorem ssp1 {la lb:Option Addr} {n c c2:Nat} (a:Act) (w:World) (Q:Exit→Act→World→Prop) (zz:a.tmps.size=68)
 (t0:a.tmps.getD 0 undef= .slice la n c)
 (t1:a.tmps.getD 1 undef= .slice lb n c2)
 (h:∀a' w',w'=w→a'=((((a.put (some 6) (.slice la n c)).put (some 7) (.int .i64 (n:Int))).put (some 8) (.slice lb n c2)).put (some 9) (.int .i64 (n:Int))).put (some 10) (.bool false)→Q .normal a' w') :
 (Code.region 1 ssp1_ops false).wp Tryz.prog Q a w:=by
 refine z0 rfl ?_
 refine zv rfl (xmv rfl (zi t0 rfl)) ?_
 refine zv rfl (exec_len rfl (zg zz rfl) (len_sq _ _ _ _)) ?_
 refine zv rfl (xmv rfl (zi t1 rfl)) ?_
 refine zv rfl (exec_len rfl (zg zz rfl) (len_sq _ _ _ _)) ?_
 refine zv (v:= .bool false) rfl (ex_neqZ rfl (zg zz rfl) (zg zz rfl) (decide_eq_false (fun q=>q rfl))) ?_
 exact ze rfl (h _ _ (rfl) rfl)
def ssp6_ops:Array Oper:=(⟨_,rfl⟩:{o // some o=rgB Tryz.f10 6}).1
theorem ssp6 {g o g2 o2 n c c2 i:Nat} {x:SpV} (S:World→Prop) (a:Act) (w:World) (Q:Exit→Act→World→Prop) (zz:a.tmps.size=68)
 (t0:a.tmps.getD 0 undef= .slice (some ⟨g,o,none⟩) n c)
 (t1:a.tmps.getD 1 undef= .slice (some ⟨g2,o2,none⟩) n c2)
 (t5:a.tmps.getD 5 undef= .int .i64 (i:Int))
 (h0:S w.drew) (hi:i<n) (hm:n≤9223372036854775807) (LA0:∀W,S W→(Instr.loadAt 3 (.pointer (some ⟨g,o+7*i+0,none⟩))).run Tryz.prog W= .ok (.int .i64 x.fr) W) (LA1:∀W,S W→(Instr.loadAt 3 (.pointer (some ⟨g,o+7*i+1,none⟩))).run Tryz.prog W= .ok (.int .i64 x.to) W) (LA2:∀W,S W→(Instr.loadAt 9 (.pointer (some ⟨g,o+7*i+2,none⟩))).run Tryz.prog W= .ok (.string x.nm) W) (LA3:∀W,S W→(Instr.loadAt 68 (.pointer (some ⟨g,o+7*i+3,none⟩))).run Tryz.prog W= .ok (x.v.v) W) (LB0:∀W,S W→(Instr.loadAt 3 (.pointer (some ⟨g2,o2+7*i+0,none⟩))).run Tryz.prog W= .ok (.int .i64 x.fr) W) (LB1:∀W,S W→(Instr.loadAt 3 (.pointer (some ⟨g2,o2+7*i+1,none⟩))).run Tryz.prog W= .ok (.int .i64 x.to) W) (LB2:∀W,S W→(Instr.loadAt 9 (.pointer (some ⟨g2,o2+7*i+2,none⟩))).run Tryz.prog W= .ok (.string x.nm) W) (LB3:∀W,S W→(Instr.loadAt 68 (.pointer (some ⟨g2,o2+7*i+3,none⟩))).run Tryz.prog W= .ok (x.v.v) W) (CS:Calls Tryz.prog 42 #[x.v.v,x.v.v] w.drew fun e w'=>e= .returned (.bool true)∧S w')
 (h:∀a' w',S w'→a'=((((((((((((((((((((((((((((((((((((((((((((((((((a.put (some 17) (.slice (some ⟨g,o,none⟩) n c)).put (some 18) (.int .i64 (i:Int))).put (some 19) (.pointer (some ⟨g,o+7*i,none⟩))).put (some 20) (.pointer (some ⟨g,o+7*i+0,none⟩))).put (some 21) (.int .i64 x.fr)).put (some 22) (.slice (some ⟨g2,o2,none⟩) n c2)).put (some 23) (.int .i64 (i:Int))).put (some 24) (.pointer (some ⟨g2,o2+7*i,none⟩))).put (some 25) (.pointer (some ⟨g2,o2+7*i+0,none⟩))).put (some 26) (.int .i64 x.fr)).put (some 27) (.bool false)).put (some 28) (.bool false)).put (some 29) (.slice (some ⟨g,o,none⟩) n c)).put (some 30) (.int .i64 (i:Int))).put (some 31) (.pointer (some ⟨g,o+7*i,none⟩))).put (some 32) (.pointer (some ⟨g,o+7*i+1,none⟩))).put (some 33) (.int .i64 x.to)).put (some 34) (.slice (some ⟨g2,o2,none⟩) n c2)).put (some 35) (.int .i64 (i:Int))).put (some 36) (.pointer (some ⟨g2,o2+7*i,none⟩))).put (some 37) (.pointer (some ⟨g2,o2+7*i+1,none⟩))).put (some 38) (.int .i64 x.to)).put (some 39) (.bool false)).put (some 40) (.bool false)).put (some 41) (.bool false)).put (some 42) (.slice (some ⟨g,o,none⟩) n c)).put (some 43) (.int .i64 (i:Int))).put (some 44) (.pointer (some ⟨g,o+7*i,none⟩))).put (some 45) (.pointer (some ⟨g,o+7*i+2,none⟩))).put (some 46) (.string x.nm)).put (some 47) (.slice (some ⟨g2,o2,none⟩) n c2)).put (some 48) (.int .i64 (i:Int))).put (some 49) (.pointer (some ⟨g2,o2+7*i,none⟩))).put (some 50) (.pointer (some ⟨g2,o2+7*i+2,none⟩))).put (some 51) (.string x.nm)).put (some 52) (.bool false)).put (some 53) (.bool false)).put (some 54) (.bool false)).put (some 55) (.slice (some ⟨g,o,none⟩) n c)).put (some 56) (.int .i64 (i:Int))).put (some 57) (.pointer (some ⟨g,o+7*i,none⟩))).put (some 58) (.pointer (some ⟨g,o+7*i+3,none⟩))).put (some 59) (x.v.v)).put (some 60) (.slice (some ⟨g2,o2,none⟩) n c2)).put (some 61) (.int .i64 (i:Int))).put (some 62) (.pointer (some ⟨g2,o2+7*i,none⟩))).put (some 63) (.pointer (some ⟨g2,o2+7*i+3,none⟩))).put (some 64) (x.v.v)).put (some 65) (.bool true)).put (some 66) (.bool false)).put (some 67) (.bool false)→Q .normal a' w') :
 (Code.region 6 ssp6_ops true).wp Tryz.prog Q a w:=by
 refine y0 (fun w'=>S w') (h0) (fun hHeld=> ?_)
 refine yv 0 rfl rfl (fun w1 hw=>xmv rfl (zi t0 rfl)) hHeld ?_
 refine yv 1 rfl rfl (fun w1 hw=>xmv rfl (zi t5 rfl)) hHeld ?_
 refine yv 2 rfl rfl (fun w1 hw=>xia rfl (zg zz rfl) (zg zz rfl) (ix_sp hi hm _)) hHeld ?_
 refine yv 3 rfl rfl (fun w1 hw=>xfa rfl (zg zz rfl) (fg_84_0 _ _ _)) hHeld ?_
 refine yv 4 rfl rfl (fun w1 hw=>xld rfl (zg zz rfl) (LA0 _ hw)) hHeld ?_
 refine yv 5 rfl rfl (fun w1 hw=>xmv rfl (zi t1 rfl)) hHeld ?_
 refine yv 6 rfl rfl (fun w1 hw=>xmv rfl (zi t5 rfl)) hHeld ?_
 refine yv 7 rfl rfl (fun w1 hw=>xia rfl (zg zz rfl) (zg zz rfl) (ix_sp hi hm _)) hHeld ?_
 refine yv 8 rfl rfl (fun w1 hw=>xfa rfl (zg zz rfl) (fg_84_0 _ _ _)) hHeld ?_
 refine yv 9 rfl rfl (fun w1 hw=>xld rfl (zg zz rfl) (LB0 _ hw)) hHeld ?_
 refine yv (v:= .bool false) 10 rfl rfl (fun w1 hw=>ex_neqZ rfl (zg zz rfl) (zg zz rfl) (decide_eq_false (fun q=>q rfl))) hHeld ?_
 refine yv 11 rfl rfl (fun w1 hw=>xmv rfl (zg zz rfl)) hHeld ?_
 refine yv 12 rfl (zw zz rfl rfl rfl (zg zz rfl)) (fun w1 hw=>xmv rfl (zi t0 rfl)) hHeld ?_
 refine yv 13 rfl (zw zz rfl rfl rfl (zg zz rfl)) (fun w1 hw=>xmv rfl (zi t5 rfl)) hHeld ?_
 refine yv 14 rfl (zw zz rfl rfl rfl (zg zz rfl)) (fun w1 hw=>xia rfl (zg zz rfl) (zg zz rfl) (ix_sp hi hm _)) hHeld ?_
 refine yv 15 rfl (zw zz rfl rfl rfl (zg zz rfl)) (fun w1 hw=>xfa rfl (zg zz rfl) (fg_84_1 _ _ _)) hHeld ?_
 refine yv 16 rfl (zw zz rfl rfl rfl (zg zz rfl)) (fun w1 hw=>xld rfl (zg zz rfl) (LA1 _ hw)) hHeld ?_
 refine yv 17 rfl (zw zz rfl rfl rfl (zg zz rfl)) (fun w1 hw=>xmv rfl (zi t1 rfl)) hHeld ?_
 refine yv 18 rfl (zw zz rfl rfl rfl (zg zz rfl)) (fun w1 hw=>xmv rfl (zi t5 rfl)) hHeld ?_
 refine yv 19 rfl (zw zz rfl rfl rfl (zg zz rfl)) (fun w1 hw=>xia rfl (zg zz rfl) (zg zz rfl) (ix_sp hi hm _)) hHeld ?_
 refine yv 20 rfl (zw zz rfl rfl rfl (zg zz rfl)) (fun w1 hw=>xfa rfl (zg zz rfl) (fg_84_1 _ _ _)) hHeld ?_
 refine yv 21 rfl (zw zz rfl rfl rfl (zg zz rfl)) (fun w1 hw=>xld rfl (zg zz rfl) (LB1 _ hw)) hHeld ?_
 refine yv (v:= .bool false) 22 rfl (zw zz rfl rfl rfl (zg zz rfl)) (fun w1 hw=>ex_neqZ rfl (zg zz rfl) (zg zz rfl) (decide_eq_false (fun q=>q rfl))) hHeld ?_
 refine yv 23 rfl rfl (fun w1 hw=>exec_pickF rfl (zg zz rfl) (zg zz rfl)) hHeld ?_
 refine yv 24 rfl rfl (fun w1 hw=>xmv rfl (zg zz rfl)) hHeld ?_
 refine yv 25 rfl (zw zz rfl rfl rfl (zg zz rfl)) (fun w1 hw=>xmv rfl (zi t0 rfl)) hHeld ?_
 refine yv 26 rfl (zw zz rfl rfl rfl (zg zz rfl)) (fun w1 hw=>xmv rfl (zi t5 rfl)) hHeld ?_
 refine yv 27 rfl (zw zz rfl rfl rfl (zg zz rfl)) (fun w1 hw=>xia rfl (zg zz rfl) (zg zz rfl) (ix_sp hi hm _)) hHeld ?_
 refine yv 28 rfl (zw zz rfl rfl rfl (zg zz rfl)) (fun w1 hw=>xfa rfl (zg zz rfl) (fg_84_2 _ _ _)) hHeld ?_
 refine yv 29 rfl (zw zz rfl rfl rfl (zg zz rfl)) (fun w1 hw=>xld rfl (zg zz rfl) (LA2 _ hw)) hHeld ?_
 refine yv 30 rfl (zw zz rfl rfl rfl (zg zz rfl)) (fun w1 hw=>xmv rfl (zi t1 rfl)) hHeld ?_
 refine yv 31 rfl (zw zz rfl rfl rfl (zg zz rfl)) (fun w1 hw=>xmv rfl (zi t5 rfl)) hHeld ?_
 refine yv 32 rfl (zw zz rfl rfl rfl (zg zz rfl)) (fun w1 hw=>xia rfl (zg zz rfl) (zg zz rfl) (ix_sp hi hm _)) hHeld ?_
 refine yv 33 rfl (zw zz rfl rfl rfl (zg zz rfl)) (fun w1 hw=>xfa rfl (zg zz rfl) (fg_84_2 _ _ _)) hHeld ?_
 refine yv 34 rfl (zw zz rfl rfl rfl (zg zz rfl)) (fun w1 hw=>xld rfl (zg zz rfl) (LB2 _ hw)) hHeld ?_
 refine yv (v:= .bool false) 35 rfl (zw zz rfl rfl rfl (zg zz rfl)) (fun w1 hw=>ex_netx rfl (zg zz rfl) (zg zz rfl)) hHeld ?_
 refine yv 36 rfl rfl (fun w1 hw=>exec_pickF rfl (zg zz rfl) (zg zz rfl)) hHeld ?_
 refine yv 37 rfl rfl (fun w1 hw=>xmv rfl (zg zz rfl)) hHeld ?_
 refine yv 38 rfl (zw zz rfl rfl rfl (zg zz rfl)) (fun w1 hw=>xmv rfl (zi t0 rfl)) hHeld ?_
 refine yv 39 rfl (zw zz rfl rfl rfl (zg zz rfl)) (fun w1 hw=>xmv rfl (zi t5 rfl)) hHeld ?_
 refine yv 40 rfl (zw zz rfl rfl rfl (zg zz rfl)) (fun w1 hw=>xia rfl (zg zz rfl) (zg zz rfl) (ix_sp hi hm _)) hHeld ?_
 refine yv 41 rfl (zw zz rfl rfl rfl (zg zz rfl)) (fun w1 hw=>xfa rfl (zg zz rfl) (fg_84_3 _ _ _)) hHeld ?_
 refine yv 42 rfl (zw zz rfl rfl rfl (zg zz rfl)) (fun w1 hw=>xld rfl (zg zz rfl) (LA3 _ hw)) hHeld ?_
 refine yv 43 rfl (zw zz rfl rfl rfl (zg zz rfl)) (fun w1 hw=>xmv rfl (zi t1 rfl)) hHeld ?_
 refine yv 44 rfl (zw zz rfl rfl rfl (zg zz rfl)) (fun w1 hw=>xmv rfl (zi t5 rfl)) hHeld ?_
 refine yv 45 rfl (zw zz rfl rfl rfl (zg zz rfl)) (fun w1 hw=>xia rfl (zg zz rfl) (zg zz rfl) (ix_sp hi hm _)) hHeld ?_
 refine yv 46 rfl (zw zz rfl rfl rfl (zg zz rfl)) (fun w1 hw=>xfa rfl (zg zz rfl) (fg_84_3 _ _ _)) hHeld ?_
 refine yv 47 rfl (zw zz rfl rfl rfl (zg zz rfl)) (fun w1 hw=>xld rfl (zg zz rfl) (LB3 _ hw)) hHeld ?_
 refine yc 48 rfl (zw zz rfl rfl rfl (zg zz rfl)) (exec_c2 rfl (zg zz rfl) (zg zz rfl)) (CS) (fun e x48 hx=> ?_)
 obtain ⟨rfl,S1⟩:=hx
 refine ⟨_,rfl,S1,fun hHeld=> ?_⟩
 refine yv 49 rfl (zw zz rfl rfl rfl (zg zz rfl)) (fun w1 hw=>exec_not rfl (zg zz rfl)) hHeld ?_
 refine yv 50 rfl rfl (fun w1 hw=>exec_pickF rfl (zg zz rfl) (zg zz rfl)) hHeld ?_
 exact ye rfl (h _ _ (S1) rfl)
theorem belN2 (w:World) (a b:Obj):Below w.heap.size w ((w.alloc a).alloc b):=((Below.refl _ _).alloc (Nat.le_refl _) _).alloc (by simp) _
section
open Ieee
theorem signed_zero {s:Bool} {m k:Nat} (h:signed s m k=0):m=0:=by
 unfold signed at h
 rw [Nat.shiftLeft_eq] at h
 generalize hz:m*2^k=z at h
 have:m*2^k=0:=by
  cases s
  ·simp at h;omega
  ·simp at h;omega
 rcases Nat.mul_eq_zero.1 this with h|h
 ·exact h
 ·exact absurd h (by have:=Nat.two_pow_pos k;omega)
theorem ord_zero {f:Nat} (h:(Ieee.double.order f 0==some .eq)=true):f % 2^63=0:=by
 have e1:Ieee.double.signWeight=2^63:=rfl
 have e2:Ieee.double.binade=2^52:=rfl
 have e3:Ieee.double.infRung=2047*2^52:=rfl
 have h':Ieee.double.order f 0=some .eq:=by simpa using h
 have z:Ieee.double.read 0= .number false 0 Ieee.double.leastPlace:=by decide +kernel
 have key:∀s m i,Datum.order (.number s m i) (.number false 0 Ieee.double.leastPlace)=some .eq→m=0:=fun s m i q=>by
  simp only [Datum.order,Option.some.injEq] at q
  have q2:=Std.LawfulEqCmp.eq_of_compare q
  have:signed false 0 (Ieee.double.leastPlace-min i Ieee.double.leastPlace).toNat=0:=by simp [signed]
  rw [this] at q2
  exact signed_zero q2
 unfold Ieee.Format.order at h'
 rw [z] at h'
 unfold Ieee.Format.read at h'
 rw [e1,e2,e3] at h'
 simp only at h'
 split at h'
 ·exact key _ _ _ h'
 ·split at h'
  ·have:=key _ _ _ h'
   omega
  ·split at h'
   ·simp only [Datum.order,Option.some.injEq] at h'
    split at h' <;>cases h'
   ·cases h'
end
theorem f_zero {f:Nat} (hf:f<18446744073709551616) (h:(FloatKind.f64.format.order f 0==some .eq)=true):f=0∨f=9223372036854775808:=by
 have:=ord_zero h
 omega
theorem same_self {x:VaV} (hx:x.ok) (w:World):Calls Tryz.prog 42 #[x.v,x.v] w fun e w'=>e= .returned (.bool true)∧Below w.heap.size w w':=by
 obtain ⟨k,n,f,t⟩:=x
 have hf:=hx.ff
 simp only at hf
 clear hx
 show Calls Tryz.prog 42 #[.agg #[.int .u8 k, .int .i64 n, .float .f64 f, .string t], .agg #[.int .u8 k, .int .i64 n, .float .f64 f, .string t]] w _
 have k1:(k !=k)=false:=by simp
 have n1:(n !=n)=false:=by simp
 have t1:(t.toList !=t.toList)=false:=by simp
 by_cases z1:(FloatKind.f64.format.order f f==some .eq)=true
 ·have z2:(FloatKind.f64.format.order f f !=some .eq)=false:=by rw [bne,z1];rfl
  by_cases z3:(FloatKind.f64.format.order f 0==some .eq)=true
  ·have z4:(FloatKind.f64.format.order f 0 !=some .eq)=false:=by rw [bne,z3];rfl
   obtain ⟨q,hq,hqq⟩:∃q,(∀W,(binOp .quo 66 (.float .f64 4607182418800017408) (.float .f64 f)).run Tryz.prog W= .ok (.float .f64 q) W)∧(FloatKind.f64.format.order q q==some .eq)=true:=by
        rcases f_zero hf z3 with rfl|rfl
        ·exact ⟨9218868437227405312,fun W=>run_float_arith W .quo 66 .f64 _ _ _ (by decide +kernel),by decide +kernel⟩
        ·exact ⟨18442240474082181120,fun W=>run_float_arith W .quo 66 .f64 _ _ _ (by decide +kernel),by decide +kernel⟩
   clear hf
   go_enter Tryz.func42,Tryz.ntmps42
   go_wp2
   go_ret
   exact ⟨rfl,belN2 _ _ _⟩
  ·replace z3:(FloatKind.f64.format.order f 0==some .eq)=false:=by simpa using z3
   have z4:(FloatKind.f64.format.order f 0 !=some .eq)=true:=by rw [bne,z3];rfl
   clear hf
   go_enter Tryz.func42,Tryz.ntmps42
   go_wp2
   go_ret
   exact ⟨rfl,belN2 _ _ _⟩
 ·replace z1:(FloatKind.f64.format.order f f==some .eq)=false:=by simpa using z1
  have z2:(FloatKind.f64.format.order f f !=some .eq)=true:=by rw [bne,z1];rfl
  clear hf
  go_enter Tryz.func42,Tryz.ntmps42
  go_wp2
  go_ret
  exact ⟨rfl,belN2 _ _ _⟩
end Go.Proofs.YtifendlpeebofabGreatDoor
namespace Go.Proofs.YtifendlpeebofabGreatDoor
open Go.RowKit Go.Shelf Sq
attribute [local go_sem] Oper.semAt_some
section
variable {W:World} {b:Nat} {x:VaV}
end
theorem sp_at {W:World} {b o:Nat} {x:SpV} (h:W.rangeAt b o x.c):(Instr.loadAt 3 (.pointer (some ⟨b,o+0,none⟩))).run Tryz.prog W= .ok (.int .i64 x.fr) W∧(Instr.loadAt 3 (.pointer (some ⟨b,o+1,none⟩))).run Tryz.prog W= .ok (.int .i64 x.to) W∧(Instr.loadAt 9 (.pointer (some ⟨b,o+2,none⟩))).run Tryz.prog W= .ok (.string x.nm) W:=by
 have h0:W.cell? ⟨b,o+0,none⟩=some (.int .i64 x.fr):=h 0 _ rfl
 have h1:W.cell? ⟨b,o+1,none⟩=some (.int .i64 x.to):=h 1 _ rfl
 have h2:W.cell? ⟨b,o+2,none⟩=some (.string x.nm):=h 2 _ rfl
 rw [Nat.add_zero] at h0
 refine ⟨?_, ?_, ?_⟩
 ·clear h1 h2;go_simp
 ·clear h0 h2;go_simp
 ·clear h0 h1;go_simp
theorem sameS_any {w:World} {la lb:Option Addr} {c c2:Nat} {S:List SpV} (ha:RSp.At w la S) (hb:RSp.At w lb S) (ok:∀x∈S,x.ok) (hn:S.length≤2000000000000):Calls Tryz.prog 10 #[.slice la S.length c, .slice lb S.length c2] w fun e w'=>e= .returned (.bool true)∧Below w.heap.size w w':=by
 have HA:=hidMk (fun (W:World) (b:Below w.heap.size w W)=>ha.below b)
 have HB:=hidMk (fun (W:World) (b:Below w.heap.size w W)=>hb.below b)
 obtain ⟨n,hnn⟩:∃n,S.length=n:=⟨_,rfl⟩
 have HN:=hidMk (show S.length=n∧n≤2000000000000 from ⟨hnn,by omega⟩)
 have OK:=hidMk ok
 rw [hnn]
 clear ha hb hn hnn ok
 go_enter Tryz.func10,Tryz.ntmps10
 go_upto_region 1 with fail
 refine ssp1 (la:=la) (lb:=lb) (n:=n) (c:=c) (c2:=c2) _ w _ rfl rfl rfl ?_
 intro a' w3 hw ha
 obtain rfl:w=w3:=hw.symm
 subst ha
 simp only [Act.put,qsA,qsB,qsC]
 go_wp2
 go_loopw [5] (fun v5 wr=> ∃i:Nat,v5= .int .i64 (i:Int)∧i≤n∧Hid (Below w.heap.size w wr)) (fun v5 _=>n-(intOf v5).toNat)
 case atStart=>exact ⟨0,rfl,Nat.zero_le _,Below.refl _ _⟩
 case round =>
  obtain ⟨i,rfl,hi,HI⟩:=hrel
  by_cases h:i<n
  ·have h':(i:Int)<(n:Int):=by omega
   have hn64:n≤9223372036854775807:=by have:=HN.out;omega
   obtain ⟨x,hx⟩:∃x,S[i]? =some x:=⟨_,List.getElem?_eq_getElem (by have:=HN.out;omega)⟩
   obtain ⟨g,o,rfl,gl,hr⟩:=(HA.out wr HI.out).get (i:=i) (by have:=HN.out;omega)
   obtain ⟨g2,o2,rfl,gl2,hr2⟩:=(HB.out wr HI.out).get (i:=i) (by have:=HN.out;omega)
   have e:S[i]'(by have:=HN.out;omega)=x:=(List.getElem?_eq_some_iff.1 hx).2
   have r1:∀W,Below wr.heap.size wr W→W.rangeAt g (o+7*i) x.c:=fun W b=>rangeAt_keep (by rw [e] at hr;exact hr) (b.block g gl)
   have r2:∀W,Below wr.heap.size wr W→W.rangeAt g2 (o2+7*i) x.c:=fun W b=>rangeAt_keep (by rw [e] at hr2;exact hr2) (b.block g2 gl2)
   have bd:Below wr.heap.size wr wr.drew:=(Below.refl _ _).drew
   have MS:=hidMk (show n-(((i+1:Nat):Int)).toNat<n-((i:Nat):Int).toNat by simp only [Int.toNat_natCast];omega)
   have HH1:=hidMk h
   have okx:=OK.out x (List.mem_of_getElem? hx)
   clear hr hr2 e hx
   go_upto_region 6 with fail
   refine ssp6 (g:=g) (o:=o) (g2:=g2) (o2:=o2) (n:=n) (c:=c) (c2:=c2) (i:=i) (x:=x) (fun W=>Below wr.heap.size wr W) _ wr _ rfl rfl rfl rfl bd h hn64 (fun W b=>(sp_at (r1 W b)).1) (fun W b=>(sp_at (r1 W b)).2.1) (fun W b=>(sp_at (r1 W b)).2.2) (fun W b=>sp_v (r1 W b)) (fun W b=>(sp_at (r2 W b)).1) (fun W b=>(sp_at (r2 W b)).2.1) (fun W b=>(sp_at (r2 W b)).2.2) (fun W b=>sp_v (r2 W b)) ((same_self okx.v wr.drew).mono fun e W q=>⟨q.1,bd.trans q.2⟩) ?_
   intro a' w4 bw ha
   have NI:=hidMk (HI.out.trans (bw.mono HI.out.size))
   subst ha
   simp only [Act.put,qsA,qsB,qsC]
   clear r1 r2 bd bw HI
   go_wp2
   rw [show ((i:Int)+1)=((i+1:Nat):Int) by omega]
   exact ⟨⟨i+1,rfl,HH1.out,NI⟩,MS.out⟩
  ·have h':¬((i:Int)<(n:Int)):=by omega
   obtain rfl:i=n:=by omega
   go_wp2
   go_ret
   exact ⟨rfl,HI.out⟩
section
variable {w W W':World} {sb mb:Nat} {E:List Elt} {L:List MkV}
structure SpW (E:List Elt) (L:List MkV) (v:Value) (b:Nat) (S:List SpV) (W:World):Prop where
 lo:RSp.Lo W b v S
 is:SpansIs (hE E L) S
 ok:∀p∈S,p.ok
 len:S.length≤2000000000000
theorem same_g {v v0:Value} {b b0:Nat} {S S0:List SpV} {L0:List MkV} (h:SpW E L v b S W) (h0:SpW E L0 v0 b0 S0 W) (e:S=S0):Calls Tryz.prog 10 #[v,v0] W fun e w'=>e= .returned (.bool true)∧Below W.heap.size W w':=by
 subst e
 obtain ⟨a,c,rfl,hat,_⟩:=h.lo.open RSp_is h.ok
 obtain ⟨a2,c2,rfl,hat2,_⟩:=h0.lo.open RSp_is h.ok
 exact sameS_any hat hat2 h.ok h.len
end
end Go.Proofs.YtifendlpeebofabGreatDoor
namespace Go.Proofs.YtifendlpeebofabGreatDoor
open Go.ChangeShapes Go.WideShapes Go.ChangeAt Go.RowKit Go.Shelf
def u8_ren:Go.Shelf.Ren:=⟨fun n=>n,fun |119=>223|138=>225|139=>226|n=>n,fun |3=>1|4=>2|n=>n⟩
theorem u8t:U8Types Tryz.prog u8_ren:=⟨Tryz.underlying5,Tryz.underlying223,Tryz.underlying225,Tryz.underlying226⟩
theorem u8x:U8Extra Tryz.prog u8_ren:=⟨by kernel_rfl,by kernel_rfl,by kernel_rfl,by kernel_rfl,by kernel_rfl,by kernel_rfl,by kernel_rfl⟩
theorem dF:(Rows.laid_unicode_utf8_first:DataW Unit)=Lib.firstData:=by kernel_rfl
theorem dA:(Rows.laid_unicode_utf8_acceptRanges:DataW Unit)=Lib.acceptData:=by kernel_rfl
theorem tabs_of {W:World} {laid:List (String × DataW Unit)} (h:laidMet Tryz.prog laid W) (h3:("unicode/utf8.first",(Rows.laid_unicode_utf8_first:DataW Unit))∈laid) (h4:("unicode/utf8.acceptRanges",(Rows.laid_unicode_utf8_acceptRanges:DataW Unit))∈laid):K.V.Tabs W:=by
 rw [dF] at h3
 rw [dA] at h4
 exact utf8Tabs_of_readsT u8t u8x (Lib.laidMet.reads h h3) (Lib.laidMet.reads h h4)
theorem reach_opsM {H:Type} {ts:List TypeId} {ds:List (DataW H)} (hsz:(DataW.weightsEach Tryz.prog ts ds).all (· ≤reachBytes)=true) (j:Nat) (ht:ts[j]? =some 22) {d:DataW H} (hd:ds[j]? =some d) {len:Nat}
 (h:d= .nil∧len=0∨∃el sp,d= .slice el sp∧el.length=len):len≤800000000000:=by
 rcases h with ⟨_,rfl⟩|⟨el,sp,rfl,rfl⟩
 ·omega
 ·have:=sized_slice hsz (j:=j) (t:=22) (e:=70) ht hd Tryz.underlying22
  rw [bytes_opM] at this
  simp only [reachBytes] at this
  omega
end Go.Proofs.YtifendlpeebofabGreatDoor
namespace Go.Proofs.YtifendlpeebofabGreatDoor.B
open Go.RowKit
def rpC (n:Nat) (x:List Value):List Value:=(List.replicate n x).flatten
theorem rpC_len (n:Nat) (x:List Value):(rpC n x).length=n*x.length:=by simp [rpC]
theorem rpC_cons (n:Nat) (x:List Value):rpC (n+1) x=x++rpC n x:=by simp [rpC,List.replicate_succ]
theorem rpC_succ (n:Nat) (x:List Value):rpC n x++x=rpC (n+1) x:=by
 unfold rpC
 rw [List.replicate_succ',List.flatten_append]
 simp
theorem rpC_get {x:List Value} {j:Nat} (hj:j<x.length):∀{n k:Nat},k<n→(rpC n x)[k*x.length+j]? =x[j]?
 |0,k,h=>by omega
 |n+1,0,h=>by rw [rpC_cons,Nat.zero_mul,Nat.zero_add,List.getElem?_append_left hj]
 |n+1,k+1,h=>by
  rw [rpC_cons,List.getElem?_append_right (by rw [Nat.succ_mul];omega),show (k+1)*x.length+j-x.length=k*x.length+j by rw [Nat.succ_mul];omega]
  exact rpC_get hj (by omega)
theorem rpC_pre (n m:Nat) (x:List Value) {j:Nat} (hj:j<n*x.length):(rpC (n+m) x)[j]? =(rpC n x)[j]? :=by
 have hx:0<x.length:=by
  rcases Nat.eq_zero_or_pos x.length with h|h
  ·rw [h] at hj;omega
  ·exact h
 have h1:j / x.length<n:=(Nat.div_lt_iff_lt_mul hx).2 hj
 have h2:j=j / x.length*x.length+j % x.length:=by rw [Nat.mul_comm];exact (Nat.div_add_mod j x.length).symm
 rw [h2,rpC_get (Nat.mod_lt _ hx) (by omega),rpC_get (Nat.mod_lt _ hx) h1]
def fillC (k:Nat) (x L:List Value):List Value:=rpC k x++L.drop (k*x.length)
theorem fillC_zero (x L:List Value):fillC 0 x L=L:=by simp [fillC,rpC]
theorem fillC_all {n:Nat} {x L:List Value} (h:L.length=n*x.length):fillC n x L=rpC n x:=by
 unfold fillC
 rw [←h,List.drop_length,List.append_nil]
def RdC (w:World) (a:Option Addr) (n:Nat) (x:List Value):Prop:=n=0∨∃b off,a=some ⟨b,off,none⟩∧∀j u,(rpC n x)[j]? =some u→w.cell? ⟨b,off+j,none⟩=some u
theorem RdC.grown {w w':World} {a:Option Addr} {n:Nat} {x:List Value} {row:Option Nat} (h:RdC w a n x) (gr:w.grownBy w' row) (hne:0<n→∀b off,a=some ⟨b,off,none⟩→some b≠row):RdC w' a n x:=by
 rcases h with rfl|⟨b,off,rfl,hc⟩
 ·exact .inl rfl
 ·rcases Nat.eq_zero_or_pos n with h0|h0
  ·exact .inl h0
  ·exact .inr ⟨b,off,rfl,fun j u hj=>gr.cell (hc j u hj) (hne h0 b off rfl)⟩
theorem RdC.below {w w':World} {a:Option Addr} {n:Nat} {x:List Value} (h:RdC w a n x) (hb:Below w.heap.size w w'):RdC w' a n x:=by
 rcases h with rfl|⟨b,off,rfl,hc⟩
 ·exact .inl rfl
 ·exact .inr ⟨b,off,rfl,fun j u hj=>(hb.cell (p:=⟨b,off+j,none⟩) (block_lt_of_cell (hc j u hj))).trans (hc j u hj)⟩
theorem own_rd {w:World} {base e sz:Nat} {a:Option Addr} {n c:Nat} {x:List Value} (h:w.ownsRow base e sz (.slice a n c) n (rpC n x)):RdC w a n x:=by
 have hc:=fun g hg=>World.ownsRow.cells h (g:=g) hg
 rcases h.2 with ⟨_,hn⟩|⟨g,cap,cur,ev,_⟩
 ·exact .inl hn
 ·cases ev
  refine .inr ⟨g,0,rfl,fun j u hj=> ?_⟩
  have:=hc g rfl j u hj
  rw [Addr.add_mid] at this
  exact this
theorem own_slice {w:World} {base e sz n:Nat} {v:Value} {xs:List Value} (h:w.ownsRow base e sz v n xs):∃a c,v= .slice a n c:=by
 rcases h.2 with ⟨rfl,rfl⟩|⟨g,cap,cur,rfl,_⟩
 ·exact ⟨_,_,rfl⟩
 ·exact ⟨_,_,rfl⟩
theorem own_below {w w':World} {base e sz n:Nat} {v:Value} {xs:List Value} (h:w.ownsRow base e sz v n xs) (hb:Below w.heap.size w w'):w'.ownsRow base e sz v n xs :=
 World.ownsRow.kept h (row:=none) ⟨hb.os,hb.tape,hb.output,hb.size,fun k hk _=>hb.block k hk⟩ (by cases hx:v.ownBlock <;>simp)
theorem own_other {w:World} {q base j e sz n:Nat} {v u:Value} {xs:List Value} (h:w.ownsRow base e sz v n xs) (hq:v.ownBlock≠some q):(w.setCell ⟨q,j,none⟩ u).ownsRow base e sz v n xs:=by
 refine ⟨h.1, ?_⟩
 rcases h.2 with hn|⟨g,cap,cur,rfl,hbg,hg,rest⟩
 ·exact .inl hn
 ·refine .inr ⟨g,cap,cur,rfl,hbg, ?_,rest⟩
  rw [Below.heap_setCell _ _ _ _ (fun e=>hq (by simp [Value.ownBlock];exact e))]
  exact hg
theorem run_app3 {P:Program} (w:World) (base:Nat) (t ty e:TypeId) (i:TypeInfo) (z:Value) (size bytes:Nat) (ht:P.underlying t=some (.slice e)) (hi:P.info? e=some i) (hz:i.zero=some z)
 (hsize:i.size=size) (hby:i.bytes=bytes) (hzs:z.cells.size=size) (hsz:0<size) (v:Value) (n:Nat) (xs:List Value) (hown:w.ownsRow base e size v n xs)
 (ad:Addr) (c:Nat) (news:List Value) (hl:news.length=1*size) (hnews:∀j u,news[j]? =some u→w.cell? (ad.add j)=some u) (h1:∀u∈news,u.oneCell'=true)
 (h63:n+1≤maxLen) (hbytes:(n+1)*bytes≤140737488355328) (hbase:base≤w.heap.size) :
 ∃v' w',(Builtin.append_ #[t,t] ty #[v, .slice (some ad) 1 c]).run P w= .ok v' w'∧w'.ownsRow base e size v' (n+1) (xs++news)∧w.grownBy w' v.ownBlock ∧
  (v'.ownBlock=v.ownBlock∨v'.ownBlock=some w.heap.size∧Below w.heap.size w w'):=by
 obtain ⟨v',w',hr,own,gr,_,hblk⟩:=run_append_own_at (P:=P) w base t ty e i z size bytes ht hi hz hsize hby hzs hsz v n xs hown ad 1 c news hl hnews h1 h63 hbytes hbase
 refine ⟨v',w',hr,own,gr, ?_⟩
 rcases hblk with e1|e1
 ·exact .inl e1
 ·refine .inr ⟨e1, ?_⟩
  cases hv:v.ownBlock with
  |none=>exact (Below.refl _ _).grown gr (Nat.le_refl _) (fun k hk=>by rw [hv] at hk;cases hk)
  |some g =>
   rcases hown.2 with ⟨rfl,hn⟩|⟨g',cap,cur,rfl,hbg,hg,hnc,hcm,hcs,htake⟩
   ·simp [Value.ownBlock] at hv
   ·have hg':g'<w.heap.size:=(Array.getElem?_eq_some_iff.1 hg).1
    subst hsize hby
    by_cases hroom:n+1≤cap
    ·have hr2:=run_append_room (P:=P) w t ty e i ht hi g' n cap cur hg ad 1 c news (by rw [hl]) hnews h1 hroom (by rw [hl,hcs, ←Nat.add_mul];exact Nat.mul_le_mul_right _ hroom)
     rw [hr] at hr2
     injection hr2 with e2 e3
     rw [e2] at e1
     simp [Value.ownBlock] at e1
     omega
    ·have hr2:=run_append_grow (P:=P) w t ty e i z ht hi hz ⟨g',0,none⟩ n cap xs (by rw [hown.1]) (hown.cells (g:=g') rfl) ad 1 c news (by rw [hl]) hnews (by omega) (by unfold maxLen at h63;omega) (growslice_fits (by omega) (by simpa using hbytes))
     rw [hr] at hr2
     injection hr2 with e2 e3
     rw [e3]
     exact (Go.below_drewN (Below.refl _ _) 1).alloc (Nat.le_refl _) _
theorem grow_step {wa w':World} {base W n cap m e sz:Nat} {a:Option Addr} {x:List Value} {g g':Value} (hW:W≤wa.heap.size) (hx:0<x.length)
 (hB:RdC wa a n x) (hv:∀b off,0<n→a=some ⟨b,off,none⟩→(Value.slice a n cap).ownBlock=some b∧off=0∧b<W)
 (own':w'.ownsRow base e sz g' (n+m+1) (rpC (n+m+1) x)) (gr:wa.grownBy w' g.ownBlock)
 (h4:g'.ownBlock=g.ownBlock∨g'.ownBlock=some wa.heap.size∧Below wa.heap.size wa w')
 (hg:g.ownBlock=(Value.slice a n cap).ownBlock∨∃b,g.ownBlock=some b∧W≤b) :
 RdC w' a n x∧(g'.ownBlock=(Value.slice a n cap).ownBlock∨∃b,g'.ownBlock=some b∧W≤b):=by
 refine ⟨?_, ?_⟩
 ·rcases hB with h0|⟨b,off,rfl,hc⟩
  ·exact .inl h0
  by_cases hn:0<n
  ·obtain ⟨hvb,rfl,hbW⟩:=hv b off hn rfl
   rcases hg with e1|⟨b2,e1,hb2⟩
   ·rcases h4 with e4|⟨e4,bl⟩
    ·have eo:g'.ownBlock=some b:=by rw [e4,e1,hvb]
     refine .inr ⟨b,0,rfl,fun j u hj=> ?_⟩
     have hjl:j<n*x.length:=by
      have:=(List.getElem?_eq_some_iff.1 hj).1
      rwa [rpC_len] at this
     have hj2:(rpC (n+m+1) x)[j]? =some u:=by rw [Nat.add_assoc,rpC_pre n (m+1) x hjl];exact hj
     have:=World.ownsRow.cells own' eo j u hj2
     rw [Addr.add_mid] at this
     exact this
    ·exact .inr ⟨b,0,rfl,fun j u hj=>(bl.cell (p:=⟨b,0+j,none⟩) (block_lt_of_cell (hc j u hj))).trans (hc j u hj)⟩
   ·exact .inr ⟨b,0,rfl,fun j u hj=>gr.cell (hc j u hj) (fun e3=>by rw [e1] at e3;simp at e3;omega)⟩
  ·left;omega
 ·rcases h4 with e4|⟨e4,_⟩
  ·rw [e4];exact hg
  ·exact .inr ⟨_,e4,hW⟩
structure Lst where
 a:Option Addr
 n:Nat
 c:Nat
def Lst.v (l:Lst):Value:= .slice l.a l.n l.c
structure BookAt (w:World) (q fi B cB N:Nat) (qo:Option Obj) (V:Nat→Lst):Prop where
 cq:w.cell? ⟨q,fi,none⟩=some (.slice (some ⟨B,0,none⟩) N cB)
 cr:∀i,i<N→w.cell? ⟨B,i,none⟩=some (V i).v
 ho:w.heap[q]? =qo
 lB:B<w.heap.size
theorem BookAt.keep {w w':World} {q fi B cB N:Nat} {qo:Option Obj} {V:Nat→Lst} (h:BookAt w q fi B cB N qo V) (hq:w'.heap[q]? =w.heap[q]?) (hB:w'.heap[B]? =w.heap[B]?) (hs:w.heap.size≤w'.heap.size):BookAt w' q fi B cB N qo V :=
 ⟨(World.cell?_of_block hq).trans h.cq,fun i hi=>(World.cell?_of_block hB).trans (h.cr i hi),hq.trans h.ho,Nat.lt_of_lt_of_le h.lB hs⟩
theorem BookAt.lq {w:World} {q fi B cB N:Nat} {qo:Option Obj} {V:Nat→Lst} (h:BookAt w q fi B cB N qo V):q<w.heap.size:=block_lt_of_cell h.cq
def Tg (tg:Nat→Nat) (v:Value) (t:Nat):Prop:=∀b,v.ownBlock=some b→tg b=t
structure Ph1 (w0 w:World) (base q fi B cB N e sz:Nat) (qo:Option Obj) (V:Nat→Lst) (tg:Nat→Nat) (F:Nat→List Value):Prop where
 bk:BookAt w q fi B cB N qo V
 tq:tg q=0
 tB:tg B=0
 ow:∀i,i<N→w.ownsRow base e sz (V i).v (V i).n (F i)∧Tg tg (V i).v (i+1)
 be:Below base w0 w
 fr:∀k,k<w0.heap.size→tg k=0→w.heap[k]? =w0.heap[k]?
def upF (F:Nat→List Value) (m:Nat) (l:List Value):Nat→List Value:=fun i=>if i=m then l else F i
theorem upF_at (F:Nat→List Value) (m:Nat) (l:List Value):upF F m l m=l:=by unfold upF;rw [if_pos rfl]
theorem upF_up (F:Nat→List Value) (m:Nat) (l l':List Value):upF (upF F m l) m l'=upF F m l':=by
 funext i
 unfold upF
 split <;>rfl
structure Ph2 (w0 w:World) (base q fi B cB N e sz te:Nat) (qo:Option Obj) (V:Nat→Lst) (X:Nat→List Value) (tz tg:Nat→Nat) (lo m:Nat) (G:Nat→Value) (all:Value):Prop where
 bk:BookAt w q fi B cB N qo V
 tq:tg q=0
 tB:tg B=0
 rd:∀i,i<N→RdC w (V i).a (V i).n (X i)∧Tg tg (V i).v (i+1)∧∀b,(V i).v.ownBlock=some b→b<w.heap.size
 ow:∀i,lo≤i→i<N→w.ownsRow base e sz (V i).v (V i).n (rpC (V i).n (X i))
 gs:∀i,i<m→w.ownsRow base e sz (G i) ((V i).n+20) (rpC ((V i).n+20) (X i))∧Tg tg (G i) (i+1)
 al:w.ownsRow base te 1 all m ((List.range m).map G)∧Tg tg all (N+1)
 be:Below base w0 w
 zb:base≤w.heap.size
 z0:w0.heap.size≤w.heap.size
 fr:∀k,k<w0.heap.size→tz k=0→tg k=0∧w.heap[k]? =w0.heap[k]?
def tgN (tg:Nat→Nat) (z t:Nat):Nat→Nat:=fun b=>if b<z then tg b else t
section
variable {w0 w w':World} {base q fi B cB N e sz te:Nat} {qo:Option Obj} {V:Nat→Lst} {X:Nat→List Value} {tz tg:Nat→Nat} {lo m:Nat} {G:Nat→Value} {all:Value}
theorem Ph2.below (h:Ph2 w0 w base q fi B cB N e sz te qo V X tz tg lo m G all) (hb:Below w.heap.size w w'):Ph2 w0 w' base q fi B cB N e sz te qo V X tz tg lo m G all :=
 ⟨h.bk.keep (hb.block q h.bk.lq) (hb.block B h.bk.lB) hb.size,h.tq,h.tB,fun i hi=>⟨(h.rd i hi).1.below hb,(h.rd i hi).2.1,fun b e=>Nat.lt_of_lt_of_le ((h.rd i hi).2.2 b e) hb.size⟩,
  fun i h1 h2=>own_below (h.ow i h1 h2) hb,fun i hi=>⟨own_below (h.gs i hi).1 hb,(h.gs i hi).2⟩,⟨own_below h.al.1 hb,h.al.2⟩,h.be.trans (hb.mono h.zb),Nat.le_trans h.zb hb.size,Nat.le_trans h.z0 hb.size,fun k hk ht=>⟨(h.fr k hk ht).1,(hb.block k (Nat.lt_of_lt_of_le hk h.z0)).trans (h.fr k hk ht).2⟩⟩
theorem Tg.new {v:Value} {t:Nat} (z t':Nat) (h:Tg tg v t) (hl:∀b,v.ownBlock=some b→b<z):Tg (tgN tg z t') v t:=fun b e=>by
 unfold tgN
 rw [if_pos (hl b e)]
 exact h b e
theorem Ph2.grow (h:Ph2 w0 w base q fi B cB N e sz te qo V X tz tg lo m G all) (t:Nat) (v v':Value) (h1:1≤t) (gr:w.grownBy w' v.ownBlock) (ht:Tg tg v t) (hv:∀b,v.ownBlock=some b→base≤b∧b<w.heap.size) (hblk:v'.ownBlock=v.ownBlock∨v'.ownBlock=some w.heap.size)
 (hrd:∀i,i+1=t→i<N→RdC w' (V i).a (V i).n (X i)) (how:∀i,lo≤i→i<N→i+1≠t) (hgs:∀i,i<m→i+1≠t) (hal:N+1≠t):Ph2 w0 w' base q fi B cB N e sz te qo V X tz (tgN tg w.heap.size t) lo m G all∧Tg (tgN tg w.heap.size t) v' t:=by
 have ne:∀b,tg b≠t→some b≠v.ownBlock:=fun b hb e=>hb (ht b e.symm)
 have kp:∀{e:TypeId} {sz n:Nat} {u:Value} {xs:List Value} {s:Nat},w.ownsRow base e sz u n xs→Tg tg u s→s≠t→w'.ownsRow base e sz u n xs:=fun {e sz n u xs s} o tu hs=>World.ownsRow.kept o gr (by
  cases hx:u.ownBlock with
  |none=>exact .inl rfl
  |some b=>exact .inr (fun e=>by have:=tu b hx;have:=ht b e.symm;omega))
 have lt:∀{e:TypeId} {sz n:Nat} {u:Value} {xs:List Value},w.ownsRow base e sz u n xs→∀b,u.ownBlock=some b→b<w.heap.size:=fun o b e=>(World.ownsRow.lt o b e).2
 refine ⟨⟨h.bk.keep (gr.block q h.bk.lq (ne q (by rw [h.tq];omega))) (gr.block B h.bk.lB (ne B (by rw [h.tB];omega))) gr.size, ?_, ?_,fun i hi=> ?_,fun i h1 h2=>kp (h.ow i h1 h2) (h.rd i h2).2.1 (how i h1 h2),fun i hi=>⟨kp (h.gs i hi).1 (h.gs i hi).2 (hgs i hi),(h.gs i hi).2.new _ _ (lt (h.gs i hi).1)⟩,⟨kp h.al.1 h.al.2 hal,h.al.2.new _ _ (lt h.al.1)⟩,h.be.grown gr h.zb (fun b e=>(hv b e).1),Nat.le_trans h.zb gr.size,Nat.le_trans h.z0 gr.size,fun k hk ht0=>(by
  have hkz:=Nat.lt_of_lt_of_le hk h.z0
  obtain ⟨f1,f2⟩:=h.fr k hk ht0
  refine ⟨?_,(gr.block k hkz (ne k (by rw [f1];omega))).trans f2⟩
  unfold tgN
  rw [if_pos hkz]
  exact f1)⟩,fun b e=> ?_⟩
 ·unfold tgN;rw [if_pos h.bk.lq];exact h.tq
 ·unfold tgN;rw [if_pos h.bk.lB];exact h.tB
 ·obtain ⟨r1,r2,r3⟩:=h.rd i hi
  refine ⟨?_,r2.new _ _ r3,fun b e=>Nat.lt_of_lt_of_le (r3 b e) gr.size⟩
  by_cases e:i+1=t
  ·exact hrd i e hi
  ·exact r1.grown gr (fun _ b off ea e2=>by
        have:(V i).v.ownBlock=some b:=by unfold Lst.v;rw [ea];rfl
        have:=r2 b this
        have:=ht b e2.symm
        omega)
 ·unfold tgN
  rcases hblk with e2|e2
  ·rw [e2] at e
   rw [if_pos (hv b e).2]
   exact ht b e
  ·rw [e2] at e
   cases e
   rw [if_neg (by omega)]
theorem Ph2.done (h:Ph2 w0 w base q fi B cB N e sz te qo V X tz tg (m+1) m G all) (hm:m<N) (g all':Value) (og:w.ownsRow base e sz g ((V m).n+20) (rpC ((V m).n+20) (X m))) (hg:Tg tg g (m+1)) (gr:w.grownBy w' all.ownBlock) (hblk:all'.ownBlock=all.ownBlock∨all'.ownBlock=some w.heap.size)
 (rows:w'.ownsRow base te 1 all' (m+1) ((List.range m).map G++[g])):∃tg',Ph2 w0 w' base q fi B cB N e sz te qo V X tz tg' (m+1) (m+1) (fun i=>if i=m then g else G i) all':=by
 have ht:=h.al.2
 have hv:∀b,all.ownBlock=some b→base≤b∧b<w.heap.size:=fun b e=>World.ownsRow.lt h.al.1 b e
 have ne:∀b,tg b≠N+1→some b≠all.ownBlock:=fun b hb e=>hb (ht b e.symm)
 have kp:∀{e:TypeId} {sz n:Nat} {u:Value} {xs:List Value} {s:Nat},w.ownsRow base e sz u n xs→Tg tg u s→s≠N+1→w'.ownsRow base e sz u n xs:=fun {e sz n u xs s} o tu hs=>World.ownsRow.kept o gr (by
  cases hx:u.ownBlock with
  |none=>exact .inl rfl
  |some b=>exact .inr (fun e=>by have:=tu b hx;have:=ht b e.symm;omega))
 have lt:∀{e:TypeId} {sz n:Nat} {u:Value} {xs:List Value},w.ownsRow base e sz u n xs→∀b,u.ownBlock=some b→b<w.heap.size:=fun o b e=>(World.ownsRow.lt o b e).2
 refine ⟨tgN tg w.heap.size (N+1),⟨h.bk.keep (gr.block q h.bk.lq (ne q (by rw [h.tq];omega))) (gr.block B h.bk.lB (ne B (by rw [h.tB];omega))) gr.size, ?_, ?_,fun i hi=> ?_,fun i h1 h2=>kp (h.ow i h1 h2) (h.rd i h2).2.1 (by omega),fun i hi=> ?_,⟨?_,fun b e=> ?_⟩,h.be.grown gr h.zb (fun b e=>(hv b e).1),Nat.le_trans h.zb gr.size,Nat.le_trans h.z0 gr.size,fun k hk ht0=>(by
  have hkz:=Nat.lt_of_lt_of_le hk h.z0
  obtain ⟨f1,f2⟩:=h.fr k hk ht0
  refine ⟨?_,(gr.block k hkz (ne k (by rw [f1];omega))).trans f2⟩
  unfold tgN
  rw [if_pos hkz]
  exact f1)⟩⟩
 ·unfold tgN;rw [if_pos h.bk.lq];exact h.tq
 ·unfold tgN;rw [if_pos h.bk.lB];exact h.tB
 ·obtain ⟨r1,r2,r3⟩:=h.rd i hi
  refine ⟨r1.grown gr (fun _ b off ea e2=> ?_),r2.new _ _ r3,fun b e=>Nat.lt_of_lt_of_le (r3 b e) gr.size⟩
  have:(V i).v.ownBlock=some b:=by unfold Lst.v;rw [ea];rfl
  have:=r2 b this
  have:=ht b e2.symm
  omega
 ·show w'.ownsRow base e sz (if i=m then g else G i) _ _∧Tg _ (if i=m then g else G i) _
  by_cases e:i=m
  ·subst e
   rw [if_pos rfl]
   exact ⟨kp og hg (by omega),hg.new _ _ (lt og)⟩
  ·rw [if_neg e]
   have hi2:i<m:=by omega
   exact ⟨kp (h.gs i hi2).1 (h.gs i hi2).2 (by omega),(h.gs i hi2).2.new _ _ (lt (h.gs i hi2).1)⟩
 ·have:(List.range (m+1)).map (fun i=>if i=m then g else G i)=(List.range m).map G++[g]:=by
   rw [List.range_succ,List.map_append]
   congr 1
   ·apply List.map_congr_left
    intro i hi
    rw [if_neg (by have:=List.mem_range.1 hi;omega)]
   ·simp
  rw [this]
  exact rows
 ·unfold tgN
  rcases hblk with e2|e2
  ·rw [e2] at e
   rw [if_pos (hv b e).2]
   exact ht b e
  ·rw [e2] at e
   cases e
   rw [if_neg (by omega)]
theorem Ph2.weak (h:Ph2 w0 w base q fi B cB N e sz te qo V X tz tg lo m G all) (lo':Nat) (hl:lo≤lo'):Ph2 w0 w base q fi B cB N e sz te qo V X tz tg lo' m G all :=
 ⟨h.bk,h.tq,h.tB,h.rd,fun i h1 h2=>h.ow i (by omega) h2,h.gs,h.al,h.be,h.zb,h.z0,h.fr⟩
def mF (V:Nat→Lst) (X L:Nat→List Value) (m:Nat):Nat→List Value:=fun i=>if i<m then rpC (V i).n (X i) else L i
theorem mF_start (V:Nat→Lst) (X L:Nat→List Value) (m:Nat):upF (mF V X L m) m (fillC 0 (X m) (L m))=mF V X L m:=by
 funext i
 unfold upF mF
 by_cases e:i=m
 ·subst e;rw [if_pos rfl,fillC_zero,if_neg (by omega)]
 ·rw [if_neg e]
theorem mF_end (V:Nat→Lst) (X L:Nat→List Value) (m:Nat) (h:(L m).length=(V m).n*(X m).length):upF (mF V X L m) m (fillC (V m).n (X m) (L m))=mF V X L (m+1):=by
 funext i
 unfold upF mF
 by_cases e:i=m
 ·subst e;rw [if_pos rfl,fillC_all h,if_pos (by omega)]
 ·rw [if_neg e]
  by_cases e2:i<m
  ·rw [if_pos e2,if_pos (by omega)]
  ·rw [if_neg e2,if_neg (by omega)]
theorem ph2_start {L:Nat→List Value} (h:Ph1 w0 w base q fi B cB N e sz qo V tg (mF V X L N)) (hb:base≤w.heap.size) (hz0:w0.heap.size≤w.heap.size):Ph2 w0 w base q fi B cB N e sz te qo V X tg tg 0 0 (fun _=> .slice none 0 0) (.slice none 0 0):=by
 have key:∀i,i<N→w.ownsRow base e sz (V i).v (V i).n (rpC (V i).n (X i)):=fun i hi=>by
  have:=(h.ow i hi).1
  unfold mF at this
  rwa [if_pos hi] at this
 exact ⟨h.bk,h.tq,h.tB,fun i hi=>⟨own_rd (key i hi),(h.ow i hi).2,fun b e=>(World.ownsRow.lt (key i hi) b e).2⟩,fun i _ hi=>key i hi,fun i hi=>by omega,⟨World.ownsRow_nil _ _ _ _,fun b e=>by cases e⟩,h.be,hb,hz0,fun k hk ht=>⟨ht,h.fr k hk ht⟩⟩
def Gr (w:World) (base e sz W:Nat) (tg:Nat→Nat) (x:List Value) (m n0 k0 k:Nat) (a0:Option Addr) (g:Value):Prop :=
 w.ownsRow base e sz g (n0+k) (rpC (n0+k) x)∧Tg tg g (m+1)∧(g.ownBlock=(Value.slice a0 n0 k0).ownBlock∨∃b,g.ownBlock=some b∧W≤b)∧W≤w.heap.size
noncomputable def tgOf (N:Nat) (V:Nat→Lst) (b:Nat):Nat:= @dite _ (∃i,i<N∧(V i).v.ownBlock=some b) (Classical.propDecidable _) (fun h=>Classical.choose h+1) (fun _=>0)
theorem tgOf_own (sep:∀i j,i<N→j<N→∀b,(V i).v.ownBlock=some b→(V j).v.ownBlock=some b→i=j) (i:Nat) (hi:i<N):Tg (tgOf N V) (V i).v (i+1):=fun b e=>by
 have hx:∃i,i<N∧(V i).v.ownBlock=some b:=⟨i,hi,e⟩
 unfold tgOf
 rw [dif_pos hx]
 have hs:=Classical.choose_spec hx
 rw [sep _ i hs.1 hi b hs.2 e]
theorem tgOf_no (b:Nat) (h:∀i,i<N→(V i).v.ownBlock≠some b):tgOf N V b=0:=by
 unfold tgOf
 rw [dif_neg]
 rintro ⟨i,hi,e⟩
 exact h i hi e
end
theorem add_txt (x y z:ByteArray) (h:x.size+y.size≤9223372036854775807) (hz:z=x++y) (w:World):(Op.stringOp .add x y).run Tryz.prog w= .ok (.string z) w:=by
 rw [run_string_add_sum w x y h,hz]
theorem wrap_nat (n:Nat) (h:n≤4398046510976):Go.RowKit.wrap64 (n:Int)=(n:Int):=by unfold Go.RowKit.wrap64;omega
theorem wrap_let (n:Nat) (h:n<26):IntKind.u8.wrap (97+(n:Int))=97+(n:Int):=by rw [IntKind.wrap_u8];omega
theorem tmod_26 (n:Nat):(n:Int).tmod 26=((n % 26:Nat):Int):=by rw [Int.tmod_eq_emod_of_nonneg (by omega)];omega
theorem tdiv_26 (n:Nat):(n:Int).tdiv 26=((n / 26:Nat):Int):=by rw [Int.tdiv_eq_ediv_of_nonneg (by omega)];omega
theorem tdiv_676 (n:Nat):(n:Int).tdiv 676=((n / 676:Nat):Int):=by rw [Int.tdiv_eq_ediv_of_nonneg (by omega)];omega
def txB (i:Nat):ByteArray:=⟨#[109,97,114,107,32,UInt8.ofNat (97+i % 26),UInt8.ofNat (97+i / 26 % 26),UInt8.ofNat (97+i / 676 % 26)]⟩
theorem ltr_val (d:Nat) (h:d<26):((UInt8.ofNat (97+d)).toNat:Int)=97+(d:Int):=by
 rw [UInt8.toNat_ofNat']
 omega
theorem conv3 (w:World) (d1 d2 d3:Nat) (l1:d1<26) (l2:d2<26) (l3:d3<26):(convert 132 9 (.slice (some ⟨w.heap.size,0,none⟩) 3 3)).run Tryz.prog (w.alloc (.cells #[.int .u8 (97+(d1:Int)), .int .u8 (97+(d2:Int)), .int .u8 (97+(d3:Int))] 5))= .ok (.string ⟨#[UInt8.ofNat (97+d1),UInt8.ofNat (97+d2),UInt8.ofNat (97+d3)]⟩) (w.alloc (.cells #[.int .u8 (97+(d1:Int)), .int .u8 (97+(d2:Int)), .int .u8 (97+(d3:Int))] 5)):=by
 have g0:=heap_alloc_new w (.cells #[.int .u8 (97+(d1:Int)), .int .u8 (97+(d2:Int)), .int .u8 (97+(d3:Int))] 5)
 exact run_convert_bytes_back (P:=Tryz.prog) (w.alloc (.cells #[.int .u8 (97+(d1:Int)), .int .u8 (97+(d2:Int)), .int .u8 (97+(d3:Int))] 5)) 132 9 5 ⟨w.heap.size,0,none⟩ 3 [UInt8.ofNat (97+d1),UInt8.ofNat (97+d2),UInt8.ofNat (97+d3)] Tryz.underlying132 Tryz.underlying5 Tryz.underlying9 (fun j hj=>by
  rw [Addr.add_mid,Nat.zero_add,cell_of_row _ _ j _ _ _ g0, ←ltr_val d1 l1, ←ltr_val d2 l2, ←ltr_val d3 l3]
  match j,hj with
  |0,_=>rfl
  |1,_=>rfl
  |2,_=>rfl)
theorem txB_add (i:Nat) (w:World):(Op.stringOp .add {data:= #[109,97,114,107,32]} ⟨#[UInt8.ofNat (97+i % 26),UInt8.ofNat (97+i / 26 % 26),UInt8.ofNat (97+i / 676 % 26)]⟩).run Tryz.prog w= .ok (.string (txB i)) w :=
 add_txt _ _ _ (by simp [ByteArray.size]) rfl w
theorem text_any (i:Nat) (w:World) (hi:i≤4398046510976) :
 Calls Tryz.prog 68 #[.int .i64 (i:Int)] w fun e w'=>e= .returned (.string (txB i))∧Below w.heap.size w w':=by
 have hcv:=conv3 w (i % 26) (i / 26 % 26) (i / 676 % 26) (Nat.mod_lt _ (by decide)) (Nat.mod_lt _ (by decide)) (Nat.mod_lt _ (by decide))
 have hs:=txB_add i
 have q1:=tmod_26 i
 have q2:=tdiv_26 i
 have q3:=tmod_26 (i / 26)
 have q4:=tdiv_676 i
 have q5:=tmod_26 (i / 676)
 have wz2:Go.RowKit.wrap64 ((i / 26:Nat):Int)=((i / 26:Nat):Int):=wrap_nat _ (Nat.le_trans (Nat.div_le_self _ _) hi)
 have wz3:Go.RowKit.wrap64 ((i / 676:Nat):Int)=((i / 676:Nat):Int):=wrap_nat _ (Nat.le_trans (Nat.div_le_self _ _) hi)
 have r1:=wrap_let (i % 26) (Nat.mod_lt _ (by decide))
 have r2:=wrap_let (i / 26 % 26) (Nat.mod_lt _ (by decide))
 have r3:=wrap_let (i / 676 % 26) (Nat.mod_lt _ (by decide))
 have l1:i % 26<26:=Nat.mod_lt _ (by decide)
 have l2:i / 26 % 26<26:=Nat.mod_lt _ (by decide)
 have l3:i / 676 % 26<26:=Nat.mod_lt _ (by decide)
 have bw:Hid (Below w.heap.size w (w.alloc (.cells #[.int .u8 (97+((i % 26:Nat):Int)), .int .u8 (97+((i / 26 % 26:Nat):Int)), .int .u8 (97+((i / 676 % 26:Nat):Int))] 5))):=(Below.refl _ _).alloc (Nat.le_refl _) _
 generalize txB i=T at *
 generalize i / 26 % 26=d2 at *
 generalize i / 676 % 26=d3 at *
 generalize i / 26=e2 at *
 generalize i / 676=e3 at *
 generalize i % 26=d1 at *
 generalize (⟨#[UInt8.ofNat (97+d1),UInt8.ofNat (97+d2),UInt8.ofNat (97+d3)]⟩:ByteArray)=Y at *
 go_enter Tryz.func68,Tryz.ntmps68
 go_wp2
 go_ret
 exact ⟨rfl,bw.out⟩
end Go.Proofs.YtifendlpeebofabGreatDoor.B
