import Derived.Test.YtifendlpeebofaaGreatDoorP6
import Derived.Test.YtifendlpeebofaaGreatDoorTie
import Derived.Test.YtifendlpeebofaaGreatDoorCards
import Derived.Lib.LaidU8T
import Derived.Lib.LaidU8
import Derived.LaidMore
import Derived.MakeChecks
import Derived.Lay
import Derived.Lib.SmallJoins
import Derived.Stop.Joined
import Derived.SevenTiedAt
import Derived.SizedLaws
import Derived.Deep.DeepHandedRow
import Derived.JoinedCond
import Derived.Deep.RegionHeld3
import Derived.WalkKit
import Derived.Test.YtifendlpeebofaaGreatDoorXea
import Derived.ChangeKeysEq
import Derived.Test.YtifendlpeebofaaGreatDoorRows
import Derived.Test.YtifendlpeebofaaGreatDoorP2
import Derived.StillTailTactics
import Derived.Test.YtifendlpeebofaaGreatDoorP0
import Derived.Test.YtifendlpeebofaaGreatDoorP5
import Derived.Test.YtifendlpeebofaaGreatDoorP4
set_option linter.unusedSimpArgs false
set_option linter.unusedVariables false
set_option maxRecDepth 100000
set_option maxHeartbeats 4000000
namespace Go.Proofs.YtifendlpeebofaaGreatDoor
open Go.RowKit Go.Shelf Sq
attribute [local go_sem] Oper.semAt_some
section
variable {W:World} {b:Nat} {x:VaV}
theorem ld_vn (h:VaAt W b x):(Instr.loadAt 2 (.pointer (some ⟨b,0+1,none⟩))).run Tryz.prog W= .ok (.int .i64 x.n) W:=by
 have hc:W.cell? ⟨b,1,none⟩=some (.int .i64 x.n):=(cell_of_row W b 1 _ _ _ h).trans rfl
 go_simp
theorem ld_vf (h:VaAt W b x):(Instr.loadAt 38 (.pointer (some ⟨b,0+2,none⟩))).run Tryz.prog W= .ok (.float .f64 x.f) W:=by
 have hc:W.cell? ⟨b,2,none⟩=some (.float .f64 x.f):=(cell_of_row W b 2 _ _ _ h).trans rfl
 go_simp
theorem ld_vs (h:VaAt W b x):(Instr.loadAt 9 (.pointer (some ⟨b,0+3,none⟩))).run Tryz.prog W= .ok (.string x.s) W:=by
 have hc:W.cell? ⟨b,3,none⟩=some (.string x.s):=(cell_of_row W b 3 _ _ _ h).trans rfl
 go_simp
end
theorem sp_at {W:World} {b o:Nat} {x:SpV} (h:W.rangeAt b o x.c):(Instr.loadAt 3 (.pointer (some ⟨b,o+0,none⟩))).run Tryz.prog W= .ok (.int .i64 x.fr) W∧(Instr.loadAt 3 (.pointer (some ⟨b,o+1,none⟩))).run Tryz.prog W= .ok (.int .i64 x.to) W∧(Instr.loadAt 9 (.pointer (some ⟨b,o+2,none⟩))).run Tryz.prog W= .ok (.string x.nm) W:=by
 have h0:W.cell? ⟨b,o+0,none⟩=some (.int .i64 x.fr):=h 0 _ rfl
 have h1:W.cell? ⟨b,o+1,none⟩=some (.int .i64 x.to):=h 1 _ rfl
 have h2:W.cell? ⟨b,o+2,none⟩=some (.string x.nm):=h 2 _ rfl
 rw [Nat.add_zero] at h0
 refine ⟨?_, ?_, ?_⟩
 ·clear h1 h2;go_simp
 ·clear h0 h2;go_simp
 ·clear h0 h1;go_simp
theorem sameS_any {w:World} {la lb:Option Addr} {c c2:Nat} {S:List SpV} (ha:RSp.At w la S) (hb:RSp.At w lb S) (ok:∀x∈S,x.ok) (hn:S.length≤2000000000000):Calls Tryz.prog 22 #[.slice la S.length c, .slice lb S.length c2] w fun e w'=>e= .returned (.bool true)∧Below w.heap.size w w':=by
 have HA:=hidMk (fun (W:World) (b:Below w.heap.size w W)=>ha.below b)
 have HB:=hidMk (fun (W:World) (b:Below w.heap.size w W)=>hb.below b)
 obtain ⟨n,hnn⟩:∃n,S.length=n:=⟨_,rfl⟩
 have HN:=hidMk (show S.length=n∧n≤2000000000000 from ⟨hnn,by omega⟩)
 have OK:=hidMk ok
 rw [hnn]
 clear ha hb hn hnn ok
 go_enter Tryz.func22,Tryz.ntmps22
 go_upto_region 1 with fail
 refine ssp1 (la:=la) (lb:=lb) (n:=n) (c:=c) (c2:=c2) _ w _ rfl rfl rfl ?_
 intro a' w3 hw ha
 obtain rfl:w=w3:=hw.symm
 subst ha
 simp only [Act.put,qsA,qsB,qsC]
 go_wp2
 go_loopw [5] (fun v5 wr=> ∃i:Nat,v5= .int .i64 (i:Int)∧i≤n∧Hid (Below w.heap.size w wr)) (fun v5 _=>n-(intOf v5).toNat)
 case atStart=>exact ⟨0,rfl,Nat.zero_le _,Below.refl _ _⟩
 case round =>
  obtain ⟨i,rfl,hi,HI⟩:=hrel
  by_cases h:i<n
  ·have h':(i:Int)<(n:Int):=by omega
   have hn64:n≤9223372036854775807:=by have:=HN.out;omega
   obtain ⟨x,hx⟩:∃x,S[i]? =some x:=⟨_,List.getElem?_eq_getElem (by have:=HN.out;omega)⟩
   obtain ⟨g,o,rfl,gl,hr⟩:=(HA.out wr HI.out).get (i:=i) (by have:=HN.out;omega)
   obtain ⟨g2,o2,rfl,gl2,hr2⟩:=(HB.out wr HI.out).get (i:=i) (by have:=HN.out;omega)
   have e:S[i]'(by have:=HN.out;omega)=x:=(List.getElem?_eq_some_iff.1 hx).2
   have r1:∀W,Below wr.heap.size wr W→W.rangeAt g (o+7*i) x.c:=fun W b=>rangeAt_keep (by rw [e] at hr;exact hr) (b.block g gl)
   have r2:∀W,Below wr.heap.size wr W→W.rangeAt g2 (o2+7*i) x.c:=fun W b=>rangeAt_keep (by rw [e] at hr2;exact hr2) (b.block g2 gl2)
   have bd:Below wr.heap.size wr wr.drew:=(Below.refl _ _).drew
   have MS:=hidMk (show n-(((i+1:Nat):Int)).toNat<n-((i:Nat):Int).toNat by simp only [Int.toNat_natCast];omega)
   have HH1:=hidMk h
   have okx:=OK.out x (List.mem_of_getElem? hx)
   clear hr hr2 e hx
   go_upto_region 6 with fail
   refine ssp6 (g:=g) (o:=o) (g2:=g2) (o2:=o2) (n:=n) (c:=c) (c2:=c2) (i:=i) (x:=x) (fun W=>Below wr.heap.size wr W) _ wr _ rfl rfl rfl rfl bd h hn64 (fun W b=>(sp_at (r1 W b)).1) (fun W b=>(sp_at (r1 W b)).2.1) (fun W b=>(sp_at (r1 W b)).2.2) (fun W b=>sp_v (r1 W b)) (fun W b=>(sp_at (r2 W b)).1) (fun W b=>(sp_at (r2 W b)).2.1) (fun W b=>(sp_at (r2 W b)).2.2) (fun W b=>sp_v (r2 W b)) ((same_self okx.v wr.drew).mono fun e W q=>⟨q.1,bd.trans q.2⟩) ?_
   intro a' w4 bw ha
   have NI:=hidMk (HI.out.trans (bw.mono HI.out.size))
   subst ha
   simp only [Act.put,qsA,qsB,qsC]
   clear r1 r2 bd bw HI
   go_wp2
   rw [show ((i:Int)+1)=((i+1:Nat):Int) by omega]
   exact ⟨⟨i+1,rfl,HH1.out,NI⟩,MS.out⟩
  ·have h':¬((i:Int)<(n:Int)):=by omega
   obtain rfl:i=n:=by omega
   go_wp2
   go_ret
   exact ⟨rfl,HI.out⟩
section
variable {w:World} {base:Nat} {m:Mx}
theorem mlen_any (h:MkAt w base m):Calls Tryz.prog 27 #[.pointer (some ⟨m.mb,0,none⟩)] w fun e w'=>e= .returned (.int .i64 (m.L.length:Int))∧w'=w:=by
 obtain ⟨a,c,e,_⟩:=h.lvS
 have LL:=h.ldl
 rw [e] at LL
 clear h e
 go_enter Tryz.func27,Tryz.ntmps27
 go_upto_region 3 with fail
 refine mln3 (mb:=m.mb) (n:=m.L.length) (c:=c) (la:=a) _ w _ rfl rfl LL ?_
 intro a' w3 hw ha
 obtain rfl:w=w3:=hw.symm
 subst ha
 simp only [Act.put,qsA,qsB,qsC]
 clear LL
 go_wp2
 go_ret
 exact ⟨rfl,rfl⟩
theorem cut_any (a:Option Addr) (n c q:Nat) (hq:q≤c) (hc:c≤maxLen) (w:World):Calls Tryz.prog 46 #[.slice a n c, .int .i64 (q:Int)] w fun e w'=>e= .returned (.slice a q q)∧w'=w:=by
 have S:=RowT.sl_cut RM_is a (n:=n) hq w
 have S':(Instr.sliceAt 85 (.slice a n c) none (some (.int .i64 (q:Int))) (some (.int .i64 (q:Int)))).run Tryz.prog w= .ok (.slice a q q) w:=S
 clear S
 go_enter Tryz.func46,Tryz.ntmps46
 go_wp2
 go_ret
 exact ⟨rfl,rfl⟩
end
attribute [local go_sem] Oper.semAt_some
def undC (L:List MkV) (k:IdK):Int:=if hasM L k=false then 4 else if (L.getLast?.map (·.id))=some k then 0 else 2
def undR (L:List MkV) (k:IdK):List MkV:=if undC L k=0 then L.dropLast else L
theorem del_last {L:List MkV} {x:MkV} (hn:((idE (L++[x])).map (·.1)).Nodup):M.del (idE (L++[x])) x.id=idE L:=by
 have hl:idE (L++[x])=idE L++[(x.id,unV)]:=by simp [idE]
 rw [hl] at hn ⊢
 have no:M.fnd (idE L) x.id 0=none:=by
  cases e:M.fnd (idE L) x.id 0 with
  |none=>rfl
  |some q =>
   obtain ⟨i,v⟩:=q
   have h1:=(M.fnd_some e).1
   rw [List.map_append,List.nodup_append] at hn
   exact absurd rfl (hn.2.2 x.id (List.mem_map.2 ⟨_,List.mem_of_getElem? h1,rfl⟩) x.id (by simp))
 have key:∀(A:List (IdK × Value)) (n:Nat),M.fnd A x.id n=none→M.fnd (A++[(x.id,unV)]) x.id n=some (n+A.length,unV):=by
  intro A
  induction A with
  |nil=>intro n _;simp [M.fnd]
  |cons p A ih =>
   intro n h
   unfold M.fnd at h
   split at h
   ·cases h
   ·next hne =>
    rw [List.cons_append,M.fnd,if_neg hne,ih (n+1) h]
    simp
    omega
 unfold M.del
 rw [key _ 0 no]
 simp only [Nat.zero_add]
 rw [List.eraseIdx_append_of_length_le (Nat.le_refl _)]
 simp
section
variable {w:World} {base:Nat} {m:Mx}
theorem undo_anyT (h:MkAt w base m) (hb:base≤w.heap.size) {k:IdK} (hk:k.ok):Calls Tryz.prog 14 #[.pointer (some ⟨m.mb,0,none⟩),k.v] w fun e w'=>e= .returned (.int .i64 (undC m.L k))∧MkT m base (undR m.L k) w w':=by
 have bx:Below w.heap.size w (w.alloc (.cells k.c.toArray 36)):=(Below.refl _ _).alloc (Nat.le_refl _) _
 have hx:=id_new w k
 obtain ⟨w1,hw1⟩:∃w1,w.alloc (.cells k.c.toArray 36)=w1:=⟨_,rfl⟩
 rw [hw1] at bx hx
 have HW:=hidMk hw1
 have H1:=hidMk (h.below bx)
 have HA:=hidMk (mhas_any (h.below bx) hk)
 have HX:=hidMk hx
 have B1:=hidMk bx
 have HH:=hidMk h
 have HBB:=hidMk hb
 have SAME:Hid (∀(W:World) (c:Int),Below w.heap.size w W→undC m.L k=c→c≠0→(Ending.returned (.int .i64 c):Ending)= .returned (.int .i64 (undC m.L k))∧MkT m base (undR m.L k) w W):=fun W c b e hc=>by
  refine ⟨by rw [e], ?_⟩
  unfold undR
  rw [if_neg (by rw [e];exact hc)]
  exact MkT.same h b
 clear h bx hx hw1 hb
 show Calls Tryz.prog 14 #[.pointer (some ⟨m.mb,0,none⟩), .agg k.c.toArray] w _
 go_enter Tryz.func14,Tryz.ntmps14
 go_upto_region 3 with fail
 rw [HW.out]
 refine und3 (mb:=m.mb) (b1:=w.heap.size) (k:=k) (r:=hasM m.L k) (fun W=>Below w1.heap.size w1 W) _ w1 _ rfl rfl rfl (load_id hk HX.out) HA.out ?_
 intro a' w2 b2 ha
 subst ha
 simp only [Act.put,qsA,qsB,qsC]
 have B2:=hidMk (B1.out.trans (b2.mono B1.out.size))
 have X2:=hidMk (HX.out.below b2)
 clear b2 HA
 cases hq:hasM m.L k with
 |false =>
  have HQ:=hidMk hq
  clear hq
  go_wp2
  go_ret
  exact SAME.out _ _ B2.out (by unfold undC;rw [if_pos HQ.out]) (by decide)
 |true =>
  have HQ:=hidMk hq
  clear hq
  have hne:m.L≠[]:=fun e=>by have:=HQ.out;rw [e] at this;cases this
  obtain ⟨x,hlast⟩:∃x,m.L.getLast?=some x:=by
   cases e:m.L.getLast? with
   |none=>exact absurd (List.getLast?_eq_none_iff.1 e) hne
   |some x=>exact ⟨x,rfl⟩
  obtain ⟨n,hn⟩:∃n,m.L.length=n+1:=⟨m.L.length-1,by have:=List.length_pos_iff.2 hne;omega⟩
  have hxn:m.L[n]? =some x:=by rw [List.getLast?_eq_getElem?,show m.L.length-1=n by omega] at hlast;exact hlast
  have okx:=(HH.out.ok x (List.mem_of_getElem? hxn)).1
  have H2:=HH.out.below B2.out
  obtain ⟨la,lc,el,hat⟩:=H2.lvS
  have LL:=H2.ldl
  rw [el,hn] at LL
  have n9:=HH.out.n
  have hnb:n+1≤900000000000:=by omega
  go_upto_region 5 with fail
  refine und5 (mb:=m.mb) (n:=n+1) (c:=lc) (m:=(n:Int)) (la:=la) _ w2 _ rfl rfl (by omega) (by omega) LL ?_
  intro a' w3 hw ha
  obtain rfl:w2=w3:=hw.symm
  subst ha
  simp only [Act.put,qsA,qsB,qsC]
  obtain ⟨g,o,rfl,gl,hr⟩:=hat.get (i:=n) (by omega)
  have hr':w2.rangeAt g (o+105*n) x.c:=by
   have e:m.L[n]'(by omega)=x:=(List.getElem?_eq_some_iff.1 hxn).2
   rw [e] at hr;exact hr
  obtain ⟨z,hz⟩:∃z,(!decide (x.id=k))=z:=⟨_,rfl⟩
  have HEL:=hidMk el
  have HNN:=hidMk (And.intro hn hnb)
  have HLA:=hidMk hlast
  clear hr LL hat hne hxn n9
  go_upto_region 6 with fail
  refine und6 (mb:=m.mb) (b1:=w.heap.size) (g:=g) (o:=o) (n:=n+1) (c:=lc) (m:=n) (q:=x.id) (k:=k) (r:=z) (fun W=>Below w2.heap.size w2 W) _ w2 _ rfl rfl rfl rfl ((Below.refl _ _).drew) (by omega) (by omega) okx.i hk hz (fun W b=>by have:=(H2.below b).ldl;rw [HEL.out,HNN.out.1] at this;exact this) (fun W b=>mk_id okx (rangeAt_keep hr' (b.block g gl))) (fun W b=>load_id hk (X2.out.below b)) ?_
  intro a' w4 b4 ha
  subst ha
  simp only [Act.put,qsA,qsB,qsC]
  have B4:=hidMk (B2.out.trans (b4.mono B2.out.size))
  have X4:=hidMk (X2.out.below b4)
  clear hr' b4 H2 X2 el hn hnb hlast
  cases z with
  |true =>
   have hnk:¬x.id=k:=by simpa using hz
   have HNK:=hidMk hnk
   clear hz hnk
   go_wp2
   go_ret
   exact SAME.out _ _ B4.out (by unfold undC;rw [if_neg (by rw [HQ.out];decide),HLA.out,if_neg (fun q=>HNK.out (by simpa using q))]) (by decide)
  |false =>
   have hxk:x.id=k:=by simpa using hz
   have HXK:=hidMk hxk
   clear hz hxk
   have H4:=HH.out.below B4.out
   have ap:=H4.apart
   obtain ⟨a0,c0,ev0,_,hlc,hcm,_⟩:=H4.lo.open RM_is (fun y hy=>(H4.ok y hy).1)
   rw [HEL.out] at ev0
   obtain ⟨rfl,rfl⟩:lc=c0∧(some ⟨g,o,none⟩:Option Addr)=a0:=by cases ev0;exact ⟨rfl,rfl⟩
   obtain ⟨v',hv',lo',ow'⟩:=H4.lo.cut RM_is (fun y hy=>(H4.ok y hy).1) (n:=n) (by have:=HNN.out.1;omega)
   have ev:=hv' _ _ HEL.out
   obtain ⟨w5,e5,n5,t5⟩:=st_list (a:=some ⟨g,o,none⟩) (n:=n) (c:=n) H4.cell ⟨_,_,_,HEL.out⟩
   have LL4:=H4.ldl
   rw [HEL.out,HNN.out.1] at LL4
   have CC:=hidMk ((cut_any (some ⟨g,o,none⟩) (n+1) lc n (by have:=HNN.out.1;omega) hcm w4).mono (R':=fun e w1=> ∃u2,e= .returned u2∧∃w2,(Instr.storeAt 85 (.pointer (some ⟨m.mb,0+0,none⟩)) u2).run Tryz.prog w1= .ok () w2∧w2=w5) (fun e W q=>by
        obtain ⟨rfl,rfl⟩:=q
        exact ⟨_,rfl,w5,e5,rfl⟩))
   have mp5:M.MapAt w5 m.ib IdK.v IdK.ok (idE m.L):=H4.map.below (t5.block _ H4.map.lt (fun e=>ap.2.2 e.symm))
   obtain ⟨ob,ep,mp6⟩:=M.run_del (P:=Tryz.prog) (ty:=0) (w:=w5.drew) idKey Tryz.underlying84 (mp5.below rfl) k hk
   have b5:w4.heap.size≤w5.heap.size:=t5.size
   have X5:IdAt w5 w.heap.size k:=(t5.block _ (Array.getElem?_eq_some_iff.1 X4.out).1 (fun e=>by
        have:=two_typesM X4.out (e▸H4.cell)
        revert this;decide)).trans X4.out
   have PUT:=hidMk (show MkT m base (undR m.L k) w (M.setM w5.drew m.ib ob) by
        have hL:m.L=m.L.dropLast++[x]:=by
         have hne:m.L≠[]:=fun e=>by have:=HLA.out;rw [e] at this;cases this
         have e:=List.dropLast_concat_getLast hne
         have e2:m.L.getLast hne=x:=by have:=HLA.out;rw [List.getLast?_eq_some_getLast hne] at this;exact Option.some.inj this
         rw [e2] at e
         exact e.symm
        have hC:undC m.L k=0:=by unfold undC;rw [if_neg (by rw [HQ.out];decide),HLA.out,if_pos (by rw [Option.map_some,HXK.out])]
        have hR:undR m.L k=m.L.take n:=by
         unfold undR
         rw [if_pos hC,List.dropLast_eq_take,show m.L.length-1=n by have:=HNN.out.1;omega]
        have hD:M.del (idE m.L) k=idE (m.L.take n):=by
         have nd:=H4.map.2.1
         have e1:m.L.take n=m.L.dropLast:=by rw [List.dropLast_eq_take,show m.L.length-1=n by have:=HNN.out.1;omega]
         rw [e1, ←HXK.out]
         rw [hL] at nd ⊢
         rw [del_last nd,List.dropLast_concat]
        rw [hR]
        rw [hD] at mp6
        have nib:∀j,v'.ownBlock=some j→j≠m.ib∧j≠m.mb:=fun j hj=>by
         rw [ow'] at hj
         exact ⟨fun e=>ap.2.1 (by rw [←e];exact hj),fun e=>ap.1 (by rw [←e];exact hj)⟩
        have tq:Tch (fun j=>j=m.mb∨j=m.ib) w (M.setM w5.drew m.ib ob):=by
         have t0:Tch (fun j=>j=m.mb∨j=m.ib) w w4:=tch_below B4.out _
         have t4:Tch (fun j=>j=m.mb∨j=m.ib) w4 w5:=t5.mono (fun j _ e=> .inl e)
         have t6:Tch (fun j=>j=m.mb∨j=m.ib) w5 (M.setM w5.drew m.ib ob):=⟨rfl,rfl,rfl,by rw [M.setM_size];exact Nat.le_refl _,fun j _ hj=>M.setM_other ob (fun e=>hj (.inr e))⟩
         exact (t0.trans t4).trans t6
        refine ⟨⟨m.mb,v',m.ib,m.L.take n⟩,⟨(M.setM_other ob ap.2.2).trans (by rw [ev];exact n5),(lo'.keep (fun j hj=>t5.block j (lo'.lt hj) (nib j hj).2)).keep (fun j hj=>M.setM_other ob (nib j hj).1),fun y hy=>HH.out.ok y (List.mem_of_mem_take hy),mp6,by simp only [List.length_take];have:=HNN.out;omega⟩,rfl,rfl,rfl, .inl ow', ?_,fun _=>⟨tq, .inl (fun a n c e=>by rw [ev] at e;cases e;rfl)⟩⟩
        have t0:Tch (fun j=>j=m.mb∨j=m.ib∨m.lv.ownBlock=some j) w w4:=tch_below B4.out _
        have t4:Tch (fun j=>j=m.mb∨j=m.ib∨m.lv.ownBlock=some j) w4 w5:=t5.mono (fun j _ e=> .inl e)
        have t6:Tch (fun j=>j=m.mb∨j=m.ib∨m.lv.ownBlock=some j) w5 (M.setM w5.drew m.ib ob):=⟨rfl,rfl,rfl,by rw [M.setM_size];exact Nat.le_refl _,fun j _ hj=>M.setM_other ob (fun e=>hj (.inr (.inl e)))⟩
        exact (t0.trans t4).trans t6)
   have C0:=hidMk (show undC m.L k=0 by unfold undC;rw [if_neg (by rw [HQ.out];decide),HLA.out,if_pos (by rw [Option.map_some,HXK.out])])
   have HEP:=hidMk ep
   have XY:Hid (IdAt w5.drew w.heap.size k∧w5.drew.heap[m.mb]? =some (.cells #[.slice (some ⟨g,o,none⟩) n n, .map (some m.ib)] 87 (0,0))):=⟨X5,n5⟩
   clear ap ev0 hlc hcm hv' lo' ow' ev e5 n5 t5 mp5 ep mp6 b5 X5 H4 X4
   go_upto_region 8 with fail
   refine und8 (mb:=m.mb) (z:=(n:Int)) (lv:= .slice (some ⟨g,o,none⟩) (n+1) lc) (fun u2 W=>W=w5) _ w4 _ rfl rfl rfl LL4 CC.out ?_
   intro u2 a' w6 hw ha
   obtain rfl:w5=w6:=hw.symm
   subst ha
   simp only [Act.put,qsA,qsB,qsC]
   clear LL4 CC
   go_upto_region 9 with fail
   refine und9 (mb:=m.mb) (ib:=m.ib) (b1:=w.heap.size) (k:=k) (w2:=M.setM w5.drew m.ib ob) (fun W=>W=w5.drew) _ w5 _ rfl rfl rfl rfl (fun W e=> ?_) (fun W e=>by rw [e];exact load_id hk XY.out.1) HEP.out ?_
   ·have hc:W.cell? ⟨m.mb,1,none⟩=some (.map (some m.ib)):=by rw [e];exact (cell_of_row w5.drew m.mb 1 _ _ _ XY.out.2).trans rfl
    clear e
    go_simp
   intro a' w6 hw ha
   obtain rfl:M.setM w5.drew m.ib ob=w6:=hw.symm
   subst ha
   simp only [Act.put,qsA,qsB,qsC]
   clear HEP XY
   go_wp2
   go_ret
   exact ⟨by rw [C0.out];rfl,PUT.out⟩
end
section
variable {w W W':World} {sb mb:Nat} {E:List Elt} {L:List MkV}
structure SpW (E:List Elt) (L:List MkV) (v:Value) (b:Nat) (S:List SpV) (W:World):Prop where
 lo:RSp.Lo W b v S
 is:SpansIs (hE E L) S
 ok:∀p∈S,p.ok
 len:S.length≤2000000000000
end
attribute [local go_sem] Oper.semAt_some
end Go.Proofs.YtifendlpeebofaaGreatDoor
namespace Go.Proofs.YtifendlpeebofaaGreatDoor
open Go.ChangeShapes Go.WideShapes Go.ChangeAt Go.RowKit Go.Shelf
def u8_ren:Go.Shelf.Ren:=⟨fun n=>n,fun |119=>177|138=>179|139=>180|n=>n,fun |3=>1|4=>2|n=>n⟩
theorem u8t:U8Types Tryz.prog u8_ren:=⟨Tryz.underlying5,Tryz.underlying177,Tryz.underlying179,Tryz.underlying180⟩
theorem u8x:U8Extra Tryz.prog u8_ren:=⟨by kernel_rfl,by kernel_rfl,by kernel_rfl,by kernel_rfl,by kernel_rfl,by kernel_rfl,by kernel_rfl⟩
theorem dF:(Rows.laid_unicode_utf8_first:DataW Unit)=Lib.firstData:=by kernel_rfl
theorem dA:(Rows.laid_unicode_utf8_acceptRanges:DataW Unit)=Lib.acceptData:=by kernel_rfl
theorem tabs_of {W:World} {laid:List (String × DataW Unit)} (h:laidMet Tryz.prog laid W) (h3:("unicode/utf8.first",(Rows.laid_unicode_utf8_first:DataW Unit))∈laid) (h4:("unicode/utf8.acceptRanges",(Rows.laid_unicode_utf8_acceptRanges:DataW Unit))∈laid):K.V.Tabs W:=by
 rw [dF] at h3
 rw [dA] at h4
 exact utf8Tabs_of_readsT u8t u8x (Lib.laidMet.reads h h3) (Lib.laidMet.reads h h4)
theorem reach_opsM {H:Type} {ts:List TypeId} {ds:List (DataW H)} (hsz:(DataW.weightsEach Tryz.prog ts ds).all (· ≤reachBytes)=true) (j:Nat) (ht:ts[j]? =some 22) {d:DataW H} (hd:ds[j]? =some d) {len:Nat}
 (h:d= .nil∧len=0∨∃el sp,d= .slice el sp∧el.length=len):len≤800000000000:=by
 rcases h with ⟨_,rfl⟩|⟨el,sp,rfl,rfl⟩
 ·omega
 ·have:=sized_slice hsz (j:=j) (t:=22) (e:=42) ht hd Tryz.underlying22
  rw [bytes_opM] at this
  simp only [reachBytes] at this
  omega
end Go.Proofs.YtifendlpeebofaaGreatDoor
namespace Go.Proofs.YtifendlpeebofaaGreatDoor.En
open Go Go.RowKit
def lk:List (Nat × Value)→Nat→Option Value
 |[],_=>none
 |(k,u)::L,i=>cond (Nat.beq k i) (some u) (lk L i)
def nth {α:Type}:List α→Nat→Option α
 |[],_=>none
 |x::_,0=>some x
 |_::l,n+1=>nth l n
def puts (a:Act):List (Nat × Value)→Act
 |[]=>a
 |(k,u)::L=>(puts a L).put (some k) u
def putM (d:Option Nat) (v:Value) (M:List (Nat × Value)):List (Nat × Value) :=
 match d with
 |some k=>(k,v)::M
 |none=>M
structure Tb (P:Program) where
 fa:List ((Nat × Nat) × Nat)
 fa_ok:∀e∈fa,∀b o w,(Instr.fieldAt e.1.1 (.pointer (some ⟨b,o,none⟩)) e.1.2).run P w= .ok (.pointer (some ⟨b,o+e.2,none⟩)) w
 ln:List Nat
 ln_ok:∀t∈ln,∀r a n c w,(Builtin.len_ #[t] r #[.slice a n c]).run P w= .ok (.int .i64 (n:Int)) w
 fn:List Nat
 fn_ok:∀f∈fn,∀vs w,(callFunc f vs).run P w= .ok (.enter f vs) w
def faL:List ((Nat × Nat) × Nat)→Nat→Nat→Option Nat
 |[],_,_=>none
 |((s,f),d)::l,t,g=>cond (Nat.beq s t) (cond (Nat.beq f g) (some d) (faL l t g)) (faL l t g)
def inL:List Nat→Nat→Bool
 |[],_=>false
 |k::l,t=>cond (Nat.beq k t) true (inL l t)
theorem inL_mem:∀{l:List Nat} {t},inL l t=true→t∈l
 |k::l,t,h=>by
  unfold inL at h
  cases e:Nat.beq k t with
  |true=>rw [Nat.eq_of_beq_eq_true e];simp
  |false=>rw [e] at h;exact List.mem_cons_of_mem _ (inL_mem h)
theorem faL_mem:∀{l:List ((Nat × Nat) × Nat)} {s f d},faL l s f=some d→((s,f),d)∈l
 |((s',f'),d')::l,s,f,d,h=>by
  unfold faL at h
  cases e:Nat.beq s' s with
  |false=>rw [e] at h;exact List.mem_cons_of_mem _ (faL_mem h)
  |true =>
   cases e2:Nat.beq f' f with
   |false=>rw [e,e2] at h;exact List.mem_cons_of_mem _ (faL_mem h)
   |true =>
    rw [e,e2] at h
    cases h
    rw [Nat.eq_of_beq_eq_true e,Nat.eq_of_beq_eq_true e2]
    simp
section
variable (G:Nat→Option Value) (M:List (Nat × Value))
def opK (x:Operand) (k:Value→Prop):Prop :=
 match x with
 | .tmp i=>match lk M i with
   |some v=>k v
   |none=>match G i with
    |some v=>k v
    |none=>False
 | .const v=>k v
 | .global g=>k (.pointer (some ⟨g,0,none⟩))
 | .func f=>k (.func (.func f) #[] #[])
def opsK:List Operand→(List Value→Prop)→Prop
 |[],k=>k []
 |x::xs,k=>opK G M x fun v=>opsK xs fun vs=>k (v::vs)
def partsK:List (Nat × Operand)→(List (Nat × Value)→Prop)→Prop
 |[],k=>k []
 |(i,x)::xs,k=>opK G M x fun v=>partsK xs fun vs=>k ((i,v)::vs)
def opOK (x:Option Operand) (k:Option Value→Prop):Prop :=
 match x with
 |none=>k none
 |some x=>opK G M x fun v=>k (some v)
structure CmW (c:Bool) (N:Value→Prop):Prop where
 out:∃c',c=c'∧N (.bool c')
structure ArW (k:IntKind) (e:Int) (N:Value→Prop):Prop where
 out:∃z,k.wrap e=z∧N (.int k z)
def ikN:IntKind→Nat
 | .i8=>0| .i16=>1| .i32=>2| .i64=>3| .u8=>4| .u16=>5| .u32=>6| .u64=>7
theorem ikN_eq {k k':IntKind} (h:Nat.beq (ikN k) (ikN k')=true):k=k':=by
 cases k <;>cases k' <;>first|rfl|cases h
def cmpK (op:BinOp) (a b:Int) (kp:Value→Prop) (ar:Int→Prop) (no:Prop):Prop :=
 match op with
 | .eql=>CmW (decide (a=b)) kp
 | .neq=>CmW (!decide (a=b)) kp
 | .lss=>CmW (decide (a<b)) kp
 | .leq=>CmW (decide (a≤b)) kp
 | .gtr=>CmW (decide (a>b)) kp
 | .geq=>CmW (decide (a≥b)) kp
 | .add=>ar (a+b)
 | .sub=>ar (a-b)
 | .mul=>ar (a*b)
 |_=>no
def viewK {P:Program} (T:Tb P) (o:Oper) (kp:Value→Prop) (ks ke:Sem Value→Prop) (ku:Sem Unit→Prop) (kc:Nat→Array Value→Prop):Prop :=
 match o.op with
 | .move x=>opK G M x kp
 | .assign x=>opK G M x kp
 | .pick c x y=>opK G M c fun v=>match v with
   | .bool true=>opK G M x kp
   | .bool false=>opK G M y kp
   |_=>False
 | .nilCheck x=>opK G M x fun v=>match v with
   | .pointer (some p)=>kp (.pointer (some p))
   | .map r=>kp (.map r)
   | .iface t u=>kp (.iface t u)
   |_=>False
 | .extract x i=>opK G M x fun v=>match v with
   | .tuple vs=>match nth vs.toList i with
     |some u=>kp u
     |none=>False
   |_=>False
 | .fieldAddr s x f=>opK G M x fun v=>match v with
   | .pointer (some ⟨b,o,none⟩)=>match faL T.fa s f with
     |some d=>kp (.pointer (some ⟨b,o+d,none⟩))
     |none=>False
   |_=>False
 | .unOp .not _ x=>opK G M x fun v=>match v with
   | .bool b=>kp (.bool (!b))
   |_=>False
 | .binOp op t x y _=>opK G M x fun xv=>opK G M y fun yv=>match xv with
   | .int k a=>match yv with
     | .int k' b=>cond (Nat.beq (ikN k) (ikN k')) (cmpK op a b kp (fun e=>ArW k e kp) (ks (do eqGuard op t x y (.int k a) (.int k' b);binOp op t (.int k a) (.int k' b)))) (ks (do eqGuard op t x y (.int k a) (.int k' b);binOp op t (.int k a) (.int k' b)))
     |_=>False
   |xv=>ks (do eqGuard op t x y xv yv;binOp op t xv yv)
 | .load t x=>opK G M x fun v=>ks (Instr.loadAt t v)
 | .indexAddr t x i=>opK G M x fun v=>opK G M i fun u=>ks (Instr.indexAt t v u)
 | .index t x i=>opK G M x fun v=>opK G M i fun u=>ks (Instr.index t v u)
 | .field t x f=>opK G M x fun v=>ks (Instr.field t v f)
 | .lookup t m k c=>opK G M m fun v=>opK G M k fun u=>ks (Instr.lookup t v u c)
 | .build t ps=>partsK G M ps.toList fun vs=>ks (Instr.build t vs.toArray)
 | .makeInterface t x=>opK G M x fun v=>ks (Instr.makeInterface t v)
 | .makeFunc f xs ys=>opsK G M xs.toList fun vs=>opsK G M ys.toList fun us=>ks (Instr.makeFunc f vs.toArray us.toArray)
 | .slice t x l h m=>opK G M x fun v=>opOK G M l fun lv=>opOK G M h fun hv=>opOK G M m fun mv=>ks (Instr.sliceAt t v lv hv mv)
 | .convert s d x=>opK G M x fun v=>ke (convert s d v)
 | .typeAssert x t u c=>opK G M x fun v=>ks (Instr.typeAssert v t u c)
 | .entry x=>opK G M x fun v=>ks (Instr.entry v)
 | .buildSlice t n ps=>partsK G M ps.toList fun vs=>ke (Instr.buildSlice t n vs.toArray)
 | .alloc t=>ke (Instr.alloc t true (.tuple #[]))
 | .box t x=>opK G M x fun v=>ke (Instr.box t v)
 | .makeMap t r=>opOK G M r fun v=>ke (Instr.makeMap t v)
 | .makeSlice t l c=>opK G M l fun v=>opK G M c fun u=>ke (Instr.makeSlice t v u)
 | .range t x=>opK G M x fun v=>ke (Instr.range t v)
 | .next x s=>opK G M x fun v=>ke (Instr.next v s o.type)
 | .store t p x=>opK G M p fun v=>opK G M x fun u=>ku (Instr.storeAt t v u)
 | .mapUpdate t m k x=>opK G M m fun v=>opK G M k fun u=>opK G M x fun y=>ku (Instr.mapUpdate t v u y)
 | .insert t m k x=>opK G M m fun v=>opK G M k fun u=>opK G M x fun y=>ku (Instr.mapUpdate t v u y)
 | .call c=>match c.callee with
   | .value (.func F)=>cond (inL T.fn F) (opsK G M c.args.toList fun vs=>kc F vs.toArray) False
   | .value x=>opK G M x fun v=>match v with
     | .func (.func F) xs ys=>cond (inL T.fn F) (opsK G M c.args.toList fun vs=>kc F (xs++vs.toArray++ys)) False
     |_=>False
   | .builtin .len=>opsK G M c.args.toList fun vs=>match vs with
     |[.slice a n k]=>match c.argTypes.toList with
      |[t]=>cond (inL T.ln t) (kp (.int .i64 (n:Int))) (ks (Builtin.len_ #[t] o.type #[.slice a n k]))
      |_=>False
     |vs=>ks (Builtin.len_ c.argTypes o.type vs.toArray)
   | .builtin .append=>opsK G M c.args.toList fun vs=>ke (Builtin.append_ c.argTypes o.type vs.toArray)
   | .builtin .delete=>opsK G M c.args.toList fun vs=>ke (Builtin.delete_ c.argTypes o.type vs.toArray)
   | .builtin .copy=>opsK G M c.args.toList fun vs=>ke (Builtin.copy_ c.argTypes o.type vs.toArray)
   |_=>False
 |_=>False
def guardK (ops:List Oper) (o:Oper) (go by_:Prop):Prop :=
 match o.guard with
 |none=>go
 |some (k,b)=>match nth ops k with
  |none=>False
  |some og=>match og.dst with
   |none=>False
   |some d=>opK G M (.tmp d) fun v=>match v with
    | .bool true=>cond b go by_
    | .bool false=>cond b by_ go
    | .tuple _=>by_
    |_=>False
end
section
variable {a:Act} {n:Nat} {G:Nat→Option Value} {M:List (Nat × Value)} {P:Program}
structure Fr (a:Act) (n:Nat) (G:Nat→Option Value) (M:List (Nat × Value)):Prop where
 size:a.tmps.size=n
 given:∀i v,G i=some v→a.tmps.getD i undef=v∧i<n
 keys:∀p∈M,p.1<n
theorem puts_size (h:Fr a n G M):(puts a M).tmps.size=n:=by
 have:∀M:List (Nat × Value),(puts a M).tmps.size=a.tmps.size:=by
  intro M
  induction M with
  |nil=>rfl
  |cons p M ih=>obtain ⟨k,u⟩:=p;simp [puts,Act.put,ih]
 rw [this];exact h.size
theorem puts_lk:∀{M:List (Nat × Value)},Fr a n G M→∀{i v},lk M i=some v→(puts a M).tmps.getD i undef=v∧i<n
 |[],_,_,_,h=>by cases h
 |(k,u)::M,f,i,v,h=>by
  have f':Fr a n G M:=⟨f.size,f.given,fun p hp=>f.keys p (List.mem_cons_of_mem _ hp)⟩
  have hk:k<n:=f.keys (k,u) (by simp)
  have hs:=puts_size f'
  unfold lk at h
  cases e:Nat.beq k i with
  |true =>
   rw [e] at h
   cases h
   obtain rfl:=Nat.eq_of_beq_eq_true e
   refine ⟨?_,hk⟩
   show ((puts a M).put (some k) u).tmps.getD k undef=u
   simp [Act.put,hs,hk]
  |false =>
   rw [e] at h
   have hne:k≠i:=fun q=>by rw [q,Nat.beq_refl] at e;cases e
   obtain ⟨h1,h2⟩:=puts_lk f' h
   refine ⟨?_,h2⟩
   rw [←h1]
   show ((puts a M).put (some k) u).tmps.getD i undef=_
   simp only [Act.put,Array.getD_eq_getD_getElem?]
   rw [Array.getElem?_setIfInBounds_ne hne]
theorem puts_none:∀{M:List (Nat × Value)} {i},lk M i=none→(puts a M).tmps.getD i undef=a.tmps.getD i undef
 |[],_,_=>rfl
 |(k,u)::M,i,h=>by
  unfold lk at h
  cases e:Nat.beq k i with
  |true=>rw [e] at h;cases h
  |false =>
   rw [e] at h
   have hne:k≠i:=fun q=>by rw [q,Nat.beq_refl] at e;cases e
   rw [←puts_none h]
   show ((puts a M).put (some k) u).tmps.getD i undef=_
   simp only [Act.put,Array.getD_eq_getD_getElem?]
   rw [Array.getElem?_setIfInBounds_ne hne]
theorem opK_out (f:Fr a n G M) {x:Operand} {k:Value→Prop} (h:opK G M x k):k ((puts a M).eval x):=by
 unfold opK at h
 cases x with
 |tmp i =>
  simp only at h
  cases e:lk M i with
  |some v=>rw [e] at h;simp only at h;have:=(puts_lk f e).1;show k ((puts a M).tmps.getD i undef);rw [this];exact h
  |none =>
   rw [e] at h
   simp only at h
   cases g:G i with
   |some v=>rw [g] at h;simp only at h;show k ((puts a M).tmps.getD i undef);rw [puts_none e,(f.given i v g).1];exact h
   |none=>rw [g] at h;exact h.elim
 |const v=>exact h
 |global g=>exact h
 |func g=>exact h
theorem opK_tmp (f:Fr a n G M) {i:Nat} {k:Value→Prop} (h:opK G M (.tmp i) k):i<n:=by
 unfold opK at h
 simp only at h
 cases e:lk M i with
 |some v=>exact (puts_lk f e).2
 |none =>
  rw [e] at h
  simp only at h
  cases g:G i with
  |some v=>exact (f.given i v g).2
  |none=>rw [g] at h;exact h.elim
theorem opsK_out (f:Fr a n G M):∀{xs:List Operand} {k:List Value→Prop},opsK G M xs k→k (xs.map (puts a M).eval)
 |[],_,h=>h
 |x::xs,k,h=>opsK_out f (xs:=xs) (k:=fun vs=>k ((puts a M).eval x::vs)) (opK_out f (x:=x) h)
theorem partsK_out (f:Fr a n G M):∀{xs:List (Nat × Operand)} {k:List (Nat × Value)→Prop},partsK G M xs k→k (xs.map fun p=>(p.1,(puts a M).eval p.2))
 |[],_,h=>h
 |(i,x)::xs,k,h=>partsK_out f (xs:=xs) (k:=fun vs=>k ((i,(puts a M).eval x)::vs)) (opK_out f (x:=x) h)
theorem opOK_out (f:Fr a n G M) {x:Option Operand} {k:Option Value→Prop} (h:opOK G M x k):k (x.map (puts a M).eval):=by
 cases x with
 |none=>exact h
 |some x=>exact opK_out f (x:=x) h
theorem nth_get {α:Type}:∀{l:List α} {i:Nat} {x:α},nth l i=some x→l[i]? =some x
 |[],_,_,h=>by cases h
 |y::l,0,x,h=>by cases h;rfl
 |y::l,i+1,x,h=>by simpa using nth_get (l:=l) h
theorem map_list {α β:Type} (g:α→β) (xs:Array α):(xs.toList.map g).toArray=xs.map g:=by rw [←Array.toList_map]
def effB (o:Oper):Bool :=
 match o.op with
 | .convert .. | .buildSlice .. | .alloc _| .box .. | .makeMap .. | .makeSlice .. | .range .. | .next .. | .store .. | .mapUpdate .. | .insert .. =>true
 | .call c=>match c.callee with
   | .builtin .len=>false
   |_=>true
 |_=>false
inductive Did (P:Program) (a:Act) (o:Oper) (kp:Value→Prop) (ks ke:Sem Value→Prop) (ku:Sem Unit→Prop) (kc:Nat→Array Value→Prop):Prop where
 |pure (v:Value) (h:∀w,(execOp a.eval o).run P w= .ok (.value v) w) (k:kp v)
 |still (E:Sem Value) (h:∀w v w',E.run P w= .ok v w'→(execOp a.eval o).run P w= .ok (.value v) w') (k:ks E)
 |eff (E:Sem Value) (e:effB o=true) (h:∀w v w',E.run P w= .ok v w'→(execOp a.eval o).run P w= .ok (.value v) w') (k:ke E)
 |unit (E:Sem Unit) (e:effB o=true) (h:∀w w',E.run P w= .ok () w'→(execOp a.eval o).run P w= .ok .skip w') (k:ku E)
 |call (F:Nat) (vs:Array Value) (e:effB o=true) (h:∀w,(execOp a.eval o).run P w= .ok (.enter F vs) w) (k:kc F vs)
section
variable {o:Oper} {kp:Value→Prop} {ks ke:Sem Value→Prop} {ku:Sem Unit→Prop} {kc:Nat→Array Value→Prop}
theorem Did.st {E:Sem Value} (he:execOp a.eval o=(E >>= fun v=>Pure.pure (Next.value v))) (k:ks E):Did P a o kp ks ke ku kc :=
 .still E (fun w v w' h=>by rw [he,Sem.run_bind,h];rfl) k
theorem Did.ef {E:Sem Value} (h0:effB o=true) (he:execOp a.eval o=(E >>= fun v=>Pure.pure (Next.value v))) (k:ke E):Did P a o kp ks ke ku kc :=
 .eff E h0 (fun w v w' h=>by rw [he,Sem.run_bind,h];rfl) k
theorem Did.un {E:Sem Unit} (h0:effB o=true) (he:execOp a.eval o=(E >>= fun _=>Pure.pure Next.skip)) (k:ku E):Did P a o kp ks ke ku kc :=
 .unit E h0 (fun w w' h=>by rw [he,Sem.run_bind,h];rfl) k
theorem Did.pv {v:Value} (he:execOp a.eval o=Pure.pure (Next.value v)) (k:kp v):Did P a o kp ks ke ku kc :=
 .pure v (fun w=>by rw [he];rfl) k
end
theorem viewK_out (f:Fr a n G M) (T:Tb P) {o:Oper} {kp:Value→Prop} {ks ke:Sem Value→Prop} {ku:Sem Unit→Prop} {kc:Nat→Array Value→Prop}
 (h:viewK G M T o kp ks ke ku kc):Did P (puts a M) o kp ks ke ku kc:=by
 obtain ⟨dst,op,ty,pos,aft,gd⟩:=o
 unfold viewK at h
 cases op <;>simp only at h <;>try exact h.elim
 case move x=>exact .pv rfl (opK_out f h)
 case assign x=>exact .pv rfl (opK_out f h)
 case pick c x y =>
  have h:=opK_out f h
  generalize hc:(puts a M).eval c=cv at h
  cases cv with
  |bool b =>
   cases b with
   |true=>exact .pure _ (fun w=>by simp [execOp,hc,asBool]) (opK_out f h)
   |false=>exact .pure _ (fun w=>by simp [execOp,hc,asBool]) (opK_out f h)
  |_=>exact h.elim
 case nilCheck x =>
  have h:=opK_out f h
  generalize hx:(puts a M).eval x=v at h
  cases v with
  |pointer p =>
   cases p with
   |none=>exact h.elim
   |some p=>exact .pure _ (fun w=>by simp [execOp,hx]) h
  |map r=>exact .pure _ (fun w=>by simp [execOp,hx]) h
  |iface t u=>exact .pure _ (fun w=>by simp [execOp,hx]) h
  |_=>exact h.elim
 case extract x i =>
  have h:=opK_out f h
  generalize hx:(puts a M).eval x=v at h
  cases v with
  |tuple vs =>
   simp only at h
   cases e:nth vs.toList i with
   |none=>rw [e] at h;exact h.elim
   |some u =>
    rw [e] at h
    have e2:vs[i]? =some u:=by rw [←Array.getElem?_toList];exact nth_get e
    exact .pure u (fun w=>by simp [execOp,hx,Instr.extract,e2]) h
  |_=>exact h.elim
 case fieldAddr s x i =>
  have h:=opK_out f h
  generalize hx:(puts a M).eval x=v at h
  cases v with
  |pointer p =>
   cases p with
   |none=>exact h.elim
   |some p =>
    obtain ⟨b,o,sp⟩:=p
    cases sp with
    |some _=>exact h.elim
    |none =>
     simp only at h
     cases e:faL T.fa s i with
     |none=>rw [e] at h;exact h.elim
     |some d =>
      rw [e] at h
      exact .pure _ (fun w=>by simp [execOp,hx,T.fa_ok _ (faL_mem e) b o w]) h
  |_=>exact h.elim
 case unOp op t x =>
  cases op <;>simp only at h <;>try exact h.elim
  have h:=opK_out f h
  generalize hx:(puts a M).eval x=v at h
  cases v with
  |bool b=>exact .pure _ (fun w=>by simp [execOp,hx,Op.unary]) h
  |_=>exact h.elim
 case binOp op t x y t2 =>
  have h:=opK_out f (opK_out f h)
  have HE:execOp (puts a M).eval ⟨dst, .binOp op t x y t2,ty,pos,aft,gd⟩=((do eqGuard op t x y ((puts a M).eval x) ((puts a M).eval y);binOp op t ((puts a M).eval x) ((puts a M).eval y)) >>= fun v=>Pure.pure (Next.value v)):=rfl
  generalize hx:(puts a M).eval x=xv at h HE
  generalize hy:(puts a M).eval y=yv at h HE
  cases xv with
  |int k z =>
   cases yv with
   |int k' z' =>
    simp only at h
    cases e:Nat.beq (ikN k) (ikN k') with
    |true =>
     obtain rfl:=ikN_eq e
     rw [e] at h
     unfold cmpK at h
     cases op <;>first
        |exact .st HE h
        |(obtain ⟨⟨z2,e2,h⟩⟩:=(h:ArW _ _ _);exact .pure _ (fun w=>by rw [HE];simp [eqGuard,binOp,Op.intArith,e2]) h)
        |(obtain ⟨⟨z2,e2,h⟩⟩:=(h:CmW _ _);subst e2;exact .pure _ (fun w=>by rw [HE];simp [eqGuard,binOp,Op.intCmp] <;>rfl) h)
    |false =>
     rw [e] at h
     exact .st HE h
   |_=>exact h.elim
  |_=>exact .st HE h
 case load t x=>exact .st rfl (opK_out f h)
 case indexAddr t x i=>exact .st rfl (opK_out f (opK_out f h))
 case index t x i=>exact .st rfl (opK_out f (opK_out f h))
 case field t x i=>exact .st rfl (opK_out f h)
 case lookup t m k c=>exact .st rfl (opK_out f (opK_out f h))
 case build t ps =>
  have h:=partsK_out f h
  rw [map_list] at h
  exact .st rfl h
 case makeInterface t x=>exact .st rfl (opK_out f h)
 case makeFunc g xs ys =>
  have h:=opsK_out f (opsK_out f h)
  rw [map_list,map_list] at h
  exact .st rfl h
 case slice t x l hh m=>exact .st rfl (opOK_out f (opOK_out f (opOK_out f (opK_out f h))))
 case convert s d x=>exact .ef rfl rfl (opK_out f h)
 case typeAssert x t u c=>exact .st rfl (opK_out f h)
 case entry x=>exact .st rfl (opK_out f h)
 case buildSlice t l ps =>
  have h:=partsK_out f h
  rw [map_list] at h
  exact .ef rfl rfl h
 case alloc t=>exact .ef rfl rfl h
 case box t x=>exact .ef rfl rfl (opK_out f h)
 case makeMap t r=>exact .ef rfl rfl (opOK_out f h)
 case makeSlice t l c=>exact .ef rfl rfl (opK_out f (opK_out f h))
 case range t x=>exact .ef rfl rfl (opK_out f h)
 case next x s=>exact .ef rfl rfl (opK_out f h)
 case store t p x=>exact .un rfl rfl (opK_out f (opK_out f h))
 case mapUpdate t m k x=>exact .un rfl rfl (opK_out f (opK_out f (opK_out f h)))
 case insert t m k x=>exact .un rfl rfl (opK_out f (opK_out f (opK_out f h)))
 case call c =>
  obtain ⟨cl,args,ats⟩:=c
  cases cl with
  |invoke r m=>exact h.elim
  |builtin b =>
   have HB:∀E:Sem Value,(builtin b ats ty (args.map fun | .const _=>true|_=>false) (args.map (puts a M).eval))=(E >>= fun v=>Pure.pure (Next.value v))→execOp (puts a M).eval ⟨dst, .call ⟨.builtin b,args,ats⟩,ty,pos,aft,gd⟩=(E >>= fun v=>Pure.pure (Next.value v)):=fun E hE=>hE
   cases b <;>simp only at h <;>try exact h.elim
   case append =>
        have h:=opsK_out f h
        rw [map_list] at h
        exact .ef rfl (HB _ rfl) h
   case delete =>
        have h:=opsK_out f h
        rw [map_list] at h
        exact .ef rfl (HB _ rfl) h
   case copy =>
        have h:=opsK_out f h
        rw [map_list] at h
        exact .ef rfl (HB _ rfl) h
   case len =>
        have h2:=opsK_out f h
        clear h
        rename _=>h
        have hm:=map_list (puts a M).eval args
        generalize hv:args.toList.map (puts a M).eval=vs at h hm
        have gen:ks (Builtin.len_ ats ty vs.toArray)→Did P (puts a M) ⟨dst, .call ⟨.builtin .len,args,ats⟩,ty,pos,aft,gd⟩ kp ks ke ku kc:=fun h=> .st (HB _ (by rw [hm];rfl)) h
        split at h
        ·rename_i b n k
         cases ea:ats.toList with
         |nil=>rw [ea] at h;exact h.elim
         |cons t l =>
          rw [ea] at h
          cases l with
          |cons _ _=>exact h.elim
          |nil =>
           simp only at h
           obtain rfl:ats= #[t]:=by rw [←Array.toList_inj];exact ea
           cases e:inL T.ln t with
           |false=>rw [e] at h;exact gen h
           |true =>
            rw [e] at h
            refine .pure _ (fun w=> ?_) h
            rw [HB (Builtin.len_ #[t] ty #[.slice b n k]) (by rw [←hm];rfl),Sem.run_bind,T.ln_ok t (inL_mem e) ty b n k w]
            rfl
        ·exact gen h
  |value x =>
   have HV:∀(F:Nat) (xs ys:Array Value),(puts a M).eval x= .func (.func F) xs ys→execOp (puts a M).eval ⟨dst, .call ⟨.value x,args,ats⟩,ty,pos,aft,gd⟩=callFunc F (xs++args.map (puts a M).eval++ys):=by
        intro F xs ys e
        show (Deferred.ofValue ((puts a M).eval x) (args.map (puts a M).eval) >>= fun d=>invoke d.target d.args)=_
        rw [e]
        rfl
   have HF:(puts a M).eval x=(puts a M).eval x:=rfl
   have gen:opK G M x (fun v=>match v with
    | .func (.func F) xs ys=>cond (inL T.fn F) (opsK G M args.toList fun vs=>kc F (xs++vs.toArray++ys)) False
    |_=>False)→Did P (puts a M) ⟨dst, .call ⟨.value x,args,ats⟩,ty,pos,aft,gd⟩ kp ks ke ku kc:=by
        intro h
        have h:=opK_out f h
        generalize hx:(puts a M).eval x=v at h
        cases v with
        |func fn xs ys =>
         cases fn with
         |func F =>
          simp only at h
          cases e:inL T.fn F with
          |false=>rw [e] at h;exact h.elim
          |true =>
           rw [e] at h
           have h:=opsK_out f (k:=fun vs=>kc F (xs++vs.toArray++ys)) h
           rw [map_list] at h
           exact .call F _ rfl (fun w=>by rw [HV F xs ys hx];exact T.fn_ok F (inL_mem e) _ w) h
         |_=>exact h.elim
        |_=>exact h.elim
   cases x with
   |func F =>
    simp only at h
    cases e:inL T.fn F with
    |false=>rw [e] at h;exact h.elim
    |true =>
     rw [e] at h
     have h:=opsK_out f (k:=fun vs=>kc F vs.toArray) h
     rw [map_list] at h
     exact .call F _ rfl (fun w=>by rw [HV F #[] #[] rfl];simp only [Array.empty_append,Array.append_empty];exact T.fn_ok F (inL_mem e) _ w) h
   |tmp i=>exact gen h
   |const v=>exact gen h
   |global g=>exact gen h
end
structure Fi (p:Prop):Prop where
 out:p
theorem fi {p:Prop} (h:p):Fi p:=⟨h⟩
def St (P:Program) (E:Sem Value) (w:World) (N:Value→Prop):Prop:=∃v,E.run P w= .ok v w∧N v
def Ef (P:Program) (E:Sem Value) (w:World) (N:Value→World→Prop):Prop:=∃v w',E.run P w= .ok v w'∧N v w'
def Eu (P:Program) (E:Sem Unit) (w:World) (N:World→Prop):Prop:=∃w',E.run P w= .ok () w'∧N w'
def Ca (P:Program) (F:Nat) (vs:Array Value) (w:World) (N:Value→World→Prop):Prop:=Calls P F vs w fun e w'=> ∃v,e= .returned v∧N v w'
section
variable {P:Program} {w w':World} {v:Value}
theorem st {E:Sem Value} {N:Value→Prop} (h:E.run P w= .ok v w) (k:N v):St P E w N:=⟨v,h,k⟩
theorem ef {E:Sem Value} {N:Value→World→Prop} (h:E.run P w= .ok v w') (k:N v w'):Ef P E w N:=⟨v,w',h,k⟩
theorem eu {E:Sem Unit} {N:World→Prop} (h:E.run P w= .ok () w') (k:N w'):Eu P E w N:=⟨w',h,k⟩
theorem ca {F:Nat} {vs:Array Value} {N:Value→World→Prop} {R:Ending→World→Prop} (h:Calls P F vs w R) (k:∀e w',R e w'→∃v,e= .returned v∧N v w'):Ca P F vs w N:=h.mono k
theorem cm {c c':Bool} {N:Value→Prop} (h:c=c') (q:N (.bool c')):CmW c N:=⟨c',h,q⟩
theorem ar {k:IntKind} {e z:Int} {N:Value→Prop} (h:k.wrap e=z) (q:N (.int k z)):ArW k e N:=⟨z,h,q⟩
end
def ObQ {P:Program} (T:Tb P) (ops:List Oper) (G:Nat→Option Value) (K:List (Nat × Value)→World→Prop):List Oper→List (Nat × Value)→World→Prop
 |[],M,w=>K M w
 |o::os,M,w =>
  guardK G M ops o
   (viewK G M T o (fun v=>ObQ T ops G K os (putM o.dst v M) w) (fun E=>St P E w fun v=>ObQ T ops G K os (putM o.dst v M) w) (fun E=>Ef P E w fun v w'=>ObQ T ops G K os (putM o.dst v M) w')
        (fun E=>Eu P E w fun w'=>ObQ T ops G K os (putM o.dst undef M) w') (fun F vs=>Ca P F vs w fun v w'=>ObQ T ops G K os (putM o.dst v M) w'))
   (ObQ T ops G K os (putM o.dst undef M) w)
def dOk (n:Nat):Option Nat→Bool
 |none=>true
 |some d=>Nat.blt d n
def dstB (n:Nat):List Oper→Bool
 |[]=>true
 |o::os=>dOk n o.dst&&dstB n os
theorem dstB_mem {n:Nat} {os:List Oper} (h:dstB n os=true) {o:Oper} (ho:o∈os):dOk n o.dst=true:=by
 induction os with
 |nil=>cases ho
 |cons o' os ih =>
  unfold dstB at h
  rw [Bool.and_eq_true] at h
  rcases List.mem_cons.1 ho with e|ho
  ·rw [e];exact h.1
  ·exact ih h.2 ho
section
variable {P:Program} {a:Act} {n:Nat} {G:Nat→Option Value} {Q:Exit→Act→World→Prop}
theorem Fr.put {M:List (Nat × Value)} (f:Fr a n G M) {d:Option Nat} {v:Value} (hd:dOk n d=true):Fr a n G (putM d v M):=by
 cases d with
 |none=>exact f
 |some d =>
  refine ⟨f.size,f.given,fun p hp=> ?_⟩
  rcases List.mem_cons.1 hp with rfl|hp
  ·exact Nat.le_of_ble_eq_true hd
  ·exact f.keys p hp
theorem puts_putM {M:List (Nat × Value)} {d:Option Nat} {v:Value}:puts a (putM d v M)=(puts a M).put d v:=by
 cases d <;>rfl
theorem guardK_out {M:List (Nat × Value)} (f:Fr a n G M) {ops:Array Oper} {o:Oper} {go by_:Prop} (h:guardK G M ops.toList o go by_) :
 (Region.wanted o (yielded ops (puts a M).tmps)=true∧go)∨(Region.wanted o (yielded ops (puts a M).tmps)=false∧by_):=by
 unfold guardK at h
 cases hg:o.guard with
 |none=>rw [hg] at h;exact .inl ⟨by simp [Region.wanted,hg],h⟩
 |some kb =>
  obtain ⟨k,b⟩:=kb
  rw [hg] at h
  simp only at h
  cases e1:nth ops.toList k with
  |none=>rw [e1] at h;exact h.elim
  |some og =>
   rw [e1] at h
   simp only at h
   cases e2:og.dst with
   |none=>rw [e2] at h;exact h.elim
   |some d =>
    rw [e2] at h
    simp only at h
    have hd:=opK_tmp f h
    have h3:=opK_out f h
    have e4:ops[k]? =some og:=by rw [←Array.getElem?_toList];exact nth_get e1
    have hs:=puts_size f
    have e5:(puts a M).tmps[d]? =some ((puts a M).eval (.tmp d)):=by
     show _=some ((puts a M).tmps.getD d undef)
     rw [Array.getD_eq_getD_getElem?,Array.getElem?_eq_getElem (by omega)]
     rfl
    have e6:yielded ops (puts a M).tmps k=(match (puts a M).eval (.tmp d) with | .bool b=>some b|_=>none):=by
     unfold yielded
     simp only [e4,Option.bind_some,e2,e5]
     cases (puts a M).eval (.tmp d) <;>rfl
    generalize (puts a M).eval (.tmp d)=v at h3 e6
    unfold Region.wanted
    rw [hg]
    simp only [e6]
    cases v with
    |bool c=>cases c <;>cases b <;>first|exact .inl ⟨rfl,h3⟩|exact .inr ⟨rfl,h3⟩
    |tuple vs=>exact .inr ⟨rfl,h3⟩
    |_=>exact h3.elim
theorem obq_out (T:Tb P) {ops:Array Oper} {K:List (Nat × Value)→World→Prop} (hK:∀M w,Fr a n G M→K M w→Q .normal (puts a M) w) :
 ∀(os:List Oper) {M:List (Nat × Value)} {w:World},Fr a n G M→dstB n os=true→ObQ T ops.toList G K os M w→wpList P ops Q os (puts a M) w
 |[],M,w,f,_,h=>hK M w f h
 |o::os,M,w,f,hd,h=>by
  unfold ObQ at h
  unfold dstB at hd
  rw [Bool.and_eq_true] at hd
  have f':∀v,Fr a n G (putM o.dst v M):=fun v=>f.put hd.1
  refine wpList_step fun K' hK'=> ?_
  have go:∀v w',ObQ T ops.toList G K os (putM o.dst v M) w'→K' ((puts a M).put o.dst v) w':=fun v w' h=>hK' _ _ (by rw [←puts_putM];exact obq_out T hK os (f' v) hd.2 h)
  rcases guardK_out f h with ⟨hw,h⟩|⟨hw,h⟩
  ·rw [if_pos hw]
   unfold Oper.wp
   cases viewK_out f T h with
   |pure v hr k=>rw [hr];exact go v w k
   |still E hr k=>obtain ⟨v,e,k⟩:=k;rw [hr w v w e];exact go v w k
   |eff E _ hr k=>obtain ⟨v,w',e,k⟩:=k;rw [hr w v w' e];exact go v w' k
   |unit E _ hr k=>obtain ⟨w',e,k⟩:=k;rw [hr w w' e];exact go undef w' k
   |call F vs _ hr k =>
    rw [hr,Oper.upon_enter]
    refine Calls.mono k fun e w' p=> ?_
    obtain ⟨v,rfl,k⟩:=p
    exact go v w' k
  ·rw [if_neg (by rw [hw];decide)]
   exact go undef w h
def Glit (l:List Value):Nat→Option Value:=nth l
theorem fr_lit (l:List Value) (ds:List Deferred):Fr ⟨l.toArray,ds⟩ l.length (Glit l) [] :=
 ⟨by simp,fun i v h=>by
  have e:=nth_get h
  have:=(List.getElem?_eq_some_iff.1 e)
  refine ⟨?_,this.1⟩
  rw [Array.getD_eq_getD_getElem?]
  simp [e],fun p hp=>by cases hp⟩
theorem zq (T:Tb P) {l:List Value} {ds:List Deferred} {id:Nat} {os:List Oper} {w:World} (hd:dstB l.length os=true)
 (h:ObQ T os (Glit l) (fun M w=>Fi (Q .normal (puts ⟨l.toArray,ds⟩ M) w)) os [] w):(Code.region id os.toArray false).wp P Q ⟨l.toArray,ds⟩ w :=
 wp_region_list (obq_out (ops:=os.toArray) T (fun M w _ h=>h.out) os (fr_lit l ds) hd h)
end
section
variable {P:Program} {ops:Array Oper} {Q:Exit→Act→World→Prop} {md:Region.Mode} {S:World→Prop} {k:Nat}
theorem wpAnyE_firstG {i f:Nat} {oi:Oper} {v:Value} (hi:ops[i]? =some oi) (hsel:∀(j:Nat) (o:Oper) cs b,ops[j]? =some o→o.op≠ .select cs b)
 (hQ:∀c a w,Q (.panic c) (a.put oi.dst v) w→Q (.panic c) a w) :
 ∀(fuel:Nat) (listed:Array Bool) (a:Act) (w:World),
  (∀j oj,ops[j]? =some oj→j≠i→listed.getD j true=false→(∀e∈oj.after,Region.binds md e=true→e.on≠i)→oi.apart ops oj=true) →
  i∈Region.ready md ops listed→(waitsB md ops listed f i k=true∨ops.size≤k)→YieldsIf P ops S oi v a→S w →
  wpAnyE P md ops Q S k fuel (listed.setIfInBounds i true) (a.put oi.dst v) w→wpAnyE P md ops Q S k (fuel+1) listed a w:=by
 intro fuel
 induction fuel with
 |zero =>
  intro listed a w _ hr hwt hy hS H
  refine ⟨fun h=>(by rw [h] at hr;cases hr),fun j hj=> ?_⟩
  by_cases hji:j=i
  ·subst hji;exact hy.wpOp hi hS ⟨fun _=>hS,H⟩
  ·have:=ready_mono hj hji
   rw [H.1] at this
   cases this
 |succ fuel ih =>
  intro listed a w hfree hr hwt hy hS H
  refine ⟨fun h=>(by rw [h] at hr;cases hr),fun j hj=> ?_⟩
  have hiu:=(mem_ready.1 hr).1
  by_cases hji:j=i
  ·subst hji;exact hy.wpOp hi hS ⟨fun _=>hS,H⟩
  ·have hjk:j≠k:=fun e=>by
        rcases hwt with hwt|hwt
        ·exact waitsB_not hiu f k hwt (e▸hj)
        ·obtain ⟨_,oj,hoj,_⟩:=mem_ready.1 hj
         have:=(Array.getElem?_eq_some_iff.1 hoj).1
         omega
   have h1:=H.2 j (ready_mono hj hji)
   obtain ⟨hjun,oj,hoj,hall⟩:=mem_ready.1 hj
   have hnot:∀e∈oj.after,Region.binds md e=true→e.on≠i:=fun e he hb heq=>by
        have h1:=hall e he hb
        have h0:=hiu
        rw [heq] at h1
        rcases Nat.lt_or_ge i listed.size with h'|h'
        ·simp [h'] at h0 h1;rw [h0] at h1;cases h1
        ·simp [Array.getElem?_eq_none h'] at h1
   have h2:=wpOp_putIf hoj (hfree j oj hoj hji hjun hnot) (fun cs b=>hsel i oi cs b hi) (fun cs b=>hsel j oj cs b hoj) hQ hy h1
   have hfree':∀k ok,ops[k]? =some ok→k≠i→(listed.setIfInBounds j true).getD k true=false →
    (∀e∈ok.after,Region.binds md e=true→e.on≠i)→oi.apart ops ok=true:=fun k ok hk hki hun hno=>by
        refine hfree k ok hk hki ?_ hno
        by_cases hjk:j=k
        ·subst hjk;exact hjun
        ·rw [getD_set_ne true hjk] at hun;exact hun
   have hwt':waitsB md ops (listed.setIfInBounds j true) f i k=true∨ops.size≤k:=hwt.imp (fun q=>waitsB_keep hiu hj f k q) id
   refine wpOp_mono (fun a' w' h3=>⟨h3.2.1,ih (listed.setIfInBounds j true) a' w' hfree' (ready_mono hr (Ne.symm hji)) hwt' h3.1 (h3.2.1 hjk) ?_⟩) h2
   rw [Array.setIfInBounds_comm _ _ hji]
   exact h3.2.2
end
def StY (P:Program) (E:Sem Value) (S:World→Prop) (N:Value→Prop):Prop:=∃v,(∀w,S w→E.run P w= .ok v w)∧N v
def EfY (P:Program) (E:Sem Value) (S:World→Prop) (w:World) (N:Value→World→Prop):Prop:=∃v w',E.run P w= .ok v w'∧S w'∧N v w'
def EuY (P:Program) (E:Sem Unit) (S:World→Prop) (w:World) (N:World→Prop):Prop:=∃w',E.run P w= .ok () w'∧S w'∧N w'
def CaY (P:Program) (F:Nat) (vs:Array Value) (S:World→Prop) (w:World) (N:Value→World→Prop):Prop:=Calls P F vs w fun e w'=> ∃v,e= .returned v∧S w'∧N v w'
section
variable {P:Program} {w w':World} {v:Value} {S:World→Prop}
theorem sty {E:Sem Value} {N:Value→Prop} (h:∀w,S w→E.run P w= .ok v w) (k:N v):StY P E S N:=⟨v,h,k⟩
theorem se {E:Sem Value} {N:Value→Prop} {w0:World} (h:E.run P w0= .ok v w0) (k:N v):StY P E (fun W=>W=w0) N:=⟨v,fun w e=>by rw [e];exact h,k⟩
theorem efy {E:Sem Value} {N:Value→World→Prop} (h:E.run P w= .ok v w') (s:S w') (k:N v w'):EfY P E S w N:=⟨v,w',h,s,k⟩
theorem euy {E:Sem Unit} {N:World→Prop} (h:E.run P w= .ok () w') (s:S w') (k:N w'):EuY P E S w N:=⟨w',h,s,k⟩
theorem cay {F:Nat} {vs:Array Value} {N:Value→World→Prop} {R:Ending→World→Prop} (h:Calls P F vs w R) (k:∀e w',R e w'→∃v,e= .returned v∧S w'∧N v w'):CaY P F vs S w N:=h.mono k
end
inductive Ord where
 |nil
 |one (i:Nat) (t:Ord)
 |two (i:Nat) (t:Ord) (j:Nat) (u:Ord)
def Ord.of:List Nat→Ord
 |[]=> .nil
 |i::is=> .one i (Ord.of is)
def Ord.dep:Ord→Nat
 | .nil=>0
 | .one _ t=>t.dep+1
 | .two _ t _ u=>max t.dep u.dep+1
def Ord.end:Ord→Bool
 | .nil=>true
 |_=>false
structure Bo (p q:Prop):Prop where
 a:p
 b:q
def StpY {P:Program} (T:Tb P) (ops:List Oper) (G:Nat→Option Value) (S:World→Prop) (k:Nat) (nf:List Nat) (i:Nat) (R:List (Nat × Value)→World→Prop) (M:List (Nat × Value)) (w:World):Prop :=
 match nth ops i with
 |none=>False
 |some o =>
  guardK G M ops o
   (cond (inL nf i) False (viewK G M T o (fun v=>R (putM o.dst v M) w) (fun E=>StY P E S fun v=>R (putM o.dst v M) w)
    (fun E=>cond (Nat.beq i k) (Ef P E w fun v w'=>R (putM o.dst v M) w') (EfY P E S w fun v w'=>R (putM o.dst v M) w'))
    (fun E=>cond (Nat.beq i k) (Eu P E w fun w'=>R (putM o.dst undef M) w') (EuY P E S w fun w'=>R (putM o.dst undef M) w'))
    (fun F vs=>cond (Nat.beq i k) (Ca P F vs w fun v w'=>R (putM o.dst v M) w') (CaY P F vs S w fun v w'=>R (putM o.dst v M) w'))))
   (R (putM o.dst undef M) w)
def ObY {P:Program} (T:Tb P) (ops:List Oper) (G:Nat→Option Value) (S:World→Prop) (k:Nat) (nf:List Nat) (K:List (Nat × Value)→World→Prop):Ord→List (Nat × Value)→World→Prop
 | .nil,M,w=>K M w
 | .one i t,M,w=>StpY T ops G S k nf i (fun M w=>ObY T ops G S k nf K t M w) M w
 | .two i t j u,M,w=>Bo (StpY T ops G S k nf i (fun M w=>ObY T ops G S k nf K t M w) M w) (StpY T ops G S k nf j (fun M w=>ObY T ops G S k nf K u M w) M w)
def okY (ops:Array Oper) (k:Nat) (nf:List Nat):Ord→Array Bool→Bool
 | .nil,listed=>(Region.ready .any ops listed).isEmpty
 | .one i t,listed=>(match ops[i]? with
   |none=>false
   |some o=>cond (effB o&& !inL nf i) (Region.ready .any ops listed==[i]) (Region.free .any ops listed i&&(Region.ready .any ops listed).contains i&&(Nat.ble ops.size k||waitsB .any ops listed ops.size i k)))&&(cond (Nat.beq i k) t.end true)&&okY ops k nf t (listed.setIfInBounds i true)
 | .two i t j u,listed=>(Region.ready .any ops listed==[i,j])&& !inL nf i&& !inL nf j&&(cond (Nat.beq i k) t.end true)&&(cond (Nat.beq j k) u.end true)&&okY ops k nf t (listed.setIfInBounds i true)&&okY ops k nf u (listed.setIfInBounds j true)
section
variable {P:Program} {a:Act} {n:Nat} {G:Nat→Option Value} {Q:Exit→Act→World→Prop} {S:World→Prop}
theorem step_out (T:Tb P) {ops:Array Oper} {k:Nat} {nf:List Nat} {R:List (Nat × Value)→World→Prop} {W:Act→World→Prop} {i:Nat} {M:List (Nat × Value)} {w:World} (f:Fr a n G M) (hS:S w) (hnf:inL nf i=false)
 (go:∀o,ops[i]? =some o→∀v w',(i≠k→S w')→R (putM o.dst v M) w'→W ((puts a M).put o.dst v) w')
 (h:StpY T ops.toList G S k nf i R M w):wpOp P ops Q i (fun a' w'=>(i≠k→S w')∧W a' w') (puts a M) w:=by
 unfold StpY at h
 cases e0:nth ops.toList i with
 |none=>rw [e0] at h;exact h.elim
 |some o =>
 rw [e0] at h
 simp only at h
 have hi:ops[i]? =some o:=by rw [←Array.getElem?_toList];exact nth_get e0
 replace go:=go o hi
 refine wpOp_step hi (fun K' hK=> ?_)
 have hK':∀a w,(i≠k→S w)→((i≠k→S w)→W a w)→K' a w:=fun a w h1 h2=>hK a w ⟨h1,h2 h1⟩
 rcases guardK_out f h with ⟨hw,h⟩|⟨hw,h⟩
 ·rw [if_pos hw]
  rw [hnf,cond_false] at h
  unfold Oper.wp
  cases viewK_out f T h with
  |pure v hr k=>rw [hr];exact hK' _ _ (fun _=>hS) (fun s=>go v w s k)
  |still E hr k=>obtain ⟨v,e,k⟩:=k;rw [hr w v w (e w hS)];exact hK' _ _ (fun _=>hS) (fun s=>go v w s k)
  |eff E _ hr q =>
   cases e:Nat.beq i k with
   |true =>
    rw [e] at q
    have e:=Nat.eq_of_beq_eq_true e
    obtain ⟨v,w',e1,q⟩:=q
    rw [hr w v w' e1]
    exact hK' _ _ (fun hne=>absurd e hne) (fun s=>go v w' s q)
   |false =>
    rw [e] at q
    obtain ⟨v,w',e1,s1,q⟩:=q
    rw [hr w v w' e1]
    exact hK' _ _ (fun _=>s1) (fun s=>go v w' s q)
  |unit E _ hr q =>
   cases e:Nat.beq i k with
   |true =>
    rw [e] at q
    have e:=Nat.eq_of_beq_eq_true e
    obtain ⟨w',e1,q⟩:=q
    rw [hr w w' e1]
    exact hK' _ _ (fun hne=>absurd e hne) (fun s=>go undef w' s q)
   |false =>
    rw [e] at q
    obtain ⟨w',e1,s1,q⟩:=q
    rw [hr w w' e1]
    exact hK' _ _ (fun _=>s1) (fun s=>go undef w' s q)
  |call F vs _ hr q =>
   rw [hr,Oper.upon_enter]
   cases e:Nat.beq i k with
   |true =>
    rw [e] at q
    have e:=Nat.eq_of_beq_eq_true e
    refine Calls.mono q fun en w' p=> ?_
    obtain ⟨v,rfl,p⟩:=p
    exact hK' _ _ (fun hne=>absurd e hne) (fun s=>go v w' s p)
   |false =>
    rw [e] at q
    refine Calls.mono q fun en w' p=> ?_
    obtain ⟨v,rfl,s1,p⟩:=p
    exact hK' _ _ (fun _=>s1) (fun s=>go v w' s p)
 ·rw [if_neg (by rw [hw];decide)]
  exact hK' _ _ (fun _=>hS) (fun s=>go undef w s h)
theorem end_nil {t:Ord} (h:t.end=true):t= .nil:=by
 cases t with
 |nil=>rfl
 |one _ _=>cases h
 |two _ _ _ _=>cases h
theorem oby_out (T:Tb P) {ops:Array Oper} {k:Nat} {nf:List Nat} {K:List (Nat × Value)→World→Prop} (hK:∀M w,Fr a n G M→K M w→Q .normal (puts a M) w)
 (hQ:∀c a a' w,Q (.panic c) a w→Q (.panic c) a' w) (hsel:Region.noSelect ops=true) (hd:dstB n ops.toList=true) :
 ∀(is:Ord) (fuel:Nat) {listed:Array Bool} {M:List (Nat × Value)} {w:World},Fr a n G M→is.dep≤fuel→okY ops k nf is listed=true→(is≠ .nil→S w)→ObY T ops.toList G S k nf K is M w→wpAnyE P .any ops Q S k fuel listed (puts a M) w
 | .nil,fuel,listed,M,w,f,_,ho,_,h=>wpAnyE_done (by unfold okY at ho;simpa using ho) (hK M w f h) fuel
 | .one i t,0,listed,M,w,f,hl,ho,hS,h=>by simp [Ord.dep] at hl
 | .two i t j u,0,listed,M,w,f,hl,ho,hS,h=>by simp [Ord.dep] at hl
 | .one i t,fuel+1,listed,M,w,f,hl,ho,hS0,h=>by
   have hS:=hS0 (by simp)
   unfold ObY at h
   unfold okY at ho
   simp only [Bool.and_eq_true] at ho
   obtain ⟨⟨ho1,hlast⟩,ho2⟩:=ho
   have hl':t.dep≤fuel:=by simp [Ord.dep] at hl;omega
   have go:∀o,ops[i]? =some o→∀v w',(i≠k→S w')→ObY T ops.toList G S k nf K t (putM o.dst v M) w'→wpAnyE P .any ops Q S k fuel (listed.setIfInBounds i true) ((puts a M).put o.dst v) w':=fun o hi v w' s h=>by
    have hdo:dOk n o.dst=true:=dstB_mem hd (List.mem_of_getElem? (by rw [Array.getElem?_toList];exact hi))
    rw [←puts_putM]
    refine oby_out T hK hQ hsel hd t fuel (f.put hdo) hl' ho2 (fun hne=>s (fun e=> ?_)) h
    rw [e,Nat.beq_refl] at hlast
    exact hne (end_nil hlast)
   have hu:=h
   unfold StpY at h
   cases e0:nth ops.toList i with
   |none=>rw [e0] at h;exact h.elim
   |some o =>
    rw [e0] at h
    simp only at h
    have hi:ops[i]? =some o:=by rw [←Array.getElem?_toList];exact nth_get e0
    rw [hi] at ho1
    simp only at ho1
    by_cases hfl:(effB o&& !inL nf i)=true
    ·rw [hfl] at ho1
     have hr:Region.ready .any ops listed=[i]:=by simpa using ho1
     have hnf:inL nf i=false:=by simp at hfl;exact hfl.2
     refine ⟨fun h0=>absurd (hr.symm.trans h0) (by simp),fun i' hi'=> ?_⟩
     rw [hr] at hi'
     obtain rfl:i'=i:=by simpa using hi'
     exact step_out T f hS hnf go hu
    ·have hfl:(effB o&& !inL nf i)=false:=by simpa using hfl
     rw [hfl] at ho1
     simp only [cond_false,Bool.and_eq_true,Bool.or_eq_true] at ho1
     obtain ⟨⟨hfree,hready⟩,hwt⟩:=ho1
     have hwt:waitsB .any ops listed ops.size i k=true∨ops.size≤k:=hwt.elim (fun q=> .inr (Nat.le_of_ble_eq_true q)) .inl
     have first:∀v,YieldsIf P ops S o v (puts a M)→ObY T ops.toList G S k nf K t (putM o.dst v M) w→wpAnyE P .any ops Q S k (fuel+1) listed (puts a M) w:=fun v hy q =>
      wpAnyE_firstG hi (Region.noSelect_spec hsel) (fun c a w q=>hQ c _ _ w q) fuel listed _ w (Region.free_spec hi hfree) (by simpa using hready) hwt hy hS (go o hi v w (fun _=>hS) q)
     rcases guardK_out f h with ⟨hw,h⟩|⟨hw,h⟩
     ·cases hnf:inL nf i with
      |true=>rw [hnf] at h;exact h.elim
      |false =>
       rw [hnf,cond_false] at h
       have hef:effB o=false:=by rw [hnf] at hfl;simpa using hfl
       cases viewK_out f T h with
       |pure v hr k=>exact first v (.inl ⟨hw,fun w1 _=>hr w1⟩) k
       |still E hr k=>obtain ⟨v,e,k⟩:=k;exact first v (.inl ⟨hw,fun w1 s=>hr w1 v w1 (e w1 s)⟩) k
       |eff E e _ _=>rw [hef] at e;cases e
       |unit E e _ _=>rw [hef] at e;cases e
       |call F vs e _ _=>rw [hef] at e;cases e
     ·exact first undef (.inr ⟨hw,rfl⟩) h
 | .two i t j u,fuel+1,listed,M,w,f,hl,ho,hS0,h=>by
   have hS:=hS0 (by simp)
   unfold ObY at h
   unfold okY at ho
   simp only [Bool.and_eq_true,Bool.not_eq_true'] at ho
   obtain ⟨⟨⟨⟨⟨⟨hr,nfi⟩,nfj⟩,hli⟩,hlj⟩,hoi⟩,hoj⟩:=ho
   have hr:Region.ready .any ops listed=[i,j]:=by simpa using hr
   obtain ⟨ha,hb⟩:=h
   have hlt:t.dep≤fuel∧u.dep≤fuel:=by simp [Ord.dep] at hl;omega
   have one:∀(i:Nat) (t:Ord),t.dep≤fuel→(cond (Nat.beq i k) t.end true)=true→okY ops k nf t (listed.setIfInBounds i true)=true →
        ∀o,ops[i]? =some o→∀v w',(i≠k→S w')→ObY T ops.toList G S k nf K t (putM o.dst v M) w'→wpAnyE P .any ops Q S k fuel (listed.setIfInBounds i true) ((puts a M).put o.dst v) w':=fun i t ht hlast ho2 o hi v w' s h=>by
    have hdo:dOk n o.dst=true:=dstB_mem hd (List.mem_of_getElem? (by rw [Array.getElem?_toList];exact hi))
    rw [←puts_putM]
    refine oby_out T hK hQ hsel hd t fuel (f.put hdo) ht ho2 (fun hne=>s (fun e=> ?_)) h
    rw [e,Nat.beq_refl] at hlast
    exact hne (end_nil hlast)
   refine ⟨fun h0=>absurd (hr.symm.trans h0) (by simp),fun q hq=> ?_⟩
   rw [hr] at hq
   rcases List.mem_cons.1 hq with rfl|hq
   ·exact step_out T f hS nfi (one q t hlt.1 hli hoi) ha
   ·obtain rfl:q=j:=by simpa using hq
    exact step_out T f hS nfj (one q u hlt.2 hlj hoj) hb
termination_by is fuel=>fuel
theorem zo (T:Tb P) (is:Ord) (k:Nat) (S:World→Prop) {l:List Value} {ds:List Deferred} {id:Nat} {os:List Oper} {w:World} (nf:List Nat:=[]) (hS:S w.drew)
 (h:ObY T os (Glit l) S k nf (fun M w=>Fi (Q .normal (puts ⟨l.toArray,ds⟩ M) w)) is [] w.drew)
 (hk:okY os.toArray k nf is (Array.replicate os.length false)=true:=by kernel_rfl) (hd:dstB l.length os=true:=by kernel_rfl) (hs:Region.noSelect os.toArray=true:=by kernel_rfl) (hm:P.follows .mixedOrders=true:=by kernel_rfl) (hl:Nat.ble is.dep os.length=true:=by kernel_rfl) :
 (Code.region id os.toArray true).wp P Q ⟨l.toArray,ds⟩ w :=
 wp_region_noPanic (wp_region_E k hm hS (fun s=>oby_out (ops:=os.toArray) T (fun M w _ h=>NoPanic.normal h.out) (fun _ _ _ _ q=>q) hs hd is _ (fr_lit l ds) (by have:=Nat.le_of_ble_eq_true hl;simpa using this) hk (fun _=>s) h))
theorem zy (T:Tb P) (is:List Nat) (k:Nat) (S:World→Prop) {l:List Value} {ds:List Deferred} {id:Nat} {os:List Oper} {w:World} (nf:List Nat:=[]) (hS:S w.drew)
 (h:ObY T os (Glit l) S k nf (fun M w=>Fi (Q .normal (puts ⟨l.toArray,ds⟩ M) w)) (Ord.of is) [] w.drew)
 (hk:okY os.toArray k nf (Ord.of is) (Array.replicate os.length false)=true:=by kernel_rfl) (hd:dstB l.length os=true:=by kernel_rfl) (hs:Region.noSelect os.toArray=true:=by kernel_rfl) (hm:P.follows .mixedOrders=true:=by kernel_rfl) (hl:Nat.ble (Ord.of is).dep os.length=true:=by kernel_rfl) :
 (Code.region id os.toArray true).wp P Q ⟨l.toArray,ds⟩ w:=zo T (Ord.of is) k S nf hS h hk hd hs hm hl
end
section
variable {P:Program}
def faB (P:Program) (s f d:Nat):Bool :=
 match P.underlying s with
 |some (.struct fs)=>match fs[f]? with
  |some fd=>Nat.beq fd.offset d&&match P.info? fd.type with
   |some i=> !Nat.beq (P.cellsOf fd.type) 0
   |none=>false
  |none=>false
 |_=>false
theorem faB_out {s f d:Nat} (h:faB P s f d=true) (b o:Nat) (w:World):(Instr.fieldAt s (.pointer (some ⟨b,o,none⟩)) f).run P w= .ok (.pointer (some ⟨b,o+d,none⟩)) w:=by
 unfold faB at h
 cases e1:P.underlying s with
 |none=>rw [e1] at h;cases h
 |some t =>
  rw [e1] at h
  cases t <;>simp only at h <;>try cases h
  rename_i fs
  cases e2:fs[f]? with
  |none=>rw [e2] at h;cases h
  |some fd =>
   rw [e2] at h
   simp only [Bool.and_eq_true] at h
   obtain ⟨h1,h2⟩:=h
   cases e3:P.info? fd.type with
   |none=>rw [e3] at h2;cases h2
   |some i =>
    rw [e3] at h2
    simp only [Bool.not_eq_true'] at h2
    have h1:=Nat.eq_of_beq_eq_true h1
    have h2:P.cellsOf fd.type≠0:=fun q=>by rw [q] at h2;cases h2
    unfold Instr.fieldAt
    simp only [underlying,Sem.run_bind,run_program,Result.andThen_ok,e1,Sem.run_pure,e2,Instr.sureAddr,fieldPlace,run_sizeOf _ e3,Addr.add,h1]
    by_cases hd:d=0
    ·simp [hd,h2]
    ·simp [hd,h2]
def lnB (P:Program) (t:Nat):Bool:=match P.underlying t with |some (.slice _)=>true|_=>false
theorem lnB_out {t:Nat} (h:lnB P t=true) (r:TypeId) (a:Option Addr) (n c:Nat) (w:World):(Builtin.len_ #[t] r #[.slice a n c]).run P w= .ok (.int .i64 (n:Int)) w:=by
 unfold lnB at h
 cases e1:P.underlying t with
 |none=>rw [e1] at h;cases h
 |some d =>
  rw [e1] at h
  cases d <;>simp only at h <;>try cases h
  unfold Builtin.len_
  simp [underlying,e1,goInt]
def fnB (P:Program) (f:Nat):Bool:=match P.funcs[f]? with |some fn=> !(fn.name== "runtime.NumGoroutine")&&fn.body.isSome|none=>false
theorem fnB_out {f:Nat} (h:fnB P f=true) (vs:Array Value) (w:World):(callFunc f vs).run P w= .ok (.enter f vs) w:=by
 unfold fnB at h
 cases e1:P.funcs[f]? with
 |none=>rw [e1] at h;cases h
 |some fn =>
  rw [e1] at h
  simp only [Bool.and_eq_true,Bool.not_eq_true'] at h
  obtain ⟨h1,h2⟩:=h
  have h4:fn.name≠ "runtime.NumGoroutine" :=by simpa using h1
  have h5:fn.body≠none:=by intro q;rw [q] at h2;cases h2
  unfold callFunc
  simp [e1,h4,h5]
def tbOf (P:Program) (fa:List ((Nat × Nat) × Nat)) (ln fn:List Nat) (h:(fa.all (fun e=>faB P e.1.1 e.1.2 e.2)&&ln.all (lnB P)&&fn.all (fnB P))=true):Tb P :=
 {fa:=fa
  fa_ok:=fun e he=>by rw [Bool.and_eq_true,Bool.and_eq_true] at h;exact faB_out (List.all_eq_true.1 h.1.1 e he)
  ln:=ln
  ln_ok:=fun t ht=>by rw [Bool.and_eq_true,Bool.and_eq_true] at h;exact lnB_out (List.all_eq_true.1 h.1.2 t ht)
  fn:=fn
  fn_ok:=fun f hf=>by rw [Bool.and_eq_true,Bool.and_eq_true] at h;exact fnB_out (List.all_eq_true.1 h.2 f hf)}
end
end Go.Proofs.YtifendlpeebofaaGreatDoor.En
namespace Go.Proofs.YtifendlpeebofaaGreatDoor
def tab:En.Tb Tryz.prog:=En.tbOf Tryz.prog [((36,1),32),((40,0),0),((40,1),1),((40,2),2),((40,3),3),((42,0),0),((42,1),1),((42,2),34),((42,3),67),((42,4),100),((42,5),101),((42,6),105),((65,0),0),((65,1),1),((65,2),2),((65,3),3),((75,0),0),((78,0),0),((78,2),66),((80,0),0),((80,1),1),((83,0),0),((87,0),0),((87,1),1),((90,0),0),((95,0),0),((95,1),33),((95,2),34),((95,3),38),((95,4),71),((95,5),104),((99,0),0),((99,1),33),((99,2),34),((99,3),38),((99,4),71),((99,5),104),((105,0),0),((105,1),33),((105,2),66),((128,0),0),((128,1),67),((128,2),68),((128,3),69),((128,4),71),((152,0),0),((152,1),1),((152,2),2),((179,0),0),((179,1),1)] [22,31,49,56,73,81,85,88,113,150] [8,9,10,11,12,13,14,15,16,17,18,19,20,21,22,23,24,25,26,27,28,29,30,31,32,33,34,35,36,37,38,39,40,41,42,43,44,45,46,47,48,49,50,51,52,53,54,55,56,57,58,59,60,61,62,63,64,65,66,67,69,70,71,72,73,74,76,77,78,79,80,81,82,84,85,86,87,88,89,90,91,92,93,94,95,96,97,98,99,100,101,102,103,104,105,106,107,108,109,110,111,112,113,114,115,116,117,118,119,120,121,122,123,124,125,126,127,128,129,130,131,132,133,134,135,136,137,138,140,141,142,143,144,145,146,147,148,149,150,151,152,153,154,155,156,157,158,159,160,161,162,163,164,165,166,167,168,169,170,171,173,174,175,176,177] (by kernel_rfl)
end Go.Proofs.YtifendlpeebofaaGreatDoor
namespace Go.Proofs.YtifendlpeebofaaGreatDoor
open Go.RowKit Sq
structure PutV where
 id:IdK
 bh:IdK
structure PutV.ok (p:PutV):Prop where
 id:p.id.ok
 bh:p.bh.ok
section
variable {w:World} {b o:Nat} {p:PutV}
end
end Go.Proofs.YtifendlpeebofaaGreatDoor
namespace Go.Proofs.YtifendlpeebofaaGreatDoor
open Go.RowKit
theorem load_id_at {w:World} {b o:Nat} {k:IdK} (hk:k.ok) (h:w.rangeAt b o k.c):(Instr.loadAt 36 (.pointer (some ⟨b,o,none⟩))).run Tryz.prog w= .ok k.v w :=
 run_loadAt_mid (P:=Tryz.prog) w b o 36 k.c _ h Tryz.underlying36 rfl (by rw [IdK.len hk];exact szId)
theorem same_ids (a b:Option Addr) (ca cb:Nat) (A B:List IdK) (w:World) (hA:IdsAt w a A) (hB:IdsAt w b B) (oA:∀x∈A,x.ok) (oB:∀x∈B,x.ok) (lA:A.length≤7000000000000) :
 Calls Tryz.prog 29 #[.slice a A.length ca, .slice b B.length cb] w fun e w'=>e= .returned (.bool (decide (A=B)))∧Below w.heap.size w w':=by
 obtain ⟨n,hn⟩:∃n,A.length=n:=⟨_,rfl⟩
 obtain ⟨m,hm⟩:∃m,B.length=m:=⟨_,rfl⟩
 have HN:=hidMk hn
 have HM:=hidMk hm
 have HLA:=hidMk lA
 rw [hn,hm]
 by_cases hnm:n=m
 ·subst hnm
  clear hn hm lA
  go_enter Tryz.func29,Tryz.ntmps29
  go_wp2
  go_loopw [5] (fun v5 wr=> ∃i:Nat,v5= .int .i64 (i:Int)∧i≤n∧A.take i=B.take i∧Below w.heap.size w wr) (fun v5 wr=>n-(match v5 with | .int _ i=>i.toNat|_=>0))
  case atStart=>exact ⟨0,rfl,Nat.zero_le _,rfl,Below.refl _ _⟩
  case round =>
   obtain ⟨i,rfl,hin,htk,bel⟩:=hrel
   have hLn:=HN.out
   have hLm:=HM.out
   by_cases hi:i<n
   ·have hxi:A[i]? =some A[i]:=List.getElem?_eq_getElem (by omega)
    have hyi:B[i]? =some B[i]:=List.getElem?_eq_getElem (by omega)
    generalize A[i]=x at hxi
    generalize B[i]=y at hyi
    have hxo:x.ok:=oA x (List.mem_of_getElem? hxi)
    have hyo:y.ok:=oB y (List.mem_of_getElem? hyi)
    obtain ⟨b1,o1,rfl,lb1,r1⟩:∃b1 o1,a=some ⟨b1,o1,none⟩∧b1<w.heap.size∧w.rangeAt b1 (o1+i*33) x.c:=by
        rcases hA with rfl|⟨b1,o1,e,h1,h2⟩
        ·simp at hxi
        ·exact ⟨b1,o1,e,h1,by rw [Nat.mul_comm];exact h2 i x hxi⟩
    obtain ⟨b2,o2,rfl,lb2,r2⟩:∃b1 o1,b=some ⟨b1,o1,none⟩∧b1<w.heap.size∧w.rangeAt b1 (o1+i*33) y.c:=by
        rcases hB with rfl|⟨b1,o1,e,h1,h2⟩
        ·simp at hyi
        ·exact ⟨b1,o1,e,h1,by rw [Nat.mul_comm];exact h2 i y hyi⟩
    have bel':Below w.heap.size w wr.drew:=bel.drew
    have L1:=hidMk (load_id_at hxo (rangeAt_keep r1 (bel'.block _ lb1)))
    have L2:=hidMk (load_id_at hyo (rangeAt_keep r2 (bel'.block _ lb2)))
    have HT:=hidMk htk
    have HX:=hidMk (And.intro hxi hyi)
    clear htk hxi hyi r1 r2 hLn hLm
    go_upto_region 6 with fail
    refine wp_region_still_tail 8 (by kernel_rfl) (by kernel_rfl) ?_
    simp only [List.take_succ_cons,List.take_zero,List.drop_succ_cons,List.drop_zero]
    change wpStill _ _ wr.drew (fun a'=>wpList _ _ _ _ a' wr.drew) _ _
    generalize wr.drew=wd at *
    iterate 3 still_step
    refine still_val rfl (xld (t:=36) (u:= .pointer (some ⟨b1,o1+i*33,none⟩)) rfl rfl L1.out) ?_
    simp only [Act.put,qsA,qsB,qsC]
    iterate 3 still_step
    refine still_val rfl (xld (t:=36) (u:= .pointer (some ⟨b2,o2+i*33,none⟩)) rfl rfl L2.out) ?_
    simp only [Act.put,qsA,qsB,qsC]
    refine wpStill_nil ?_
    refine wpList_val rfl (exec_binOp (xv:=x.v) (yv:=y.v) rfl rfl rfl (guard_id _ _ x y _ _) (neq_id x y hxo hyo _)) ?_
    simp only [Act.put,qsA,qsB,qsC]
    by_cases hxy:x=y
    ·subst hxy
     simp only [decide_true,Bool.not_true]
     go_wp2
     have hwr:Go.RowKit.wrap64 ((i:Int)+1)=((i+1:Nat):Int):=by
      have:=HLA.out
      have:=HN.out
      unfold Go.RowKit.wrap64
      omega
     rw [hwr]
     refine ⟨⟨i+1,rfl,hi, ?_,bel'⟩, ?_⟩
     ·rw [List.take_add_one,List.take_add_one,HX.out.1,HX.out.2,HT.out]
     ·show n-((i+1:Nat):Int).toNat<n-(i:Int).toNat
      omega
    ·have hd:decide (x=y)=false:=by simpa using hxy
     rw [hd]
     simp only [Bool.not_false]
     go_wp2
     go_ret
     refine ⟨?_,bel'⟩
     have:A≠B:=fun e=>by
      rw [e] at HX
      exact hxy (Option.some.inj (HX.out.1.symm.trans HX.out.2))
     simp [this]
   ·obtain rfl:i=n:=by omega
    have hAB:A=B:=by rw [List.take_of_length_le (by omega),List.take_of_length_le (by omega)] at htk;exact htk
    have HAB:=hidMk hAB
    clear hAB htk hLn hLm hin
    go_wp2
    go_ret
    exact ⟨by simp [HAB.out],bel⟩
 ·have hne:A≠B:=fun e=>hnm (by rw [←hn, ←hm,e])
  have hnm2:((n:Int)==(m:Int))=false:=by simp;omega
  have hnm3:((n:Int) !=(m:Int))=true:=by simp;omega
  have HNE:=hidMk hne
  clear hn hm hne hnm
  go_enter Tryz.func29,Tryz.ntmps29
  go_wp2
  go_ret
  exact ⟨by simp [HNE.out],Below.refl _ _⟩
end Go.Proofs.YtifendlpeebofaaGreatDoor
namespace Go.Proofs.YtifendlpeebofaaGreatDoor
open Go.RowKit Sq
def idsE (E:List Elt) (c:Bool):List IdK:=(visE E c).map (·.id)
theorem insC_zero {E:List Elt} {k b:IdK} (h:insC E k b=0):1≤k.n∧hasE E k=false∧(b=zId∨hasE E b=true):=by
 unfold insC at h
 split at h
 ·cases h
 ·next h1 =>
  split at h
  ·cases h
  ·next h2 =>
   split at h
   ·cases h
   ·next h3 =>
    refine ⟨by omega,by simpa using h2, ?_⟩
    by_cases q:b=zId
    ·exact .inl q
    ·refine .inr ?_
     cases r:hasE E b with
     |true=>rfl
     |false=>exact absurd ⟨q,r⟩ h3
theorem visE_all (E:List Elt):visE E false=E:=List.filter_eq_self.2 fun x _=>rfl
theorem snoc_ind {α:Type} {P:List α→Prop} (h0:P []) (hs:∀l x,P l→P (l++[x])) (l:List α):P l:=by
 have:∀n (l:List α),l.length=n→P l:=by
  intro n
  induction n with
  |zero=>intro l h;rw [List.eq_nil_of_length_eq_zero h];exact h0
  |succ n ih =>
   intro l h
   have hne:l≠[]:=by intro q;rw [q] at h;cases h
   rw [←List.dropLast_concat_getLast hne]
   exact hs _ _ (ih _ (by simp;omega))
 exact this _ l rfl
theorem ahead_get {F:List Elt} (ok:SeqOk F) (c:Bool) {i:Nat} (hi:i<F.length):aheadE F c F[i].id=((F.take i).countP (cE c):Int):=by
 have hs:F=F.take i++F[i]::F.drop (i+1):=by rw [List.getElem_cons_drop];exact (List.take_append_drop i F).symm
 have hh:hasE F F[i].id=true:=hasE_iff.2 ⟨F[i],List.getElem_mem hi,rfl⟩
 unfold aheadE
 rw [if_pos hh]
 have e:F.takeWhile (fun e=> !decide (e.id=F[i].id))=F.take i:=by
  have nd:=ok.nd
  generalize F[i]=x at *
  rw [hs,List.map_append,List.map_cons,List.nodup_append] at nd
  conv=>lhs;rw [hs]
  refine takeWhile_mid (fun y hy=> ?_) (by simp)
  have:y.id≠x.id:=nd.2.2 y.id (List.mem_map.2 ⟨y,hy,rfl⟩) x.id (by simp)
  simpa using this
 rw [e]
theorem cnt_all (l:List Elt):l.countP (cE false)=l.length:=List.countP_eq_length.2 fun x _=>rfl
theorem rank_get {F:List Elt} (ok:SeqOk F) {i:Nat} (hi:i<F.length):aheadE F false F[i].id=(i:Int):=by
 rw [ahead_get ok false hi,cnt_all,List.length_take,Nat.min_eq_left (by omega)]
theorem rank_neg {F:List Elt} {x:IdK} (h:hasE F x=false) (c:Bool):aheadE F c x= -1:=by unfold aheadE;rw [h];rfl
theorem rank_pos {F:List Elt} {x:IdK} {c:Bool} (h:hasE F x=true):0≤aheadE F c x:=by unfold aheadE;rw [if_pos h];omega
structure Stays (E F:List Elt) (g:IdK→Prop):Prop where
 sub:((E.map (·.id)).filter (fun x=>hasE F x)).Sublist (F.map (·.id))
 has:∀x,hasE E x=true→hasE F x=false→g x
theorem showE_len (E:List Elt) (k:IdK) (b:Bool):(showE E k b).length=E.length:=by simp [showE]
theorem nth_get {F:List Elt} {i:Nat} (hi:i<F.length):nthE F false (i:Int)=(F[i].id,true):=by
 unfold nthE
 rw [visE_all,if_pos (by omega),Int.toNat_natCast,List.getD_eq_getElem?_getD,List.getElem?_map,List.getElem?_eq_getElem hi]
 rfl
theorem cnt_take {F:List Elt} (c:Bool) {i:Nat} (hi:i<F.length):(F.take (i+1)).countP (cE c)=(F.take i).countP (cE c)+(if cE c F[i]=true then 1 else 0):=by
 rw [List.take_add_one,List.getElem?_eq_getElem hi,Option.toList,List.countP_append,List.countP_cons,List.countP_nil]
 simp
def rowR (R:List Elt):List Elt:=R.foldl (fun l e=>putE l e.bh e) []
theorem rowR_snoc (R:List Elt) (e:Elt):rowR (R++[e])=putE (rowR R) e.bh e:=by simp [rowR]
theorem rowR_perm (R:List Elt):(rowR R).Perm R:=by
 refine snoc_ind (P:=fun R=>(rowR R).Perm R) (List.Perm.refl _) (fun R e ih=> ?_) R
 rw [rowR_snoc]
 exact (putE_perm _ _ _).trans ((List.Perm.cons e ih).trans (List.perm_append_comm (l₁:=[e])))
structure RefOk (R:List Elt):Prop where
 ok:∀e∈R,e.id.ok∧e.bh.ok∧1≤e.id.n
 nd:(R.map (·.id)).Nodup
 bh:∀A e B,R=A++e::B→e.bh=zId∨hasE A e.bh=true
theorem RefOk.nil:RefOk []:=⟨fun e he=>by simp at he,by simp,fun A e B h=>by simp at h⟩
theorem RefOk.all {R:List Elt} (h:RefOk R):∀e∈R,e.bh=zId∨hasE R e.bh=true:=fun e he=>by
 obtain ⟨A,B,rfl⟩:=List.append_of_mem he
 refine (h.bh A e B rfl).imp id (fun q=> ?_)
 obtain ⟨x,hx,r⟩:=hasE_iff.1 q
 exact hasE_iff.2 ⟨x,List.mem_append_left _ hx,r⟩
theorem RefOk.seq {R:List Elt} (h:RefOk R):SeqOk R:=⟨h.nd,h.ok,h.all⟩
theorem RefOk.row {R:List Elt} (h:RefOk R):SeqOk (rowR R):=h.seq.perm (rowR_perm R).symm
theorem RefOk.left {A B:List Elt} (h:RefOk (A++B)):RefOk A:=by
 refine ⟨fun e he=>h.ok e (List.mem_append_left _ he), ?_,fun C e D q=>h.bh C e (D++B) (by rw [q];simp)⟩
 have:=h.nd
 rw [List.map_append,List.nodup_append] at this
 exact this.1
theorem has_row (R:List Elt) (k:IdK):hasE (rowR R) k=hasE R k:=hasE_perm (rowR_perm R) k
theorem insC_row (R:List Elt) (k b:IdK):insC (rowR R) k b=insC R k b:=by unfold insC;rw [has_row,has_row]
theorem showC_row (R:List Elt) (k:IdK):showC (rowR R) k=showC R k:=by unfold showC;rw [has_row]
def insD (R:List Elt) (k b:IdK):List Elt:=if insC R k b=0 then R++[⟨k,b,true⟩] else R
theorem insD_row (R:List Elt) (k b:IdK):rowR (insD R k b)=insR (rowR R) k b:=by
 unfold insD insR
 rw [insC_row]
 split
 ·rw [rowR_snoc]
 ·rfl
theorem RefOk.ins {R:List Elt} (h:RefOk R) {k b:IdK} (hk:k.ok) (hb:b.ok):RefOk (insD R k b):=by
 unfold insD
 split
 ·next q =>
  obtain ⟨h1,h2,h3⟩:=insC_zero q
  refine ⟨fun e he=> ?_, ?_,fun A e B r=> ?_⟩
  ·rcases List.mem_append.1 he with r|r
   ·exact h.ok e r
   ·rw [List.mem_singleton.1 r];exact ⟨hk,hb,h1⟩
  ·rw [List.map_append,List.nodup_append]
   refine ⟨h.nd,by simp,fun a ha c hc=> ?_⟩
   simp at hc
   rw [hc]
   obtain ⟨e,he,rfl⟩:=List.mem_map.1 ha
   intro r
   have:hasE R k=true:=hasE_iff.2 ⟨e,he,r⟩
   rw [h2] at this;cases this
  ·rcases List.append_eq_append_iff.1 r with ⟨C,e1,e2⟩|⟨C,e1,e2⟩
   ·cases C with
    |nil =>
     simp at e1 e2
     subst e1
     rw [←e2.1];exact h3
    |cons c C =>
     simp at e2
   ·cases C with
    |nil =>
     simp at e1 e2
     subst e1
     rw [e2.1];exact h3
    |cons c C =>
     simp only [List.cons_append,List.cons.injEq] at e2
     exact h.bh A e C (by rw [e1, ←e2.1])
 ·exact h
theorem insD_len (R:List Elt) (k b:IdK):(insD R k b).length≤R.length+1:=by
 unfold insD
 split <;>simp
theorem putE_show (l:List Elt) (b:IdK) (x:Elt) (k:IdK) (s:Bool):showE (putE l b x) k s=putE (showE l k s) b (if x.id=k then {x with sh:=s} else x):=by
 have hi:∀l:List Elt,showE (insE l b x) k s=insE (showE l k s) b (if x.id=k then {x with sh:=s} else x):=by
  intro l
  induction l with
  |nil=>rfl
  |cons e l ih =>
   have hid:∀e:Elt,(if e.id=k then {e with sh:=s} else e).id=e.id:=fun e=>by split <;>rfl
   unfold showE at *
   rw [List.map_cons,insE,insE,hid]
   by_cases q:e.id=b
   ·rw [if_pos q,if_pos q];rfl
   ·rw [if_neg q,if_neg q,List.map_cons,ih]
 unfold putE
 split
 ·rfl
 ·exact hi l
theorem show_row (R:List Elt) (k:IdK) (s:Bool):rowR (showE R k s)=showE (rowR R) k s:=by
 refine snoc_ind (P:=fun R=>rowR (showE R k s)=showE (rowR R) k s) rfl (fun R e ih=> ?_) R
 have e1:showE (R++[e]) k s=showE R k s++[if e.id=k then {e with sh:=s} else e]:=by simp [showE]
 rw [e1,rowR_snoc,rowR_snoc,ih,putE_show]
 congr 1
 split <;>rfl
theorem RefOk.show {R:List Elt} (h:RefOk R) (k:IdK) (s:Bool):RefOk (showE R k s):=by
 have ok:=h.seq.show k s
 refine ⟨ok.ok,ok.nd,fun A e B q=> ?_⟩
 unfold showE at q
 obtain ⟨A',B',e1,e2,e3⟩:=List.map_eq_append_iff.1 q
 obtain ⟨e',B'',e4,e5,e6⟩:=List.map_eq_cons_iff.1 e3
 have:=h.bh A' e' B'' (by rw [e1,e4])
 rw [←e2]
 have hb:e.bh=e'.bh:=by rw [←e5];split <;>rfl
 rw [hb]
 refine this.imp id (fun r=> ?_)
 have:=showE_has A' k s e'.bh
 unfold showE at this
 rw [this];exact r
def AtIs (l:List Elt) (b:IdK) (k at':Nat):Prop:=(at'=0∧∀j (h:j<l.length),j<k→l[j].id≠b)∨(∃j,∃h:j<l.length,j<k∧at'=j+1∧l[j].id=b)
theorem AtIs.zero (l:List Elt) (b:IdK):AtIs l b 0 0:= .inl ⟨rfl,fun j _ h=>by omega⟩
theorem AtIs.hit {l:List Elt} {b:IdK} {k:Nat} (hk:k<l.length) (h:l[k].id=b):AtIs l b (k+1) (k+1):= .inr ⟨k,hk,by omega,rfl,h⟩
theorem AtIs.miss {l:List Elt} {b:IdK} {k a:Nat} (hk:k<l.length) (h:l[k].id≠b) (q:AtIs l b k a):AtIs l b (k+1) a:=by
 rcases q with ⟨h1,h2⟩|⟨j,hj,h1,h2,h3⟩
 ·refine .inl ⟨h1,fun j hj hjk=> ?_⟩
  by_cases e:j=k
  ·subst e;exact h
  ·exact h2 j hj (by omega)
 ·exact .inr ⟨j,hj,by omega,h2,h3⟩
theorem AtIs.le {l:List Elt} {b:IdK} {k a:Nat} (q:AtIs l b k a):a≤l.length∧a≤k:=by
 rcases q with ⟨h1,h2⟩|⟨j,hj,h1,h2,h3⟩ <;>omega
theorem put_at {l:List Elt} (nd:(l.map (·.id)).Nodup) (h1:∀e∈l,1≤e.id.n) {b:IdK} (hb:b=zId∨hasE l b=true) {a:Nat} (q:AtIs l b l.length a) (x:Elt):putE l b x=l.take a++x::l.drop a:=by
 rcases q with ⟨rfl,h2⟩|⟨j,hj,_,rfl,h3⟩
 ·have hz:b=zId:=by
   rcases hb with r|r
   ·exact r
   ·obtain ⟨e,he,r⟩:=hasE_iff.1 r
    obtain ⟨i,hi,rfl⟩:=List.getElem_of_mem he
    exact absurd r (h2 i hi hi)
  unfold putE
  rw [if_pos hz];rfl
 ·have hz:b≠zId:=fun r=>by
   have:=h1 l[j] (List.getElem_mem hj)
   rw [h3,r] at this
   simp [zId] at this
  have e:l=l.take j++l[j]::l.drop (j+1):=by rw [List.getElem_cons_drop];exact (List.take_append_drop j l).symm
  have et:l.take (j+1)=l.take j++[l[j]]:=by rw [List.take_add_one,List.getElem?_eq_getElem hj];rfl
  generalize l[j]=z at *
  have hn:∀y∈l.take j,y.id≠z.id:=fun y hy=>by
   have nd2:=nd
   rw [e,List.map_append,List.map_cons,List.nodup_append] at nd2
   exact nd2.2.2 y.id (List.mem_map.2 ⟨y,hy,rfl⟩) _ (by simp)
  unfold putE
  rw [if_neg hz, ←h3,et]
  conv=>lhs;rw [e]
  rw [insE_mid (A:=l.take j) (B:=l.drop (j+1)) (e:=z) (x:=x) hn]
  simp
theorem shift_step {l:List Elt} {k:Nat} (h0:0<k) (hk:k≤l.length) (y:Elt):(l.take k++y::l.drop k).set k l[k-1]=l.take (k-1)++l[k-1]::l.drop (k-1):=by
 have hl:(l.take k).length=k:=by rw [List.length_take];omega
 have e1:(l.take k++y::l.drop k).set k l[k-1]=l.take k++l[k-1]::l.drop k:=by
  rw [List.set_append_right _ _ (by omega),hl];simp
 have e2:l.take k=l.take (k-1)++[l[k-1]]:=by
  conv=>lhs;rw [show k=(k-1)+1 by omega]
  rw [List.take_add_one,List.getElem?_eq_getElem (by omega)];rfl
 have e3:l.drop (k-1)=l[k-1]::l.drop k:=by
  rw [List.drop_eq_getElem_cons (by omega)]
  congr 2;omega
 rw [e1,e3]
 conv=>lhs;rw [e2]
 rw [List.append_assoc];rfl
theorem shift_last {l:List Elt} {a:Nat} (ha:a≤l.length) (y x:Elt):(l.take a++y::l.drop a).set a x=l.take a++x::l.drop a:=by
 have hl:(l.take a).length=a:=by rw [List.length_take];omega
 rw [List.set_append_right _ _ (by omega),hl];simp
theorem shift_get {l:List Elt} {k:Nat} (h0:0<k) (hk:k≤l.length) (y:Elt):(l.take k++y::l.drop k)[k-1]? =some l[k-1]:=by
 rw [List.getElem?_append_left (by rw [List.length_take];omega),List.getElem?_take,if_pos (by omega),List.getElem?_eq_getElem (by omega)]
theorem shift_len (l:List Elt) {k:Nat} (hk:k≤l.length) (y:Elt):(l.take k++y::l.drop k).length=l.length+1:=by simp;omega
theorem show_set {R:List Elt} (nd:(R.map (·.id)).Nodup) {i:Nat} (hi:i<R.length) (s:Bool):R.set i {R[i] with sh:=s}=showE R R[i].id s:=by
 have e:R=R.take i++R[i]::R.drop (i+1):=by rw [List.getElem_cons_drop];exact (List.take_append_drop i R).symm
 have hl:(R.take i).length=i:=by rw [List.length_take];omega
 generalize hx:R[i]=x at *
 have nd2:=nd
 rw [e,List.map_append,List.map_cons,List.nodup_append] at nd2
 have hn1:∀y∈R.take i,y.id≠x.id:=fun y hy=>nd2.2.2 y.id (List.mem_map.2 ⟨y,hy,rfl⟩) _ (by simp)
 have hn2:∀y∈R.drop (i+1),y.id≠x.id:=fun y hy q=>(List.nodup_cons.1 nd2.2.1).1 (List.mem_map.2 ⟨y,hy,q⟩)
 have hid:∀l:List Elt,(∀y∈l,y.id≠x.id)→showE l x.id s=l:=fun l h=>by
  unfold showE
  conv=>rhs;rw [←List.map_id l]
  exact List.map_congr_left fun y hy=>by rw [if_neg (h y hy)];rfl
 have e2:showE R x.id s=showE (R.take i) x.id s++{x with sh:=s}::showE (R.drop (i+1)) x.id s:=by
  conv=>lhs;rw [e]
  simp [showE]
 rw [e2,hid _ hn1,hid _ hn2]
 conv=>lhs;rw [e]
 rw [List.set_append_right _ _ (by omega),hl];simp
def Elt.c (e:Elt):List Value:=e.id.c++(e.bh.c++[.bool e.sh])
def Elt.wf (e:Elt):Prop:=e.id.ok∧e.bh.ok
def zElt:Elt:=⟨zId,zId,false⟩
theorem zElt_wf:zElt.wf:=⟨zId_ok,zId_ok⟩
theorem Elt.len {e:Elt} (h:e.wf):e.c.length=67:=by simp [Elt.c,IdK.len h.1,IdK.len h.2]
theorem Elt.one (e:Elt):∀v∈e.c,v.oneCell'=true:=by
 intro v hv
 simp only [Elt.c,List.mem_append,List.mem_cons,List.not_mem_nil,or_false] at hv
 rcases hv with h|h|rfl
 ·exact IdK.one _ v h
 ·exact IdK.one _ v h
 ·rfl
def RE:RowT Elt:=⟨Elt.c,Elt.wf,67,88,105,81,zElt⟩
theorem RE_is:RE.Is:=⟨zElt_wf,fun _ h=>Elt.len h,Elt.one,Tryz.underlying81,by kernel_rfl,⟨_,Tryz.underlying105,rfl⟩,by decide,by decide⟩
section
variable {w:World} {b o:Nat} {x:Elt}
theorem ld_el (hx:x.wf) (h:w.rangeAt b o x.c):(Instr.loadAt 105 (.pointer (some ⟨b,o,none⟩))).run Tryz.prog w= .ok (.agg x.c.toArray) w:=RowT.ld RE_is hx h
theorem el_id (hx:x.wf) (h:w.rangeAt b o x.c):(Instr.loadAt 36 (.pointer (some ⟨b,o+0,none⟩))).run Tryz.prog w= .ok x.id.v w :=
 run_loadAt_mid (P:=Tryz.prog) w b o 36 x.id.c _ (fun j v hv=>h j v (by rw [Elt.c,List.getElem?_append_left (List.getElem?_eq_some_iff.1 hv).1];exact hv)) Tryz.underlying36 rfl (by rw [IdK.len hx.1];exact szId)
theorem el_bh (hx:x.wf) (h:w.rangeAt b o x.c):(Instr.loadAt 36 (.pointer (some ⟨b,o+33,none⟩))).run Tryz.prog w= .ok x.bh.v w :=
 run_loadAt_mid (P:=Tryz.prog) w b (o+33) 36 x.bh.c _ (fun j v hv=>by
  have hl:=(List.getElem?_eq_some_iff.1 hv).1
  rw [Nat.add_assoc]
  exact h (33+j) v (by rw [Elt.c,List.getElem?_append_right (by rw [IdK.len hx.1];omega),IdK.len hx.1,show 33+j-33=j by omega,List.getElem?_append_left hl];exact hv)) Tryz.underlying36 rfl (by rw [IdK.len hx.2];exact szId)
theorem el_sh (hx:x.wf) (h:w.rangeAt b o x.c):(Instr.loadAt 4 (.pointer (some ⟨b,o+66,none⟩))).run Tryz.prog w= .ok (.bool x.sh) w:=by
 have l1:=IdK.len hx.1
 have l2:=IdK.len hx.2
 have hc:w.cell? ⟨b,o+66,none⟩=some (.bool x.sh):=h 66 _ (by rw [Elt.c,List.getElem?_append_right (by omega),l1,List.getElem?_append_right (by omega),l2];rfl)
 go_simp
end
theorem ix_el {b o m c i:Nat} (hi:i<m) (hm:m≤1400000000001) (W:World):(Instr.indexAt 81 (.slice (some ⟨b,o,none⟩) m c) (.int .i64 (i:Int))).run Tryz.prog W= .ok (.pointer (some ⟨b,o+67*i,none⟩)) W:=by
 have h2:m≤9223372036854775807:=by omega
 rw [Nat.mul_comm]
 go_simp
theorem fg_105_0 (b o:Nat) (w:World):(Instr.fieldAt 105 (.pointer (some ⟨b,o,none⟩)) 0).run Tryz.prog w= .ok (.pointer (some ⟨b,o+0,none⟩)) w:=by go_simp
theorem fg_105_1 (b o:Nat) (w:World):(Instr.fieldAt 105 (.pointer (some ⟨b,o,none⟩)) 1).run Tryz.prog w= .ok (.pointer (some ⟨b,o+33,none⟩)) w:=by go_simp
theorem fg_105_2 (b o:Nat) (w:World):(Instr.fieldAt 105 (.pointer (some ⟨b,o,none⟩)) 2).run Tryz.prog w= .ok (.pointer (some ⟨b,o+66,none⟩)) w:=by go_simp
theorem fg_83_0 (b o:Nat) (w:World):(Instr.fieldAt 83 (.pointer (some ⟨b,o,none⟩)) 0).run Tryz.prog w= .ok (.pointer (some ⟨b,o+0,none⟩)) w:=by go_simp
theorem len_els (a:Option Addr) (n c:Nat) (W:World) (ty:TypeId):(Builtin.len_ #[81] ty #[.slice a n c]).run Tryz.prog W= .ok (.int .i64 (n:Int)) W:=by go_simp
theorem build_elz (W:World):(Instr.build 105 #[]).run Tryz.prog W= .ok (.agg zElt.c.toArray) W:=by kernel_rfl
structure RefAt (w:World) (base d:Nat) (v:Value) (R:List Elt):Prop where
 c0:w.heap[d]? =some (.cells #[v] 83 (0,0))
 own:RE.Own w base v R
 ok:RefOk R
 hd:base≤d
 len:R.length≤1400000000000
theorem RefAt.ne {w:World} {base d:Nat} {v:Value} {R:List Elt} (h:RefAt w base d v R):v.ownBlock≠some d:=fun e=>by
 obtain ⟨_,c,q⟩:=h.own.cells e
 rw [h.c0] at q
 simp [RE] at q
theorem RefAt.keep {w w':World} {base d:Nat} {v:Value} {R:List Elt} (h:RefAt w base d v R) (h1:w'.heap[d]? =w.heap[d]?) (h2:∀k,v.ownBlock=some k→w'.heap[k]? =w.heap[k]?):RefAt w' base d v R:=⟨h1.trans h.c0,h.own.keep h2,h.ok,h.hd,h.len⟩
theorem RefAt.lt {w:World} {base d:Nat} {v:Value} {R:List Elt} (h:RefAt w base d v R):d<w.heap.size:=(Array.getElem?_eq_some_iff.1 h.c0).1
theorem RefAt.below {w w':World} {base d:Nat} {v:Value} {R:List Elt} (h:RefAt w base d v R) (b:Below w.heap.size w w'):RefAt w' base d v R:=h.keep (b.block d h.lt) (fun k hk=>b.block k (h.own.lt hk))
theorem RefAt.wf {w:World} {base d:Nat} {v:Value} {R:List Elt} (h:RefAt w base d v R):∀e∈R,RE.ok e:=fun e he=>⟨(h.ok.ok e he).1,(h.ok.ok e he).2.1⟩
theorem RefAt.open {w:World} {base d:Nat} {v:Value} {R:List Elt} (h:RefAt w base d v R):∃a c,v= .slice a R.length c∧RE.At w a R:=by
 obtain ⟨a,c,e,ha,_⟩:=h.own.open RE_is h.wf
 exact ⟨a,c,e,ha⟩
theorem ld_all {w:World} {d:Nat} {v:Value} {a:Option Addr} {n c:Nat} (h:w.heap[d]? =some (.cells #[v] 83 (0,0))) (e:v= .slice a n c):(Instr.loadAt 81 (.pointer (some ⟨d,0+0,none⟩))).run Tryz.prog w= .ok v w:=by
 have hc:w.cell? ⟨d,0,none⟩=some v:=by rw [cell_of_row w d 0 _ _ _ h];rfl
 subst e
 rw [Nat.add_zero]
 go_simp
theorem st_all {w:World} {d:Nat} {v:Value} {a:Option Addr} {n c:Nat} (h:w.heap[d]? =some (.cells #[v] 83 (0,0))):(Instr.storeAt 81 (.pointer (some ⟨d,0+0,none⟩)) (.slice a n c)).run Tryz.prog w= .ok () (w.setCell ⟨d,0,none⟩ (.slice a n c))∧(w.setCell ⟨d,0,none⟩ (.slice a n c)).heap[d]? =some (.cells #[.slice a n c] 83 (0,0)):=by
 have hc:w.cell? ⟨d,0,none⟩=some v:=by rw [cell_of_row w d 0 _ _ _ h];rfl
 have hf:=frozen_of_row w d 0 _ _ h
 refine ⟨by rw [Nat.add_zero];go_simp, ?_⟩
 exact Go.heap_setCell_same _ _ 0 _ _ _ h
theorem ix_el0 {b m c i:Nat} (hi:i<m) (hm:m≤1400000000001) (W:World):(Instr.indexAt 81 (.slice (some ⟨b,0,none⟩) m c) (.int .i64 (i:Int))).run Tryz.prog W= .ok (.pointer (some ⟨b,67*i,none⟩)) W:=by
 have:=ix_el (b:=b) (o:=0) (c:=c) hi hm W
 rwa [Nat.zero_add] at this
theorem ex_dec {w:World} {a:Act} {o:Oper} {x y:Operand} {n:Nat} (ho:o.op= .binOp .sub 3 x y 3) (hx:a.eval x= .int .i64 ((n+1:Nat):Int)) (hy:a.eval y= .int .i64 1) (h:n≤1400000000001):(execOp a.eval o).run Tryz.prog w= .ok (.value (.int .i64 (n:Int))) w:=by
 have:=ex_sub (w:=w) ho hx hy ⟨by omega,by omega⟩
 rw [this,show ((n+1:Nat):Int)-1=(n:Int) by omega]
theorem build_elt0 (w:World) (s:Bool) (a0 a1 a2 a3 a4 a5 a6 a7 a8 a9 a10 a11 a12 a13 a14 a15 a16 a17 a18 a19 a20 a21 a22 a23 a24 a25 a26 a27 a28 a29 a30 a31 a32 b0 b1 b2 b3 b4 b5 b6 b7 b8 b9 b10 b11 b12 b13 b14 b15 b16 b17 b18 b19 b20 b21 b22 b23 b24 b25 b26 b27 b28 b29 b30 b31 b32:Value):(Instr.build 105 #[(0, .agg [a0,a1,a2,a3,a4,a5,a6,a7,a8,a9,a10,a11,a12,a13,a14,a15,a16,a17,a18,a19,a20,a21,a22,a23,a24,a25,a26,a27,a28,a29,a30,a31,a32].toArray),(1, .agg [b0,b1,b2,b3,b4,b5,b6,b7,b8,b9,b10,b11,b12,b13,b14,b15,b16,b17,b18,b19,b20,b21,b22,b23,b24,b25,b26,b27,b28,b29,b30,b31,b32].toArray),(2, .bool s)]).run Tryz.prog w= .ok (.agg ([a0,a1,a2,a3,a4,a5,a6,a7,a8,a9,a10,a11,a12,a13,a14,a15,a16,a17,a18,a19,a20,a21,a22,a23,a24,a25,a26,a27,a28,a29,a30,a31,a32]++([b0,b1,b2,b3,b4,b5,b6,b7,b8,b9,b10,b11,b12,b13,b14,b15,b16,b17,b18,b19,b20,b21,b22,b23,b24,b25,b26,b27,b28,b29,b30,b31,b32]++[Value.bool s])).toArray) w:=by kernel_rfl
theorem build_elt (w:World) {p q:IdK} (hp:p.ok) (hq:q.ok) (s:Bool):(Instr.build 105 #[(0,p.v),(1,q.v),(2, .bool s)]).run Tryz.prog w= .ok (.agg (Elt.c ⟨p,q,s⟩).toArray) w:=by
 have h:=IdK.len hp
 have h2:=IdK.len hq
 unfold Elt.c IdK.v
 simp only
 generalize p.c=l at *
 generalize q.c=m at *
 match l,h,m,h2 with
 |a0::a1::a2::a3::a4::a5::a6::a7::a8::a9::a10::a11::a12::a13::a14::a15::a16::a17::a18::a19::a20::a21::a22::a23::a24::a25::a26::a27::a28::a29::a30::a31::a32::[],_,b0::b1::b2::b3::b4::b5::b6::b7::b8::b9::b10::b11::b12::b13::b14::b15::b16::b17::b18::b19::b20::b21::b22::b23::b24::b25::b26::b27::b28::b29::b30::b31::b32::[],_=>exact build_elt0 w s a0 a1 a2 a3 a4 a5 a6 a7 a8 a9 a10 a11 a12 a13 a14 a15 a16 a17 a18 a19 a20 a21 a22 a23 a24 a25 a26 a27 a28 a29 a30 a31 a32 b0 b1 b2 b3 b4 b5 b6 b7 b8 b9 b10 b11 b12 b13 b14 b15 b16 b17 b18 b19 b20 b21 b22 b23 b24 b25 b26 b27 b28 b29 b30 b31 b32
theorem ex_elt {w:World} {a:Act} {o:Oper} {x y z:Operand} {p q:IdK} {s:Bool} (ho:o.op= .build 105 #[(0,x),(1,y),(2,z)]) (hx:a.eval x=p.v) (hy:a.eval y=q.v) (hz:a.eval z= .bool s) (hp:p.ok) (hq:q.ok):(execOp a.eval o).run Tryz.prog w= .ok (.value (.agg (Elt.c ⟨p,q,s⟩).toArray)) w :=
 exec_build ho (by simp [hx,hy,hz]) (build_elt w hp hq s)
def dfin3_ops:Array Oper:=(⟨_,rfl⟩:{o // some o=rgB Tryz.f50 3}).1
theorem dfin3 {d i n ec:Nat} {ea:Option Addr} {g:Bool} (a:Act) (w:World) (Q:Exit→Act→World→Prop) (zz:a.tmps.size=28)
 (t0:a.tmps.getD 0 undef= .pointer (some ⟨d,0,none⟩))
 (t5:a.tmps.getD 5 undef= .int .i64 (i:Int))
 (h0:w.heap[d]? =some (.cells #[.slice ea n ec] 83 (0,0))) (hg:decide ((i:Int)<(n:Int))=g)
 (h:∀a' w',w'=w→a'=((((((a.put (some 8) (.int .i64 (i:Int))).put (some 9) (.pointer (some ⟨d,0,none⟩))).put (some 10) (.pointer (some ⟨d,0,none⟩))).put (some 11) (.pointer (some ⟨d,0+0,none⟩))).put (some 12) (.slice ea n ec)).put (some 13) (.int .i64 (n:Int))).put (some 14) (.bool g)→Q .normal a' w') :
 (Code.region 3 dfin3_ops false).wp Tryz.prog Q a w:=by
 refine z0 rfl ?_
 refine zv rfl (xmv rfl (zi t5 rfl)) ?_
 refine zv rfl (xmv rfl (zi t0 rfl)) ?_
 refine zv rfl (xnc rfl (zg zz rfl)) ?_
 refine zv rfl (xfa rfl (zg zz rfl) (fg_83_0 _ _ _)) ?_
 refine zv rfl (xld rfl (zg zz rfl) (ld_all h0 rfl)) ?_
 refine zv rfl (exec_len rfl (zg zz rfl) (len_els _ _ _ _ _)) ?_
 refine zv (v:= .bool g) rfl (ex_lss rfl (zg zz rfl) (zg zz rfl) hg) ?_
 exact ze rfl (h _ _ (rfl) rfl)
def dfin5_ops:Array Oper:=(⟨_,rfl⟩:{o // some o=rgB Tryz.f50 5}).1
theorem dfin5 {d eb eo n ec i:Nat} {x:Elt} {kb:Nat} {k:IdK} {g:Bool} (a:Act) (w:World) (Q:Exit→Act→World→Prop) (zz:a.tmps.size=28)
 (t0:a.tmps.getD 0 undef= .pointer (some ⟨d,0,none⟩))
 (t3:a.tmps.getD 3 undef= .pointer (some ⟨kb,0,none⟩))
 (t5:a.tmps.getD 5 undef= .int .i64 (i:Int))
 (hx:x.wf) (hi:i<n) (hn:n≤1400000000001) (hk:k.ok) (he:decide (x.id=k)=g) (h0:w.drew.heap[d]? =some (.cells #[.slice (some ⟨eb,eo,none⟩) n ec] 83 (0,0))) (h1:w.drew.rangeAt eb (eo+67*i) x.c) (h2:IdAt w.drew kb k)
 (h:∀a' w',w'=w.drew→a'=(((((((((a.put (some 17) (.pointer (some ⟨d,0,none⟩))).put (some 18) (.pointer (some ⟨d,0,none⟩))).put (some 19) (.pointer (some ⟨d,0+0,none⟩))).put (some 20) (.slice (some ⟨eb,eo,none⟩) n ec)).put (some 21) (.int .i64 (i:Int))).put (some 22) (.pointer (some ⟨eb,eo+67*i,none⟩))).put (some 23) (.pointer (some ⟨eb,eo+67*i+0,none⟩))).put (some 24) (x.id.v)).put (some 25) (k.v)).put (some 26) (.bool g)→Q .normal a' w') :
 (Code.region 5 dfin5_ops true).wp Tryz.prog Q a w:=by
 refine y0 (fun w'=>w'=w.drew) (rfl) (fun hHeld=> ?_)
 refine yv 0 rfl rfl (fun w1 hw=>xmv rfl (zi t0 rfl)) hHeld ?_
 refine yv 1 rfl rfl (fun w1 hw=>xnc rfl (zg zz rfl)) hHeld ?_
 refine yv 2 rfl rfl (fun w1 hw=>xfa rfl (zg zz rfl) (fg_83_0 _ _ _)) hHeld ?_
 refine yv 3 rfl rfl (fun w1 hw=>xld rfl (zg zz rfl) (ld_all (by rw [hw];exact h0) rfl)) hHeld ?_
 refine yv 4 rfl rfl (fun w1 hw=>xmv rfl (zi t5 rfl)) hHeld ?_
 refine yv 5 rfl rfl (fun w1 hw=>xia rfl (zg zz rfl) (zg zz rfl) (ix_el hi hn _)) hHeld ?_
 refine yv 6 rfl rfl (fun w1 hw=>xfa rfl (zg zz rfl) (fg_105_0 _ _ _)) hHeld ?_
 refine yv 7 rfl rfl (fun w1 hw=>xld rfl (zg zz rfl) (el_id hx (by rw [hw];exact h1))) hHeld ?_
 refine yv 8 rfl rfl (fun w1 hw=>xld rfl (zi t3 rfl) (load_id hk (by rw [hw];exact h2))) hHeld ?_
 refine yv (v:= .bool g) 9 rfl rfl (fun w1 hw=>ex_eqlI rfl (zg zz rfl) (zg zz rfl) hx.1 hk he) hHeld ?_
 exact ye rfl (h _ _ (hHeld) rfl)
def drow5_ops:Array Oper:=(⟨_,rfl⟩:{o // some o=rgB Tryz.f58 5}).1
theorem drow5 {d i n ec:Nat} {ea:Option Addr} {g:Bool} (a:Act) (w:World) (Q:Exit→Act→World→Prop) (zz:a.tmps.size=73)
 (t0:a.tmps.getD 0 undef= .pointer (some ⟨d,0,none⟩))
 (t4:a.tmps.getD 4 undef= .int .i64 (i:Int))
 (h0:w.heap[d]? =some (.cells #[.slice ea n ec] 83 (0,0))) (hg:decide ((i:Int)<(n:Int))=g)
 (h:∀a' w',w'=w→a'=((((((a.put (some 11) (.int .i64 (i:Int))).put (some 12) (.pointer (some ⟨d,0,none⟩))).put (some 13) (.pointer (some ⟨d,0,none⟩))).put (some 14) (.pointer (some ⟨d,0+0,none⟩))).put (some 15) (.slice ea n ec)).put (some 16) (.int .i64 (n:Int))).put (some 17) (.bool g)→Q .normal a' w') :
 (Code.region 5 drow5_ops false).wp Tryz.prog Q a w:=by
 refine z0 rfl ?_
 refine zv rfl (xmv rfl (zi t4 rfl)) ?_
 refine zv rfl (xmv rfl (zi t0 rfl)) ?_
 refine zv rfl (xnc rfl (zg zz rfl)) ?_
 refine zv rfl (xfa rfl (zg zz rfl) (fg_83_0 _ _ _)) ?_
 refine zv rfl (xld rfl (zg zz rfl) (ld_all h0 rfl)) ?_
 refine zv rfl (exec_len rfl (zg zz rfl) (len_els _ _ _ _ _)) ?_
 refine zv (v:= .bool g) rfl (ex_lss rfl (zg zz rfl) (zg zz rfl) hg) ?_
 exact ze rfl (h _ _ (rfl) rfl)
def drow11_ops:Array Oper:=(⟨_,rfl⟩:{o // some o=rgB Tryz.f58 11}).1
theorem drow11 {d eb eo n ec i:Nat} {x:Elt} {lb q lc j:Nat} {y:Elt} {g:Bool} (a:Act) (w:World) (Q:Exit→Act→World→Prop) (zz:a.tmps.size=73)
 (t3:a.tmps.getD 3 undef= .slice (some ⟨lb,0,none⟩) q lc)
 (t6:a.tmps.getD 6 undef= .int .i64 (j:Int))
 (t0:a.tmps.getD 0 undef= .pointer (some ⟨d,0,none⟩))
 (t4:a.tmps.getD 4 undef= .int .i64 (i:Int))
 (hx:x.wf) (hi:i<n) (hn:n≤1400000000001) (hy:y.wf) (hj:j<q) (hq:q≤1400000000001) (he:decide (y.id=x.bh)=g) (h0:w.drew.heap[d]? =some (.cells #[.slice (some ⟨eb,eo,none⟩) n ec] 83 (0,0))) (h1:w.drew.rangeAt eb (eo+67*i) x.c) (h2:w.drew.rangeAt lb (67*j) y.c)
 (h:∀a' w',w'=w.drew→a'=(((((((((((((a.put (some 26) (.slice (some ⟨lb,0,none⟩) q lc)).put (some 27) (.int .i64 (j:Int))).put (some 28) (.pointer (some ⟨lb,67*j,none⟩))).put (some 29) (.pointer (some ⟨lb,67*j+0,none⟩))).put (some 30) (y.id.v)).put (some 31) (.pointer (some ⟨d,0,none⟩))).put (some 32) (.pointer (some ⟨d,0,none⟩))).put (some 33) (.pointer (some ⟨d,0+0,none⟩))).put (some 34) (.slice (some ⟨eb,eo,none⟩) n ec)).put (some 35) (.int .i64 (i:Int))).put (some 36) (.pointer (some ⟨eb,eo+67*i,none⟩))).put (some 37) (.pointer (some ⟨eb,eo+67*i+33,none⟩))).put (some 38) (x.bh.v)).put (some 39) (.bool g)→Q .normal a' w') :
 (Code.region 11 drow11_ops true).wp Tryz.prog Q a w:=by
 refine y0 (fun w'=>w'=w.drew) (rfl) (fun hHeld=> ?_)
 refine yv 0 rfl rfl (fun w1 hw=>xmv rfl (zi t3 rfl)) hHeld ?_
 refine yv 1 rfl rfl (fun w1 hw=>xmv rfl (zi t6 rfl)) hHeld ?_
 refine yv 2 rfl rfl (fun w1 hw=>xia rfl (zg zz rfl) (zg zz rfl) (ix_el0 hj hq _)) hHeld ?_
 refine yv 3 rfl rfl (fun w1 hw=>xfa rfl (zg zz rfl) (fg_105_0 _ _ _)) hHeld ?_
 refine yv 4 rfl rfl (fun w1 hw=>xld rfl (zg zz rfl) (el_id hy (by rw [hw];exact h2))) hHeld ?_
 refine yv 5 rfl rfl (fun w1 hw=>xmv rfl (zi t0 rfl)) hHeld ?_
 refine yv 6 rfl rfl (fun w1 hw=>xnc rfl (zg zz rfl)) hHeld ?_
 refine yv 7 rfl rfl (fun w1 hw=>xfa rfl (zg zz rfl) (fg_83_0 _ _ _)) hHeld ?_
 refine yv 8 rfl rfl (fun w1 hw=>xld rfl (zg zz rfl) (ld_all (by rw [hw];exact h0) rfl)) hHeld ?_
 refine yv 9 rfl rfl (fun w1 hw=>xmv rfl (zi t4 rfl)) hHeld ?_
 refine yv 10 rfl rfl (fun w1 hw=>xia rfl (zg zz rfl) (zg zz rfl) (ix_el hi hn _)) hHeld ?_
 refine yv 11 rfl rfl (fun w1 hw=>xfa rfl (zg zz rfl) (fg_105_1 _ _ _)) hHeld ?_
 refine yv 12 rfl rfl (fun w1 hw=>xld rfl (zg zz rfl) (el_bh hx (by rw [hw];exact h1))) hHeld ?_
 refine yv (v:= .bool g) 13 rfl rfl (fun w1 hw=>ex_eqlI rfl (zg zz rfl) (zg zz rfl) hy.1 hx.2 he) hHeld ?_
 exact ye rfl (h _ _ (hHeld) rfl)
def drow13_ops:Array Oper:=(⟨_,rfl⟩:{o // some o=rgB Tryz.f58 13}).1
theorem drow13 {lv sv v2:Value} {w1 w2:World} (a:Act) (w:World) (Q:Exit→Act→World→Prop) (zz:a.tmps.size=73)
 (t3:a.tmps.getD 3 undef=lv)
 (E1:(Instr.buildSlice 81 1 #[(0, .agg zElt.c.toArray)]).run Tryz.prog w= .ok sv w1) (E2:(Builtin.append_ #[81,81] 81 #[lv,sv]).run Tryz.prog w1= .ok v2 w2)
 (h:∀a' w',w'=w2→a'=((((a.put (some 42) (lv)).put (some 43) (.agg zElt.c.toArray)).put (some 44) (sv)).put (some 45) (v2)).put (some 3) (v2)→Q .normal a' w') :
 (Code.region 13 drow13_ops false).wp Tryz.prog Q a w:=by
 refine z0 rfl ?_
 refine zv rfl (xmv rfl (zi t3 rfl)) ?_
 refine zv rfl (exec_build0 rfl (build_elz _)) ?_
 refine zv (v:=sv) rfl (exec_buildSlice rfl (zg zz rfl) E1) ?_
 refine zv (v:=v2) rfl (exec_append rfl (zg zz rfl) (zg zz rfl) E2) ?_
 refine zv rfl (xas rfl (zg zz rfl)) ?_
 exact ze rfl (h _ _ (rfl) rfl)
def drow17_ops:Array Oper:=(⟨_,rfl⟩:{o // some o=rgB Tryz.f58 17}).1
theorem drow17 {lb q lc j:Nat} {y:Elt} {w2:World} (a:Act) (w:World) (Q:Exit→Act→World→Prop) (zz:a.tmps.size=73)
 (t3:a.tmps.getD 3 undef= .slice (some ⟨lb,0,none⟩) q lc)
 (t7:a.tmps.getD 7 undef= .int .i64 ((j+1:Nat):Int))
 (hy:y.wf) (hj:j+1<q) (hq:q≤1400000000001) (h2:w.rangeAt lb (67*j) y.c) (E1:(Instr.storeAt 105 (.pointer (some ⟨lb,67*(j+1),none⟩)) (.agg y.c.toArray)).run Tryz.prog w= .ok () w2)
 (h:∀a' w',w'=w2→a'=(((((((a.put (some 54) (.slice (some ⟨lb,0,none⟩) q lc)).put (some 55) (.int .i64 ((j+1:Nat):Int))).put (some 56) (.slice (some ⟨lb,0,none⟩) q lc)).put (some 57) (.int .i64 ((j+1:Nat):Int))).put (some 58) (.int .i64 (j:Int))).put (some 59) (.pointer (some ⟨lb,67*j,none⟩))).put (some 60) (.agg y.c.toArray)).put (some 61) (.pointer (some ⟨lb,67*(j+1),none⟩))→Q .normal a' w') :
 (Code.region 17 drow17_ops false).wp Tryz.prog Q a w:=by
 refine z0 rfl ?_
 refine zv rfl (xmv rfl (zi t3 rfl)) ?_
 refine zv rfl (xmv rfl (zi t7 rfl)) ?_
 refine zv rfl (xmv rfl (zi t3 rfl)) ?_
 refine zv rfl (xmv rfl (zi t7 rfl)) ?_
 refine zv (v:= .int .i64 (j:Int)) rfl (ex_dec rfl (zg zz rfl) rfl (by omega)) ?_
 refine zv rfl (xia rfl (zg zz rfl) (zg zz rfl) (ix_el0 (by omega) hq _)) ?_
 refine zv rfl (xld rfl (zg zz rfl) (ld_el hy h2)) ?_
 refine zv rfl (xia rfl (zg zz rfl) (zg zz rfl) (ix_el0 hj hq _)) ?_
 refine zs rfl (exec_store rfl (zg zz rfl) (zg zz rfl) E1) ?_
 exact ze rfl (h _ _ (rfl) rfl)
def drow18_ops:Array Oper:=(⟨_,rfl⟩:{o // some o=rgB Tryz.f58 18}).1
theorem drow18 {d eb eo n ec i:Nat} {x:Elt} {lb q lc p:Nat} {w2:World} (a:Act) (w:World) (Q:Exit→Act→World→Prop) (zz:a.tmps.size=73)
 (t3:a.tmps.getD 3 undef= .slice (some ⟨lb,0,none⟩) q lc)
 (t5:a.tmps.getD 5 undef= .int .i64 (p:Int))
 (t0:a.tmps.getD 0 undef= .pointer (some ⟨d,0,none⟩))
 (t4:a.tmps.getD 4 undef= .int .i64 (i:Int))
 (hx:x.wf) (hi:i<n) (hn:n≤1400000000001) (hp:p<q) (hq:q≤1400000000001) (h0:w.heap[d]? =some (.cells #[.slice (some ⟨eb,eo,none⟩) n ec] 83 (0,0))) (h1:w.rangeAt eb (eo+67*i) x.c) (E1:(Instr.storeAt 105 (.pointer (some ⟨lb,67*p,none⟩)) (.agg x.c.toArray)).run Tryz.prog w= .ok () w2)
 (h:∀a' w',w'=w2→a'=(((((((((a.put (some 62) (.slice (some ⟨lb,0,none⟩) q lc)).put (some 63) (.int .i64 (p:Int))).put (some 64) (.pointer (some ⟨d,0,none⟩))).put (some 65) (.pointer (some ⟨d,0,none⟩))).put (some 66) (.pointer (some ⟨d,0+0,none⟩))).put (some 67) (.slice (some ⟨eb,eo,none⟩) n ec)).put (some 68) (.int .i64 (i:Int))).put (some 69) (.pointer (some ⟨eb,eo+67*i,none⟩))).put (some 70) (.agg x.c.toArray)).put (some 71) (.pointer (some ⟨lb,67*p,none⟩))→Q .normal a' w') :
 (Code.region 18 drow18_ops false).wp Tryz.prog Q a w:=by
 refine z0 rfl ?_
 refine zv rfl (xmv rfl (zi t3 rfl)) ?_
 refine zv rfl (xmv rfl (zi t5 rfl)) ?_
 refine zv rfl (xmv rfl (zi t0 rfl)) ?_
 refine zv rfl (xnc rfl (zg zz rfl)) ?_
 refine zv rfl (xfa rfl (zg zz rfl) (fg_83_0 _ _ _)) ?_
 refine zv rfl (xld rfl (zg zz rfl) (ld_all h0 rfl)) ?_
 refine zv rfl (xmv rfl (zi t4 rfl)) ?_
 refine zv rfl (xia rfl (zg zz rfl) (zg zz rfl) (ix_el hi hn _)) ?_
 refine zv rfl (xld rfl (zg zz rfl) (ld_el hx h1)) ?_
 refine zv rfl (xia rfl (zg zz rfl) (zg zz rfl) (ix_el0 hp hq _)) ?_
 refine zs rfl (exec_store rfl (zg zz rfl) (zg zz rfl) E1) ?_
 exact ze rfl (h _ _ (rfl) rfl)
def dins3_ops:Array Oper:=(⟨_,rfl⟩:{o // some o=rgB Tryz.f17 3}).1
theorem dins3 {kb:Nat} {k:IdK} {g:Bool} (a:Act) (w:World) (Q:Exit→Act→World→Prop) (zz:a.tmps.size=41)
 (t4:a.tmps.getD 4 undef= .pointer (some ⟨kb,0,none⟩))
 (hk:k.ok) (h0:IdAt w kb k) (hg:decide (k.n<1)=g)
 (h:∀a' w',w'=w→a'=(((a.put (some 11) (.pointer (some ⟨kb,0+32,none⟩))).put (some 12) (.int .i64 k.n)).put (some 13) (.bool g)).put (some 10) (.bool g)→Q .normal a' w') :
 (Code.region 3 dins3_ops false).wp Tryz.prog Q a w:=by
 refine z0 rfl ?_
 refine zv rfl (xfa rfl (zi t4 rfl) (fg_36_1 _ _ _)) ?_
 refine zv rfl (xld rfl (zg zz rfl) (ld_n hk h0)) ?_
 refine zv (v:= .bool g) rfl (ex_lss rfl (zg zz rfl) rfl hg) ?_
 refine zv rfl (xas rfl (zg zz rfl)) ?_
 exact ze rfl (h _ _ (rfl) rfl)
def dins5_ops:Array Oper:=(⟨_,rfl⟩:{o // some o=rgB Tryz.f17 5}).1
theorem dins5 {d kb:Nat} {k:IdK} {r:Int} {g:Bool} (Fin:World→Prop) (a:Act) (w:World) (Q:Exit→Act→World→Prop) (zz:a.tmps.size=41)
 (t0:a.tmps.getD 0 undef= .pointer (some ⟨d,0,none⟩))
 (t4:a.tmps.getD 4 undef= .pointer (some ⟨kb,0,none⟩))
 (hk:k.ok) (h0:IdAt w kb k) (hg:decide (r≥0)=g) (CF:Calls Tryz.prog 50 #[.pointer (some ⟨d,0,none⟩),k.v] w fun e w'=>e= .returned (.int .i64 r)∧Fin w')
 (h:∀a' w',Fin w'→a'=((((a.put (some 15) (.pointer (some ⟨d,0,none⟩))).put (some 16) (k.v)).put (some 17) (.int .i64 r)).put (some 18) (.bool g)).put (some 14) (.bool g)→Q .normal a' w') :
 (Code.region 5 dins5_ops false).wp Tryz.prog Q a w:=by
 refine z0 rfl ?_
 refine zv rfl (xmv rfl (zi t0 rfl)) ?_
 refine zv rfl (xld rfl (zi t4 rfl) (load_id hk h0)) ?_
 refine zc rfl (exec_c2 rfl (zg zz rfl) (zg zz rfl)) (CF) (fun e x2 hx=> ?_)
 obtain ⟨rfl,HF⟩:=hx
 refine ⟨_,rfl, ?_⟩
 refine zv (v:= .bool g) rfl (ex_geq rfl (zg zz rfl) rfl hg) ?_
 refine zv rfl (xas rfl (zg zz rfl)) ?_
 exact ze rfl (h _ _ (HF) rfl)
def dins7_ops:Array Oper:=(⟨_,rfl⟩:{o // some o=rgB Tryz.f17 7}).1
theorem dins7a {d bb:Nat} {b:IdK} (a:Act) (w:World) (Q:Exit→Act→World→Prop) (zz:a.tmps.size=41)
 (t0:a.tmps.getD 0 undef= .pointer (some ⟨d,0,none⟩))
 (t5:a.tmps.getD 5 undef= .pointer (some ⟨bb,0,none⟩))
 (hb:b.ok) (hz:b=zId) (h0:IdAt w bb b)
 (h:∀a' w',w'=w→a'=(((((((((a.put (some 20) (b.v)).put (some 21) (zId.v)).put (some 22) (.bool false)).put (some 23) (.bool false)).put (some 24) (undef)).put (some 25) (undef)).put (some 26) (undef)).put (some 27) (undef)).put (some 28) (.bool false)).put (some 19) (.bool false)→Q .normal a' w') :
 (Code.region 7 dins7_ops false).wp Tryz.prog Q a w:=by
 refine z0 rfl ?_
 refine zv rfl (xld rfl (zi t5 rfl) (load_id hb h0)) ?_
 refine zv rfl (exec_build0 rfl (build_id _)) ?_
 refine zv (v:= .bool false) rfl (ex_neqI rfl (zg zz rfl) (zg zz rfl) hb zId_ok (by simp [hz])) ?_
 refine zv rfl (xmv rfl (zg zz rfl)) ?_
 iterate 4 refine zn (zx zz rfl rfl rfl (zg zz rfl)) ?_
 refine zv rfl (exec_pickF rfl (zg zz rfl) rfl) ?_
 refine zv rfl (xas rfl (zg zz rfl)) ?_
 exact ze rfl (h _ _ (rfl) rfl)
theorem dins7b {d bb:Nat} {b:IdK} {r:Int} {g:Bool} (Fin:World→Prop) (a:Act) (w:World) (Q:Exit→Act→World→Prop) (zz:a.tmps.size=41)
 (t0:a.tmps.getD 0 undef= .pointer (some ⟨d,0,none⟩))
 (t5:a.tmps.getD 5 undef= .pointer (some ⟨bb,0,none⟩))
 (hb:b.ok) (hz:b≠zId) (h0:IdAt w bb b) (hg:decide (r<0)=g) (CF:Calls Tryz.prog 50 #[.pointer (some ⟨d,0,none⟩),b.v] w fun e w'=>e= .returned (.int .i64 r)∧Fin w')
 (h:∀a' w',Fin w'→a'=(((((((((a.put (some 20) (b.v)).put (some 21) (zId.v)).put (some 22) (.bool true)).put (some 23) (.bool true)).put (some 24) (.pointer (some ⟨d,0,none⟩))).put (some 25) (b.v)).put (some 26) (.int .i64 r)).put (some 27) (.bool g)).put (some 28) (.bool g)).put (some 19) (.bool g)→Q .normal a' w') :
 (Code.region 7 dins7_ops false).wp Tryz.prog Q a w:=by
 refine z0 rfl ?_
 refine zv rfl (xld rfl (zi t5 rfl) (load_id hb h0)) ?_
 refine zv rfl (exec_build0 rfl (build_id _)) ?_
 refine zv (v:= .bool true) rfl (ex_neqI rfl (zg zz rfl) (zg zz rfl) hb zId_ok (by simp [hz])) ?_
 refine zv rfl (xmv rfl (zg zz rfl)) ?_
 refine zv (zw zz rfl rfl rfl (zg zz rfl)) (xmv rfl (zi t0 rfl)) ?_
 refine zv (zw zz rfl rfl rfl (zg zz rfl)) (xld rfl (zi t5 rfl) (load_id hb h0)) ?_
 refine zc (zw zz rfl rfl rfl (zg zz rfl)) (exec_c2 rfl (zg zz rfl) (zg zz rfl)) (CF) (fun e x6 hx=> ?_)
 obtain ⟨rfl,HF⟩:=hx
 refine ⟨_,rfl, ?_⟩
 refine zv (v:= .bool g) (zw zz rfl rfl rfl (zg zz rfl)) (ex_lss rfl (zg zz rfl) rfl hg) ?_
 refine zv rfl (exec_pickT rfl (zg zz rfl) (zg zz rfl)) ?_
 refine zv rfl (xas rfl (zg zz rfl)) ?_
 exact ze rfl (h _ _ (HF) rfl)
def dins9_ops:Array Oper:=(⟨_,rfl⟩:{o // some o=rgB Tryz.f17 9}).1
theorem dins9 {d kb bb n ec vn vc:Nat} {ea va:Option Addr} {k b:IdK} {sv:Value} {w1 w2 w3:World} (a:Act) (w:World) (Q:Exit→Act→World→Prop) (zz:a.tmps.size=41)
 (t0:a.tmps.getD 0 undef= .pointer (some ⟨d,0,none⟩))
 (t4:a.tmps.getD 4 undef= .pointer (some ⟨kb,0,none⟩))
 (t5:a.tmps.getD 5 undef= .pointer (some ⟨bb,0,none⟩))
 (hk:k.ok) (hb:b.ok) (S0:w.drew.heap[d]? =some (.cells #[.slice ea n ec] 83 (0,0))∧IdAt w.drew kb k∧IdAt w.drew bb b) (S1:w1.heap[d]? =some (.cells #[.slice ea n ec] 83 (0,0))∧IdAt w1 kb k∧IdAt w1 bb b) (S2:w2.heap[d]? =some (.cells #[.slice ea n ec] 83 (0,0))∧IdAt w2 kb k∧IdAt w2 bb b) (E1:(Instr.buildSlice 81 1 #[(0, .agg (Elt.c ⟨k,b,true⟩).toArray)]).run Tryz.prog w.drew= .ok sv w1) (E2:(Builtin.append_ #[81,81] 81 #[.slice ea n ec,sv]).run Tryz.prog w1= .ok (.slice va vn vc) w2) (E3:(Instr.storeAt 81 (.pointer (some ⟨d,0+0,none⟩)) (.slice va vn vc)).run Tryz.prog w2= .ok () w3)
 (h:∀a' w',w'=w3→a'=(((((((((((a.put (some 29) (.pointer (some ⟨d,0,none⟩))).put (some 30) (.pointer (some ⟨d,0,none⟩))).put (some 31) (.pointer (some ⟨d,0,none⟩))).put (some 32) (.pointer (some ⟨d,0+0,none⟩))).put (some 33) (.slice ea n ec)).put (some 34) (k.v)).put (some 35) (b.v)).put (some 36) (.agg (Elt.c ⟨k,b,true⟩).toArray)).put (some 37) (sv)).put (some 38) (.slice va vn vc)).put (some 39) (.pointer (some ⟨d,0,none⟩))).put (some 40) (.pointer (some ⟨d,0+0,none⟩))→Q .normal a' w') :
 (Code.region 9 dins9_ops true).wp Tryz.prog Q a w:=by
 refine x0 12 (fun w'=>w'.heap[d]? =some (.cells #[.slice ea n ec] 83 (0,0))∧IdAt w' kb k∧IdAt w' bb b) (S0) (fun hHeld=> ?_)
 refine xv 0 rfl rfl (fun w1 hw=>xmv rfl (zi t0 rfl)) hHeld ?_
 refine xv 1 rfl rfl (fun w1 hw=>xmv rfl (zi t0 rfl)) hHeld ?_
 refine xv 2 rfl rfl (fun w1 hw=>xnc rfl (zg zz rfl)) hHeld ?_
 refine xv 3 rfl rfl (fun w1 hw=>xfa rfl (zg zz rfl) (fg_83_0 _ _ _)) hHeld ?_
 refine xv 4 rfl rfl (fun w1 hw=>xld rfl (zg zz rfl) (ld_all (hw.1) rfl)) hHeld ?_
 refine xv 5 rfl rfl (fun w1 hw=>xld rfl (zi t4 rfl) (load_id hk hw.2.1)) hHeld ?_
 refine xv 6 rfl rfl (fun w1 hw=>xld rfl (zi t5 rfl) (load_id hb hw.2.2)) hHeld ?_
 refine xv (v:= .agg (Elt.c ⟨k,b,true⟩).toArray) 7 rfl rfl (fun w1 hw=>ex_elt rfl (zg zz rfl) (zg zz rfl) rfl hk hb) hHeld ?_
 refine xr (v:=sv) 8 rfl rfl (exec_buildSlice rfl (zg zz rfl) E1) (fun _=>S1) (fun hHeld=> ?_)
 replace hHeld:=hHeld (by decide)
 refine xr (v:= .slice va vn vc) 9 rfl rfl (exec_append rfl (zg zz rfl) (zg zz rfl) E2) (fun _=>S2) (fun hHeld=> ?_)
 replace hHeld:=hHeld (by decide)
 refine xv 10 rfl rfl (fun w1 hw=>xnc rfl (zg zz rfl)) hHeld ?_
 refine xv 11 rfl rfl (fun w1 hw=>xfa rfl (zg zz rfl) (fg_83_0 _ _ _)) hHeld ?_
 refine xs 12 rfl rfl (exec_store rfl (zg zz rfl) (zg zz rfl) E3) (fun hne=>absurd rfl hne) (fun _=> ?_)
 exact xe rfl (h _ _ (rfl) rfl)
def dsho3_ops:Array Oper:=(⟨_,rfl⟩:{o // some o=rgB Tryz.f19 3}).1
theorem dsho3 {d kb:Nat} {k:IdK} {r:Int} (Fin:World→Prop) (a:Act) (w:World) (Q:Exit→Act→World→Prop) (zz:a.tmps.size=23)
 (t0:a.tmps.getD 0 undef= .pointer (some ⟨d,0,none⟩))
 (t4:a.tmps.getD 4 undef= .pointer (some ⟨kb,0,none⟩))
 (hk:k.ok) (h0:IdAt w kb k) (CF:Calls Tryz.prog 50 #[.pointer (some ⟨d,0,none⟩),k.v] w fun e w'=>e= .returned (.int .i64 r)∧Fin w')
 (h:∀a' w',Fin w'→a'=(((a.put (some 10) (.pointer (some ⟨d,0,none⟩))).put (some 11) (k.v)).put (some 12) (.int .i64 r)).put (some 7) (.int .i64 r)→Q .normal a' w') :
 (Code.region 3 dsho3_ops false).wp Tryz.prog Q a w:=by
 refine z0 rfl ?_
 refine zv rfl (xmv rfl (zi t0 rfl)) ?_
 refine zv rfl (xld rfl (zi t4 rfl) (load_id hk h0)) ?_
 refine zc rfl (exec_c2 rfl (zg zz rfl) (zg zz rfl)) (CF) (fun e x2 hx=> ?_)
 obtain ⟨rfl,HF⟩:=hx
 refine ⟨_,rfl, ?_⟩
 refine zv rfl (xas rfl (zg zz rfl)) ?_
 exact ze rfl (h _ _ (HF) rfl)
def dsho6_ops:Array Oper:=(⟨_,rfl⟩:{o // some o=rgB Tryz.f19 6}).1
theorem dsho6 {d eb eo n ec i:Nat} {s:Bool} {w2:World} (a:Act) (w:World) (Q:Exit→Act→World→Prop) (zz:a.tmps.size=23)
 (t0:a.tmps.getD 0 undef= .pointer (some ⟨d,0,none⟩))
 (t7:a.tmps.getD 7 undef= .int .i64 (i:Int))
 (t2:a.tmps.getD 2 undef= .bool s)
 (hi:i<n) (hn:n≤1400000000001) (h0:w.heap[d]? =some (.cells #[.slice (some ⟨eb,eo,none⟩) n ec] 83 (0,0))) (E1:(Instr.storeAt 4 (.pointer (some ⟨eb,eo+67*i+66,none⟩)) (.bool s)).run Tryz.prog w= .ok () w2)
 (h:∀a' w',w'=w2→a'=(((((((a.put (some 15) (.pointer (some ⟨d,0,none⟩))).put (some 16) (.pointer (some ⟨d,0,none⟩))).put (some 17) (.pointer (some ⟨d,0+0,none⟩))).put (some 18) (.slice (some ⟨eb,eo,none⟩) n ec)).put (some 19) (.int .i64 (i:Int))).put (some 20) (.bool s)).put (some 21) (.pointer (some ⟨eb,eo+67*i,none⟩))).put (some 22) (.pointer (some ⟨eb,eo+67*i+66,none⟩))→Q .normal a' w') :
 (Code.region 6 dsho6_ops false).wp Tryz.prog Q a w:=by
 refine z0 rfl ?_
 refine zv rfl (xmv rfl (zi t0 rfl)) ?_
 refine zv rfl (xnc rfl (zg zz rfl)) ?_
 refine zv rfl (xfa rfl (zg zz rfl) (fg_83_0 _ _ _)) ?_
 refine zv rfl (xld rfl (zg zz rfl) (ld_all h0 rfl)) ?_
 refine zv rfl (xmv rfl (zi t7 rfl)) ?_
 refine zv rfl (xmv rfl (zi t2 rfl)) ?_
 refine zv rfl (xia rfl (zg zz rfl) (zg zz rfl) (ix_el hi hn _)) ?_
 refine zv rfl (xfa rfl (zg zz rfl) (fg_105_2 _ _ _)) ?_
 refine zs rfl (exec_store rfl (zg zz rfl) (zg zz rfl) E1) ?_
 exact ze rfl (h _ _ (rfl) rfl)
def dids6_ops:Array Oper:=(⟨_,rfl⟩:{o // some o=rgB Tryz.f31 6}).1
theorem dids6 {eb eo n ec i:Nat} {x:Elt} {lv sv v2:Value} {w1 w2:World} (a:Act) (w:World) (Q:Exit→Act→World→Prop) (zz:a.tmps.size=23)
 (t3:a.tmps.getD 3 undef=lv)
 (t4:a.tmps.getD 4 undef= .slice (some ⟨eb,eo,none⟩) n ec)
 (t5:a.tmps.getD 5 undef= .int .i64 (i:Int))
 (hx:x.wf) (hi:i<n) (hn:n≤1400000000001) (h1:w.rangeAt eb (eo+67*i) x.c) (E1:(Instr.buildSlice 56 1 #[(0,x.id.v)]).run Tryz.prog w= .ok sv w1) (E2:(Builtin.append_ #[56,56] 56 #[lv,sv]).run Tryz.prog w1= .ok v2 w2)
 (h:∀a' w',w'=w2→a'=((((((((a.put (some 14) (lv)).put (some 15) (.slice (some ⟨eb,eo,none⟩) n ec)).put (some 16) (.int .i64 (i:Int))).put (some 17) (.pointer (some ⟨eb,eo+67*i,none⟩))).put (some 18) (.pointer (some ⟨eb,eo+67*i+0,none⟩))).put (some 19) (x.id.v)).put (some 20) (sv)).put (some 21) (v2)).put (some 3) (v2)→Q .normal a' w') :
 (Code.region 6 dids6_ops false).wp Tryz.prog Q a w:=by
 refine z0 rfl ?_
 refine zv rfl (xmv rfl (zi t3 rfl)) ?_
 refine zv rfl (xmv rfl (zi t4 rfl)) ?_
 refine zv rfl (xmv rfl (zi t5 rfl)) ?_
 refine zv rfl (xia rfl (zg zz rfl) (zg zz rfl) (ix_el hi hn _)) ?_
 refine zv rfl (xfa rfl (zg zz rfl) (fg_105_0 _ _ _)) ?_
 refine zv rfl (xld rfl (zg zz rfl) (el_id hx h1)) ?_
 refine zv (v:=sv) rfl (exec_buildSlice rfl (zg zz rfl) E1) ?_
 refine zv (v:=v2) rfl (exec_append rfl (zg zz rfl) (zg zz rfl) E2) ?_
 refine zv rfl (xas rfl (zg zz rfl)) ?_
 exact ze rfl (h _ _ (rfl) rfl)
def didx6_ops:Array Oper:=(⟨_,rfl⟩:{o // some o=rgB Tryz.f62 6}).1
theorem didx6 {eb eo n ec i:Nat} {x:Elt} {kb:Nat} {k:IdK} {g:Bool} (a:Act) (w:World) (Q:Exit→Act→World→Prop) (zz:a.tmps.size=31)
 (t3:a.tmps.getD 3 undef= .pointer (some ⟨kb,0,none⟩))
 (t5:a.tmps.getD 5 undef= .slice (some ⟨eb,eo,none⟩) n ec)
 (t7:a.tmps.getD 7 undef= .int .i64 (i:Int))
 (hx:x.wf) (hi:i<n) (hn:n≤1400000000001) (hk:k.ok) (he:decide (x.id=k)=g) (h1:w.drew.rangeAt eb (eo+67*i) x.c) (h2:IdAt w.drew kb k)
 (h:∀a' w',w'=w.drew→a'=((((((a.put (some 16) (.slice (some ⟨eb,eo,none⟩) n ec)).put (some 17) (.int .i64 (i:Int))).put (some 18) (.pointer (some ⟨eb,eo+67*i,none⟩))).put (some 19) (.pointer (some ⟨eb,eo+67*i+0,none⟩))).put (some 20) (x.id.v)).put (some 21) (k.v)).put (some 22) (.bool g)→Q .normal a' w') :
 (Code.region 6 didx6_ops true).wp Tryz.prog Q a w:=by
 refine y0 (fun w'=>w'=w.drew) (rfl) (fun hHeld=> ?_)
 refine yv 0 rfl rfl (fun w1 hw=>xmv rfl (zi t5 rfl)) hHeld ?_
 refine yv 1 rfl rfl (fun w1 hw=>xmv rfl (zi t7 rfl)) hHeld ?_
 refine yv 2 rfl rfl (fun w1 hw=>xia rfl (zg zz rfl) (zg zz rfl) (ix_el hi hn _)) hHeld ?_
 refine yv 3 rfl rfl (fun w1 hw=>xfa rfl (zg zz rfl) (fg_105_0 _ _ _)) hHeld ?_
 refine yv 4 rfl rfl (fun w1 hw=>xld rfl (zg zz rfl) (el_id hx (by rw [hw];exact h1))) hHeld ?_
 refine yv 5 rfl rfl (fun w1 hw=>xld rfl (zi t3 rfl) (load_id hk (by rw [hw];exact h2))) hHeld ?_
 refine yv (v:= .bool g) 6 rfl rfl (fun w1 hw=>ex_eqlI rfl (zg zz rfl) (zg zz rfl) hx.1 hk he) hHeld ?_
 exact ye rfl (h _ _ (hHeld) rfl)
def didx8_ops:Array Oper:=(⟨_,rfl⟩:{o // some o=rgB Tryz.f62 8}).1
theorem didx8 {eb eo n ec i:Nat} {x:Elt} (a:Act) (w:World) (Q:Exit→Act→World→Prop) (zz:a.tmps.size=31)
 (t5:a.tmps.getD 5 undef= .slice (some ⟨eb,eo,none⟩) n ec)
 (t7:a.tmps.getD 7 undef= .int .i64 (i:Int))
 (hx:x.wf) (hi:i<n) (hn:n≤1400000000001) (h1:w.rangeAt eb (eo+67*i) x.c)
 (h:∀a' w',w'=w→a'=((((a.put (some 24) (.slice (some ⟨eb,eo,none⟩) n ec)).put (some 25) (.int .i64 (i:Int))).put (some 26) (.pointer (some ⟨eb,eo+67*i,none⟩))).put (some 27) (.pointer (some ⟨eb,eo+67*i+66,none⟩))).put (some 28) (.bool x.sh)→Q .normal a' w') :
 (Code.region 8 didx8_ops false).wp Tryz.prog Q a w:=by
 refine z0 rfl ?_
 refine zv rfl (xmv rfl (zi t5 rfl)) ?_
 refine zv rfl (xmv rfl (zi t7 rfl)) ?_
 refine zv rfl (xia rfl (zg zz rfl) (zg zz rfl) (ix_el hi hn _)) ?_
 refine zv rfl (xfa rfl (zg zz rfl) (fg_105_2 _ _ _)) ?_
 refine zv rfl (xld rfl (zg zz rfl) (el_sh hx h1)) ?_
 exact ze rfl (h _ _ (rfl) rfl)
def RefV (w:World) (base:Nat) (pv:Value) (R:List Elt):Prop:=(pv= .pointer none∧R=[])∨∃d v,pv= .pointer (some ⟨d,0,none⟩)∧RefAt w base d v R
theorem RefV.below {w w':World} {base:Nat} {pv:Value} {R:List Elt} (h:RefV w base pv R) (b:Below w.heap.size w w'):RefV w' base pv R:=by
 rcases h with h|⟨d,v,e,h⟩
 ·exact .inl h
 ·exact .inr ⟨d,v,e,h.below b⟩
theorem RefV.ok {w:World} {base:Nat} {pv:Value} {R:List Elt} (h:RefV w base pv R):RefOk R∧R.length≤1400000000000:=by
 rcases h with ⟨_,rfl⟩|⟨d,v,e,h⟩
 ·exact ⟨RefOk.nil,by simp⟩
 ·exact ⟨h.ok,h.len⟩
theorem RefAt.get {w:World} {base d:Nat} {v:Value} {R:List Elt} (h:RefAt w base d v R) {i:Nat} (hi:i<R.length):∃eb eo ec,v= .slice (some ⟨eb,eo,none⟩) R.length ec∧eb<w.heap.size∧R[i].wf∧w.rangeAt eb (eo+67*i) R[i].c:=by
 obtain ⟨a,c,e,ha⟩:=h.open
 obtain ⟨b,o,rfl,hl,hr⟩:=ha.get hi
 exact ⟨b,o,c,e,hl,h.wf _ (List.getElem_mem hi),hr⟩
theorem none_has {R:List Elt} {k:IdK} (h:∀j (hj:j<R.length),R[j].id≠k):hasE R k=false:=by
 cases q:hasE R k with
 |false=>rfl
 |true =>
  obtain ⟨e,he,r⟩:=hasE_iff.1 q
  obtain ⟨j,hj,rfl⟩:=List.getElem_of_mem he
  exact absurd r (h j hj)
theorem find_at {w:World} {base d:Nat} {v:Value} {R:List Elt} (h:RefAt w base d v R) {k:IdK} (hk:k.ok):Calls Tryz.prog 50 #[.pointer (some ⟨d,0,none⟩),k.v] w fun e w'=>e= .returned (.int .i64 (aheadE R false k))∧Below w.heap.size w w':=by
 have bx:Below w.heap.size w (w.alloc (.cells k.c.toArray 36)):=(Below.refl _ _).alloc (Nat.le_refl _) _
 have hx:=id_new w k
 obtain ⟨n,hn⟩:∃n,R.length=n:=⟨_,rfl⟩
 have hN:=h.len
 rw [hn] at hN
 obtain ⟨ea,ec,ev,_⟩:=h.open
 rw [hn] at ev
 have HV:=hidMk ev
 have HN:=hidMk hn
 obtain ⟨r,hr⟩:∃r,aheadE R false k=r:=⟨_,rfl⟩
 have HR:=hidMk hr
 rw [hr]
 show Calls Tryz.prog 50 #[.pointer (some ⟨d,0,none⟩), .agg k.c.toArray] w _
 clear hr ev hn
 go_enter Tryz.func50,Tryz.ntmps50
 go_wp2
 have st0:Hid (RefAt (w.alloc (.cells k.c.toArray 36)) base d v R∧IdAt (w.alloc (.cells k.c.toArray 36)) w.heap.size k∧Below w.heap.size w (w.alloc (.cells k.c.toArray 36))):=⟨h.below bx,hx,bx⟩
 generalize w.alloc (.cells k.c.toArray 36)=wx at *
 obtain ⟨kb,hkb⟩:∃kb,w.heap.size=kb:=⟨_,rfl⟩
 rw [hkb] at st0 ⊢
 have HK:=hidMk hkb
 clear hkb bx hx
 go_loopw [5] (fun v5 wr=> ∃(i:Nat),v5= .int .i64 (i:Int)∧i≤n∧Hid (RefAt wr base d v R∧IdAt wr kb k∧Below kb w wr)∧Hid (∀j (hj:j<R.length),j<i→R[j].id≠k)) (fun v5 wr=>n-(match v5 with | .int _ i=>i.toNat|_=>0))
 case atStart=>exact ⟨0,rfl,Nat.zero_le _,st0,fun j hj h=>by omega⟩
 case round =>
  clear st0
  obtain ⟨i,rfl,hin,hI,hno⟩:=hrel
  by_cases hi:i<n
  ·have hi':i<R.length:=by rw [HN.out];exact hi
   obtain ⟨eb,eo,ec2,e1,hl,hwf,hra⟩:=hI.out.1.get hi'
   rw [HN.out] at e1
   have hc0:=hI.out.1.c0
   rw [e1] at hc0
   have HX:=hidMk (rank_get h.ok.seq hi')
   have HNX:Hid (R[i].id≠k→∀j (hj:j<R.length),j<i+1→R[j].id≠k):=fun q j hj hji=>by
        by_cases e:j=i
        ·subst e;exact q
        ·exact hno.out j hj (by omega)
   generalize R[i]=x at *
   go_upto_region 3 with fail
   refine dfin3 (g:=true) _ _ _ rfl rfl rfl hc0 (decide_eq_true (by omega)) ?_
   intro a' w1 hw ha
   subst ha
   obtain rfl:w1=wr:=hw
   simp only [Act.put,qsA,qsB,qsC]
   go_upto_region 5 with fail
   refine dfin5 (x:=x) (k:=k) (g:=decide (x.id=k)) _ _ _ rfl rfl rfl rfl hwf hi (by omega) hk rfl hc0 hra hI.out.2.1 ?_
   intro a' w2 hw ha
   subst ha
   obtain rfl:w2=w1.drew:=hw
   simp only [Act.put,qsA,qsB,qsC]
   have hI2:Hid (RefAt w1.drew base d v R∧IdAt w1.drew kb k∧Below kb w w1.drew):=⟨hI.out.1.below ((Below.refl _ _).drew),hI.out.2.1,hI.out.2.2.drew⟩
   generalize w1.drew=w2 at *
   clear hI hra hc0 e1 hl
   cases hd:decide (x.id=k) with
   |true =>
    have e2:r=(i:Int):=by rw [←HR.out, ←HX.out,of_decide_eq_true hd]
    subst e2
    clear hd HX HNX hno
    go_wp2
    go_ret
    exact ⟨rfl,by rw [HK.out];exact hI2.out.2.2⟩
   |false =>
    have HD:=hidMk (of_decide_eq_false hd)
    clear hd HX hno
    go_wp2
    have hq:((i:Int)+1)=((i+1:Nat):Int):=by omega
    rw [hq]
    refine ⟨⟨i+1,rfl,hi,hI2,HNX.out HD.out⟩, ?_⟩
    show n-((i+1:Nat):Int).toNat<n-(i:Int).toNat
    omega
  ·obtain rfl:n=i:=by omega
   have hc0:=hI.out.1.c0
   rw [HV.out] at hc0
   have e2:r= -1:=by
        rw [←HR.out]
        exact rank_neg (none_has (fun j hj=>hno.out j hj (by rw [←HN.out];exact hj))) false
   subst e2
   clear hno
   go_upto_region 3 with fail
   refine dfin3 (g:=false) _ _ _ rfl rfl rfl hc0 (decide_eq_false (by omega)) ?_
   intro a' w1 hw ha
   subst ha
   obtain rfl:w1=wr:=hw
   simp only [Act.put,qsA,qsB,qsC]
   clear hc0
   go_wp2
   go_ret
   exact ⟨rfl,by rw [HK.out];exact hI.out.2.2⟩
theorem RowT.Own.zero {κ:Type} {R:RowT κ} (I:R.Is) {w:World} {base:Nat} {v:Value} {L:List κ} (h:R.Own w base v L) (ok:∀h∈L,R.ok h) {i:Nat} (hi:i<L.length):∃g cap,v= .slice (some ⟨g,0,none⟩) L.length cap∧w.rangeAt g (R.k*i) (R.c L[i]):=by
 rcases h.2 with ⟨rfl,hn⟩|⟨g,cap,cur,rfl,hbg,hg,hnc,hcm,hcs,htake⟩
 ·omega
 ·refine ⟨g,cap,rfl,fun j u hj=> ?_⟩
  have e:=RowT.flat_get I ok (List.getElem?_eq_getElem hi) hj
  rw [cell_of_row w g _ cur R.e (0,0) hg]
  rw [←htake,List.getElem?_take] at e
  split at e
  ·simpa using e
  ·cases e
theorem row_wf {R:List Elt} (h:RefOk R):∀e∈rowR R,RE.ok e:=fun e he=>⟨(h.row.ok e he).1,(h.row.ok e he).2.1⟩
theorem row_len (R:List Elt):(rowR R).length=R.length:=(rowR_perm R).length_eq
structure RwI (w:World) (l:List Elt) (lv:Value) (wr:World):Prop where
 own:RE.Own wr w.heap.size lv l
 bel:Below w.heap.size w wr
theorem RwI.slice {w wr:World} {l:List Elt} {lv:Value} (h:RwI w l lv wr) (ok:∀e∈l,RE.ok e):∃a c,lv= .slice a l.length c:=by
 obtain ⟨a,c,e,_⟩:=h.own.open RE_is ok
 exact ⟨a,c,e⟩
theorem RwI.push {w wr:World} {l:List Elt} {lv:Value} (h:RwI w l lv wr) {x:Elt} (hx:x.wf) (hl:l.length≤1400000000000) :
 ∃sv w1 v2 w2,(Instr.buildSlice 81 1 #[(0, .agg x.c.toArray)]).run Tryz.prog wr= .ok sv w1∧(Builtin.append_ #[81,81] 81 #[lv,sv]).run Tryz.prog w1= .ok v2 w2∧RwI w (l++[x]) v2 w2:=by
 obtain ⟨sv,w1,v2,w2,e1,e2,o,b1,z1,g,q⟩:=RowT.run_push RE_is wr w.heap.size lv l x h.own hx (by unfold maxLen;omega) (by show _*88≤_;omega) h.bel.size
 refine ⟨sv,w1,v2,w2,e1,e2,o, ?_⟩
 have b2:Below w.heap.size w w1:=h.bel.trans (b1.mono h.bel.size)
 exact ⟨g.os.trans b2.os,g.tape.trans b2.tape,g.output.trans b2.output,Nat.le_trans b2.size g.size,fun k hk=>(g.block k (Nat.lt_of_lt_of_le hk b2.size) (fun e=>by
  have:=(h.own.cells (k:=k) (by rw [←e])).1;omega)).trans (b2.block k hk)⟩
theorem RwI.set {w wr:World} {l:List Elt} {lv:Value} (h:RwI w l lv wr) (ok:∀e∈l,RE.ok e) {i:Nat} (hi:i<l.length) {x:Elt} (hx:x.wf) :
 ∃g cap,lv= .slice (some ⟨g,0,none⟩) l.length cap∧∃w2,(Instr.storeAt 105 (.pointer (some ⟨g,67*i,none⟩)) (.agg x.c.toArray)).run Tryz.prog wr= .ok () w2∧RwI w (l.set i x) lv w2:=by
 obtain ⟨g,cap,e,hg,w2,e2,o,t,z⟩:=RowT.own_set RE_is h.own ok hi hx
 refine ⟨g,cap,e,w2,e2,o,h.bel.trans (t.below h.bel.size (fun k hk=>(h.own.cells hk).1))⟩
theorem RwI.drew {w wr:World} {l:List Elt} {lv:Value} (h:RwI w l lv wr):RwI w l lv wr.drew:=⟨h.own.below ((Below.refl _ _).drew),h.bel.drew⟩
set_option maxHeartbeats 8000000 in
theorem row_at {w:World} {base d:Nat} {v:Value} {R:List Elt} (h:RefAt w base d v R):Calls Tryz.prog 58 #[.pointer (some ⟨d,0,none⟩)] w fun e w'=> ∃v,e= .returned v∧RE.Own w' w.heap.size v (rowR R)∧Below w.heap.size w w':=by
 obtain ⟨n,hn⟩:∃n,R.length=n:=⟨_,rfl⟩
 have hN:=h.len
 rw [hn] at hN
 have HN:=hidMk hn
 have HH:=hidMk h
 have st0:Hid (RwI w (rowR (R.take 0)) (.slice none 0 0) w):=⟨RowT.own_nil RE _ _,Below.refl _ _⟩
 clear hn
 go_enter Tryz.func58,Tryz.ntmps58
 go_wp2
 go_loopw [3,4] (fun v3 v4 wr=> ∃(i:Nat) (lv:Value),lv=v3∧v4= .int .i64 (i:Int)∧i≤n∧Hid (RwI w (rowR (R.take i)) lv wr)) (fun v3 v4 wr=>n-(match v4 with | .int _ i=>i.toNat|_=>0))
 case atStart=>exact ⟨0,_,rfl,rfl,Nat.zero_le _,st0⟩
 case round =>
  clear st0
  obtain ⟨i,lv,rfl,rfl,hin,hI⟩:=hrel
  have href:RefAt wr base d v R:=HH.out.below hI.out.bel
  obtain ⟨ea,ec,ev,_⟩:=href.open
  rw [HN.out] at ev
  have hc0:=href.c0
  rw [ev] at hc0
  by_cases hi:i<n
  ·have hi':i<R.length:=by rw [HN.out];exact hi
   have hsp:R=R.take i++R[i]::R.drop (i+1):=by rw [List.getElem_cons_drop];exact (List.take_append_drop i R).symm
   have hTk:Hid (R.take (i+1)=R.take i++[R[i]]):=by show _=_;rw [List.take_add_one,List.getElem?_eq_getElem hi'];rfl
   have okT:RefOk (R.take i):=by have:=h.ok;rw [hsp] at this;exact this.left
   have hbh:=h.ok.bh (R.take i) R[i] (R.drop (i+1)) hsp
   obtain ⟨eb,eo,ec2,e1,hl,hwf,hra⟩:=HH.out.get hi'
   rw [HN.out] at e1
   have hrl:(rowR (R.take i)).length=i:=by rw [row_len,List.length_take];omega
   have HWL:=hidMk (row_wf okT)
   have HNX:Hid (∀a,AtIs (rowR (R.take i)) R[i].bh i a→rowR (R.take (i+1))=(rowR (R.take i)).take a++R[i]::(rowR (R.take i)).drop a):=fun a q=>by
        rw [hTk.out,rowR_snoc]
        exact put_at okT.row.nd (fun e he=>(okT.row.ok e he).2.2) (by rw [has_row];exact hbh) (by rw [hrl];exact q) _
   obtain ⟨l,hl2⟩:∃l,rowR (R.take i)=l:=⟨_,rfl⟩
   rw [hl2] at hI hrl HWL HNX
   have HRL:=hidMk hrl
   have HEV:=hidMk e1
   have HRA:Hid (∀W,Below w.heap.size w W→W.heap[d]? =some (.cells #[.slice (some ⟨eb,eo,none⟩) n ec2] 83 (0,0))∧W.rangeAt eb (eo+67*i) R[i].c):=fun W b=>⟨by
    have:=(HH.out.below b).c0
    rw [HEV.out] at this
    exact this,rangeAt_below hra b hl⟩
   generalize R[i]=x at *
   obtain ⟨l',hl'⟩:∃l',rowR (R.take (i+1))=l':=⟨_,rfl⟩
   rw [hl'] at HNX
   have HL':=hidMk hl'
   clear hl'
   clear hsp hTk okT hbh hl2 hrl hra ev href e1 hl
   go_upto_region 5 with fail
   refine drow5 (g:=true) _ _ _ rfl rfl rfl hc0 (decide_eq_true (by omega)) ?_
   intro a' w1 hw ha
   subst ha
   obtain rfl:w1=wr:=hw
   simp only [Act.put,qsA,qsB,qsC]
   clear hc0
   generalize w1=w2 at *
   go_wp2
   go_loopw [5,6] (fun v5 v6 wr=> ∃(at' j:Nat),v5= .int .i64 (at':Int)∧v6= .int .i64 (j:Int)∧j≤i∧Hid (RwI w l lv wr)∧Hid (AtIs l x.bh j at')) (fun v5 v6 wr=>i-(match v6 with | .int _ i=>i.toNat|_=>0))
   case atStart=>exact ⟨0,0,rfl,rfl,Nat.zero_le _,hI,AtIs.zero _ _⟩
   case round =>
        clear hI
        obtain ⟨at',j,rfl,rfl,hji,hJ,hat⟩:=hrel
        by_cases hj:j<i
        ·have hj':j<l.length:=by rw [HRL.out];exact hj
         obtain ⟨lb,lc,e1,hr2⟩:=hJ.out.own.zero RE_is HWL.out hj'
         rw [HRL.out] at e1
         obtain rfl:=e1
         have hy:l[j].wf:=HWL.out _ (List.getElem_mem hj')
         have HIT:Hid (l[j].id=x.bh→AtIs l x.bh (j+1) (j+1)):=fun q=>AtIs.hit hj' q
         have MIS:Hid (l[j].id≠x.bh→AtIs l x.bh (j+1) at'):=fun q=>AtIs.miss hj' q hat.out
         generalize l[j]=y at *
         obtain ⟨r1,r2⟩:=HRA.out _ hJ.out.bel
         go_upto_region 11 with fail
         refine drow11 (x:=x) (y:=y) (q:=i) (j:=j) (g:=decide (y.id=x.bh)) _ _ _ rfl rfl rfl rfl rfl hwf hi (by omega) hy hj (by omega) rfl r1 r2 hr2 ?_
         intro a' w3 hw ha
         subst ha
         obtain rfl:w3=wr.drew:=hw
         simp only [Act.put,qsA,qsB,qsC]
         have hJ2:=hidMk hJ.out.drew
         generalize wr.drew=w3 at *
         clear hJ r1 r2 hr2 hat
         cases hd:decide (y.id=x.bh) with
         |true =>
          have H2:=hidMk (HIT.out (of_decide_eq_true hd))
          clear hd HIT MIS
          go_wp2
          have hq:((j:Int)+1)=((j+1:Nat):Int):=by omega
          rw [hq]
          refine ⟨⟨j+1,j+1,rfl,rfl,hj,hJ2,H2⟩, ?_⟩
          show i-((j+1:Nat):Int).toNat<i-(j:Int).toNat
          omega
         |false =>
          have H2:=hidMk (MIS.out (of_decide_eq_false hd))
          clear hd HIT MIS
          go_wp2
          have hq:((j:Int)+1)=((j+1:Nat):Int):=by omega
          rw [hq]
          refine ⟨⟨at',j+1,rfl,rfl,hj,hJ2,H2⟩, ?_⟩
          show i-((j+1:Nat):Int).toNat<i-(j:Int).toNat
          omega
        ·obtain rfl:i=j:=by omega
         have ale:=hat.out.le
         rw [HRL.out] at ale
         have HL2:=hidMk (HNX.out _ hat.out)
         obtain ⟨la,lc,e1⟩:=hJ.out.slice HWL.out
         rw [HRL.out] at e1
         obtain rfl:=e1
         obtain ⟨sv,w3,v2,w4,e2,e3,P4⟩:=hJ.out.push zElt_wf (by have:=HRL.out;omega)
         go_upto_region 13 with fail
         refine drow13 (lv:= .slice la i lc) _ _ _ rfl rfl e2 e3 ?_
         intro a' w5 hw ha
         subst ha
         obtain rfl:w5=w4:=hw
         simp only [Act.put,qsA,qsB,qsC]
         have P5:RwI w (l.take i++zElt::l.drop i) v2 w5:=by
          have e5:l.take i++zElt::l.drop i=l++[zElt]:=by rw [List.take_of_length_le (by rw [HRL.out];exact Nat.le_refl _),List.drop_of_length_le (by rw [HRL.out];exact Nat.le_refl _)]
          rw [e5];exact P4
         have HWS:Hid (∀(kk:Nat) (y:Elt),y.wf→∀e∈l.take kk++y::l.drop kk,RE.ok e):=fun kk y hy e he=>by
          rcases List.mem_append.1 he with q|q
          ·exact HWL.out e (List.mem_of_mem_take q)
          ·rcases List.mem_cons.1 q with rfl|q
           ·exact hy
           ·exact HWL.out e (List.mem_of_mem_drop q)
         have hsl:∀kk y,kk≤i→(l.take kk++y::l.drop kk).length=i+1:=fun kk y hk=>by rw [shift_len l (by rw [HRL.out];exact hk),HRL.out]
         have HSL:=hidMk hsl
         obtain ⟨ga,gc,e6⟩:=P5.slice (HWS.out i zElt zElt_wf)
         rw [hsl i zElt (Nat.le_refl _)] at e6
         obtain rfl:=e6
         have st2:Hid (∃y:Elt,y.wf∧RwI w (l.take i++y::l.drop i) (.slice ga (i+1) gc) w5):=⟨zElt,zElt_wf,P5⟩
         clear P4 P5 hJ e2 e3 hat hsl hji
         generalize wr=w6 at *
         go_wp2
         have hq0:((i:Int)+1-1)=(i:Int):=by omega
         try rw [hq0]
         go_loopw [7] (fun v7 wr=> ∃(kk:Nat),v7= .int .i64 (kk:Int)∧at'≤kk∧kk≤i∧Hid (∃y:Elt,y.wf∧RwI w (l.take kk++y::l.drop kk) (.slice ga (i+1) gc) wr)) (fun v7 wr=>(match v7 with | .int _ i=>i.toNat|_=>0))
         case atStart=>exact ⟨i,rfl,ale.2,Nat.le_refl _,st2⟩
         case round =>
          clear st2
          obtain ⟨kk,rfl,hka,hki,hK⟩:=hrel
          obtain ⟨y,hy,hK2⟩:=hK.out
          by_cases hk:at'<kk
          ·obtain ⟨j,rfl⟩:∃j,kk=j+1:=⟨kk-1,by omega⟩
           have hjl:j<l.length:=by have:=HRL.out;omega
           have hz:l[j].wf:=HWL.out _ (List.getElem_mem hjl)
           obtain ⟨lb,cap,e1,w7,e2,P7⟩:=hK2.set (HWS.out _ y hy) (i:=j+1) (by rw [HSL.out _ _ hki];omega) hz
           rw [HSL.out _ _ hki] at e1
           cases e1
           have hget:(l.take (j+1)++y::l.drop (j+1))[j]? =some l[j]:=by
                have:=shift_get (l:=l) (k:=j+1) (by omega) (by omega) y
                simpa using this
           obtain ⟨hjx,hje⟩:=List.getElem?_eq_some_iff.1 hget
           obtain ⟨g2,c2,e3,hr3⟩:=hK2.own.zero RE_is (HWS.out _ y hy) hjx
           rw [hje] at hr3
           rw [HSL.out _ _ hki] at e3
           cases e3
           have P8:RwI w (l.take j++l[j]::l.drop j) (.slice (some ⟨lb,0,none⟩) (i+1) gc) w7:=by
                have:=shift_step (l:=l) (k:=j+1) (by omega) (by omega) y
                simp only [Nat.add_sub_cancel] at this
                rw [this] at P7
                exact P7
           have hz2:Hid (∃y:Elt,y.wf∧RwI w (l.take j++y::l.drop j) (.slice (some ⟨lb,0,none⟩) (i+1) gc) w7):=⟨l[j],hz,P8⟩
           clear P7 P8
           generalize l[j]=z at *
           go_upto_region 17 with fail
           refine drow17 (y:=z) (q:=i+1) (j:=j) _ _ _ rfl rfl rfl hz (by omega) (by omega) hr3 e2 ?_
           intro a' w8 hw ha
           subst ha
           obtain rfl:w8=w7:=hw
           simp only [Act.put,qsA,qsB,qsC]
           clear hr3 hget hjx hje e2 hK2 hK
           go_wp2
           have hq:(((j+1:Nat):Int)-1)=(j:Int):=by omega
           try rw [hq]
           have hq2:((j:Int)+1-1)=(j:Int):=by omega
           try rw [hq2]
           refine ⟨⟨j,rfl,by omega,by omega,hz2⟩, ?_⟩
           show (j:Int).toNat<((j+1:Nat):Int).toNat
           omega
          ·obtain rfl:at'=kk:=by omega
           obtain ⟨lb,cap,e1,w7,e2,P7⟩:=hK2.set (HWS.out _ y hy) (i:=at') (by rw [HSL.out _ _ hki];omega) hwf
           rw [HSL.out _ _ hki] at e1
           cases e1
           rw [shift_last (by rw [HRL.out];exact hki), ←HL2.out] at P7
           have HP:=hidMk P7
           obtain ⟨r1,r2⟩:=HRA.out _ hK2.bel
           go_upto_region 18 with fail
           refine drow18 (x:=x) (q:=i+1) (p:=at') _ _ _ rfl rfl rfl rfl rfl hwf hi (by omega) (by omega) (by omega) r1 r2 e2 ?_
           intro a' w8 hw ha
           subst ha
           obtain rfl:w8=w7:=hw
           simp only [Act.put,qsA,qsB,qsC]
           clear P7 e2 hK2 hK r1 r2 HL2 HNX
           go_wp2
           have hq:((i:Int)+1)=((i+1:Nat):Int):=by omega
           rw [hq]
           refine ⟨⟨i+1,_,rfl,rfl,hi,by rw [HL'.out];exact HP⟩, ?_⟩
           show n-((i+1:Nat):Int).toNat<n-(i:Int).toNat
           omega
  ·obtain rfl:n=i:=by omega
   rw [List.take_of_length_le (by rw [HN.out];exact Nat.le_refl _)] at hI
   go_upto_region 5 with fail
   refine drow5 (g:=false) _ _ _ rfl rfl rfl hc0 (decide_eq_false (by omega)) ?_
   intro a' w1 hw ha
   subst ha
   obtain rfl:w1=wr:=hw
   simp only [Act.put,qsA,qsB,qsC]
   clear hc0 ev href
   go_wp2
   go_ret
   exact ⟨_,rfl,hI.out.own,hI.out.bel⟩
theorem row_nil (w:World):Calls Tryz.prog 58 #[.pointer none] w fun e w'=> ∃v,e= .returned v∧RE.Own w' w.heap.size v []∧Below w.heap.size w w':=by
 go_enter Tryz.func58,Tryz.ntmps58
 go_wp2
 go_ret
 exact ⟨_,rfl,RowT.own_nil RE _ _,Below.refl _ _⟩
theorem row_ref {w:World} {base:Nat} {pv:Value} {R:List Elt} (h:RefV w base pv R):Calls Tryz.prog 58 #[pv] w fun e w'=> ∃a c,e= .returned (.slice a (rowR R).length c)∧RE.Own w' w.heap.size (.slice a (rowR R).length c) (rowR R)∧Below w.heap.size w w':=by
 have hw:=row_wf h.ok.1
 have:Calls Tryz.prog 58 #[pv] w fun e w'=> ∃v,e= .returned v∧RE.Own w' w.heap.size v (rowR R)∧Below w.heap.size w w':=by
  rcases h with ⟨rfl,rfl⟩|⟨d,v,rfl,h⟩
  ·exact row_nil w
  ·exact row_at h
 refine this.mono ?_
 rintro e w' ⟨v,rfl,o,b⟩
 obtain ⟨a,c,rfl,_⟩:=o.open RE_is hw
 exact ⟨a,c,rfl,o,b⟩
attribute [local go_sem] Oper.semAt_some
theorem bo {P:Program} {op:BinOp} {t:TypeId} {x y:Operand} {xv yv v:Value} {w:World} (hg:(eqGuard op t x y xv yv).run P w= .ok () w) (hl:(binOp op t xv yv).run P w= .ok v w):(do eqGuard op t x y xv yv;binOp op t xv yv:Sem Value).run P w= .ok v w:=by
 rw [Sem.run_bind,hg];exact hl
theorem pl_eq {p q:IdK} (hp:p.ok) (hq:q.ok) (x y:Operand) (w:World):(do eqGuard .eql 36 x y p.v q.v;binOp .eql 36 p.v q.v:Sem Value).run Tryz.prog w= .ok (.bool (decide (p=q))) w :=
 bo (guard_id _ _ _ _ _ _) (eql_id p q hp hq w)
theorem place_any {w:World} {la:Option Addr} {lc:Nat} {E:List Elt} (hat:RE.At w la E) (ok:∀e∈E,RE.ok e) (hs:SeqOk E) (hl:E.length≤1400000000000) {k:IdK} (hk:k.ok) :
 Calls Tryz.prog 59 #[.slice la E.length lc,k.v] w fun e w'=>e= .returned (.int .i64 (aheadE E false k))∧Below w.heap.size w w':=by
 have bx:Below w.heap.size w (w.alloc (.cells k.c.toArray 36)):=(Below.refl _ _).alloc (Nat.le_refl _) _
 have hx:=id_new w k
 have hat2:=hat.below bx
 obtain ⟨n,hn⟩:∃n,E.length=n:=⟨_,rfl⟩
 rw [hn] at hl ⊢
 have HN:=hidMk hn
 obtain ⟨r,hr⟩:∃r,aheadE E false k=r:=⟨_,rfl⟩
 have HRR:=hidMk hr
 rw [hr]
 show Calls Tryz.prog 59 #[.slice la n lc, .agg k.c.toArray] w _
 clear hr hn hat
 go_enter Tryz.func59,Tryz.ntmps59
 go_upto_region 1 with fail
 generalize w.alloc (.cells k.c.toArray 36)=wx at *
 obtain ⟨kb,hkb⟩:∃kb,w.heap.size=kb:=⟨_,rfl⟩
 rw [hkb] at hx bx ⊢
 have HX:=hidMk (And.intro hat2 (And.intro hx bx))
 clear hat2 hx bx
 go_wp2
 go_loopw [5] (fun v5 wr=> ∃(i:Nat),v5= .int .i64 (i:Int)∧i≤n∧Hid (RE.At wr la E∧IdAt wr kb k∧Below kb w wr)∧Hid (∀j (hj:j<E.length),j<i→E[j].id≠k)) (fun v5 wr=>n-(match v5 with | .int _ i=>i.toNat|_=>0))
 case atStart=>exact ⟨0,rfl,Nat.zero_le _,HX,fun j hj h=>by omega⟩
 case round =>
  clear HX
  obtain ⟨i,rfl,hin,hI,hno⟩:=hrel
  by_cases hi:i<n
  ·have hi':i<E.length:=by rw [HN.out];exact hi
   obtain ⟨eb,eo,rfl,hra⟩:∃eb eo,la=some ⟨eb,eo,none⟩∧wr.rangeAt eb (eo+67*i) E[i].c:=by
        rcases hI.out.1 with h|⟨g,o,e,hl,h2⟩
        ·rw [h] at hi';simp at hi'
        ·exact ⟨g,o,e,h2 i _ (List.getElem?_eq_getElem hi')⟩
   have hwf:E[i].wf:=ok _ (List.getElem_mem hi')
   have hrd:wr.drew.rangeAt eb (eo+67*i) E[i].c:=hra
   have hkd:IdAt wr.drew kb k:=hI.out.2.1
   go_upto_region 4 with fail
   refine En.zy tab [0,1,2,3,4,5,6] 7 (fun W=>W=wr.drew) (hS:=rfl) (h:=En.se (ix_el hi (by omega) _) (En.se (el_id hwf hrd) (En.se (load_id hk hkd) (En.se (pl_eq hwf.1 hk _ _ _) (En.fi ?_)))))
   simp only [En.putM,En.puts,Act.put,List.setIfInBounds_toArray,List.set_cons_zero,List.set_cons_succ]
   have HX2:Hid (RE.At wr.drew (some ⟨eb,eo,none⟩) E∧IdAt wr.drew kb k∧Below kb w wr.drew):=⟨hI.out.1.below ((Below.refl _ _).drew),hkd,hI.out.2.2.drew⟩
   have HG:=hidMk (ahead_get hs false hi')
   have HNX:Hid (E[i].id≠k→∀j (hj:j<E.length),j<i+1→E[j].id≠k):=fun q j hj hji=>by
        by_cases e:j=i
        ·subst e;exact q
        ·exact hno.out j hj (by omega)
   clear hra hrd hkd hI
   generalize wr.drew=w2 at *
   cases hd:decide (E[i].id=k) with
   |true =>
    have e2:r=(i:Int):=by
     rw [←HRR.out, ←of_decide_eq_true hd,HG.out]
     have:E.take i=E.take i:=rfl
     rw [cnt_all,List.length_take,Nat.min_eq_left (by omega)]
    subst e2
    clear hd HG HNX hno
    go_wp2
    go_ret
    exact ⟨rfl,by rw [hkb];exact HX2.out.2.2⟩
   |false =>
    have HD:=hidMk (of_decide_eq_false hd)
    clear hd HG hno
    go_wp2
    have hq:((i:Int)+1)=((i+1:Nat):Int):=by omega
    rw [hq]
    refine ⟨⟨i+1,rfl,hi,HX2,HNX.out HD.out⟩, ?_⟩
    show n-((i+1:Nat):Int).toNat<n-(i:Int).toNat
    omega
  ·obtain rfl:n=i:=by omega
   have e2:r= -1:=by
        rw [←HRR.out]
        exact rank_neg (none_has (fun j hj=>hno.out j hj (by rw [←HN.out];exact hj))) _
   subst e2
   clear hno
   go_wp2
   go_ret
   exact ⟨rfl,by rw [hkb];exact hI.out.2.2⟩
attribute [local go_sem] Oper.semAt_some
def q1 (x:MkV):Int:=if bF x.sd=true then 1 else 0
def q2 (x:MkV):Int:=if bT x.sd=true then 2 else 0
def bgD (E:List Elt) (x:MkV) (e:Int):Bool:=decide (x.fr=zId)||(decide (aheadE E false x.fr≥0)&&(decide (aheadE E false x.fr<e)||(decide (aheadE E false x.fr=e)&&decide (q1 x=0))))
def enD (E:List Elt) (x:MkV) (e:Int):Bool:=decide (x.to=zId)||(decide (aheadE E false x.to≥0)&&(decide (aheadE E false x.to>e)||(decide (aheadE E false x.to=e)&& !decide (q2 x=0))))
def covD (E:List Elt) (x:MkV) (e:Int):Bool:=bgD E x e&&enD E x e
theorem covD_R {E:List Elt} {x:MkV} {e:Nat} (he:e<E.length):covD E x (e:Int)=covR E (e:Int) x:=by
 have he2:(e:Int)<(E.length:Int):=by omega
 have he0:(0:Int)≤(e:Int):=by omega
 unfold covD bgD enD covR reachP edgeP q1 q2
 generalize aheadE E false x.fr=f
 generalize aheadE E false x.to=t
 generalize (E.length:Int)=n at *
 generalize (e:Int)=e at *
 clear he
 rw [Bool.eq_iff_iff]
 cases bF x.sd <;>cases bT x.sd <;>by_cases hf:x.fr=zId <;>by_cases ht:x.to=zId <;>by_cases h1:f≥0 <;>by_cases h2:t≥0 <;>simp [hf,ht,h1,h2] <;>omega
theorem pe_t {p q:IdK} (hp:p.ok) (hq:q.ok) {r:Bool} (h:decide (p=q)=r) (x y:Operand) (w:World):(do eqGuard .eql 36 x y p.v q.v;binOp .eql 36 p.v q.v:Sem Value).run Tryz.prog w= .ok (.bool r) w:=h▸pl_eq hp hq x y w
theorem pand {s q:Int} {m:Int} (h:∀W,(binOp .and 3 (.int .i64 s) (.int .i64 m)).run Tryz.prog W= .ok (.int .i64 q) W) (x y:Operand) (w:World):(do eqGuard .and 3 x y (.int .i64 s) (.int .i64 m);binOp .and 3 (.int .i64 s) (.int .i64 m):Sem Value).run Tryz.prog w= .ok (.int .i64 q) w :=
 bo rfl (h w)
theorem six {z g l m s r:Bool} (hr:r=(z||(g&&(l||(m&&s))))):(z=true∧r=true)∨(z=false∧g=false∧r=false)∨(z=false∧g=true∧l=true∧r=true)∨(z=false∧g=true∧l=false∧m=false∧r=false)∨(z=false∧g=true∧l=false∧m=true∧s=true∧r=true)∨(z=false∧g=true∧l=false∧m=true∧s=false∧r=false):=by
 cases z <;>cases g <;>cases l <;>cases m <;>cases s <;>simp_all
set_option maxHeartbeats 8000000 in
theorem rcovers_any {w:World} {la:Option Addr} {lc:Nat} {E:List Elt} (hat:RE.At w la E) (ok:∀e∈E,RE.ok e) (hs:SeqOk E) (hl:E.length≤1400000000000) {x:MkV} (hx:x.ok) (h3:0≤x.sd∧x.sd≤3) (e:Int) :
 Calls Tryz.prog 87 #[x.a, .slice la E.length lc, .int .i64 e] w fun en w'=>en= .returned (.bool (covD E x e))∧Below w.heap.size w w':=by
 have bx:Below w.heap.size w (w.alloc (.cells x.c.toArray 99)):=(Below.refl _ _).alloc (Nat.le_refl _) _
 have hb:(w.alloc (.cells x.c.toArray 99)).heap[w.heap.size]? =some (.cells x.c.toArray 99 (0,0)):=heap_alloc_new _ _
 have PL:Hid (∀W,Below w.heap.size w W→∀k:IdK,k.ok→Calls Tryz.prog 59 #[.slice la E.length lc,k.v] W fun en w'=>en= .returned (.int .i64 (aheadE E false k))∧Below W.heap.size W w'):=fun W b k hk=>place_any (hat.below b) ok hs hl hk
 have A1:Hid (∀W,(binOp .and 3 (.int .i64 x.sd) (.int .i64 1)).run Tryz.prog W= .ok (.int .i64 (q1 x)) W):=fun W=>and_one h3 W
 have A2:Hid (∀W,(binOp .and 3 (.int .i64 x.sd) (.int .i64 2)).run Tryz.prog W= .ok (.int .i64 (q2 x)) W):=fun W=>and_two h3 W
 have CD:Hid (covD E x e=(bgD E x e&&enD E x e)):=rfl
 have BG:Hid (bgD E x e=(decide (x.fr=zId)||(decide (aheadE E false x.fr≥0)&&(decide (aheadE E false x.fr<e)||(decide (aheadE E false x.fr=e)&&decide (q1 x=0)))))):=rfl
 have EN:Hid (enD E x e=(decide (x.to=zId)||(decide (aheadE E false x.to≥0)&&(decide (aheadE E false x.to>e)||(decide (aheadE E false x.to=e)&& !decide (q2 x=0)))))):=rfl
 have C1:=hidMk (PL.out _ bx x.fr hx.fr)
 obtain ⟨f,hf⟩:∃f,aheadE E false x.fr=f:=⟨_,rfl⟩
 rw [hf] at C1 BG
 clear hf
 obtain ⟨n,hn⟩:∃n,E.length=n:=⟨_,rfl⟩
 rw [hn] at PL C1 ⊢
 generalize covD E x e=rr at *
 generalize bgD E x e=r3 at *
 generalize enD E x e=r4 at *
 show Calls Tryz.prog 87 #[.agg x.c.toArray, .slice la n lc, .int .i64 e] w _
 clear hat ok hs hl hn
 go_enter Tryz.func87,Tryz.ntmps87
 go_upto_region 1 with fail
 generalize hw1:w.alloc (.cells x.c.toArray 99)=w1 at *
 have zx:=bx.size
 have RG:Hid (∀W,Below w1.heap.size w1 W→W.rangeAt w.heap.size 0 x.c):=fun W b=>cells_range ((b.block _ (Array.getElem?_eq_some_iff.1 hb).1).trans hb)
 have BX:=hidMk bx
 clear bx hb hw1
 generalize hxb:w.heap.size=xb at *
 refine En.zq tab rfl (En.st (mk_fr hx (RG.out _ (Below.refl _ _))) (En.ca C1.out ?_))
 rintro _ w2 ⟨rfl,b2⟩
 refine ⟨_,rfl,En.fi ?_⟩
 simp only [En.putM,En.puts,Act.put,List.setIfInBounds_toArray,List.set_cons_zero,List.set_cons_succ]
 have B2:=hidMk b2
 have C2:=hidMk (PL.out w2 (BX.out.trans (b2.mono (by omega))) x.to hx.to)
 obtain ⟨t,ht⟩:∃t,aheadE E false x.to=t:=⟨_,rfl⟩
 rw [ht] at C2 EN
 clear ht
 clear C1 PL b2
 go_upto_region 2 with fail
 refine En.zq tab rfl (En.st (mk_to hx (RG.out _ B2.out)) (En.ca C2.out ?_))
 rintro _ w3 ⟨rfl,b3⟩
 refine ⟨_,rfl,En.fi ?_⟩
 simp only [En.putM,En.puts,Act.put,List.setIfInBounds_toArray,List.set_cons_zero,List.set_cons_succ]
 have B3:=hidMk (B2.out.trans (b3.mono B2.out.size))
 have LF:=hidMk (mk_fr hx (RG.out _ B3.out))
 have LT:=hidMk (mk_to hx (RG.out _ B3.out))
 have LS:=hidMk (mk_sd hx (RG.out _ B3.out))
 have HF:=hidMk (And.intro hx.fr hx.to)
 have hB:=hidMk (show Below xb w w3 from (BX.out.trans (B3.out.mono (by omega))))
 clear C2 B2 b3 RG BX B3 hx
 generalize q1 x=p1 at *
 generalize q2 x=p2 at *
 have S3:=six BG.out
 have S4:=six EN.out
 have HS4:=hidMk S4
 clear BG EN S4 zx
 go_upto_region 3 with fail
 rcases S3 with ⟨h,hr⟩|⟨h,h1,hr⟩|⟨h,h1,h2,hr⟩|⟨h,h1,h2,h3,hr⟩|⟨h,h1,h2,h3,h4,hr⟩|⟨h,h1,h2,h3,h4,hr⟩
 all_goals
  first
  |refine En.zq tab rfl (En.st LF.out (En.st (build_id _) (En.st (pe_t HF.out.1 zId_ok h _ _ _) (En.cm h1 (En.cm h2 (En.cm h3 (En.st LS.out (En.st (pand A1.out _ _ _) (En.cm h4 (En.fi ?_))))))))))
  |refine En.zq tab rfl (En.st LF.out (En.st (build_id _) (En.st (pe_t HF.out.1 zId_ok h _ _ _) (En.cm h1 (En.cm h2 (En.cm h3 (En.fi ?_)))))))
  |refine En.zq tab rfl (En.st LF.out (En.st (build_id _) (En.st (pe_t HF.out.1 zId_ok h _ _ _) (En.cm h1 (En.cm h2 (En.fi ?_))))))
  |refine En.zq tab rfl (En.st LF.out (En.st (build_id _) (En.st (pe_t HF.out.1 zId_ok h _ _ _) (En.cm h1 (En.fi ?_)))))
  |refine En.zq tab rfl (En.st LF.out (En.st (build_id _) (En.st (pe_t HF.out.1 zId_ok h _ _ _) (En.fi ?_))))
  try clear h4
  try clear h3
  try clear h2
  try clear h1
  clear h
  subst hr
  simp only [En.putM,En.puts,Act.put,List.setIfInBounds_toArray,List.set_cons_zero,List.set_cons_succ]
  go_upto_region 4 with fail
  rcases HS4.out with ⟨h,hr⟩|⟨h,h1,hr⟩|⟨h,h1,h2,hr⟩|⟨h,h1,h2,h3,hr⟩|⟨h,h1,h2,h3,h4,hr⟩|⟨h,h1,h2,h3,h4,hr⟩
 all_goals
  first
  |refine En.zq tab rfl (En.st LT.out (En.st (build_id _) (En.st (pe_t HF.out.2 zId_ok h _ _ _) (En.cm h1 (En.cm h2 (En.cm h3 (En.st LS.out (En.st (pand A2.out _ _ _) (En.cm h4 (En.fi ?_))))))))))
  |refine En.zq tab rfl (En.st LT.out (En.st (build_id _) (En.st (pe_t HF.out.2 zId_ok h _ _ _) (En.cm h1 (En.cm h2 (En.cm h3 (En.fi ?_)))))))
  |refine En.zq tab rfl (En.st LT.out (En.st (build_id _) (En.st (pe_t HF.out.2 zId_ok h _ _ _) (En.cm h1 (En.cm h2 (En.fi ?_))))))
  |refine En.zq tab rfl (En.st LT.out (En.st (build_id _) (En.st (pe_t HF.out.2 zId_ok h _ _ _) (En.cm h1 (En.fi ?_)))))
  |refine En.zq tab rfl (En.st LT.out (En.st (build_id _) (En.st (pe_t HF.out.2 zId_ok h _ _ _) (En.fi ?_))))
  try clear h4
  try clear h3
  try clear h2
  try clear h1
  clear h HS4
  subst hr
  simp only [En.putM,En.puts,Act.put,List.setIfInBounds_toArray,List.set_cons_zero,List.set_cons_succ]
  go_wp2
  go_ret
  exact ⟨by rw [CD.out];rfl,by rw [hxb];exact hB.out⟩
def OT (w:World) (B:Nat) (v:Value) (L:List ByteArray):Prop:=OwnV w B 9 v (L.map Value.string)
theorem infoTx:(Tryz.prog.info? 9).map (fun i=>(i.zero,i.size,i.bytes))=some (some (.string ⟨#[]⟩),1,16):=by kernel_rfl
theorem bs_tx (s:ByteArray) (w:World):(Instr.buildSlice 113 1 #[(0, .string s)]).run Tryz.prog w= .ok (.slice (some ⟨w.heap.size,0,none⟩) 1 1) (w.alloc (.cells #[.string s] 9)):=by
 obtain ⟨ie,hi,hz0,hs,hby⟩:=info_parts infoTx
 refine run_buildSlice w 113 9 1 _ #[.string s] ie _ Tryz.underlying113 hi hz0 (by rw [hs];decide) (by rw [hs];decide) ?_
 rw [hs]
 have:=Go.Great.fill_whole (s:=1) (by decide) [Value.string s] ((Array.range (1*1)).map ((Value.string ⟨#[]⟩).cells[· % (Value.string ⟨#[]⟩).cells.size]!)) (by intro u hu;simp at hu;subst hu;rfl) (by simp)
 simpa [show (Value.string s).cells= #[Value.string s] from rfl] using this
section
variable {w w':World} {B:Nat} {v:Value} {L:List ByteArray}
theorem OT.below (h:OT w B v L) (b:Below w.heap.size w w'):OT w' B v L:=OwnV.below h b
theorem OT.ge (h:OT w B v L) {j:Nat} (hj:v.ownBlock=some j):B≤j:=(OwnV.ge h j hj).1
theorem ot_nil (w:World) (B:Nat):OT w B (.slice none 0 0) []:=⟨rfl, .inl ⟨rfl,rfl⟩⟩
theorem OT.sl (h:OT w B v L):∃a c,v= .slice a L.length c:=by
 rcases h.2 with ⟨e,hz⟩|⟨gb,cap,cur,e,_⟩
 ·rw [List.length_map] at hz
  exact ⟨none,0,by rw [e,hz]⟩
 ·rw [List.length_map] at e
  exact ⟨_,_,e⟩
theorem OT.push (own:OT w B v L) (hB:B≤w.heap.size) (hn:L.length+1≤2000000000000) (s:ByteArray) :
 ∃bv w1 v2 w2,(Instr.buildSlice 113 1 #[(0, .string s)]).run Tryz.prog w= .ok bv w1∧(Builtin.append_ #[113,113] 113 #[v,bv]).run Tryz.prog w1= .ok v2 w2∧OT w2 B v2 (L++[s])∧Tch (fun j=>v.ownBlock=some j) w w2:=by
 have b1:Below w.heap.size w (w.alloc (.cells #[.string s] 9)):=(Below.refl _ _).alloc (Nat.le_refl _) _
 have e1:=bs_tx s w
 have hc1:(w.alloc (.cells #[.string s] 9)).cell? ⟨w.heap.size,0,none⟩=some (.string s):=by rw [cell_of_row _ _ _ _ _ _ (heap_alloc_new _ _)];rfl
 have own1:=OwnV.below own b1
 have hB1:=Nat.le_trans hB b1.size
 generalize w.alloc (.cells #[.string s] 9)=w1 at *
 obtain ⟨i,hi,hz,hs,hby⟩:=info_parts infoTx
 have hnews:∀j u,[Value.string s][j]? =some u→w1.cell? ((⟨w.heap.size,0,none⟩:Addr).add j)=some u:=fun j u hj=>by
  cases j with
  |zero =>
   obtain rfl:Value.string s=u:=by simpa using hj
   rw [Addr.add_mid];exact hc1
  |succ j=>simp at hj
 obtain ⟨v',w',hr,h2,h3,h5⟩:=app_at (P:=Tryz.prog) w1 B 113 113 9 i _ 1 16 Tryz.underlying113 hi hz hs hby rfl (by decide) v _ (L.map Value.string) own1 ⟨w.heap.size,0,none⟩ 1 1 [.string s] (by simp) hnews (by intro u hu;rw [List.mem_singleton.1 hu];rfl) (by unfold maxLen;simp;omega) (by simp;omega) hB1
 have t2:Tch (fun j=>v.ownBlock=some j) w1 w':=⟨h3.os,h3.tape,h3.output,h3.size,fun j hj hn=>h3.block j hj (fun e=>hn e.symm)⟩
 refine ⟨_,w1,v',w',e1,hr, ?_,(Tch.of_below b1 (fun k hk hb=>by omega)).trans' t2 (fun j _ q=>q)⟩
 unfold OT OwnV
 rw [List.map_append,List.length_append]
 exact h2
theorem OT.cell (own:OT w B v L) {i:Nat} {s:ByteArray} (hi:L[i]? =some s):∃g c,v= .slice (some ⟨g,0,none⟩) L.length c∧B≤g∧v.ownBlock=some g∧(Instr.loadAt 9 (.pointer (some ⟨g,0+i,none⟩))).run Tryz.prog w= .ok (.string s) w:=by
 have hl:i<(L.map Value.string).length:=by rw [List.length_map];exact (List.getElem?_eq_some_iff.1 hi).1
 obtain ⟨bb,c,e,hc⟩:=OwnV.form own hl
 rw [List.length_map] at e
 have he:(L.map Value.string)[i]= .string s:=by rw [List.getElem_map,(List.getElem?_eq_some_iff.1 hi).2]
 rw [he] at hc
 refine ⟨bb,c,e,(OwnV.ge own bb (by rw [e];rfl)).1,by rw [e];rfl, ?_⟩
 rw [Nat.zero_add]
 go_simp
theorem OT.cellB (own:OT w B v L) {i:Nat} {s:ByteArray} (hi:L[i]? =some s):∃g c,v= .slice (some ⟨g,0,none⟩) L.length c∧B≤g∧v.ownBlock=some g∧∀W,Below w.heap.size w W→(Instr.loadAt 9 (.pointer (some ⟨g,0+i,none⟩))).run Tryz.prog W= .ok (.string s) W:=by
 obtain ⟨g,c,e,hg,hv,_⟩:=own.cell hi
 refine ⟨g,c,e,hg,hv,fun W b=> ?_⟩
 obtain ⟨g2,c2,e2,_,_,h2⟩:=(own.below b).cell hi
 rw [e] at e2
 cases e2
 exact h2
theorem OT.set (own:OT w B v L) {g n c:Nat} (ev:v= .slice (some ⟨g,0,none⟩) n c) {i:Nat} (hi:i<L.length) (t:ByteArray) :
 ∃w',(Instr.storeAt 9 (.pointer (some ⟨g,0+i,none⟩)) (.string t)).run Tryz.prog w= .ok () w'∧OT w' B v (L.set i t)∧Tch (fun j=>j=g) w w':=by
 rcases own.2 with ⟨e,hz⟩|⟨gb,cap,cur,e,hbg,hg,hnc,hcm,hcs,htake⟩
 ·rw [List.length_map] at hz;omega
 ·rw [ev] at e
  injection e with e1 e2 e3
  injection e1 with e1
  injection e1 with e1
  subst e1
  rw [List.length_map] at e2 hnc
  rw [List.length_map,Nat.mul_one] at htake
  have hl:i<cur.size:=by rw [hcs];omega
  obtain ⟨u,hu⟩:∃u,L[i]? =some u:=⟨_,List.getElem?_eq_getElem hi⟩
  have hcell:w.cell? ⟨g,i,none⟩=some (.string u):=by
   rw [cell_of_row w g i cur 9 (0,0) hg]
   have h1:(L.map Value.string)[i]? =some (.string u):=by rw [List.getElem?_map,hu];rfl
   rw [←htake,List.getElem?_take,if_pos hi] at h1
   simpa using h1
  have hf:=frozen_of_row w g i _ _ hg
  have es:(Instr.storeAt 9 (.pointer (some ⟨g,0+i,none⟩)) (.string t)).run Tryz.prog w= .ok () (w.setCell ⟨g,i,none⟩ (.string t)):=by
   rw [Nat.zero_add]
   go_simp
  refine ⟨_,es,⟨by simp, .inr ⟨g,cap,cur.set! i (.string t),by rw [ev,List.length_map,List.length_set,e2,e3],hbg, ?_,by rw [List.length_map,List.length_set];exact hnc,hcm,by simp [hcs], ?_⟩⟩,⟨rfl,rfl,rfl,by simp [World.setCell],fun j _ hj=>Go.heap_setCell_other _ _ _ _ hj⟩⟩
  ·obtain ⟨hl2,hv⟩:=Array.getElem?_eq_some_iff.1 hg
   simp [World.setCell,hl2,Array.getElem_modify_self,hv]
  ·rw [List.length_map,List.length_set,Nat.mul_one,List.map_set, ←htake]
   simp [Array.set!,List.take_set]
end
theorem ix_t {b o m c i:Nat} (hi:i<m) (hm:m≤9223372036854775807) (W:World):(Instr.indexAt 113 (.slice (some ⟨b,o,none⟩) m c) (.int .i64 (i:Int))).run Tryz.prog W= .ok (.pointer (some ⟨b,o+i,none⟩)) W:=by go_simp
def ltS (a b:ByteArray):Bool:=Op.bytesLess a.toList b.toList
theorem lt_tx (s t:ByteArray) (x y:Operand) (w:World):(do eqGuard .lss 9 x y (.string s) (.string t);binOp .lss 9 (.string s) (.string t):Sem Value).run Tryz.prog w= .ok (.bool (ltS s t)) w :=
 bo rfl (by rw [binOp_string_lss];rfl)
theorem eq_tx (s t:ByteArray) (x y:Operand) (w:World):(do eqGuard .eql 9 x y (.string s) (.string t);binOp .eql 9 (.string s) (.string t):Sem Value).run Tryz.prog w= .ok (.bool (decide (s=t))) w:=by
 refine bo rfl ?_
 have h:(binOp .eql 9 (.string s) (.string t)).run Tryz.prog w= .ok (.bool (s.toList==t.toList)) w:=rfl
 rw [h]
 congr 2
 rw [Bool.eq_iff_iff]
 simp only [beq_iff_eq,decide_eq_true_eq]
 exact ⟨ba_inj,fun e=>by rw [e]⟩
theorem pn_ne (b:Nat) (x y:Operand) (w:World):(do eqGuard .neq 29 x y (.pointer (some ⟨b,0,none⟩)) (.pointer none);binOp .neq 29 (.pointer (some ⟨b,0,none⟩)) (.pointer none):Sem Value).run Tryz.prog w= .ok (.bool true) w:=by
 refine bo rfl ?_
 go_simp
theorem ltS_irr (a:ByteArray):ltS a a=false:=bl_irrefl _
theorem ltS_tr {a b c:ByteArray} (h:ltS a b=true) (k:ltS b c=true):ltS a c=true:=bl_trans h k
theorem ltS_tot {a b:ByteArray} (h:ltS a b=false) (k:ltS b a=false):a=b:=ba_inj (bl_total h k)
def Srt (l:List ByteArray):Prop:=l.Pairwise (fun a b=>ltS a b=true)
def AtN (l:List ByteArray) (s:ByteArray) (a:Nat):Prop:=a≤l.length∧(∀j x,j<a→l[j]? =some x→ltS x s=true)∧(∀x,l[a]? =some x→ltS x s=false)
def insN (l:List ByteArray) (a:Nat) (s:ByteArray):List ByteArray:=if l[a]? =some s then l else l.take a++s::l.drop a
theorem insN_mem (l:List ByteArray) (a:Nat) (s t:ByteArray):t∈insN l a s↔t∈l∨t=s:=by
 unfold insN
 by_cases h:l[a]? =some s
 ·rw [if_pos h]
  constructor
  ·exact .inl
  ·rintro (q|rfl)
   ·exact q
   ·exact List.mem_of_getElem? h
 ·rw [if_neg h]
  rw [List.mem_append,List.mem_cons]
  have e:t∈l↔t∈l.take a∨t∈l.drop a:=by rw [←List.mem_append,List.take_append_drop]
  rw [e]
  constructor
  ·rintro (q|q|q)
   ·exact .inl (.inl q)
   ·exact .inr q
   ·exact .inl (.inr q)
  ·rintro ((q|q)|q)
   ·exact .inl q
   ·exact .inr (.inr q)
   ·exact .inr (.inl q)
theorem insN_srt {l:List ByteArray} {a:Nat} {s:ByteArray} (h:Srt l) (q:AtN l s a):Srt (insN l a s):=by
 unfold insN
 by_cases e:l[a]? =some s
 ·rw [if_pos e];exact h
 ·rw [if_neg e]
  unfold Srt at *
  rw [List.pairwise_append,List.pairwise_cons]
  have h2:=h
  rw [←List.take_append_drop a l,List.pairwise_append] at h2
  have lo:∀x∈l.take a,ltS x s=true:=fun x hx=>by
   obtain ⟨j,hj⟩:=List.getElem?_of_mem hx
   rw [List.getElem?_take] at hj
   split at hj
   ·next hja=>exact q.2.1 j x hja hj
   ·cases hj
  have hi:∀x∈l.drop a,ltS s x=true:=fun x hx=>by
   obtain ⟨y,hy⟩:∃y,l[a]? =some y:=by
      cases ey:l[a]? with
      |some y=>exact ⟨y,rfl⟩
      |none =>
       have:l.drop a=[]:=by rw [List.drop_eq_nil_iff];exact List.getElem?_eq_none_iff.1 ey
       rw [this] at hx;cases hx
   have h1:=q.2.2 y hy
   have sy:ltS s y=true:=by
      cases e2:ltS s y with
      |true=>rfl
      |false=>exact absurd (by rw [hy,ltS_tot h1 e2]) e
   rw [List.drop_eq_getElem_cons (List.getElem?_eq_some_iff.1 hy).1,(List.getElem?_eq_some_iff.1 hy).2] at hx
   rcases List.mem_cons.1 hx with rfl|hx
   ·exact sy
   ·have h3:=h2.2.1
    rw [List.drop_eq_getElem_cons (List.getElem?_eq_some_iff.1 hy).1,(List.getElem?_eq_some_iff.1 hy).2,List.pairwise_cons] at h3
    exact ltS_tr sy (h3.1 x hx)
  exact ⟨h2.1,⟨hi,h2.2.1⟩,fun x hx y hy=>by
   rcases List.mem_cons.1 hy with rfl|hy
   ·exact lo x hx
   ·exact h2.2.2 x hx y hy⟩
theorem insN_len (l:List ByteArray) (a:Nat) (s:ByteArray):(insN l a s).length≤l.length+1:=by
 unfold insN
 split
 ·omega
 ·simp only [List.length_append,List.length_cons,List.length_take,List.length_drop];omega
structure NamesIs (L:List MkV) (l:List ByteArray):Prop where
 srt:Srt l
 mem:∀s,s∈l↔ ∃x∈L,x.nm=s
 len:l.length≤L.length
theorem NamesIs.nil:NamesIs [] []:=⟨List.Pairwise.nil,fun s=>by simp,Nat.le_refl _⟩
theorem NamesIs.snoc {L:List MkV} {l:List ByteArray} (h:NamesIs L l) {x:MkV} {a:Nat} (q:AtN l x.nm a):NamesIs (L++[x]) (insN l a x.nm):=by
 refine ⟨insN_srt h.srt q,fun s=> ?_, ?_⟩
 ·rw [insN_mem,h.mem]
  constructor
  ·rintro (⟨y,hy,e⟩|e)
   ·exact ⟨y,by simp [hy],e⟩
   ·exact ⟨x,by simp,e.symm⟩
  ·rintro ⟨y,hy,e⟩
   rcases List.mem_append.1 hy with hy|hy
   ·exact .inl ⟨y,hy,e⟩
   ·rw [List.mem_singleton.1 hy] at e;exact .inr e.symm
 ·have:=insN_len l a x.nm
  have:=h.len
  simp;omega
theorem sh_step {α:Type} {l:List α} {k:Nat} {z:α} (hz:l[k]? =some z) (y:α):(l.take (k+1)++y::l.drop (k+1)).set (k+1) z=l.take k++z::l.drop k:=by
 have hk:=(List.getElem?_eq_some_iff.1 hz).1
 have l1:(l.take (k+1)).length=k+1:=by simp;omega
 rw [List.set_append_right _ _ (by omega),l1,Nat.sub_self]
 show l.take (k+1)++z::l.drop (k+1)=_
 rw [List.take_add_one,hz,List.drop_eq_getElem_cons hk,(List.getElem?_eq_some_iff.1 hz).2]
 simp
theorem sh_get {α:Type} {l:List α} {k:Nat} (hk:k<l.length) (y:α):(l.take (k+1)++y::l.drop (k+1))[k]? =l[k]? :=by
 rw [List.getElem?_append_left (by simp;omega),List.getElem?_take,if_pos (by omega)]
theorem sh_last {α:Type} {l:List α} {a:Nat} (ha:a≤l.length) (y x:α):(l.take a++y::l.drop a).set a x=l.take a++x::l.drop a:=by
 have l1:(l.take a).length=a:=by simp;omega
 rw [List.set_append_right _ _ (by omega),l1,Nat.sub_self]
 rfl
theorem sh_len {α:Type} {l:List α} {k:Nat} (hk:k≤l.length) (y:α):(l.take k++y::l.drop k).length=l.length+1:=by simp;omega
end Go.Proofs.YtifendlpeebofaaGreatDoor
