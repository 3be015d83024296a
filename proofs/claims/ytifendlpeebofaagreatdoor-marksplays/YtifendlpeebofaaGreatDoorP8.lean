import Derived.Test.YtifendlpeebofaaGreatDoorP7
import Derived.Test.YtifendlpeebofaaGreatDoorP4
import Derived.Test.YtifendlpeebofaaGreatDoorP5
import Derived.Test.YtifendlpeebofaaGreatDoorP0
import Derived.Test.YtifendlpeebofaaGreatDoorP3
import Derived.Laws.Externs
import Derived.MapKept
set_option linter.unusedSimpArgs false
set_option linter.unusedVariables false
set_option maxRecDepth 100000
set_option maxHeartbeats 4000000
namespace Go.Proofs.YtifendlpeebofaaGreatDoor
open Go.RowKit Sq
attribute [local go_sem] Oper.semAt_some
theorem lt_r {s t:ByteArray} {r:Bool} (h:ltS s t=r) (x y:Operand) (w:World):(do eqGuard .lss 9 x y (.string s) (.string t);binOp .lss 9 (.string s) (.string t):Sem Value).run Tryz.prog w= .ok (.bool r) w:=h▸lt_tx s t x y w
theorem eq_r {s t:ByteArray} {r:Bool} (h:decide (s=t)=r) (x y:Operand) (w:World):(do eqGuard .eql 9 x y (.string s) (.string t);binOp .eql 9 (.string s) (.string t):Sem Value).run Tryz.prog w= .ok (.bool r) w:=h▸eq_tx s t x y w
theorem wrap_i {z:Int} (h: -9223372036854775808≤z∧z≤9223372036854775807):IntKind.i64.wrap z=z:=by rw [IntKind.wrap_i64];omega
structure RkH (w:World) (r:Rx) (a:Option Addr) (c:Nat):Prop where
 ld:∀W,Below w.heap.size w W→(Instr.loadAt 88 (.pointer (some ⟨r.rb,0+0,none⟩))).run Tryz.prog W= .ok (.slice a r.L.length c) W
 row:∀W,Below w.heap.size w W→∀(i:Nat) (x:MkV),r.L[i]? =some x→x.ok∧∃g o,a=some ⟨g,o,none⟩∧W.rangeAt g (o+105*i) x.c
theorem RkAt.hid {w:World} {base:Nat} {r:Rx} (h:RkAt w base r):∃a c,RkH w r a c:=by
 obtain ⟨a,c,e,hat⟩:=h.sl
 refine ⟨a,c,fun W b=>by rw [←e];exact (h.below b).ldl,fun W b i x hi=>⟨h.ok x (List.mem_of_getElem? hi), ?_⟩⟩
 rcases hat.below b with q|⟨g,o,e2,hl,h2⟩
 ·rw [q] at hi;cases hi
 ·exact ⟨g,o,e2,h2 i x hi⟩
structure NmI (w:World) (L:List MkV) (i:Nat) (l:List ByteArray) (lv:Value) (W:World):Prop where
 own:OT W w.heap.size lv l
 is:NamesIs (L.take i) l
 bel:Below w.heap.size w W
set_option maxHeartbeats 8000000 in
theorem names_any {w:World} {base:Nat} {r:Rx} (h:RkAt w base r) :
 Calls Tryz.prog 60 #[.pointer (some ⟨r.rb,0,none⟩)] w fun e w'=> ∃v l,e= .returned v∧NamesIs r.L l∧OT w' w.heap.size v l∧Below w.heap.size w w':=by
 obtain ⟨a,c,hh⟩:=h.hid
 have HN:=h.n
 have HH:=hidMk hh
 obtain ⟨n,hn⟩:∃n,r.L.length=n:=⟨_,rfl⟩
 have LD:=hidMk hh.ld
 rw [hn] at LD HN
 have HL:=hidMk hn
 clear h hh hn
 go_enter Tryz.func60,Tryz.ntmps60
 go_wp2
 go_loopw [3,4] (fun v3 v4 wr=> ∃(i:Nat) (l:List ByteArray),v4= .int .i64 (i:Int)∧i≤n∧Hid (NmI w r.L i l v3 wr)) (fun _ v4 wr=>n-(match v4 with | .int _ i=>i.toNat|_=>0))
 case atStart=>exact ⟨0,[],rfl,Nat.zero_le _,⟨ot_nil _ _,by simpa using NamesIs.nil,Below.refl _ _⟩⟩
 case round =>
  obtain ⟨i,l,rfl,hin,HI⟩:=hrel
  obtain ⟨la,lc,ev⟩:=HI.out.own.sl
  have hll:l.length≤n:=by have:=HI.out.is.len;rw [List.length_take] at this;have:=HL.out;omega
  obtain ⟨ln,hln⟩:∃k,l.length=k:=⟨_,rfl⟩
  rw [hln] at ev hll
  subst ev
  by_cases hi:i<n
  ·have ci:decide ((i:Int)<(n:Int))=true:=decide_eq_true (by omega)
   obtain ⟨x,hx⟩:∃x,r.L[i]? =some x:=⟨_,List.getElem?_eq_getElem (by rw [HL.out];exact hi)⟩
   go_upto_region 3 with fail
   refine En.zq tab rfl (En.st (pn_ne _ _ _ _) (En.st (LD.out _ HI.out.bel) (En.cm ci (En.fi ?_))))
   simp only [En.putM,En.puts,Act.put,List.setIfInBounds_toArray,List.set_cons_zero,List.set_cons_succ]
   have HX:=hidMk (And.intro hx hln)
   clear ci hx hln
   go_wp2
   generalize wr=wC at *
   go_loopw [5] (fun v5 wr=> ∃k:Nat,v5= .int .i64 (k:Int)∧k≤ln∧Hid (NmI w r.L i l (.slice la ln lc) wr∧∀j y,j<k→l[j]? =some y→ltS y x.nm=true)) (fun v5 _=>ln-(match v5 with | .int _ i=>i.toNat|_=>0))
   case atStart=>exact ⟨0,rfl,Nat.zero_le _,HI.out,fun j y h=>by omega⟩
   case round =>
        clear HI
        obtain ⟨k,rfl,hk,HJ⟩:=hrel
        have bd:Below wr.heap.size wr wr.drew:=(Below.refl _ _).drew
        have bw:=HJ.out.1.bel.drew
        obtain ⟨hxo,mg,mo,ea,hrm⟩:=HH.out.row _ bw i x HX.out.1
        have LN1:Hid (∀W,Below wr.heap.size wr W→(Instr.loadAt 9 (.pointer (some ⟨mg,mo+105*i+33,none⟩))).run Tryz.prog W= .ok (.string x.nm) W):=fun W b=>by
         obtain ⟨_,g2,o2,e2,h2⟩:=HH.out.row W (HJ.out.1.bel.trans (b.mono HJ.out.1.bel.size)) i x HX.out.1
         rw [ea] at e2
         cases e2
         exact mk_nm hxo h2
        have LA:Hid (∀W,Below wr.heap.size wr W→(Instr.loadAt 88 (.pointer (some ⟨r.rb,0+0,none⟩))).run Tryz.prog W= .ok (.slice (some ⟨mg,mo,none⟩) n c) W):=fun W b=>by
         rw [←ea];exact LD.out _ (HJ.out.1.bel.trans (b.mono HJ.out.1.bel.size))
        have D1:Hid (Below wr.heap.size wr wr.drew):=bd
        have D2:Hid (Below wr.heap.size wr wr.drew.drew):=bd.drew
        have ALT:(∃y,l[k]? =some y∧ltS y x.nm=true)∨(∃y,l[k]? =some y∧ltS y x.nm=false∧y=x.nm)∨(∃y,l[k]? =some y∧ltS y x.nm=false∧y≠x.nm)∨k=ln:=by
         by_cases hkl:k<ln
         ·obtain ⟨y,hy⟩:∃y,l[k]? =some y:=⟨_,List.getElem?_eq_getElem (by rw [HX.out.2];exact hkl)⟩
          cases hq:ltS y x.nm with
          |true=>exact .inl ⟨y,hy,hq⟩
          |false =>
           by_cases e:y=x.nm
           ·exact .inr (.inl ⟨y,hy,hq,e⟩)
           ·exact .inr (.inr (.inl ⟨y,hy,hq,e⟩))
         ·exact .inr (.inr (.inr (by omega)))
        have HXO:=hidMk hxo
        clear hrm bd hxo
        rcases ALT with ⟨y,hy,hq⟩|⟨y,hy,hq,e⟩|hc
        ·have hkl:k<ln:=by rw [←HX.out.2];exact (List.getElem?_eq_some_iff.1 hy).1
         obtain ⟨lg,lc2,e3,_,_,lcc⟩:=HJ.out.1.own.cellB hy
         have LC:=hidMk lcc
         clear lcc
         rw [HX.out.2] at e3
         cases e3
         have c1:decide ((k:Int)<(ln:Int))=true:=decide_eq_true (by omega)
         go_upto_region 6 with fail
         refine En.zy tab [0,1,2,3,4,5,6,7,8,9,10,11,12,13,14,15,16,17,18] 19 (fun W=>W=wr.drew) (hS:=rfl) (h:=En.cm c1 (En.se (ix_t hkl (by omega) _) (En.se (LC.out _ D1.out) (En.se (LA.out _ D1.out) (En.se (ix_rm hi (by omega) _) (En.se (LN1.out _ D1.out) (En.se (lt_r hq _ _ _) (En.fi ?_))))))))
         simp only [En.putM,En.puts,Act.put,List.setIfInBounds_toArray,List.set_cons_zero,List.set_cons_succ]
         have NJ:Hid (NmI w r.L i l (.slice (some ⟨lg,0,none⟩) ln lc) wr.drew∧∀j z,j<k+1→l[j]? =some z→ltS z x.nm=true):=⟨⟨HJ.out.1.own.below ((Below.refl _ _).drew),HJ.out.1.is,bw⟩,fun j z hj hz=>by
          by_cases e:j=k
          ·subst e;rw [hy] at hz;cases hz;exact hq
          ·exact HJ.out.2 j z (by omega) hz⟩
         clear c1 LC hy hq HJ LN1 LA bw D1 D2
         go_wp2
         rw [show ((k:Int)+1)=((k+1:Nat):Int) by omega]
         refine ⟨⟨k+1,rfl,hkl,NJ⟩, ?_⟩
         show ln-((k+1:Nat):Int).toNat<ln-(k:Int).toNat
         omega
        ·have hkl:k<ln:=by rw [←HX.out.2];exact (List.getElem?_eq_some_iff.1 hy).1
         have TK:Hid (NmI w r.L (i+1) l (.slice la ln lc) wr):=⟨HJ.out.1.own,by
          have q:=HJ.out.1.is.snoc (x:=x) (a:=k) ⟨by rw [HX.out.2];exact hk,HJ.out.2,fun z hz=>by rw [hy] at hz;cases hz;exact hq⟩
          unfold insN at q
          rw [if_pos (by rw [hy,e])] at q
          rw [List.take_add_one,HX.out.1]
          exact q,HJ.out.1.bel⟩
         obtain ⟨lg,lc2,e3,_,_,lcc⟩:=HJ.out.1.own.cellB hy
         rw [HX.out.2] at e3
         cases e3
         have LC:=hidMk lcc
         have c1:decide ((k:Int)<(ln:Int))=true:=decide_eq_true (by omega)
         have ED:=decide_eq_true e
         clear HJ hy e lcc
         go_upto_region 6 with fail
         refine En.zy tab [0,1,2,3,4,5,6,7,8,9,10,11,12,13,14,15,16,17,18] 19 (fun W=>W=wr.drew) (hS:=rfl) (h:=(En.cm c1 (En.se (ix_t hkl (by omega) _) (En.se (LC.out _ D1.out) (En.se (LA.out _ D1.out) (En.se (ix_rm hi (by omega) _) (En.se (LN1.out _ D1.out) (En.se (lt_r hq _ _ _) (En.fi ?_)))))))))
         simp only [En.putM,En.puts,Act.put,List.setIfInBounds_toArray,List.set_cons_zero,List.set_cons_succ]
         go_upto_region 8 with fail
         refine En.zy tab [0,1,2,3,4,5,6,7,8,9,10,11,12,13,14,15,16,17,18] 19 (fun W=>W=wr.drew.drew) (hS:=rfl) (h:=(En.cm c1 (En.se (ix_t hkl (by omega) _) (En.se (LC.out _ D2.out) (En.se (LA.out _ D2.out) (En.se (ix_rm hi (by omega) _) (En.se (LN1.out _ D2.out) (En.se (eq_r ED _ _ _) (En.fi ?_)))))))))
         simp only [En.putM,En.puts,Act.put,List.setIfInBounds_toArray,List.set_cons_zero,List.set_cons_succ]
         have T2:Hid (NmI w r.L (i+1) l (.slice (some ⟨lg,0,none⟩) ln lc) wr.drew.drew):=⟨TK.out.own.below ((Below.refl _ _).drew.drew),TK.out.is,bw.drew⟩
         clear c1 LC hq LN1 LA bw TK ED D1 D2
         go_wp2
         rw [show ((i:Int)+1)=((i+1:Nat):Int) by omega]
         refine ⟨⟨i+1,l,rfl,hi,T2⟩, ?_⟩
         show n-((i+1:Nat):Int).toNat<n-(i:Int).toNat
         omega
        ·have NX:Hid (AtN l x.nm k∧insN l k x.nm=l.take k++x.nm::l.drop k):=by
          rcases hc with ⟨y,hy,hq,e⟩|e
          ·exact ⟨⟨by rw [HX.out.2];exact hk,HJ.out.2,fun z hz=>by rw [hy] at hz;cases hz;exact hq⟩,by unfold insN;rw [if_neg (by rw [hy];simpa using e)]⟩
          ·have en:l[k]? =none:=by rw [List.getElem?_eq_none_iff,HX.out.2,e];exact Nat.le_refl _
           exact ⟨⟨by rw [HX.out.2];exact hk,HJ.out.2,fun z hz=>by rw [en] at hz;cases hz⟩,by unfold insN;rw [if_neg (by rw [en];simp)]⟩
         have N2:Hid (NmI w r.L i l (.slice la ln lc) wr.drew.drew):=⟨HJ.out.1.own.below D2.out,HJ.out.1.is,bw.drew⟩
         have LA2:Hid (∀W,Below wr.drew.drew.heap.size wr.drew.drew W→(Instr.loadAt 88 (.pointer (some ⟨r.rb,0+0,none⟩))).run Tryz.prog W= .ok (.slice (some ⟨mg,mo,none⟩) n c) W):=fun W b=>LA.out W (D2.out.trans (b.mono D2.out.size))
         have LN2:Hid (∀W,Below w.heap.size w W→(Instr.loadAt 9 (.pointer (some ⟨mg,mo+105*i+33,none⟩))).run Tryz.prog W= .ok (.string x.nm) W):=fun W b=>by
          obtain ⟨_,g2,o2,e2,h2⟩:=HH.out.row W b i x HX.out.1
          rw [ea] at e2
          cases e2
          exact mk_nm HXO.out h2
         have HC:Hid ((∃y,l[k]? =some y∧ltS y x.nm=false∧y≠x.nm)∨k=ln):=hc
         clear hc bw
         rcases HC.out with ⟨y,hy,hq,e⟩|e
         all_goals first
          |(obtain ⟨lg,lc2,e3,_,_,lcc⟩:=HJ.out.1.own.cellB hy
            rw [HX.out.2] at e3
            cases e3
            have LC:=hidMk lcc
            have hkl:k<ln:=by rw [←HX.out.2];exact (List.getElem?_eq_some_iff.1 hy).1
            have c1:decide ((k:Int)<(ln:Int))=true:=decide_eq_true (by omega)
            have ED:=decide_eq_false e
            clear HJ hy e lcc
            go_upto_region 6 with fail
            refine En.zy tab [0,1,2,3,4,5,6,7,8,9,10,11,12,13,14,15,16,17,18] 19 (fun W=>W=wr.drew) (hS:=rfl) (h:=(En.cm c1 (En.se (ix_t hkl (by omega) _) (En.se (LC.out _ D1.out) (En.se (LA.out _ D1.out) (En.se (ix_rm hi (by omega) _) (En.se (LN1.out _ D1.out) (En.se (lt_r hq _ _ _) (En.fi ?_)))))))))
            simp only [En.putM,En.puts,Act.put,List.setIfInBounds_toArray,List.set_cons_zero,List.set_cons_succ]
            go_upto_region 8 with fail
            refine En.zy tab [0,1,2,3,4,5,6,7,8,9,10,11,12,13,14,15,16,17,18] 19 (fun W=>W=wr.drew.drew) (hS:=rfl) (h:=(En.cm c1 (En.se (ix_t hkl (by omega) _) (En.se (LC.out _ D2.out) (En.se (LA.out _ D2.out) (En.se (ix_rm hi (by omega) _) (En.se (LN1.out _ D2.out) (En.se (eq_r ED _ _ _) (En.fi ?_)))))))))
            simp only [En.putM,En.puts,Act.put,List.setIfInBounds_toArray,List.set_cons_zero,List.set_cons_succ]
            clear c1 hkl LC hq ED)
          |(have c1:decide ((k:Int)<(ln:Int))=false:=decide_eq_false (by omega)
            clear HJ e
            go_upto_region 6 with fail
            refine En.zy tab [0,1,2,3,4,5,6,7,8,9,10,11,12,13,14,15,16,17,18] 19 (fun W=>W=wr.drew) (hS:=rfl) (h:=(En.cm c1 (En.fi ?_)))
            simp only [En.putM,En.puts,Act.put,List.setIfInBounds_toArray,List.set_cons_zero,List.set_cons_succ]
            go_upto_region 8 with fail
            refine En.zy tab [0,1,2,3,4,5,6,7,8,9,10,11,12,13,14,15,16,17,18] 19 (fun W=>W=wr.drew.drew) (hS:=rfl) (h:=(En.cm c1 (En.fi ?_)))
            simp only [En.putM,En.puts,Act.put,List.setIfInBounds_toArray,List.set_cons_zero,List.set_cons_succ]
            clear c1)
         all_goals
          clear LA LN1 D1 D2 HC
          generalize wr.drew.drew=w2 at *
          have hl1:l.length+1≤2000000000000:=by rw [HX.out.2];omega
          obtain ⟨bv,w3,v2,w4,e1,e2,o2,t2⟩:=N2.out.own.push N2.out.bel.size hl1 ⟨#[]⟩
          obtain ⟨lg2,lc2,ev2,hg2,ho2,_⟩:=o2.cell (i:=ln) (s:=⟨#[]⟩) (by rw [List.getElem?_append_right (by rw [HX.out.2];exact Nat.le_refl _),HX.out.2,Nat.sub_self];rfl)
          rw [List.length_append,HX.out.2,show ([⟨#[]⟩]:List ByteArray).length=1 from rfl] at ev2
          subst ev2
          have b4:Below w.heap.size w w4:=N2.out.bel.trans (t2.below N2.out.bel.size (fun j e=>(N2.out.own.ge e)))
          have S0:Hid (∃y0,OT w4 w.heap.size (.slice (some ⟨lg2,0,none⟩) (ln+1) lc2) (l.take ln++y0::l.drop ln)∧Below w.heap.size w w4):=⟨⟨#[]⟩,by
           rw [List.take_of_length_le (by rw [HX.out.2];exact Nat.le_refl _),List.drop_of_length_le (by rw [HX.out.2];exact Nat.le_refl _)];exact o2,b4⟩
          have N3:=hidMk N2.out.is
          have HG2:=hidMk hg2
          clear N2 o2 t2 ho2 b4 hl1 LA2 hg2
          go_upto_region 9 with fail
          refine En.zq tab rfl (En.ef e1 (En.ef e2 (En.fi ?_)))
          simp only [En.putM,En.puts,Act.put,List.setIfInBounds_toArray,List.set_cons_zero,List.set_cons_succ]
          clear e1 e2
          go_upto_region 10 with fail
          refine En.zq tab rfl (En.ar (z:=(ln:Int)) (by rw [wrap_i (by omega)];omega) (En.fi ?_))
          simp only [En.putM,En.puts,Act.put,List.setIfInBounds_toArray,List.set_cons_zero,List.set_cons_succ]
          generalize wr=wD at *
          go_wp2
          go_loopw [6] (fun v6 wr=> ∃q:Nat,v6= .int .i64 (q:Int)∧k≤q∧q≤ln∧Hid (∃y0,OT wr w.heap.size (.slice (some ⟨lg2,0,none⟩) (ln+1) lc2) (l.take q++y0::l.drop q)∧Below w.heap.size w wr)) (fun v6 _=>(match v6 with | .int _ i=>i.toNat|_=>0))
          case atStart=>exact ⟨ln,rfl,hk,Nat.le_refl _,S0⟩
          case round =>
           clear S0
           obtain ⟨q,rfl,hkq,hq,HS⟩:=hrel
           obtain ⟨y0,ho,hb⟩:=HS.out
           by_cases hc:k<q
           ·obtain ⟨j,rfl⟩:∃j,q=j+1:=⟨q-1,by omega⟩
            obtain ⟨z,hz⟩:∃z,l[j]? =some z:=⟨_,List.getElem?_eq_getElem (by rw [HX.out.2];omega)⟩
            obtain ⟨g3,c3,e3,_,_,lz⟩:=ho.cell (i:=j) (s:=z) (by rw [sh_get (by rw [HX.out.2];omega)];exact hz)
            obtain ⟨wn,es,on,tn⟩:=ho.set rfl (i:=j+1) (by rw [sh_len (by rw [HX.out.2];exact hq),HX.out.2];omega) z
            rw [sh_step hz] at on
            rw [sh_len (by rw [HX.out.2];exact hq),HX.out.2] at e3
            cases e3
            have NS:Hid (∃y0,OT wn w.heap.size (.slice (some ⟨lg2,0,none⟩) (ln+1) lc2) (l.take j++y0::l.drop j)∧Below w.heap.size w wn):=⟨z,on,hb.trans (tn.below hb.size (fun j e=>by rw [e];exact HG2.out))⟩
            have c1:decide (((j+1:Nat):Int)>(k:Int))=true:=decide_eq_true (by omega)
            clear HS ho hb hz on tn
            go_upto_region 11 with fail
            refine En.zq tab rfl (En.cm c1 (En.fi ?_))
            simp only [En.putM,En.puts,Act.put,List.setIfInBounds_toArray,List.set_cons_zero,List.set_cons_succ]
            clear c1
            go_upto_region 13 with fail
            refine En.zq tab rfl (En.ar (z:=(j:Int)) (by rw [wrap_i (by omega)];omega) (En.st (ix_t (show j<ln+1 by omega) (by omega) _) (En.st lz (En.st (ix_t (show j+1<ln+1 by omega) (by omega) _) (En.eu es (En.fi ?_))))))
            simp only [En.putM,En.puts,Act.put,List.setIfInBounds_toArray,List.set_cons_zero,List.set_cons_succ]
            clear lz es
            go_upto_region 12 with fail
            refine En.zq tab rfl (En.ar (z:=(j:Int)) (by rw [wrap_i (by omega)];omega) (En.fi ?_))
            simp only [En.putM,En.puts,Act.put,List.setIfInBounds_toArray,List.set_cons_zero,List.set_cons_succ]
            go_wp2
            refine ⟨⟨j,rfl,by omega,by omega,NS⟩, ?_⟩
            show (j:Int).toNat<((j+1:Nat):Int).toNat
            omega
           ·obtain rfl:q=k:=by omega
            have c1:decide ((q:Int)>(q:Int))=false:=decide_eq_false (by omega)
            go_upto_region 11 with fail
            refine En.zq tab rfl (En.cm c1 (En.fi ?_))
            simp only [En.putM,En.puts,Act.put,List.setIfInBounds_toArray,List.set_cons_zero,List.set_cons_succ]
            clear c1
            obtain ⟨wn,es,on,tn⟩:=ho.set rfl (i:=q) (by rw [sh_len (by rw [HX.out.2];exact hq),HX.out.2];omega) x.nm
            rw [sh_last (by rw [HX.out.2];exact hq), ←NX.out.2] at on
            have FN:Hid (NmI w r.L (i+1) (insN l q x.nm) (.slice (some ⟨lg2,0,none⟩) (ln+1) lc2) wn):=⟨on,by
                rw [List.take_add_one,HX.out.1]
                exact N3.out.snoc NX.out.1,hb.trans (tn.below hb.size (fun j e=>by rw [e];exact HG2.out))⟩
            have LA3:=LD.out _ hb
            rw [ea] at LA3
            have LN3:=LN2.out _ hb
            clear HS ho hb on tn
            go_upto_region 14 with fail
            refine En.zq tab rfl (En.st LA3 (En.st (ix_rm hi (by omega) _) (En.st LN3 (En.st (ix_t (show q<ln+1 by omega) (by omega) _) (En.eu es (En.fi ?_))))))
            simp only [En.putM,En.puts,Act.put,List.setIfInBounds_toArray,List.set_cons_zero,List.set_cons_succ]
            clear LA3 LN3 es
            go_wp2
            rw [show ((i:Int)+1)=((i+1:Nat):Int) by omega]
            refine ⟨⟨i+1,_,rfl,hi,FN⟩, ?_⟩
            show n-((i+1:Nat):Int).toNat<n-(i:Int).toNat
            omega
  ·obtain rfl:i=n:=by omega
   have ci:decide ((i:Int)<(i:Int))=false:=decide_eq_false (by omega)
   go_upto_region 3 with fail
   refine En.zq tab rfl (En.st (pn_ne _ _ _ _) (En.st (LD.out _ HI.out.bel) (En.cm ci (En.fi ?_))))
   simp only [En.putM,En.puts,Act.put,List.setIfInBounds_toArray,List.set_cons_zero,List.set_cons_succ]
   clear ci
   go_wp2
   go_ret
   refine ⟨_,l,rfl, ?_,HI.out.own,HI.out.bel⟩
   have:=HI.out.is
   rwa [List.take_of_length_le (by rw [HL.out];exact Nat.le_refl _)] at this
attribute [local go_sem] Oper.semAt_some
theorem loadVar_va {w:World} {b:Nat} {x:VaV} (h:VaAt w b x):(loadVar 40 ⟨b,0,none⟩).run Tryz.prog w= .ok x.v w :=
 run_loadVar_mid (P:=Tryz.prog) w b 0 40 x.c _ (cells_range h) Tryz.underlying40 rfl (by rw [VaV.len];exact szVa)
theorem store_va {w:World} {b:Nat} {x u:VaV} (h:VaAt w b x):(Instr.storeAt 40 (.pointer (some ⟨b,0,none⟩)) u.v).run Tryz.prog w= .ok () (w.setRow b u.c.toArray):=by
 have e2:=run_storeVar_row (P:=Tryz.prog) w b 40 40 x.c.toArray u.c.toArray h (by rw [List.size_toArray,VaV.len];exact szVa)
  (by rw [List.size_toArray,List.size_toArray,VaV.len,VaV.len]) (by rw [List.all_toArray,List.all_eq_true];exact u.one)
 simp only [Instr.storeAt,Instr.sureAddr,Sem.run_bind,Sem.run_pure,Result.andThen_ok,VaV.v,e2]
theorem VaAt.set {w:World} {b:Nat} {x:VaV} (u:VaV) (h:VaAt w b x):VaAt (w.setRow b u.c.toArray) b u:=setRow_heap w b _ _ _ _ h
theorem va_zero (w:World):(Instr.alloc 40 true (.tuple #[])).run Tryz.prog w= .ok (.pointer (some ⟨w.heap.size,0,none⟩)) (w.alloc (.cells zVa.c.toArray 40)):=by kernel_rfl
theorem build_va (w:World):(Instr.build 40 #[]).run Tryz.prog w= .ok zVa.v w:=by kernel_rfl
def PD (E:List Elt) (nm:ByteArray) (e:Int) (x:MkV):Bool:=decide (x.nm=nm)&&covD E x e
def hoD (E:List Elt) (L:List MkV) (nm:ByteArray) (e:Int):VaV × Bool:=match (L.filter (PD E nm e)).getLast? with
 |some x=>(x.v, !decide (x.v.k=0))
 |none=>(zVa,false)
theorem hoD_at {E:List Elt} {L:List MkV} {nm:ByteArray} {e:Int} {i:Nat} {x:MkV} (hi:L[i]? =some x) (hx:PD E nm e x=true) (hno:∀j y,i+1≤j→L[j]? =some y→PD E nm e y=false):hoD E L nm e=(x.v, !decide (x.v.k=0)):=by
 have e1:L=L.take i++x::L.drop (i+1):=by
  have hl:=(List.getElem?_eq_some_iff.1 hi)
  rw [←hl.2,List.getElem_cons_drop,List.take_append_drop]
 have e2:(L.drop (i+1)).filter (PD E nm e)=[]:=List.filter_eq_nil_iff.2 fun y hy=>by
  obtain ⟨j,hj⟩:=List.getElem?_of_mem hy
  rw [List.getElem?_drop] at hj
  rw [hno _ y (by omega) hj];simp
 have e3:(L.filter (PD E nm e)).getLast?=some x:=by
  rw [e1,List.filter_append,List.filter_cons,if_pos hx,e2]
  simp
 unfold hoD
 rw [e3]
theorem hoD_no {E:List Elt} {L:List MkV} {nm:ByteArray} {e:Int} (hno:∀j y,0≤j→L[j]? =some y→PD E nm e y=false):hoD E L nm e=(zVa,false):=by
 have e2:L.filter (PD E nm e)=[]:=List.filter_eq_nil_iff.2 fun y hy=>by
  obtain ⟨j,hj⟩:=List.getElem?_of_mem hy
  rw [hno _ y (by omega) hj];simp
 unfold hoD
 rw [e2]
 rfl
set_option maxHeartbeats 8000000 in
theorem holds_any {w:World} {base:Nat} {r:Rx} (h:RkAt w base r) (h3:∀x∈r.L,0≤x.sd∧x.sd≤3) {la:Option Addr} {lc:Nat} {E:List Elt} (hat:RE.At w la E) (ok:∀e∈E,RE.ok e) (hs:SeqOk E) (hl:E.length≤1400000000000) (nm:ByteArray) (e:Int) :
 Calls Tryz.prog 61 #[.pointer (some ⟨r.rb,0,none⟩), .string nm, .slice la E.length lc, .int .i64 e] w fun en w'=>en= .returned (.tuple #[(hoD E r.L nm e).1.v, .bool (hoD E r.L nm e).2])∧Below w.heap.size w w':=by
 obtain ⟨a,c,hh⟩:=h.hid
 have HN:=h.n
 have HH:=hidMk hh
 have H3:=hidMk h3
 obtain ⟨n,hn⟩:∃n,r.L.length=n:=⟨_,rfl⟩
 have LD:=hidMk hh.ld
 rw [hn] at LD HN
 have HL:=hidMk hn
 have CV:Hid (∀W,Below w.heap.size w W→∀x:MkV,x.ok→0≤x.sd∧x.sd≤3→Calls Tryz.prog 87 #[x.a, .slice la E.length lc, .int .i64 e] W fun en w'=>en= .returned (.bool (covD E x e))∧Below W.heap.size W w'):=fun W b x hx q=>rcovers_any (hat.below b) ok hs hl hx q e
 obtain ⟨m,hm⟩:∃m,E.length=m:=⟨_,rfl⟩
 rw [hm] at CV ⊢
 have HO:Hid (∀p,p=hoD E r.L nm e→(Ending.returned (.tuple #[(hoD E r.L nm e).1.v, .bool (hoD E r.L nm e).2])=Ending.returned (.tuple #[p.1.v, .bool p.2]))):=fun p e=>by rw [e]
 generalize (Ending.returned (.tuple #[(hoD E r.L nm e).1.v, .bool (hoD E r.L nm e).2]))=res at *
 have bx:Below w.heap.size w (w.alloc (.cells zVa.c.toArray 40)):=(Below.refl _ _).alloc (Nat.le_refl _) _
 have hv:VaAt (w.alloc (.cells zVa.c.toArray 40)) w.heap.size zVa:=heap_alloc_new _ _
 clear h hh hn hat ok hs hl hm h3
 go_enter Tryz.func61,Tryz.ntmps61
 go_upto_region 0 with fail
 refine En.zq tab rfl (En.ef (va_zero _) (En.fi ?_))
 simp only [En.putM,En.puts,Act.put,List.setIfInBounds_toArray,List.set_cons_zero,List.set_cons_succ]
 obtain ⟨vb,hvb⟩:∃b,w.heap.size=b:=⟨_,rfl⟩
 generalize w.alloc (.cells zVa.c.toArray 40)=w1 at *
 have I0:Hid ((∃y,VaAt w1 vb y)∧Below w.heap.size w w1):=⟨⟨zVa,by rw [←hvb];exact hv⟩,bx⟩
 have HVB:=hidMk hvb
 rw [hvb]
 clear bx hv hvb
 go_upto_region 1 with fail
 refine En.zq tab rfl (En.st (LD.out _ I0.out.2) (En.ar (z:=(n:Int)-1) (wrap_i (by omega)) (En.fi ?_)))
 simp only [En.putM,En.puts,Act.put,List.setIfInBounds_toArray,List.set_cons_zero,List.set_cons_succ]
 go_wp2
 go_loopw [10] (fun v10 wr=> ∃k:Nat,v10= .int .i64 ((k:Int)-1)∧k≤n∧Hid ((∃y,VaAt wr vb y)∧Below w.heap.size w wr)∧Hid (∀j y,k≤j→r.L[j]? =some y→PD E nm e y=false)) (fun v10 _=>(match v10 with | .int _ i=>(i+1).toNat|_=>0))
 case atStart=>exact ⟨n,rfl,Nat.le_refl _,I0,fun j y h1 h2=>by have:=(List.getElem?_eq_some_iff.1 h2).1;have:=HL.out;omega⟩
 case round =>
  clear I0
  obtain ⟨k,rfl,hk,HI,HQ⟩:=hrel
  rcases Nat.eq_zero_or_pos k with rfl|hpos
  ·have c1:decide (((0:Nat):Int)-1≥0)=false:=decide_eq_false (by omega)
   go_upto_region 2 with fail
   refine En.zq tab rfl (En.cm c1 (En.fi ?_))
   simp only [En.putM,En.puts,Act.put,List.setIfInBounds_toArray,List.set_cons_zero,List.set_cons_succ]
   have EQ:=HO.out _ (hoD_no HQ.out).symm
   obtain ⟨⟨y,hy⟩,hb⟩:=HI.out
   have hy2:=hy.set zVa
   have b2:Below w.heap.size w (wr.setRow vb zVa.c.toArray):=hb.trans (set_below _ hb.size (by rw [HVB.out];exact Nat.le_refl _))
   have ST:=store_va (u:=zVa) hy
   have HE:=hidMk (And.intro EQ (And.intro hy2 b2))
   clear c1 EQ hy hb hy2 b2 HQ HI
   go_upto_region 6 with fail
   refine En.zq tab rfl (En.st (build_va _) (En.eu ST (En.fi ?_)))
   simp only [En.putM,En.puts,Act.put,List.setIfInBounds_toArray,List.set_cons_zero,List.set_cons_succ]
   clear ST
   go_wp2
   refine bodyPost_ret (results_c2 rfl rfl (loadVar_va HE.out.2.1)) rfl ?_
   exact ⟨HE.out.1.symm,HE.out.2.2⟩
  ·obtain ⟨i,rfl⟩:∃i,k=i+1:=⟨k-1,by omega⟩
   rw [show (((i+1:Nat):Int)-1)=(i:Int) by omega]
   have c1:decide ((i:Int)≥0)=true:=decide_eq_true (by omega)
   obtain ⟨x,hx⟩:∃x,r.L[i]? =some x:=⟨_,List.getElem?_eq_getElem (by rw [HL.out];omega)⟩
   obtain ⟨hxo,g,o,ea,hr⟩:=HH.out.row _ HI.out.2 i x hx
   have LA:=hidMk (LD.out _ HI.out.2)
   rw [ea] at LA
   have hi:i<n:=by omega
   go_upto_region 2 with fail
   refine En.zq tab rfl (En.cm c1 (En.fi ?_))
   simp only [En.putM,En.puts,Act.put,List.setIfInBounds_toArray,List.set_cons_zero,List.set_cons_succ]
   clear c1
   have HX:=hidMk (And.intro hx (And.intro hxo ea))
   by_cases e1:x.nm=nm
   ·have ED:=decide_eq_true e1
    have LN:=mk_nm hxo hr
    have LM:(Instr.loadAt 99 (.pointer (some ⟨g,o+105*i,none⟩))).run Tryz.prog wr= .ok x.a wr:=RowT.ld RR_is hxo hr
    have CC:=CV.out _ HI.out.2 x hxo (H3.out x (List.mem_of_getElem? hx))
    obtain ⟨b,hb⟩:∃b,covD E x e=b:=⟨_,rfl⟩
    rw [hb] at CC
    have HB:=hidMk (And.intro hb e1)
    clear hb e1 hx hxo ea hr
    go_upto_region 4 with fail
    refine En.zq tab rfl (En.st LA.out (En.st (ix_rm hi (by omega) _) (En.st LN (En.st (eq_r ED _ _ _) (En.st LA.out (En.st (ix_rm hi (by omega) _) (En.st LM (En.ca CC ?_))))))))
    rintro _ w2 ⟨rfl,b2⟩
    refine ⟨_,rfl,En.fi ?_⟩
    simp only [En.putM,En.puts,Act.put,List.setIfInBounds_toArray,List.set_cons_zero,List.set_cons_succ]
    have B2:Hid ((∃y,VaAt w2 vb y)∧Below w.heap.size w w2):=by
     obtain ⟨⟨y,hy⟩,hb⟩:=HI.out
     exact ⟨⟨y,hy.below b2⟩,hb.trans (b2.mono hb.size)⟩
    clear ED LN LM CC b2 HI LA
    cases b with
    |true =>
     have EQ:=HO.out _ (hoD_at HX.out.1 (by unfold PD;rw [HB.out.1,HB.out.2];simp) HQ.out).symm
     have HE:=hidMk EQ
     have LL:Hid (∀W,Below w.heap.size w W→(Instr.loadAt 88 (.pointer (some ⟨r.rb,0+0,none⟩))).run Tryz.prog W= .ok (.slice (some ⟨g,o,none⟩) n c) W):=fun W b=>by rw [←HX.out.2.2];exact LD.out W b
     have LV:Hid (∀W,Below w.heap.size w W→(Instr.loadAt 40 (.pointer (some ⟨g,o+105*i+34,none⟩))).run Tryz.prog W= .ok x.v.v W∧(Instr.loadAt 37 (.pointer (some ⟨g,o+105*i+34+0,none⟩))).run Tryz.prog W= .ok (.int .u8 x.v.k) W):=fun W b=>by
      obtain ⟨_,g2,o2,e2,h2⟩:=HH.out.row W b i x HX.out.1
      rw [HX.out.2.2] at e2
      cases e2
      refine ⟨mk_v HX.out.2.1 h2, ?_⟩
      have hc:=mk_kc HX.out.2.1 h2
      go_simp
     obtain ⟨q,hq⟩:∃q,(!decide (x.v.k=0))=q:=⟨_,rfl⟩
     obtain ⟨⟨y,hy⟩,hb⟩:=B2.out
     have hyd:VaAt w2.drew vb y:=hy
     have b5:Below w.heap.size w w2.drew:=hb.drew
     have ST:=store_va (u:=x.v) hyd
     have hy2:=hyd.set x.v
     have b6:Below w.heap.size w (w2.drew.setRow vb x.v.c.toArray):=b5.trans (set_below _ b5.size (by rw [HVB.out];exact Nat.le_refl _))
     have HF:=hidMk (And.intro hy2 b6)
     rw [hq] at HE
     clear EQ hy hb hyd hy2 HQ B2
     go_upto_region 5 with fail
     refine En.zy tab [0,1,2,3,4,5,6,7,8,9,10,11,12,13,14,15,16,17,18,19] 20 (fun W=>Below w.heap.size w W) (hS:=b5) (h:=En.sty (fun W b=>LL.out W b) (En.sty (fun W b=>ix_rm hi (by omega) W) (En.sty (fun W b=>(LV.out W b).1) (En.sty (fun W b=>LL.out W b) (En.sty (fun W b=>ix_rm hi (by omega) W) (En.sty (fun W b=>(LV.out W b).2) (En.cm hq (En.euy ST b6 (En.fi ?_)))))))))
     simp only [En.putM,En.puts,Act.put,List.setIfInBounds_toArray,List.set_cons_zero,List.set_cons_succ]
     clear LL LV ST b5 b6 hq
     go_wp2
     refine bodyPost_ret (results_c2 rfl rfl (loadVar_va HF.out.1)) rfl ?_
     exact ⟨HE.out.symm,HF.out.2⟩
    |false =>
     have HR:Hid (∀j y,i≤j→r.L[j]? =some y→PD E nm e y=false):=fun j y h1 h2=>by
      by_cases q:j=i
      ·subst q
       rw [HX.out.1] at h2
       cases h2
       unfold PD
       rw [HB.out.1]
       simp
      ·exact HQ.out j y (by omega) h2
     clear HQ
     go_wp2
     refine ⟨⟨i,rfl,by omega,B2,HR⟩, ?_⟩
     show ((i:Int)-1+1).toNat<((i:Int)+1).toNat
     omega
   ·have ED:=decide_eq_false e1
    have LN:=mk_nm hxo hr
    have HR:Hid (∀j y,i≤j→r.L[j]? =some y→PD E nm e y=false):=fun j y h1 h2=>by
     by_cases q:j=i
     ·subst q
      rw [HX.out.1] at h2
      cases h2
      unfold PD
      rw [ED]
      rfl
     ·exact HQ.out j y (by omega) h2
    clear e1 hx hxo ea hr HQ
    go_upto_region 4 with fail
    refine En.zq tab rfl (En.st LA.out (En.st (ix_rm hi (by omega) _) (En.st LN (En.st (eq_r ED _ _ _) (En.fi ?_)))))
    simp only [En.putM,En.puts,Act.put,List.setIfInBounds_toArray,List.set_cons_zero,List.set_cons_succ]
    clear ED LN LA
    go_wp2
    refine ⟨⟨i,rfl,by omega,HI,HR⟩, ?_⟩
    show ((i:Int)-1+1).toNat<((i:Int)+1).toNat
    omega
structure IdI (w:World) (L:List Elt) (rv:Value) (l:List IdK) (lv:Value) (wr:World):Prop where
 row:RE.Own wr w.heap.size rv L
 own:OwnI wr w.heap.size lv l
 bel:Below w.heap.size w wr
theorem OwnI.blk {w:World} {base:Nat} {v:Value} {l:List IdK} (h:OwnI w base v l) {k:Nat} (hk:v.ownBlock=some k):base≤k∧∃c,w.heap[k]? =some (.cells c 36 (0,0)):=by
 rcases h.2 with ⟨rfl,_⟩|⟨g,cap,cur,rfl,hb,hg,_⟩
 ·cases hk
 ·simp only [Value.ownBlock,Option.some.injEq] at hk
  subst hk
  exact ⟨hb,_,hg⟩
theorem IdI.push {w wr:World} {L:List Elt} {rv:Value} {l:List IdK} {lv:Value} (h:IdI w L rv l lv wr) {x:IdK} (hx:x.ok) (hl:l.length≤1400000000000) :
 ∃sv w1 v2 w2,(Instr.buildSlice 56 1 #[(0,x.v)]).run Tryz.prog wr= .ok sv w1∧(Builtin.append_ #[56,56] 56 #[lv,sv]).run Tryz.prog w1= .ok v2 w2∧IdI w L rv (l++[x]) v2 w2:=by
 have b1:Below wr.heap.size wr (wr.alloc (.cells (IdK.c x).toArray 36)):=(Below.refl _ _).alloc (Nat.le_refl _) _
 obtain ⟨v2,w2,e2,o2,g,q⟩:=run_appI _ w.heap.size lv l _ [x] 1 (h.own.below b1) (ids_lit wr x 36) (fun y hy=>by rw [List.mem_singleton.1 hy];exact hx) (by simp;omega) (Nat.le_trans h.bel.size b1.size)
 refine ⟨_,_,v2,w2,run_bsI x hx wr,e2, ?_,o2, ?_⟩
 ·refine (h.row.below b1).keep (fun k hk=> ?_)
  refine g.block k ((h.row.below b1).lt hk) (fun e=> ?_)
  obtain ⟨_,c1,q1⟩:=(h.row.below b1).cells hk
  obtain ⟨_,c2,q2⟩:=(h.own.below b1).blk e.symm
  rw [q1] at q2
  simp [RE] at q2
 ·have b2:Below w.heap.size w (wr.alloc (.cells (IdK.c x).toArray 36)):=h.bel.trans (b1.mono h.bel.size)
  exact b2.grown g b2.size (fun k hk=>(h.own.blk hk).1)
theorem IdI.get {w wr:World} {L:List Elt} {rv:Value} {l:List IdK} {lv:Value} (h:IdI w L rv l lv wr) (ok:∀e∈L,RE.ok e) {i:Nat} (hi:i<L.length):∃eb ec,rv= .slice (some ⟨eb,0,none⟩) L.length ec∧wr.rangeAt eb (0+67*i) L[i].c:=by
 obtain ⟨g,cap,e,hr⟩:=h.row.zero RE_is ok hi
 exact ⟨g,cap,e,by rw [Nat.zero_add];exact hr⟩
theorem vis_take (L:List Elt) (c:Bool) {i:Nat} (hi:i<L.length):idsE (L.take (i+1)) c=idsE (L.take i) c++(if cE c L[i]=true then [L[i].id] else []):=by
 unfold idsE visE
 rw [List.take_add_one,List.getElem?_eq_getElem hi,Option.toList,List.filter_append,List.map_append,List.filter_cons,List.filter_nil]
 split <;>rfl
theorem ids_len (L:List Elt) (c:Bool):(idsE L c).length≤L.length:=by
 unfold idsE
 rw [List.length_map]
 exact List.length_filter_le _ _
theorem idsE_ok {L:List Elt} (ok:∀e∈L,RE.ok e) (c:Bool):∀x∈idsE L c,x.ok:=fun x hx=>by
 obtain ⟨e,he,rfl⟩:=List.mem_map.1 hx
 exact (ok e (List.mem_filter.1 he).1).1
section
variable {w:World} {base:Nat} {pv:Value} {R:List Elt}
theorem ids_own (h:RefV w base pv R):Calls Tryz.prog 31 #[pv] w fun e w'=> ∃v,e= .returned v∧OwnI w' w.heap.size v (idsE (rowR R) false)∧Below w.heap.size w w':=by
 have HR:=hidMk (row_ref h)
 have HWF:=hidMk (row_wf h.ok.1)
 have hln:(rowR R).length≤1400000000000:=by rw [row_len];exact h.ok.2
 generalize rowR R=L at *
 obtain ⟨n,hn⟩:∃n,L.length=n:=⟨_,rfl⟩
 rw [hn] at HR hln
 have HN:=hidMk hn
 clear hn h
 go_enter Tryz.func31,Tryz.ntmps31
 go_wp2_with (first
  |(go_at_call 58;refine HR.out.mono ?_;rintro e w1 ⟨ra,rc,rfl,o1,b1⟩)
  |fail)
 have st0:Hid (IdI w L (.slice ra n rc) (idsE (L.take 0) false) (.slice none 0 0) w1):=⟨o1,⟨by simp [idsE,visE,flatI], .inl ⟨rfl,by simp [idsE,visE]⟩⟩,b1⟩
 clear o1 b1 HR
 go_loopw [3,5] (fun v3 v5 wr=> ∃(i:Nat) (lv:Value),lv=v3∧v5= .int .i64 (i:Int)∧i≤n∧Hid (IdI w L (.slice ra n rc) (idsE (L.take i) false) lv wr)) (fun v3 v5 wr=>n-(match v5 with | .int _ i=>i.toNat|_=>0))
 case atStart=>exact ⟨0,_,rfl,rfl,Nat.zero_le _,st0⟩
 case round =>
  clear st0
  obtain ⟨i,lv,rfl,rfl,hin,hI⟩:=hrel
  by_cases hi:i<n
  ·have hi':i<L.length:=by rw [HN.out];exact hi
   obtain ⟨eb,ec,e1,hra⟩:=hI.out.get HWF.out hi'
   rw [HN.out] at e1
   cases e1
   have hwf:L[i].wf:=HWF.out _ (List.getElem_mem hi')
   have HT:=hidMk (vis_take L false hi')
   have hll:(idsE (L.take i) false).length≤1400000000000:=by
        have h1:=ids_len (L.take i) false
        rw [List.length_take] at h1
        omega
   obtain ⟨sv,w2,v2,w3,e2,e3,P3⟩:=hI.out.push hwf.1 hll
   have HP:Hid (IdI w L (.slice (some ⟨eb,0,none⟩) n rc) (idsE (L.take (i+1)) false) v2 w3):=by
        rw [HT.out,show (if cE false L[i]=true then [L[i].id] else [])=[L[i].id] from rfl];exact P3
   clear P3
   generalize L[i]=x at *
   go_upto_region 6 with fail
   refine dids6 (x:=x) (lv:=lv) _ _ _ rfl rfl rfl rfl hwf hi (by omega) hra e2 e3 ?_
   intro a' w4 hw ha
   subst ha
   obtain rfl:w4=w3:=hw
   simp only [Act.put,qsA,qsB,qsC]
   clear e2 e3 hI hra hll
   go_wp2
   have hq:((i:Int)+1)=((i+1:Nat):Int):=by omega
   rw [hq]
   refine ⟨⟨i+1,_,rfl,rfl,hi,HP⟩, ?_⟩
   show n-((i+1:Nat):Int).toNat<n-(i:Int).toNat
   omega
  ·obtain rfl:n=i:=by omega
   rw [List.take_of_length_le (by rw [HN.out];exact Nat.le_refl _)] at hI
   go_wp2
   go_ret
   exact ⟨_,rfl,hI.out.own,hI.out.bel⟩
theorem ids_ref (h:RefV w base pv R):Calls Tryz.prog 31 #[pv] w fun e w'=> ∃a c,e= .returned (.slice a (idsE (rowR R) false).length c)∧OwnI w' w.heap.size (.slice a (idsE (rowR R) false).length c) (idsE (rowR R) false)∧Below w.heap.size w w':=by
 refine (ids_own h).mono ?_
 rintro e w' ⟨v,rfl,o,b⟩
 obtain ⟨a,c,rfl,_⟩:=o.open (idsE_ok (row_wf h.ok.1) _)
 exact ⟨a,c,rfl,o,b⟩
theorem index_ref (h:RefV w base pv R) {k:IdK} (hk:k.ok):Calls Tryz.prog 62 #[pv,k.v] w fun e w'=>e= .returned (.int .i64 (aheadE (rowR R) true k))∧Below w.heap.size w w':=by
 have bx:Below w.heap.size w (w.alloc (.cells k.c.toArray 36)):=(Below.refl _ _).alloc (Nat.le_refl _) _
 have hx:=id_new w k
 have HR:=hidMk (row_ref (h.below bx))
 have HWF:=hidMk (row_wf h.ok.1)
 have HOK:=hidMk h.ok.1.row
 have hln:(rowR R).length≤1400000000000:=by rw [row_len];exact h.ok.2
 generalize rowR R=L at *
 obtain ⟨n,hn⟩:∃n,L.length=n:=⟨_,rfl⟩
 rw [hn] at HR hln
 have HN:=hidMk hn
 obtain ⟨r,hr⟩:∃r,aheadE L true k=r:=⟨_,rfl⟩
 have HRR:=hidMk hr
 rw [hr]
 show Calls Tryz.prog 62 #[pv, .agg k.c.toArray] w _
 clear hr hn h
 go_enter Tryz.func62,Tryz.ntmps62
 go_upto_region 1 with fail
 generalize w.alloc (.cells k.c.toArray 36)=wx at *
 obtain ⟨kb,hkb⟩:∃kb,w.heap.size=kb:=⟨_,rfl⟩
 rw [hkb] at hx bx ⊢
 have HK:=hidMk hkb
 clear hkb
 go_wp2_with (first
  |(go_at_call 58;refine HR.out.mono ?_;rintro e w1 ⟨ra,rc,rfl,o1,b1⟩)
  |fail)
 have st0:Hid (RE.Own w1 wx.heap.size (.slice ra n rc) L∧IdAt w1 kb k∧Below kb w w1):=⟨o1,hx.below b1,bx.trans (b1.mono (by rw [←HK.out];exact bx.size))⟩
 clear o1 b1 HR hx bx
 go_loopw [6,7] (fun v6 v7 wr=> ∃(i:Nat),v6= .int .i64 (((L.take i).countP (cE true):Nat):Int)∧v7= .int .i64 (i:Int)∧i≤n∧Hid (RE.Own wr wx.heap.size (.slice ra n rc) L∧IdAt wr kb k∧Below kb w wr)∧Hid (∀j (hj:j<L.length),j<i→L[j].id≠k)) (fun v6 v7 wr=>n-(match v7 with | .int _ i=>i.toNat|_=>0))
 case atStart=>exact ⟨0,rfl,rfl,Nat.zero_le _,st0,fun j hj h=>by omega⟩
 case round =>
  clear st0
  obtain ⟨i,rfl,rfl,hin,hI,hno⟩:=hrel
  by_cases hi:i<n
  ·have hi':i<L.length:=by rw [HN.out];exact hi
   obtain ⟨eb,ec,e1,hra⟩:=hI.out.1.zero RE_is HWF.out hi'
   rw [HN.out] at e1
   cases e1
   have hra2:wr.rangeAt eb (0+67*i) L[i].c:=by rw [Nat.zero_add];exact hra
   have hwf:L[i].wf:=HWF.out _ (List.getElem_mem hi')
   have HX:=hidMk (ahead_get HOK.out true hi')
   have HC:=hidMk (cnt_take true hi')
   have HNX:Hid (L[i].id≠k→∀j (hj:j<L.length),j<i+1→L[j].id≠k):=fun q j hj hji=>by
        by_cases e:j=i
        ·subst e;exact q
        ·exact hno.out j hj (by omega)
   have hcE:cE true L[i]=L[i].sh:=rfl
   rw [hcE] at HC
   clear hcE
   generalize L[i]=x at *
   obtain ⟨q,hq0⟩:∃q,(L.take i).countP (cE true)=q:=⟨_,rfl⟩
   have HQL:Hid (q≤1400000000000):=by
        have h1:=List.countP_le_length (p:=cE true) (l:=L.take i)
        rw [List.length_take] at h1
        show q≤_
        omega
   rw [hq0] at HX HC ⊢
   clear hq0
   go_upto_region 6 with fail
   refine didx6 (x:=x) (k:=k) (g:=decide (x.id=k)) _ _ _ rfl rfl rfl rfl hwf hi (by omega) hk rfl hra2 hI.out.2.1 ?_
   intro a' w2 hw ha
   subst ha
   obtain rfl:w2=wr.drew:=hw
   simp only [Act.put,qsA,qsB,qsC]
   have hI2:Hid (RE.Own wr.drew wx.heap.size (.slice (some ⟨eb,0,none⟩) n rc) L∧IdAt wr.drew kb k∧Below kb w wr.drew):=⟨hI.out.1.below ((Below.refl _ _).drew),hI.out.2.1,hI.out.2.2.drew⟩
   have hra3:wr.drew.rangeAt eb (0+67*i) x.c:=hra2
   generalize wr.drew=w2 at *
   clear hI hra hra2
   cases hd:decide (x.id=k) with
   |true =>
    have e2:r=(q:Int):=by rw [←HRR.out, ←HX.out,of_decide_eq_true hd]
    subst e2
    clear hd HX HNX hno HC
    go_wp2
    go_ret
    exact ⟨rfl,by rw [HK.out];exact hI2.out.2.2⟩
   |false =>
    have HD:=hidMk (of_decide_eq_false hd)
    clear hd HX hno
    go_upto_region 8 with fail
    refine didx8 (x:=x) _ _ _ rfl rfl rfl hwf hi (by omega) hra3 ?_
    intro a' w3 hw ha
    subst ha
    obtain rfl:w3=w2:=hw
    simp only [Act.put,qsA,qsB,qsC]
    clear hra3
    have hql:=HQL.out
    cases hs:x.sh with
    |true =>
     rw [hs] at HC
     clear hs
     go_wp2
     have hq:((i:Int)+1)=((i+1:Nat):Int):=by omega
     have hq2:((q:Int)+1)=((q+1:Nat):Int):=by omega
     rw [hq,hq2]
     refine ⟨⟨i+1,by rw [HC.out];rfl,rfl,hi,hI2,HNX.out HD.out⟩, ?_⟩
     show n-((i+1:Nat):Int).toNat<n-(i:Int).toNat
     omega
    |false =>
     rw [hs] at HC
     clear hs
     go_wp2
     have hq:((i:Int)+1)=((i+1:Nat):Int):=by omega
     rw [hq]
     refine ⟨⟨i+1,by rw [HC.out];rfl,rfl,hi,hI2,HNX.out HD.out⟩, ?_⟩
     show n-((i+1:Nat):Int).toNat<n-(i:Int).toNat
     omega
  ·obtain rfl:n=i:=by omega
   have e2:r= -1:=by
        rw [←HRR.out]
        exact rank_neg (none_has (fun j hj=>hno.out j hj (by rw [←HN.out];exact hj))) _
   subst e2
   clear hno
   go_wp2
   go_ret
   exact ⟨rfl,by rw [HK.out];exact hI.out.2.2⟩
end
attribute [local go_sem] Oper.semAt_some
theorem cSp_lt (p q:SpV):decide (cSp p q<0)=if p.fr≠q.fr then decide (p.fr<q.fr) else if p.to≠q.to then decide (p.to<q.to) else ltS p.nm q.nm:=by
 unfold cSp or3 cI ltS
 by_cases h1:p.fr=q.fr
 ·rw [if_neg (show ¬(p.fr≠q.fr) from fun h=>h h1)]
  by_cases h2:p.to=q.to
  ·rw [if_neg (show ¬(p.to≠q.to) from fun h=>h h2),if_neg (show ¬p.fr<q.fr by omega),if_neg (show ¬q.fr<p.fr by omega),if_pos rfl,if_neg (show ¬p.to<q.to by omega),if_neg (show ¬q.to<p.to by omega),if_pos rfl]
   unfold cS
   cases h:Op.bytesLess p.nm.toList q.nm.toList with
   |true=>simp
   |false =>
    rw [if_neg (by simp)]
    split <;>simp
  ·rw [if_pos h2,if_neg (show ¬p.fr<q.fr by omega),if_neg (show ¬q.fr<p.fr by omega),if_pos rfl]
   by_cases h3:p.to<q.to
   ·rw [if_pos h3];simp [h3]
   ·rw [if_neg h3,if_pos (show q.to<p.to by omega)];simp [h3]
 ·rw [if_pos h1]
  by_cases h3:p.fr<q.fr
  ·rw [if_pos h3];simp [h3]
  ·rw [if_neg h3,if_pos (show q.fr<p.fr by omega)];simp [h3]
theorem ahead_any (p q:SpV) (w:World):Calls Tryz.prog 65 #[p.a,q.a] w fun e w'=>e= .returned (.bool (decide (cSp p q<0)))∧Below w.heap.size w w':=by
 obtain ⟨W,hW⟩:∃W,(w.alloc (.cells p.c.toArray 65)).alloc (.cells q.c.toArray 65)=W:=⟨_,rfl⟩
 have S0:Hid (RSp.Bx W w.heap.size p∧RSp.Bx W (w.heap.size+1) q∧Below w.heap.size w W):=by
  refine ⟨?_, ?_, ?_⟩
  ·rw [←hW]
   show _=_
   rw [Below.heap_alloc _ _ _ (by simp)];exact heap_alloc_new _ _
  ·rw [←hW]
   have:=heap_alloc_new (w.alloc (.cells p.c.toArray 65)) (.cells q.c.toArray 65)
   rw [show (w.alloc (.cells p.c.toArray 65)).heap.size=w.heap.size+1 by simp] at this
   exact this
  ·rw [←hW];exact ((Below.refl _ _).alloc (Nat.le_refl _) _).alloc (by simp) _
 have HX:=hidMk hW
 have HC:=hidMk (cSp_lt p q)
 generalize decide (cSp p q<0)=r at *
 clear hW
 have P1:=hidMk (sp_fr S0.out.1)
 have P2:=hidMk (sp_to S0.out.1)
 have P3:=hidMk (sp_nm S0.out.1)
 have Q1:=hidMk (sp_fr S0.out.2.1)
 have Q2:=hidMk (sp_to S0.out.2.1)
 have Q3:=hidMk (sp_nm S0.out.2.1)
 have HB:=hidMk S0.out.2.2
 clear S0
 unfold SpV.a
 go_enter Tryz.func65,Tryz.ntmps65
 go_upto_region 1 with fail
 rw [HX.out]
 clear HX
 by_cases h1:p.fr=q.fr
 ·have c1:(!decide (p.fr=q.fr))=false:=by simp [h1]
  refine En.zq tab rfl (En.st P1.out (En.st Q1.out (En.cm c1 (En.fi ?_))))
  simp only [En.putM,En.puts,Act.put,List.setIfInBounds_toArray,List.set_cons_zero,List.set_cons_succ]
  go_upto_region 3 with fail
  by_cases h2:p.to=q.to
  ·have c2:(!decide (p.to=q.to))=false:=by simp [h2]
   refine En.zq tab rfl (En.st P2.out (En.st Q2.out (En.cm c2 (En.fi ?_))))
   simp only [En.putM,En.puts,Act.put,List.setIfInBounds_toArray,List.set_cons_zero,List.set_cons_succ]
   go_upto_region 5 with fail
   have hr:ltS p.nm q.nm=r:=by rw [HC.out,if_neg (fun h=>h h1),if_neg (fun h=>h h2)]
   refine En.zq tab rfl (En.st P3.out (En.st Q3.out (En.st (lt_r hr _ _ _) (En.fi ?_))))
   simp only [En.putM,En.puts,Act.put,List.setIfInBounds_toArray,List.set_cons_zero,List.set_cons_succ]
   clear hr c1 c2 h1 h2 P1 P2 P3 Q1 Q2 Q3 HC
   go_wp2
   go_ret
   exact ⟨rfl,HB.out⟩
  ·have c2:(!decide (p.to=q.to))=true:=by simp [h2]
   refine En.zq tab rfl (En.st P2.out (En.st Q2.out (En.cm c2 (En.fi ?_))))
   simp only [En.putM,En.puts,Act.put,List.setIfInBounds_toArray,List.set_cons_zero,List.set_cons_succ]
   go_upto_region 4 with fail
   have hr:decide (p.to<q.to)=r:=by rw [HC.out,if_neg (fun h=>h h1),if_pos h2]
   refine En.zq tab rfl (En.st P2.out (En.st Q2.out (En.cm hr (En.fi ?_))))
   simp only [En.putM,En.puts,Act.put,List.setIfInBounds_toArray,List.set_cons_zero,List.set_cons_succ]
   clear hr c1 c2 h1 h2 P1 P2 P3 Q1 Q2 Q3 HC
   go_wp2
   go_ret
   exact ⟨rfl,HB.out⟩
 ·have c1:(!decide (p.fr=q.fr))=true:=by simp [h1]
  refine En.zq tab rfl (En.st P1.out (En.st Q1.out (En.cm c1 (En.fi ?_))))
  simp only [En.putM,En.puts,Act.put,List.setIfInBounds_toArray,List.set_cons_zero,List.set_cons_succ]
  go_upto_region 2 with fail
  have hr:decide (p.fr<q.fr)=r:=by rw [HC.out,if_pos h1]
  refine En.zq tab rfl (En.st P1.out (En.st Q1.out (En.cm hr (En.fi ?_))))
  simp only [En.putM,En.puts,Act.put,List.setIfInBounds_toArray,List.set_cons_zero,List.set_cons_succ]
  clear hr c1 h1 P1 P2 P3 Q1 Q2 Q3 HC
  go_wp2
  go_ret
  exact ⟨rfl,HB.out⟩
attribute [local go_sem] Oper.semAt_some
def spO (E:List Elt) (L:List MkV) (e a b:Int) (nm:ByteArray):List SpV:=if (hoD E L nm e).2=true then [⟨a,b,nm,(hoD E L nm e).1⟩] else []
theorem spO_len (E:List Elt) (L:List MkV) (e a b:Int) (l:List ByteArray):(l.flatMap (spO E L e a b)).length≤l.length:=by
 induction l with
 |nil=>simp
 |cons x l ih =>
  rw [List.flatMap_cons,List.length_append,List.length_cons]
  have:(spO E L e a b x).length≤1:=by unfold spO;split <;>simp
  omega
structure OvD (E:List Elt) (L:List MkV) (k:IdK) (O:List SpV):Prop where
 no:hasE E k=false→O=[]
 yes:∀(i:Nat) (hi:i<E.length),E[i].id=k→∃l,NamesIs L l∧O=l.flatMap (spO E L (i:Int) (aheadE E true k) (if E[i].sh=true then aheadE E true k+1 else aheadE E true k))
theorem hoD_ok {E:List Elt} {L:List MkV} (ok:∀x∈L,x.ok) (nm:ByteArray) (e:Int):(hoD E L nm e).1.ok:=by
 unfold hoD
 split
 ·next x hx=>exact (ok x (List.mem_filter.1 (List.mem_of_getLast? hx)).1).v
 ·exact zVa_ok
theorem bx_toO {W:World} {b:Nat} {x:SpV} (h:RSp.Bx W b x) (z:Int):∃W',(Instr.storeAt 3 (.pointer (some ⟨b,0+1,none⟩)) (.int .i64 z)).run Tryz.prog W= .ok () W'∧RSp.Bx W' b ⟨x.fr,z,x.nm,x.v⟩∧Tch (fun j=>j=b) W W':=by
 have hg:W.heap[b]? =some (.cells x.c.toArray 65 (0,0)):=h
 have hcell:W.cell? ⟨b,1,none⟩=some (.int .i64 x.to):=(cell_of_row W b 1 _ _ _ hg).trans rfl
 have hf:=frozen_of_row W b 1 _ _ hg
 have es:(Instr.storeAt 3 (.pointer (some ⟨b,0+1,none⟩)) (.int .i64 z)).run Tryz.prog W= .ok () (W.setCell ⟨b,1,none⟩ (.int .i64 z)):=by
  go_simp
 refine ⟨_,es, ?_,⟨rfl,rfl,rfl,by simp [World.setCell],fun j _ hj=>Go.heap_setCell_other _ _ _ _ hj⟩⟩
 obtain ⟨hl2,hv⟩:=Array.getElem?_eq_some_iff.1 hg
 exact Go.heap_setCell_same _ _ 1 _ _ _ h
theorem st_spO {W:World} {b:Nat} {x:SpV} (h:RSp.Bx W b x) (u:SpV):∃W',(Instr.storeAt 65 (.pointer (some ⟨b,0,none⟩)) u.a).run Tryz.prog W= .ok () W'∧RSp.Bx W' b u∧Tch (fun j=>j=b) W W':=by
 have e2:=run_storeVar_row (P:=Tryz.prog) W b 65 65 x.c.toArray u.c.toArray h (by rw [List.size_toArray,SpV.len];exact RowT.sz RSp_is)
  (by rw [List.size_toArray,List.size_toArray,SpV.len,SpV.len]) (by rw [List.all_toArray,List.all_eq_true];exact SpV.one u)
 refine ⟨W.setRow b u.c.toArray, ?_,setRow_heap W b _ _ _ _ h, ?_⟩
 ·simp only [Instr.storeAt,Instr.sureAddr,Sem.run_bind,Sem.run_pure,Result.andThen_ok,SpV.a,e2]
 ·have:=setRow_tch W b u.c.toArray
  exact ⟨this.os,this.tape,this.output,this.size,fun j hj hn=>this.block j hj (fun e=>hn (by injection e with e;exact e.symm))⟩
theorem flat_next {α β:Type} {l:List α} {j:Nat} {x:α} (h:l[j]? =some x) (f:α→List β):(l.take (j+1)).flatMap f=(l.take j).flatMap f++f x:=by
 rw [List.take_add_one,h]
 simp
theorem own_formO {w:World} {base:Nat} {v:Value} {L:List SpV} (h:RSp.Own w base v L):∃a c,v= .slice a L.length c:=by
 rcases h.2 with ⟨e,hn⟩|⟨g,cap,cur,e,_⟩
 ·exact ⟨none,0,by rw [e,hn]⟩
 ·exact ⟨_,cap,e⟩
structure OvI (w4:World) (E:List Elt) (L:List MkV) (e a b:Int) (l:List ByteArray) (j:Nat) (lv:Value) (W:World):Prop where
 own:RSp.Own W w4.heap.size lv ((l.take j).flatMap (spO E L e a b))
 bel:Below w4.heap.size w4 W
set_option maxHeartbeats 8000000 in
theorem rover_any {w:World} {base:Nat} {r:Rx} (h:RkAt w base r) (h3:∀x∈r.L,0≤x.sd∧x.sd≤3) {B:Nat} {pv:Value} {R:List Elt} (hs:RefV w B pv R) {k:IdK} (hk:k.ok) :
 Calls Tryz.prog 24 #[.pointer (some ⟨r.rb,0,none⟩),pv,k.v] w fun e w'=> ∃v O,e= .returned v∧RSp.Own w' w.heap.size v O∧OvD (rowR R) r.L k O∧Below w.heap.size w w':=by
 have bx:Below w.heap.size w (w.alloc (.cells k.c.toArray 36)):=(Below.refl _ _).alloc (Nat.le_refl _) _
 have hx:=id_new w k
 have HWF:=hidMk (row_wf hs.ok.1)
 have HOK:=hidMk hs.ok.1.row
 have hln:(rowR R).length≤1400000000000:=by rw [row_len];exact hs.ok.2
 have HH:=hidMk h
 have H3:=hidMk h3
 have HS:=hidMk hs
 have RW:=hidMk (row_ref (hs.below bx))
 have IDX:Hid (∀W,Below w.heap.size w W→Calls Tryz.prog 62 #[pv,k.v] W fun e w'=>e= .returned (.int .i64 (aheadE (rowR R) true k))∧Below W.heap.size W w'):=fun W b=>index_ref (hs.below b) hk
 obtain ⟨E,hE⟩:∃E,rowR R=E:=⟨_,rfl⟩
 rw [hE] at HWF HOK hln RW IDX ⊢
 show Calls Tryz.prog 24 #[.pointer (some ⟨r.rb,0,none⟩),pv, .agg k.c.toArray] w _
 clear h h3 hs hE
 go_enter Tryz.func24,Tryz.ntmps24
 go_upto_region 1 with fail
 generalize w.alloc (.cells k.c.toArray 36)=wx at *
 obtain ⟨kb,hkb⟩:∃kb,w.heap.size=kb:=⟨_,rfl⟩
 have hx':IdAt wx kb k:=by rw [←hkb];exact hx
 rw [hkb]
 have HKB:=hidMk hkb
 have BX:=hidMk bx
 clear hx bx hkb
 refine En.zq tab rfl (En.ca RW.out ?_)
 rintro _ w1 ⟨ra,rc,rfl,o1,b1⟩
 refine ⟨_,rfl,En.fi ?_⟩
 simp only [En.putM,En.puts,Act.put,List.setIfInBounds_toArray,List.set_cons_zero,List.set_cons_succ]
 have zx:=BX.out.size
 have hat:RE.At w1 ra E:=by
  obtain ⟨a,c,e,ha,_⟩:=o1.open RE_is HWF.out
  cases e
  exact ha
 have HAT:=hidMk hat
 have HI1:=hidMk (hx'.below b1)
 have B1:Hid (Below w.heap.size w w1):=BX.out.trans (b1.mono zx)
 clear RW o1 hx' BX
 obtain ⟨m,hm⟩:∃m,E.length=m:=⟨_,rfl⟩
 have PL:=hidMk (place_any (lc:=rc) hat HWF.out HOK.out hln hk)
 have LK:=hidMk (load_id hk HI1.out)
 rw [hm] at PL
 rw [hm]
 have HM:=hidMk hm
 clear hat hm
 go_upto_region 2 with fail
 refine En.zq tab rfl (En.st LK.out (En.ca PL.out ?_))
 rintro _ w2 ⟨rfl,b2⟩
 refine ⟨_,rfl,En.fi ?_⟩
 simp only [En.putM,En.puts,Act.put,List.setIfInBounds_toArray,List.set_cons_zero,List.set_cons_succ]
 have B2:Hid (Below w.heap.size w w2):=B1.out.trans (b2.mono B1.out.size)
 have HAT2:=hidMk (HAT.out.below b2)
 have HI2:=hidMk (HI1.out.below b2)
 clear PL LK HAT HI1 B1 b2 b1
 go_upto_region 4 with fail
 cases hh:hasE E k with
 |false =>
  have c1:decide (aheadE E false k<0)=true:=by rw [rank_neg hh];rfl
  refine En.zq tab rfl (En.cm c1 (En.fi ?_))
  simp only [En.putM,En.puts,Act.put,List.setIfInBounds_toArray,List.set_cons_zero,List.set_cons_succ]
  clear c1
  go_wp2
  go_ret
  refine ⟨_,[],rfl,RSp.own_nil _ _,⟨fun _=>rfl,fun i hi e=> ?_⟩,B2.out⟩
  have:hasE E k=true:=hasE_iff.2 ⟨E[i],List.getElem_mem hi,e⟩
  rw [hh] at this;cases this
 |true =>
  obtain ⟨i,hi,hik⟩:∃i,∃hi:i<E.length,E[i].id=k:=by
   obtain ⟨x,hx,e⟩:=hasE_iff.1 hh
   obtain ⟨i,hi,e2⟩:=List.getElem_of_mem hx
   exact ⟨i,hi,by rw [e2];exact e⟩
  have er:aheadE E false k=(i:Int):=by rw [←hik];exact rank_at HOK.out hi
  rw [er]
  have c1:decide ((i:Int)<0)=false:=decide_eq_false (by omega)
  refine En.zq tab rfl (En.cm c1 (En.fi ?_))
  simp only [En.putM,En.puts,Act.put,List.setIfInBounds_toArray,List.set_cons_zero,List.set_cons_succ]
  have NM:=hidMk (names_any (HH.out.below B2.out))
  have HIK:=hidMk hik
  clear c1 er hh
  go_upto_region 6 with fail
  refine En.zq tab rfl (En.ca NM.out ?_)
  rintro _ w3 ⟨nv,l,rfl,hnl,hno,b3⟩
  refine ⟨_,rfl,En.fi ?_⟩
  simp only [En.putM,En.puts,Act.put,List.setIfInBounds_toArray,List.set_cons_zero,List.set_cons_succ]
  have B3:Hid (Below w.heap.size w w3):=B2.out.trans (b3.mono B2.out.size)
  have HAT3:=hidMk (HAT2.out.below b3)
  have HI3:=hidMk (HI2.out.below b3)
  have HNL:=hidMk hnl
  have HNO:=hidMk hno
  obtain ⟨na,nc,env⟩:=hno.sl
  obtain ⟨n,hn⟩:∃n,l.length=n:=⟨_,rfl⟩
  rw [hn] at env
  subst env
  have HN:=hidMk hn
  have hn9:n≤900000000000:=by rw [←hn];exact Nat.le_trans hnl.len HH.out.n
  obtain ⟨ix,hix⟩:∃x,aheadE E true k=x:=⟨_,rfl⟩
  have HIX:=hidMk hix
  rw [hix] at IDX
  have HBI:=hidMk (ahead_bd E true k)
  rw [hix] at HBI
  obtain ⟨te,hto⟩:∃t,(if E[i].sh=true then ix+1 else ix)=t:=⟨_,rfl⟩
  have HTO:=hidMk hto
  obtain ⟨L,hL⟩:∃L,r.L=L:=⟨_,rfl⟩
  clear NM HAT2 HI2 B2 hnl hno b3 hn hix hto hik
  go_wp2
  go_loopw [9,11] (fun v9 v11 wr=> ∃j:Nat,v11= .int .i64 (j:Int)∧j≤n∧Hid (OvI w3 E r.L (i:Int) ix te l j v9 wr)) (fun _ v11 _=>n-(match v11 with | .int _ i=>i.toNat|_=>0))
  case atStart=>exact ⟨0,rfl,Nat.zero_le _,by simpa using RSp.own_nil _ _,Below.refl _ _⟩
  case round =>
   obtain ⟨j,rfl,hj,HO⟩:=hrel
   obtain ⟨sa,sc,ev⟩:=own_formO HO.out.own
   obtain ⟨sn,hsn⟩:∃n,((l.take j).flatMap (spO E r.L (i:Int) ix te)).length=n:=⟨_,rfl⟩
   rw [hsn] at ev
   subst ev
   have HSN:=hidMk hsn
   clear hsn
   by_cases hjn:j<n
   ·obtain ⟨nm,hy⟩:∃nm,l[j]? =some nm:=⟨_,List.getElem?_eq_getElem (by rw [HN.out];exact hjn)⟩
    obtain ⟨lg,lc2,e3,_,_,lcc⟩:=HNO.out.cellB hy
    rw [HN.out] at e3
    cases e3
    have BW:Hid (∀W,Below w3.heap.size w3 W→Below w.heap.size w W):=fun W b=>B3.out.trans (b.mono B3.out.size)
    have LC:=hidMk lcc
    have HY:=hidMk hy
    have CH:=holds_any (lc:=rc) (HH.out.below (BW.out _ HO.out.bel)) H3.out (HAT3.out.below HO.out.bel) HWF.out HOK.out hln nm (i:Int)
    have SP:Hid (spO E r.L (i:Int) ix te nm=if (hoD E r.L nm (i:Int)).2=true then [⟨ix,te,nm,(hoD E r.L nm (i:Int)).1⟩] else []):=rfl
    have XO:=hidMk (hoD_ok (E:=E) HH.out.ok nm (i:Int))
    obtain ⟨p,hp⟩:∃p,hoD E r.L nm (i:Int)=p:=⟨_,rfl⟩
    rw [HM.out,hp] at CH
    rw [hp] at SP XO
    obtain ⟨x,b⟩:=p
    have CHH:=hidMk CH
    have c1:decide ((j:Int)<(n:Int))=true:=decide_eq_true (by omega)
    clear lcc hy CH hp
    go_upto_region 8 with fail
    refine En.zq tab rfl (En.cm c1 (En.fi ?_))
    simp only [En.putM,En.puts,Act.put,List.setIfInBounds_toArray,List.set_cons_zero,List.set_cons_succ]
    clear c1
    go_upto_region 10 with fail
    refine En.zq tab rfl (En.st (ix_t hjn (by omega) _) (En.st (LC.out _ HO.out.bel) (En.ca CHH.out ?_)))
    rintro _ w5 ⟨rfl,b5⟩
    have hv5:VaAt (w5.alloc (.cells zVa.c.toArray 40)) w5.heap.size zVa:=heap_alloc_new _ _
    have b51:Below w5.heap.size w5 (w5.alloc (.cells zVa.c.toArray 40)):=(Below.refl _ _).alloc (Nat.le_refl _) _
    refine ⟨_,rfl,En.ef (va_zero _) (En.eu (store_va (u:=x) hv5) (En.fi ?_))⟩
    simp only [En.putM,En.puts,Act.put,List.setIfInBounds_toArray,List.set_cons_zero,List.set_cons_succ]
    have hv6:=hv5.set x
    have b6:Below wr.heap.size wr ((w5.alloc (.cells zVa.c.toArray 40)).setRow w5.heap.size x.c.toArray):=(b5.trans (b51.mono b5.size)).trans ((set_below _ b51.size (Nat.le_refl _)).mono b5.size)
    have O6:Hid (OvI w3 E r.L (i:Int) ix te l j (.slice sa sn sc) ((w5.alloc (.cells zVa.c.toArray 40)).setRow w5.heap.size x.c.toArray)):=⟨HO.out.own.below b6,HO.out.bel.trans (b6.mono HO.out.bel.size)⟩
    obtain ⟨vb,hvb⟩:∃b,w5.heap.size=b:=⟨_,rfl⟩
    rw [hvb] at hv6 O6 ⊢
    generalize (w5.alloc (.cells zVa.c.toArray 40)).setRow vb x.c.toArray=w6 at *
    have HV6:=hidMk hv6
    clear hv5 b51 hv6 b6 b5 hvb CHH HO
    cases b with
    |false =>
     have N6:Hid (OvI w3 E r.L (i:Int) ix te l (j+1) (.slice sa sn sc) w6):=⟨by
      rw [flat_next HY.out,SP.out,if_neg (by simp),List.append_nil];exact O6.out.own,O6.out.bel⟩
     clear O6 LC
     go_wp2
     rw [show ((j:Int)+1)=((j+1:Nat):Int) by omega]
     refine ⟨⟨j+1,rfl,hjn,N6⟩, ?_⟩
     show n-((j+1:Nat):Int).toNat<n-(j:Int).toNat
     omega
    |true =>
     go_upto_region 11 with fail
     refine En.zq tab rfl (En.fi ?_)
     simp only [En.putM,En.puts,Act.put,List.setIfInBounds_toArray,List.set_cons_zero,List.set_cons_succ]
     have LI:Hid (∀W,Below w6.heap.size w6 W→(Instr.loadAt 36 (.pointer (some ⟨kb,0,none⟩))).run Tryz.prog W= .ok k.v W):=fun W b=>load_id hk (HI3.out.below (O6.out.bel.trans (b.mono O6.out.bel.size)))
     have LN6:Hid (∀W,Below w6.heap.size w6 W→(Instr.loadAt 9 (.pointer (some ⟨lg,0+j,none⟩))).run Tryz.prog W= .ok (.string nm) W):=fun W b=>LC.out W (O6.out.bel.trans (b.mono O6.out.bel.size))
     have LV6:Hid (∀W,Below w6.heap.size w6 W→(Instr.loadAt 40 (.pointer (some ⟨vb,0,none⟩))).run Tryz.prog W= .ok x.v W):=fun W b=>load_va (HV6.out.below b)
     have CI:Hid (∀W,Below w6.heap.size w6 W→Calls Tryz.prog 62 #[pv,k.v] W fun e w'=>e= .returned (.int .i64 ix)∧Below W.heap.size W w'):=fun W b=>IDX.out W (BW.out _ (O6.out.bel.trans (b.mono O6.out.bel.size)))
     have AL6:Hid (∀W,(Instr.alloc 65 true (.tuple #[])).run Tryz.prog W= .ok (.pointer (some ⟨W.heap.size,0,none⟩)) (W.alloc (.cells zSp7.c.toArray 65))):=fun W=>RSp.bx_zero RSp_is W
     clear LC
     go_upto_region 12 with fail
     refine En.zo tab (.one 0 (.one 1 (.one 3 (.one 4 (.one 6 (.one 7 (.one 8 (.one 9 (.one 10 (.two 2 (.two 5 (.one 11 (.one 12 (.one 13 .nil))) 12 (.one 5 (.one 11 (.one 13 .nil)))) 12 (.one 2 (.one 5 (.one 11 (.one 13 .nil)))))))))))))) 14 (fun W=>Below w6.heap.size w6 W) (hS:=(Below.refl _ _).drew) (h:=En.sty (fun W b=>LI.out W b) (En.sty (fun W b=>LI.out W b) (En.sty (fun W b=>ix_t hjn (by omega) W) (En.sty (fun W b=>LN6.out W b) (En.sty (fun W b=>LV6.out W b) (En.Bo.mk ?pa ?pb))))))
     case' pa =>
      refine En.cay (CI.out _ ((Below.refl _ _).drew)) ?_
      rintro _ w7 ⟨rfl,b7⟩
      have D6:Below w6.heap.size w6 w6.drew:=(Below.refl _ _).drew
      have B7:Below w6.heap.size w6 w7:=D6.trans (b7.mono D6.size)
      refine ⟨_,rfl,B7,En.Bo.mk ?pc ?pd⟩
      case' pc =>
       refine En.cay (CI.out _ B7) ?_
       rintro _ w8 ⟨rfl,b8⟩
       have B8:=B7.trans (b8.mono B7.size)
       have n9:RSp.Bx (w8.alloc (.cells zSp7.c.toArray 65)) w8.heap.size zSp7:=heap_alloc_new _ _
       have b9:Below w6.heap.size w6 (w8.alloc (.cells zSp7.c.toArray 65)):=B8.trans (((Below.refl _ _).alloc (Nat.le_refl _) _).mono B8.size)
       obtain ⟨w10,e10,n10,t10⟩:=st_spO n9 ⟨ix,ix,nm,x⟩
       have b10:Below w6.heap.size w6 w10:=b9.trans (t10.below b9.size (fun j e=>by rw [e];exact B8.size))
       refine ⟨_,rfl,B8,En.sty (fun W b=>build_span W ix ix nm x) (En.efy (AL6.out _) b9 (En.euy e10 b10 (En.fi ?_)))⟩
       have FN:=hidMk (And.intro n10 (And.intro b10 B8.size))
       clear n9 b9 e10 n10 t10 b10 B8 b8 B7 b7 D6
       generalize w8.heap.size=sb at *
      case' pd =>
       have n9:RSp.Bx (w7.alloc (.cells zSp7.c.toArray 65)) w7.heap.size zSp7:=heap_alloc_new _ _
       have b9:Below w6.heap.size w6 (w7.alloc (.cells zSp7.c.toArray 65)):=B7.trans (((Below.refl _ _).alloc (Nat.le_refl _) _).mono B7.size)
       refine En.efy (AL6.out _) b9 (En.cay (CI.out _ b9) ?_)
       rintro _ w8 ⟨rfl,b8⟩
       have n9:=n9.below b8
       have B8:=b9.trans (b8.mono b9.size)
       obtain ⟨w10,e10,n10,t10⟩:=st_spO n9 ⟨ix,ix,nm,x⟩
       have b10:Below w6.heap.size w6 w10:=B8.trans (t10.below B8.size (fun j e=>by rw [e];exact B7.size))
       refine ⟨_,rfl,B8,En.sty (fun W b=>build_span W ix ix nm x) (En.euy e10 b10 (En.fi ?_))⟩
       have FN:=hidMk (And.intro n10 (And.intro b10 B7.size))
       clear n9 b9 e10 n10 t10 b10 B8 b8 B7 b7 D6
       generalize w7.heap.size=sb at *
     case' pb =>
      have D6:Below w6.heap.size w6 w6.drew:=(Below.refl _ _).drew
      have n9:RSp.Bx (w6.drew.alloc (.cells zSp7.c.toArray 65)) w6.drew.heap.size zSp7:=heap_alloc_new _ _
      have b9:Below w6.heap.size w6 (w6.drew.alloc (.cells zSp7.c.toArray 65)):=D6.trans (((Below.refl _ _).alloc (Nat.le_refl _) _).mono D6.size)
      refine En.efy (AL6.out _) b9 (En.cay (CI.out _ b9) ?_)
      rintro _ w7 ⟨rfl,b7⟩
      have n9:=n9.below b7
      have B7:=b9.trans (b7.mono b9.size)
      refine ⟨_,rfl,B7,En.cay (CI.out _ B7) ?_⟩
      rintro _ w8 ⟨rfl,b8⟩
      have n9:=n9.below b8
      have B8:=B7.trans (b8.mono B7.size)
      obtain ⟨w10,e10,n10,t10⟩:=st_spO n9 ⟨ix,ix,nm,x⟩
      have b10:Below w6.heap.size w6 w10:=B8.trans (t10.below B8.size (fun j e=>by rw [e];exact D6.size))
      refine ⟨_,rfl,B8,En.sty (fun W b=>build_span W ix ix nm x) (En.euy e10 b10 (En.fi ?_))⟩
      have FN:=hidMk (And.intro n10 (And.intro b10 D6.size))
      clear n9 b9 e10 n10 t10 b10 B8 b8 B7 b7 D6
      generalize w6.drew.heap.size=sb at *
     all_goals
      simp only [En.putM,En.puts,Act.put,List.setIfInBounds_toArray,List.set_cons_zero,List.set_cons_succ]
      have N11:Hid (OvI w3 E r.L (i:Int) ix te l j (.slice sa sn sc) w10):=⟨O6.out.own.below FN.out.2.1,O6.out.bel.trans (FN.out.2.1.mono O6.out.bel.size)⟩
      have F11:Hid (RSp.Bx w10 sb ⟨ix,ix,nm,x⟩∧w6.heap.size≤sb):=⟨FN.out.1,FN.out.2.2⟩
      have OWN6:Hid (RSp.Own w6 w3.heap.size (.slice sa sn sc) ((l.take j).flatMap (spO E r.L (i:Int) ix te))):=O6.out.own
      obtain ⟨eb,eo,hra,rfl⟩:∃eb eo,w10.rangeAt eb (eo+67*i) E[i].c∧ra=some ⟨eb,eo,none⟩:=by
       rcases HAT3.out.below N11.out.bel with h|⟨g,o,e,hl,h2⟩
       ·rw [h] at hi;simp at hi
       ·exact ⟨g,o,h2 i _ (List.getElem?_eq_getElem hi),e⟩
      have LSH:=hidMk (el_sh (HWF.out _ (List.getElem_mem hi)) hra)
      have IM:Hid (i<m):=hidMk (by rw [←HM.out];exact hi)
      have IB:Hid (m≤1400000000001):=hidMk (by have:=HM.out;omega)
      clear hra
      go_upto_region 13 with fail
      refine En.zq tab rfl (En.st (ix_el IM.out IB.out _) (En.st LSH.out (En.fi ?_)))
      simp only [En.putM,En.puts,Act.put,List.setIfInBounds_toArray,List.set_cons_zero,List.set_cons_succ]
      clear LSH IM IB OWN6 N11 LI LN6 LV6 CI AL6
      rcases Bool.eq_false_or_eq_true E[i].sh with hsh|hsh
      case' inl =>
       rw [hsh]
       have hte:ix+1=te:=by have:=HTO.out;rw [if_pos hsh] at this;exact this
       obtain ⟨w11,e11,n11,t11⟩:=bx_toO F11.out.1 te
       have b11:Below w6.heap.size w6 w11:=FN.out.2.1.trans (t11.below FN.out.2.1.size (fun j e=>by rw [e];exact FN.out.2.2))
       have LT:=hidMk (sp_to F11.out.1)
       have hwz:IntKind.i64.wrap (ix+1)=te:=by
           obtain ⟨h1,h2⟩:=HBI.out
           rw [wrap_i ⟨by omega,by omega⟩]
           exact hte
       go_upto_region 14 with fail
       refine En.zq tab rfl (En.st LT.out (En.ar (z:=te) hwz (En.eu e11 (En.fi ?_))))
       simp only [En.putM,En.puts,Act.put,List.setIfInBounds_toArray,List.set_cons_zero,List.set_cons_succ]
       have FX:=hidMk (And.intro n11 b11)
       clear LT e11 n11 b11 t11 hte hwz
      case' inr =>
       rw [hsh]
       have hte:ix=te:=by have:=HTO.out;rw [if_neg (by rw [hsh];decide)] at this;exact this
       have FX:=hidMk (And.intro (show RSp.Bx w10 sb ⟨ix,te,nm,x⟩ by rw [←hte];exact F11.out.1) FN.out.2.1)
       obtain ⟨w11,rfl⟩:∃q,q=w10:=⟨_,rfl⟩
       clear hte
      all_goals
       have okx:RSp.ok ⟨ix,te,nm,x⟩:=by
           have:=HBI.out
           have ht:te=ix∨te=ix+1:=by have:=HTO.out;split at this <;>omega
           refine ⟨by show _≤ix;omega,by show ix≤_;omega,by show _≤te;omega,by show te≤_;omega, ?_,XO.out⟩
           obtain ⟨y,hy,e⟩:=(HNL.out.mem nm).1 (List.mem_of_getElem? HY.out)
           rw [←e]
           exact (HH.out.ok y hy).nm
       have len:((l.take j).flatMap (spO E r.L (i:Int) ix te)).length≤900000000000:=by
           have h1:=spO_len E r.L (i:Int) ix te (l.take j)
           rw [List.length_take] at h1
           omega
       have OW:RSp.Own w11 w3.heap.size (.slice sa sn sc) ((l.take j).flatMap (spO E r.L (i:Int) ix te)):=O6.out.own.below FX.out.2
       have BL:Below w3.heap.size w3 w11:=O6.out.bel.trans (FX.out.2.mono O6.out.bel.size)
       have LX:=hidMk (RowT.ld RSp_is okx (RowT.Bx.rng FX.out.1))
       obtain ⟨sv,y1,v2,y2,e1,e2,o2,b1,z1,g2,q2⟩:=RowT.run_push RSp_is w11 w3.heap.size (.slice sa sn sc) _ ⟨ix,te,nm,x⟩ OW okx (by unfold maxLen;omega) (by show _*72≤_;omega) BL.size
       have N13:Hid (OvI w3 E r.L (i:Int) ix te l (j+1) v2 y2):=⟨by
           rw [flat_next HY.out,SP.out,if_pos rfl];exact o2,(BL.trans (b1.mono BL.size)).trans ((Below.refl _ _).grown g2 (Nat.le_trans BL.size b1.size) (fun k e=>(OW.cells e).1))⟩
       clear okx len o2 b1 z1 g2 q2 OW BL
       go_upto_region 15 with fail
       refine En.zq tab rfl (En.st LX.out (En.ef e1 (En.ef e2 (En.fi ?_))))
       simp only [En.putM,En.puts,Act.put,List.setIfInBounds_toArray,List.set_cons_zero,List.set_cons_succ]
       clear LX e1 e2
       go_wp2
       rw [show ((j:Int)+1)=((j+1:Nat):Int) by omega]
       refine ⟨⟨j+1,rfl,hjn,N13⟩, ?_⟩
       show n-((j+1:Nat):Int).toNat<n-(j:Int).toNat
       omega
   ·obtain rfl:j=n:=by omega
    have c1:decide ((j:Int)<(j:Int))=false:=decide_eq_false (by omega)
    go_upto_region 8 with fail
    refine En.zq tab rfl (En.cm c1 (En.fi ?_))
    simp only [En.putM,En.puts,Act.put,List.setIfInBounds_toArray,List.set_cons_zero,List.set_cons_succ]
    clear c1
    go_wp2
    go_ret
    have oo:=HO.out.own
    rw [List.take_of_length_le (by rw [HN.out];exact Nat.le_refl _)] at oo
    refine ⟨_,_,rfl,oo.mono B3.out.size,⟨fun q=> ?_,fun i2 hi2 e2=>⟨l,HNL.out, ?_⟩⟩,B3.out.trans (HO.out.bel.mono B3.out.size)⟩
    ·have:hasE E k=true:=hasE_iff.2 ⟨E[i],List.getElem_mem hi,HIK.out⟩
     rw [q] at this;cases this
    ·have e3:i2=i:=by
      have h1:=rank_at HOK.out hi
      have h2:=rank_at HOK.out hi2
      rw [HIK.out] at h1
      rw [e2,h1] at h2
      omega
     subst e3
     rw [HIX.out,HTO.out]
def wS (E:List Elt) (L:List MkV) (nm:ByteArray):Nat→List SpV
 |0=>[]
 |i+1=>match E[i]? with
  |some x=>if x.sh=true∧(hoD E L nm (i:Int)).2=true then rstep (wS E L nm i) ⟨(cntE E i:Int),(cntE E i:Int)+1,nm,(hoD E L nm (i:Int)).1⟩ else wS E L nm i
  |none=>wS E L nm i
def opS (E:List Elt) (L:List MkV) (nm:ByteArray):Nat→Bool
 |0=>false
 |i+1=>match E[i]? with
  |some x=>if x.sh=true then (hoD E L nm (i:Int)).2 else opS E L nm i
  |none=>opS E L nm i
section
variable {E:List Elt} {L:List MkV} {nm:ByteArray}
theorem hoD_hE (ok:SeqOk E) {i:Nat} (hi:i<E.length) (hs:E[i].sh=true):hE E L nm (cntE E i:Int)=if (hoD E L nm (i:Int)).2=true then some (hoD E L nm (i:Int)).1 else none:=by
 rw [hE_rank ok L nm hi hs]
 unfold hR hoD
 have e:(L.filter fun x=>decide (x.nm=nm)&&covR E (i:Int) x)=L.filter (PD E nm (i:Int)):=by
  refine List.filter_congr fun x _=> ?_
  unfold PD
  rw [covD_R hi]
 rw [e]
 cases (L.filter (PD E nm (i:Int))).getLast? with
 |none=>simp
 |some x=>by_cases h:x.v.k=0 <;>simp [h]
theorem wS_hid {i:Nat} (hi:i<E.length) (hs:E[i].sh=false):wS E L nm (i+1)=wS E L nm i∧opS E L nm (i+1)=opS E L nm i∧cntE E (i+1)=cntE E i:=by
 refine ⟨?_, ?_, ?_⟩
 ·rw [wS,List.getElem?_eq_getElem hi];simp [hs]
 ·rw [opS,List.getElem?_eq_getElem hi];simp [hs]
 ·rw [cntE_succ hi];simp [hs]
theorem wS_no {i:Nat} (hi:i<E.length) (hs:E[i].sh=true) (h:(hoD E L nm (i:Int)).2=false):wS E L nm (i+1)=wS E L nm i∧opS E L nm (i+1)=false∧cntE E (i+1)=cntE E i+1:=by
 refine ⟨?_, ?_, ?_⟩
 ·rw [wS,List.getElem?_eq_getElem hi];simp [h]
 ·rw [opS,List.getElem?_eq_getElem hi];simp [hs,h]
 ·rw [cntE_succ hi];simp [hs]
theorem wS_yes {i:Nat} (hi:i<E.length) (hs:E[i].sh=true) (h:(hoD E L nm (i:Int)).2=true):wS E L nm (i+1)=rstep (wS E L nm i) ⟨(cntE E i:Int),(cntE E i:Int)+1,nm,(hoD E L nm (i:Int)).1⟩∧opS E L nm (i+1)=true∧cntE E (i+1)=cntE E i+1:=by
 refine ⟨?_, ?_, ?_⟩
 ·rw [wS,List.getElem?_eq_getElem hi];simp [hs,h]
 ·rw [opS,List.getElem?_eq_getElem hi];simp [hs,h]
 ·rw [cntE_succ hi];simp [hs]
theorem wS_runs (ok:SeqOk E):∀i,i≤E.length→RunsTo (hE E L nm) nm (cntE E i:Int) (wS E L nm i)
 |0,_=>by
  refine ⟨fun p hp=>(by cases hp),fun p hp=>(by cases hp),List.Pairwise.nil,fun l1 l2 p e=> ?_,fun j v hj hv=> ?_⟩
  ·exact absurd (congrArg List.length e) (by simp [wS])
  ·rw [hE_out ok L nm (.inl (by have:cntE E 0=0:=by simp [cntE]
                                omega))] at hv
   cases hv
 |i+1,h=>by
  have ih:=wS_runs ok i (by omega)
  cases hs:E[i].sh with
  |false =>
   obtain ⟨a,_,c⟩:=wS_hid (L:=L) (nm:=nm) (by omega) hs
   rw [a,c];exact ih
  |true =>
   have e:=hoD_hE (L:=L) (nm:=nm) ok (by omega) hs
   cases hh:(hoD E L nm (i:Int)).2 with
   |false =>
    obtain ⟨a,_,c⟩:=wS_no (by omega) hs hh
    rw [a,c]
    rw [hh,if_neg (by decide)] at e
    exact ih.skip (by omega) fun j h1 h2=>by rw [show j=(cntE E i:Int) by omega];exact e
   |true =>
    obtain ⟨a,_,c⟩:=wS_yes (by omega) hs hh
    rw [a,c]
    rw [hh,if_pos rfl] at e
    exact ih.step (by omega) fun j h1 h2=>by rw [show j=(cntE E i:Int) by omega];exact e
theorem opS_last (ok:SeqOk E):∀i,i≤E.length→(opS E L nm i=true→∃q,(wS E L nm i).getLast?=some q∧q.to=(cntE E i:Int))∧(opS E L nm i=false→∀q∈wS E L nm i,q.to≠(cntE E i:Int))
 |0,_=>⟨fun h=>(by cases h),fun _ q hq=>(by cases hq)⟩
 |i+1,h=>by
  have ih:=opS_last ok i (by omega)
  have rr:=wS_runs (L:=L) (nm:=nm) ok i (by omega)
  cases hs:E[i].sh with
  |false =>
   obtain ⟨a,b,c⟩:=wS_hid (L:=L) (nm:=nm) (by omega) hs
   rw [a,b,c];exact ih
  |true =>
   cases hh:(hoD E L nm (i:Int)).2 with
   |false =>
    obtain ⟨a,b,c⟩:=wS_no (by omega) hs hh
    rw [a,b,c]
    exact ⟨fun q=>(by cases q),fun _ q hq=>by have:=(rr.in' q hq).2.1;omega⟩
   |true =>
    obtain ⟨a,b,c⟩:=wS_yes (by omega) hs hh
    rw [a,b,c]
    refine ⟨fun _=> ?_,fun q=>(by cases q)⟩
    unfold rstep
    split
    ·split
     ·exact ⟨_,by simp;rfl,by show _=_;simp⟩
     ·exact ⟨_,by simp;rfl,by show _=_;simp⟩
    ·exact ⟨_,by simp;rfl,by show _=_;simp⟩
theorem step_ext (ok:SeqOk E) {i:Nat} (hi:i<E.length) {v:VaV} (ho:opS E L nm i=true) {A:List SpV} {q:SpV} (hq:wS E L nm i=A++[q]) (hv:q.v=v):rstep (wS E L nm i) ⟨(cntE E i:Int),(cntE E i:Int)+1,nm,v⟩=A++[⟨q.fr,q.to+1,q.nm,q.v⟩]:=by
 obtain ⟨q2,h1,h2⟩:=(opS_last (L:=L) (nm:=nm) ok i (by omega)).1 ho
 rw [hq] at h1 ⊢
 simp at h1
 subst h1
 unfold rstep
 simp [h2,hv]
theorem step_app (ok:SeqOk E) {i:Nat} (hi:i<E.length) {v:VaV} (h:opS E L nm i=true→∀q,(wS E L nm i).getLast?=some q→q.v≠v):rstep (wS E L nm i) ⟨(cntE E i:Int),(cntE E i:Int)+1,nm,v⟩=wS E L nm i++[⟨(cntE E i:Int),(cntE E i:Int)+1,nm,v⟩]:=by
 have o:=opS_last (L:=L) (nm:=nm) ok i (by omega)
 unfold rstep
 split
 ·next q hq =>
  rw [if_neg]
  rintro ⟨h1,h2⟩
  cases ho:opS E L nm i with
  |true=>exact h ho q hq h2
  |false=>exact o.2 ho q (List.mem_of_getLast? hq) h1
 ·rfl
theorem wS_mono (ok:SeqOk E):∀k i,i+k=E.length→(wS E L nm i).length≤(wS E L nm E.length).length
 |0,i,h=>by rw [show i=E.length by omega];exact Nat.le_refl _
 |k+1,i,h=>by
  refine Nat.le_trans ?_ (wS_mono ok k (i+1) (by omega))
  rw [wS]
  split
  ·split
   ·unfold rstep
    split
    ·split
     ·next q hq _ =>
      obtain ⟨A,e⟩:=List.getLast?_eq_some_iff.1 hq
      rw [e];simp
     ·simp
    ·simp
   ·exact Nat.le_refl _
  ·exact Nat.le_refl _
def allS (E:List Elt) (L:List MkV) (l:List ByteArray):List SpV:=l.flatMap fun nm=>wS E L nm E.length
theorem wS_mem (ok:SeqOk E):(∀p,p∈wS E L nm E.length↔Run (hE E L) p∧p.nm=nm)∧(wS E L nm E.length).Nodup:=by
 have r:=wS_runs (L:=L) (nm:=nm) ok E.length (Nat.le_refl _)
 refine ⟨fun p=>r.mem (fun j hj=>hE_out ok L nm (.inr ?_)) p,r.nodup⟩
 rw [cntE_len E (Nat.le_refl _)] at hj
 exact hj
theorem NamesIs.nodup {L:List MkV} {l:List ByteArray} (h:NamesIs L l):l.Nodup:=h.srt.imp fun {a b} q e=>by rw [e,ltS_irr] at q;cases q
theorem allS_mem (ok:SeqOk E) {l:List ByteArray} (h:NamesIs L l):(∀p,p∈allS E L l↔Run (hE E L) p)∧(allS E L l).Nodup:=by
 have nm_in:∀p,Run (hE E L) p→p.nm∈l:=fun p hp=>by
  obtain ⟨c,hc⟩:=List.exists_mem_of_ne_nil _ (run_name hp)
  have hn:=cvN_nm c hc
  have h1:=(List.mem_filter.1 (List.mem_filter.1 hc).1).1
  obtain ⟨x,hx,rfl⟩:=List.mem_map.1 h1
  exact (h.mem p.nm).2 ⟨x,hx,hn⟩
 refine ⟨fun p=> ?_, ?_⟩
 ·unfold allS
  rw [List.mem_flatMap]
  exact ⟨fun ⟨nm,_,hp⟩=>(((wS_mem ok).1 p).1 hp).1,fun hp=>⟨p.nm,nm_in p hp,((wS_mem ok).1 p).2 ⟨hp,rfl⟩⟩⟩
 ·have nd:l.Nodup:=h.nodup
  unfold allS
  clear h nm_in
  induction l with
  |nil=>simp
  |cons nm ns ih =>
   have n2:=List.nodup_cons.1 nd
   rw [List.flatMap_cons,List.nodup_append]
   refine ⟨(wS_mem ok).2,ih n2.2,fun p hp q hq e=> ?_⟩
   subst e
   obtain ⟨m,hm,hq⟩:=List.mem_flatMap.1 hq
   have e1:=(((wS_mem ok).1 p).1 hp).2
   have e2:=(((wS_mem ok).1 p).1 hq).2
   exact n2.1 (by rw [←e1,e2];exact hm)
theorem wS_few (ok:SeqOk E):(wS E L nm E.length).length≤(runsL (cvN E L nm) nm (cutsL (cvN E L nm))).length:=by
 obtain ⟨m,nd⟩:=wS_mem (L:=L) (nm:=nm) ok
 by_cases hc:cvN E L nm=[]
 ·have:wS E L nm E.length=[]:=List.eq_nil_iff_forall_not_mem.2 fun p hp=>by
   obtain ⟨a,b⟩:=(m p).1 hp
   exact run_name a (by rw [b];exact hc)
  rw [this];exact Nat.zero_le _
 ·obtain ⟨m2,nd2⟩:=runs_mem (h:=hE E L) (nm:=nm) hc cvN_lt (fun j=>rfl)
  exact Nat.le_of_eq ((List.perm_ext_iff_of_nodup nd nd2).2 fun p=>(m p).trans (m2 p).symm).length_eq
theorem allS_few (ok:SeqOk E) {l:List ByteArray} (nd:l.Nodup):(allS E L l).length≤2*L.length:=by
 refine Nat.le_trans ?_ (flat_few (E:=E) (L:=L) nd)
 unfold allS
 clear nd
 induction l with
 |nil=>simp
 |cons a ns ih =>
  rw [List.flatMap_cons,List.flatMap_cons,List.length_append,List.length_append]
  have:=wS_few (L:=L) (nm:=a) ok
  omega
theorem allS_part (ok:SeqOk E) {l:List ByteArray} (nd:l.Nodup) {n:Nat} {nm:ByteArray} (hn:l[n]? =some nm) {i:Nat} (hi:i≤E.length):(allS E L (l.take n)++wS E L nm i).length≤2*L.length:=by
 refine Nat.le_trans ?_ (allS_few (L:=L) ok nd)
 have h1:=wS_mono (L:=L) (nm:=nm) ok (E.length-i) i (by omega)
 have hl:=(List.getElem?_eq_some_iff.1 hn)
 have e:l=l.take n++nm::l.drop (n+1):=by rw [←hl.2,List.getElem_cons_drop,List.take_append_drop]
 have e2:allS E L l=allS E L (l.take n)++(wS E L nm E.length++allS E L (l.drop (n+1))):=by
  conv=>lhs;rw [e]
  unfold allS
  rw [List.flatMap_append,List.flatMap_cons]
 rw [e2]
 simp only [List.length_append]
 omega
end
end Go.Proofs.YtifendlpeebofaaGreatDoor
namespace Go.Proofs.YtifendlpeebofaaGreatDoor
open Go.RowKit Go.Shelf Sq
def isN (nm:ByteArray) (x:MkV):Bool:=decide (x.nm=nm)
theorem find_cons_nm (nm:ByteArray) (p:MkV→Bool) (x:MkV) (l:List MkV):((x::l).find? fun y=>isN nm y&&p y)=if x.nm=nm∧p x=true then some x else l.find? fun y=>isN nm y&&p y:=by
 rw [List.find?_cons]
 unfold isN
 by_cases h:x.nm=nm∧p x=true
 ·rw [if_pos h];simp [h.1,h.2]
 ·rw [if_neg h]
  have:(decide (x.nm=nm)&&p x)=false:=by
   by_cases e:x.nm=nm
   ·have:p x=false:=by
     cases q:p x with
     |false=>rfl
     |true=>exact absurd ⟨e,q⟩ h
    simp [this]
   ·simp [e]
  rw [this]
theorem step_find (E:List Elt) (r:Int):∀(l acc:List MkV),(acc.map (·.nm)).Nodup→((l.foldl (covStep E r) acc).map (·.nm)).Nodup∧∀nm,(l.foldl (covStep E r) acc).find? (isN nm)=(acc.find? (isN nm)).or (l.find? fun y=>isN nm y&&covR E r y)
 |[],acc,h=>⟨h,fun nm=>by simp⟩
 |x::l,acc,h=>by
  rw [List.foldl_cons]
  by_cases hh:(acc.any fun y=>decide (y.nm=x.nm))=true
  ·have e:covStep E r acc x=acc:=by unfold covStep;rw [if_pos hh]
   rw [e]
   obtain ⟨h1,h2⟩:=step_find E r l acc h
   refine ⟨h1,fun nm=> ?_⟩
   rw [h2,find_cons_nm]
   by_cases q:x.nm=nm∧covR E r x=true
   ·rw [if_pos q]
    cases f:acc.find? (isN nm) with
    |some y=>rfl
    |none =>
     obtain ⟨y,hy,hy2⟩:=List.any_eq_true.1 hh
     have:=List.find?_eq_none.1 f y hy
     unfold isN at this
     rw [←q.1] at this
     exact absurd hy2 this
   ·rw [if_neg q]
  ·by_cases hc:(reachP E x).1≤r∧r<(reachP E x).2
   ·have e:covStep E r acc x=acc++[x]:=by unfold covStep;rw [if_neg hh,if_pos hc]
    have hn:x.nm∉acc.map (·.nm):=fun q=>by
      obtain ⟨y,hy,e2⟩:=List.mem_map.1 q
      exact hh (List.any_eq_true.2 ⟨y,hy,decide_eq_true e2⟩)
    rw [e]
    obtain ⟨h1,h2⟩:=step_find E r l (acc++[x]) (by
      rw [List.map_append,List.nodup_append]
      refine ⟨h,by simp,fun a ha b hb e2=> ?_⟩
      simp at hb
      rw [←hb, ←e2] at hn
      exact hn ha)
    refine ⟨h1,fun nm=> ?_⟩
    have cr:covR E r x=true:=decide_eq_true hc
    rw [h2,find_cons_nm,List.find?_append,Option.or_assoc]
    congr 1
    by_cases q:x.nm=nm
    ·rw [if_pos ⟨q,cr⟩]
     have:isN nm x=true:=decide_eq_true q
     simp [List.find?_cons,this]
    ·rw [if_neg (fun z=>q z.1)]
     have:isN nm x=false:=decide_eq_false q
     simp [List.find?_cons,this]
   ·have e:covStep E r acc x=acc:=by unfold covStep;rw [if_neg hh,if_neg hc]
    rw [e]
    obtain ⟨h1,h2⟩:=step_find E r l acc h
    refine ⟨h1,fun nm=> ?_⟩
    rw [h2,find_cons_nm,if_neg (fun q=>hc (of_decide_eq_true q.2))]
theorem cov_nodup (E:List Elt) (L:List MkV) (r:Int):((covL E L r).map (·.nm)).Nodup:=(step_find E r L.reverse [] (by simp)).1
theorem cov_find (E:List Elt) (L:List MkV) (r:Int) (nm:ByteArray):(covL E L r).find? (isN nm)=(L.filter fun x=>decide (x.nm=nm)&&covR E r x).getLast?:=by
 unfold covL
 rw [(step_find E r L.reverse [] (by simp)).2]
 rw [show ([]:List MkV).find? (isN nm)=none from rfl,Option.none_or, ←List.head?_filter,List.filter_reverse,List.head?_reverse]
 rfl
theorem cov_mem {E:List Elt} {L:List MkV} {r:Int} {x:MkV}:x∈covL E L r↔(L.filter fun y=>decide (y.nm=x.nm)&&covR E r y).getLast?=some x:=by
 rw [←cov_find]
 constructor
 ·intro h
  cases f:(covL E L r).find? (isN x.nm) with
  |none=>exact absurd (show isN x.nm x=true from decide_eq_true rfl) (List.find?_eq_none.1 f x h)
  |some y =>
   have hy:=List.mem_of_find?_eq_some f
   have e0:isN x.nm y=true:=List.find?_some f
   have e:y.nm=x.nm:=of_decide_eq_true e0
   have nd:=cov_nodup E L r
   obtain ⟨i,hi⟩:=List.mem_iff_getElem?.1 h
   obtain ⟨j,hj⟩:=List.mem_iff_getElem?.1 hy
   have hil:=(List.getElem?_eq_some_iff.1 hi).1
   have hjl:=(List.getElem?_eq_some_iff.1 hj).1
   have:i=j:=(List.getElem?_inj (by rw [List.length_map];exact hil) nd).1 (by rw [List.getElem?_map,List.getElem?_map,hi,hj];simp [e])
   rw [this,hj] at hi
   exact hi
 ·exact fun h=>List.mem_of_find?_eq_some h
theorem spL_mem {f t:Int} {C:List MkV} {p:SpV}:p∈spL f t C↔ ∃x∈C,x.v.k≠0∧p=⟨f,t,x.nm,x.v⟩:=by
 unfold spL
 rw [List.mem_map]
 constructor
 ·rintro ⟨x,hx,rfl⟩
  obtain ⟨h1,h2⟩:=List.mem_filter.1 hx
  exact ⟨x,h1,of_decide_eq_true h2,rfl⟩
 ·rintro ⟨x,h1,h2,rfl⟩
  exact ⟨x,List.mem_filter.2 ⟨h1,decide_eq_true h2⟩,rfl⟩
theorem ov_mem {E:List Elt} {L:List MkV} {r f t:Int} {p:SpV}:p∈spL f t (covL E L r)↔p.fr=f∧p.to=t∧hR E L p.nm r=some p.v:=by
 rw [spL_mem]
 constructor
 ·rintro ⟨x,hx,hk,rfl⟩
  refine ⟨rfl,rfl, ?_⟩
  have:=cov_mem.1 hx
  unfold hR
  rw [this]
  show (if x.v.k=0 then none else some x.v)=_
  rw [if_neg hk]
 ·rintro ⟨rfl,rfl,h⟩
  unfold hR at h
  cases q:(L.filter fun x=>decide (x.nm=p.nm)&&covR E r x).getLast? with
  |none=>rw [q] at h;cases h
  |some x =>
   rw [q] at h
   have h':(if x.v.k=0 then none else some x.v)=some p.v:=h
   have hm:=List.mem_of_getLast? q
   have hn:x.nm=p.nm:=by
        have:=(List.mem_filter.1 hm).2
        simp only [Bool.and_eq_true,decide_eq_true_eq] at this
        exact this.1
   split at h'
   ·cases h'
   ·rename_i hk
    refine ⟨x,cov_mem.2 (by rw [hn];exact q),hk, ?_⟩
    rw [hn,Option.some.inj h']
theorem ov_nodup (E:List Elt) (L:List MkV) (r f t:Int):((spL f t (covL E L r)).map (·.nm)).Nodup:=by
 have e:(spL f t (covL E L r)).map (·.nm)=((covL E L r).filter fun x=>decide (x.v.k≠0)).map (·.nm):=by
  unfold spL
  rw [List.map_map]
  rfl
 rw [e]
 exact (cov_nodup E L r).sublist (List.Sublist.map _ List.filter_sublist)
end Go.Proofs.YtifendlpeebofaaGreatDoor
namespace Go.Proofs.YtifendlpeebofaaGreatDoor
open Go.RowKit
section
variable {w:World} {a:Act} {o:Oper} {x y:Operand}
theorem ex_eq64n {p q:Int} (ho:o.op= .binOp .eql 2 x y 2) (hx:a.eval x= .int .i64 p) (hy:a.eval y= .int .i64 q) (h:p≠q):(execOp a.eval o).run Tryz.prog w= .ok (.value (.bool false)) w:=by
 unfold execOp
 simp only [ho,hx,hy]
 go_simp
theorem ex_equ64n {p q:Int} (ho:o.op= .binOp .eql 123 x y 123) (hx:a.eval x= .int .u64 p) (hy:a.eval y= .int .u64 q) (h:p≠q):(execOp a.eval o).run Tryz.prog w= .ok (.value (.bool false)) w:=by
 unfold execOp
 simp only [ho,hx,hy]
 go_simp
theorem ex_eqTr {s t:ByteArray} {r:Bool} (ho:o.op= .binOp .eql 9 x y 9) (hx:a.eval x= .string s) (hy:a.eval y= .string t) (hr:decide (s=t)=r):(execOp a.eval o).run Tryz.prog w= .ok (.value (.bool r)) w:=by
 refine exec_binOp ho hx hy ?_ ?_
 ·kernel_rfl
 ·have e:(s.toList==t.toList)=r:=by
   subst hr
   by_cases h:s=t
   ·subst h;simp
   ·rw [decide_eq_false h]
    have:¬s.toList=t.toList:=fun q=>h (ba_inj q)
    simpa using this
  first
   |(go_simp;done)
   |(go_simp;exact e)
end
def samK_ops:Array Oper:=(⟨_,rfl⟩:{o // some o=rgB Tryz.f35 1}).1
theorem samK {b2 b3:Nat} {x y:VaV} (S:World→Prop) (a:Act) (w:World) (Q:Exit→Act→World→Prop) (zz:a.tmps.size=33)
 (t2:a.tmps.getD 2 undef= .pointer (some ⟨b2,0,none⟩))
 (t3:a.tmps.getD 3 undef= .pointer (some ⟨b3,0,none⟩))
 (h0:S w.drew) (hk:¬x.k=y.k) (Lb20:∀W,S W→(Instr.loadAt 37 (.pointer (some ⟨b2,0+0,none⟩))).run Tryz.prog W= .ok (.int .u8 x.k) W) (Lb21:∀W,S W→(Instr.loadAt 2 (.pointer (some ⟨b2,0+1,none⟩))).run Tryz.prog W= .ok (.int .i64 x.n) W) (Lb22:∀W,S W→(Instr.loadAt 38 (.pointer (some ⟨b2,0+2,none⟩))).run Tryz.prog W= .ok (.float .f64 x.f) W) (Lb23:∀W,S W→(Instr.loadAt 9 (.pointer (some ⟨b2,0+3,none⟩))).run Tryz.prog W= .ok (.string x.s) W) (Lb30:∀W,S W→(Instr.loadAt 37 (.pointer (some ⟨b3,0+0,none⟩))).run Tryz.prog W= .ok (.int .u8 y.k) W) (Lb31:∀W,S W→(Instr.loadAt 2 (.pointer (some ⟨b3,0+1,none⟩))).run Tryz.prog W= .ok (.int .i64 y.n) W) (Lb32:∀W,S W→(Instr.loadAt 38 (.pointer (some ⟨b3,0+2,none⟩))).run Tryz.prog W= .ok (.float .f64 y.f) W) (Lb33:∀W,S W→(Instr.loadAt 9 (.pointer (some ⟨b3,0+3,none⟩))).run Tryz.prog W= .ok (.string y.s) W)
 (h:∀a' w',S w'→a'=((((((((((((((((((((((((((((a.put (some 5) (.pointer (some ⟨b2,0+0,none⟩))).put (some 6) (.int .u8 x.k)).put (some 7) (.pointer (some ⟨b3,0+0,none⟩))).put (some 8) (.int .u8 y.k)).put (some 9) (.bool false)).put (some 10) (.bool false)).put (some 11) (undef)).put (some 12) (undef)).put (some 13) (undef)).put (some 14) (undef)).put (some 15) (undef)).put (some 16) (.bool false)).put (some 17) (.bool false)).put (some 18) (undef)).put (some 19) (undef)).put (some 20) (undef)).put (some 21) (undef)).put (some 22) (undef)).put (some 23) (undef)).put (some 24) (undef)).put (some 25) (.bool false)).put (some 26) (.bool false)).put (some 27) (undef)).put (some 28) (undef)).put (some 29) (undef)).put (some 30) (undef)).put (some 31) (undef)).put (some 32) (.bool false)).put (some 4) (.bool false)→Q .normal a' w') :
 (Code.region 1 samK_ops true).wp Tryz.prog Q a w:=by
 refine y0 (fun w'=>S w') (h0) (fun hHeld=> ?_)
 refine yv 0 rfl rfl (fun w1 hw=>xfa rfl (zi t2 rfl) (fg_40_0 _ _ _)) hHeld ?_
 refine yv 1 rfl rfl (fun w1 hw=>xld rfl (zg zz rfl) (Lb20 _ hw)) hHeld ?_
 refine yv 2 rfl rfl (fun w1 hw=>xfa rfl (zi t3 rfl) (fg_40_0 _ _ _)) hHeld ?_
 refine yv 3 rfl rfl (fun w1 hw=>xld rfl (zg zz rfl) (Lb30 _ hw)) hHeld ?_
 refine yv (v:= .bool false) 4 rfl rfl (fun w1 hw=>ex_eqlK rfl (zg zz rfl) (zg zz rfl) (decide_eq_false hk)) hHeld ?_
 refine yv 5 rfl rfl (fun w1 hw=>xmv rfl (zg zz rfl)) hHeld ?_
 refine yn 6 rfl (zx zz rfl rfl rfl (zg zz rfl)) hHeld ?_
 refine yn 7 rfl (zx zz rfl rfl rfl (zg zz rfl)) hHeld ?_
 refine yn 8 rfl (zx zz rfl rfl rfl (zg zz rfl)) hHeld ?_
 refine yn 9 rfl (zx zz rfl rfl rfl (zg zz rfl)) hHeld ?_
 refine yn 10 rfl (zx zz rfl rfl rfl (zg zz rfl)) hHeld ?_
 refine yv 11 rfl rfl (fun w1 hw=>exec_pickF rfl (zg zz rfl) rfl) hHeld ?_
 refine yv 12 rfl rfl (fun w1 hw=>xmv rfl (zg zz rfl)) hHeld ?_
 refine yn 13 rfl (zx zz rfl rfl rfl (zg zz rfl)) hHeld ?_
 refine yn 14 rfl (zx zz rfl rfl rfl (zg zz rfl)) hHeld ?_
 refine yn 15 rfl (zx zz rfl rfl rfl (zg zz rfl)) hHeld ?_
 refine yn 16 rfl (zx zz rfl rfl rfl (zg zz rfl)) hHeld ?_
 refine yn 17 rfl (zx zz rfl rfl rfl (zg zz rfl)) hHeld ?_
 refine yn 18 rfl (zx zz rfl rfl rfl (zg zz rfl)) hHeld ?_
 refine yn 19 rfl (zx zz rfl rfl rfl (zg zz rfl)) hHeld ?_
 refine yv 20 rfl rfl (fun w1 hw=>exec_pickF rfl (zg zz rfl) rfl) hHeld ?_
 refine yv 21 rfl rfl (fun w1 hw=>xmv rfl (zg zz rfl)) hHeld ?_
 refine yn 22 rfl (zx zz rfl rfl rfl (zg zz rfl)) hHeld ?_
 refine yn 23 rfl (zx zz rfl rfl rfl (zg zz rfl)) hHeld ?_
 refine yn 24 rfl (zx zz rfl rfl rfl (zg zz rfl)) hHeld ?_
 refine yn 25 rfl (zx zz rfl rfl rfl (zg zz rfl)) hHeld ?_
 refine yn 26 rfl (zx zz rfl rfl rfl (zg zz rfl)) hHeld ?_
 refine yv 27 rfl rfl (fun w1 hw=>exec_pickF rfl (zg zz rfl) rfl) hHeld ?_
 refine yv 28 rfl rfl (fun w1 hw=>xas rfl (zg zz rfl)) hHeld ?_
 exact ye rfl (h _ _ (hHeld) rfl)
theorem samN {b2 b3:Nat} {x y:VaV} (S:World→Prop) (a:Act) (w:World) (Q:Exit→Act→World→Prop) (zz:a.tmps.size=33)
 (t2:a.tmps.getD 2 undef= .pointer (some ⟨b2,0,none⟩))
 (t3:a.tmps.getD 3 undef= .pointer (some ⟨b3,0,none⟩))
 (h0:S w.drew) (hk:x.k=y.k) (hn:x.n≠y.n) (Lb20:∀W,S W→(Instr.loadAt 37 (.pointer (some ⟨b2,0+0,none⟩))).run Tryz.prog W= .ok (.int .u8 x.k) W) (Lb21:∀W,S W→(Instr.loadAt 2 (.pointer (some ⟨b2,0+1,none⟩))).run Tryz.prog W= .ok (.int .i64 x.n) W) (Lb22:∀W,S W→(Instr.loadAt 38 (.pointer (some ⟨b2,0+2,none⟩))).run Tryz.prog W= .ok (.float .f64 x.f) W) (Lb23:∀W,S W→(Instr.loadAt 9 (.pointer (some ⟨b2,0+3,none⟩))).run Tryz.prog W= .ok (.string x.s) W) (Lb30:∀W,S W→(Instr.loadAt 37 (.pointer (some ⟨b3,0+0,none⟩))).run Tryz.prog W= .ok (.int .u8 y.k) W) (Lb31:∀W,S W→(Instr.loadAt 2 (.pointer (some ⟨b3,0+1,none⟩))).run Tryz.prog W= .ok (.int .i64 y.n) W) (Lb32:∀W,S W→(Instr.loadAt 38 (.pointer (some ⟨b3,0+2,none⟩))).run Tryz.prog W= .ok (.float .f64 y.f) W) (Lb33:∀W,S W→(Instr.loadAt 9 (.pointer (some ⟨b3,0+3,none⟩))).run Tryz.prog W= .ok (.string y.s) W)
 (h:∀a' w',S w'→a'=((((((((((((((((((((((((((((a.put (some 5) (.pointer (some ⟨b2,0+0,none⟩))).put (some 6) (.int .u8 x.k)).put (some 7) (.pointer (some ⟨b3,0+0,none⟩))).put (some 8) (.int .u8 y.k)).put (some 9) (.bool true)).put (some 10) (.bool true)).put (some 11) (.pointer (some ⟨b2,0+1,none⟩))).put (some 12) (.int .i64 x.n)).put (some 13) (.pointer (some ⟨b3,0+1,none⟩))).put (some 14) (.int .i64 y.n)).put (some 15) (.bool false)).put (some 16) (.bool false)).put (some 17) (.bool false)).put (some 18) (undef)).put (some 19) (undef)).put (some 20) (undef)).put (some 21) (undef)).put (some 22) (undef)).put (some 23) (undef)).put (some 24) (undef)).put (some 25) (.bool false)).put (some 26) (.bool false)).put (some 27) (undef)).put (some 28) (undef)).put (some 29) (undef)).put (some 30) (undef)).put (some 31) (undef)).put (some 32) (.bool false)).put (some 4) (.bool false)→Q .normal a' w') :
 (Code.region 1 samK_ops true).wp Tryz.prog Q a w:=by
 refine y0 (fun w'=>S w') (h0) (fun hHeld=> ?_)
 refine yv 0 rfl rfl (fun w1 hw=>xfa rfl (zi t2 rfl) (fg_40_0 _ _ _)) hHeld ?_
 refine yv 1 rfl rfl (fun w1 hw=>xld rfl (zg zz rfl) (Lb20 _ hw)) hHeld ?_
 refine yv 2 rfl rfl (fun w1 hw=>xfa rfl (zi t3 rfl) (fg_40_0 _ _ _)) hHeld ?_
 refine yv 3 rfl rfl (fun w1 hw=>xld rfl (zg zz rfl) (Lb30 _ hw)) hHeld ?_
 refine yv (v:= .bool true) 4 rfl rfl (fun w1 hw=>ex_eqlK rfl (zg zz rfl) (zg zz rfl) (decide_eq_true hk)) hHeld ?_
 refine yv 5 rfl rfl (fun w1 hw=>xmv rfl (zg zz rfl)) hHeld ?_
 refine yv 6 rfl (zw zz rfl rfl rfl (zg zz rfl)) (fun w1 hw=>xfa rfl (zi t2 rfl) (fg_40_1 _ _ _)) hHeld ?_
 refine yv 7 rfl (zw zz rfl rfl rfl (zg zz rfl)) (fun w1 hw=>xld rfl (zg zz rfl) (Lb21 _ hw)) hHeld ?_
 refine yv 8 rfl (zw zz rfl rfl rfl (zg zz rfl)) (fun w1 hw=>xfa rfl (zi t3 rfl) (fg_40_1 _ _ _)) hHeld ?_
 refine yv 9 rfl (zw zz rfl rfl rfl (zg zz rfl)) (fun w1 hw=>xld rfl (zg zz rfl) (Lb31 _ hw)) hHeld ?_
 refine yv (v:= .bool false) 10 rfl (zw zz rfl rfl rfl (zg zz rfl)) (fun w1 hw=>ex_eq64n rfl (zg zz rfl) (zg zz rfl) hn) hHeld ?_
 refine yv 11 rfl rfl (fun w1 hw=>exec_pickT rfl (zg zz rfl) (zg zz rfl)) hHeld ?_
 refine yv 12 rfl rfl (fun w1 hw=>xmv rfl (zg zz rfl)) hHeld ?_
 refine yn 13 rfl (zx zz rfl rfl rfl (zg zz rfl)) hHeld ?_
 refine yn 14 rfl (zx zz rfl rfl rfl (zg zz rfl)) hHeld ?_
 refine yn 15 rfl (zx zz rfl rfl rfl (zg zz rfl)) hHeld ?_
 refine yn 16 rfl (zx zz rfl rfl rfl (zg zz rfl)) hHeld ?_
 refine yn 17 rfl (zx zz rfl rfl rfl (zg zz rfl)) hHeld ?_
 refine yn 18 rfl (zx zz rfl rfl rfl (zg zz rfl)) hHeld ?_
 refine yn 19 rfl (zx zz rfl rfl rfl (zg zz rfl)) hHeld ?_
 refine yv 20 rfl rfl (fun w1 hw=>exec_pickF rfl (zg zz rfl) rfl) hHeld ?_
 refine yv 21 rfl rfl (fun w1 hw=>xmv rfl (zg zz rfl)) hHeld ?_
 refine yn 22 rfl (zx zz rfl rfl rfl (zg zz rfl)) hHeld ?_
 refine yn 23 rfl (zx zz rfl rfl rfl (zg zz rfl)) hHeld ?_
 refine yn 24 rfl (zx zz rfl rfl rfl (zg zz rfl)) hHeld ?_
 refine yn 25 rfl (zx zz rfl rfl rfl (zg zz rfl)) hHeld ?_
 refine yn 26 rfl (zx zz rfl rfl rfl (zg zz rfl)) hHeld ?_
 refine yv 27 rfl rfl (fun w1 hw=>exec_pickF rfl (zg zz rfl) rfl) hHeld ?_
 refine yv 28 rfl rfl (fun w1 hw=>xas rfl (zg zz rfl)) hHeld ?_
 exact ye rfl (h _ _ (hHeld) rfl)
theorem samF {b2 b3:Nat} {x y:VaV} (S:World→Prop) (a:Act) (w:World) (Q:Exit→Act→World→Prop) (zz:a.tmps.size=33)
 (t2:a.tmps.getD 2 undef= .pointer (some ⟨b2,0,none⟩))
 (t3:a.tmps.getD 3 undef= .pointer (some ⟨b3,0,none⟩))
 (h0:S w.drew) (hk:x.k=y.k) (hn:x.n=y.n) (hf:(x.f:Int)≠(y.f:Int)) (Lb20:∀W,S W→(Instr.loadAt 37 (.pointer (some ⟨b2,0+0,none⟩))).run Tryz.prog W= .ok (.int .u8 x.k) W) (Lb21:∀W,S W→(Instr.loadAt 2 (.pointer (some ⟨b2,0+1,none⟩))).run Tryz.prog W= .ok (.int .i64 x.n) W) (Lb22:∀W,S W→(Instr.loadAt 38 (.pointer (some ⟨b2,0+2,none⟩))).run Tryz.prog W= .ok (.float .f64 x.f) W) (Lb23:∀W,S W→(Instr.loadAt 9 (.pointer (some ⟨b2,0+3,none⟩))).run Tryz.prog W= .ok (.string x.s) W) (Lb30:∀W,S W→(Instr.loadAt 37 (.pointer (some ⟨b3,0+0,none⟩))).run Tryz.prog W= .ok (.int .u8 y.k) W) (Lb31:∀W,S W→(Instr.loadAt 2 (.pointer (some ⟨b3,0+1,none⟩))).run Tryz.prog W= .ok (.int .i64 y.n) W) (Lb32:∀W,S W→(Instr.loadAt 38 (.pointer (some ⟨b3,0+2,none⟩))).run Tryz.prog W= .ok (.float .f64 y.f) W) (Lb33:∀W,S W→(Instr.loadAt 9 (.pointer (some ⟨b3,0+3,none⟩))).run Tryz.prog W= .ok (.string y.s) W)
 (h:∀a' w',S w'→a'=((((((((((((((((((((((((((((a.put (some 5) (.pointer (some ⟨b2,0+0,none⟩))).put (some 6) (.int .u8 x.k)).put (some 7) (.pointer (some ⟨b3,0+0,none⟩))).put (some 8) (.int .u8 y.k)).put (some 9) (.bool true)).put (some 10) (.bool true)).put (some 11) (.pointer (some ⟨b2,0+1,none⟩))).put (some 12) (.int .i64 x.n)).put (some 13) (.pointer (some ⟨b3,0+1,none⟩))).put (some 14) (.int .i64 y.n)).put (some 15) (.bool true)).put (some 16) (.bool true)).put (some 17) (.bool true)).put (some 18) (.pointer (some ⟨b2,0+2,none⟩))).put (some 19) (.float .f64 x.f)).put (some 21) (.pointer (some ⟨b3,0+2,none⟩))).put (some 22) (.float .f64 y.f)).put (some 20) (.int .u64 (x.f:Int))).put (some 23) (.int .u64 (y.f:Int))).put (some 24) (.bool false)).put (some 25) (.bool false)).put (some 26) (.bool false)).put (some 27) (undef)).put (some 28) (undef)).put (some 29) (undef)).put (some 30) (undef)).put (some 31) (undef)).put (some 32) (.bool false)).put (some 4) (.bool false)→Q .normal a' w') :
 (Code.region 1 samK_ops true).wp Tryz.prog Q a w:=by
 refine y0 (fun w'=>S w') (h0) (fun hHeld=> ?_)
 refine yv 0 rfl rfl (fun w1 hw=>xfa rfl (zi t2 rfl) (fg_40_0 _ _ _)) hHeld ?_
 refine yv 1 rfl rfl (fun w1 hw=>xld rfl (zg zz rfl) (Lb20 _ hw)) hHeld ?_
 refine yv 2 rfl rfl (fun w1 hw=>xfa rfl (zi t3 rfl) (fg_40_0 _ _ _)) hHeld ?_
 refine yv 3 rfl rfl (fun w1 hw=>xld rfl (zg zz rfl) (Lb30 _ hw)) hHeld ?_
 refine yv (v:= .bool true) 4 rfl rfl (fun w1 hw=>ex_eqlK rfl (zg zz rfl) (zg zz rfl) (decide_eq_true hk)) hHeld ?_
 refine yv 5 rfl rfl (fun w1 hw=>xmv rfl (zg zz rfl)) hHeld ?_
 refine yv 6 rfl (zw zz rfl rfl rfl (zg zz rfl)) (fun w1 hw=>xfa rfl (zi t2 rfl) (fg_40_1 _ _ _)) hHeld ?_
 refine yv 7 rfl (zw zz rfl rfl rfl (zg zz rfl)) (fun w1 hw=>xld rfl (zg zz rfl) (Lb21 _ hw)) hHeld ?_
 refine yv 8 rfl (zw zz rfl rfl rfl (zg zz rfl)) (fun w1 hw=>xfa rfl (zi t3 rfl) (fg_40_1 _ _ _)) hHeld ?_
 refine yv 9 rfl (zw zz rfl rfl rfl (zg zz rfl)) (fun w1 hw=>xld rfl (zg zz rfl) (Lb31 _ hw)) hHeld ?_
 refine yv (v:= .bool true) 10 rfl (zw zz rfl rfl rfl (zg zz rfl)) (fun w1 hw=>ex_eq64 (p:=x.n) rfl (zg zz rfl) (by rw [hn];exact (zg zz rfl))) hHeld ?_
 refine yv 11 rfl rfl (fun w1 hw=>exec_pickT rfl (zg zz rfl) (zg zz rfl)) hHeld ?_
 refine yv 12 rfl rfl (fun w1 hw=>xmv rfl (zg zz rfl)) hHeld ?_
 refine yv 13 rfl (zw zz rfl rfl rfl (zg zz rfl)) (fun w1 hw=>xfa rfl (zi t2 rfl) (fg_40_2 _ _ _)) hHeld ?_
 refine yv 14 rfl (zw zz rfl rfl rfl (zg zz rfl)) (fun w1 hw=>xld rfl (zg zz rfl) (Lb22 _ hw)) hHeld ?_
 refine yv 16 rfl (zw zz rfl rfl rfl (zg zz rfl)) (fun w1 hw=>xfa rfl (zi t3 rfl) (fg_40_2 _ _ _)) hHeld ?_
 refine yv 17 rfl (zw zz rfl rfl rfl (zg zz rfl)) (fun w1 hw=>xld rfl (zg zz rfl) (Lb32 _ hw)) hHeld ?_
 refine yr (v:= .int .u64 (x.f:Int)) 15 rfl (zw zz rfl rfl rfl (zg zz rfl)) (exec_fb rfl (zg zz rfl)) (h0) (fun hHeld=> ?_)
 refine yr (v:= .int .u64 (y.f:Int)) 18 rfl (zw zz rfl rfl rfl (zg zz rfl)) (exec_fb rfl (zg zz rfl)) (h0) (fun hHeld=> ?_)
 refine yv (v:= .bool false) 19 rfl (zw zz rfl rfl rfl (zg zz rfl)) (fun w1 hw=>ex_equ64n rfl (zg zz rfl) (zg zz rfl) hf) hHeld ?_
 refine yv 20 rfl rfl (fun w1 hw=>exec_pickT rfl (zg zz rfl) (zg zz rfl)) hHeld ?_
 refine yv 21 rfl rfl (fun w1 hw=>xmv rfl (zg zz rfl)) hHeld ?_
 refine yn 22 rfl (zx zz rfl rfl rfl (zg zz rfl)) hHeld ?_
 refine yn 23 rfl (zx zz rfl rfl rfl (zg zz rfl)) hHeld ?_
 refine yn 24 rfl (zx zz rfl rfl rfl (zg zz rfl)) hHeld ?_
 refine yn 25 rfl (zx zz rfl rfl rfl (zg zz rfl)) hHeld ?_
 refine yn 26 rfl (zx zz rfl rfl rfl (zg zz rfl)) hHeld ?_
 refine yv 27 rfl rfl (fun w1 hw=>exec_pickF rfl (zg zz rfl) rfl) hHeld ?_
 refine yv 28 rfl rfl (fun w1 hw=>xas rfl (zg zz rfl)) hHeld ?_
 exact ye rfl (h _ _ (h0) rfl)
theorem samS {b2 b3:Nat} {x y:VaV} {r:Bool} (S:World→Prop) (a:Act) (w:World) (Q:Exit→Act→World→Prop) (zz:a.tmps.size=33)
 (t2:a.tmps.getD 2 undef= .pointer (some ⟨b2,0,none⟩))
 (t3:a.tmps.getD 3 undef= .pointer (some ⟨b3,0,none⟩))
 (h0:S w.drew) (hk:x.k=y.k) (hn:x.n=y.n) (hf:(x.f:Int)=(y.f:Int)) (hr:decide (x.s=y.s)=r) (Lb20:∀W,S W→(Instr.loadAt 37 (.pointer (some ⟨b2,0+0,none⟩))).run Tryz.prog W= .ok (.int .u8 x.k) W) (Lb21:∀W,S W→(Instr.loadAt 2 (.pointer (some ⟨b2,0+1,none⟩))).run Tryz.prog W= .ok (.int .i64 x.n) W) (Lb22:∀W,S W→(Instr.loadAt 38 (.pointer (some ⟨b2,0+2,none⟩))).run Tryz.prog W= .ok (.float .f64 x.f) W) (Lb23:∀W,S W→(Instr.loadAt 9 (.pointer (some ⟨b2,0+3,none⟩))).run Tryz.prog W= .ok (.string x.s) W) (Lb30:∀W,S W→(Instr.loadAt 37 (.pointer (some ⟨b3,0+0,none⟩))).run Tryz.prog W= .ok (.int .u8 y.k) W) (Lb31:∀W,S W→(Instr.loadAt 2 (.pointer (some ⟨b3,0+1,none⟩))).run Tryz.prog W= .ok (.int .i64 y.n) W) (Lb32:∀W,S W→(Instr.loadAt 38 (.pointer (some ⟨b3,0+2,none⟩))).run Tryz.prog W= .ok (.float .f64 y.f) W) (Lb33:∀W,S W→(Instr.loadAt 9 (.pointer (some ⟨b3,0+3,none⟩))).run Tryz.prog W= .ok (.string y.s) W)
 (h:∀a' w',S w'→a'=((((((((((((((((((((((((((((a.put (some 5) (.pointer (some ⟨b2,0+0,none⟩))).put (some 6) (.int .u8 x.k)).put (some 7) (.pointer (some ⟨b3,0+0,none⟩))).put (some 8) (.int .u8 y.k)).put (some 9) (.bool true)).put (some 10) (.bool true)).put (some 11) (.pointer (some ⟨b2,0+1,none⟩))).put (some 12) (.int .i64 x.n)).put (some 13) (.pointer (some ⟨b3,0+1,none⟩))).put (some 14) (.int .i64 y.n)).put (some 15) (.bool true)).put (some 16) (.bool true)).put (some 17) (.bool true)).put (some 18) (.pointer (some ⟨b2,0+2,none⟩))).put (some 19) (.float .f64 x.f)).put (some 21) (.pointer (some ⟨b3,0+2,none⟩))).put (some 22) (.float .f64 y.f)).put (some 20) (.int .u64 (x.f:Int))).put (some 23) (.int .u64 (y.f:Int))).put (some 24) (.bool true)).put (some 25) (.bool true)).put (some 26) (.bool true)).put (some 27) (.pointer (some ⟨b2,0+3,none⟩))).put (some 28) (.string x.s)).put (some 29) (.pointer (some ⟨b3,0+3,none⟩))).put (some 30) (.string y.s)).put (some 31) (.bool r)).put (some 32) (.bool r)).put (some 4) (.bool r)→Q .normal a' w') :
 (Code.region 1 samK_ops true).wp Tryz.prog Q a w:=by
 refine y0 (fun w'=>S w') (h0) (fun hHeld=> ?_)
 refine yv 0 rfl rfl (fun w1 hw=>xfa rfl (zi t2 rfl) (fg_40_0 _ _ _)) hHeld ?_
 refine yv 1 rfl rfl (fun w1 hw=>xld rfl (zg zz rfl) (Lb20 _ hw)) hHeld ?_
 refine yv 2 rfl rfl (fun w1 hw=>xfa rfl (zi t3 rfl) (fg_40_0 _ _ _)) hHeld ?_
 refine yv 3 rfl rfl (fun w1 hw=>xld rfl (zg zz rfl) (Lb30 _ hw)) hHeld ?_
 refine yv (v:= .bool true) 4 rfl rfl (fun w1 hw=>ex_eqlK rfl (zg zz rfl) (zg zz rfl) (decide_eq_true hk)) hHeld ?_
 refine yv 5 rfl rfl (fun w1 hw=>xmv rfl (zg zz rfl)) hHeld ?_
 refine yv 6 rfl (zw zz rfl rfl rfl (zg zz rfl)) (fun w1 hw=>xfa rfl (zi t2 rfl) (fg_40_1 _ _ _)) hHeld ?_
 refine yv 7 rfl (zw zz rfl rfl rfl (zg zz rfl)) (fun w1 hw=>xld rfl (zg zz rfl) (Lb21 _ hw)) hHeld ?_
 refine yv 8 rfl (zw zz rfl rfl rfl (zg zz rfl)) (fun w1 hw=>xfa rfl (zi t3 rfl) (fg_40_1 _ _ _)) hHeld ?_
 refine yv 9 rfl (zw zz rfl rfl rfl (zg zz rfl)) (fun w1 hw=>xld rfl (zg zz rfl) (Lb31 _ hw)) hHeld ?_
 refine yv (v:= .bool true) 10 rfl (zw zz rfl rfl rfl (zg zz rfl)) (fun w1 hw=>ex_eq64 (p:=x.n) rfl (zg zz rfl) (by rw [hn];exact (zg zz rfl))) hHeld ?_
 refine yv 11 rfl rfl (fun w1 hw=>exec_pickT rfl (zg zz rfl) (zg zz rfl)) hHeld ?_
 refine yv 12 rfl rfl (fun w1 hw=>xmv rfl (zg zz rfl)) hHeld ?_
 refine yv 13 rfl (zw zz rfl rfl rfl (zg zz rfl)) (fun w1 hw=>xfa rfl (zi t2 rfl) (fg_40_2 _ _ _)) hHeld ?_
 refine yv 14 rfl (zw zz rfl rfl rfl (zg zz rfl)) (fun w1 hw=>xld rfl (zg zz rfl) (Lb22 _ hw)) hHeld ?_
 refine yv 16 rfl (zw zz rfl rfl rfl (zg zz rfl)) (fun w1 hw=>xfa rfl (zi t3 rfl) (fg_40_2 _ _ _)) hHeld ?_
 refine yv 17 rfl (zw zz rfl rfl rfl (zg zz rfl)) (fun w1 hw=>xld rfl (zg zz rfl) (Lb32 _ hw)) hHeld ?_
 refine yr (v:= .int .u64 (x.f:Int)) 15 rfl (zw zz rfl rfl rfl (zg zz rfl)) (exec_fb rfl (zg zz rfl)) (h0) (fun hHeld=> ?_)
 refine yr (v:= .int .u64 (y.f:Int)) 18 rfl (zw zz rfl rfl rfl (zg zz rfl)) (exec_fb rfl (zg zz rfl)) (h0) (fun hHeld=> ?_)
 refine yv (v:= .bool true) 19 rfl (zw zz rfl rfl rfl (zg zz rfl)) (fun w1 hw=>ex_equ64 (p:=(x.f:Int)) rfl (zg zz rfl) (by rw [hf];exact (zg zz rfl))) hHeld ?_
 refine yv 20 rfl rfl (fun w1 hw=>exec_pickT rfl (zg zz rfl) (zg zz rfl)) hHeld ?_
 refine yv 21 rfl rfl (fun w1 hw=>xmv rfl (zg zz rfl)) hHeld ?_
 refine yv 22 rfl (zw zz rfl rfl rfl (zg zz rfl)) (fun w1 hw=>xfa rfl (zi t2 rfl) (fg_40_3 _ _ _)) hHeld ?_
 refine yv 23 rfl (zw zz rfl rfl rfl (zg zz rfl)) (fun w1 hw=>xld rfl (zg zz rfl) (Lb23 _ hw)) hHeld ?_
 refine yv 24 rfl (zw zz rfl rfl rfl (zg zz rfl)) (fun w1 hw=>xfa rfl (zi t3 rfl) (fg_40_3 _ _ _)) hHeld ?_
 refine yv 25 rfl (zw zz rfl rfl rfl (zg zz rfl)) (fun w1 hw=>xld rfl (zg zz rfl) (Lb33 _ hw)) hHeld ?_
 refine yv (v:= .bool r) 26 rfl (zw zz rfl rfl rfl (zg zz rfl)) (fun w1 hw=>ex_eqTr rfl (zg zz rfl) (zg zz rfl) hr) hHeld ?_
 refine yv 27 rfl rfl (fun w1 hw=>exec_pickT rfl (zg zz rfl) (zg zz rfl)) hHeld ?_
 refine yv 28 rfl rfl (fun w1 hw=>xas rfl (zg zz rfl)) hHeld ?_
 exact ye rfl (h _ _ (h0) rfl)
end Go.Proofs.YtifendlpeebofaaGreatDoor
namespace Go.Proofs.YtifendlpeebofaaGreatDoor
open Go.RowKit Go.Shelf Sq
attribute [local go_sem] Oper.semAt_some
theorem same_k (x y:VaV) (hk:¬x.k=y.k) (w:World):Calls Tryz.prog 35 #[x.v,y.v] w fun e w'=>e= .returned (.bool false)∧Below w.heap.size w w':=by
 obtain ⟨w1,hw1⟩:∃w1,w.alloc (.cells x.c.toArray 40)=w1:=⟨_,rfl⟩
 obtain ⟨w2,hw2⟩:∃w2,w1.alloc (.cells y.c.toArray 40)=w2:=⟨_,rfl⟩
 have p1:VaAt w1 w.heap.size x:=by rw [←hw1];exact heap_alloc_new _ _
 have b1:Below w.heap.size w w1:=by rw [←hw1];exact (Below.refl _ _).alloc (Nat.le_refl _) _
 have z1:w1.heap.size=w.heap.size+1:=by rw [←hw1];simp
 have p2:VaAt w2 (w.heap.size+1) y:=by rw [←hw2, ←z1];exact heap_alloc_new _ _
 have b2:Below w1.heap.size w1 w2:=by rw [←hw2];exact (Below.refl _ _).alloc (Nat.le_refl _) _
 have HB:=hidMk (And.intro (p1.below b2) (And.intro p2 (b1.trans (b2.mono b1.size))))
 have HW:=hidMk (And.intro hw1 hw2)
 clear p1 b1 z1 p2 b2 hw1 hw2
 show Calls Tryz.prog 35 #[.agg x.c.toArray, .agg y.c.toArray] w _
 go_enter Tryz.func35,Tryz.ntmps35
 go_upto_region 1 with fail
 rw [HW.out.1,HW.out.2]
 refine samK (b2:=w.heap.size) (b3:=w.heap.size+1) (x:=x) (y:=y) (fun W=>VaAt W w.heap.size x∧VaAt W (w.heap.size+1) y∧Below w.heap.size w W) _ w2 _ rfl rfl rfl ⟨HB.out.1,HB.out.2.1,HB.out.2.2.drew⟩ hk (fun W q=>load_kd q.1) (fun W q=>ld_vn q.1) (fun W q=>ld_vf q.1) (fun W q=>ld_vs q.1) (fun W q=>load_kd q.2.1) (fun W q=>ld_vn q.2.1) (fun W q=>ld_vf q.2.1) (fun W q=>ld_vs q.2.1) ?_
 intro a' w3 hf' ha
 have HF:=hidMk hf'
 subst ha
 simp only [Act.put,qsA,qsB,qsC]
 clear hf' HB HW
 go_wp2
 go_ret
 exact ⟨rfl,HF.out.2.2⟩
theorem same_n (x y:VaV) (hk:x.k=y.k) (hn:x.n≠y.n) (w:World):Calls Tryz.prog 35 #[x.v,y.v] w fun e w'=>e= .returned (.bool false)∧Below w.heap.size w w':=by
 obtain ⟨w1,hw1⟩:∃w1,w.alloc (.cells x.c.toArray 40)=w1:=⟨_,rfl⟩
 obtain ⟨w2,hw2⟩:∃w2,w1.alloc (.cells y.c.toArray 40)=w2:=⟨_,rfl⟩
 have p1:VaAt w1 w.heap.size x:=by rw [←hw1];exact heap_alloc_new _ _
 have b1:Below w.heap.size w w1:=by rw [←hw1];exact (Below.refl _ _).alloc (Nat.le_refl _) _
 have z1:w1.heap.size=w.heap.size+1:=by rw [←hw1];simp
 have p2:VaAt w2 (w.heap.size+1) y:=by rw [←hw2, ←z1];exact heap_alloc_new _ _
 have b2:Below w1.heap.size w1 w2:=by rw [←hw2];exact (Below.refl _ _).alloc (Nat.le_refl _) _
 have HB:=hidMk (And.intro (p1.below b2) (And.intro p2 (b1.trans (b2.mono b1.size))))
 have HW:=hidMk (And.intro hw1 hw2)
 clear p1 b1 z1 p2 b2 hw1 hw2
 show Calls Tryz.prog 35 #[.agg x.c.toArray, .agg y.c.toArray] w _
 go_enter Tryz.func35,Tryz.ntmps35
 go_upto_region 1 with fail
 rw [HW.out.1,HW.out.2]
 refine samN (b2:=w.heap.size) (b3:=w.heap.size+1) (x:=x) (y:=y) (fun W=>VaAt W w.heap.size x∧VaAt W (w.heap.size+1) y∧Below w.heap.size w W) _ w2 _ rfl rfl rfl ⟨HB.out.1,HB.out.2.1,HB.out.2.2.drew⟩ hk hn (fun W q=>load_kd q.1) (fun W q=>ld_vn q.1) (fun W q=>ld_vf q.1) (fun W q=>ld_vs q.1) (fun W q=>load_kd q.2.1) (fun W q=>ld_vn q.2.1) (fun W q=>ld_vf q.2.1) (fun W q=>ld_vs q.2.1) ?_
 intro a' w3 hf' ha
 have HF:=hidMk hf'
 subst ha
 simp only [Act.put,qsA,qsB,qsC]
 clear hf' HB HW
 go_wp2
 go_ret
 exact ⟨rfl,HF.out.2.2⟩
theorem same_f (x y:VaV) (hk:x.k=y.k) (hn:x.n=y.n) (hf:(x.f:Int)≠(y.f:Int)) (w:World):Calls Tryz.prog 35 #[x.v,y.v] w fun e w'=>e= .returned (.bool false)∧Below w.heap.size w w':=by
 obtain ⟨w1,hw1⟩:∃w1,w.alloc (.cells x.c.toArray 40)=w1:=⟨_,rfl⟩
 obtain ⟨w2,hw2⟩:∃w2,w1.alloc (.cells y.c.toArray 40)=w2:=⟨_,rfl⟩
 have p1:VaAt w1 w.heap.size x:=by rw [←hw1];exact heap_alloc_new _ _
 have b1:Below w.heap.size w w1:=by rw [←hw1];exact (Below.refl _ _).alloc (Nat.le_refl _) _
 have z1:w1.heap.size=w.heap.size+1:=by rw [←hw1];simp
 have p2:VaAt w2 (w.heap.size+1) y:=by rw [←hw2, ←z1];exact heap_alloc_new _ _
 have b2:Below w1.heap.size w1 w2:=by rw [←hw2];exact (Below.refl _ _).alloc (Nat.le_refl _) _
 have HB:=hidMk (And.intro (p1.below b2) (And.intro p2 (b1.trans (b2.mono b1.size))))
 have HW:=hidMk (And.intro hw1 hw2)
 clear p1 b1 z1 p2 b2 hw1 hw2
 show Calls Tryz.prog 35 #[.agg x.c.toArray, .agg y.c.toArray] w _
 go_enter Tryz.func35,Tryz.ntmps35
 go_upto_region 1 with fail
 rw [HW.out.1,HW.out.2]
 refine samF (b2:=w.heap.size) (b3:=w.heap.size+1) (x:=x) (y:=y) (fun W=>VaAt W w.heap.size x∧VaAt W (w.heap.size+1) y∧Below w.heap.size w W) _ w2 _ rfl rfl rfl ⟨HB.out.1,HB.out.2.1,HB.out.2.2.drew⟩ hk hn hf (fun W q=>load_kd q.1) (fun W q=>ld_vn q.1) (fun W q=>ld_vf q.1) (fun W q=>ld_vs q.1) (fun W q=>load_kd q.2.1) (fun W q=>ld_vn q.2.1) (fun W q=>ld_vf q.2.1) (fun W q=>ld_vs q.2.1) ?_
 intro a' w3 hf' ha
 have HF:=hidMk hf'
 subst ha
 simp only [Act.put,qsA,qsB,qsC]
 clear hf' HB HW
 go_wp2
 go_ret
 exact ⟨rfl,HF.out.2.2⟩
theorem same_s (x y:VaV) (hk:x.k=y.k) (hn:x.n=y.n) (hf:(x.f:Int)=(y.f:Int)) {r:Bool} (hr:decide (x.s=y.s)=r) (w:World):Calls Tryz.prog 35 #[x.v,y.v] w fun e w'=>e= .returned (.bool r)∧Below w.heap.size w w':=by
 obtain ⟨w1,hw1⟩:∃w1,w.alloc (.cells x.c.toArray 40)=w1:=⟨_,rfl⟩
 obtain ⟨w2,hw2⟩:∃w2,w1.alloc (.cells y.c.toArray 40)=w2:=⟨_,rfl⟩
 have p1:VaAt w1 w.heap.size x:=by rw [←hw1];exact heap_alloc_new _ _
 have b1:Below w.heap.size w w1:=by rw [←hw1];exact (Below.refl _ _).alloc (Nat.le_refl _) _
 have z1:w1.heap.size=w.heap.size+1:=by rw [←hw1];simp
 have p2:VaAt w2 (w.heap.size+1) y:=by rw [←hw2, ←z1];exact heap_alloc_new _ _
 have b2:Below w1.heap.size w1 w2:=by rw [←hw2];exact (Below.refl _ _).alloc (Nat.le_refl _) _
 have HB:=hidMk (And.intro (p1.below b2) (And.intro p2 (b1.trans (b2.mono b1.size))))
 have HW:=hidMk (And.intro hw1 hw2)
 clear p1 b1 z1 p2 b2 hw1 hw2
 show Calls Tryz.prog 35 #[.agg x.c.toArray, .agg y.c.toArray] w _
 go_enter Tryz.func35,Tryz.ntmps35
 go_upto_region 1 with fail
 rw [HW.out.1,HW.out.2]
 refine samS (b2:=w.heap.size) (b3:=w.heap.size+1) (x:=x) (y:=y) (fun W=>VaAt W w.heap.size x∧VaAt W (w.heap.size+1) y∧Below w.heap.size w W) _ w2 _ rfl rfl rfl ⟨HB.out.1,HB.out.2.1,HB.out.2.2.drew⟩ hk hn hf hr (fun W q=>load_kd q.1) (fun W q=>ld_vn q.1) (fun W q=>ld_vf q.1) (fun W q=>ld_vs q.1) (fun W q=>load_kd q.2.1) (fun W q=>ld_vn q.2.1) (fun W q=>ld_vf q.2.1) (fun W q=>ld_vs q.2.1) ?_
 intro a' w3 hf' ha
 have HF:=hidMk hf'
 subst ha
 simp only [Act.put,qsA,qsB,qsC]
 clear hf' HB HW
 go_wp2
 go_ret
 exact ⟨rfl,HF.out.2.2⟩
theorem same_of (x y:VaV) (w:World):Calls Tryz.prog 35 #[x.v,y.v] w fun e w'=>e= .returned (.bool (decide (x=y)))∧Below w.heap.size w w':=by
 by_cases hk:x.k=y.k
 ·by_cases hn:x.n=y.n
  ·by_cases hf:(x.f:Int)=(y.f:Int)
   ·have e:decide (x.s=y.s)=decide (x=y):=by
     refine decide_eq_decide.2 ⟨fun h=> ?_,fun h=>by rw [h]⟩
     obtain ⟨k,n,f,s⟩:=x
     obtain ⟨k',n',f',s'⟩:=y
     simp only at hk hn hf h
     have:f=f':=by omega
     subst this hk hn h
     rfl
    exact same_s x y hk hn hf e w
   ·rw [decide_eq_false fun e:x=y=>hf (by rw [e])]
    exact same_f x y hk hn hf w
  ·rw [decide_eq_false fun e:x=y=>hn (by rw [e])]
   exact same_n x y hk hn w
 ·rw [decide_eq_false fun e:x=y=>hk (by rw [e])]
  exact same_k x y hk w
end Go.Proofs.YtifendlpeebofaaGreatDoor
namespace Go.Proofs.YtifendlpeebofaaGreatDoor
open Go.RowKit
def cmp1_ops:Array Oper:=(⟨_,rfl⟩:{o // some o=rgB Tryz.f34 1}).1
theorem cmp1 {b2 b3:Nat} {x y:VaV} {r:Bool} (S Fin:World→Prop) (a:Act) (w:World) (Q:Exit→Act→World→Prop) (zz:a.tmps.size=50)
 (t2:a.tmps.getD 2 undef= .pointer (some ⟨b2,0,none⟩))
 (t3:a.tmps.getD 3 undef= .pointer (some ⟨b3,0,none⟩))
 (h0:S w) (La:∀W,S W→(Instr.loadAt 40 (.pointer (some ⟨b2,0,none⟩))).run Tryz.prog W= .ok (x.v) W) (Lb:∀W,S W→(Instr.loadAt 40 (.pointer (some ⟨b3,0,none⟩))).run Tryz.prog W= .ok (y.v) W) (CA:Calls Tryz.prog 67 #[x.v] w fun e w1=>e= .returned (.bool true)∧S w1∧Calls Tryz.prog 67 #[y.v] w1 fun e w2=>e= .returned (.bool true)∧S w2∧Calls Tryz.prog 35 #[x.v,y.v] w2 fun e w3=>e= .returned (.bool r)∧Fin w3)
 (h:∀a' w',Fin w'→a'=(((((((((((((a.put (some 6) (x.v)).put (some 7) (.bool true)).put (some 8) (.bool false)).put (some 9) (.bool false)).put (some 10) (y.v)).put (some 11) (.bool true)).put (some 12) (.bool false)).put (some 13) (.bool false)).put (some 14) (.bool false)).put (some 15) (x.v)).put (some 16) (y.v)).put (some 17) (.bool r)).put (some 18) (.bool r)).put (some 5) (.bool r)→Q .normal a' w') :
 (Code.region 1 cmp1_ops false).wp Tryz.prog Q a w:=by
 refine z0 rfl ?_
 refine zv rfl (xld rfl (zi t2 rfl) (La _ h0)) ?_
 refine zc rfl (exec_c1 rfl (zg zz rfl)) (CA) (fun e x1 hx=> ?_)
 obtain ⟨rfl,S0,CB⟩:=hx
 refine ⟨_,rfl, ?_⟩
 refine zv rfl (exec_not rfl (zg zz rfl)) ?_
 refine zv rfl (xmv rfl (zg zz rfl)) ?_
 refine zv (zw zz rfl rfl rfl (zg zz rfl)) (xld rfl (zi t3 rfl) (Lb _ S0)) ?_
 refine zc (zw zz rfl rfl rfl (zg zz rfl)) (exec_c1 rfl (zg zz rfl)) (CB) (fun e x5 hx=> ?_)
 obtain ⟨rfl,S1,CC⟩:=hx
 refine ⟨_,rfl, ?_⟩
 refine zv (zw zz rfl rfl rfl (zg zz rfl)) (exec_not rfl (zg zz rfl)) ?_
 refine zv rfl (exec_pickF rfl (zg zz rfl) (zg zz rfl)) ?_
 refine zv rfl (xmv rfl (zg zz rfl)) ?_
 refine zv (zw zz rfl rfl rfl (zg zz rfl)) (xld rfl (zi t2 rfl) (La _ S1)) ?_
 refine zv (zw zz rfl rfl rfl (zg zz rfl)) (xld rfl (zi t3 rfl) (Lb _ S1)) ?_
 refine zc (zw zz rfl rfl rfl (zg zz rfl)) (exec_c2 rfl (zg zz rfl) (zg zz rfl)) (CC) (fun e x11 hx=> ?_)
 obtain ⟨rfl,HF⟩:=hx
 refine ⟨_,rfl, ?_⟩
 refine zv rfl (exec_pickF rfl (zg zz rfl) (zg zz rfl)) ?_
 refine zv rfl (xas rfl (zg zz rfl)) ?_
 exact ze rfl (h _ _ (HF) rfl)
end Go.Proofs.YtifendlpeebofaaGreatDoor
namespace Go.Proofs.YtifendlpeebofaaGreatDoor
open Go.RowKit Go.Shelf Sq
attribute [local go_sem] Oper.semAt_some
theorem refright {x:VaV} (hx:x.ok) (w:World):Calls Tryz.prog 67 #[x.v] w fun e w'=>e= .returned (.bool x.right)∧Below w.heap.size w w' :=
 K.V.right27_any x.k x.n x.f x.s w hx.k0 hx.ff (Nat.le_trans hx.ss (by decide))
theorem refcmp {x y:VaV} (hx:x.ok) (hy:y.ok) (rx:x.right=true) (ry:y.right=true) (w:World):Calls Tryz.prog 34 #[x.v,y.v] w fun e w'=>(∃c:Int,e= .returned (.int .i64 c)∧(c=0↔x=y))∧Below w.heap.size w w':=by
 obtain ⟨w1,hw1⟩:∃w1,w.alloc (.cells x.c.toArray 40)=w1:=⟨_,rfl⟩
 obtain ⟨w2,hw2⟩:∃w2,w1.alloc (.cells y.c.toArray 40)=w2:=⟨_,rfl⟩
 have p1:VaAt w1 w.heap.size x:=by rw [←hw1];exact heap_alloc_new _ _
 have b1:Below w.heap.size w w1:=by rw [←hw1];exact (Below.refl _ _).alloc (Nat.le_refl _) _
 have z1:w1.heap.size=w.heap.size+1:=by rw [←hw1];simp
 have p2:VaAt w2 (w.heap.size+1) y:=by rw [←hw2, ←z1];exact heap_alloc_new _ _
 have b2:Below w1.heap.size w1 w2:=by rw [←hw2];exact (Below.refl _ _).alloc (Nat.le_refl _) _
 have q1:=p1.below b2
 have bb:=b1.trans (b2.mono b1.size)
 have CA:=(refright hx w2).mono fun e w3 (h:_∧_)=>(And.intro h.1 (And.intro (And.intro (q1.below h.2) (And.intro (p2.below h.2) (bb.trans (h.2.mono bb.size)))) ((refright hy w3).mono fun e w4 (g:_∧_)=>(And.intro g.1 (And.intro (And.intro ((q1.below h.2).below g.2) (And.intro ((p2.below h.2).below g.2) ((bb.trans (h.2.mono bb.size)).trans (g.2.mono (bb.trans (h.2.mono bb.size)).size)))) ((same_of x y w4).mono fun e w5 (f:_∧_)=>(And.intro f.1 (And.intro (((q1.below h.2).below g.2).below f.2) (And.intro (((p2.below h.2).below g.2).below f.2) (((bb.trans (h.2.mono bb.size)).trans (g.2.mono (bb.trans (h.2.mono bb.size)).size)).trans (f.2.mono ((bb.trans (h.2.mono bb.size)).trans (g.2.mono (bb.trans (h.2.mono bb.size)).size)).size)))))))))))
 rw [rx,ry] at CA
 have HC:=hidMk CA
 have HB:=hidMk (And.intro q1 (And.intro p2 bb))
 have HW:=hidMk (And.intro hw1 hw2)
 clear p1 b1 z1 p2 b2 hw1 hw2 q1 bb CA hx hy rx ry
 show Calls Tryz.prog 34 #[.agg x.c.toArray, .agg y.c.toArray] w _
 go_enter Tryz.func34,Tryz.ntmps34
 go_upto_region 1 with fail
 rw [HW.out.1,HW.out.2]
 refine cmp1 (b2:=w.heap.size) (b3:=w.heap.size+1) (x:=x) (y:=y) (r:=decide (x=y)) (fun W=>VaAt W w.heap.size x∧VaAt W (w.heap.size+1) y∧Below w.heap.size w W) (fun W=>VaAt W w.heap.size x∧VaAt W (w.heap.size+1) y∧Below w.heap.size w W) _ w2 _ rfl rfl rfl HB.out (fun W q=>load_va q.1) (fun W q=>load_va q.2.1) HC.out ?_
 intro a' w3 hf ha
 obtain ⟨A,B,C⟩:=hf
 have HF:=hidMk C
 subst ha
 simp only [Act.put,qsA,qsB,qsC]
 clear HB HW HC C
 by_cases e:x=y
 ·rw [decide_eq_true e]
  have E:=hidMk e
  clear e
  go_wp2
  go_ret
  exact ⟨⟨0,rfl,by simpa using E.out⟩,HF.out⟩
 ·rw [decide_eq_false e]
  have E:=hidMk e
  clear e
  have c0:w3.cell? ⟨w.heap.size,0,none⟩=some (.int .u8 x.k):=(cell_of_row w3 _ 0 _ _ _ A).trans rfl
  have c1:w3.cell? ⟨w.heap.size,1,none⟩=some (.int .i64 x.n):=(cell_of_row w3 _ 1 _ _ _ A).trans rfl
  have c2:w3.cell? ⟨w.heap.size,2,none⟩=some (.float .f64 x.f):=(cell_of_row w3 _ 2 _ _ _ A).trans rfl
  have c3:w3.cell? ⟨w.heap.size,3,none⟩=some (.string x.s):=(cell_of_row w3 _ 3 _ _ _ A).trans rfl
  have d0:w3.cell? ⟨w.heap.size+1,0,none⟩=some (.int .u8 y.k):=(cell_of_row w3 _ 0 _ _ _ B).trans rfl
  have d1:w3.cell? ⟨w.heap.size+1,1,none⟩=some (.int .i64 y.n):=(cell_of_row w3 _ 1 _ _ _ B).trans rfl
  have d2:w3.cell? ⟨w.heap.size+1,2,none⟩=some (.float .f64 y.f):=(cell_of_row w3 _ 2 _ _ _ B).trans rfl
  have d3:w3.cell? ⟨w.heap.size+1,3,none⟩=some (.string y.s):=(cell_of_row w3 _ 3 _ _ _ B).trans rfl
  clear A B
  go_wp2
  all_goals try (go_ret;exact ⟨⟨_,rfl,⟨fun q=>absurd q (by decide),fun q=>absurd q E.out⟩⟩,HF.out⟩)
  all_goals try (rename_i HK;refine HK _ _ ?_;go_wp2;go_ret;exact ⟨⟨_,rfl,⟨fun q=>absurd q (by decide),fun q=>absurd q E.out⟩⟩,HF.out⟩)
end Go.Proofs.YtifendlpeebofaaGreatDoor
namespace Go.Proofs.YtifendlpeebofaaGreatDoor
open Go.RowKit Sq
attribute [local go_sem] Oper.semAt_some
section
variable {W:World} {base g cap n:Nat} {L:List SpV}
theorem own_rng (h:RSp.Own W base (.slice (some ⟨g,0,none⟩) n cap) L) (ok:∀x∈L,RSp.ok x) {i:Nat} {x:SpV} (hx:L[i]? =some x):W.rangeAt g (0+7*i) x.c:=by
 obtain ⟨hi,he⟩:=List.getElem?_eq_some_iff.1 hx
 obtain ⟨g2,cap2,e,hr⟩:=RowT.Own.zeroZ RSp_is h ok hi
 cases e
 rw [Nat.zero_add, ←he]
 exact hr
theorem own_to (h:RSp.Own W base (.slice (some ⟨g,0,none⟩) n cap) L) (ok:∀x∈L,RSp.ok x) {i:Nat} {x:SpV} (hx:L[i]? =some x):(Instr.loadAt 3 (.pointer (some ⟨g,0+7*i+1,none⟩))).run Tryz.prog W= .ok (.int .i64 x.to) W:=by
 have hc:W.cell? ⟨g,0+7*i+1,none⟩=some (.int .i64 x.to):=own_rng h ok hx 1 _ rfl
 generalize 0+7*i+1=o at *
 go_simp
theorem own_stTo (h:RSp.Own W base (.slice (some ⟨g,0,none⟩) n cap) L) (ok:∀x∈L,RSp.ok x) {i:Nat} {x:SpV} (hx:L[i]? =some x) (y:Int):∃W',(Instr.storeAt 3 (.pointer (some ⟨g,0+7*i+1,none⟩)) (.int .i64 y)).run Tryz.prog W= .ok () W'∧RSp.Own W' base (.slice (some ⟨g,0,none⟩) n cap) (L.set i ⟨x.fr,y,x.nm,x.v⟩)∧Tch (fun j=>j=g) W W':=by
 obtain ⟨hi,he⟩:=List.getElem?_eq_some_iff.1 hx
 have hc:W.cell? ⟨g,0+7*i+1,none⟩=some (.int .i64 x.to):=own_rng h ok hx 1 _ rfl
 have hn:n=L.length:=by
  obtain ⟨a,c,e,_⟩:=h.open RSp_is ok
  cases e;rfl
 obtain ⟨hbg,c0,hcg⟩:=h.cells (k:=g) rfl
 have hf:=frozen_of_row W g (0+7*i+1) _ _ hcg
 have es:(Instr.storeAt 3 (.pointer (some ⟨g,0+7*i+1,none⟩)) (.int .i64 y)).run Tryz.prog W= .ok () (W.setCell ⟨g,0+7*i+1,none⟩ (.int .i64 y)):=by
  generalize 0+7*i+1=o at *
  go_simp
 refine ⟨W.setCell ⟨g,0+7*i+1,none⟩ (.int .i64 y),es, ?_,⟨rfl,rfl,rfl,by simp [World.setCell],fun j _ hj=>Go.heap_setCell_other _ _ _ _ hj⟩⟩
 have o3:=RowT.own_setCellZ RSp_is h hn ok hi (j:=1) (by decide) (x:=⟨x.fr,y,x.nm,x.v⟩) (u:= .int .i64 y) (by rw [he];rfl)
 rw [Nat.zero_add]
 exact o3
theorem own_stAll (h:RSp.Own W base (.slice (some ⟨g,0,none⟩) n cap) L) (ok:∀x∈L,RSp.ok x) {i:Nat} (hi:i<L.length) {x:SpV} (hx:RSp.ok x):∃W',(Instr.storeAt 65 (.pointer (some ⟨g,0+7*i,none⟩)) x.a).run Tryz.prog W= .ok () W'∧RSp.Own W' base (.slice (some ⟨g,0,none⟩) n cap) (L.set i x)∧Tch (fun j=>j=g) W W':=by
 obtain ⟨g2,cap2,e,_,W',e1,o,t,z⟩:=RowT.own_set RSp_is h ok hi hx
 cases e
 refine ⟨W',by rw [Nat.zero_add];exact e1,o,t.mono (fun j _ e=>by cases e;rfl)⟩
end
def InsI (S:List SpV) (i k:Nat):Prop:=∀(a b:Nat) (p q:SpV),a<b→b≤i→b≠k→S[a]? =some p→S[b]? =some q→cSp p q≤0
def SrtTo (S:List SpV) (i:Nat):Prop:=∀(a b:Nat) (p q:SpV),a<b→b<i→S[a]? =some p→S[b]? =some q→cSp p q≤0
def swp (S:List SpV) (k:Nat) (x y:SpV):List SpV:=(S.set (k+1) y).set k x
theorem swp_get {S:List SpV} {k:Nat} {x y:SpV} (hk:k+1<S.length) (a:Nat):(swp S k x y)[a]? =if a=k then some x else if a=k+1 then some y else S[a]? :=by
 unfold swp
 rw [List.getElem?_set,List.getElem?_set]
 simp only [List.length_set]
 by_cases h1:a=k
 ·subst h1;simp;omega
 ·rw [if_neg (fun q=>h1 q.symm),if_neg h1]
  by_cases h2:a=k+1
  ·subst h2;simp;omega
  ·rw [if_neg (fun q=>h2 q.symm),if_neg h2]
theorem InsI.swap {S:List SpV} {i k:Nat} {x y:SpV} (h:InsI S i (k+1)) (hx:S[k+1]? =some x) (hy:S[k]? =some y) (hki:k+1≤i) (hlt:cSp x y<0):InsI (swp S k x y) i k:=by
 intro a b p q hab hbi hbk hp hq
 have hk:=(List.getElem?_eq_some_iff.1 hx).1
 rw [swp_get hk] at hp hq
 rw [if_neg hbk] at hq
 by_cases e1:b=k+1
 ·rw [if_pos e1] at hq
  cases hq
  by_cases e2:a=k
  ·rw [if_pos e2] at hp;cases hp;omega
  ·rw [if_neg e2,if_neg (by omega)] at hp
   exact h a k p y (by omega) (by omega) (by omega) hp hy
 ·rw [if_neg e1] at hq
  by_cases e2:a=k
  ·rw [if_pos e2] at hp;cases hp
   exact h (k+1) b x q (by omega) hbi e1 hx hq
  ·rw [if_neg e2] at hp
   by_cases e3:a=k+1
   ·rw [if_pos e3] at hp;cases hp
    exact h k b y q (by omega) hbi e1 hy hq
   ·rw [if_neg e3] at hp
    exact h a b p q hab hbi e1 hp hq
theorem InsI.stop {S:List SpV} {i k:Nat} (h:InsI S i k) (hs:k=0∨∃j x y,k=j+1∧S[k]? =some x∧S[j]? =some y∧¬cSp x y<0):SrtTo S (i+1):=by
 intro a b p q hab hbi hp hq
 by_cases e:b=k
 ·rcases hs with rfl|⟨j,x,y,rfl,hx,hy,hn⟩
  ·omega
  ·subst e
   rw [hx] at hq
   cases hq
   have h1:cSp y q≤0:=by have:=to_cSp.anti q y;omega
   by_cases e2:a=j
   ·subst e2;rw [hy] at hp;cases hp;exact h1
   ·exact to_cSp.le _ _ _ (h a j p y (by omega) (by omega) (by omega) hp hy) h1
 ·exact h a b p q hab (by omega) e hp hq
theorem SrtTo.start {S:List SpV} {i:Nat} (h:SrtTo S i):InsI S i i:=fun a b p q hab hbi hb hp hq=>h a b p q hab (by omega) hp hq
theorem SrtTo.all {S:List SpV} {i:Nat} (hi:S.length≤i) (h:SrtTo S i):S.Pairwise (fun p q=>cSp p q≤0) :=
 List.pairwise_iff_getElem.2 fun a b ha hb hab=>h a b _ _ hab (by omega) (List.getElem?_eq_getElem ha) (List.getElem?_eq_getElem hb)
theorem swp_perm {S:List SpV} {k:Nat} {x y:SpV} (hx:S[k+1]? =some x) (hy:S[k]? =some y):(swp S k x y).Perm S:=by
 obtain ⟨h1,e1⟩:=List.getElem?_eq_some_iff.1 hx
 obtain ⟨h2,e2⟩:=List.getElem?_eq_some_iff.1 hy
 have:=List.set_set_perm h1 h2
 rw [e1,e2] at this
 exact this
end Go.Proofs.YtifendlpeebofaaGreatDoor
namespace Go.Proofs.YtifendlpeebofaaGreatDoor.En
open Go Go.RowKit
section
variable {P:Program} {ops:Array Oper} {Q:Exit→Act→World→Prop} {md:Region.Mode} {S:World→Prop} {k:Nat}
def wpAnyF (P:Program) (md:Region.Mode) (ops:Array Oper) (Q:Exit→Act→World→Prop) (S:World→Prop) (k:Nat):Nat→Array Bool→Act→World→Prop
 |0,listed,a,w=>Region.ready md ops listed=[]∧Q .normal a w
 |fuel+1,listed,a,w =>
  (Region.ready md ops listed=[]→Q .normal a w) ∧
  ∀i∈Region.ready md ops listed,wpOp P ops Q i (fun a' w'=>(i≠k→(k<ops.size→listed.getD k true=false)→S w')∧wpAnyF P md ops Q S k fuel (listed.setIfInBounds i true) a' w') a w
theorem wpAny_of_F:∀(fuel:Nat) (listed:Array Bool) (a:Act) (w:World),wpAnyF P md ops Q S k fuel listed a w→wpAny P md ops Q fuel listed a w
 |0,_,_,_,h=>h
 |fuel+1,_,_,_,h=>⟨h.1,fun i hi=>wpOp_mono (fun a' w' h'=>wpAny_of_F fuel _ a' w' h'.2) (h.2 i hi)⟩
theorem getD_keep {listed:Array Bool} {i k:Nat} (h:listed.getD k true=true):(listed.setIfInBounds i true).getD k true=true:=by
 by_cases e:i=k
 ·subst e
  rcases Nat.lt_or_ge i listed.size with h'|h' <;>simp [h']
 ·rw [getD_set_ne true e];exact h
theorem getD_self (listed:Array Bool) (k:Nat):(listed.setIfInBounds k true).getD k true=true:=by
 rcases Nat.lt_or_ge k listed.size with h'|h' <;>simp [h']
theorem F_of_any (hk:k<ops.size):∀(fuel:Nat) (listed:Array Bool) (a:Act) (w:World),listed.getD k true=true→wpAny P md ops Q fuel listed a w→wpAnyF P md ops Q S k fuel listed a w
 |0,_,_,_,_,h=>h
 |fuel+1,_,_,_,hl,h=>⟨h.1,fun i hi=>wpOp_mono (fun a' w' h'=>⟨fun _ hp=>absurd (hp hk) (by rw [hl];decide),F_of_any hk fuel _ a' w' (getD_keep hl) h'⟩) (h.2 i hi)⟩
theorem wpAnyF_done {listed:Array Bool} {a:Act} {w:World} (hr:Region.ready md ops listed=[]) (h:Q .normal a w) :
 ∀fuel,wpAnyF P md ops Q S k fuel listed a w
 |0=>⟨hr,h⟩
 |_+1=>⟨fun _=>h,by rw [hr];simp⟩
theorem wp_region_F {id:Nat} {a:Act} {w:World} (k:Nat) (hm:P.follows .mixedOrders=true) (hS:S w.drew)
 (h:S w.drew→wpAnyF P .any ops Q S k ops.size (Array.replicate ops.size false) a w.drew):(Code.region id ops true).wp P Q a w :=
 wp_region_any hm (wpAny_of_F _ _ _ _ (h hS))
theorem wpAnyF_firstG {i f:Nat} {oi:Oper} {v:Value} (hik:i≠k) (hi:ops[i]? =some oi) (hsel:∀(j:Nat) (o:Oper) cs b,ops[j]? =some o→o.op≠ .select cs b)
 (hQ:∀c a w,Q (.panic c) (a.put oi.dst v) w→Q (.panic c) a w) :
 ∀(fuel:Nat) (listed:Array Bool) (a:Act) (w:World),
  (∀j oj,ops[j]? =some oj→j≠i→listed.getD j true=false→(∀e∈oj.after,Region.binds md e=true→e.on≠i)→oi.apart ops oj=true) →
  i∈Region.ready md ops listed→((waitsB md ops listed f i k=true∧listed.getD k true=false)∨ops.size≤k)→YieldsIf P ops S oi v a→S w →
  wpAnyF P md ops Q S k fuel (listed.setIfInBounds i true) (a.put oi.dst v) w→wpAnyF P md ops Q S k (fuel+1) listed a w:=by
 intro fuel
 induction fuel with
 |zero =>
  intro listed a w _ hr hwt hy hS H
  refine ⟨fun h=>(by rw [h] at hr;cases hr),fun j hj=> ?_⟩
  by_cases hji:j=i
  ·subst hji;exact hy.wpOp hi hS ⟨fun _ _=>hS,H⟩
  ·have:=ready_mono hj hji
   rw [H.1] at this
   cases this
 |succ fuel ih =>
  intro listed a w hfree hr hwt hy hS H
  refine ⟨fun h=>(by rw [h] at hr;cases hr),fun j hj=> ?_⟩
  have hiu:=(mem_ready.1 hr).1
  by_cases hji:j=i
  ·subst hji;exact hy.wpOp hi hS ⟨fun _ _=>hS,H⟩
  ·have hjk:j≠k:=fun e=>by
        rcases hwt with hwt|hwt
        ·exact waitsB_not hiu f k hwt.1 (e▸hj)
        ·obtain ⟨_,oj,hoj,_⟩:=mem_ready.1 hj
         have:=(Array.getElem?_eq_some_iff.1 hoj).1
         omega
   have h1:=H.2 j (ready_mono hj hji)
   obtain ⟨hjun,oj,hoj,hall⟩:=mem_ready.1 hj
   have hnot:∀e∈oj.after,Region.binds md e=true→e.on≠i:=fun e he hb heq=>by
        have h1:=hall e he hb
        have h0:=hiu
        rw [heq] at h1
        rcases Nat.lt_or_ge i listed.size with h'|h'
        ·simp [h'] at h0 h1;rw [h0] at h1;cases h1
        ·simp [Array.getElem?_eq_none h'] at h1
   have h2:=wpOp_putIf hoj (hfree j oj hoj hji hjun hnot) (fun cs b=>hsel i oi cs b hi) (fun cs b=>hsel j oj cs b hoj) hQ hy h1
   have hfree':∀k ok,ops[k]? =some ok→k≠i→(listed.setIfInBounds j true).getD k true=false →
    (∀e∈ok.after,Region.binds md e=true→e.on≠i)→oi.apart ops ok=true:=fun k ok hk hki hun hno=>by
        refine hfree k ok hk hki ?_ hno
        by_cases hjk:j=k
        ·subst hjk;exact hjun
        ·rw [getD_set_ne true hjk] at hun;exact hun
   have hwt':(waitsB md ops (listed.setIfInBounds j true) f i k=true∧(listed.setIfInBounds j true).getD k true=false)∨ops.size≤k:=hwt.imp (fun q=>⟨waitsB_keep hiu hj f k q.1,by rw [getD_set_ne true hjk];exact q.2⟩) id
   have hku:k<ops.size→(listed.setIfInBounds i true).getD k true=false:=fun hk=>by rw [getD_set_ne true hik];exact hwt.elim (fun q=>q.2) (fun q=>absurd hk (by omega))
   refine wpOp_mono (fun a' w' h3=>⟨fun q1 _=>h3.2.1 q1 hku,ih (listed.setIfInBounds j true) a' w' hfree' (ready_mono hr (Ne.symm hji)) hwt' h3.1 (h3.2.1 hjk hku) ?_⟩) h2
   rw [Array.setIfInBounds_comm _ _ hji]
   exact h3.2.2
theorem wpAnyF_firstP {i:Nat} {oi:Oper} {v:Value} (hik:i≠k) (hi:ops[i]? =some oi) (hsel:∀(j:Nat) (o:Oper) cs b,ops[j]? =some o→o.op≠ .select cs b)
 (hQ:∀c a w,Q (.panic c) (a.put oi.dst v) w→Q (.panic c) a w) :
 ∀(fuel:Nat) (listed:Array Bool) (a:Act) (w:World),
  (∀j oj,ops[j]? =some oj→j≠i→listed.getD j true=false→(∀e∈oj.after,Region.binds md e=true→e.on≠i)→oi.apart ops oj=true) →
  i∈Region.ready md ops listed→YieldsIf P ops (fun _=>True) oi v a→((k<ops.size→listed.getD k true=false)→S w) →
  wpAnyF P md ops Q S k fuel (listed.setIfInBounds i true) (a.put oi.dst v) w→wpAnyF P md ops Q S k (fuel+1) listed a w:=by
 intro fuel
 induction fuel with
 |zero =>
  intro listed a w _ hr hy hS H
  refine ⟨fun h=>(by rw [h] at hr;cases hr),fun j hj=> ?_⟩
  by_cases hji:j=i
  ·subst hji;exact hy.wpOp hi trivial ⟨fun _=>hS,H⟩
  ·have:=ready_mono hj hji
   rw [H.1] at this
   cases this
 |succ fuel ih =>
  intro listed a w hfree hr hy hS H
  refine ⟨fun h=>(by rw [h] at hr;cases hr),fun j hj=> ?_⟩
  have hiu:=(mem_ready.1 hr).1
  by_cases hji:j=i
  ·subst hji;exact hy.wpOp hi trivial ⟨fun _=>hS,H⟩
  ·have hset:(listed.setIfInBounds i true).getD k true=listed.getD k true:=getD_set_ne true hik
   have h1:=H.2 j (ready_mono hj hji)
   obtain ⟨hjun,oj,hoj,hall⟩:=mem_ready.1 hj
   have hnot:∀e∈oj.after,Region.binds md e=true→e.on≠i:=fun e he hb heq=>by
        have h1:=hall e he hb
        have h0:=hiu
        rw [heq] at h1
        rcases Nat.lt_or_ge i listed.size with h'|h'
        ·simp [h'] at h0 h1;rw [h0] at h1;cases h1
        ·simp [Array.getElem?_eq_none h'] at h1
   have h2:=wpOp_putIf hoj (hfree j oj hoj hji hjun hnot) (fun cs b=>hsel i oi cs b hi) (fun cs b=>hsel j oj cs b hoj) hQ hy h1
   have hfree':∀k ok,ops[k]? =some ok→k≠i→(listed.setIfInBounds j true).getD k true=false →
    (∀e∈ok.after,Region.binds md e=true→e.on≠i)→oi.apart ops ok=true:=fun k ok hk hki hun hno=>by
        refine hfree k ok hk hki ?_ hno
        by_cases hjk:j=k
        ·subst hjk;exact hjun
        ·rw [getD_set_ne true hjk] at hun;exact hun
   have hjz:j<ops.size:=(Array.getElem?_eq_some_iff.1 hoj).1
   refine wpOp_mono (fun a' w' h3=>⟨fun q1 q2=>h3.2.1 q1 (fun hk=>by rw [hset];exact q2 hk),ih (listed.setIfInBounds j true) a' w' hfree' (ready_mono hr (Ne.symm hji)) h3.1 (fun q=> ?_) ?_⟩) h2
   ·have hjk:j≠k:=fun e=>by
     subst e
     have:=q hjz
     rw [getD_self] at this;cases this
    exact h3.2.1 hjk (fun hk=>by have:=q hk;rw [getD_set_ne true hjk] at this;rw [hset];exact this)
   ·rw [Array.setIfInBounds_comm _ _ hji]
    exact h3.2.2
end
inductive Orc where
 |nil
 |one (i:Nat) (t:Orc)
 |cut (i k:Nat) (t:Orc)
def Orc.of:List Nat→Orc→Orc
 |[],t=>t
 |i::is,t=> .one i (Orc.of is t)
def Orc.dep:Orc→Nat
 | .nil=>0
 | .one _ t=>t.dep+1
 | .cut _ _ t=>t.dep+1
def Orc.end:Orc→Bool
 | .nil=>true
 |_=>false
def StpC {P:Program} (T:Tb P) (ops:List Oper) (G:Nat→Option Value) (S:World→Prop) (k:Nat) (fr:Bool) (i:Nat) (R:List (Nat × Value)→World→Prop) (M:List (Nat × Value)) (w:World):Prop :=
 match nth ops i with
 |none=>False
 |some o =>
  guardK G M ops o
   (viewK G M T o (fun v=>R (putM o.dst v M) w) (fun E=>StY P E (cond fr (fun _=>True) S) fun v=>R (putM o.dst v M) w)
    (fun E=>cond (Nat.beq i k) (Ef P E w fun v w'=>R (putM o.dst v M) w') (EfY P E S w fun v w'=>R (putM o.dst v M) w'))
    (fun E=>cond (Nat.beq i k) (Eu P E w fun w'=>R (putM o.dst undef M) w') (EuY P E S w fun w'=>R (putM o.dst undef M) w'))
    (fun F vs=>cond (Nat.beq i k) (Ca P F vs w fun v w'=>R (putM o.dst v M) w') (CaY P F vs S w fun v w'=>R (putM o.dst v M) w')))
   (R (putM o.dst undef M) w)
def ObC {P:Program} (T:Tb P) (ops:List Oper) (G:Nat→Option Value) (fr:List Nat) (K:List (Nat × Value)→World→Prop):Orc→(World→Prop)→Nat→List (Nat × Value)→World→Prop
 | .nil,_,_,M,w=>K M w
 | .one i t,S,k,M,w=>StpC T ops G S k (inL fr i) i (fun M w=>ObC T ops G fr K t S k M w) M w
 | .cut i k' t,S,k,M,w=>StpC T ops G S k false i (fun M w=> ∃S':World→Prop,S' w∧ObC T ops G fr K t S' k' M w) M w
def okC (ops:Array Oper) (fr:List Nat):Orc→Nat→Array Bool→Bool
 | .nil,_,listed=>(Region.ready .any ops listed).isEmpty
 | .one i t,k,listed=>(match ops[i]? with
   |none=>false
   |some o=>cond (effB o) ((Region.ready .any ops listed==[i])&&(cond (Nat.beq i k) t.end true)&& !(inL fr i)) (!(Nat.beq i k)&&Region.free .any ops listed i&&(Region.ready .any ops listed).contains i&&(inL fr i||Nat.ble ops.size k||(waitsB .any ops listed ops.size i k&& !(listed.getD k true)))))&&okC ops fr t k (listed.setIfInBounds i true)
 | .cut i k' t,k,listed=>(match ops[i]? with
   |none=>false
   |some o=>effB o&&Nat.beq i k&&(Region.ready .any ops listed==[i]))&&okC ops fr t k' (listed.setIfInBounds i true)
section
variable {P:Program} {a:Act} {n:Nat} {G:Nat→Option Value} {Q:Exit→Act→World→Prop}
theorem stepC_out (T:Tb P) {S:World→Prop} {ops:Array Oper} {k:Nat} {R:List (Nat × Value)→World→Prop} {W:Act→World→Prop} {i:Nat} {M:List (Nat × Value)} {w:World} (f:Fr a n G M) (hS:S w)
 (go:∀o,ops[i]? =some o→∀v w',(i≠k→S w')→R (putM o.dst v M) w'→W ((puts a M).put o.dst v) w')
 (h:StpC T ops.toList G S k false i R M w):wpOp P ops Q i (fun a' w'=>(i≠k→S w')∧W a' w') (puts a M) w :=
 step_out (nf:=[]) T f hS rfl go h
theorem endC_nil {t:Orc} (h:t.end=true):t= .nil:=by
 cases t with
 |nil=>rfl
 |one _ _=>cases h
 |cut _ _ _=>cases h
theorem obc_out (T:Tb P) {ops:Array Oper} {fr:List Nat} {K:List (Nat × Value)→World→Prop} (hK:∀M w,Fr a n G M→K M w→Q .normal (puts a M) w)
 (hQ:∀c a a' w,Q (.panic c) a w→Q (.panic c) a' w) (hsel:Region.noSelect ops=true) (hd:dstB n ops.toList=true) :
 ∀(is:Orc) (S:World→Prop) (k:Nat) (fuel:Nat) {listed:Array Bool} {M:List (Nat × Value)} {w:World},Fr a n G M→is.dep≤fuel→okC ops fr is k listed=true→(is≠ .nil→S w)→ObC T ops.toList G fr K is S k M w→wpAnyF P .any ops Q S k fuel listed (puts a M) w
 | .nil,S,k,fuel,listed,M,w,f,_,ho,_,h=>wpAnyF_done (by unfold okC at ho;simpa using ho) (hK M w f h) fuel
 | .one i t,S,k,0,listed,M,w,f,hl,ho,hS,h=>by simp [Orc.dep] at hl
 | .cut i k' t,S,k,0,listed,M,w,f,hl,ho,hS,h=>by simp [Orc.dep] at hl
 | .cut i k' t,S,k,fuel+1,listed,M,w,f,hl,ho,hS0,h=>by
   have hS:=hS0 (by simp)
   unfold ObC at h
   unfold okC at ho
   rw [Bool.and_eq_true] at ho
   obtain ⟨ho1,ho2⟩:=ho
   have hl':t.dep≤fuel:=by simp [Orc.dep] at hl;omega
   cases hi:ops[i]? with
   |none=>rw [hi] at ho1;cases ho1
   |some o =>
    rw [hi] at ho1
    simp only [Bool.and_eq_true] at ho1
    obtain ⟨⟨_,hik⟩,hr⟩:=ho1
    have hik:=Nat.eq_of_beq_eq_true hik
    subst hik
    have hr:Region.ready .any ops listed=[i]:=by simpa using hr
    have hk:i<ops.size:=(Array.getElem?_eq_some_iff.1 hi).1
    refine ⟨fun h0=>absurd (hr.symm.trans h0) (by simp),fun i' hi'=> ?_⟩
    rw [hr] at hi'
    obtain rfl:i'=i:=by simpa using hi'
    refine wpOp_mono (fun a' w' h'=>⟨fun q=>absurd rfl q,h'.2⟩) (stepC_out T f hS (fun o hi v w' _ h=> ?_) h)
    obtain ⟨S',s',h'⟩:=h
    have hdo:dOk n o.dst=true:=dstB_mem hd (List.mem_of_getElem? (by rw [Array.getElem?_toList];exact hi))
    rw [←puts_putM]
    exact F_of_any hk fuel _ _ _ (getD_self _ _) (wpAny_of_F _ _ _ _ (obc_out T hK hQ hsel hd t S' k' fuel (f.put hdo) hl' ho2 (fun _=>s') h'))
 | .one i t,S,k,fuel+1,listed,M,w,f,hl,ho,hS0,h=>by
   have hS:=hS0 (by simp)
   unfold ObC at h
   unfold okC at ho
   rw [Bool.and_eq_true] at ho
   obtain ⟨ho1,ho2⟩:=ho
   have hl':t.dep≤fuel:=by simp [Orc.dep] at hl;omega
   cases hi:ops[i]? with
   |none=>rw [hi] at ho1;cases ho1
   |some o =>
   rw [hi] at ho1
   simp only at ho1
   have hdo:dOk n o.dst=true:=dstB_mem hd (List.mem_of_getElem? (by rw [Array.getElem?_toList];exact hi))
   cases hfl:effB o with
   |true =>
    rw [hfl] at ho1
    simp only [cond_true,Bool.and_eq_true,Bool.not_eq_true'] at ho1
    obtain ⟨⟨hr,hlast⟩,hnf⟩:=ho1
    have hr:Region.ready .any ops listed=[i]:=by simpa using hr
    refine ⟨fun h0=>absurd (hr.symm.trans h0) (by simp),fun i' hi'=> ?_⟩
    rw [hr] at hi'
    obtain rfl:i'=i:=by simpa using hi'
    rw [hnf] at h
    refine wpOp_mono (fun a' w' h'=>⟨fun q _=>h'.1 q,h'.2⟩) (stepC_out T f hS (fun o2 hi2 v w' s h=> ?_) h)
    have hdo:dOk n o2.dst=true:=dstB_mem hd (List.mem_of_getElem? (by rw [Array.getElem?_toList];exact hi2))
    rw [←puts_putM]
    refine obc_out T hK hQ hsel hd t S k fuel (f.put hdo) hl' ho2 (fun hne=>s (fun e=> ?_)) h
    rw [e,Nat.beq_refl] at hlast
    exact hne (endC_nil hlast)
   |false =>
    rw [hfl] at ho1
    simp only [cond_false,Bool.and_eq_true,Bool.or_eq_true,Bool.not_eq_true'] at ho1
    obtain ⟨⟨⟨hik,hfree⟩,hready⟩,hwt⟩:=ho1
    have hik:i≠k:=fun e=>by rw [e,Nat.beq_refl] at hik;cases hik
    have go:∀v,ObC T ops.toList G fr K t S k (putM o.dst v M) w→wpAnyF P .any ops Q S k fuel (listed.setIfInBounds i true) ((puts a M).put o.dst v) w:=fun v h=>by
        rw [←puts_putM]
        exact obc_out T hK hQ hsel hd t S k fuel (f.put hdo) hl' ho2 (fun _=>hS) h
    have firstP:∀v,YieldsIf P ops (fun _=>True) o v (puts a M)→ObC T ops.toList G fr K t S k (putM o.dst v M) w→wpAnyF P .any ops Q S k (fuel+1) listed (puts a M) w:=fun v hy q =>
        wpAnyF_firstP hik hi (Region.noSelect_spec hsel) (fun c a w q=>hQ c _ _ w q) fuel listed _ w (Region.free_spec hi hfree) (by simpa using hready) hy (fun _=>hS) (go v q)
    unfold StpC at h
    cases e0:nth ops.toList i with
    |none=>rw [e0] at h;exact h.elim
    |some o2 =>
     have hi2:ops[i]? =some o2:=by rw [←Array.getElem?_toList];exact nth_get e0
     rw [hi] at hi2
     cases hi2
     rw [e0] at h
     simp only at h
     rcases guardK_out f h with ⟨hw,h⟩|⟨hw,h⟩
     ·cases viewK_out f T h with
      |pure v hr k=>exact firstP v (.inl ⟨hw,fun w1 _=>hr w1⟩) k
      |still E hr q =>
       obtain ⟨v,e,q⟩:=q
       cases hf:inL fr i with
       |true =>
        rw [hf] at e
        exact firstP v (.inl ⟨hw,fun w1 _=>hr w1 v w1 (e w1 trivial)⟩) q
       |false =>
        rw [hf] at e hwt
        have hwt:(waitsB .any ops listed ops.size i k=true∧listed.getD k true=false)∨ops.size≤k:=by
            rcases hwt with (q|q)|q
            ·cases q
            ·exact .inr (Nat.le_of_ble_eq_true q)
            ·exact .inl q
        exact wpAnyF_firstG hik hi (Region.noSelect_spec hsel) (fun c a w q=>hQ c _ _ w q) fuel listed _ w (Region.free_spec hi hfree) (by simpa using hready) hwt (.inl ⟨hw,fun w1 s=>hr w1 v w1 (e w1 s)⟩) hS (go v q)
      |eff E e _ _=>rw [hfl] at e;cases e
      |unit E e _ _=>rw [hfl] at e;cases e
      |call F vs e _ _=>rw [hfl] at e;cases e
     ·exact firstP undef (.inr ⟨hw,rfl⟩) h
termination_by is S k fuel=>fuel
theorem zc (T:Tb P) (is:Orc) (k:Nat) (S:World→Prop) {l:List Value} {ds:List Deferred} {id:Nat} {os:List Oper} {w:World} (fr:List Nat:=[]) (hS:S w.drew)
 (h:ObC T os (Glit l) fr (fun M w=>Fi (Q .normal (puts ⟨l.toArray,ds⟩ M) w)) is S k [] w.drew)
 (hk:okC os.toArray fr is k (Array.replicate os.length false)=true:=by kernel_rfl) (hd:dstB l.length os=true:=by kernel_rfl) (hs:Region.noSelect os.toArray=true:=by kernel_rfl) (hm:P.follows .mixedOrders=true:=by kernel_rfl) (hl:Nat.ble is.dep os.length=true:=by kernel_rfl) :
 (Code.region id os.toArray true).wp P Q ⟨l.toArray,ds⟩ w :=
 wp_region_noPanic (wp_region_F k hm hS (fun s=>obc_out (ops:=os.toArray) T (fun M w _ h=>NoPanic.normal h.out) (fun _ _ _ _ q=>q) hs hd is S k _ (fr_lit l ds) (by have:=Nat.le_of_ble_eq_true hl;simpa using this) hk (fun _=>s) h))
end
end Go.Proofs.YtifendlpeebofaaGreatDoor.En
namespace Go.Proofs.YtifendlpeebofaaGreatDoor
open Go.RowKit Sq
attribute [local go_sem] Oper.semAt_some
structure SwD (w4:World) (S:List SpV) (lv:Value) (W:World):Prop where
 own:RSp.Own W w4.heap.size lv S
 ok:∀x∈S,SpV.ok x∧x.v.right=true
 bel:Below w4.heap.size w4 W
theorem SwD.below {w4 W W':World} {S:List SpV} {lv:Value} (h:SwD w4 S lv W) (b:Below W.heap.size W W'):SwD w4 S lv W':=⟨h.own.below b,h.ok,h.bel.trans (b.mono h.bel.size)⟩
theorem SwD.push {w4 W:World} {S:List SpV} {lv:Value} (h:SwD w4 S lv W) {x:SpV} (hx:SpV.ok x) (hr:x.v.right=true) (hl:S.length+1≤2000000000000) :
 ∃sv y1 v2 y2,(Instr.buildSlice 49 1 #[(0,x.a)]).run Tryz.prog W= .ok sv y1∧(Builtin.append_ #[49,49] 49 #[lv,sv]).run Tryz.prog y1= .ok v2 y2∧Below W.heap.size W y1∧SwD w4 (S++[x]) v2 y2∧∀b u,VaAt W b u→VaAt y1 b u∧VaAt y2 b u:=by
 obtain ⟨sv,y1,v2,y2,e1,e2,o2,b1,z1,g2,q2⟩:=RowT.run_push RSp_is W w4.heap.size lv S x h.own hx (by unfold maxLen;omega) (by show _*72≤_;omega) h.bel.size
 refine ⟨sv,y1,v2,y2,e1,e2,b1,⟨o2,fun y hy=> ?_,(h.bel.trans (b1.mono h.bel.size)).trans ((Below.refl _ _).grown g2 (Nat.le_trans h.bel.size b1.size) (fun k e=>(h.own.cells e).1))⟩,fun b u hv=> ?_⟩
 ·rcases List.mem_append.1 hy with q|q
  ·exact h.ok y q
  ·rw [List.mem_singleton.1 q];exact ⟨hx,hr⟩
 ·have v1:=hv.below b1
  refine ⟨v1,(g2.block b (Array.getElem?_eq_some_iff.1 v1).1 (fun e=> ?_)).trans v1⟩
  obtain ⟨_,c,hc⟩:=h.own.cells e.symm
  have hv':W.heap[b]? =_:=hv
  rw [hc] at hv'
  simp [RSp] at hv'
theorem SwD.ext {w4 W:World} {A:List SpV} {q:SpV} {sa:Option Addr} {sn sc:Nat} (h:SwD w4 (A++[q]) (.slice sa sn sc) W) (hn:sn=A.length+1) {y:Int} (hy: -9223372036854775808≤y∧y≤9223372036854775807) :
 ∃g,sa=some ⟨g,0,none⟩∧(∀W',Below W.heap.size W W'→W'.rangeAt g (0+7*A.length) q.c∧(Instr.loadAt 3 (.pointer (some ⟨g,0+7*A.length+1,none⟩))).run Tryz.prog W'= .ok (.int .i64 q.to) W')∧∃W',(Instr.storeAt 3 (.pointer (some ⟨g,0+7*A.length+1,none⟩)) (.int .i64 y)).run Tryz.prog W= .ok () W'∧SwD w4 (A++[⟨q.fr,y,q.nm,q.v⟩]) (.slice sa sn sc) W':=by
 have ok:∀x∈A++[q],RSp.ok x:=fun x hx=>(h.ok x hx).1
 have hq:(A++[q])[A.length]? =some q:=by simp
 obtain ⟨g,cap,e,_⟩:=RowT.Own.zeroZ RSp_is h.own ok (i:=A.length) (by simp)
 cases e
 obtain ⟨W',e1,o,t⟩:=own_stTo h.own ok hq y
 have hg:=(h.own.cells (k:=g) rfl).1
 have es:(A++[q]).set A.length ⟨q.fr,y,q.nm,q.v⟩=A++[⟨q.fr,y,q.nm,q.v⟩]:=by rw [List.set_append_right _ _ (Nat.le_refl _)];simp
 rw [es] at o
 refine ⟨g,rfl,fun W2 b=>⟨own_rng (h.own.below b) ok hq,own_to (h.own.below b) ok hq⟩,W',e1,o,fun x hx=> ?_,h.bel.trans (t.below h.bel.size (fun j e=>by rw [e];exact hg))⟩
 rcases List.mem_append.1 hx with z|z
 ·exact h.ok x (by simp [z])
 ·rw [List.mem_singleton.1 z]
  have k:=h.ok q (by simp)
  exact ⟨⟨k.1.f0,k.1.f1,hy.1,hy.2,k.1.nm,k.1.v⟩,k.2⟩
theorem hoD_rt {E:List Elt} {L:List MkV} (rt:∀x∈L,x.v.right=true) {nm:ByteArray} {e:Int} (h:(hoD E L nm e).2=true):(hoD E L nm e).1.right=true:=by
 unfold hoD at h ⊢
 split
 ·next x hx=>exact rt x (List.mem_filter.1 (List.mem_of_getLast? hx)).1
 ·next hx=>rw [hx] at h;simp at h
set_option maxHeartbeats 8000000 in
theorem rspans_any {w:World} {base:Nat} {r:Rx} (h:RkAt w base r) (h3:∀x∈r.L,0≤x.sd∧x.sd≤3) (h4:∀x∈r.L,x.v.right=true) {B:Nat} {pv:Value} {R:List Elt} (hs:RefV w B pv R) :
 Calls Tryz.prog 26 #[.pointer (some ⟨r.rb,0,none⟩),pv] w fun e w'=> ∃v S,e= .returned v∧RSp.Own w' w.heap.size v S∧SpansIs (hE (rowR R) r.L) S∧S.length≤2*r.L.length∧(∀x∈S,SpV.ok x)∧Below w.heap.size w w':=by
 have HWF:=hidMk (row_wf hs.ok.1)
 have HOK:=hidMk hs.ok.1.row
 have hln:(rowR R).length≤1400000000000:=by rw [row_len];exact hs.ok.2
 have HH:=hidMk h
 have H3:=hidMk h3
 have H4:=hidMk h4
 have RW:=hidMk (row_ref hs)
 obtain ⟨E,hE⟩:∃E,rowR R=E:=⟨_,rfl⟩
 rw [hE] at HWF HOK hln RW ⊢
 clear h h3 h4 hs hE
 go_enter Tryz.func26,Tryz.ntmps26
 go_upto_region 1 with fail
 refine En.zq tab rfl (En.ca RW.out ?_)
 rintro _ w1 ⟨ra,rc,rfl,o1,b1⟩
 refine ⟨_,rfl,En.fi ?_⟩
 simp only [En.putM,En.puts,Act.put,List.setIfInBounds_toArray,List.set_cons_zero,List.set_cons_succ]
 have hat:RE.At w1 ra E:=by
  obtain ⟨a,c,e,ha,_⟩:=o1.open RE_is HWF.out
  cases e
  exact ha
 have HAT:=hidMk hat
 have B1:=hidMk b1
 have NM:=hidMk (names_any (HH.out.below b1))
 clear RW o1 hat b1
 obtain ⟨m,hm⟩:∃m,E.length=m:=⟨_,rfl⟩
 rw [hm]
 have HM:=hidMk hm
 go_upto_region 2 with fail
 refine En.zq tab rfl (En.ca NM.out ?_)
 rintro _ w3 ⟨nv,l,rfl,hnl,hno,b3⟩
 refine ⟨_,rfl,En.fi ?_⟩
 simp only [En.putM,En.puts,Act.put,List.setIfInBounds_toArray,List.set_cons_zero,List.set_cons_succ]
 have B3:Hid (Below w.heap.size w w3):=B1.out.trans (b3.mono B1.out.size)
 have HAT3:=hidMk (HAT.out.below b3)
 have HNL:=hidMk hnl
 have HNO:=hidMk hno
 obtain ⟨na,nc,env⟩:=hno.sl
 obtain ⟨n,hn⟩:∃n,l.length=n:=⟨_,rfl⟩
 rw [hn] at env
 subst env
 have HN:=hidMk hn
 have hn9:n≤900000000000:=by rw [←hn];exact Nat.le_trans hnl.len HH.out.n
 have BW:Hid (∀W,Below w3.heap.size w3 W→Below w.heap.size w W):=fun W b=>B3.out.trans (b.mono B3.out.size)
 clear NM HAT B1 hnl hno b3 hn hm
 go_wp2
 go_loopw [7,8] (fun v7 v8 wr=> ∃j:Nat,v8= .int .i64 (j:Int)∧j≤n∧Hid (SwD w3 (allS E r.L (l.take j)) v7 wr)) (fun _ v8 _=>n-(match v8 with | .int _ i=>i.toNat|_=>0))
 case atStart=>exact ⟨0,rfl,Nat.zero_le _,by simpa [allS] using RSp.own_nil _ _,by simp [allS],Below.refl _ _⟩
 case round =>
  obtain ⟨j,rfl,hj,HO⟩:=hrel
  by_cases hjn:j<n
  ·obtain ⟨nm,hy⟩:∃nm,l[j]? =some nm:=⟨_,List.getElem?_eq_getElem (by rw [HN.out];exact hjn)⟩
   obtain ⟨lg,lc2,e3,_,_,lcc⟩:=HNO.out.cellB hy
   rw [HN.out] at e3
   cases e3
   have LC:=hidMk lcc
   have HY:=hidMk hy
   have c1:decide ((j:Int)<(n:Int))=true:=decide_eq_true (by omega)
   clear lcc hy
   go_upto_region 5 with fail
   refine En.zq tab rfl (En.cm c1 (En.fi ?_))
   simp only [En.putM,En.puts,Act.put,List.setIfInBounds_toArray,List.set_cons_zero,List.set_cons_succ]
   clear c1
   go_wp2
   generalize wr=wC at *
   go_loopw [7,9,10,11] (fun v7 v9 v10 v11 wr=> ∃i:Nat,v11= .int .i64 (i:Int)∧i≤m∧v9= .int .i64 (cntE E i:Int)∧v10= .bool (opS E r.L nm i)∧Hid (SwD w3 (allS E r.L (l.take j)++wS E r.L nm i) v7 wr)) (fun _ _ _ v11 _=>m-(match v11 with | .int _ i=>i.toNat|_=>0))
   case atStart=>exact ⟨0,rfl,Nat.zero_le _,by simp [cntE],rfl,by simpa [wS] using HO.out.own,by simpa [wS] using HO.out.ok,HO.out.bel⟩
   case round =>
        clear HO
        obtain ⟨i,rfl,hi,rfl,rfl,HI⟩:=hrel
        obtain ⟨sa,sc,ev⟩:=own_formO HI.out.own
        obtain ⟨sn,hsn⟩:∃k,(allS E r.L (l.take j)++wS E r.L nm i).length=k:=⟨_,rfl⟩
        rw [hsn] at ev
        subst ev
        have hsb:sn≤1800000000000:=by
         rw [←hsn]
         have h1:=allS_part (E:=E) (L:=r.L) HOK.out HNL.out.nodup HY.out (i:=i) (by rw [HM.out];exact hi)
         have:=HH.out.n
         omega
        have HSN:=hidMk hsn
        clear hsn
        by_cases him:i<m
        ·have hiE:i<E.length:=by rw [HM.out];exact him
         have ci:decide ((i:Int)<(m:Int))=true:=decide_eq_true (by omega)
         obtain ⟨eb,eo,hra,rfl⟩:∃eb eo,wr.rangeAt eb (eo+67*i) E[i].c∧ra=some ⟨eb,eo,none⟩:=by
          rcases HAT3.out.below HI.out.bel with h|⟨g,o,e,hl,h2⟩
          ·rw [h] at hiE;simp at hiE
          ·exact ⟨g,o,h2 i _ (List.getElem?_eq_getElem hiE),e⟩
         have LSH:=hidMk (el_sh (HWF.out _ (List.getElem_mem hiE)) hra)
         have hm2:m≤1400000000001:=by have:=HM.out;omega
         have hcn:cntE E i≤1400000000000:=by
          have:cntE E i≤i:=by unfold cntE;exact Nat.le_trans (List.countP_le_length) (by rw [List.length_take];omega)
          omega
         clear hra
         go_upto_region 10 with fail
         refine En.zq tab rfl (En.cm ci (En.fi ?_))
         simp only [En.putM,En.puts,Act.put,List.setIfInBounds_toArray,List.set_cons_zero,List.set_cons_succ]
         clear ci
         go_upto_region 12 with fail
         refine En.zq tab rfl (En.st (ix_el him hm2 _) (En.st LSH.out (En.fi ?_)))
         simp only [En.putM,En.puts,Act.put,List.setIfInBounds_toArray,List.set_cons_zero,List.set_cons_succ]
         clear LSH
         rcases Bool.eq_false_or_eq_true E[i].sh with hsh|hsh
         case inr =>
          rw [hsh]
          obtain ⟨a1,a2,a3⟩:=wS_hid (L:=r.L) (nm:=nm) hiE hsh
          rw [←a2, ←a3]
          have NI:Hid (SwD w3 (allS E r.L (l.take j)++wS E r.L nm (i+1)) (.slice sa sn sc) wr):=by rw [a1];exact HI.out
          clear a1 a2 a3 HI HSN hsh
          go_wp2
          rw [show ((i:Int)+1)=((i+1:Nat):Int) by omega]
          refine ⟨⟨i+1,rfl,him,rfl,rfl,NI⟩, ?_⟩
          show m-((i+1:Nat):Int).toNat<m-(i:Int).toNat
          omega
         case inl =>
          rw [hsh]
          have CH:=holds_any (lc:=rc) (HH.out.below (BW.out _ HI.out.bel)) H3.out (HAT3.out.below HI.out.bel) HWF.out HOK.out hln nm (i:Int)
          have XO:=hidMk (hoD_ok (E:=E) HH.out.ok nm (i:Int))
          have XR:=hidMk (fun q=>hoD_rt (E:=E) H4.out (nm:=nm) (e:=(i:Int)) q)
          have NO:=hidMk (fun q=>wS_no (L:=r.L) (nm:=nm) hiE hsh q)
          have YS:=hidMk (fun q=>wS_yes (L:=r.L) (nm:=nm) hiE hsh q)
          have SE:=hidMk (fun (v:VaV) (ho:opS E r.L nm i=true) (A:List SpV) (q:SpV) (hq:wS E r.L nm i=A++[q]) (hv:q.v=v)=>step_ext (L:=r.L) (nm:=nm) HOK.out hiE ho hq hv)
          have SA:=hidMk (fun (v:VaV) (hv:opS E r.L nm i=true→∀q,(wS E r.L nm i).getLast?=some q→q.v≠v)=>step_app (L:=r.L) (nm:=nm) HOK.out hiE hv)
          have OL:=hidMk (opS_last (L:=r.L) (nm:=nm) HOK.out i (by omega))
          obtain ⟨p,hp⟩:∃p,hoD E r.L nm (i:Int)=p:=⟨_,rfl⟩
          rw [HM.out,hp] at CH
          rw [hp] at XO XR NO YS
          obtain ⟨x,b⟩:=p
          have CHH:=hidMk CH
          clear CH hp hsh
          go_upto_region 13 with fail
          refine En.zq tab rfl (En.st (ix_t hjn (by omega) _) (En.st (LC.out _ HI.out.bel) (En.ca CHH.out ?_)))
          rintro _ w5 ⟨rfl,b5⟩
          have hv5:VaAt (w5.alloc (.cells zVa.c.toArray 40)) w5.heap.size zVa:=heap_alloc_new _ _
          have b51:Below w5.heap.size w5 (w5.alloc (.cells zVa.c.toArray 40)):=(Below.refl _ _).alloc (Nat.le_refl _) _
          refine ⟨_,rfl,En.ef (va_zero _) (En.eu (store_va (u:=x) hv5) (En.fi ?_))⟩
          simp only [En.putM,En.puts,Act.put,List.setIfInBounds_toArray,List.set_cons_zero,List.set_cons_succ]
          have hv6:=hv5.set x
          have b6:Below wr.heap.size wr ((w5.alloc (.cells zVa.c.toArray 40)).setRow w5.heap.size x.c.toArray):=(b5.trans (b51.mono b5.size)).trans ((set_below _ b51.size (Nat.le_refl _)).mono b5.size)
          have O6:Hid (SwD w3 (allS E r.L (l.take j)++wS E r.L nm i) (.slice sa sn sc) ((w5.alloc (.cells zVa.c.toArray 40)).setRow w5.heap.size x.c.toArray)):=HI.out.below b6
          obtain ⟨vb,hvb⟩:∃b,w5.heap.size=b:=⟨_,rfl⟩
          rw [hvb] at hv6 O6 ⊢
          generalize (w5.alloc (.cells zVa.c.toArray 40)).setRow vb x.c.toArray=w6 at *
          have HV6:=hidMk hv6
          clear hv5 b51 hv6 b6 b5 hvb CHH HI
          cases b with
          |false =>
           obtain ⟨a1,a2,a3⟩:=NO.out rfl
           have O7:Hid (SwD w3 (allS E r.L (l.take j)++wS E r.L nm (i+1)) (.slice sa sn sc) w6.drew):=by rw [a1];exact O6.out.below ((Below.refl _ _).drew)
           have A23:=hidMk (And.intro a2 a3)
           clear O6 HV6 LC NO YS SE SA OL XR XO a1 a2 a3
           go_upto_region 14 with fail
           refine En.zy tab [0,1,2,3,4,5,6,7,8,9,10,11,12,13,14,15] 16 (fun W=>True) (hS:=trivial) (h:=En.fi ?_)
           simp only [En.putM,En.puts,Act.put,List.setIfInBounds_toArray,List.set_cons_zero,List.set_cons_succ]
           generalize w6.drew=w7 at *
           go_upto_region 19 with fail
           refine En.zq tab rfl (En.ar (z:=((cntE E i+1:Nat):Int)) (by rw [wrap_i (by omega)];omega) (En.fi ?_))
           simp only [En.putM,En.puts,Act.put,List.setIfInBounds_toArray,List.set_cons_zero,List.set_cons_succ]
           go_wp2
           rw [show ((i:Int)+1)=((i+1:Nat):Int) by omega]
           refine ⟨⟨i+1,rfl,him,by rw [A23.out.2],by rw [A23.out.1],O7⟩, ?_⟩
           show m-((i+1:Nat):Int).toNat<m-(i:Int).toNat
           omega
          |true =>
           obtain ⟨a1,a2,a3⟩:=YS.out rfl
           have A23:=hidMk (And.intro a1 (And.intro a2 a3))
           have xr:=XR.out rfl
           have okx:SpV.ok ⟨(cntE E i:Int),(cntE E i:Int)+1,nm,x⟩:=by
             refine ⟨by show _≤(cntE E i:Int);omega,by show (cntE E i:Int)≤_;omega,by show _≤(cntE E i:Int)+1;omega,by show (cntE E i:Int)+1≤_;omega, ?_,XO.out⟩
             obtain ⟨y,hy,e⟩:=(HNL.out.mem nm).1 (List.mem_of_getElem? HY.out)
             rw [←e]
             exact (HH.out.ok y hy).nm
           have OKX:=hidMk (And.intro okx xr)
           clear a1 a2 a3 NO YS xr okx
           have HEQ:(∃A q,opS E r.L nm i=true∧wS E r.L nm i=A++[q]∧q.v=x∧q.to=(cntE E i:Int))∨(opS E r.L nm i=true∧∃A q,wS E r.L nm i=A++[q]∧q.v≠x)∨opS E r.L nm i=false:=by
             cases ho:opS E r.L nm i with
             |false=>exact .inr (.inr rfl)
             |true =>
              obtain ⟨q,h1,h2⟩:=OL.out.1 ho
              obtain ⟨A,e⟩:=List.getLast?_eq_some_iff.1 h1
              by_cases hv:q.v=x
              ·exact .inl ⟨A,q,rfl,e,hv,h2⟩
              ·exact .inr (.inl ⟨rfl,A,q,e,hv⟩)
           have PU:Hid (∀W,Below w6.heap.size w6 W→(opS E r.L nm i=true→∀q,(wS E r.L nm i).getLast?=some q→q.v≠x)→∃sv y1 v2 y2,(Instr.buildSlice 49 1 #[(0,SpV.a ⟨(cntE E i:Int),(cntE E i:Int)+1,nm,x⟩)]).run Tryz.prog W= .ok sv y1∧(Builtin.append_ #[49,49] 49 #[.slice sa sn sc,sv]).run Tryz.prog y1= .ok v2 y2∧(Below w3.heap.size w3 y1∧VaAt y1 vb x)∧(Below w3.heap.size w3 y2∧VaAt y2 vb x)∧SwD w3 (allS E r.L (l.take j)++wS E r.L nm (i+1)) v2 y2):=fun W b hne=>by
             have o7:=O6.out.below b
             obtain ⟨sv,y1,v2,y2,e1,e2,b1,o8,hv⟩:=o7.push OKX.out.1 OKX.out.2 (by rw [HSN.out];omega)
             have v1:=hv vb x (HV6.out.below b)
             refine ⟨sv,y1,v2,y2,e1,e2,⟨o7.bel.trans (b1.mono o7.bel.size),v1.1⟩,⟨o8.bel,v1.2⟩, ?_⟩
             rw [A23.out.1,SA.out x hne, ←List.append_assoc]
             exact o8
           clear SA OL
           rcases HEQ with ⟨A,q,ho,hq,hv,ht⟩|⟨ho,A,q,hq,hv⟩|ho
           case inl =>
             have o6:SwD w3 ((allS E r.L (l.take j)++A)++[q]) (.slice sa sn sc) w6:=by rw [List.append_assoc, ←hq];exact O6.out
             obtain ⟨k,hk⟩:∃k,(allS E r.L (l.take j)++A).length=k:=⟨_,rfl⟩
             have hsk:sn=k+1:=by rw [←HSN.out,hq, ←hk, ←List.append_assoc,List.length_append];rfl
             obtain ⟨g,hsa,rg,_⟩:=o6.ext (by rw [hk];exact hsk) (y:=0) ⟨by omega,by omega⟩
             rw [hk] at rg
             have okq:=o6.ok q (by simp)
             have RG:=hidMk rg
             have CM:=fun W=>refcmp okq.1.v XO.out okq.2 OKX.out.2 W
             have HA:=hidMk (SE.out x ho A q hq hv)
             rw [ho]
             subst hsa
             have HV:=hidMk hv
             have HT:=hidMk ht
             have HK:=hidMk hk
             have HO6:=hidMk o6
             clear o6 rg okq hv hq hk ho ht SE PU
             go_upto_region 14 with fail
             refine En.zy tab [0,1,2,3,4,5,6,7,8,9,10,11,12,13,14,15] 16 (fun W=>Below w6.heap.size w6 W) (hS:=(Below.refl _ _).drew) (h:=En.ar (z:=(k:Int)) (by rw [wrap_i (by omega)];omega) (En.sty (fun W b=>ix_sp (show k<sn by omega) (by omega) W) (En.sty (fun W b=>sp_v (RG.out W b).1) (En.sty (fun W b=>load_va (HV6.out.below b)) (En.cay (CM _) ?_)))))
             rintro _ w7 ⟨⟨c,rfl,hc⟩,b7⟩
             have D6:Below w6.heap.size w6 w6.drew:=(Below.refl _ _).drew
             have B7:Below w6.heap.size w6 w7:=D6.trans (b7.mono D6.size)
             refine ⟨_,rfl,B7,En.cm (decide_eq_true (hc.2 HV.out)) (En.fi ?_)⟩
             simp only [En.putM,En.puts,Act.put,List.setIfInBounds_toArray,List.set_cons_zero,List.set_cons_succ]
             obtain ⟨g2,hg2,_,w8,e8,o8⟩:=(HO6.out.below B7).ext (by rw [HK.out];exact hsk) (y:=q.to+1) ⟨by rw [HT.out];omega,by rw [HT.out];omega⟩
             cases hg2
             rw [HK.out] at e8
             have LT:=hidMk (RG.out _ B7).2
             have NI:Hid (SwD w3 (allS E r.L (l.take j)++wS E r.L nm (i+1)) (.slice (some ⟨g,0,none⟩) sn sc) w8):=by
               rw [A23.out.1,HA.out, ←List.append_assoc];exact o8
             have hw:IntKind.i64.wrap (q.to+1)=q.to+1:=by have:=HT.out;rw [wrap_i (by omega)]
             have hw2:IntKind.i64.wrap ((cntE E i:Int)+1)=(cntE E i:Int)+1:=by rw [wrap_i (by omega)]
             clear B7 D6 b7 hc CM RG HV HA HK HT HO6 o8 O6 HV6
             go_upto_region 15 with fail
             refine En.zq tab rfl (En.ar (z:=(k:Int)) (by rw [wrap_i (by omega)];omega) (En.st (ix_sp (show k<sn by omega) (by omega) _) (En.st LT.out (En.ar (z:=q.to+1) hw (En.st (ix_sp (show k<sn by omega) (by omega) _) (En.eu e8 (En.fi ?_)))))))
             simp only [En.putM,En.puts,Act.put,List.setIfInBounds_toArray,List.set_cons_zero,List.set_cons_succ]
             clear e8 LT hw
             go_upto_region 19 with fail
             refine En.zq tab rfl (En.ar (z:=(cntE E i:Int)+1) hw2 (En.fi ?_))
             simp only [En.putM,En.puts,Act.put,List.setIfInBounds_toArray,List.set_cons_zero,List.set_cons_succ]
             clear hw2
             go_wp2
             rw [show ((i:Int)+1)=((i+1:Nat):Int) by omega]
             refine ⟨⟨i+1,rfl,him,by rw [A23.out.2.2];rfl,by rw [A23.out.2.1],NI⟩, ?_⟩
             show m-((i+1:Nat):Int).toNat<m-(i:Int).toNat
             omega
           case' inr.inl =>
             have hne:opS E r.L nm i=true→∀q,(wS E r.L nm i).getLast?=some q→q.v≠x:=fun _ q2 h2=>by
               rw [hq] at h2
               simp at h2
               rw [←h2];exact hv
             have o6:SwD w3 ((allS E r.L (l.take j)++A)++[q]) (.slice sa sn sc) w6:=by rw [List.append_assoc, ←hq];exact O6.out
             obtain ⟨k,hk⟩:∃k,(allS E r.L (l.take j)++A).length=k:=⟨_,rfl⟩
             have hsk:sn=k+1:=by rw [←HSN.out,hq, ←hk, ←List.append_assoc,List.length_append];rfl
             obtain ⟨g,hsa,rg,_⟩:=o6.ext (by rw [hk];exact hsk) (y:=0) ⟨by omega,by omega⟩
             rw [hk] at rg
             have okq:=o6.ok q (by simp)
             have RG:=hidMk rg
             have CM:=fun W=>refcmp okq.1.v XO.out okq.2 OKX.out.2 W
             rw [ho]
             subst hsa
             have hne2:=hidMk hne
             have HV:=hidMk hv
             clear o6 rg okq hne hv hq hk ho SE
             go_upto_region 14 with fail
             refine En.zy tab [0,1,2,3,4,5,6,7,8,9,10,11,12,13,14,15] 16 (fun W=>Below w6.heap.size w6 W) (hS:=(Below.refl _ _).drew) (h:=En.ar (z:=(k:Int)) (by rw [wrap_i (by omega)];omega) (En.sty (fun W b=>ix_sp (show k<sn by omega) (by omega) W) (En.sty (fun W b=>sp_v (RG.out W b).1) (En.sty (fun W b=>load_va (HV6.out.below b)) (En.cay (CM _) ?_)))))
             rintro _ w7 ⟨⟨c,rfl,hc⟩,b7⟩
             have D6:Below w6.heap.size w6 w6.drew:=(Below.refl _ _).drew
             have B7:Below w6.heap.size w6 w7:=D6.trans (b7.mono D6.size)
             refine ⟨_,rfl,B7,En.cm (decide_eq_false (fun h=>HV.out (hc.1 h))) (En.fi ?_)⟩
             have HB7:=hidMk B7
             clear B7 D6 b7 hc CM RG HV
           case' inr.inr =>
             have hne2:Hid (opS E r.L nm i=true→∀q,(wS E r.L nm i).getLast?=some q→q.v≠x):=fun h=>by rw [ho] at h;cases h
             rw [ho]
             clear SE ho
             go_upto_region 14 with fail
             refine En.zy tab [0,1,2,3,4,5,6,7,8,9,10,11,12,13,14,15] 16 (fun W=>True) (hS:=trivial) (h:=En.fi ?_)
             have HB7:Hid (Below w6.heap.size w6 w6.drew):=(Below.refl _ _).drew
             generalize w6.drew=w7 at *
           all_goals
             simp only [En.putM,En.puts,Act.put,List.setIfInBounds_toArray,List.set_cons_zero,List.set_cons_succ]
             have D7:Below w6.heap.size w6 w7.drew:=HB7.out.drew
             obtain ⟨sv,y1,v2,y2,e1,e2,s1,s2,N⟩:=PU.out _ D7 hne2.out
             have S7:Below w3.heap.size w3 w7.drew∧VaAt w7.drew vb x:=⟨(O6.out.below D7).bel,HV6.out.below D7⟩
             have NI:=hidMk N
             have hw:IntKind.i64.wrap ((cntE E i:Int)+1)=(cntE E i:Int)+1:=by rw [wrap_i (by omega)]
             clear PU D7 N HB7 O6 HV6
             go_upto_region 17 with fail
             refine En.zy tab [0,1,2,3,4,5,6,7,8,9,10,11,12] 13 (fun W=>Below w3.heap.size w3 W∧VaAt W vb x) (hS:=S7) (h:=En.ar (z:=(cntE E i:Int)+1) hw (En.sty (fun W b=>ix_t hjn (by omega) W) (En.sty (fun W b=>LC.out W b.1) (En.sty (fun W b=>load_va b.2) (En.sty (fun W b=>build_span W _ _ nm x) (En.efy e1 s1 (En.efy e2 s2 (En.fi ?_))))))))
             simp only [En.putM,En.puts,Act.put,List.setIfInBounds_toArray,List.set_cons_zero,List.set_cons_succ]
             clear e1 e2 s1 s2 S7
             go_upto_region 19 with fail
             refine En.zq tab rfl (En.ar (z:=(cntE E i:Int)+1) hw (En.fi ?_))
             simp only [En.putM,En.puts,Act.put,List.setIfInBounds_toArray,List.set_cons_zero,List.set_cons_succ]
             clear hw
             go_wp2
             rw [show ((i:Int)+1)=((i+1:Nat):Int) by omega]
             refine ⟨⟨i+1,rfl,him,by rw [A23.out.2.2];rfl,by rw [A23.out.2.1],NI⟩, ?_⟩
             show m-((i+1:Nat):Int).toNat<m-(i:Int).toNat
             omega
        ·obtain rfl:i=m:=by omega
         have ci:decide ((i:Int)<(i:Int))=false:=decide_eq_false (by omega)
         have NI:Hid (SwD w3 (allS E r.L (l.take (j+1))) (.slice sa sn sc) wr):=by
          have e:allS E r.L (l.take (j+1))=allS E r.L (l.take j)++wS E r.L nm E.length:=flat_next HY.out _
          rw [e,HM.out]
          exact HI.out
         clear HI HSN
         go_upto_region 10 with fail
         refine En.zq tab rfl (En.cm ci (En.fi ?_))
         simp only [En.putM,En.puts,Act.put,List.setIfInBounds_toArray,List.set_cons_zero,List.set_cons_succ]
         clear ci
         go_wp2
         rw [show ((j:Int)+1)=((j+1:Nat):Int) by omega]
         refine ⟨⟨j+1,rfl,hjn,NI⟩, ?_⟩
         show n-((j+1:Nat):Int).toNat<n-(j:Int).toNat
         omega
  ·obtain rfl:j=n:=by omega
   have c1:decide ((j:Int)<(j:Int))=false:=decide_eq_false (by omega)
   have HF:Hid (SwD w3 (allS E r.L l) _ wr):=hidMk (by
        have:=HO.out
        rw [List.take_of_length_le (by rw [HN.out];exact Nat.le_refl _)] at this
        exact this)
   clear HO
   go_upto_region 5 with fail
   refine En.zq tab rfl (En.cm c1 (En.fi ?_))
   simp only [En.putM,En.puts,Act.put,List.setIfInBounds_toArray,List.set_cons_zero,List.set_cons_succ]
   clear c1
   obtain ⟨S0,hS0⟩:∃S0,allS E r.L l=S0:=⟨_,rfl⟩
   have FIN:Hid (∀S,S.Perm S0→SrtTo S S.length→SpansIs (hE E r.L) S):=hidMk (fun S hp hs=>by
        obtain ⟨m1,nd⟩:=allS_mem (E:=E) (L:=r.L) HOK.out HNL.out
        rw [hS0] at m1 nd
        exact spans_of (SrtTo.all (Nat.le_refl _) hs) (hp.nodup_iff.2 nd) (fun p=>hp.mem_iff.trans (m1 p)))
   have FEW:Hid (S0.length≤2*r.L.length):=hidMk (by rw [←hS0];exact allS_few HOK.out HNL.out.nodup)
   rw [hS0] at HF
   obtain ⟨fa,fc,ev⟩:=own_formO HF.out.own
   obtain ⟨fn,hfn⟩:∃k,S0.length=k:=⟨_,rfl⟩
   rw [hfn] at ev
   have HFN:=hidMk hfn
   have hfb:fn≤1800000000000:=by have:=FEW.out;have:=HH.out.n;omega
   subst ev
   clear hS0 hfn
   go_wp2
   generalize wr=wD at *
   go_loopw [14] (fun v14 wr=> ∃i:Nat,v14= .int .i64 (i:Int)∧1≤i∧i≤fn+1∧Hid (∃S,S.Perm S0∧SrtTo S i∧SwD w3 S (.slice fa fn fc) wr)) (fun v14 _=>fn+1-(match v14 with | .int _ i=>i.toNat|_=>0))
   case atStart=>exact ⟨1,rfl,Nat.le_refl _,by omega,S0,List.Perm.refl _,fun a b p q h1 h2=>by omega,HF.out⟩
   case round =>
        clear HF
        obtain ⟨i,rfl,hi1,hi2,HI⟩:=hrel
        by_cases hin:i<fn
        ·have c1:decide ((i:Int)<(fn:Int))=true:=decide_eq_true (by omega)
         go_upto_region 21 with fail
         refine En.zq tab rfl (En.cm c1 (En.fi ?_))
         simp only [En.putM,En.puts,Act.put,List.setIfInBounds_toArray,List.set_cons_zero,List.set_cons_succ]
         clear c1
         go_wp2
         generalize wr=wC at *
         go_loopw [15] (fun v15 wr=> ∃k:Nat,v15= .int .i64 (k:Int)∧k≤i∧Hid (∃S,S.Perm S0∧InsI S i k∧SwD w3 S (.slice fa fn fc) wr)) (fun v15 _=>(match v15 with | .int _ i=>i.toNat|_=>0))
         case atStart =>
          obtain ⟨S,h1,h2,h3⟩:=HI.out
          exact ⟨i,rfl,Nat.le_refl _,S,h1,h2.start,h3⟩
         case round =>
          clear HI
          obtain ⟨k,rfl,hk,HI⟩:=hrel
          obtain ⟨S,hp,hs,hw⟩:=HI.out
          have hSl:S.length=fn:=by rw [hp.length_eq];exact HFN.out
          have HS:=hidMk (And.intro hp (And.intro hs hw))
          clear HI hp hs hw
          rcases Nat.eq_zero_or_pos k with rfl|hk0
          case inl =>
             have NI:Hid (∃S,S.Perm S0∧SrtTo S (i+1)∧SwD w3 S (.slice fa fn fc) wr.drew):=⟨S,HS.out.1,HS.out.2.1.stop (.inl rfl),HS.out.2.2.below ((Below.refl _ _).drew)⟩
             have c1:decide (((0:Nat):Int)>0)=false:=rfl
             clear HS
             go_upto_region 24 with fail
             refine En.zy tab [0,1,2,3,4,5,6,7,8,9,10,11,12,13] 14 (fun W=>True) (hS:=trivial) (h:=En.cm c1 (En.fi ?_))
             generalize wr.drew=w7 at *
             simp only [En.putM,En.puts,Act.put,List.setIfInBounds_toArray,List.set_cons_zero,List.set_cons_succ]
             go_wp2
             rw [show ((i:Int)+1)=((i+1:Nat):Int) by omega]
             refine ⟨⟨i+1,rfl,by omega,by omega,NI⟩, ?_⟩
             show fn+1-((i+1:Nat):Int).toNat<fn+1-(i:Int).toNat
             omega
          case inr =>
             obtain ⟨k,rfl⟩:∃j,k=j+1:=⟨k-1,by omega⟩
             obtain ⟨x,hx⟩:∃x,S[k+1]? =some x:=⟨_,List.getElem?_eq_getElem (by omega)⟩
             obtain ⟨y,hy⟩:∃y,S[k]? =some y:=⟨_,List.getElem?_eq_getElem (by omega)⟩
             have ok:∀x∈S,RSp.ok x:=fun x hx=>(HS.out.2.2.ok x hx).1
             obtain ⟨g,cap,e,_⟩:=RowT.Own.zeroZ RSp_is HS.out.2.2.own ok (i:=k) (by omega)
             rw [hSl] at e
             cases e
             have okx:=ok x (List.mem_of_getElem? hx)
             have oky:=ok y (List.mem_of_getElem? hy)
             have LX:Hid (∀W,Below wr.heap.size wr W→(Instr.loadAt 65 (.pointer (some ⟨g,0+7*(k+1),none⟩))).run Tryz.prog W= .ok x.a W):=fun W b=>RowT.ld RSp_is okx (own_rng (HS.out.2.2.own.below b) ok hx)
             have LY:Hid (∀W,Below wr.heap.size wr W→(Instr.loadAt 65 (.pointer (some ⟨g,0+7*k,none⟩))).run Tryz.prog W= .ok y.a W):=fun W b=>RowT.ld RSp_is oky (own_rng (HS.out.2.2.own.below b) ok hy)
             have HXY:=hidMk (And.intro hx (And.intro hy (And.intro ok (And.intro okx oky))))
             have c1:decide (((k+1:Nat):Int)>0)=true:=decide_eq_true (by omega)
             clear hx hy ok okx oky
             go_upto_region 24 with fail
             refine En.zy tab [0,1,2,3,4,5,6,7,8,9,10,11,12,13] 14 (fun W=>Below wr.heap.size wr W) (hS:=(Below.refl _ _).drew) (h:=En.cm c1 (En.sty (fun W b=>ix_sp (show k+1<fn by omega) (by omega) W) (En.sty (fun W b=>LX.out W b) (En.ar (z:=(k:Int)) (by rw [wrap_i (by omega)];omega) (En.sty (fun W b=>ix_sp (show k<fn by omega) (by omega) W) (En.sty (fun W b=>LY.out W b) (En.cay (ahead_any x y _) ?_)))))))
             rintro _ w7 ⟨rfl,b7⟩
             have D6:Below wr.heap.size wr wr.drew:=(Below.refl _ _).drew
             have B7:Below wr.heap.size wr w7:=D6.trans (b7.mono D6.size)
             refine ⟨_,rfl,B7,En.fi ?_⟩
             clear c1 b7 D6 LX LY
             rcases Bool.eq_false_or_eq_true (decide (cSp x y<0)) with hd|hd
             ·simp only [En.putM,En.puts,Act.put,List.setIfInBounds_toArray,List.set_cons_zero,List.set_cons_succ]
              rw [hd]
              have HB7:=hidMk B7
              have HD:=hidMk (of_decide_eq_true hd)
              clear B7 hd
              have D7:Below wr.heap.size wr w7.drew:=HB7.out.drew
              have h7:=HS.out.2.2.below D7
              obtain ⟨hx,hy,ok,okx,oky⟩:=HXY.out
              have L7:Hid ((Instr.loadAt 65 (.pointer (some ⟨g,0+7*(k+1),none⟩))).run Tryz.prog w7.drew= .ok x.a w7.drew∧(Instr.loadAt 65 (.pointer (some ⟨g,0+7*k,none⟩))).run Tryz.prog w7.drew= .ok y.a w7.drew):=⟨RowT.ld RSp_is okx (own_rng h7.own ok hx),RowT.ld RSp_is oky (own_rng h7.own ok hy)⟩
              obtain ⟨w8,e8,o8,t8⟩:=own_stAll h7.own ok (i:=k+1) (by omega) oky
              have ok8:∀z∈S.set (k+1) y,RSp.ok z:=fun z hz=>by
                rcases List.mem_or_eq_of_mem_set hz with q|q
                ·exact ok z q
                ·rw [q];exact oky
              obtain ⟨w9,e9,o9,t9⟩:=own_stAll o8 ok8 (i:=k) (by rw [List.length_set];omega) okx
              have hg:=(h7.own.cells (k:=g) rfl).1
              have b8:=h7.bel.trans (t8.below h7.bel.size (fun j e=>by rw [e];exact hg))
              have b9:=b8.trans (t9.below b8.size (fun j e=>by rw [e];exact hg))
              have NI:Hid (∃S,S.Perm S0∧InsI S i k∧SwD w3 S (.slice (some ⟨g,0,none⟩) fn fc) w9):=⟨swp S k x y,(swp_perm hx hy).trans HS.out.1,HS.out.2.1.swap hx hy (by omega) HD.out,o9,fun z hz=>HS.out.2.2.ok z ((swp_perm hx hy).mem_iff.1 hz),b9⟩
              clear D7 h7 hx hy ok okx oky o8 t8 ok8 o9 t9 hg b8 b9 HS HXY HD HB7
              go_upto_region 26 with fail
              refine En.zc tab (En.Orc.of [0,1,2,3,4,5,6,7,8,9,10,11,12,13,14] (.cut 15 18 (.one 16 (.one 17 .nil)))) 15 (fun W=>W=w7.drew) (fr:=[2,3,4]) (hS:=rfl) (h:=En.ar (z:=(k:Int)) (by rw [wrap_i (by omega)];omega) (En.ar (z:=(k:Int)) (by rw [wrap_i (by omega)];omega) (En.se (ix_sp (show k<fn by omega) (by omega) _) (En.se L7.out.2 (En.se (ix_sp (show k+1<fn by omega) (by omega) _) (En.se L7.out.1 (En.se (ix_sp (show k+1<fn by omega) (by omega) _) (En.eu e8 ⟨fun _=>True,trivial,En.sty (fun W _=>ix_sp (show k<fn by omega) (by omega) W) (En.euy e9 trivial (En.fi ?_))⟩))))))))
              simp only [En.putM,En.puts,Act.put,List.setIfInBounds_toArray,List.set_cons_zero,List.set_cons_succ]
              clear e8 e9 L7
              go_upto_region 25 with fail
              refine En.zq tab rfl (En.ar (z:=(k:Int)) (by rw [wrap_i (by omega)];omega) (En.fi ?_))
              simp only [En.putM,En.puts,Act.put,List.setIfInBounds_toArray,List.set_cons_zero,List.set_cons_succ]
              go_wp2
              refine ⟨⟨k,rfl,by omega,NI⟩, ?_⟩
              show (k:Int).toNat<((k+1:Nat):Int).toNat
              omega
             ·rw [hd]
              have NI:Hid (∃S,S.Perm S0∧SrtTo S (i+1)∧SwD w3 S (.slice (some ⟨g,0,none⟩) fn fc) w7):=⟨S,HS.out.1,HS.out.2.1.stop (.inr ⟨k,x,y,rfl,HXY.out.1,HXY.out.2.1,of_decide_eq_false hd⟩),HS.out.2.2.below B7⟩
              clear HS HXY B7 hd
              simp only [En.putM,En.puts,Act.put,List.setIfInBounds_toArray,List.set_cons_zero,List.set_cons_succ]
              go_wp2
              rw [show ((i:Int)+1)=((i+1:Nat):Int) by omega]
              refine ⟨⟨i+1,rfl,by omega,by omega,NI⟩, ?_⟩
              show fn+1-((i+1:Nat):Int).toNat<fn+1-(i:Int).toNat
              omega
        ·have c1:decide ((i:Int)<(fn:Int))=false:=decide_eq_false (by omega)
         go_upto_region 21 with fail
         refine En.zq tab rfl (En.cm c1 (En.fi ?_))
         simp only [En.putM,En.puts,Act.put,List.setIfInBounds_toArray,List.set_cons_zero,List.set_cons_succ]
         obtain ⟨S,hp,hs,hw⟩:=HI.out
         have hSl:S.length=fn:=by rw [hp.length_eq];exact HFN.out
         have HS:=hidMk (And.intro hp (And.intro hs hw))
         clear HI hp hs hw c1
         go_wp2
         go_ret
         exact ⟨_,S,rfl,HS.out.2.2.own.mono B3.out.size,FIN.out S HS.out.1 (fun a b p q h1 h2=>HS.out.2.1 a b p q h1 (by omega)),by rw [HS.out.1.length_eq];exact FEW.out,fun x hx=>(HS.out.2.2.ok x hx).1,BW.out _ HS.out.2.2.bel⟩
attribute [local go_sem] Oper.semAt_some
theorem pn_eq (b:Nat) (x y:Operand) (w:World):(do eqGuard .eql 29 x y (.pointer (some ⟨b,0,none⟩)) (.pointer none);binOp .eql 29 (.pointer (some ⟨b,0,none⟩)) (.pointer none):Sem Value).run Tryz.prog w= .ok (.bool false) w:=by
 refine bo rfl ?_
 go_simp
section
variable {w:World} {base:Nat} {r:Rx}
theorem rlen_any (h:RkAt w base r):Calls Tryz.prog 28 #[.pointer (some ⟨r.rb,0,none⟩)] w fun e w'=>e= .returned (.int .i64 (r.L.length:Int))∧w'=w:=by
 obtain ⟨a,c,e,_⟩:=h.sl
 have LD:=hidMk h.ldl
 rw [e] at LD
 clear h e
 go_enter Tryz.func28,Tryz.ntmps28
 go_upto_region 1 with fail
 refine En.zq tab rfl (En.st (pn_eq _ _ _ _) (En.fi ?_))
 simp only [En.putM,En.puts,Act.put,List.setIfInBounds_toArray,List.set_cons_zero,List.set_cons_succ]
 go_upto_region 3 with fail
 refine En.zq tab rfl (En.st LD.out (En.fi ?_))
 simp only [En.putM,En.puts,Act.put,List.setIfInBounds_toArray,List.set_cons_zero,List.set_cons_succ]
 go_wp2
 go_ret
 exact ⟨rfl,rfl⟩
theorem RowT.own_cut {κ:Type} {R:RowT κ} (I:R.Is) {n c:Nat} {L A B:List κ} (e:L=A++B) (ok:∀x∈L,R.ok x) {a:Option Addr} (h:R.Own w base (.slice a n c) L):R.Own w base (.slice a A.length c) A:=by
 subst e
 have okA:∀x∈A,R.ok x:=fun x hx=>ok x (by simp [hx])
 have lA:=RowT.flat_len I okA
 refine ⟨by rw [lA,Nat.mul_comm], ?_⟩
 rcases h.2 with ⟨e1,hn⟩|⟨g,cap,cur,e1,hb,hg,hnc,hcm,hcs,ht⟩
 ·cases e1
  have:A=[]:=by
   have:(A++B).length=0:=by omega
   cases A with
   |nil=>rfl
   |cons _ _=>simp at this
  subst this
  exact .inl ⟨rfl,rfl⟩
 ·cases e1
  rw [RowT.flat_app] at ht
  rw [List.length_append] at hnc
  refine .inr ⟨_,_,cur,rfl,hb,hg,by omega,hcm,hcs, ?_⟩
  have:=congrArg (List.take (A.length*R.k)) ht
  rw [List.take_take,Nat.min_eq_left (by rw [List.length_append];exact Nat.mul_le_mul_right _ (by omega)),List.take_left' (by rw [lA,Nat.mul_comm])] at this
  exact this
theorem undC_find {L:List MkV} (hn:(L.map (·.id)).Nodup) {k:IdK} {z:Int} (h:FdI L k z):undC L k=if z<0 then 4 else if z≠(L.length:Int)-1 then 2 else 0:=by
 unfold undC
 rcases h with ⟨rfl,h⟩|⟨i,x,rfl,hx,e,_⟩
 ·have q:hasM L k=false:=by
   cases q:hasM L k with
   |false=>rfl
   |true=>obtain ⟨x,hx,e⟩:=hasM_iff.1 q;exact absurd e (h x hx)
  rw [if_pos q,if_pos (show (-1:Int)<0 by omega)]
 ·rw [if_neg (show ¬hasM L k=false by rw [hasM_iff.2 ⟨x,List.mem_of_getElem? hx,e⟩];decide),if_neg (show ¬(i:Int)<0 by omega)]
  obtain ⟨hi,hx2⟩:=List.getElem?_eq_some_iff.1 hx
  by_cases hl:i=L.length-1
  ·rw [if_pos (show (L.getLast?.map (·.id))=some k by rw [List.getLast?_eq_getElem?, ←hl,hx];simp [e]),if_neg (show ¬(i:Int)≠(L.length:Int)-1 by omega)]
  ·rw [if_neg,if_pos (show (i:Int)≠(L.length:Int)-1 by omega)]
   intro q
   rw [List.getLast?_eq_getElem?,List.getElem?_eq_getElem (by omega)] at q
   simp only [Option.map_some,Option.some.injEq] at q
   have h2:=List.pairwise_iff_getElem.1 hn i (L.length-1) (by rw [List.length_map];omega) (by rw [List.length_map];omega) (by omega)
   simp only [List.getElem_map] at h2
   exact h2 (by rw [hx2,e,q])
theorem rundo_any (h:RkAt w base r) (hb:base≤w.heap.size) (hn:(r.L.map (·.id)).Nodup) {k:IdK} (hk:k.ok):Calls Tryz.prog 15 #[.pointer (some ⟨r.rb,0,none⟩),k.v] w fun e w'=>e= .returned (.int .i64 (undC r.L k))∧RkN r base (undR r.L k) w w':=by
 have bx:Below w.heap.size w (w.alloc (.cells k.c.toArray 36)):=(Below.refl _ _).alloc (Nat.le_refl _) _
 have hx:=id_new w k
 have HH:=hidMk h
 have HNO:=hidMk hn
 show Calls Tryz.prog 15 #[.pointer (some ⟨r.rb,0,none⟩), .agg k.c.toArray] w _
 have FD:Hid (∀W,Below w.heap.size w W→Calls Tryz.prog 43 #[.pointer (some ⟨r.rb,0,none⟩),k.v] W fun e w'=> ∃z,e= .returned (.int .i64 z)∧FdI r.L k z∧Below W.heap.size W w'):=fun W b=>rkfind_any (h.below b) hk
 clear h hn
 go_enter Tryz.func15,Tryz.ntmps15
 go_upto_region 1 with fail
 generalize w.alloc (.cells k.c.toArray 36)=wx at *
 obtain ⟨kb,hkb⟩:∃kb,w.heap.size=kb:=⟨_,rfl⟩
 have hx':IdAt wx kb k:=by rw [←hkb];exact hx
 rw [hkb]
 have LK:=hidMk (load_id hk hx')
 have BX:=hidMk bx
 clear hx hx' bx
 refine En.zq tab rfl (En.st (pn_eq _ _ _ _) (En.fi ?_))
 simp only [En.putM,En.puts,Act.put,List.setIfInBounds_toArray,List.set_cons_zero,List.set_cons_succ]
 go_upto_region 3 with fail
 refine En.zq tab rfl (En.st LK.out (En.ca (FD.out _ BX.out) ?_))
 rintro _ w2 ⟨z,rfl,hz,b2⟩
 refine ⟨_,rfl,En.fi ?_⟩
 simp only [En.putM,En.puts,Act.put,List.setIfInBounds_toArray,List.set_cons_zero,List.set_cons_succ]
 have B2:Hid (Below w.heap.size w w2):=BX.out.trans (b2.mono BX.out.size)
 have UC:=hidMk (undC_find HNO.out hz)
 have HZ:=hidMk hz
 clear LK FD b2 hz BX
 have HH2:=HH.out.below B2.out
 obtain ⟨a,c,elv,_⟩:=HH2.sl
 have LD:=HH2.ldl
 have hn9:=HH.out.n
 have SAME:Hid (undC r.L k≠0→RkN r base (undR r.L k) w w2):=fun q=>by
  unfold undR
  rw [if_neg q]
  exact RkN.same HH.out B2.out
 rw [elv] at LD
 obtain ⟨n,hn⟩:∃n,r.L.length=n:=⟨_,rfl⟩
 have HN:=hidMk hn
 rw [hn] at LD hn9 elv
 rw [hn] at UC
 clear hn
 have zb: -1≤z∧z<(n:Int):=by
  have:=HN.out
  rcases HZ.out with ⟨e,_⟩|⟨i,x,e,hx,_⟩
  ·omega
  ·have:=(List.getElem?_eq_some_iff.1 hx).1
   omega
 go_upto_region 4 with fail
 by_cases hz0:z<0
 ·have c1:decide (z<0)=true:=decide_eq_true hz0
  refine En.zq tab rfl (En.cm c1 (En.fi ?_))
  simp only [En.putM,En.puts,Act.put,List.setIfInBounds_toArray,List.set_cons_zero,List.set_cons_succ]
  have e4:=UC.out
  rw [if_pos hz0] at e4
  clear c1 UC HH2 LD
  go_wp2
  go_ret
  exact ⟨congrArg (fun z=>Ending.returned (Value.int IntKind.i64 z)) e4.symm,SAME.out (by rw [e4];decide)⟩
 ·have c1:decide (z<0)=false:=decide_eq_false hz0
  refine En.zq tab rfl (En.cm c1 (En.fi ?_))
  simp only [En.putM,En.puts,Act.put,List.setIfInBounds_toArray,List.set_cons_zero,List.set_cons_succ]
  clear c1
  rw [if_neg hz0] at UC
  obtain ⟨q,hq⟩:∃q,(n:Int)-1=q:=⟨_,rfl⟩
  rw [hq] at UC
  have hw:IntKind.i64.wrap ((n:Int)-1)=q:=by rw [wrap_i (by omega)];exact hq
  go_upto_region 6 with fail
  by_cases hzq:z≠q
  ·have c1:(!decide (z=q))=true:=by rw [decide_eq_false hzq];rfl
   refine En.zq tab rfl (En.st LD (En.ar (z:=q) hw (En.cm c1 (En.fi ?_))))
   simp only [En.putM,En.puts,Act.put,List.setIfInBounds_toArray,List.set_cons_zero,List.set_cons_succ]
   have e4:=UC.out
   rw [if_pos hzq] at e4
   have HE4:=hidMk e4
   have SM:=hidMk (SAME.out (by rw [e4];decide))
   clear c1 UC HH2 LD hw e4 SAME
   go_wp2
   go_ret
   exact ⟨congrArg (fun z=>Ending.returned (Value.int IntKind.i64 z)) HE4.out.symm,SM.out⟩
  ·have hzq:=Decidable.not_not.1 hzq
   have c1:(!decide (z=q))=false:=by rw [decide_eq_true hzq];rfl
   refine En.zq tab rfl (En.st LD (En.ar (z:=q) hw (En.cm c1 (En.fi ?_))))
   simp only [En.putM,En.puts,Act.put,List.setIfInBounds_toArray,List.set_cons_zero,List.set_cons_succ]
   have e4:=UC.out
   rw [if_neg (show ¬z≠q from fun h=>h hzq)] at e4
   clear c1 UC hw
   obtain ⟨i,rfl⟩:∃i:Nat,z=(i:Int):=⟨z.toNat,by omega⟩
   have hin:n=i+1:=by omega
   obtain ⟨A,x,eL⟩:∃A x,r.L=A++[x]:=⟨r.L.dropLast,r.L.getLast (fun q=>by have:=HN.out;rw [q] at this;simp at this;omega),(List.dropLast_concat_getLast _).symm⟩
   have hA:A.length=i:=by have:=HN.out;rw [eL,List.length_append] at this;simp at this;omega
   have hic:i≤c:=by
        obtain ⟨a2,c2,e2,_,hc,_⟩:=HH2.row.open RR_is HH2.ok
        rw [elv] at e2
        cases e2
        have:=HN.out
        omega
   obtain ⟨w3,es,g3,t3⟩:=st_rk (a:=a) (n:=i) (c:=c) HH2.cell ⟨a,n,c,elv⟩
   have e5:undR r.L k=A:=by unfold undR;rw [if_pos e4,eL];simp
   have FIN:Hid (RkN r base (undR r.L k) w w3):=by
        have own2:=HH2.row
        rw [elv] at own2
        have own3:=RowT.own_cut RR_is eL HH2.ok own2
        rw [hA] at own3
        rw [e5]
        refine ⟨⟨r.rb, .slice a i c,A⟩,⟨g3,own3.keep (fun j hj=>t3.block j ((RowT.Own.lt own3 hj)) (fun e=> ?_)),fun y hy=>HH.out.ok y (by rw [eL];simp [hy]),HH2.b,by show A.length≤_;have:=HN.out;omega⟩,rfl,rfl, .inl (by rw [elv];cases a <;>rfl),((tch_below B2.out _).trans (t3.mono (fun j _ e=> .inl e)))⟩
        obtain ⟨_,c3,q3⟩:=own3.cells hj
        have q4:=HH2.cell
        rw [←e,q3] at q4
        simp [RR] at q4
   clear HH2 g3 t3 hA e5
   go_upto_region 8 with fail
   refine En.zq tab rfl (En.st LD (En.st (RowT.sl_upto RR_is a hic _) (En.eu es (En.fi ?_))))
   simp only [En.putM,En.puts,Act.put,List.setIfInBounds_toArray,List.set_cons_zero,List.set_cons_succ]
   have HE4:=hidMk e4
   clear es LD e4 eL elv SAME
   go_wp2
   go_ret
   exact ⟨congrArg (fun z=>Ending.returned (Value.int IntKind.i64 z)) HE4.out.symm,FIN.out⟩
end
attribute [local go_sem] Oper.semAt_some
section
variable {w:World} {base:Nat} {r:Rx}
theorem rfork_any (h:RkAt w base r):Calls Tryz.prog 21 #[.pointer (some ⟨r.rb,0,none⟩)] w fun e w'=> ∃r':Rx,e= .returned (.pointer (some ⟨r'.rb,0,none⟩))∧RkAt w' w.heap.size r'∧r'.L=r.L∧Below w.heap.size w w':=by
 have HH:=hidMk h
 have NW:=hidMk (rknew_any w)
 clear h
 go_enter Tryz.func21,Tryz.ntmps21
 go_upto_region 1 with fail
 refine En.zq tab rfl (En.st (pn_eq _ _ _ _) (En.fi ?_))
 simp only [En.putM,En.puts,Act.put,List.setIfInBounds_toArray,List.set_cons_zero,List.set_cons_succ]
 go_upto_region 3 with fail
 refine En.zq tab rfl (En.ca NW.out ?_)
 rintro _ w1 ⟨f,rfl,hf,fL,b1⟩
 refine ⟨_,rfl,En.fi ?_⟩
 simp only [En.putM,En.puts,Act.put,List.setIfInBounds_toArray,List.set_cons_zero,List.set_cons_succ]
 have D1:Below w.heap.size w w1.drew:=b1.drew
 have hf1:RkAt w1.drew w.heap.size f:=hf.below ((Below.refl _ _).drew)
 have hr1:=HH.out.below D1
 obtain ⟨ra,rc,erl,rat⟩:=hr1.sl
 have hn:=HH.out.n
 obtain ⟨v2,w2,e2,o2,g2,q2⟩:=RowT.run_app RR_is w1.drew w.heap.size f.lv f.L ra r.L rc hf1.row rat (fun y hy=>HH.out.ok y hy) (by rw [fL];unfold maxLen;simp;omega) (by rw [fL];show _*184≤_;simp;omega) D1.size
 rw [fL,List.nil_append] at o2
 obtain ⟨fa,fc,efl,_⟩:=hf1.sl
 rw [fL] at efl
 obtain ⟨va,vc,ev2,_⟩:=o2.open RR_is HH.out.ok
 have keep:∀{j:Nat} {c:Array Value} {t:TypeId} {z:Nat × Nat},w1.drew.heap[j]? =some (.cells c t z)→t≠99→w2.heap[j]? =some (.cells c t z):=fun {j c t z} hj ht=>by
  refine (g2.block j (Array.getElem?_eq_some_iff.1 hj).1 (fun e=> ?_)).trans hj
  obtain ⟨_,c3,h3⟩:=hf1.row.cells e.symm
  rw [hj] at h3
  simp [RR] at h3
  exact ht h3.2.1
 have cf2:=keep hf1.cell (by decide)
 have cr2:=keep hr1.cell (by decide)
 have D2:Below w.heap.size w w2:=D1.trans ((Below.refl _ _).grown g2 D1.size (fun k e=>(hf1.row.cells e).1))
 obtain ⟨w3,e3,g3,t3⟩:=st_rk (a:=va) (n:=r.L.length) (c:=vc) cf2 ⟨fa,_,fc,efl⟩
 rw [←ev2] at e3 g3
 have L1:Hid ((Instr.loadAt 88 (.pointer (some ⟨f.rb,0+0,none⟩))).run Tryz.prog w1.drew= .ok f.lv w1.drew∧(Instr.loadAt 88 (.pointer (some ⟨r.rb,0+0,none⟩))).run Tryz.prog w1.drew= .ok (.slice ra r.L.length rc) w1.drew):=⟨ld_rk hf1.cell ⟨fa,_,fc,efl⟩,by rw [←erl];exact ld_rk hr1.cell ⟨ra,_,rc,erl⟩⟩
 have L2:Hid ((Instr.loadAt 88 (.pointer (some ⟨f.rb,0+0,none⟩))).run Tryz.prog w2= .ok f.lv w2∧(Instr.loadAt 88 (.pointer (some ⟨r.rb,0+0,none⟩))).run Tryz.prog w2= .ok (.slice ra r.L.length rc) w2):=⟨ld_rk cf2 ⟨fa,_,fc,efl⟩,by rw [←erl];exact ld_rk cr2 ⟨ra,_,rc,erl⟩⟩
 have FIN:Hid (RkAt w3 w.heap.size ⟨f.rb,v2,r.L⟩∧Below w.heap.size w w3):=by
  refine ⟨⟨g3,o2.keep (fun j hj=>t3.block j (RowT.Own.lt o2 hj) (fun e=> ?_)),HH.out.ok,hf1.b,hn⟩,D2.trans (t3.below D2.size (fun j e=>by rw [e];exact hf1.b))⟩
  obtain ⟨_,c3,q3⟩:=o2.cells hj
  rw [e] at q3
  rw [cf2] at q3
  simp [RR] at q3
 have HE:=hidMk (And.intro e2 e3)
 clear hf hf1 hr1 rat o2 g2 q2 keep cf2 cr2 D2 g3 t3 D1 b1 fL e2 e3 hn NW
 go_upto_region 4 with fail
 refine En.zy tab [0,1,2,3,4,5,6,7,8,9,10,11,12] 12 (fun W=>(Instr.loadAt 88 (.pointer (some ⟨f.rb,0+0,none⟩))).run Tryz.prog W= .ok f.lv W∧(Instr.loadAt 88 (.pointer (some ⟨r.rb,0+0,none⟩))).run Tryz.prog W= .ok (.slice ra r.L.length rc) W) (hS:=L1.out) (h:=En.sty (fun W b=>b.1) (En.sty (fun W b=>b.2) (En.efy HE.out.1 L2.out (En.eu HE.out.2 (En.fi ?_)))))
 simp only [En.putM,En.puts,Act.put,List.setIfInBounds_toArray,List.set_cons_zero,List.set_cons_succ]
 clear HE L1 L2
 go_wp2
 go_ret
 exact ⟨⟨f.rb,v2,r.L⟩,rfl,FIN.out.1,rfl,FIN.out.2⟩
end
theorem hoD_hR {E:List Elt} {L:List MkV} {nm:ByteArray} {i:Nat} (hi:i<E.length):hR E L nm (i:Int)=if (hoD E L nm (i:Int)).2=true then some (hoD E L nm (i:Int)).1 else none:=by
 unfold hR hoD
 have e:(L.filter fun x=>decide (x.nm=nm)&&covR E (i:Int) x)=L.filter (PD E nm (i:Int)):=by
  refine List.filter_congr fun x _=> ?_
  unfold PD
  rw [covD_R hi]
 rw [e]
 cases (L.filter (PD E nm (i:Int))).getLast? with
 |none=>simp
 |some x=>by_cases h:x.v.k=0 <;>simp [h]
theorem spO_mem {E:List Elt} {L:List MkV} {l:List ByteArray} (hl:NamesIs L l) {i:Nat} (hi:i<E.length) {a b:Int} {p:SpV}:p∈l.flatMap (spO E L (i:Int) a b)↔p.fr=a∧p.to=b∧hR E L p.nm (i:Int)=some p.v:=by
 rw [List.mem_flatMap]
 constructor
 ·rintro ⟨nm,_,h⟩
  unfold spO at h
  split at h
  ·next hh =>
   rw [List.mem_singleton.1 h]
   exact ⟨rfl,rfl,by rw [hoD_hR hi,if_pos hh]⟩
  ·cases h
 ·rintro ⟨rfl,rfl,h⟩
  refine ⟨p.nm, ?_, ?_⟩
  ·unfold hR at h
   cases q:(L.filter fun x=>decide (x.nm=p.nm)&&covR E (i:Int) x).getLast? with
   |none=>rw [q] at h;cases h
   |some x =>
    have:=List.mem_filter.1 (List.mem_of_getLast? q)
    simp only [Bool.and_eq_true,decide_eq_true_eq] at this
    exact (hl.mem p.nm).2 ⟨x,this.1,this.2.1⟩
  ·rw [hoD_hR hi] at h
   unfold spO
   split at h
   ·next hh=>rw [if_pos hh,List.mem_singleton,Option.some.inj h]
   ·cases h
theorem cSp_nm {p q:SpV} (h1:p.fr=q.fr) (h2:p.to=q.to) (h:ltS p.nm q.nm=true):cSp p q<0:=by
 have:=cSp_lt p q
 rw [if_neg (fun e=>e h1),if_neg (fun e=>e h2),h] at this
 exact of_decide_eq_true this
theorem spO_srt {E:List Elt} {L:List MkV} {l:List ByteArray} (hl:Srt l) {i a b:Int}:(l.flatMap (spO E L i a b)).Pairwise (fun p q=>cSp p q<0):=by
 have one:∀nm p,p∈spO E L i a b nm→p.fr=a∧p.to=b∧p.nm=nm:=fun nm p h=>by
  unfold spO at h
  split at h
  ·rw [List.mem_singleton.1 h];exact ⟨rfl,rfl,rfl⟩
  ·cases h
 induction l with
 |nil=>exact List.Pairwise.nil
 |cons nm ns ih =>
  have hp:=List.pairwise_cons.1 hl
  rw [List.flatMap_cons]
  refine List.pairwise_append.2 ⟨?_,ih hp.2,fun p h1 q h2=> ?_⟩
  ·unfold spO;split <;>simp
  ·obtain ⟨n2,hn2,hq⟩:=List.mem_flatMap.1 h2
   have o1:=one nm p h1
   have o2:=one n2 q hq
   exact cSp_nm (by rw [o1.1,o2.1]) (by rw [o1.2.1,o2.2.1]) (by rw [o1.2.2,o2.2.2];exact hp.1 n2 hn2)
theorem over_same {E:List Elt} (ok:SeqOk E) {L:List MkV} {k:IdK} {S O:List SpV} (hO:OvD E L k O) (hS:if hasE E k=true then S.Perm (ovL E L k)∧SdS S else S=[]):S=O:=by
 cases hh:hasE E k with
 |false =>
  rw [hh,if_neg (by decide)] at hS
  rw [hS,hO.no hh]
 |true =>
  rw [hh,if_pos rfl] at hS
  obtain ⟨x,hx,e⟩:=hasE_iff.1 hh
  obtain ⟨i,hi,e2⟩:=List.getElem_of_mem hx
  have hik:E[i].id=k:=by rw [e2];exact e
  obtain ⟨l,hl,rfl⟩:=hO.yes i hi hik
  have r1:aheadE E false k=(i:Int):=by rw [←hik];exact rank_at ok hi
  have r2:aheadE E true k=(cntE E i:Int):=by rw [←hik];exact ahead_at ok true hi
  have r3:(if E[i].sh=true then aheadE E true k+1 else aheadE E true k)=(cntE E (i+1):Int):=by
   rw [cntE_succ hi,r2];split <;>omega
  have r4:idxE E (aheadE E false k)=(cntE E i:Int):=by rw [r1];exact idx_cnt ok (by omega)
  have r5:idxE E (aheadE E false k+1)=(cntE E (i+1):Int):=by rw [r1];exact idx_cnt ok (r:=i+1) (by omega)
  rw [r3,r2]
  unfold ovL at hS
  rw [r4,r5,r1] at hS
  obtain ⟨hp,hs⟩:=hS
  have nd:(S.map (·.nm)).Nodup:=(hp.map _).nodup_iff.2 (ov_nodup E L _ _ _)
  refine srt_unique ?_ (spO_srt hl.srt) (fun p=>(hp.mem_iff.trans ov_mem).trans (spO_mem hl hi).symm)
  have nd2:S.Pairwise (fun p q=>p.nm≠q.nm):=List.pairwise_map.1 nd
  refine (hs.and nd2).imp fun {p q} h=> ?_
  by_cases h0:cSp p q=0
  ·exact absurd (cSp_zero h0).2.2 h.2
  ·have:=h.1;omega
attribute [local go_sem] Oper.semAt_some
theorem eq_mapnil (d:Nat) (t k e:TypeId) (p:Option Nat) (w:World) (h:Tryz.prog.underlying t=some (.map k e)):(Op.equalIn (d+1) t (.map p) (.map none)).run Tryz.prog w= .ok p.isNone w:=by
 cases p <;>simp [Op.equalIn,run_underlying h]
theorem eql_mapnil (t k e:TypeId) (p:Option Nat) (w:World) (h:Tryz.prog.underlying t=some (.map k e)):(binOp .eql t (.map p) (.map none)).run Tryz.prog w= .ok (.bool p.isNone) w:=by
 simp only [binOp]
 simp [show Op.equal t (.map p) (.map none)=Op.equalIn (9999+1) t (.map p) (.map none) from rfl,eq_mapnil 9999 t k e p w h]
theorem as_map (t xT k e:TypeId) (v:Value) (w:World) (h:Tryz.prog.underlying t=some (.map k e)):(Instr.typeAssert (.iface t v) xT t false).run Tryz.prog w= .ok v w:=by
 simp [Instr.typeAssert,run_underlying h,go_sem,Result.andThen]
theorem cl_map {w:World} {r:Nat} {es:Array MapEntry} {clock:Nat} (t:TypeId) (hb:w.heap[r]? =some (.map es clock)) :
 (Extern.MapsClone.clone #[.iface t (.map (some r))]).run Tryz.prog w= .ok (.iface t (.map (some w.heap.size))) (w.alloc (.map es clock)):=by
 have e:Extern.MapsClone.clone #[.iface t (.map (some r))]=(getObj r >>= fun o=>match o with
  | .map entries clock=>(newObj (.map entries clock) >>= fun n=>pure (.iface t (.map (some n))))
  |_=>stuck "maps.clone: a map expected"):=rfl
 rw [e]
 simp [MapKept.run_getObj_map hb,Result.andThen,go_sem]
theorem clone_ids {w:World} {b:Nat} {es:Array MapEntry} {clock:Nat} (hb:w.heap[b]? =some (.map es clock)):Calls Tryz.prog 52 #[.map (some b)] w fun e w'=>e= .returned (.map (some w.heap.size))∧w'=w.alloc (.map es clock):=by
 have hq:=fun w=>eql_mapnil 84 _ _ (some b) w Tryz.underlying84
 go_enter Tryz.func52,Tryz.ntmps52
 go_wp2
 rw [run_callFunc_extern Tryz.func75 (by kernel_rfl) (by kernel_rfl) (by kernel_rfl) (e:=Extern.MapsClone.clone) (by kernel_rfl),cl_map 84 hb]
 simp only [Result.andThen]
 rw [Oper.upon_value]
 go_wp2
 rw [as_map 84 _ _ _ _ _ Tryz.underlying84]
 simp only [Result.andThen]
 rw [Oper.upon_value]
 go_wp2
 go_ret
 exact ⟨rfl,rfl⟩
attribute [local go_sem] Oper.semAt_some
theorem pn_eqM (b:Nat) (x y:Operand) (w:World):(do eqGuard .eql 27 x y (.pointer (some ⟨b,0,none⟩)) (.pointer none);binOp .eql 27 (.pointer (some ⟨b,0,none⟩)) (.pointer none):Sem Value).run Tryz.prog w= .ok (.bool false) w:=by
 refine bo rfl ?_
 go_simp
theorem build_mks2 (a:Option Addr) (n c i:Nat) (W:World):(Instr.build 87 #[(0, .slice a n c),(1, .map (some i))]).run Tryz.prog W= .ok (.agg #[.slice a n c, .map (some i)]) W:=by kernel_rfl
theorem mfork_any {w:World} {base:Nat} {m:Mx} (h:MkAt w base m):Calls Tryz.prog 20 #[.pointer (some ⟨m.mb,0,none⟩)] w fun e w'=> ∃m':Mx,e= .returned (.pointer (some ⟨m'.mb,0,none⟩))∧MkAt w' base m'∧m'.L=m.L∧w.heap.size≤m'.mb∧w.heap.size≤m'.ib∧m'.lv.ownBlock=m.lv.ownBlock∧(∀a n c,m'.lv= .slice a n c→c=n)∧Below w.heap.size w w':=by
 obtain ⟨a,c,e,hat,hlc,hcm,_⟩:=h.lo.open RM_is (fun x hx=>(h.ok x hx).1)
 obtain ⟨⟨es,clock,hes,hmap⟩,hnd,hV⟩:=h.map
 have HH:=hidMk h
 have LD:=fun (W:World) (b:Below w.heap.size w W)=>(h.below b).ldl
 rw [e] at LD
 have LM:=fun (W:World) (b:Below w.heap.size w W)=>(h.below b).ldm
 have L1:=hidMk LD
 have L2:=hidMk LM
 obtain ⟨n,hn⟩:∃n,m.L.length=n:=⟨_,rfl⟩
 clear LD LM h
 go_enter Tryz.func20,Tryz.ntmps20
 go_upto_region 1 with fail
 refine En.zq tab rfl (En.st (pn_eqM _ _ _ _) (En.fi ?_))
 simp only [En.putM,En.puts,Act.put,List.setIfInBounds_toArray,List.set_cons_zero,List.set_cons_succ]
 go_upto_region 3 with fail
 have CUT:=fun W=>cut_any (w:=W) a m.L.length c m.L.length hlc hcm
 have CLO:=fun (W:World) (b:Below w.heap.size w W)=>clone_ids (w:=W) ((b.block _ (Array.getElem?_eq_some_iff.1 hes).1).trans hes)
 have D0:Below w.heap.size w w.drew:=(Below.refl _ _).drew
 refine En.zy tab [0,1,2,3,4,5,6,7,8,10,11,12,13,9,14,15,16,17] 18 (fun W=>Below w.heap.size w W) (hS:=D0) (h:=En.sty (fun W b=>L1.out W b) (En.sty (fun W b=>L1.out W b) (En.sty (fun W b=>L2.out W b) (En.cay (CUT _) ?_))))
 rintro _ w1 ⟨rfl,rfl⟩
 refine ⟨_,rfl,D0,En.cay (CLO _ D0) ?_⟩
 rintro _ w2 ⟨rfl,rfl⟩
 have D1:Below w.heap.size w (w.drew.alloc (.map es clock)):=D0.alloc D0.size _
 have D2:Below w.heap.size w ((w.drew.alloc (.map es clock)).alloc (.cells #[.slice a m.L.length m.L.length, .map (some w.drew.heap.size)] 87)):=D1.alloc D1.size _
 refine ⟨_,rfl,D1,En.sty (fun W b=>build_mks2 a _ _ _ W) (En.efy (run_boxM _ _ _) D2 (En.fi ?_))⟩
 have hl:(m.L.take m.L.length)=m.L:=List.take_of_length_le (Nat.le_refl _)
 obtain ⟨v',hv',lo',ob'⟩:=RowT.Lo.cut RM_is (fun x hx=>(HH.out.ok x hx).1) HH.out.lo (Nat.le_refl _)
 rw [hl] at lo'
 have ev:=hv' a c e
 subst ev
 have FIN:Hid (MkAt ((w.drew.alloc (.map es clock)).alloc (.cells #[.slice a m.L.length m.L.length, .map (some w.drew.heap.size)] 87)) base {mb:=(w.drew.alloc (.map es clock)).heap.size,ib:=w.drew.heap.size,lv:= .slice a m.L.length m.L.length,L:=m.L}∧(Value.slice a m.L.length m.L.length).ownBlock=m.lv.ownBlock∧Below w.heap.size w ((w.drew.alloc (.map es clock)).alloc (.cells #[.slice a m.L.length m.L.length, .map (some w.drew.heap.size)] 87))):=by
  refine ⟨⟨heap_alloc_new _ _,lo'.below D2,HH.out.ok,⟨⟨es,clock, ?_,hmap⟩,hnd,hV⟩,HH.out.n⟩,ob',D2⟩
  show ((w.drew.alloc (.map es clock)).alloc _).heap[w.drew.heap.size]? =_
  rw [Below.heap_alloc _ _ _ (by simp)]
  exact heap_alloc_new _ _
 have z1:w.heap.size≤(w.drew.alloc (.map es clock)).heap.size:=D1.size
 have z0:w.heap.size≤w.drew.heap.size:=D0.size
 simp only [En.putM,En.puts,Act.put,List.setIfInBounds_toArray,List.set_cons_zero,List.set_cons_succ]
 clear D0 D1 D2 lo' ob' hv' hl CUT CLO L1 L2 hes hmap hnd hV
 go_wp2
 go_ret
 exact ⟨_,rfl,FIN.out.1,rfl,z1,z0,FIN.out.2.1,fun a2 n2 c2 q=>by cases q;rfl,FIN.out.2.2⟩
theorem ovL_ok {E:List Elt} (ok:SeqOk E) (hl:E.length≤1400000000000) {L:List MkV} (hL:∀x∈L,x.ok) {k:IdK} (hh:hasE E k=true):∀p∈ovL E L k,SpV.ok p:=by
 intro p hp
 obtain ⟨x,hx,e⟩:=hasE_iff.1 hh
 obtain ⟨i,hi,e2⟩:=List.getElem_of_mem hx
 have hik:E[i].id=k:=by rw [e2];exact e
 have r1:aheadE E false k=(i:Int):=by rw [←hik];exact rank_at ok hi
 have bd:∀n,cntE E n≤1400000000000:=fun n=>by
  have h1:cntE E n≤(E.take n).length:=by unfold cntE;exact List.countP_le_length
  rw [List.length_take] at h1
  omega
 have r4:idxE E (aheadE E false k)=(cntE E i:Int):=by rw [r1];exact idx_cnt ok (by omega)
 have r5:idxE E (aheadE E false k+1)=(cntE E (i+1):Int):=by rw [r1];exact idx_cnt ok (r:=i+1) (by omega)
 unfold ovL spL at hp
 rw [r4,r5] at hp
 obtain ⟨y,hy,rfl⟩:=List.mem_map.1 hp
 have hyL:y∈L:=by
  have:=cov_mem.1 (List.mem_filter.1 hy).1
  exact (List.mem_filter.1 (List.mem_of_getLast? this)).1
 have hok:=hL y hyL
 have h1:=bd i
 have h2:=bd (i+1)
 exact ⟨by show _≤(cntE E i:Int);omega,by show (cntE E i:Int)≤_;omega,by show _≤(cntE E (i+1):Int);omega,by show (cntE E (i+1):Int)≤_;omega,hok.nm,hok.v⟩
section
variable {w:World} {s:Sx} {base b2 B:Nat} {m:Mx} {r:Rx} {pv:Value} {R:List Elt}
theorem spans_pair (hs:SeqAt w s (rowR R)) (hm:MkAt w base m) (hr:RkAt w b2 r) (hv:RefV w B pv R) (el:r.L=m.L) (rt:∀x∈m.L,x.v.right=true) (hT:K.V.Tabs w) :
 Calls Tryz.prog 25 #[.pointer (some ⟨m.mb,0,none⟩), .pointer (some ⟨s.sb,0,none⟩)] w fun e w1=> ∃v,e= .returned v∧Below w.heap.size w w1∧Calls Tryz.prog 26 #[.pointer (some ⟨r.rb,0,none⟩),pv] w1 fun e w2=> ∃u,e= .returned u∧Below w.heap.size w w2∧Calls Tryz.prog 22 #[v,u] w2 fun e w3=>e= .returned (.bool true)∧Below w.heap.size w w3:=by
 refine (Spans_any hs hm rt hT).mono ?_
 rintro e w1 ⟨v,rfl,S,lo,is,ok,len,b⟩
 refine ⟨v,rfl,b,(rspans_any (hr.below b) (fun x hx=>(hm.ok x (el▸hx)).2) (fun x hx=>rt x (el▸hx)) (hv.below b)).mono ?_⟩
 rintro e w2 ⟨u,S2,rfl,own,is2,len2,ok2,c⟩
 have bc:=b.trans (c.mono b.size)
 refine ⟨u,rfl,bc, ?_⟩
 rw [el] at is2
 have eS:S2=S:=SpansIs.unique is2 is
 subst eS
 obtain ⟨a1,c1,rfl,hat,_⟩:=(lo.below c).open RSp_is ok2
 obtain ⟨a2,c2,rfl,hat2,_⟩:=own.open RSp_is ok2
 refine (sameS_any hat hat2 ok2 (by have:=hr.n;omega)).mono ?_
 rintro e w3 ⟨rfl,d⟩
 exact ⟨rfl,bc.trans (d.mono bc.size)⟩
theorem over_pair (hs:SeqAt w s (rowR R)) (hm:MkAt w base m) (hr:RkAt w b2 r) (hv:RefV w B pv R) (el:r.L=m.L) {k:IdK} (hk:k.ok) :
 Calls Tryz.prog 23 #[.pointer (some ⟨m.mb,0,none⟩), .pointer (some ⟨s.sb,0,none⟩),k.v] w fun e w1=> ∃v,e= .returned v∧Below w.heap.size w w1∧Calls Tryz.prog 24 #[.pointer (some ⟨r.rb,0,none⟩),pv,k.v] w1 fun e w2=> ∃u,e= .returned u∧Below w.heap.size w w2∧Calls Tryz.prog 22 #[v,u] w2 fun e w3=>e= .returned (.bool true)∧Below w.heap.size w w3:=by
 refine (over_any hs hm hk).mono ?_
 rintro e w1 ⟨v,S,rfl,lo,hS,b⟩
 have ok1:(∀x∈S,SpV.ok x)∧S.length≤m.L.length:=by
  cases hh:hasE (rowR R) k with
  |false =>
   rw [hh,if_neg (by decide)] at hS
   rw [hS]
   exact ⟨fun x hx=>(by cases hx),Nat.zero_le _⟩
  |true =>
   rw [hh,if_pos rfl] at hS
   refine ⟨fun x hx=>ovL_ok hv.ok.1.row (by rw [row_len];exact hv.ok.2) (fun y hy=>(hm.ok y hy).1) hh x (hS.1.mem_iff.1 hx), ?_⟩
   rw [hS.1.length_eq]
   unfold ovL spL
   rw [List.length_map]
   exact Nat.le_trans (List.length_filter_le _ _) (covL_len _ _ _)
 obtain ⟨ok1,len1⟩:=ok1
 refine ⟨v,rfl,b,(rover_any (hr.below b) (fun x hx=>(hm.ok x (el▸hx)).2) (hv.below b) hk).mono ?_⟩
 rintro e w2 ⟨u,O,rfl,own,hO,c⟩
 have bc:=b.trans (c.mono b.size)
 refine ⟨u,rfl,bc, ?_⟩
 rw [el] at hO
 have eS:S=O:=over_same hv.ok.1.row hO hS
 subst eS
 obtain ⟨a1,c1,rfl,hat,_⟩:=(lo.below c).open RSp_is ok1
 obtain ⟨a2,c2,rfl,hat2,_⟩:=own.open RSp_is ok1
 refine (sameS_any hat hat2 ok1 ?_).mono ?_
 ·have:=hm.n;omega
 ·rintro e w3 ⟨rfl,d⟩
  exact ⟨rfl,bc.trans (d.mono bc.size)⟩
end
structure CurAt (W:World) (F:Nat) (m:Mx) (r:Rx):Prop where
 pm:MkAt W 0 m
 rk:RkAt W F r
 el:r.L=m.L
 mb:F≤m.mb
 ib:F≤m.ib
 own:tgt m.lv∨∀j,m.lv.ownBlock=some j→F≤j
 rt:∀x∈m.L,x.v.right=true
 le:F≤W.heap.size
structure OldAt (W:World) (F:Nat) (m:Mx) (r:Rx):Prop where
 pm:MkAt W 0 m
 rk:RkAt W 0 r
 el:r.L=m.L
 bm:∀j,m.bl j→j<F
 br:∀j,r.bl j→j<F
 rt:∀x∈m.L,x.v.right=true
section
variable {W W':World} {F:Nat} {m:Mx} {r:Rx}
theorem CurAt.below (h:CurAt W F m r) (b:Below W.heap.size W W'):CurAt W' F m r:=⟨h.pm.below b,h.rk.below b,h.el,h.mb,h.ib,h.own,h.rt,Nat.le_trans h.le b.size⟩
theorem OldAt.below (h:OldAt W F m r) (b:Below W.heap.size W W'):OldAt W' F m r:=⟨h.pm.below b,h.rk.below b,h.el,h.bm,h.br,h.rt⟩
theorem OldAt.tch (h:OldAt W F m r) {O:Nat→Prop} (t:Tch O W W') (hO:∀j,O j→F≤j):OldAt W' F m r :=
 ⟨h.pm.keep (fun j hj=>t.block j (Mx.lt h.pm hj) (fun q=>by have:=hO j q;have:=h.bm j hj;omega)),h.rk.keep (fun j hj=>t.block j (h.rk.lt hj) (fun q=>by have:=hO j q;have:=h.br j hj;omega)),h.el,h.bm,h.br,h.rt⟩
theorem mr_apart {base b2:Nat} (hm:MkAt W base m) (hr:RkAt W b2 r) {j:Nat} (h1:m.bl j) (h2:r.bl j):False:=by
 have tm:(∃c t z,W.heap[j]? =some (.cells c t z)∧(t=87∨t=95))∨∃es c,W.heap[j]? =some (.map es c):=by
  rcases h1 with rfl|rfl|q
  ·exact .inl ⟨_,_,_,hm.cell, .inl rfl⟩
  ·obtain ⟨⟨es,c,e,_⟩,_⟩:=hm.map
   exact .inr ⟨es,c,e⟩
  ·obtain ⟨_,c,e⟩:=hm.lo.cells q
   exact .inl ⟨_,_,_,e, .inr rfl⟩
 have tr:∃c t z,W.heap[j]? =some (.cells c t z)∧(t=90∨t=99):=by
  rcases h2 with rfl|q
  ·exact ⟨_,_,_,hr.cell, .inl rfl⟩
  ·obtain ⟨_,c,e⟩:=hr.row.cells q
   exact ⟨_,_,_,e, .inr rfl⟩
 obtain ⟨c,t,z,e,ht⟩:=tr
 rcases tm with ⟨c2,t2,z2,e2,ht2⟩|⟨es,c2,e2⟩
 ·have:=two_typesM e e2
  subst this
  rcases ht with q|q <;>rcases ht2 with q2|q2 <;>rw [q] at q2 <;>revert q2 <;>decide
 ·rw [e] at e2;cases e2
theorem CurAt.next {L':List MkV} (h:CurAt W F m r) (q:MkT m 0 L' W W') (hr:∀x∈L',x.v.right=true):∃m',m'.mb=m.mb∧m'.L=L'∧MkAt W' 0 m'∧F≤m'.ib∧(tgt m'.lv∨∀j,m'.lv.ownBlock=some j→F≤j)∧RkAt W' F r∧(∀j,m'.bl j→m.bl j∨W.heap.size≤j)∧∃O:Nat→Prop,(∀j,O j→F≤j∧m.bl j)∧Tch O W W':=by
 obtain ⟨m',a,e1,e2,e3,d,t,g⟩:=q
 have hrk:RkAt W' F r:=h.rk.keep (fun j hj=>t.block j (h.rk.lt hj) (fun q=>mr_apart h.pm h.rk (j:=j) q hj))
 refine ⟨m',e1,e3,a,by rw [e2];exact h.ib, ?_,hrk,fun j hj=> ?_, ?_⟩
 ·rcases h.own with q|q
  ·rcases (g q).2 with z|z
   ·exact .inl z
   ·exact .inr fun j hj=>Nat.le_trans h.le (z j hj)
  ·rcases d with z|z
   ·exact .inr fun j hj=>q j (by rw [←z];exact hj)
   ·exact .inr fun j hj=>Nat.le_trans h.le (z j hj)
 ·rcases hj with q|q|q
  ·exact .inl (.inl (by rw [q,e1]))
  ·exact .inl (.inr (.inl (by rw [q,e2])))
  ·rcases d with z|z
   ·exact .inl (.inr (.inr (by rw [←z];exact q)))
   ·exact .inr (z j q)
 ·rcases h.own with q|q
  ·refine ⟨_,fun j hj=> ?_,(g q).1⟩
   rcases hj with rfl|rfl
   ·exact ⟨h.mb, .inl rfl⟩
   ·exact ⟨h.ib, .inr (.inl rfl)⟩
  ·refine ⟨_,fun j hj=>⟨?_,hj⟩,t⟩
   rcases hj with rfl|rfl|hj
   ·exact h.mb
   ·exact h.ib
   ·exact q j hj
theorem CurAt.next2 {L':List MkV} {w w1 w2:World} {m':Mx} (h:CurAt w F m r) (eL:m'.L=L') (emb:m'.mb=m.mb) (hm:MkAt w1 0 m') (hib:F≤m'.ib) (hown:tgt m'.lv∨∀j,m'.lv.ownBlock=some j→F≤j) (hr:∀x∈L',x.v.right=true) (hrk:RkAt w1 F r) (hF:F≤w1.heap.size) (q:RkN r F L' w1 w2):∃r',r'.rb=r.rb∧CurAt w2 F m' r'∧Tch (fun j=>F≤j∧r.bl j) w1 w2:=by
 obtain ⟨r',a,e1,e2,d,t⟩:=q
 refine ⟨r',e1,⟨hm.keep (fun j hj=>t.block j (Mx.lt hm hj) (fun q=>mr_apart hm hrk hj q)),a,by rw [e2,eL],by rw [emb];exact h.mb,hib,hown,by rw [eL];exact hr,Nat.le_trans hF t.size⟩,t.mono (fun j _ q=>⟨hrk.ge q,q⟩)⟩
theorem add_right {L:List MkV} (rt:∀x∈L,x.v.right=true) (x:MkV):∀y∈addR L x,y.v.right=true:=by
 intro y hy
 unfold addR at hy
 split at hy
 ·next hc =>
  rcases List.mem_append.1 hy with q|q
  ·exact rt y q
  ·rw [List.mem_singleton.1 q]
   cases hr:x.v.right with
   |true=>rfl
   |false =>
    exfalso
    unfold addC at hc
    rw [hr] at hc
    revert hc
    (repeat' split) <;>simp_all
 ·exact rt y hy
theorem CurAt.add (h:CurAt W F m r) (hT:K.V.Tabs W) {x:MkV} (hx:x.ok) (hn:m.L.length+1≤900000000000) :
 Calls Tryz.prog 12 #[.pointer (some ⟨m.mb,0,none⟩),x.id.v, .string x.nm,x.v.v,x.fr.v,x.to.v, .int .i64 x.sd] W fun e w1=>e= .returned (.int .i64 (addC m.L x))∧Tch (fun j=>F≤j∧(m.bl j∨r.bl j)) W w1∧Calls Tryz.prog 13 #[.pointer (some ⟨r.rb,0,none⟩),x.id.v, .string x.nm,x.v.v,x.fr.v,x.to.v, .int .i64 x.sd] w1 fun e w2=>e= .returned (.int .i64 (addC m.L x))∧Tch (fun j=>F≤j∧(m.bl j∨r.bl j)) W w2∧∃m' r',m'.mb=m.mb∧r'.rb=r.rb∧(∀j,m'.bl j→m.bl j∨W.heap.size≤j)∧m'.L=addR m.L x∧CurAt w2 F m' r':=by
 refine (add_anyT h.pm (Nat.zero_le _) hT hx hn).mono ?_
 rintro e w1 ⟨rfl,q⟩
 obtain ⟨m',e1,e2,hm,hib,hown,hrk,hbl,O,hO,t⟩:=h.next q (add_right h.rt x)
 have t1:Tch (fun j=>F≤j∧(m.bl j∨r.bl j)) W w1:=t.mono (fun j _ o=>⟨(hO j o).1, .inl (hO j o).2⟩)
 have hF:=Nat.le_trans h.le t1.size
 refine ⟨rfl,t1,(radd_any hrk hF hx (by rw [h.el];exact hn)).mono ?_⟩
 rintro e w2 ⟨rfl,q2⟩
 rw [h.el] at q2
 obtain ⟨r',e3,c,t2⟩:=h.next2 e2 e1 hm hib hown (add_right h.rt x) hrk hF q2
 exact ⟨by rw [h.el],t1.trans (t2.mono (fun j _ q=>⟨q.1, .inr q.2⟩)),m',r',e1,e3,hbl,e2,c⟩
theorem CurAt.undo (h:CurAt W F m r) {k:IdK} (hk:k.ok) :
 Calls Tryz.prog 14 #[.pointer (some ⟨m.mb,0,none⟩),k.v] W fun e w1=>e= .returned (.int .i64 (undC m.L k))∧Tch (fun j=>F≤j∧(m.bl j∨r.bl j)) W w1∧Calls Tryz.prog 15 #[.pointer (some ⟨r.rb,0,none⟩),k.v] w1 fun e w2=>e= .returned (.int .i64 (undC m.L k))∧Tch (fun j=>F≤j∧(m.bl j∨r.bl j)) W w2∧∃m' r',m'.mb=m.mb∧r'.rb=r.rb∧(∀j,m'.bl j→m.bl j∨W.heap.size≤j)∧m'.L=undR m.L k∧CurAt w2 F m' r':=by
 have nd:(r.L.map (·.id)).Nodup:=by
  have:=h.pm.map.2.1
  rw [h.el]
  rw [idE,List.map_map] at this
  exact this
 have hrt:∀y∈undR m.L k,y.v.right=true:=fun y hy=>by
  unfold undR at hy
  split at hy
  ·exact h.rt y (List.dropLast_subset _ hy)
  ·exact h.rt y hy
 refine (undo_anyT h.pm (Nat.zero_le _) hk).mono ?_
 rintro e w1 ⟨rfl,q⟩
 obtain ⟨m',e1,e2,hm,hib,hown,hrk,hbl,O,hO,t⟩:=h.next q hrt
 have t1:Tch (fun j=>F≤j∧(m.bl j∨r.bl j)) W w1:=t.mono (fun j _ o=>⟨(hO j o).1, .inl (hO j o).2⟩)
 have hF:=Nat.le_trans h.le t1.size
 refine ⟨rfl,t1,(rundo_any hrk hF nd hk).mono ?_⟩
 rintro e w2 ⟨rfl,q2⟩
 rw [h.el] at q2
 obtain ⟨r',e3,c,t2⟩:=h.next2 e2 e1 hm hib hown hrt hrk hF q2
 exact ⟨by rw [h.el],t1.trans (t2.mono (fun j _ q=>⟨q.1, .inr q.2⟩)),m',r',e1,e3,hbl,e2,c⟩
theorem CurAt.fork (h:CurAt W F m r) :
 Calls Tryz.prog 20 #[.pointer (some ⟨m.mb,0,none⟩)] W fun e w1=> ∃m',e= .returned (.pointer (some ⟨m'.mb,0,none⟩))∧Below W.heap.size W w1∧Calls Tryz.prog 21 #[.pointer (some ⟨r.rb,0,none⟩)] w1 fun e w2=> ∃r',e= .returned (.pointer (some ⟨r'.rb,0,none⟩))∧Below W.heap.size W w2∧m'.L=m.L∧(∀j,m'.bl j→m.bl j∨W.heap.size≤j)∧CurAt w2 W.heap.size m' r'∧OldAt w2 W.heap.size m r:=by
 refine (mfork_any h.pm).mono ?_
 rintro e w1 ⟨m',rfl,hm,eL,z1,z2,z3,tg,b⟩
 refine ⟨m',rfl,b,(rfork_any (h.rk.below b)).mono ?_⟩
 rintro e w2 ⟨r',rfl,hr,eR,c⟩
 have bc:=b.trans (c.mono b.size)
 have hr0:RkAt w2 W.heap.size r':=⟨hr.cell,hr.row.mono b.size,hr.ok,Nat.le_trans b.size hr.b,hr.n⟩
 refine ⟨r',rfl,bc,eL,fun j hj=>hj.elim (fun q=> .inr (by rw [q];exact z1)) (fun q=>q.elim (fun q=> .inr (by rw [q];exact z2)) (fun q=> .inl (.inr (.inr (by rw [←z3];exact q))))),⟨hm.below c,hr0,by rw [eR,h.el,eL],z1,z2, .inl tg,by rw [eL];exact h.rt,bc.size⟩,⟨h.pm.below bc, ?_,h.el,fun j hj=>Mx.lt h.pm hj,fun j hj=>h.rk.lt hj,h.rt⟩⟩
 have:=h.rk.below bc
 exact ⟨this.cell,this.row.mono (Nat.zero_le _),this.ok,Nat.zero_le _,this.n⟩
end
end Go.Proofs.YtifendlpeebofaaGreatDoor
