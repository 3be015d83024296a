import Derived.Test.YtifendlpeebofabGreatDoorP1
import Derived.Laws.ResultCell
import Derived.Laws.MakeOwn
import Derived.Shelf.Abstract
import Derived.Test.YtifendlpeebofabGreatDoorP0
set_option linter.unusedSimpArgs false
set_option linter.unusedVariables false
set_option maxRecDepth 100000
set_option maxHeartbeats 4000000
namespace Go.Proofs.YtifendlpeebofabGreatDoor
open Go.RowKit Sq
theorem results_c2 {P:Program} {fn:Func} {a b:Nat} {t:TypeId} (h:fn.results= #[.cell a t, .tmp b]) {tmps:Array Value} {w:World} {p:Addr} {v:Value} (ha:tmps.getD a undef= .pointer (some p)) (hl:(loadVar t p).run P w= .ok v w) :
 (results fn tmps).run P w= .ok (.tuple #[v,tmps.getD b undef]) w:=by
 rw [Array.getD_eq_getD_getElem?] at ha
 simp [results,h,asAddr,ha,hl,Array.mapM_eq_mapM_toList,Result.andThen]
theorem loadVar_id {w:World} {b:Nat} {k:IdK} (hk:k.ok) (h:IdAt w b k):(loadVar 55 ⟨b,0,none⟩).run Tryz.prog w= .ok k.v w :=
 run_loadVar_mid (P:=Tryz.prog) w b 0 55 k.c _ (cells_range h) Tryz.underlying55 rfl (by rw [IdK.len hk];exact szId)
theorem zeroId (w:World):(zeroValue 55).run Tryz.prog w= .ok zId.v w:=by kernel_rfl
theorem id_zero (w:World):(Instr.alloc 55 true (.tuple #[])).run Tryz.prog w= .ok (.pointer (some ⟨w.heap.size,0,none⟩)) (w.alloc (.cells zId.c.toArray 55)):=by
 simp only [Instr.alloc,newVar,newRow,newObj,Sem.run_bind,zeroId,Result.andThen_ok,IdK.v,Value.cells]
 rfl
theorem store_id {w:World} {b:Nat} {x u:IdK} (hx:x.ok) (hu:u.ok) (h:IdAt w b x):(Instr.storeAt 55 (.pointer (some ⟨b,0,none⟩)) u.v).run Tryz.prog w= .ok () (w.setRow b u.c.toArray):=by
 have e2:=run_storeVar_row (P:=Tryz.prog) w b 55 55 x.c.toArray u.c.toArray h (by rw [List.size_toArray,IdK.len hu];exact szId)
  (by rw [List.size_toArray,List.size_toArray,IdK.len hu,IdK.len hx]) (by rw [List.all_toArray,List.all_eq_true];exact u.one)
 simp only [Instr.storeAt,Instr.sureAddr,Sem.run_bind,Sem.run_pure,Result.andThen_ok,IdK.v,e2]
theorem IdAt.set {w:World} {b:Nat} {x:IdK} (u:IdK) (h:IdAt w b x):IdAt (w.setRow b u.c.toArray) b u:=setRow_heap w b _ _ _ _ h
theorem two_boxes (w:World) (k u:IdK):IdAt ((w.alloc (.cells k.c.toArray 55)).alloc (.cells u.c.toArray 55)) w.heap.size k∧IdAt ((w.alloc (.cells k.c.toArray 55)).alloc (.cells u.c.toArray 55)) (w.heap.size+1) u ∧
 Below w.heap.size w ((w.alloc (.cells k.c.toArray 55)).alloc (.cells u.c.toArray 55))∧((w.alloc (.cells k.c.toArray 55)).alloc (.cells u.c.toArray 55)).heap.size=w.heap.size+2:=by
 have z:(w.alloc (.cells k.c.toArray 55)).heap.size=w.heap.size+1:=by simp
 refine ⟨?_, ?_,((Below.refl _ _).alloc (Nat.le_refl _) _).alloc (by simp) _,by simp⟩
 ·unfold IdAt
  rw [Below.heap_alloc _ _ _ (by rw [z];omega)]
  exact heap_alloc_new _ _
 ·unfold IdAt
  rw [←z]
  exact heap_alloc_new _ _
theorem set_below {w:World} {b n:Nat} (cs:Array Value) (hn:n≤w.heap.size) (hb:n≤b):Below n w (w.setRow b cs):=(setRow_tch w b cs).below hn (fun j e=>by simp at e;omega)
def nthE (E:List Elt) (c:Bool) (m:Int):IdK × Bool:=if 0≤m∧m<((visE E c).length:Int) then (((visE E c).map (·.id)).getD m.toNat zId,true) else (zId,false)
section
variable {w:World} {s:Sx} {E:List Elt}
theorem lk_nth (h:Lk s E) (c:Bool) (m:Int):(nth (vis s.L c s.t) m=0∧nthE E c m=(zId,false))∨(nth (vis s.L c s.t) m∈s.t.ids∧nthE E c m=((gt s.L (nth (vis s.L c s.t) m)).kp.id,true)):=by
 have hv:=h.vis c
 obtain ⟨V,hV⟩:∃V,Go.Proofs.YtifendlpeebofabGreatDoor.vis s.L c s.t=V:=⟨_,rfl⟩
 have hs:∀x∈V,x∈s.t.ids:=fun x hx=>by rw [←hV] at hx;exact (List.mem_filter.1 hx).1
 rw [hV] at hv ⊢
 have hl:(visE E c).length=V.length:=by rw [←hv,List.length_map]
 unfold Go.Proofs.YtifendlpeebofabGreatDoor.nth nthE
 rw [hl]
 by_cases q:0≤m∧m<(V.length:Int)
 ·rw [if_pos q,if_pos q]
  have hm:m.toNat<V.length:=by omega
  have e1:V.getD m.toNat 0=V[m.toNat]:=by rw [List.getD_eq_getElem?_getD,List.getElem?_eq_getElem hm];rfl
  rw [e1]
  refine .inr ⟨hs _ (List.getElem_mem hm), ?_⟩
  rw [←hv,List.map_map,List.getD_eq_getElem?_getD,List.getElem?_map,List.getElem?_eq_getElem hm]
  rfl
 ·rw [if_neg q,if_neg q]
  exact .inl ⟨rfl,rfl⟩
theorem sfind_any (h:SeqAt w s E) (c:Bool) (m:Int) (hm: -9223372036854775808≤m∧m≤9223372036854775807):Calls Tryz.prog 90 #[.pointer (some ⟨s.sb,0,none⟩), .int .i64 m, .int .i64 (nb c:Int)] w fun e w'=>e= .returned (.tuple #[(nthE E c m).1.v, .bool (nthE E c m).2])∧Below w.heap.size w w':=by
 have hr:=id_new w zId
 have bx:Below w.heap.size w (w.alloc (.cells zId.c.toArray 55)):=(Below.refl _ _).alloc (Nat.le_refl _) _
 have zx:(w.alloc (.cells zId.c.toArray 55)).heap.size=w.heap.size+1:=by simp
 have HRF:Hid (∀W,SeqAt W s E→Calls Tryz.prog 122 #[.pointer (some ⟨s.sb,1,none⟩), .int .i64 m, .int .i64 (nb c:Int)] W fun e w'=>e= .returned (.int .i64 (nth (vis s.L c s.t) m:Int))∧Qt W w'):=fun W hW=>rfind_any c m hm hW.row hW.lk.good
 have HN:=hidMk (lk_nth h.lk c m)
 have HL:=hidMk (fun i (hi:i∈s.t.ids)=>(h.lk.good.lt hi))
 generalize nth (vis s.L c s.t) m=i at *
 generalize nthE E c m=res at *
 go_enter Tryz.func90,Tryz.ntmps90
 go_upto_region 3 with (first
  |(refine wpList_run rfl (exec_alloc (t:=55) rfl (id_zero _)) ?_)
  |fail)
 generalize w.alloc (.cells zId.c.toArray 55)=wx at *
 have ZX:=hidMk zx
 clear zx
 have h1:=h.below bx
 refine fi3 (fun w'=>Qt wx w') _ _ _ rfl rfl rfl rfl (HRF.out _ h1) ?_
 intro a' w1 hw ha
 subst ha
 have h2:=h1.qt hw
 have hr2:IdAt w1 w.heap.size zId:=by unfold IdAt;rw [hw.heap];exact hr
 have b2:=bx.trans (hw.below _)
 clear HRF
 simp only [Act.put,qsA,qsB,qsC]
 go_upto_region 4 with fail
 rcases HN.out with ⟨hi0,rfl⟩|⟨him,rfl⟩
 ·subst hi0
  refine fi4 (i:=0) (r:=true) _ _ _ rfl rfl rfl ?_
  intro a' w3 hw3 ha
  subst ha
  obtain rfl:w3=w1:=hw3
  simp only [Act.put,qsA,qsB,qsC]
  go_upto_region 5 with fail
  refine fi5 _ _ _ rfl rfl (store_id zId_ok zId_ok hr2) ?_
  intro a' w4 hw4 ha
  subst ha
  obtain rfl:w4=_:=hw4
  simp only [Act.put,qsA,qsB,qsC]
  have hr3:=hr2.set zId
  have b3:Below w.heap.size w (w3.setRow w.heap.size zId.c.toArray):=b2.trans (set_below _ b2.size (Nat.le_refl _))
  generalize w3.setRow w.heap.size zId.c.toArray=w4 at *
  go_wp2
  refine bodyPost_ret (results_c2 rfl rfl (loadVar_id zId_ok hr3)) rfl ?_
  exact ⟨rfl,b3⟩
 ·obtain ⟨hi0,hil⟩:=HL.out i him
  refine fi4 (i:=i) (r:=false) _ _ _ rfl rfl (by simpa using hi0) ?_
  intro a' w3 hw3 ha
  subst ha
  obtain rfl:w3=w1:=hw3
  simp only [Act.put,qsA,qsB,qsC]
  go_upto_region 6 with fail
  have ok:=(h2.row.ok.gt hil).id
  refine fi6 (E:=E) _ _ _ rfl rfl rfl rfl h2 hil (element_any h2.row hil) (store_id zId_ok ok hr2) ?_
  intro a' w4 hw4 ha
  subst ha
  obtain rfl:w4=_:=hw4
  simp only [Act.put,qsA,qsB,qsC]
  have hr3:=hr2.set (gt s.L i).kp.id
  have b3:Below w.heap.size w (w3.setRow w.heap.size (gt s.L i).kp.id.c.toArray):=b2.trans (set_below _ b2.size (Nat.le_refl _))
  generalize w3.setRow w.heap.size (gt s.L i).kp.id.c.toArray=w4 at *
  go_wp2
  refine bodyPost_ret (results_c2 rfl rfl (loadVar_id ok hr3)) rfl ?_
  exact ⟨rfl,b3⟩
end
structure Nxt (s:Sx) (w:World) (s':Sx) (E':List Elt) (w':World):Prop where
 at':SeqAt w' s' E'
 sb:s'.sb=s.sb
 mb:s'.mb=s.mb
 own:s'.g=s.g∨w.heap.size≤s'.g
 tch:Tch (fun j=>j∈s.bl) w w'
theorem tch_below {w w':World} (h:Below w.heap.size w w') (O:Nat→Prop):Tch O w w':=Tch.of_below h (fun k hk hb=>by omega)
theorem Nxt.same {s:Sx} {w w':World} {E:List Elt} (h:SeqAt w s E) (b:Below w.heap.size w w'):Nxt s w s E w':=⟨h.below b,rfl,rfl, .inl rfl,tch_below b _⟩
theorem SeqAt.keys {w:World} {s:Sx} {E:List Elt} (h:SeqAt w s E):(s.N.map (·.1)).Nodup:=by
 have:=h.map.2.1
 unfold entM at this
 rwa [M.onV_keys] at this
theorem put_entM (N:List (IdK × Nat)) (k:IdK) (n:Nat):M.put (entM N) k (Value.int .i64 (n:Int))=entM (M.put N k n):=M.put_on (fun n:Nat=>Value.int .i64 (n:Int)) N k n
def insC (E:List Elt) (k b:IdK):Nat:=if k.n<1 then 2 else if hasE E k=true then 5 else if b≠zId∧hasE E b=false then 4 else 0
def insR (E:List Elt) (k b:IdK):List Elt:=if insC E k b=0 then putE E b ⟨k,b,true⟩ else E
section
variable {w:World} {s:Sx} {E:List Elt}
end
section
variable {w:World} {s:Sx} {E:List Elt}
theorem ins_end {w4 w5:World} {k b:IdK} {b1 b2:Nat} {v:Int} (h:SeqAt w4 s E) (hb1:IdAt w4 b1 k) (hb2:IdAt w4 b2 b) (n1:b1∉s.bl) (n2:b2∉s.bl) (hk:k.ok) (hb:b.ok) (hp:spotOf s b=0∨spotOf s b∈s.t.ids)
 (d:Did w4 s.sb 1 s.g s.cap (setFol s.L (spotOf s b) v) w5) (hl:s.L.length+1≤1400000000000)
 (hlk:∀g' cap' L' t',Good L' t'→InsB s.t.ids t'.ids (spotOf s b) s.L.length→Kept (setFol s.L (spotOf s b) v++[⟨⟨k,b,0⟩,true,0,0,0,0,0⟩]) L'→Lk {s with g:=g',cap:=cap',L:=L',t:=t',N:=M.put s.N k s.L.length} (putE E b ⟨k,b,true⟩)) :
 IS s b1 b2 k b w5.drew∧Calls Tryz.prog 45 #[.pointer (some ⟨s.sb,1,none⟩), .int .i64 (spotOf s b:Int),KpV.v ⟨k,b,0⟩] w5.drew fun e w'=>e= .returned (.int .i64 (s.L.length:Int))∧IS s b1 b2 k b w'∧∃y,(Instr.mapUpdate 86 (.map (some s.mb)) k.v (.int .i64 (s.L.length:Int))).run Tryz.prog w'= .ok () y∧∃s',Nxt s w4 s' (putE E b ⟨k,b,true⟩) y:=by
 have nb:∀x,x∉s.bl→x≠s.sb∧x≠s.mb∧x≠s.g:=fun x hx=>by simpa [Sx.bl] using hx
 obtain ⟨p1,p2,p3⟩:=nb b1 n1
 obtain ⟨q1,q2,q3⟩:=nb b2 n2
 have l1:=hb1.lt
 have l2:=hb2.lt
 have lm:=h.map.lt
 have ls:=h.row.lt
 have sz:w5.heap.size=w4.heap.size:=d.size
 have is5:IS s b1 b2 k b w5.drew:=⟨(World.cell?_of_block (w:=w4) (w':=w5) (a:=⟨s.sb,0,none⟩) (d.tch.block s.sb ls.1 h.row.ne)).trans h.c0,(d.tch.block b1 l1 p3).trans hb1,(d.tch.block b2 l2 q3).trans hb2⟩
 have m5:M.MapAt w5.drew s.mb IdK.v IdK.ok (entM s.N):=h.map.below (d.tch.block s.mb lm (fun e=>h.nm.2 e.symm))
 refine ⟨is5, ?_⟩
 have rp:=rput_any (k:=⟨k,b,0⟩) d.at'.drew (h.lk.good.setFol (spotOf s b) v) hp ⟨hk,hb⟩ (by rw [setFol_len];exact hl)
 rw [setFol_len] at rp
 refine rp.mono ?_
 rintro e w' ⟨rfl,g',cap',L',t',a1,a2,a3,mv⟩
 have sz6:w5.heap.size≤w'.heap.size:=mv.tch.size
 have keep:∀x,x<w5.heap.size→x≠s.g→x≠s.sb→w'.heap[x]? =w5.heap[x]? :=fun x hx e1 e2=>mv.tch.block x hx (fun q=>q.elim e1 e2)
 have is6:IS s b1 b2 k b w':=⟨(mv.oth 0 (by decide)).trans is5.1,(keep b1 (by omega) p3 p1).trans is5.2.1,(keep b2 (by omega) q3 q1).trans is5.2.2⟩
 have m6:M.MapAt w' s.mb IdK.v IdK.ok (entM s.N):=m5.below (keep s.mb (by omega) (fun e=>h.nm.2 e.symm) (fun e=>h.nm.1 e.symm))
 obtain ⟨o,e1,m7⟩:=M.run_put (P:=Tryz.prog) idKey Tryz.underlying86 m6 k hk (Value.int .i64 (s.L.length:Int))
 rw [put_entM] at m7
 have hgm:g'≠s.mb:=by
  rcases mv.own with e|e
  ·rw [e];exact h.nm.2
  ·have:w5.drew.heap.size=w5.heap.size:=rfl
   omega
 refine ⟨rfl,is6,_,e1,{s with g:=g',cap:=cap',L:=L',t:=t',N:=M.put s.N k s.L.length}, ?_,rfl,rfl, ?_, ?_⟩
 ·refine ⟨(World.cell?_of_block (w:=w') (a:=⟨s.sb,0,none⟩) (M.setM_other o h.nm.1)).trans is6.1,mv.at'.keep (M.setM_other o h.nm.1) (M.setM_other o hgm),m7,⟨h.nm.1,hgm⟩,hlk g' cap' L' t' a1 a2 a3⟩
 ·rcases mv.own with e|e
  ·exact .inl e
  ·exact .inr (by have:w5.drew.heap.size=w5.heap.size:=rfl;show w4.heap.size≤g';omega)
 ·have t1:Tch (fun j=>j∈s.bl) w4 w5.drew:=(d.tch.mono (fun j _ q=>by rw [q];simp [Sx.bl])).drew
  have t2:Tch (fun j=>j∈s.bl) w4 w':=t1.trans' mv.tch (fun j _ q=>by rcases q with q|q <;>rw [q] <;>simp [Sx.bl])
  exact t2.setM (.inr (by simp [Sx.bl])) o
theorem insert_any (h:SeqAt w s E) {k b:IdK} (hk:k.ok) (hb:b.ok) (hl:E.length+2≤1400000000000):Calls Tryz.prog 13 #[.pointer (some ⟨s.sb,0,none⟩),k.v,b.v] w fun e w'=>e= .returned (.int .i64 (insC E k b:Int))∧∃s',Nxt s w s' (insR E k b) w':=by
 have HA:Hid (∀W,SeqAt W s E→∀x:IdK,x.ok→Calls Tryz.prog 20 #[.pointer (some ⟨s.sb,0,none⟩),x.v] W fun e w'=>e= .returned (.bool (hasE E x))∧Below W.heap.size W w'):=fun W hW x hx=>has_any hW hx
 obtain ⟨hx,hy,bx,zx⟩:=two_boxes w k b
 have HB:=hidMk h.lt
 show Calls Tryz.prog 13 #[.pointer (some ⟨s.sb,0,none⟩), .agg k.c.toArray, .agg b.c.toArray] w _
 go_enter Tryz.func13,Tryz.ntmps13
 go_upto_region 3 with fail
 generalize (w.alloc (.cells k.c.toArray 55)).alloc (.cells b.c.toArray 55)=wx at *
 have ZX:=hidMk zx
 clear zx
 have h1:=h.below bx
 cases hn:decide (k.n<1) with
 |true =>
  have HN:=hidMk (of_decide_eq_true hn)
  refine ins3 (k:=k) (r:=true) _ _ _ rfl rfl hk hx hn ?_
  intro a' w1 hw ha
  subst ha
  obtain rfl:w1=wx:=hw
  simp only [Act.put,qsA,qsB,qsC]
  clear hn
  go_wp2
  go_ret
  have e:insC E k b=2:=by unfold insC;rw [if_pos HN.out]
  exact ⟨by rw [e];rfl,s,by unfold insR;rw [e];exact Nxt.same h bx⟩
 |false =>
  have HN:=hidMk (of_decide_eq_false hn)
  refine ins3 (k:=k) (r:=false) _ _ _ rfl rfl hk hx hn ?_
  intro a' w1 hw ha
  subst ha
  obtain rfl:w1=wx:=hw
  simp only [Act.put,qsA,qsB,qsC]
  clear hn
  go_upto_region 5 with fail
  refine ins5 (k:=k) (r:=hasE E k) _ _ _ rfl rfl rfl hk hx (HA.out _ h1 k hk) ?_
  intro a' w2 hw2 ha
  subst ha
  simp only [Act.put,qsA,qsB,qsC]
  have h2:=h1.below hw2
  have hx2:=hx.below hw2
  have hy2:=hy.below hw2
  have b2:=bx.trans (hw2.mono bx.size)
  clear hx hy h1 hw2
  cases hq:hasE E k with
  |true =>
   have HQ:=hidMk hq
   clear hq
   go_wp2
   go_ret
   have e:insC E k b=5:=by unfold insC;rw [if_neg (by have:=HN.out;omega),if_pos HQ.out]
   exact ⟨by rw [e];rfl,s,by unfold insR;rw [e];exact Nxt.same h b2⟩
  |false =>
   have HQ:=hidMk hq
   clear hq
   go_upto_region 7 with fail
   have fin:∀(w3:World),Below w.heap.size w w3→SeqAt w3 s E→IdAt w3 w.heap.size k→IdAt w3 (w.heap.size+1) b→(b=zId∨hasE E b=true)→∃w5 v,(Instr.storeAt 3 (.pointer (some ⟨s.g,73*spotOf s b+0+66,none⟩)) (.int .i64 ((gt s.L (spotOf s b)).kp.fol+1))).run Tryz.prog w3= .ok () w5∧spotOf s b<s.L.length∧(-9223372036854775808≤(gt s.L (spotOf s b)).kp.fol+1∧(gt s.L (spotOf s b)).kp.fol+1≤9223372036854775807) ∧
        IS s w.heap.size (w.heap.size+1) k b w5.drew∧Calls Tryz.prog 45 #[.pointer (some ⟨s.sb,1,none⟩), .int .i64 (spotOf s b:Int),KpV.v ⟨k,b,0⟩] w5.drew fun e w'=>e= .returned (.int .i64 (v:Nat))∧IS s w.heap.size (w.heap.size+1) k b w'∧∃y,(Instr.mapUpdate 86 (.map (some s.mb)) k.v (.int .i64 (v:Nat))).run Tryz.prog w'= .ok () y∧∃s',Nxt s w s' (insR E k b) y:=by
        intro w3 b3 h3 i1 i2 hbb
        have hp:=(h.lk.spotIs hbb).1
        have hpl:spotOf s b<s.L.length:=by
         rcases hp with e|e
         ·rw [e];exact h.lk.good.pos
         ·exact (h.lk.good.lt e).2
        obtain ⟨w5,e5,d5⟩:=st_fol h3.row hpl ((gt s.L (spotOf s b)).kp.fol+1)
        have hfol:=h.lk.fol (spotOf s b) hp
        have hfl:=folE_le E (gt s.L (spotOf s b)).kp.id
        have hlen:=h.lk.len
        have e:insC E k b=0:=by
         unfold insC
         rw [if_neg (by have:=HN.out;omega),if_neg (by rw [HQ.out];decide),if_neg (fun q=>by rcases hbb with r|r;exact q.1 r;rw [r] at q;cases q.2)]
        have he:=ins_end (k:=k) (b:=b) (v:=(gt s.L (spotOf s b)).kp.fol+1) h3 i1 i2 (fun q=>by have:=HB.out _ q;omega) (fun q=>by have:=HB.out _ q;omega) hk hb hp d5 (by omega)
         (fun g' cap' L' t' a1 a2 a3=>h.lk.put h.keys ⟨hk,by have:=HN.out;omega⟩ hb HQ.out hbb a1 a2 a3)
        refine ⟨w5,s.L.length,e5,hpl,by omega,he.1,he.2.mono ?_⟩
        rintro e' w' ⟨r1,r2,y,r3,s',nx⟩
        refine ⟨r1,r2,y,r3,s', ?_⟩
        unfold insR
        rw [if_pos e]
        exact ⟨nx.at',nx.sb,nx.mb,nx.own.imp id (fun q=>Nat.le_trans b3.size q),(tch_below b3 _).trans nx.tch⟩
   have FIN:=hidMk fin
   clear fin
   cases hz:(!decide (b=zId)) with
   |true =>
    have HZ:=hidMk (show b≠zId by simpa using hz)
    refine ins7a (k:=b) (r:=hasE E b) _ _ _ rfl rfl rfl hb hy2 hz (HA.out _ h2 b hb) ?_
    intro a' w3 hw3 ha
    subst ha
    simp only [Act.put,qsA,qsB,qsC]
    have h3:=h2.below hw3
    have hx3:=hx2.below hw3
    have hy3:=hy2.below hw3
    have b3:=b2.trans (hw3.mono b2.size)
    clear hx2 hy2 h2 hw3 b2 HA hz
    cases hq2:hasE E b with
    |false =>
     have HQ2:=hidMk hq2
     clear hq2
     go_wp2
     go_ret
     have e:insC E k b=4:=by unfold insC;rw [if_neg (by have:=HN.out;omega),if_neg (by rw [HQ.out];decide),if_pos ⟨HZ.out,HQ2.out⟩]
     exact ⟨by rw [e];rfl,s,by unfold insR;rw [e];exact Nxt.same h b3⟩
    |true =>
     have HQ2:=hidMk hq2
     clear hq2
     go_upto_region 9 with fail
     refine ins9 (E:=E) (k:=b) _ _ _ rfl rfl rfl h3 hb hy3 rfl ?_
     intro a' w4 hw4 ha
     subst ha
     obtain rfl:w4=w3.drew:=hw4
     simp only [Act.put,qsA,qsB,qsC]
     obtain ⟨w5,v,e5,hpl,hf5,is5,cp5⟩:=FIN.out w3.drew b3.drew h3.drew hx3 hy3 (.inr HQ2.out)
     have IS5:=hidMk is5
     have CP5:=hidMk cp5
     have E0:=hidMk (show insC E k b=0 by
         unfold insC
         rw [if_neg (by have:=HN.out;omega),if_neg (by rw [HQ.out];decide),if_neg (fun q=>by rw [HQ2.out] at q;cases q.2)])
     clear is5 cp5 FIN
     go_upto_region 10 with fail
     refine ins10 (E:=E) _ _ _ rfl rfl rfl h3.drew hpl hf5 (element_any h3.drew.row hpl) e5 ?_
     intro a' w6 hw6 ha
     subst ha
     obtain rfl:w6=w5:=hw6
     simp only [Act.put,qsA,qsB,qsC]
     clear hf5 e5
     go_upto_region 11 with fail
     refine ins11 (k:=k) (q:=b) (fun y=> ∃s',Nxt s w s' (insR E k b) y) _ _ _ rfl rfl rfl rfl rfl hk hb IS5.out CP5.out ?_
     intro a' w7 hw7 ha
     subst ha
     have HW7:=hidMk hw7
     clear hw7 IS5 CP5 h3 hx3 hy3
     simp only [Act.put,qsA,qsB,qsC]
     go_wp2
     go_ret
     exact ⟨by rw [E0.out];rfl,HW7.out⟩
   |false =>
    have HZ:=hidMk (show b=zId by simpa using hz)
    refine ins7b (k:=b) _ _ _ rfl rfl rfl hb hy2 hz ?_
    intro a' w3 hw3 ha
    subst ha
    obtain rfl:w3=w2:=hw3
    simp only [Act.put,qsA,qsB,qsC]
    clear HA hz
    go_upto_region 9 with fail
    refine ins9 (E:=E) (k:=b) _ _ _ rfl rfl rfl h2 hb hy2 rfl ?_
    intro a' w4 hw4 ha
    subst ha
    obtain rfl:w4=w3.drew:=hw4
    simp only [Act.put,qsA,qsB,qsC]
    obtain ⟨w5,v,e5,hpl,hf5,is5,cp5⟩:=FIN.out w3.drew b2.drew h2.drew hx2 hy2 (.inl HZ.out)
    have IS5:=hidMk is5
    have CP5:=hidMk cp5
    have E0:=hidMk (show insC E k b=0 by
        unfold insC
        rw [if_neg (by have:=HN.out;omega),if_neg (by rw [HQ.out];decide),if_neg (fun q=>q.1 HZ.out)])
    clear is5 cp5 FIN
    go_upto_region 10 with fail
    refine ins10 (E:=E) _ _ _ rfl rfl rfl h2.drew hpl hf5 (element_any h2.drew.row hpl) e5 ?_
    intro a' w6 hw6 ha
    subst ha
    obtain rfl:w6=w5:=hw6
    simp only [Act.put,qsA,qsB,qsC]
    clear hf5 e5
    go_upto_region 11 with fail
    refine ins11 (k:=k) (q:=b) (fun y=> ∃s',Nxt s w s' (insR E k b) y) _ _ _ rfl rfl rfl rfl rfl hk hb IS5.out CP5.out ?_
    intro a' w7 hw7 ha
    subst ha
    have HW7:=hidMk hw7
    clear hw7 IS5 CP5 h2 hx2 hy2
    simp only [Act.put,qsA,qsB,qsC]
    go_wp2
    go_ret
    exact ⟨by rw [E0.out];rfl,HW7.out⟩
end
end Go.Proofs.YtifendlpeebofabGreatDoor
namespace Go.Proofs.YtifendlpeebofabGreatDoor
open Go.RowKit Go.Shelf Sq
attribute [local go_sem] Oper.semAt_some
section
variable {w:World} {s:Sx} {E:List Elt}
theorem nthE_ok (h:SeqOk E) (c:Bool) (m:Int):(nthE E c m).1.ok:=by
 unfold nthE
 split
 ·rw [List.getD_eq_getElem?_getD]
  cases q:((visE E c).map (·.id))[m.toNat]? with
  |none=>exact zId_ok
  |some x =>
   obtain ⟨e,he,rfl⟩:=List.mem_map.1 (List.mem_of_getElem? q)
   exact (h.ok e (List.mem_filter.1 he).1).1
 ·exact zId_ok
theorem at_any (h:SeqAt w s E) (m:Int) (hm: -9223372036854775808≤m∧m≤9223372036854775807):Calls Tryz.prog 64 #[.pointer (some ⟨s.sb,0,none⟩), .int .i64 m] w fun e w'=>e= .returned (.tuple #[(nthE E false m).1.v, .bool (nthE E false m).2])∧Below w.heap.size w w':=by
 have hr:=id_new w zId
 have bx:Below w.heap.size w (w.alloc (.cells zId.c.toArray 55)):=(Below.refl _ _).alloc (Nat.le_refl _) _
 have zx:(w.alloc (.cells zId.c.toArray 55)).heap.size=w.heap.size+1:=by simp
 have HA:Hid (∀W,SeqAt W s E→Calls Tryz.prog 90 #[.pointer (some ⟨s.sb,0,none⟩), .int .i64 m, .int .i64 0] W fun e w'=>e= .returned (.tuple #[(nthE E false m).1.v, .bool (nthE E false m).2])∧Below W.heap.size W w'):=fun W hW=>sfind_any hW false m hm
 have OK:(nthE E false m).1.ok:=nthE_ok h.lk.ok false m
 generalize nthE E false m=res at *
 go_enter Tryz.func64,Tryz.ntmps64
 go_upto_region 1 with (first
  |(refine wpList_run rfl (exec_alloc (t:=55) rfl (id_zero _)) ?_)
  |fail)
 generalize w.alloc (.cells zId.c.toArray 55)=wx at *
 have h1:=h.below bx
 have HR:=hidMk hr
 have BX:=hidMk bx
 have ZX:=hidMk zx
 clear hr bx zx
 go_wp2_with (first
  |(go_at_call 90;refine (HA.out _ h1).mono ?_;rintro e w1 ⟨rfl,hb⟩;have ST:=hidMk (store_id zId_ok OK (HR.out.below hb)))
  |(refine wpList_skip rfl rfl (exec_store (t:=55) (xv:= .pointer (some ⟨w.heap.size,0,none⟩)) (yv:=res.1.v) rfl rfl rfl ST.out) ?_)
  |fail)
 refine bodyPost_ret (results_c2 rfl rfl (loadVar_id OK ((HR.out.below hb).set res.1))) rfl ?_
 have b2:=BX.out.trans (hb.mono BX.out.size)
 exact ⟨rfl,b2.trans (set_below _ b2.size (Nat.le_refl _))⟩
end
theorem good_new:Good [zSp] .nil:=by
 refine ⟨⟨trivial,⟨by simp,rfl,rfl⟩,by simp [T.ids,cids],fun w=>by cases w <;>rfl⟩,trivial,fun i h0 h1=> ?_⟩
 simp at h1;omega
theorem zSp_ok:OkS [zSp]:=fun x hx=>by
 rw [List.mem_singleton.1 hx];exact zK_ok
theorem lk_new (sb mb g cap:Nat):Lk ⟨sb,mb,g,cap,[zSp], .nil,[]⟩ []:=by
 refine ⟨good_new,rfl,⟨by simp,by simp,by simp⟩,fun k n=> ?_,rfl,fun n hn=> ?_⟩
 ·constructor
  ·intro h;cases h
  ·rintro ⟨h,_⟩;simp [T.ids] at h
 ·rcases hn with rfl|h
  ·rfl
  ·simp [T.ids] at h
theorem make_sp (w:World):(Instr.makeSlice 87 (.int .i64 1) (.int .i64 1)).run Tryz.prog w= .ok (.slice (some ⟨w.heap.size,0,none⟩) 1 1) (w.alloc (.cells (Sp.c zSp).toArray 179)):=by kernel_rfl
theorem results_c1 {P:Program} {fn:Func} {a:Nat} {t:TypeId} (h:fn.results= #[.cell a t]) {tmps:Array Value} {w:World} {p:Addr} {v:Value} (ha:tmps.getD a undef= .pointer (some p)) (hl:(loadVar t p).run P w= .ok v w) :
 (results fn tmps).run P w= .ok v w:=by
 rw [Array.getD_eq_getD_getElem?] at ha
 simp [results,h,asAddr,ha,hl,Array.mapM_eq_mapM_toList,Result.andThen]
theorem newRow_any (w:World):Calls Tryz.prog 43 #[] w fun e w'=>e= .returned (.agg #[.slice (some ⟨w.heap.size+1,0,none⟩) 1 1])∧w'.heap[w.heap.size+1]? =some (.cells (Sp.c zSp).toArray 179 (0,0))∧w'.heap.size=w.heap.size+2∧Below w.heap.size w w':=by
 go_enter Tryz.func43,Tryz.ntmps43
 go_wp2_with (first
  |(refine wpList_run rfl (exec_makeSlice rfl rfl rfl (make_sp _)) ?_)
  |fail)
 have z:(w.alloc (.cells #[.slice (some ⟨w.heap.size+1,0,none⟩) 1 1] 89)).heap.size=w.heap.size+1:=by simp
 have hb:((w.alloc (.cells #[.slice (some ⟨w.heap.size+1,0,none⟩) 1 1] 89)).alloc (.cells (Sp.c zSp).toArray 179)).heap[w.heap.size]? =some (.cells [Value.slice (some ⟨w.heap.size+1,0,none⟩) 1 1].toArray 89 (0,0)):=(Below.heap_alloc _ _ _ (by simp)).trans (heap_alloc_new _ _)
 have hl:=run_loadVar_mid (P:=Tryz.prog) _ w.heap.size 0 89 [Value.slice (some ⟨w.heap.size+1,0,none⟩) 1 1] _ (cells_range hb) Tryz.underlying89 rfl (by kernel_rfl)
 refine bodyPost_ret (results_c1 rfl rfl hl) rfl ?_
 refine ⟨rfl, ?_,by simp,((Below.refl _ _).alloc (Nat.le_refl _) _).alloc (by simp) _⟩
 have hn:=heap_alloc_new (w.alloc (.cells #[.slice (some ⟨w.heap.size+1,0,none⟩) 1 1] 89)) (.cells (Sp.c zSp).toArray 179)
 rw [z] at hn
 exact hn
theorem new_any (w:World):Calls Tryz.prog 11 #[] w fun e w'=> ∃s,e= .returned (.pointer (some ⟨s.sb,0,none⟩))∧SeqAt w' s []∧(∀j∈s.bl,w.heap.size≤j)∧Below w.heap.size w w':=by
 have HR:Hid (∀W,Calls Tryz.prog 43 #[] W fun e w'=>e= .returned (.agg #[.slice (some ⟨W.heap.size+1,0,none⟩) 1 1])∧w'.heap[W.heap.size+1]? =some (.cells (Sp.c zSp).toArray 179 (0,0))∧w'.heap.size=W.heap.size+2∧Below W.heap.size W w'):=newRow_any
 have hm:=M.MapAt.new w IdK.v IdK.ok
 have bm:Below w.heap.size w (w.alloc (.map #[] 0)):=(Below.refl _ _).alloc (Nat.le_refl _) _
 have zm:(w.alloc (.map #[] 0)).heap.size=w.heap.size+1:=by simp
 go_enter Tryz.func11,Tryz.ntmps11
 have MK:Hid (∀W:World,(Instr.makeMap 86 none).run Tryz.prog W= .ok (.map (some W.heap.size)) (W.alloc (.map #[] 0))):=fun W=>by kernel_rfl
 go_wp2_with (first
  |(refine wpList_run rfl (exec_makeMap rfl (MK.out _)) ?_)
  |(go_at_call 43;generalize w.alloc (.map #[] 0)=wm at *;refine (HR.out _).mono ?_;rintro e w1 ⟨rfl,h1,z1,b1⟩)
  |fail)
 rw [zm] at h1 z1 b1
 have hq:=heap_alloc_new w1 (.cells #[.map (some w.heap.size), .slice (some ⟨w.heap.size+1+1,0,none⟩) 1 1] 94)
 have bq:Below w1.heap.size w1 (w1.alloc (.cells #[.map (some w.heap.size), .slice (some ⟨w.heap.size+1+1,0,none⟩) 1 1] 94)):=(Below.refl _ _).alloc (Nat.le_refl _) _
 go_ret
 generalize w1.alloc (.cells #[.map (some w.heap.size), .slice (some ⟨w.heap.size+1+1,0,none⟩) 1 1] 94)=w2 at *
 rw [z1] at hq bq
 have hg:w2.heap[w.heap.size+1+1]? =some (.cells (Sp.c zSp).toArray 179 (0,0)):=(bq.block _ (by omega)).trans h1
 refine ⟨⟨w.heap.size+1+2,w.heap.size,w.heap.size+1+1,1,[zSp], .nil,[]⟩,rfl,⟨?_,⟨?_,⟨?_, .inr ⟨w.heap.size+1+1,1,_,rfl,Nat.zero_le _,hg,Nat.le_refl _,by decide, ?_, ?_⟩⟩, ?_,by show w.heap.size+1+2≠w.heap.size+1+1;omega,by show 1≤1400000000000;omega,_,_,hq⟩, ?_,⟨by show w.heap.size+1+2≠w.heap.size;omega,by show w.heap.size+1+1≠w.heap.size;omega⟩,lk_new _ _ _ _⟩, ?_, ?_⟩
 ·exact (cell_of_row _ _ 0 _ _ _ hq).trans rfl
 ·exact (cell_of_row _ _ 1 _ _ _ hq).trans rfl
 ·show (flatS [zSp]).length=1*73
  rw [flatS_len zSp_ok];rfl
 ·show (Sp.c zSp).toArray.size=1*73
  rw [List.size_toArray,Sp.len zK_ok]
 ·show ((Sp.c zSp).toArray.toList).take (1*73)=flatS [zSp]
  rw [List.toList_toArray,List.take_of_length_le (by rw [Sp.len zK_ok];omega)]
  simp [flatS]
 ·exact zSp_ok
 ·exact hm.below ((bq.block _ (by show w.heap.size<_;omega)).trans (b1.block _ (by show w.heap.size<_;omega)))
 ·intro j hj
  simp only [Sx.bl,List.mem_cons,List.not_mem_nil,or_false] at hj
  rcases hj with rfl|rfl|rfl <;>omega
 ·exact (bm.trans (b1.mono (by omega))).trans (bq.mono (by omega))
end Go.Proofs.YtifendlpeebofabGreatDoor
namespace Go.Proofs.YtifendlpeebofabGreatDoor
open Go.RowKit
structure VaV where
 k:Int
 n:Int
 f:Nat
 s:ByteArray
 deriving DecidableEq
structure VaV.ok (x:VaV):Prop where
 k0:0≤x.k
 k1:x.k≤255
 lo: -9223372036854775808≤x.n
 hi:x.n≤9223372036854775807
 ff:x.f<18446744073709551616
 ss:x.s.size≤maxLen
def VaV.c (x:VaV):List Value:=[.int .u8 x.k, .int .i64 x.n, .float .f64 x.f, .string x.s]
def VaV.v (x:VaV):Value:= .agg x.c.toArray
def zVa:VaV:=⟨0,0,0,⟨#[]⟩⟩
theorem zVa_ok:zVa.ok:=⟨by decide,by decide,by decide,by decide,by decide,by decide⟩
theorem VaV.len (x:VaV):x.c.length=4:=rfl
theorem VaV.one (x:VaV):∀v∈x.c,v.oneCell'=true:=by
 intro v hv
 simp only [VaV.c,List.mem_cons,List.not_mem_nil,or_false] at hv
 rcases hv with rfl|rfl|rfl|rfl <;>rfl
structure MkV where
 id:IdK
 nm:ByteArray
 v:VaV
 fr:IdK
 to:IdK
 sd:Int
 deriving DecidableEq
structure MkV.ok (x:MkV):Prop where
 i:x.id.ok
 nm:x.nm.size≤maxLen
 v:x.v.ok
 fr:x.fr.ok
 to:x.to.ok
 s0: -9223372036854775808≤x.sd
 s1:x.sd≤9223372036854775807
def MkV.c (x:MkV):List Value:=x.id.c++(.string x.nm::(x.v.c++(x.fr.c++(x.to.c++[.int .i64 x.sd]))))
def MkV.a (x:MkV):Value:= .agg x.c.toArray
def zMk:MkV:=⟨zId,⟨#[]⟩,zVa,zId,zId,0⟩
theorem zMk_ok:zMk.ok:=⟨zId_ok,by decide,zVa_ok,zId_ok,zId_ok,by decide,by decide⟩
theorem MkV.len {x:MkV} (h:x.ok):x.c.length=105:=by simp [MkV.c,IdK.len h.i,IdK.len h.fr,IdK.len h.to,VaV.len]
theorem MkV.one (x:MkV):∀v∈x.c,v.oneCell'=true:=by
 intro v hv
 rcases List.mem_append.1 hv with h|h
 ·exact x.id.one v h
 ·rcases List.mem_cons.1 h with rfl|h
  ·rfl
  ·rcases List.mem_append.1 h with h|h
   ·exact x.v.one v h
   ·rcases List.mem_append.1 h with h|h
    ·exact x.fr.one v h
    ·rcases List.mem_append.1 h with h|h
     ·exact x.to.one v h
     ·rw [List.mem_singleton.1 h];rfl
def RM:RowT MkV:=⟨MkV.c,MkV.ok,105,184,82,79,zMk⟩
theorem RM_is:RM.Is:=⟨zMk_ok,fun _ h=>MkV.len h,MkV.one,Tryz.underlying79,by kernel_rfl,⟨_,Tryz.underlying82,rfl⟩,by decide,by decide⟩
structure SpV where
 fr:Int
 to:Int
 nm:ByteArray
 v:VaV
 deriving DecidableEq
structure SpV.ok (x:SpV):Prop where
 f0: -9223372036854775808≤x.fr
 f1:x.fr≤9223372036854775807
 t0: -9223372036854775808≤x.to
 t1:x.to≤9223372036854775807
 nm:x.nm.size≤maxLen
 v:x.v.ok
def SpV.c (x:SpV):List Value:= .int .i64 x.fr:: .int .i64 x.to:: .string x.nm::x.v.c
def SpV.a (x:SpV):Value:= .agg x.c.toArray
def zSp7:SpV:=⟨0,0,⟨#[]⟩,zVa⟩
theorem zSp7_ok:zSp7.ok:=⟨by decide,by decide,by decide,by decide,by decide,zVa_ok⟩
theorem SpV.len (x:SpV):x.c.length=7:=rfl
theorem SpV.one (x:SpV):∀v∈x.c,v.oneCell'=true:=by
 intro v hv
 simp only [SpV.c,List.mem_cons] at hv
 rcases hv with rfl|rfl|rfl|h
 ·rfl
 ·rfl
 ·rfl
 ·exact x.v.one v h
def RSp:RowT SpV:=⟨SpV.c,SpV.ok,7,72,84,48,zSp7⟩
theorem RSp_is:RSp.Is:=⟨zSp7_ok,fun x _=>SpV.len x,SpV.one,Tryz.underlying48,by kernel_rfl,⟨_,Tryz.underlying84,rfl⟩,by decide,by decide⟩
theorem rng_sub {W:World} {b o n:Nat} {A B C:List Value} (h:W.rangeAt b o (A++(B++C))) (hA:A.length=n):W.rangeAt b (o+n) B:=fun j v hv=>by
 have hj:=(List.getElem?_eq_some_iff.1 hv).1
 rw [Nat.add_assoc]
 exact h (n+j) v (by rw [List.getElem?_append_right (by omega),hA,show n+j-n=j by omega,List.getElem?_append_left hj];exact hv)
theorem rng_cell {W:World} {b o n:Nat} {A C:List Value} {v:Value} (h:W.rangeAt b o (A++(v::C))) (hA:A.length=n):W.cell? ⟨b,o+n,none⟩=some v :=
 h n v (by rw [List.getElem?_append_right (by omega),hA,Nat.sub_self];rfl)
theorem szVa:(Tryz.prog.info? 68).map (·.size)=some 4:=by kernel_rfl
section
variable {W:World} {b o:Nat} {x:MkV}
theorem mk_split2 (x:MkV):x.c=(x.id.c++[.string x.nm])++(x.v.c++(x.fr.c++(x.to.c++[.int .i64 x.sd]))):=by simp [MkV.c]
theorem mk_split3 (x:MkV):x.c=(x.id.c++[.string x.nm]++x.v.c)++(x.fr.c++(x.to.c++[.int .i64 x.sd])):=by simp [MkV.c]
theorem mk_split4 (x:MkV):x.c=(x.id.c++[.string x.nm]++x.v.c++x.fr.c)++(x.to.c++[.int .i64 x.sd]):=by simp [MkV.c]
theorem mk_split5 (x:MkV):x.c=(x.id.c++[.string x.nm]++x.v.c++x.fr.c++x.to.c)++(.int .i64 x.sd::[]):=by simp [MkV.c]
theorem mk_id (hx:x.ok) (h:W.rangeAt b o x.c):(Instr.loadAt 55 (.pointer (some ⟨b,o+0,none⟩))).run Tryz.prog W= .ok x.id.v W :=
 run_loadAt_mid (P:=Tryz.prog) W b (o+0) 55 x.id.c _ (rng_sub (A:=[]) h rfl) Tryz.underlying55 rfl (by rw [IdK.len hx.i];exact szId)
theorem mk_nmc (hx:x.ok) (h:W.rangeAt b o x.c):W.cell? ⟨b,o+33,none⟩=some (.string x.nm):=rng_cell h (IdK.len hx.i)
theorem mk_nm (hx:x.ok) (h:W.rangeAt b o x.c):(Instr.loadAt 9 (.pointer (some ⟨b,o+33,none⟩))).run Tryz.prog W= .ok (.string x.nm) W:=by
 have hc:=mk_nmc hx h
 go_simp
theorem mk_v (hx:x.ok) (h:W.rangeAt b o x.c):(Instr.loadAt 68 (.pointer (some ⟨b,o+34,none⟩))).run Tryz.prog W= .ok x.v.v W :=
 run_loadAt_mid (P:=Tryz.prog) W b (o+34) 68 x.v.c _ (rng_sub (mk_split2 x▸h) (by simp [IdK.len hx.i])) Tryz.underlying68 rfl (by rw [VaV.len];exact szVa)
theorem mk_kc (hx:x.ok) (h:W.rangeAt b o x.c):W.cell? ⟨b,o+34,none⟩=some (.int .u8 x.v.k):=by
 have:=rng_sub (mk_split2 x▸h) (n:=34) (by simp [IdK.len hx.i]) 0 (.int .u8 x.v.k) rfl
 exact this
theorem mk_fr (hx:x.ok) (h:W.rangeAt b o x.c):(Instr.loadAt 55 (.pointer (some ⟨b,o+38,none⟩))).run Tryz.prog W= .ok x.fr.v W :=
 run_loadAt_mid (P:=Tryz.prog) W b (o+38) 55 x.fr.c _ (rng_sub (mk_split3 x▸h) (by simp [IdK.len hx.i,VaV.len])) Tryz.underlying55 rfl (by rw [IdK.len hx.fr];exact szId)
theorem mk_to (hx:x.ok) (h:W.rangeAt b o x.c):(Instr.loadAt 55 (.pointer (some ⟨b,o+71,none⟩))).run Tryz.prog W= .ok x.to.v W :=
 run_loadAt_mid (P:=Tryz.prog) W b (o+71) 55 x.to.c _ (rng_sub (mk_split4 x▸h) (by simp [IdK.len hx.i,IdK.len hx.fr,VaV.len])) Tryz.underlying55 rfl (by rw [IdK.len hx.to];exact szId)
theorem mk_sdc (hx:x.ok) (h:W.rangeAt b o x.c):W.cell? ⟨b,o+104,none⟩=some (.int .i64 x.sd):=rng_cell (mk_split5 x▸h) (by simp [IdK.len hx.i,IdK.len hx.fr,IdK.len hx.to,VaV.len])
theorem mk_sd (hx:x.ok) (h:W.rangeAt b o x.c):(Instr.loadAt 3 (.pointer (some ⟨b,o+104,none⟩))).run Tryz.prog W= .ok (.int .i64 x.sd) W:=by
 have hc:=mk_sdc hx h
 go_simp
end
theorem fg_82_1 (b o:Nat) (w:World):(Instr.fieldAt 82 (.pointer (some ⟨b,o,none⟩)) 1).run Tryz.prog w= .ok (.pointer (some ⟨b,o+33,none⟩)) w:=by go_simp
theorem fg_82_2 (b o:Nat) (w:World):(Instr.fieldAt 82 (.pointer (some ⟨b,o,none⟩)) 2).run Tryz.prog w= .ok (.pointer (some ⟨b,o+34,none⟩)) w:=by go_simp
theorem fg_82_3 (b o:Nat) (w:World):(Instr.fieldAt 82 (.pointer (some ⟨b,o,none⟩)) 3).run Tryz.prog w= .ok (.pointer (some ⟨b,o+38,none⟩)) w:=by go_simp
theorem fg_82_4 (b o:Nat) (w:World):(Instr.fieldAt 82 (.pointer (some ⟨b,o,none⟩)) 4).run Tryz.prog w= .ok (.pointer (some ⟨b,o+71,none⟩)) w:=by go_simp
theorem fg_82_5 (b o:Nat) (w:World):(Instr.fieldAt 82 (.pointer (some ⟨b,o,none⟩)) 5).run Tryz.prog w= .ok (.pointer (some ⟨b,o+104,none⟩)) w:=by go_simp
theorem fg_97_0 (b o:Nat) (w:World):(Instr.fieldAt 97 (.pointer (some ⟨b,o,none⟩)) 0).run Tryz.prog w= .ok (.pointer (some ⟨b,o+0,none⟩)) w:=by go_simp
theorem fg_97_1 (b o:Nat) (w:World):(Instr.fieldAt 97 (.pointer (some ⟨b,o,none⟩)) 1).run Tryz.prog w= .ok (.pointer (some ⟨b,o+1,none⟩)) w:=by go_simp
theorem fg_68_0 (b o:Nat) (w:World):(Instr.fieldAt 68 (.pointer (some ⟨b,o,none⟩)) 0).run Tryz.prog w= .ok (.pointer (some ⟨b,o+0,none⟩)) w:=by go_simp
theorem ex_neqE {w:World} {a:Act} {o:Oper} {x y:Operand} {p q:Int} {r:Bool} (ho:o.op= .binOp .neq 61 x y 61) (hx:a.eval x= .int .i64 p) (hy:a.eval y= .int .i64 q) (h:decide (p≠q)=r):(execOp a.eval o).run Tryz.prog w= .ok (.value (.bool r)) w:=by
 subst h
 refine exec_binOp ho hx hy ?_ ?_
 ·kernel_rfl
 ·by_cases e:p=q
  ·subst e;go_simp
  ·have e2:(p==q)=false:=by simpa using e
   go_simp
theorem ex_and {w:World} {a:Act} {o:Oper} {x y:Operand} {p q z:Int} (hz:(binOp .and 3 (.int .i64 p) (.int .i64 q)).run Tryz.prog w= .ok (.int .i64 z) w) (ho:o.op= .binOp .and 3 x y 3) (hx:a.eval x= .int .i64 p) (hy:a.eval y= .int .i64 q):(execOp a.eval o).run Tryz.prog w= .ok (.value (.int .i64 z)) w:=by
 refine exec_binOp ho hx hy ?_ hz
 kernel_rfl
theorem exec_build6 {P:Program} {w:World} {a:Act} {o:Oper} {t:TypeId} {x0 x1 x2 x3 x4 x5:Operand} {v0 v1 v2 v3 v4 v5 v:Value} (ho:o.op= .build t #[(0,x0),(1,x1),(2,x2),(3,x3),(4,x4),(5,x5)]) (h0:a.eval x0=v0) (h1:a.eval x1=v1) (h2:a.eval x2=v2) (h3:a.eval x3=v3) (h4:a.eval x4=v4) (h5:a.eval x5=v5) (hl:(Instr.build t #[(0,v0),(1,v1),(2,v2),(3,v3),(4,v4),(5,v5)]).run P w= .ok v w):(execOp a.eval o).run P w= .ok (.value v) w:=by
 unfold execOp;simp only [ho,List.map_toArray,List.map_cons,List.map_nil,h0,h1,h2,h3,h4,h5,Sem.run_bind,hl,Result.andThen_ok,Sem.run_pure]
def edg1_ops:Array Oper:=(⟨_,rfl⟩:{o // some o=rgB Tryz.f76 1}).1
theorem edg1 {sp:Value} {b1:Nat} {k:IdK} {r:Int} (Fin:World→Prop) (a:Act) (w:World) (Q:Exit→Act→World→Prop) (zz:a.tmps.size=28)
 (t0:a.tmps.getD 0 undef=sp)
 (t5:a.tmps.getD 5 undef= .pointer (some ⟨b1,0,none⟩))
 (LK:∀W,W=w→(Instr.loadAt 55 (.pointer (some ⟨b1,0,none⟩))).run Tryz.prog W= .ok (k.v) W) (CR:Calls Tryz.prog 21 #[sp,k.v] w fun e w'=>e= .returned (.int .i64 r)∧Fin w')
 (h:∀a' w',Fin w'→a'=(((a.put (some 11) (sp)).put (some 12) (k.v)).put (some 13) (.int .i64 r)).put (some 10) (.int .i64 r)→Q .normal a' w') :
 (Code.region 1 edg1_ops false).wp Tryz.prog Q a w:=by
 refine z0 rfl ?_
 refine zv rfl (xmv rfl (zi t0 rfl)) ?_
 refine zv rfl (xld rfl (zi t5 rfl) (LK _ rfl)) ?_
 refine zc rfl (exec_c2 rfl (zg zz rfl) (zg zz rfl)) (CR) (fun e x2 hx=> ?_)
 obtain ⟨rfl,HF⟩:=hx
 refine ⟨_,rfl, ?_⟩
 refine zv rfl (xas rfl (zg zz rfl)) ?_
 exact ze rfl (h _ _ (HF) rfl)
def edg2_ops:Array Oper:=(⟨_,rfl⟩:{o // some o=rgB Tryz.f76 2}).1
theorem edg2 {b1:Nat} {k:IdK} {z:Bool} (a:Act) (w:World) (Q:Exit→Act→World→Prop) (zz:a.tmps.size=28)
 (t5:a.tmps.getD 5 undef= .pointer (some ⟨b1,0,none⟩))
 (hk:k.ok) (hz:decide (k=zId)=z) (LK:∀W,W=w→(Instr.loadAt 55 (.pointer (some ⟨b1,0,none⟩))).run Tryz.prog W= .ok (k.v) W)
 (h:∀a' w',w'=w→a'=(((a.put (some 15) (k.v)).put (some 16) (zId.v)).put (some 17) (.bool z)).put (some 14) (.bool z)→Q .normal a' w') :
 (Code.region 2 edg2_ops false).wp Tryz.prog Q a w:=by
 refine z0 rfl ?_
 refine zv rfl (xld rfl (zi t5 rfl) (LK _ rfl)) ?_
 refine zv rfl (exec_build0 rfl (build_id _)) ?_
 refine zv (v:= .bool z) rfl (ex_eqlI rfl (zg zz rfl) (zg zz rfl) hk zId_ok hz) ?_
 refine zv rfl (xas rfl (zg zz rfl)) ?_
 exact ze rfl (h _ _ (rfl) rfl)
def edg5_ops:Array Oper:=(⟨_,rfl⟩:{o // some o=rgB Tryz.f76 5}).1
theorem edg5 {r:Int} {z:Bool} (a:Act) (w:World) (Q:Exit→Act→World→Prop) (zz:a.tmps.size=28)
 (t10:a.tmps.getD 10 undef= .int .i64 r)
 (hb: -9223372036854775808≤r+1∧r+1≤9223372036854775807) (hz:decide (r≥0)=z)
 (h:∀a' w',w'=w→a'=(((((a.put (some 21) (.int .i64 r)).put (some 22) (.int .i64 (r+1))).put (some 23) (.int .i64 r)).put (some 24) (.bool z)).put (some 8) (.int .i64 (r+1))).put (some 9) (.bool z)→Q .normal a' w') :
 (Code.region 5 edg5_ops false).wp Tryz.prog Q a w:=by
 refine z0 rfl ?_
 refine zv rfl (xmv rfl (zi t10 rfl)) ?_
 refine zv (v:= .int .i64 (r+1)) rfl (ex_add rfl (zg zz rfl) rfl hb) ?_
 refine zv rfl (xmv rfl (zi t10 rfl)) ?_
 refine zv (v:= .bool z) rfl (ex_geq rfl (zg zz rfl) rfl hz) ?_
 iterate 2 refine zv rfl (xas rfl (zg zz rfl)) ?_
 exact ze rfl (h _ _ (rfl) rfl)
def edg6_ops:Array Oper:=(⟨_,rfl⟩:{o // some o=rgB Tryz.f76 6}).1
theorem edg6 {r:Int} {z:Bool} (a:Act) (w:World) (Q:Exit→Act→World→Prop) (zz:a.tmps.size=28)
 (t10:a.tmps.getD 10 undef= .int .i64 r)
 (hz:decide (r≥0)=z)
 (h:∀a' w',w'=w→a'=((((a.put (some 25) (.int .i64 r)).put (some 26) (.int .i64 r)).put (some 27) (.bool z)).put (some 8) (.int .i64 r)).put (some 9) (.bool z)→Q .normal a' w') :
 (Code.region 6 edg6_ops false).wp Tryz.prog Q a w:=by
 refine z0 rfl ?_
 iterate 2 refine zv rfl (xmv rfl (zi t10 rfl)) ?_
 refine zv (v:= .bool z) rfl (ex_geq rfl (zg zz rfl) rfl hz) ?_
 iterate 2 refine zv rfl (xas rfl (zg zz rfl)) ?_
 exact ze rfl (h _ _ (rfl) rfl)
def ixa1_ops:Array Oper:=(⟨_,rfl⟩:{o // some o=rgB Tryz.f22 1}).1
theorem ixa1 {sp:Value} {r:Int} {k:IdK} {z:Bool} (Fin:Nat→World→Prop) (a:Act) (w:World) (Q:Exit→Act→World→Prop) (zz:a.tmps.size=19)
 (t0:a.tmps.getD 0 undef=sp)
 (t1:a.tmps.getD 1 undef= .int .i64 r)
 (CA:Calls Tryz.prog 64 #[sp, .int .i64 r] w fun e w'=>e= .returned (.tuple #[k.v, .bool z])∧∃b1 w1 w2,(Instr.alloc 55 true (.tuple #[])).run Tryz.prog w'= .ok (.pointer (some ⟨b1,0,none⟩)) w1∧(Instr.storeAt 55 (.pointer (some ⟨b1,0,none⟩)) k.v).run Tryz.prog w1= .ok () w2∧Fin b1 w2)
 (h:∀(b1:Nat) a' w',Fin b1 w'→a'=(((((((a.put (some 8) (sp)).put (some 9) (.int .i64 r)).put (some 10) (.tuple #[k.v, .bool z])).put (some 7) (.tuple #[k.v, .bool z])).put (some 11) (k.v)).put (some 12) (.bool z)).put (some 5) (.pointer (some ⟨b1,0,none⟩))).put (some 6) (.bool z)→Q .normal a' w') :
 (Code.region 1 ixa1_ops false).wp Tryz.prog Q a w:=by
 refine z0 rfl ?_
 refine zv rfl (xmv rfl (zi t0 rfl)) ?_
 refine zv rfl (xmv rfl (zi t1 rfl)) ?_
 refine zc rfl (exec_c2 rfl (zg zz rfl) (zg zz rfl)) (CA) (fun e x2 hx=> ?_)
 obtain ⟨rfl,b1,w1,w2,EA,ES,HF⟩:=hx
 replace h:=h b1
 refine ⟨_,rfl, ?_⟩
 refine zv rfl (xmv rfl (zg zz rfl)) ?_
 iterate 2 refine zv rfl (exec_extract rfl (zg zz rfl) rfl) ?_
 refine zv (v:= .pointer (some ⟨b1,0,none⟩)) rfl (exec_alloc rfl EA) ?_
 refine zs rfl (exec_store rfl (zg zz rfl) (zg zz rfl) ES) ?_
 refine zv rfl (xas rfl (zg zz rfl)) ?_
 exact ze rfl (h _ _ (HF) rfl)
def ixa3_ops:Array Oper:=(⟨_,rfl⟩:{o // some o=rgB Tryz.f22 3}).1
theorem ixa3 {sp:Value} {b1:Nat} {k:IdK} {r:Int} (Fin:World→Prop) (a:Act) (w:World) (Q:Exit→Act→World→Prop) (zz:a.tmps.size=19)
 (t0:a.tmps.getD 0 undef=sp)
 (t5:a.tmps.getD 5 undef= .pointer (some ⟨b1,0,none⟩))
 (LK:∀W,W=w→(Instr.loadAt 55 (.pointer (some ⟨b1,0,none⟩))).run Tryz.prog W= .ok (k.v) W) (CR:Calls Tryz.prog 65 #[sp,k.v] w fun e w'=>e= .returned (.int .i64 r)∧Fin w')
 (h:∀a' w',Fin w'→a'=(((a.put (some 14) (sp)).put (some 15) (k.v)).put (some 16) (.int .i64 r)).put (some 4) (.int .i64 r)→Q .normal a' w') :
 (Code.region 3 ixa3_ops false).wp Tryz.prog Q a w:=by
 refine z0 rfl ?_
 refine zv rfl (xmv rfl (zi t0 rfl)) ?_
 refine zv rfl (xld rfl (zi t5 rfl) (LK _ rfl)) ?_
 refine zc rfl (exec_c2 rfl (zg zz rfl) (zg zz rfl)) (CR) (fun e x2 hx=> ?_)
 obtain ⟨rfl,HF⟩:=hx
 refine ⟨_,rfl, ?_⟩
 refine zv rfl (xas rfl (zg zz rfl)) ?_
 exact ze rfl (h _ _ (HF) rfl)
def rea1_ops:Array Oper:=(⟨_,rfl⟩:{o // some o=rgB Tryz.f54 1}).1
theorem rea1 {sp:Value} {b:Nat} {x:MkV} {q f:Int} {r z:Bool} (S:World→Prop) (a:Act) (w:World) (Q:Exit→Act→World→Prop) (zz:a.tmps.size=50)
 (t0:a.tmps.getD 0 undef= .pointer (some ⟨b,0,none⟩))
 (t1:a.tmps.getD 1 undef=sp)
 (h0:S w.drew) (hr:decide (q≠0)=r) (HZ:∀W,(binOp .and 3 (.int .i64 x.sd) (.int .i64 1)).run Tryz.prog W= .ok (.int .i64 q) W) (LF:∀W,S W→(Instr.loadAt 55 (.pointer (some ⟨b,0+38,none⟩))).run Tryz.prog W= .ok (x.fr.v) W) (LS:∀W,S W→(Instr.loadAt 3 (.pointer (some ⟨b,0+104,none⟩))).run Tryz.prog W= .ok (.int .i64 x.sd) W) (CE:Calls Tryz.prog 76 #[sp,x.fr.v, .bool r, .int .i64 0] w.drew fun e w'=>e= .returned (.tuple #[.int .i64 f, .bool z])∧S w')
 (h:∀a' w',S w'→a'=((((((((((((((((a.put (some 11) (sp)).put (some 12) (.pointer (some ⟨b,0,none⟩))).put (some 13) (.pointer (some ⟨b,0,none⟩))).put (some 14) (.pointer (some ⟨b,0+38,none⟩))).put (some 15) (x.fr.v)).put (some 16) (.pointer (some ⟨b,0,none⟩))).put (some 17) (.pointer (some ⟨b,0,none⟩))).put (some 18) (.pointer (some ⟨b,0+104,none⟩))).put (some 19) (.int .i64 x.sd)).put (some 20) (.int .i64 q)).put (some 21) (.bool r)).put (some 22) (.tuple #[.int .i64 f, .bool z])).put (some 10) (.tuple #[.int .i64 f, .bool z])).put (some 23) (.int .i64 f)).put (some 24) (.bool z)).put (some 6) (.int .i64 f)).put (some 7) (.bool z)→Q .normal a' w') :
 (Code.region 1 rea1_ops true).wp Tryz.prog Q a w:=by
 refine y0 (fun w'=>S w') (h0) (fun hHeld=> ?_)
 refine yv 0 rfl rfl (fun w1 hw=>xmv rfl (zi t1 rfl)) hHeld ?_
 refine yv 1 rfl rfl (fun w1 hw=>xmv rfl (zi t0 rfl)) hHeld ?_
 refine yv 2 rfl rfl (fun w1 hw=>xnc rfl (zg zz rfl)) hHeld ?_
 refine yv 3 rfl rfl (fun w1 hw=>xfa rfl (zg zz rfl) (fg_82_3 _ _ _)) hHeld ?_
 refine yv 4 rfl rfl (fun w1 hw=>xld rfl (zg zz rfl) (LF _ hw)) hHeld ?_
 refine yv 5 rfl rfl (fun w1 hw=>xmv rfl (zi t0 rfl)) hHeld ?_
 refine yv 6 rfl rfl (fun w1 hw=>xnc rfl (zg zz rfl)) hHeld ?_
 refine yv 7 rfl rfl (fun w1 hw=>xfa rfl (zg zz rfl) (fg_82_5 _ _ _)) hHeld ?_
 refine yv 8 rfl rfl (fun w1 hw=>xld rfl (zg zz rfl) (LS _ hw)) hHeld ?_
 refine yv (v:= .int .i64 q) 9 rfl rfl (fun w1 hw=>ex_and (HZ _) rfl (zg zz rfl) rfl) hHeld ?_
 refine yv (v:= .bool r) 10 rfl rfl (fun w1 hw=>ex_neq rfl (zg zz rfl) rfl hr) hHeld ?_
 refine yc 11 rfl rfl (exec_c4 rfl (zg zz rfl) (zg zz rfl) (zg zz rfl) rfl) (CE) (fun e x11 hx=> ?_)
 obtain ⟨rfl,S1⟩:=hx
 refine ⟨_,rfl,S1,fun hHeld=> ?_⟩
 refine yv 12 rfl rfl (fun w1 hw=>xmv rfl (zg zz rfl)) hHeld ?_
 refine yv 13 rfl rfl (fun w1 hw=>exec_extract rfl (zg zz rfl) rfl) hHeld ?_
 refine yv 14 rfl rfl (fun w1 hw=>exec_extract rfl (zg zz rfl) rfl) hHeld ?_
 refine yv 15 rfl rfl (fun w1 hw=>xas rfl (zg zz rfl)) hHeld ?_
 refine yv 16 rfl rfl (fun w1 hw=>xas rfl (zg zz rfl)) hHeld ?_
 exact ye rfl (h _ _ (S1) rfl)
def rea2_ops:Array Oper:=(⟨_,rfl⟩:{o // some o=rgB Tryz.f54 2}).1
theorem rea2 {sp:Value} {b:Nat} {x:MkV} {q f n:Int} {r z:Bool} (S:World→Prop) (a:Act) (w:World) (Q:Exit→Act→World→Prop) (zz:a.tmps.size=50)
 (t0:a.tmps.getD 0 undef= .pointer (some ⟨b,0,none⟩))
 (t1:a.tmps.getD 1 undef=sp)
 (h0:S w.drew) (hr:decide (q≠0)=r) (HZ:∀W,(binOp .and 3 (.int .i64 x.sd) (.int .i64 2)).run Tryz.prog W= .ok (.int .i64 q) W) (LT:∀W,S W→(Instr.loadAt 55 (.pointer (some ⟨b,0+71,none⟩))).run Tryz.prog W= .ok (x.to.v) W) (LS:∀W,S W→(Instr.loadAt 3 (.pointer (some ⟨b,0+104,none⟩))).run Tryz.prog W= .ok (.int .i64 x.sd) W) (CL:Calls Tryz.prog 77 #[sp] w.drew fun e w1=>e= .returned (.int .i64 n)∧S w1∧Calls Tryz.prog 76 #[sp,x.to.v, .bool r, .int .i64 n] w1 fun e w'=>e= .returned (.tuple #[.int .i64 f, .bool z])∧S w')
 (h:∀a' w',S w'→a'=((((((((((((((((((a.put (some 26) (sp)).put (some 27) (.pointer (some ⟨b,0,none⟩))).put (some 28) (.pointer (some ⟨b,0,none⟩))).put (some 29) (.pointer (some ⟨b,0+71,none⟩))).put (some 30) (x.to.v)).put (some 31) (.pointer (some ⟨b,0,none⟩))).put (some 32) (.pointer (some ⟨b,0,none⟩))).put (some 33) (.pointer (some ⟨b,0+104,none⟩))).put (some 34) (.int .i64 x.sd)).put (some 35) (.int .i64 q)).put (some 36) (.bool r)).put (some 37) (sp)).put (some 38) (.int .i64 n)).put (some 39) (.tuple #[.int .i64 f, .bool z])).put (some 25) (.tuple #[.int .i64 f, .bool z])).put (some 40) (.int .i64 f)).put (some 41) (.bool z)).put (some 8) (.int .i64 f)).put (some 9) (.bool z)→Q .normal a' w') :
 (Code.region 2 rea2_ops true).wp Tryz.prog Q a w:=by
 refine y0 (fun w'=>S w') (h0) (fun hHeld=> ?_)
 refine yv 0 rfl rfl (fun w1 hw=>xmv rfl (zi t1 rfl)) hHeld ?_
 refine yv 1 rfl rfl (fun w1 hw=>xmv rfl (zi t0 rfl)) hHeld ?_
 refine yv 2 rfl rfl (fun w1 hw=>xnc rfl (zg zz rfl)) hHeld ?_
 refine yv 3 rfl rfl (fun w1 hw=>xfa rfl (zg zz rfl) (fg_82_4 _ _ _)) hHeld ?_
 refine yv 4 rfl rfl (fun w1 hw=>xld rfl (zg zz rfl) (LT _ hw)) hHeld ?_
 refine yv 5 rfl rfl (fun w1 hw=>xmv rfl (zi t0 rfl)) hHeld ?_
 refine yv 6 rfl rfl (fun w1 hw=>xnc rfl (zg zz rfl)) hHeld ?_
 refine yv 7 rfl rfl (fun w1 hw=>xfa rfl (zg zz rfl) (fg_82_5 _ _ _)) hHeld ?_
 refine yv 8 rfl rfl (fun w1 hw=>xld rfl (zg zz rfl) (LS _ hw)) hHeld ?_
 refine yv (v:= .int .i64 q) 9 rfl rfl (fun w1 hw=>ex_and (HZ _) rfl (zg zz rfl) rfl) hHeld ?_
 refine yv (v:= .bool r) 10 rfl rfl (fun w1 hw=>ex_neq rfl (zg zz rfl) rfl hr) hHeld ?_
 refine yv 11 rfl rfl (fun w1 hw=>xmv rfl (zi t1 rfl)) hHeld ?_
 refine yc 12 rfl rfl (exec_c1 rfl (zg zz rfl)) (CL) (fun e x12 hx=> ?_)
 obtain ⟨rfl,S0,CE⟩:=hx
 refine ⟨_,rfl,S0,fun hHeld=> ?_⟩
 refine yc 13 rfl rfl (exec_c4 rfl (zg zz rfl) (zg zz rfl) (zg zz rfl) (zg zz rfl)) (CE) (fun e x13 hx=> ?_)
 obtain ⟨rfl,S1⟩:=hx
 refine ⟨_,rfl,S1,fun hHeld=> ?_⟩
 refine yv 14 rfl rfl (fun w1 hw=>xmv rfl (zg zz rfl)) hHeld ?_
 refine yv 15 rfl rfl (fun w1 hw=>exec_extract rfl (zg zz rfl) rfl) hHeld ?_
 refine yv 16 rfl rfl (fun w1 hw=>exec_extract rfl (zg zz rfl) rfl) hHeld ?_
 refine yv 17 rfl rfl (fun w1 hw=>xas rfl (zg zz rfl)) hHeld ?_
 refine yv 18 rfl rfl (fun w1 hw=>xas rfl (zg zz rfl)) hHeld ?_
 exact ye rfl (h _ _ (S1) rfl)
def mha1_ops:Array Oper:=(⟨_,rfl⟩:{o // some o=rgB Tryz.f46 1}).1
theorem mha1 {mb ib b1 eb:Nat} {k:IdK} {r:Bool} {w1 w2:World} (S:World→Prop) (a:Act) (w:World) (Q:Exit→Act→World→Prop) (zz:a.tmps.size=17)
 (t0:a.tmps.getD 0 undef= .pointer (some ⟨mb,0,none⟩))
 (t3:a.tmps.getD 3 undef= .pointer (some ⟨b1,0,none⟩))
 (h0:S w.drew) (LM:∀W,S W→(Instr.loadAt 95 (.pointer (some ⟨mb,0+1,none⟩))).run Tryz.prog W= .ok (.map (some ib)) W) (LK:∀W,S W→(Instr.loadAt 55 (.pointer (some ⟨b1,0,none⟩))).run Tryz.prog W= .ok (k.v) W) (LL:∀W,S W→(Instr.lookup 95 (.map (some ib)) k.v true).run Tryz.prog W= .ok (.tuple #[.agg #[], .bool r]) W) (EA:(Instr.alloc 107 true (.tuple #[])).run Tryz.prog w.drew= .ok (.pointer (some ⟨eb,0,none⟩)) w1) (S1:S w1) (ES:(Instr.storeAt 107 (.pointer (some ⟨eb,0,none⟩)) (.agg #[])).run Tryz.prog w1= .ok () w2) (S2:S w2)
 (h:∀a' w',S w'→a'=((((((((((a.put (some 8) (.pointer (some ⟨mb,0,none⟩))).put (some 9) (.pointer (some ⟨mb,0,none⟩))).put (some 10) (.pointer (some ⟨mb,0+1,none⟩))).put (some 11) (.map (some ib))).put (some 12) (k.v)).put (some 13) (.tuple #[.agg #[], .bool r])).put (some 7) (.tuple #[.agg #[], .bool r])).put (some 14) (.agg #[])).put (some 15) (.bool r)).put (some 5) (.pointer (some ⟨eb,0,none⟩))).put (some 6) (.bool r)→Q .normal a' w') :
 (Code.region 1 mha1_ops true).wp Tryz.prog Q a w:=by
 refine y0 (fun w'=>S w') (h0) (fun hHeld=> ?_)
 refine yv 0 rfl rfl (fun w1 hw=>xmv rfl (zi t0 rfl)) hHeld ?_
 refine yv 1 rfl rfl (fun w1 hw=>xnc rfl (zg zz rfl)) hHeld ?_
 refine yv 2 rfl rfl (fun w1 hw=>xfa rfl (zg zz rfl) (fg_97_1 _ _ _)) hHeld ?_
 refine yv 3 rfl rfl (fun w1 hw=>xld rfl (zg zz rfl) (LM _ hw)) hHeld ?_
 refine yv 4 rfl rfl (fun w1 hw=>xld rfl (zi t3 rfl) (LK _ hw)) hHeld ?_
 refine yv (v:= .tuple #[.agg #[], .bool r]) 5 rfl rfl (fun w1 hw=>exec_lookup rfl (zg zz rfl) (zg zz rfl) (LL _ hw)) hHeld ?_
 refine yv 6 rfl rfl (fun w1 hw=>xmv rfl (zg zz rfl)) hHeld ?_
 refine yv 7 rfl rfl (fun w1 hw=>exec_extract rfl (zg zz rfl) rfl) hHeld ?_
 refine yv 8 rfl rfl (fun w1 hw=>exec_extract rfl (zg zz rfl) rfl) hHeld ?_
 refine yr (v:= .pointer (some ⟨eb,0,none⟩)) 9 rfl rfl (exec_alloc rfl EA) (S1) (fun hHeld=> ?_)
 refine ys 10 rfl rfl (exec_store rfl (zg zz rfl) (zg zz rfl) ES) (S2) (fun hHeld=> ?_)
 refine yv 11 rfl rfl (fun w1 hw=>xas rfl (zg zz rfl)) hHeld ?_
 exact ye rfl (h _ _ (S2) rfl)
def mad3a_ops:Array Oper:=(⟨_,rfl⟩:{o // some o=rgB Tryz.f15 3}).1
theorem mad3a {b1:Nat} {k:IdK} (a:Act) (w:World) (Q:Exit→Act→World→Prop) (zz:a.tmps.size=70)
 (t8:a.tmps.getD 8 undef= .pointer (some ⟨b1,0,none⟩))
 (hn:decide (k.n<1)=true) (LN:∀W,W=w→(Instr.loadAt 3 (.pointer (some ⟨b1,0+32,none⟩))).run Tryz.prog W= .ok (.int .i64 k.n) W)
 (h:∀a' w',w'=w→a'=(((((((((((a.put (some 19) (.pointer (some ⟨b1,0+32,none⟩))).put (some 20) (.int .i64 k.n)).put (some 21) (.bool true)).put (some 22) (.bool true)).put (some 23) (undef)).put (some 24) (undef)).put (some 25) (.bool true)).put (some 26) (.bool true)).put (some 27) (undef)).put (some 28) (undef)).put (some 29) (.bool true)).put (some 18) (.bool true)→Q .normal a' w') :
 (Code.region 3 mad3a_ops false).wp Tryz.prog Q a w:=by
 refine z0 rfl ?_
 refine zv rfl (xfa rfl (zi t8 rfl) (fg_55_1 _ _ _)) ?_
 refine zv rfl (xld rfl (zg zz rfl) (LN _ rfl)) ?_
 refine zv (v:= .bool true) rfl (ex_lss rfl (zg zz rfl) rfl hn) ?_
 refine zv rfl (xmv rfl (zg zz rfl)) ?_
 iterate 2 refine zn (zx zz rfl rfl rfl (zg zz rfl)) ?_
 refine zv rfl (exec_pickT rfl (zg zz rfl) rfl) ?_
 refine zv rfl (xmv rfl (zg zz rfl)) ?_
 iterate 2 refine zn (zx zz rfl rfl rfl (zg zz rfl)) ?_
 refine zv rfl (exec_pickT rfl (zg zz rfl) rfl) ?_
 refine zv rfl (xas rfl (zg zz rfl)) ?_
 exact ze rfl (h _ _ (rfl) rfl)
theorem mad3b {b1:Nat} {k:IdK} {sd:Int} (a:Act) (w:World) (Q:Exit→Act→World→Prop) (zz:a.tmps.size=70)
 (t8:a.tmps.getD 8 undef= .pointer (some ⟨b1,0,none⟩))
 (t6:a.tmps.getD 6 undef= .int .i64 sd)
 (hn:decide (k.n<1)=false) (h1:decide (sd<0)=true) (LN:∀W,W=w→(Instr.loadAt 3 (.pointer (some ⟨b1,0+32,none⟩))).run Tryz.prog W= .ok (.int .i64 k.n) W)
 (h:∀a' w',w'=w→a'=(((((((((((a.put (some 19) (.pointer (some ⟨b1,0+32,none⟩))).put (some 20) (.int .i64 k.n)).put (some 21) (.bool false)).put (some 22) (.bool false)).put (some 23) (.int .i64 sd)).put (some 24) (.bool true)).put (some 25) (.bool true)).put (some 26) (.bool true)).put (some 27) (undef)).put (some 28) (undef)).put (some 29) (.bool true)).put (some 18) (.bool true)→Q .normal a' w') :
 (Code.region 3 mad3a_ops false).wp Tryz.prog Q a w:=by
 refine z0 rfl ?_
 refine zv rfl (xfa rfl (zi t8 rfl) (fg_55_1 _ _ _)) ?_
 refine zv rfl (xld rfl (zg zz rfl) (LN _ rfl)) ?_
 refine zv (v:= .bool false) rfl (ex_lss rfl (zg zz rfl) rfl hn) ?_
 refine zv rfl (xmv rfl (zg zz rfl)) ?_
 refine zv (zw zz rfl rfl rfl (zg zz rfl)) (xmv rfl (zi t6 rfl)) ?_
 refine zv (v:= .bool true) (zw zz rfl rfl rfl (zg zz rfl)) (ex_lss rfl (zg zz rfl) rfl h1) ?_
 refine zv rfl (exec_pickF rfl (zg zz rfl) (zg zz rfl)) ?_
 refine zv rfl (xmv rfl (zg zz rfl)) ?_
 iterate 2 refine zn (zx zz rfl rfl rfl (zg zz rfl)) ?_
 refine zv rfl (exec_pickT rfl (zg zz rfl) rfl) ?_
 refine zv rfl (xas rfl (zg zz rfl)) ?_
 exact ze rfl (h _ _ (rfl) rfl)
theorem mad3c {b1:Nat} {k:IdK} {sd:Int} {r:Bool} (a:Act) (w:World) (Q:Exit→Act→World→Prop) (zz:a.tmps.size=70)
 (t8:a.tmps.getD 8 undef= .pointer (some ⟨b1,0,none⟩))
 (t6:a.tmps.getD 6 undef= .int .i64 sd)
 (hn:decide (k.n<1)=false) (h1:decide (sd<0)=false) (h2:decide (sd>3)=r) (LN:∀W,W=w→(Instr.loadAt 3 (.pointer (some ⟨b1,0+32,none⟩))).run Tryz.prog W= .ok (.int .i64 k.n) W)
 (h:∀a' w',w'=w→a'=(((((((((((a.put (some 19) (.pointer (some ⟨b1,0+32,none⟩))).put (some 20) (.int .i64 k.n)).put (some 21) (.bool false)).put (some 22) (.bool false)).put (some 23) (.int .i64 sd)).put (some 24) (.bool false)).put (some 25) (.bool false)).put (some 26) (.bool false)).put (some 27) (.int .i64 sd)).put (some 28) (.bool r)).put (some 29) (.bool r)).put (some 18) (.bool r)→Q .normal a' w') :
 (Code.region 3 mad3a_ops false).wp Tryz.prog Q a w:=by
 refine z0 rfl ?_
 refine zv rfl (xfa rfl (zi t8 rfl) (fg_55_1 _ _ _)) ?_
 refine zv rfl (xld rfl (zg zz rfl) (LN _ rfl)) ?_
 refine zv (v:= .bool false) rfl (ex_lss rfl (zg zz rfl) rfl hn) ?_
 refine zv rfl (xmv rfl (zg zz rfl)) ?_
 refine zv (zw zz rfl rfl rfl (zg zz rfl)) (xmv rfl (zi t6 rfl)) ?_
 refine zv (v:= .bool false) (zw zz rfl rfl rfl (zg zz rfl)) (ex_lss rfl (zg zz rfl) rfl h1) ?_
 refine zv rfl (exec_pickF rfl (zg zz rfl) (zg zz rfl)) ?_
 refine zv rfl (xmv rfl (zg zz rfl)) ?_
 refine zv (zw zz rfl rfl rfl (zg zz rfl)) (xmv rfl (zi t6 rfl)) ?_
 refine zv (v:= .bool r) (zw zz rfl rfl rfl (zg zz rfl)) (ex_gtr rfl (zg zz rfl) rfl h2) ?_
 refine zv rfl (exec_pickF rfl (zg zz rfl) (zg zz rfl)) ?_
 refine zv rfl (xas rfl (zg zz rfl)) ?_
 exact ze rfl (h _ _ (rfl) rfl)
def mad5_ops:Array Oper:=(⟨_,rfl⟩:{o // some o=rgB Tryz.f15 5}).1
theorem mad5 {mb b1:Nat} {k:IdK} {r:Bool} (Fin:World→Prop) (a:Act) (w:World) (Q:Exit→Act→World→Prop) (zz:a.tmps.size=70)
 (t0:a.tmps.getD 0 undef= .pointer (some ⟨mb,0,none⟩))
 (t8:a.tmps.getD 8 undef= .pointer (some ⟨b1,0,none⟩))
 (LK:∀W,W=w→(Instr.loadAt 55 (.pointer (some ⟨b1,0,none⟩))).run Tryz.prog W= .ok (k.v) W) (CH:Calls Tryz.prog 46 #[.pointer (some ⟨mb,0,none⟩),k.v] w fun e w'=>e= .returned (.bool r)∧Fin w')
 (h:∀a' w',Fin w'→a'=(((a.put (some 31) (.pointer (some ⟨mb,0,none⟩))).put (some 32) (k.v)).put (some 33) (.bool r)).put (some 30) (.bool r)→Q .normal a' w') :
 (Code.region 5 mad5_ops false).wp Tryz.prog Q a w:=by
 refine z0 rfl ?_
 refine zv rfl (xmv rfl (zi t0 rfl)) ?_
 refine zv rfl (xld rfl (zi t8 rfl) (LK _ rfl)) ?_
 refine zc rfl (exec_c2 rfl (zg zz rfl) (zg zz rfl)) (CH) (fun e x2 hx=> ?_)
 obtain ⟨rfl,HF⟩:=hx
 refine ⟨_,rfl, ?_⟩
 refine zv rfl (xas rfl (zg zz rfl)) ?_
 exact ze rfl (h _ _ (HF) rfl)
def mad7_ops:Array Oper:=(⟨_,rfl⟩:{o // some o=rgB Tryz.f15 7}).1
theorem mad7 {nm:ByteArray} {r:Bool} (Fin:World→Prop) (a:Act) (w:World) (Q:Exit→Act→World→Prop) (zz:a.tmps.size=70)
 (t2:a.tmps.getD 2 undef= .string nm)
 (CK:Calls Tryz.prog 47 #[.string nm] w fun e w'=>e= .returned (.bool r)∧Fin w')
 (h:∀a' w',Fin w'→a'=(((a.put (some 35) (.string nm)).put (some 36) (.bool r)).put (some 37) (.bool (!r))).put (some 34) (.bool (!r))→Q .normal a' w') :
 (Code.region 7 mad7_ops false).wp Tryz.prog Q a w:=by
 refine z0 rfl ?_
 refine zv rfl (xmv rfl (zi t2 rfl)) ?_
 refine zc rfl (exec_c1 rfl (zg zz rfl)) (CK) (fun e x1 hx=> ?_)
 obtain ⟨rfl,HF⟩:=hx
 refine ⟨_,rfl, ?_⟩
 refine zv rfl (exec_not rfl (zg zz rfl)) ?_
 refine zv rfl (xas rfl (zg zz rfl)) ?_
 exact ze rfl (h _ _ (HF) rfl)
def mad9a_ops:Array Oper:=(⟨_,rfl⟩:{o // some o=rgB Tryz.f15 9}).1
theorem mad9a {b2:Nat} {x:VaV} {z:Int} (Fin:World→Prop) (a:Act) (w:World) (Q:Exit→Act→World→Prop) (zz:a.tmps.size=70)
 (t10:a.tmps.getD 10 undef= .pointer (some ⟨b2,0,none⟩))
 (hz:decide (z≠0)=true) (LV:∀W,W=w→(Instr.loadAt 68 (.pointer (some ⟨b2,0,none⟩))).run Tryz.prog W= .ok (x.v) W) (CR:Calls Tryz.prog 48 #[x.v] w fun e w'=>e= .returned (.int .i64 z)∧Fin w')
 (h:∀a' w',Fin w'→a'=(((((((((a.put (some 39) (x.v)).put (some 40) (.int .i64 z)).put (some 41) (.bool true)).put (some 42) (.bool true)).put (some 43) (undef)).put (some 44) (undef)).put (some 45) (undef)).put (some 46) (undef)).put (some 47) (.bool true)).put (some 38) (.bool true)→Q .normal a' w') :
 (Code.region 9 mad9a_ops false).wp Tryz.prog Q a w:=by
 refine z0 rfl ?_
 refine zv rfl (xld rfl (zi t10 rfl) (LV _ rfl)) ?_
 refine zc rfl (exec_c1 rfl (zg zz rfl)) (CR) (fun e x1 hx=> ?_)
 obtain ⟨rfl,HF⟩:=hx
 refine ⟨_,rfl, ?_⟩
 refine zv (v:= .bool true) rfl (ex_neqE rfl (zg zz rfl) rfl hz) ?_
 refine zv rfl (xmv rfl (zg zz rfl)) ?_
 iterate 4 refine zn (zx zz rfl rfl rfl (zg zz rfl)) ?_
 refine zv rfl (exec_pickT rfl (zg zz rfl) rfl) ?_
 refine zv rfl (xas rfl (zg zz rfl)) ?_
 exact ze rfl (h _ _ (HF) rfl)
theorem mad9b {b2:Nat} {x:VaV} {z:Int} {r:Bool} (Fin:World→Prop) (a:Act) (w:World) (Q:Exit→Act→World→Prop) (zz:a.tmps.size=70)
 (t10:a.tmps.getD 10 undef= .pointer (some ⟨b2,0,none⟩))
 (hz:decide (z≠0)=false) (LV:∀W,W=w→(Instr.loadAt 68 (.pointer (some ⟨b2,0,none⟩))).run Tryz.prog W= .ok (x.v) W) (CR:Calls Tryz.prog 48 #[x.v] w fun e w'=>e= .returned (.int .i64 z)∧(Instr.loadAt 65 (.pointer (some ⟨b2,0+0,none⟩))).run Tryz.prog w'= .ok (.int .u8 x.k) w'∧Calls Tryz.prog 49 #[.int .u8 x.k] w' fun e w2=>e= .returned (.bool r)∧Fin w2)
 (h:∀a' w',Fin w'→a'=(((((((((a.put (some 39) (x.v)).put (some 40) (.int .i64 z)).put (some 41) (.bool false)).put (some 42) (.bool false)).put (some 43) (.pointer (some ⟨b2,0+0,none⟩))).put (some 44) (.int .u8 x.k)).put (some 45) (.bool r)).put (some 46) (.bool (!r))).put (some 47) (.bool (!r))).put (some 38) (.bool (!r))→Q .normal a' w') :
 (Code.region 9 mad9a_ops false).wp Tryz.prog Q a w:=by
 refine z0 rfl ?_
 refine zv rfl (xld rfl (zi t10 rfl) (LV _ rfl)) ?_
 refine zc rfl (exec_c1 rfl (zg zz rfl)) (CR) (fun e x1 hx=> ?_)
 obtain ⟨rfl,LKD,CS⟩:=hx
 refine ⟨_,rfl, ?_⟩
 refine zv (v:= .bool false) rfl (ex_neqE rfl (zg zz rfl) rfl hz) ?_
 refine zv rfl (xmv rfl (zg zz rfl)) ?_
 refine zv (zw zz rfl rfl rfl (zg zz rfl)) (xfa rfl (zi t10 rfl) (fg_68_0 _ _ _)) ?_
 refine zv (zw zz rfl rfl rfl (zg zz rfl)) (xld rfl (zg zz rfl) LKD) ?_
 refine zc (zw zz rfl rfl rfl (zg zz rfl)) (exec_c1 rfl (zg zz rfl)) (CS) (fun e x6 hx=> ?_)
 obtain ⟨rfl,HF⟩:=hx
 refine ⟨_,rfl, ?_⟩
 refine zv (zw zz rfl rfl rfl (zg zz rfl)) (exec_not rfl (zg zz rfl)) ?_
 refine zv rfl (exec_pickF rfl (zg zz rfl) (zg zz rfl)) ?_
 refine zv rfl (xas rfl (zg zz rfl)) ?_
 exact ze rfl (h _ _ (HF) rfl)
def mad11_ops:Array Oper:=(⟨_,rfl⟩:{o // some o=rgB Tryz.f15 11}).1
theorem mad11 {mb b1 b2 b3 b4:Nat} {x:MkV} {lv sv v2:Value} {w1 w2 w3:World} (S:World→Prop) (a:Act) (w:World) (Q:Exit→Act→World→Prop) (zz:a.tmps.size=70)
 (t0:a.tmps.getD 0 undef= .pointer (some ⟨mb,0,none⟩))
 (t2:a.tmps.getD 2 undef= .string x.nm)
 (t6:a.tmps.getD 6 undef= .int .i64 x.sd)
 (t8:a.tmps.getD 8 undef= .pointer (some ⟨b1,0,none⟩))
 (t10:a.tmps.getD 10 undef= .pointer (some ⟨b2,0,none⟩))
 (t11:a.tmps.getD 11 undef= .pointer (some ⟨b3,0,none⟩))
 (t12:a.tmps.getD 12 undef= .pointer (some ⟨b4,0,none⟩))
 (h0:S w.drew) (L0:∀W,S W→(Instr.loadAt 79 (.pointer (some ⟨mb,0+0,none⟩))).run Tryz.prog W= .ok (lv) W) (L1:∀W,S W→(Instr.loadAt 55 (.pointer (some ⟨b1,0,none⟩))).run Tryz.prog W= .ok (x.id.v) W) (L2:∀W,S W→(Instr.loadAt 68 (.pointer (some ⟨b2,0,none⟩))).run Tryz.prog W= .ok (x.v.v) W) (L3:∀W,S W→(Instr.loadAt 55 (.pointer (some ⟨b3,0,none⟩))).run Tryz.prog W= .ok (x.fr.v) W) (L4:∀W,S W→(Instr.loadAt 55 (.pointer (some ⟨b4,0,none⟩))).run Tryz.prog W= .ok (x.to.v) W) (HB:∀W,(Instr.build 82 #[(0,x.id.v),(1, .string x.nm),(2,x.v.v),(3,x.fr.v),(4,x.to.v),(5, .int .i64 x.sd)]).run Tryz.prog W= .ok x.a W) (E1:(Instr.buildSlice 79 1 #[(0,x.a)]).run Tryz.prog w.drew= .ok sv w1) (S1:S w1) (E2:(Builtin.append_ #[79,79] 79 #[lv,sv]).run Tryz.prog w1= .ok v2 w2) (S2:S w2) (E3:(Instr.storeAt 79 (.pointer (some ⟨mb,0+0,none⟩)) v2).run Tryz.prog w2= .ok () w3)
 (h:∀a' w',w'=w3→a'=(((((((((((((((a.put (some 48) (.pointer (some ⟨mb,0,none⟩))).put (some 49) (.pointer (some ⟨mb,0,none⟩))).put (some 50) (.pointer (some ⟨mb,0,none⟩))).put (some 51) (.pointer (some ⟨mb,0+0,none⟩))).put (some 52) (lv)).put (some 53) (x.id.v)).put (some 54) (.string x.nm)).put (some 55) (x.v.v)).put (some 56) (x.fr.v)).put (some 57) (x.to.v)).put (some 58) (.int .i64 x.sd)).put (some 59) (x.a)).put (some 60) (sv)).put (some 61) (v2)).put (some 62) (.pointer (some ⟨mb,0,none⟩))).put (some 63) (.pointer (some ⟨mb,0+0,none⟩))→Q .normal a' w') :
 (Code.region 11 mad11_ops true).wp Tryz.prog Q a w:=by
 refine x0 16 (fun w'=>S w') (h0) (fun hHeld=> ?_)
 refine xv 0 rfl rfl (fun w1 hw=>xmv rfl (zi t0 rfl)) hHeld ?_
 refine xv 1 rfl rfl (fun w1 hw=>xmv rfl (zi t0 rfl)) hHeld ?_
 refine xv 2 rfl rfl (fun w1 hw=>xnc rfl (zg zz rfl)) hHeld ?_
 refine xv 3 rfl rfl (fun w1 hw=>xfa rfl (zg zz rfl) (fg_97_0 _ _ _)) hHeld ?_
 refine xv 4 rfl rfl (fun w1 hw=>xld rfl (zg zz rfl) (L0 _ hw)) hHeld ?_
 refine xv 5 rfl rfl (fun w1 hw=>xld rfl (zi t8 rfl) (L1 _ hw)) hHeld ?_
 refine xv 6 rfl rfl (fun w1 hw=>xmv rfl (zi t2 rfl)) hHeld ?_
 refine xv 7 rfl rfl (fun w1 hw=>xld rfl (zi t10 rfl) (L2 _ hw)) hHeld ?_
 refine xv 8 rfl rfl (fun w1 hw=>xld rfl (zi t11 rfl) (L3 _ hw)) hHeld ?_
 refine xv 9 rfl rfl (fun w1 hw=>xld rfl (zi t12 rfl) (L4 _ hw)) hHeld ?_
 refine xv 10 rfl rfl (fun w1 hw=>xmv rfl (zi t6 rfl)) hHeld ?_
 refine xv 11 rfl rfl (fun w1 hw=>exec_build6 rfl (zg zz rfl) (zg zz rfl) (zg zz rfl) (zg zz rfl) (zg zz rfl) (zg zz rfl) (HB _)) hHeld ?_
 refine xr (v:=sv) 12 rfl rfl (exec_buildSlice rfl (zg zz rfl) E1) (fun _=>S1) (fun hHeld=> ?_)
 replace hHeld:=hHeld (by decide)
 refine xr (v:=v2) 13 rfl rfl (exec_append rfl (zg zz rfl) (zg zz rfl) E2) (fun _=>S2) (fun hHeld=> ?_)
 replace hHeld:=hHeld (by decide)
 refine xv 14 rfl rfl (fun w1 hw=>xnc rfl (zg zz rfl)) hHeld ?_
 refine xv 15 rfl rfl (fun w1 hw=>xfa rfl (zg zz rfl) (fg_97_0 _ _ _)) hHeld ?_
 refine xs 16 rfl rfl (exec_store rfl (zg zz rfl) (zg zz rfl) E3) (fun hne=>absurd rfl hne) (fun _=> ?_)
 exact xe rfl (h _ _ (rfl) rfl)
def mad12_ops:Array Oper:=(⟨_,rfl⟩:{o // some o=rgB Tryz.f15 12}).1
theorem mad12 {mb ib b1:Nat} {k:IdK} {w2:World} (S:World→Prop) (a:Act) (w:World) (Q:Exit→Act→World→Prop) (zz:a.tmps.size=70)
 (t0:a.tmps.getD 0 undef= .pointer (some ⟨mb,0,none⟩))
 (t8:a.tmps.getD 8 undef= .pointer (some ⟨b1,0,none⟩))
 (h0:S w.drew) (LM:∀W,S W→(Instr.loadAt 95 (.pointer (some ⟨mb,0+1,none⟩))).run Tryz.prog W= .ok (.map (some ib)) W) (LK:∀W,S W→(Instr.loadAt 55 (.pointer (some ⟨b1,0,none⟩))).run Tryz.prog W= .ok (k.v) W) (HU:∀W,(Instr.build 107 #[]).run Tryz.prog W= .ok (.agg #[]) W) (E1:(Instr.mapUpdate 95 (.map (some ib)) k.v (.agg #[])).run Tryz.prog w.drew= .ok () w2)
 (h:∀a' w',w'=w2→a'=(((((a.put (some 64) (.pointer (some ⟨mb,0,none⟩))).put (some 65) (.pointer (some ⟨mb,0,none⟩))).put (some 66) (.pointer (some ⟨mb,0+1,none⟩))).put (some 67) (.map (some ib))).put (some 68) (k.v)).put (some 69) (.agg #[])→Q .normal a' w') :
 (Code.region 12 mad12_ops true).wp Tryz.prog Q a w:=by
 refine x0 6 (fun w'=>S w') (h0) (fun hHeld=> ?_)
 refine xv 0 rfl rfl (fun w1 hw=>xmv rfl (zi t0 rfl)) hHeld ?_
 refine xv 1 rfl rfl (fun w1 hw=>xnc rfl (zg zz rfl)) hHeld ?_
 refine xv 2 rfl rfl (fun w1 hw=>xfa rfl (zg zz rfl) (fg_97_1 _ _ _)) hHeld ?_
 refine xv 3 rfl rfl (fun w1 hw=>xld rfl (zg zz rfl) (LM _ hw)) hHeld ?_
 refine xv 4 rfl rfl (fun w1 hw=>xld rfl (zi t8 rfl) (LK _ hw)) hHeld ?_
 refine xv 5 rfl rfl (fun w1 hw=>exec_build0 rfl (HU _)) hHeld ?_
 refine xs 6 rfl rfl (exec_mapUpdate rfl (zg zz rfl) (zg zz rfl) (zg zz rfl) E1) (fun hne=>absurd rfl hne) (fun _=> ?_)
 exact xe rfl (h _ _ (rfl) rfl)
end Go.Proofs.YtifendlpeebofabGreatDoor
namespace Go.Proofs.YtifendlpeebofabGreatDoor
open Go.RowKit Sq
def edgeP (E:List Elt) (k:IdK) (bh:Bool) (z:Int):Int × Bool:=if k=zId then (z,true) else if bh=true then (aheadE E false k+1,decide (aheadE E false k≥0)) else (aheadE E false k,decide (aheadE E false k≥0))
def bF (s:Int):Bool:=decide (s=1∨s=3)
def bT (s:Int):Bool:=decide (s=2∨s=3)
def reachP (E:List Elt) (x:MkV):Int × Int:=if (edgeP E x.fr (bF x.sd) 0).2=true∧(edgeP E x.to (bT x.sd) (E.length:Int)).2=true then ((edgeP E x.fr (bF x.sd) 0).1,(edgeP E x.to (bT x.sd) (E.length:Int)).1) else (0,0)
def idxE (E:List Elt) (r:Int):Int:=if (nthE E false r).2=true then aheadE E true (nthE E false r).1 else ((visE E true).length:Int)
theorem vis_all (E:List Elt):visE E false=E:=by
 unfold visE
 rw [List.filter_eq_self]
 intro e _
 rfl
theorem ahead_bd (E:List Elt) (c:Bool) (k:IdK): -1≤aheadE E c k∧aheadE E c k≤(E.length:Int):=by
 unfold aheadE
 split
 ·have h1:=List.countP_le_length (p:=cE c) (l:=E.takeWhile (fun e=> !decide (e.id=k)))
  have h2:=(List.takeWhile_prefix (fun e:Elt=> !decide (e.id=k)) (l:=E)).length_le
  omega
 ·omega
theorem SeqAt.few {w:World} {s:Sx} {E:List Elt} (h:SeqAt w s E):E.length+1≤1400000000000:=by
 have h1:=h.lk.len
 have h2:=h.row.len
 omega
section
variable {w:World} {s:Sx} {E:List Elt}
theorem edge_any (h:SeqAt w s E) {k:IdK} (hk:k.ok) (bh:Bool) {z:Int} (hz: -9223372036854775808≤z∧z≤9223372036854775807):Calls Tryz.prog 76 #[.pointer (some ⟨s.sb,0,none⟩),k.v, .bool bh, .int .i64 z] w fun e w'=>e= .returned (.tuple #[.int .i64 (edgeP E k bh z).1, .bool (edgeP E k bh z).2])∧Below w.heap.size w w':=by
 have bx:Below w.heap.size w (w.alloc (.cells k.c.toArray 55)):=(Below.refl _ _).alloc (Nat.le_refl _) _
 have hx:=id_new w k
 have HR:Hid (∀W,SeqAt W s E→Calls Tryz.prog 21 #[.pointer (some ⟨s.sb,0,none⟩),k.v] W fun e w'=>e= .returned (.int .i64 (aheadE E false k))∧Below W.heap.size W w'):=fun W hW=>rank_any hW hk
 have HB:=hidMk (And.intro (ahead_bd E false k) h.few)
 have HE:Hid (edgeP E k bh z=if k=zId then (z,true) else if bh=true then (aheadE E false k+1,decide (aheadE E false k≥0)) else (aheadE E false k,decide (aheadE E false k≥0))):=rfl
 generalize edgeP E k bh z=res at *
 generalize aheadE E false k=r at *
 show Calls Tryz.prog 76 #[.pointer (some ⟨s.sb,0,none⟩), .agg k.c.toArray, .bool bh, .int .i64 z] w _
 go_enter Tryz.func76,Tryz.ntmps76
 go_upto_region 1 with fail
 generalize w.alloc (.cells k.c.toArray 55)=wx at *
 have h1:=h.below bx
 have HX:=hidMk hx
 clear hx
 refine edg1 (k:=k) (r:=r) (fun W=>Below wx.heap.size wx W) _ wx _ rfl rfl rfl (fun W e=>by rw [e];exact load_id hk HX.out) (HR.out _ h1) ?_
 intro a' w1 hf ha
 subst ha
 simp only [Act.put,qsA,qsB,qsC]
 have HX1:=hidMk (HX.out.below hf)
 have B1:=hidMk (bx.trans (hf.mono bx.size))
 clear HX HR hf h1
 go_upto_region 2 with fail
 obtain ⟨q,hq⟩:∃q,decide (k=zId)=q:=⟨_,rfl⟩
 refine edg2 (k:=k) (z:=q) _ w1 _ rfl rfl hk hq (fun W e=>by rw [e];exact load_id hk HX1.out) ?_
 intro a' w2 hw ha
 obtain rfl:w1=w2:=hw.symm
 subst ha
 simp only [Act.put,qsA,qsB,qsC]
 have HQ:=hidMk hq
 clear hq HX1
 cases q with
 |true =>
  have e:res=(z,true):=by rw [HE.out,if_pos (of_decide_eq_true HQ.out)]
  clear HE
  subst e
  go_wp2
  refine bodyPost_ret (results_tmp2 rfl _ _ _) rfl ?_
  exact ⟨rfl,B1.out⟩
 |false =>
  obtain ⟨y,hy⟩:∃y,decide (r≥0)=y:=⟨_,rfl⟩
  have HY:=hidMk hy
  clear hy
  cases bh with
  |true =>
   have e:res=(r+1,y):=by rw [HE.out,if_neg (of_decide_eq_false HQ.out),if_pos rfl,HY.out]
   clear HE
   subst e
   go_upto_region 5 with fail
   refine edg5 (r:=r) (z:=y) _ w1 _ rfl rfl (by have:=HB.out;omega) HY.out ?_
   intro a' w2 hw ha
   obtain rfl:w1=w2:=hw.symm
   subst ha
   simp only [Act.put,qsA,qsB,qsC]
   clear HB
   go_wp2
   refine bodyPost_ret (results_tmp2 rfl _ _ _) rfl ?_
   exact ⟨rfl,B1.out⟩
  |false =>
   have e:res=(r,y):=by rw [HE.out,if_neg (of_decide_eq_false HQ.out),if_neg (by decide),HY.out]
   clear HE
   subst e
   go_upto_region 6 with fail
   refine edg6 (r:=r) (z:=y) _ w1 _ rfl rfl HY.out ?_
   intro a' w2 hw ha
   obtain rfl:w1=w2:=hw.symm
   subst ha
   simp only [Act.put,qsA,qsB,qsC]
   clear HB
   go_wp2
   refine bodyPost_ret (results_tmp2 rfl _ _ _) rfl ?_
   exact ⟨rfl,B1.out⟩
theorem index_at_any (h:SeqAt w s E) {r:Int} (hr: -9223372036854775808≤r∧r≤9223372036854775807):Calls Tryz.prog 22 #[.pointer (some ⟨s.sb,0,none⟩), .int .i64 r] w fun e w'=>e= .returned (.int .i64 (idxE E r))∧Below w.heap.size w w':=by
 have HE:Hid (idxE E r=if (nthE E false r).2=true then aheadE E true (nthE E false r).1 else ((visE E true).length:Int)):=rfl
 have OK:(nthE E false r).1.ok:=nthE_ok h.lk.ok false r
 have CA:Hid (Calls Tryz.prog 64 #[.pointer (some ⟨s.sb,0,none⟩), .int .i64 r] w fun e w'=>e= .returned (.tuple #[(nthE E false r).1.v, .bool (nthE E false r).2])∧∃b1 w1 w2,(Instr.alloc 55 true (.tuple #[])).run Tryz.prog w'= .ok (.pointer (some ⟨b1,0,none⟩)) w1∧(Instr.storeAt 55 (.pointer (some ⟨b1,0,none⟩)) (nthE E false r).1.v).run Tryz.prog w1= .ok () w2∧(IdAt w2 b1 (nthE E false r).1∧Below w.heap.size w w2)):=by
  refine (at_any h r hr).mono ?_
  rintro e w' ⟨rfl,b⟩
  have i0:=id_new w' zId
  have bx:Below w'.heap.size w' (w'.alloc (.cells zId.c.toArray 55)):=(Below.refl _ _).alloc (Nat.le_refl _) _
  refine ⟨rfl,w'.heap.size,_,_,id_zero w',store_id zId_ok OK i0,i0.set _, ?_⟩
  have b2:=b.trans (bx.mono b.size)
  exact b2.trans (set_below _ b2.size b.size)
 have HI:Hid (∀W,SeqAt W s E→Calls Tryz.prog 65 #[.pointer (some ⟨s.sb,0,none⟩),(nthE E false r).1.v] W fun e w'=>e= .returned (.int .i64 (aheadE E true (nthE E false r).1))∧Below W.heap.size W w'):=fun W hW=>index_any hW OK
 have HS:Hid (∀W,SeqAt W s E→Calls Tryz.prog 66 #[.pointer (some ⟨s.sb,0,none⟩)] W fun e w'=>e= .returned (.int .i64 ((visE E true).length:Int))∧Below W.heap.size W w'):=fun W hW=>shown_any hW
 have HH:=hidMk (fun (W:World) (b:Below w.heap.size w W)=>h.below b)
 clear h
 generalize idxE E r=res at *
 generalize nthE E false r=kb at *
 obtain ⟨k,q⟩:=kb
 simp only at OK CA HI HE
 go_enter Tryz.func22,Tryz.ntmps22
 go_upto_region 1 with fail
 refine ixa1 (k:=k) (z:=q) (fun b1 W=>IdAt W b1 k∧Below w.heap.size w W) _ w _ rfl rfl rfl CA.out ?_
 intro b1 a' w1 hf ha
 subst ha
 simp only [Act.put,qsA,qsB,qsC]
 have HF:=hidMk hf
 clear hf CA
 cases q with
 |true =>
  have e:res=aheadE E true k:=by rw [HE.out,if_pos rfl]
  clear HE
  subst e
  go_upto_region 3 with fail
  refine ixa3 (k:=k) (r:=aheadE E true k) (fun W=>Below w1.heap.size w1 W) _ w1 _ rfl rfl rfl (fun W e=>by rw [e];exact load_id OK HF.out.1) (HI.out _ (HH.out _ HF.out.2)) ?_
  intro a' w2 hf ha
  subst ha
  simp only [Act.put,qsA,qsB,qsC]
  have B2:Hid (Below w.heap.size w w2):=HF.out.2.trans (hf.mono HF.out.2.size)
  clear hf
  go_wp2
  go_ret
  exact ⟨rfl,B2.out⟩
 |false =>
  have e:res=((visE E true).length:Int):=by rw [HE.out,if_neg (by decide)]
  clear HE
  subst e
  go_wp2_with (first
   |(go_at_call 66;refine (HS.out _ (HH.out _ HF.out.2)).mono ?_;rintro e w2 ⟨rfl,hb⟩)
   |fail)
  go_ret
  exact ⟨rfl,HF.out.2.trans (hb.mono HF.out.2.size)⟩
end
theorem and_one {s:Int} (h:0≤s∧s≤3) (W:World):(binOp .and 3 (.int .i64 s) (.int .i64 1)).run Tryz.prog W= .ok (.int .i64 (if bF s=true then 1 else 0)) W:=by
 rcases (show s=0∨s=1∨s=2∨s=3 by omega) with rfl|rfl|rfl|rfl <;>kernel_rfl
theorem and_two {s:Int} (h:0≤s∧s≤3) (W:World):(binOp .and 3 (.int .i64 s) (.int .i64 2)).run Tryz.prog W= .ok (.int .i64 (if bT s=true then 2 else 0)) W:=by
 rcases (show s=0∨s=1∨s=2∨s=3 by omega) with rfl|rfl|rfl|rfl <;>kernel_rfl
section
variable {w:World} {s:Sx} {E:List Elt}
theorem reach_any (h:SeqAt w s E) {x:MkV} (hx:x.ok) (hs:0≤x.sd∧x.sd≤3) {b:Nat} (hb:RM.Bx w b x):Calls Tryz.prog 54 #[.pointer (some ⟨b,0,none⟩), .pointer (some ⟨s.sb,0,none⟩)] w fun e w'=>e= .returned (.tuple #[.int .i64 (reachP E x).1, .int .i64 (reachP E x).2])∧Below w.heap.size w w':=by
 have HE:Hid (reachP E x=if (edgeP E x.fr (bF x.sd) 0).2=true∧(edgeP E x.to (bT x.sd) (E.length:Int)).2=true then ((edgeP E x.fr (bF x.sd) 0).1,(edgeP E x.to (bT x.sd) (E.length:Int)).1) else (0,0)):=rfl
 have hf:=h.few
 have C1:Hid (∀W,SeqAt W s E→Calls Tryz.prog 76 #[.pointer (some ⟨s.sb,0,none⟩),x.fr.v, .bool (bF x.sd), .int .i64 0] W fun e w'=>e= .returned (.tuple #[.int .i64 (edgeP E x.fr (bF x.sd) 0).1, .bool (edgeP E x.fr (bF x.sd) 0).2])∧Below W.heap.size W w'):=fun W hW=>edge_any hW hx.fr _ (by omega)
 have C2:Hid (∀W,SeqAt W s E→Calls Tryz.prog 76 #[.pointer (some ⟨s.sb,0,none⟩),x.to.v, .bool (bT x.sd), .int .i64 (E.length:Int)] W fun e w'=>e= .returned (.tuple #[.int .i64 (edgeP E x.to (bT x.sd) (E.length:Int)).1, .bool (edgeP E x.to (bT x.sd) (E.length:Int)).2])∧Below W.heap.size W w'):=fun W hW=>edge_any hW hx.to _ (by omega)
 have CL:Hid (∀W,SeqAt W s E→Calls Tryz.prog 77 #[.pointer (some ⟨s.sb,0,none⟩)] W fun e w'=>e= .returned (.int .i64 (E.length:Int))∧Below W.heap.size W w'):=fun W hW=>by
  have:=len_any hW
  rw [vis_all] at this
  exact this
 have HH:=hidMk (fun (W:World) (bl:Below w.heap.size w W)=>And.intro (h.below bl) (hb.below bl))
 have hxx:=hidMk hx
 have r1:decide ((if bF x.sd=true then (1:Int) else 0)≠0)=bF x.sd:=by cases bF x.sd <;>rfl
 have r2:decide ((if bT x.sd=true then (2:Int) else 0)≠0)=bT x.sd:=by cases bT x.sd <;>rfl
 obtain ⟨q1,hq1⟩:∃q,(if bF x.sd=true then (1:Int) else 0)=q:=⟨_,rfl⟩
 obtain ⟨q2,hq2⟩:∃q,(if bT x.sd=true then (2:Int) else 0)=q:=⟨_,rfl⟩
 rw [hq1] at r1
 rw [hq2] at r2
 have A1:Hid (∀W,(binOp .and 3 (.int .i64 x.sd) (.int .i64 1)).run Tryz.prog W= .ok (.int .i64 q1) W):=fun W=>by rw [←hq1];exact and_one hs W
 have A2:Hid (∀W,(binOp .and 3 (.int .i64 x.sd) (.int .i64 2)).run Tryz.prog W= .ok (.int .i64 q2) W):=fun W=>by rw [←hq2];exact and_two hs W
 have R1:=hidMk r1
 have R2:=hidMk r2
 clear h hb hf hx hs r1 r2 hq1 hq2
 generalize reachP E x=res at *
 generalize edgeP E x.fr (bF x.sd) 0=e1 at *
 generalize edgeP E x.to (bT x.sd) (E.length:Int)=e2 at *
 obtain ⟨f1,z1⟩:=e1
 obtain ⟨f2,z2⟩:=e2
 simp only at C1 C2 HE
 go_enter Tryz.func54,Tryz.ntmps54
 go_upto_region 1 with fail
 refine rea1 (x:=x) (b:=b) (q:=q1) (f:=f1) (z:=z1) (r:=bF x.sd) (fun W=>Below w.heap.size w W) _ w _ rfl rfl rfl ((Below.refl _ _).drew) R1.out A1.out (fun W bl=>mk_fr hxx.out (HH.out W bl).2.rng) (fun W bl=>mk_sd hxx.out (HH.out W bl).2.rng) ((C1.out _ (HH.out _ (Below.refl _ _).drew).1).mono ?_) ?_
 ·rintro e w' ⟨rfl,bl⟩
  exact ⟨rfl,(Below.refl _ _).drew.trans (bl.mono (Below.refl w.heap.size w).drew.size)⟩
 intro a' w1 hf ha
 subst ha
 simp only [Act.put,qsA,qsB,qsC]
 have B1:=hidMk hf
 clear hf C1 R1
 go_upto_region 2 with fail
 refine rea2 (x:=x) (b:=b) (q:=q2) (f:=f2) (n:=(E.length:Int)) (z:=z2) (r:=bT x.sd) (fun W=>Below w.heap.size w W) _ w1 _ rfl rfl rfl (B1.out.drew) R2.out A2.out (fun W bl=>mk_to hxx.out (HH.out W bl).2.rng) (fun W bl=>mk_sd hxx.out (HH.out W bl).2.rng) ((CL.out _ (HH.out _ B1.out.drew).1).mono ?_) ?_
 ·rintro e w' ⟨rfl,bl⟩
  have b2:=B1.out.drew.trans (bl.mono B1.out.drew.size)
  refine ⟨rfl,b2,(C2.out _ (HH.out _ b2).1).mono ?_⟩
  rintro e w'' ⟨rfl,bl⟩
  exact ⟨rfl,b2.trans (bl.mono b2.size)⟩
 intro a' w2 hf ha
 subst ha
 simp only [Act.put,qsA,qsB,qsC]
 have B2:=hidMk hf
 clear hf C2 R2 CL HH B1 hxx A1 A2
 generalize bF x.sd=g1 at *
 generalize bT x.sd=g2 at *
 cases z1 with
 |false =>
  have e:res=(0,0):=by rw [HE.out,if_neg (fun q=>by cases q.1)]
  clear HE
  subst e
  go_wp2
  refine bodyPost_ret (results_tmp2 rfl _ _ _) rfl ?_
  exact ⟨rfl,B2.out⟩
 |true =>
  cases z2 with
  |false =>
   have e:res=(0,0):=by rw [HE.out,if_neg (fun q=>by cases q.2)]
   clear HE
   subst e
   go_wp2
   refine bodyPost_ret (results_tmp2 rfl _ _ _) rfl ?_
   exact ⟨rfl,B2.out⟩
  |true =>
   have e:res=(f1,f2):=by rw [HE.out,if_pos ⟨rfl,rfl⟩]
   clear HE
   subst e
   go_wp2
   refine bodyPost_ret (results_tmp2 rfl _ _ _) rfl ?_
   exact ⟨rfl,B2.out⟩
end
end Go.Proofs.YtifendlpeebofabGreatDoor
