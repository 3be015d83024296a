import Derived.Test.YtifendlpeebofaaGreatDoorP5
import Derived.Shelf.SlSortCmp.WholeK
import Derived.Shelf.SlSortCmp.NoneTotal
import Derived.Shelf.SlGeneric
import Derived.Ground.SlsfProg
import Derived.Test.YtifendlpeebofaaGreatDoorRows
import Derived.Test.YtifendlpeebofaaGreatDoorP0
import Derived.Test.YtifendlpeebofaaGreatDoorP4
import Derived.Test.YtifendlpeebofaaGreatDoorP2
import Derived.Laws.BitsAllLaws
import Derived.Laws.MakeOwn
import Derived.Laws.CopyOwn
import Derived.OrdersIn
set_option linter.unusedSimpArgs false
set_option linter.unusedVariables false
set_option maxRecDepth 100000
set_option maxHeartbeats 4000000
namespace Go.Proofs.YtifendlpeebofaaGreatDoor
open Go.Proofs.Tryz
section
def Adq (C:List SpV) (nm:ByteArray) (K:List Int):Nat→List SpV
 |0=>[]
 |a+1=>Ahx C nm (K.getD a 0) (K.getD (a+1) 0) (hI C 0 (K.getD a 0)) (Adq C nm K a)
def Adv (C:List SpV) (nm:ByteArray) (K:List Int):List SpV:=Adq C nm K (K.length-1)
theorem Ac6 {K:List Int} {a:Nat} (h:a<K.length):K[a]? =some (K.getD a 0):=by
 rw [List.getD_eq_getElem?_getD,List.getElem?_eq_getElem h];rfl
theorem Al3 {C:List SpV} {K:List Int} (k:Ac8 C K) (nm:ByteArray):∀a,a<K.length→Ack (Ag5 C) nm (K.getD a 0) (Adq C nm K a)
 |0,h=>k.runs0 nm (Ac6 h)
 |a+1,h=>k.next (Ac6 (by omega)) (Ac6 h) (Al3 k nm a (by omega))
theorem Aq4 (l:List SpV) (p:SpV):(Adj l p).length≤l.length+1:=by
 unfold Adj
 cases l.getLast? with
 |none=>simp
 |some q =>
  simp only
  split
  ·simp
  ·simp
theorem Agd (C:List SpV) (nm:ByteArray) (K:List Int):∀a,(Adq C nm K a).length≤a
 |0=>Nat.le_refl _
 |a+1=>by
  have ih:=Agd C nm K a
  unfold Adq Ahx
  split
  ·have:=Aq4 (Adq C nm K a) (⟨K.getD a 0,K.getD (a+1) 0,nm, ‹VaV›⟩)
   omega
  ·omega
theorem Al2 {h:ByteArray→Int→Option VaV} {nm:ByteArray} {C:List SpV} (hC:C≠[]) (hlt:∀c∈C,c.fr<c.to) (e:∀j,h nm j=Ag5 C j):(∀p,p∈Adv C nm (Aaf C)↔Run h p∧p.nm=nm)∧(Adv C nm (Aaf C)).Nodup:=by
 obtain ⟨c,hc⟩:=List.exists_mem_of_ne_nil C hC
 have k:=Afp C
 have h2:=Af6 hc (hlt c hc)
 have r:=Al3 k nm ((Aaf C).length-1) (by omega)
 have r':Ack (h nm) nm ((Aaf C).getD ((Aaf C).length-1) 0) (Adv C nm (Aaf C)):=by
  rw [show h nm=Ag5 C from funext e];exact r
 refine ⟨fun p=>r'.mem (fun j hj=> ?_) p,r.nodup⟩
 rw [e]
 exact k.last (m:=(Aaf C).length-1) (by omega) (Ac6 (by omega)) hj
theorem Ahu {E:List Elt} {L:List MkV} {p:SpV} (h:Run (hE E L) p):cvN E L p.nm≠[]:=fun q=>by
 have:=h.2.1 p.fr (Int.le_refl _) h.1
 unfold hE at this
 rw [q] at this
 simp [Ag5,Acy,A16] at this
theorem Auh {E:List Elt} {L:List MkV} {nm:ByteArray}:∀c∈cvN E L nm,c.fr<c.to:=fun c hc=>by
 have:=(List.mem_filter.1 (List.mem_filter.1 hc).1).2
 exact of_decide_eq_true this
theorem A1k {E:List Elt} {L:List MkV} {nm:ByteArray}:∀c∈cvN E L nm,c.nm=nm:=fun c hc=>of_decide_eq_true (List.mem_filter.1 hc).2
theorem A0e {E:List Elt} {L:List MkV} {ns:List ByteArray} (nd:ns.Nodup) (hn:∀nm,nm∈ns↔cvN E L nm≠[]) :
 (∀p,p∈(ns.flatMap fun nm=>Adv (cvN E L nm) nm (Aaf (cvN E L nm)))↔Run (hE E L) p)∧(ns.flatMap fun nm=>Adv (cvN E L nm) nm (Aaf (cvN E L nm))).Nodup:=by
 have one:∀nm∈ns,(∀p,p∈Adv (cvN E L nm) nm (Aaf (cvN E L nm))↔Run (hE E L) p∧p.nm=nm)∧(Adv (cvN E L nm) nm (Aaf (cvN E L nm))).Nodup:=fun nm h=>Al2 ((hn nm).1 h) Auh (fun j=>rfl)
 refine ⟨fun p=> ?_, ?_⟩
 ·rw [List.mem_flatMap]
  constructor
  ·rintro ⟨nm,h1,h2⟩
   exact (((one nm h1).1 p).1 h2).1
  ·intro h
   have h1:=(hn p.nm).2 (Ahu h)
   exact ⟨p.nm,h1,((one p.nm h1).1 p).2 ⟨h,rfl⟩⟩
 ·clear hn
  induction ns with
  |nil=>simp
  |cons nm ns ih =>
   have n2:=List.nodup_cons.1 nd
   rw [List.flatMap_cons,List.nodup_append]
   refine ⟨(one nm (by simp)).2,ih n2.2 (fun x hx=>one x (by simp [hx])),fun p hp q hq e=> ?_⟩
   subst e
   obtain ⟨m,hm,hq⟩:=List.mem_flatMap.1 hq
   have e1:=(((one nm (by simp)).1 p).1 hp).2
   have e2:=(((one m (by simp [hm])).1 p).1 hq).2
   exact n2.1 (by rw [←e1,e2];exact hm)
theorem Aqe {E:List Elt} {L:List MkV} {ns:List ByteArray} (nd:ns.Nodup) (hn:∀nm,nm∈ns↔cvN E L nm≠[]) {S:List SpV} (hp:S.Perm (ns.flatMap fun nm=>Adv (cvN E L nm) nm (Aaf (cvN E L nm)))) (hs:S.Pairwise (fun p q=>cSp p q≤0)):Ac3 (hE E L) S:=by
 obtain ⟨h1,h2⟩:=A0e nd hn
 exact Aly hs (hp.nodup_iff.2 h2) (fun p=>hp.mem_iff.trans (h1 p))
theorem Axj (C:List SpV) (nm:ByteArray):(Adv C nm (Aaf C)).length≤2*C.length:=by
 have h1:=Agd C nm (Aaf C) ((Aaf C).length-1)
 have h2:=Af7 C
 unfold Adv
 omega
theorem Aml (X:List SpV) (c:SpV):∀{ns:List ByteArray},c.nm∉ns→(ns.map fun nm=>((c::X).filter fun c=>decide (c.nm=nm)).length).sum=(ns.map fun nm=>(X.filter fun c=>decide (c.nm=nm)).length).sum
 |[],_=>rfl
 |a::ns,h=>by
  have ih:=Aml X c (ns:=ns) (fun q=>h (by simp [q]))
  have q:¬c.nm=a:=fun q=>h (by simp [q])
  rw [List.map_cons,List.map_cons,List.sum_cons,List.sum_cons,ih,List.filter_cons,if_neg (by simpa using q)]
theorem Aje (X:List SpV) (c:SpV):∀{ns:List ByteArray},ns.Nodup→(ns.map fun nm=>((c::X).filter fun c=>decide (c.nm=nm)).length).sum≤(ns.map fun nm=>(X.filter fun c=>decide (c.nm=nm)).length).sum+1
 |[],_=>by simp
 |a::ns,nd=>by
  have n2:=List.nodup_cons.1 nd
  rw [List.map_cons,List.map_cons,List.sum_cons,List.sum_cons]
  by_cases q:c.nm=a
  ·subst q
   rw [Aml X c n2.1,List.filter_cons,if_pos (by simp),List.length_cons]
   omega
  ·have ih:=Aje X c n2.2
   rw [List.filter_cons,if_neg (by simpa using q)]
   omega
theorem Ajf:∀(ns:List ByteArray),(ns.map fun nm=>(([]:List SpV).filter fun c=>decide (c.nm=nm)).length).sum=0
 |[]=>rfl
 |a::ns=>by rw [List.map_cons,List.sum_cons,Ajf ns];rfl
theorem Ajg:∀(X:List SpV) {ns:List ByteArray},ns.Nodup→(ns.map fun nm=>(X.filter fun c=>decide (c.nm=nm)).length).sum≤X.length
 |[],ns,_=>by rw [Ajf];exact Nat.le_refl _
 |c::X,ns,nd=>by
  have h1:=Aje X c nd
  have h2:=Ajg X nd
  rw [List.length_cons]
  omega
theorem Ah7 {E:List Elt} {L:List MkV} {ns:List ByteArray} (nd:ns.Nodup):(ns.flatMap fun nm=>Adv (cvN E L nm) nm (Aaf (cvN E L nm))).length≤2*L.length:=by
 have h1:=Ajg (cvL E L) nd
 have h2:(cvL E L).length≤L.length:=by
  unfold cvL
  have:=List.length_filter_le (fun c:SpV=>decide (c.fr<c.to)) (L.map (cvE E))
  simpa using this
 have h3:∀ns:List ByteArray,(ns.flatMap fun nm=>Adv (cvN E L nm) nm (Aaf (cvN E L nm))).length≤2*(ns.map fun nm=>((cvL E L).filter fun c=>decide (c.nm=nm)).length).sum:=fun ns=>by
  induction ns with
  |nil=>simp
  |cons a ns ih =>
   rw [List.flatMap_cons,List.length_append,List.map_cons,List.sum_cons]
   have:=Axj (cvN E L a) a
   have e:(cvN E L a).length=((cvL E L).filter fun c=>decide (c.nm=a)).length:=rfl
   omega
 have:=h3 ns
 omega
end
section
open Go.Shelf
def Ai0:Go.Shelf.Ren:=⟨fun |6=>82|15=>105|14=>104|28=>137|29=>138|20=>129|21=>130|22=>131|23=>132|24=>133|25=>134|26=>135|27=>136|46=>153|47=>154|48=>155|49=>156|50=>157|57=>173|n=>n,fun |22=>49|24=>65|25=>146|3=>3|39=>156|0=>0|53=>191|55=>123|4=>4|46=>185|45=>184|50=>161|5=>5|9=>9|66=>205|70=>209|76=>222|77=>140|n=>n,fun |n=>n⟩
theorem Alz:Go.Proofs.SlLaysF0.n6 prog Ai0:={
 mixed:=by kernel_rfl
 f6:=⟨Tryz.f82.name,by decide,func82.trans (congrArg some (by kernel_rfl))⟩
 f14:=⟨Tryz.f104.name,by decide,func104.trans (congrArg some (by kernel_rfl))⟩
 f15:=func105.trans (congrArg some (by kernel_rfl))
 f20:=⟨Tryz.f129.name,by decide,func129.trans (congrArg some (by kernel_rfl))⟩
 f21:=⟨Tryz.f130.name,by decide,func130.trans (congrArg some (by kernel_rfl))⟩
 f22:=⟨Tryz.f131.name,by decide,func131.trans (congrArg some (by kernel_rfl))⟩
 f23:=⟨Tryz.f132.name,by decide,func132.trans (congrArg some (by kernel_rfl))⟩
 f24:=⟨Tryz.f133.name,by decide,func133.trans (congrArg some (by kernel_rfl))⟩
 f25:=⟨Tryz.f134.name,by decide,func134.trans (congrArg some (by kernel_rfl))⟩
 f26:=⟨Tryz.f135.name,by decide,func135.trans (congrArg some (by kernel_rfl))⟩
 f27:=⟨Tryz.f136.name,by decide,func136.trans (congrArg some (by kernel_rfl))⟩
 f28:=func137.trans (congrArg some (by kernel_rfl))
 f29:=func138.trans (congrArg some (by kernel_rfl))
 f46:=⟨Tryz.f153.name,by decide,func153.trans (congrArg some (by kernel_rfl))⟩
 f47:=func154.trans (congrArg some (by kernel_rfl))
 f48:=func155.trans (congrArg some (by kernel_rfl))
 f49:=⟨Tryz.f156.name,by decide,func156.trans (congrArg some (by kernel_rfl))⟩
 f50:=⟨Tryz.f157.name,by decide,func157.trans (congrArg some (by kernel_rfl))⟩
 f57:=⟨Tryz.f173.name,by decide,func173.trans (congrArg some (by kernel_rfl))⟩
 t0:=underlying0
 a0:=Tryz.isAgg0
 z0:=Tryz.sizeOf0
 v0:=Tryz.zeroValue0
 t3:=underlying3
 a3:=Tryz.isAgg3
 z3:=Tryz.sizeOf3
 v3:=Tryz.zeroValue3
 t4:=underlying4
 a4:=Tryz.isAgg4
 z4:=Tryz.sizeOf4
 v4:=Tryz.zeroValue4
 t5:=underlying5
 a5:=Tryz.isAgg5
 z5:=Tryz.sizeOf5
 v5:=Tryz.zeroValue5
 t9:=underlying9
 a9:=Tryz.isAgg9
 z9:=Tryz.sizeOf9
 v9:=Tryz.zeroValue9
 t22:=underlying49
 a22:=Tryz.isAgg49
 z22:=Tryz.sizeOf49
 v22:=Tryz.zeroValue49
 t25:=underlying146
 a25:=Tryz.isAgg146
 z25:=Tryz.sizeOf146
 v25:=Tryz.zeroValue146
 t39:=underlying156
 a39:=Tryz.isAgg156
 z39:=Tryz.sizeOf156
 v39:=Tryz.zeroValue156
 t45:=underlying184
 a45:=Tryz.isAgg184
 z45:=Tryz.sizeOf184
 v45:=Tryz.zeroValue184
 t46:=underlying185
 a46:=Tryz.isAgg185
 z46:=Tryz.sizeOf185
 v46:=Tryz.zeroValue185
 t50:=underlying161
 a50:=Tryz.isAgg161
 z50:=Tryz.sizeOf161
 v50:=Tryz.zeroValue161
 t53:=underlying191
 a53:=Tryz.isAgg191
 z53:=Tryz.sizeOf191
 v53:=Tryz.zeroValue191
 t55:=underlying123
 a55:=Tryz.isAgg123
 z55:=Tryz.sizeOf123
 v55:=Tryz.zeroValue123
 t66:=underlying205
 a66:=Tryz.isAgg205
 z66:=Tryz.sizeOf205
 v66:=Tryz.zeroValue205
 t70:=underlying209
 a70:=Tryz.isAgg209
 z70:=Tryz.sizeOf209
 v70:=Tryz.zeroValue209
 t76:=underlying222
 a76:=Tryz.isAgg222
 z76:=Tryz.sizeOf222
 v76:=Tryz.zeroValue222
 t77:=underlying140
 a77:=Tryz.isAgg140
 z77:=Tryz.sizeOf140
 v77:=Tryz.zeroValue140}
end
section
open Go.RowKit Go.Shelf
theorem TO.refl {α:Type} {c:α→α→Int} (h:TO c) (a:α):c a a=0:=by have:=h.anti a a;omega
theorem TO.swo {α:Type} {c:α→α→Int} (h:TO c):Go.Sort.SWO (ltOf c):={
 irrefl:=fun x=>by unfold ltOf;rw [h.refl];rfl
 trans:=fun x y z h1 h2=>by
  unfold ltOf at *
  rw [decide_eq_true_eq] at *
  exact h.lt x y z (by omega) (by omega) (Or.inl h1)
 ntrans:=fun x y z h1 h2=>by
  unfold ltOf at *
  rw [decide_eq_false_iff_not] at *
  have e1:=h.anti x y
  have e2:=h.anti y z
  have e3:=h.anti x z
  have:=h.le z y x (by omega) (by omega)
  omega}
theorem A3k {w w':World} (h:Go.RowKit.Below w.heap.size w w') (hd:w.drawn≤w'.drawn):∃q os,w'=Go.Sort.grow (w.drewN q) os:=by
 refine ⟨w'.drawn-w.drawn,w'.heap.extract w.heap.size w'.heap.size, ?_⟩
 have e1:w.heap++w'.heap.extract w.heap.size w'.heap.size=w'.heap:=by
  apply Array.ext_getElem?
  intro i
  rw [Array.getElem?_append]
  split
  ·next hi=>exact (h.block i hi).symm
  ·next hi =>
   rw [Array.getElem?_extract]
   split
   ·rw [show w.heap.size+(i-w.heap.size)=i by omega]
   ·next hj=>rw [Array.getElem?_eq_none (by omega)]
 have e2:w.drawn+(w'.drawn-w.drawn)=w'.drawn:=by omega
 have h1:=h.os
 have h2:=h.tape
 have h3:=h.output
 cases w' with
 |mk hp tp dr oo ou =>
  simp only at *
  unfold Go.Sort.grow World.drewN
  simp only [e1,e2,h1,h2,h3]
theorem Ajx {L:List SpV} (ok:∀x∈L,x.ok) {i:Nat} {h:SpV} (hi:L[i]? =some h) {j:Nat} {v:Value} (hj:h.c[j]? =some v):(RSp.flat L)[7*i+j]? =some v:=Aae.flat_get Aam ok hi hj
theorem Ate {L:List SpV} (ok:∀x∈L,x.ok):(RSp.flat L).length=7*L.length:=Aae.flat_len Aam ok
section
variable [Inhabited SpV]
theorem Az2 (blk off size:Nat) (w:World):CmpLays prog 83 #[] SpV.c 7 cSp blk off size w :=
 fun m os dk hdk x y=>(Avh x y _).mono fun e w' ⟨he,hb,hd⟩=>⟨he,A3k hb hd⟩
theorem Ape {w:World} {g:Nat} {cur:Array Value} {L:List SpV} (ok:∀x∈L,x.ok) (hg:w.heap[g]? =some (.cells cur 65 (0,0))) (ht:cur.toList.take (L.length*7)=RSp.flat L):Go.Sort.HoldsK SpV.c 7 w g 0 L.toArray:=fun j hj=>by
 rw [Go.Sort.size_flatK] at hj
 simp only [List.size_toArray] at hj
 have hi:j / 7<L.length:=by omega
 have hx:L[j / 7]? =some L[j / 7]:=List.getElem?_eq_getElem hi
 have hlen:=SpV.len L[j / 7]
 have hc:(SpV.c L[j / 7])[j % 7]? =some ((SpV.c L[j / 7])[j % 7]'(by omega)):=List.getElem?_eq_getElem _
 have hf:=Ajx ok hx hc
 rw [show 7*(j / 7)+j % 7=j by omega, ←ht,List.getElem?_take,if_pos (by omega)] at hf
 rw [Go.Sort.get_flatK _ _ _ _ (by simpa using hj)]
 have e:L.toArray[j / 7]! =L[j / 7]:=by simp [hi]
 rw [Nat.zero_add]
 refine ⟨?_, ?_⟩
 ·rw [cell_of_row w g j cur 65 (0,0) hg,e]
  rw [getElem!_pos (SpV.c L[j / 7]) (j % 7) (by omega)]
  simpa using hf
 ·simp [World.frozen?,hg]
theorem Ao4 {w:World} {g:Nat} {cur:Array Value} {L:List SpV} (ok:∀x∈L,x.ok) (hg:w.heap[g]? =some (.cells cur 65 (0,0))) (hn:L.length*7≤cur.size) (h:Go.Sort.HoldsK SpV.c 7 w g 0 L.toArray):cur.toList.take (L.length*7)=RSp.flat L:=by
 have hfl:=Ate ok
 apply List.ext_getElem?
 intro p
 rw [List.getElem?_take]
 split
 ·next hp =>
  have hi:p / 7<L.length:=by omega
  have hx:L[p / 7]? =some L[p / 7]:=List.getElem?_eq_getElem hi
  have hlen:=SpV.len L[p / 7]
  have hc:(SpV.c L[p / 7])[p % 7]? =some ((SpV.c L[p / 7])[p % 7]'(by omega)):=List.getElem?_eq_getElem _
  have hf:=Ajx ok hx hc
  rw [show 7*(p / 7)+p % 7=p by omega] at hf
  rw [hf]
  have h1:=(h p (by rw [Go.Sort.size_flatK];simpa using hp)).1
  rw [Go.Sort.get_flatK _ _ _ _ (by simpa using hp),Nat.zero_add,cell_of_row w g p cur 65 (0,0) hg] at h1
  have e:L.toArray[p / 7]! =L[p / 7]:=by simp [hi]
  rw [e,getElem!_pos (SpV.c L[p / 7]) (p % 7) (by omega)] at h1
  simpa using h1
 ·next hp=>rw [List.getElem?_eq_none (by omega)]
theorem Aiz {w:World} {g n:Nat} {os:Array Obj} (d:Array SpV) {cur:Array Value} (hg:w.heap[g]? =some (.cells cur 65 (0,0))):∃cur',(sortWorldK SpV.c 7 w g 0 n d os).heap[g]? =some (.cells cur' 65 (0,0))∧cur'.size=cur.size:=by
 have hlt:=(Array.getElem?_eq_some_iff.1 hg).1
 have hv:=(Array.getElem?_eq_some_iff.1 hg).2
 refine ⟨Go.Sort.putCells id 0 (Go.Sort.flatK SpV.c 7 d) cur, ?_, ?_⟩
 ·simp only [sortWorldK,Go.Sort.grow,Go.Sort.putRowK,Go.Sort.putRow,Go.Sort.mapBlock,Go.Sort.ahead]
  rw [Array.getElem?_append_left (by simpa using hlt),Array.getElem?_modify,if_pos rfl,hg]
  rfl
 ·simp [Go.Sort.putCells]
theorem Aor {w:World} {g n:Nat} {os:Array Obj} (d:Array SpV) (hg:g<w.heap.size):Tch (fun j=>some g=some j) w (sortWorldK SpV.c 7 w g 0 n d os):=by
 refine ⟨rfl,rfl,rfl,by simp [sortWorldK,Go.Sort.grow,Go.Sort.putRowK,Go.Sort.putRow,Go.Sort.mapBlock,Go.Sort.ahead],fun k hk hn=> ?_⟩
 have hne:g≠k:=fun e=>hn (by rw [e])
 simp [sortWorldK,Go.Sort.grow,Go.Sort.putRowK,Go.Sort.putRow,Go.Sort.mapBlock,Go.Sort.ahead,Array.getElem?_append,Array.getElem?_modify,Array.getElem_modify,hk,hne]
theorem Aqh (W:World) (base:Nat) (v:Value) (L:List SpV) (own:RSp.Lo W base v L) (ok:∀x∈L,x.ok) (hL:L.length≤2000000000000):Calls prog 82 #[v, .func (.func 83) #[] #[]] W (A64 W base v L):=by
 rcases own with ⟨rfl,rfl⟩|⟨g,cap,cur,rfl,hbg,hg,hnc,hcm,hcs,htake⟩
 ·have h:=AnyF.slices_SortFunc_none Alz none 0 (.func (.func 83) #[] #[]) W
  refine h.mono ?_
  rintro e w' ⟨he,rfl⟩
  exact ⟨he,[],List.Perm.refl _,List.Pairwise.nil, .inl ⟨rfl,rfl⟩,Tch.refl _ _⟩
 ·have eg:∀args w,(callFunc 83 args).run prog w= .ok (.enter 83 args) w:=enters_of func83 (by kernel_rfl) rfl
  have hlt:=(Array.getElem?_eq_some_iff.1 hg).1
  have hH:=Ape ok hg htake
  have h:=AnyQ.slices_SortFunc Alz 7 Tryz.isAgg65 Tryz.sizeOf65 SpV.c SpV.len SpV.one cSp Ag6.swo 83 #[] g 0 cap L.toArray W eg (Az2 g 0 _ W) hH hlt (by simp;omega)
  change Calls prog 82 _ _ _ at h
  simp only [List.size_toArray] at h
  refine h.mono ?_
  rintro e w' ⟨he,d',n,os,hp,hsrt,rfl⟩
  have hsz:d'.size=L.length:=by simpa using hp.1
  have hperm:d'.toList.Perm L:=by
   have:=hp.2.2
   rw [←hsz,Array.extract_size] at this
   have e2:L.toArray.extract 0 d'.size=L.toArray:=by rw [hsz];simp
   rw [e2] at this
   simpa using this
  have ok':∀x∈d'.toList,x.ok:=fun x hx=>ok x (hperm.mem_iff.1 hx)
  have hh:=holdsK_sortWorldK SpV.c 7 W g 0 n L.toArray d' os hlt hH (by simpa using hsz)
  obtain ⟨cur',hg',hs'⟩:=Aiz (n:=n) (os:=os) d' hg
  have hlen:d'.toList.length=L.length:=by simpa using hsz
  refine ⟨he,d'.toList,hperm, ?_,Or.inr ⟨g,cap,cur',by rw [hlen],hbg,hg',by rw [hlen];exact hnc,hcm,by rw [hs'];exact hcs, ?_⟩,Aor d' hlt⟩
  ·unfold SdS
   rw [List.pairwise_iff_getElem]
   intro i j hi hj hij
   have hlt:=hsrt i j (by omega) hij (by rw [←hsz];simpa using hj)
   rw [getElem!_pos d' i (by simpa using hi),getElem!_pos d' j (by simpa using hj)] at hlt
   unfold ltOf at hlt
   rw [decide_eq_false_iff_not] at hlt
   have:=Ag6.anti d'[i] d'[j]
   simp only [Array.getElem_toList]
   omega
  ·exact Ao4 ok' hg' (by rw [hlen,hs'];exact Nat.le_trans (Nat.mul_le_mul_right _ hnc) hcs) (by simpa using hh)
end
theorem Aqi (W:World) (base:Nat) (v:Value) (L:List SpV) (own:RSp.Lo W base v L) (ok:∀x∈L,x.ok) (hL:L.length≤2000000000000):Calls prog 82 #[v, .func (.func 83) #[] #[]] W (A64 W base v L):= @Aqh ⟨Akg⟩ W base v L own ok hL
theorem Ag8 (W:World) (base:Nat) (v:Value) (L:List SpV) (own:RSp.Lo W base v L) (ok:∀x∈L,x.ok) (hL:L.length≤2000000000000):Calls prog 57 #[v] W (A64 W base v L):=by
 have H:=Aaa (Aqi W base v L own ok hL)
 clear own ok hL
 go_enter func57,ntmps57
 go_wp2_with (go_at_call 82;refine H.out.mono ?_;rintro e w' ⟨rfl,q⟩)
 go_end0
 exact ⟨rfl,q⟩
end
section
open Go.RowKit Sq
def spL (f t:Int) (C:List MkV):List SpV:=(C.filter fun x=>decide (x.v.k≠0)).map fun x=>⟨f,t,x.nm,x.v⟩
def ovL (E:List Elt) (L:List MkV) (k:IdK):List SpV:=spL (Aem E (Aac E false k)) (Aem E (Aac E false k+1)) (Agw E L (Aac E false k))
theorem Aw8 (f t:Int) {C:List MkV} {i:Nat} {x:MkV} (hx:C[i]? =some x):spL f t (C.take (i+1))=spL f t (C.take i)++(if decide (x.v.k≠0)=true then [⟨f,t,x.nm,x.v⟩] else []):=by
 unfold spL
 rw [List.take_add_one,hx,List.filter_append,List.map_append]
 congr 1
 by_cases e:decide (x.v.k≠0)=true
 ·have e':¬x.v.k=0:=of_decide_eq_true e
  rw [if_pos e];simp [List.filter_cons,e']
 ·have e':x.v.k=0:=Decidable.byContradiction fun q=>e (decide_eq_true q)
  rw [if_neg e];simp [List.filter_cons,e']
theorem A0v {f t:Int} {C:List MkV} (hf: -9223372036854775808≤f∧f≤9223372036854775807) (ht: -9223372036854775808≤t∧t≤9223372036854775807) (ok:∀x∈C,x.ok):∀y∈spL f t C,y.ok:=fun y hy=>by
 obtain ⟨x,hx,rfl⟩:=List.mem_map.1 hy
 have:=ok x (List.mem_filter.1 hx).1
 exact ⟨hf.1,hf.2,ht.1,ht.2,this.nm,this.v⟩
theorem Aqf (f t:Int) (C:List MkV):(spL f t C).length≤C.length:=by
 unfold spL
 rw [List.length_map]
 exact List.length_filter_le _ _
theorem A1d (E:List Elt) (r:Int): -1≤Aem E r∧Aem E r≤(E.length:Int):=by
 unfold Aem
 split
 ·exact Aga _ _ _
 ·have:=List.length_filter_le (cE true) E
  unfold Adg
  omega
theorem An4 (E:List Elt) (L:List MkV) (r:Int):(Agw E L r).length≤L.length:=by
 have:=Aih (E:=E) (r:=r) L.reverse []
 simpa [Agw] using this
structure VB where
 v:Value
abbrev A6y:Prop:=∀(W:World) (base:Nat) (v:Value) (L:List SpV),RSp.Lo W base v L→(∀x∈L,x.ok)→L.length≤2000000000000→Calls prog 57 #[v] W (A64 W base v L)
section
variable {w:World} {s:Sx} {E:List Elt} {base:Nat} {m:Mx}
def OvP (w:World) (E:List Elt) (m:Mx) (k:IdK) (e:Ending) (w':World):Prop:=∃v S,e= .returned v∧RSp.Lo w' w.heap.size v S∧(if Abg E k=true then S.Perm (ovL E m.L k)∧SdS S else S=[])∧Below w.heap.size w w'
set_option maxHeartbeats 8000000 in
theorem A2q (HS:A6y) (h:Aak w s E) (hm:Acl w base m) {k:IdK} (hk:k.ok):Calls prog 23 #[(pZ m.mb 0), (pZ s.sb 0),k.v] w (OvP w E m k):=by
 have b0:Below w.heap.size w (w.alloc (.cells k.c.toArray 36)):=(Below.refl _ _).alloc (Nat.le_refl _) _
 have i0:Aaz (w.alloc (.cells k.c.toArray 36)) w.heap.size k:=heap_alloc_new _ _
 obtain ⟨W,hW⟩:∃W,w.alloc (.cells k.c.toArray 36)=W:=⟨_,rfl⟩
 rw [hW] at b0 i0
 have hfew:=h.few
 have HH:=Aaa (fun (X:World) (b:Below w.heap.size w X)=>h.below b)
 have HM:=Aaa (fun (X:World) (b:Below w.heap.size w X)=>hm.below b)
 have HW:=Aaa hW
 have HN:=Aaa hm.n
 have OK:=Aaa hm.ok
 have BD:=Aaa (Aga E false k)
 clear hW h hm
 unfold IdK.v
 go_enter func23,ntmps23
 go_upto_region 1 with fail
 rw [HW.out]
 clear HW
 obtain ⟨q,hq⟩:∃q,Abg E k=q:=⟨_,rfl⟩
 refine A9g (mb:=m.mb) (sb:=s.sb) (ib:=w.heap.size) (k:=k) (q:=q) (fun X=>Below W.heap.size W X) _ W _ rfl rfl rfl rfl (fun X e=>by rw [e];exact Aah hk i0) ((Ah6 (HH.out W b0) hk).mono (fun e X ⟨h1,h2⟩=>⟨by rw [h1,hq],h2⟩)) ?_
 intro a' W1 b1 ha
 subst ha
 simp only [Act.put,qsA,qsB,qsC]
 have b01:=b0.trans (b1.mono b0.size)
 cases q with
 |false =>
  have HB:=Aaa b01
  have HQ:=Aaa hq
  clear b01 b1 b0 i0 hq
  simp only [Bool.not_false]
  go_wp2
  go_ret
  exact ⟨_,[],rfl,Aae.lo_nil RSp _ _,by rw [HQ.out];rfl,HB.out⟩
 |true =>
  simp only [Bool.not_true]
  have i1:Aaz W1 w.heap.size k:=i0.below b1
  have HQ:=Aaa hq
  have HB1:=Aaa b01
  clear b01 b1 b0 i0 hq
  go_upto_region 3 with fail
  refine En.zqc tab rfl (En.st (((show ∀W,W=W1→(Instr.loadAt 36 (pZ w.heap.size 0)).run prog W= .ok (k.v) W from (fun X e=>by rw [e];exact Aah hk i1)) _ rfl)) (En.ca ((show Calls prog 54 #[(pZ s.sb 0),k.v] W1 fun e w'=>e= .returned (.int .i64 (Aac E false k))∧(fun X=>Below W1.heap.size W1 X) w' from (Amb (HH.out W1 HB1.out) hk))) ?_))
  rintro _ W2_ ⟨rfl,HF⟩
  refine ⟨_,rfl,En.fi ?_⟩
  intro a' W2 b20 ha
  have b2:=HF
  obtain rfl:W2=W2_:=b20
  subst ha
  simp only [En.pM,En.pU,Act.put,qsA,qsB,qsC]
  have HB2:=Aaa (HB1.out.trans (b2.mono HB1.out.size))
  clear b2 i1
  have hrk:=BD.out
  have f2: -9223372036854775808≤Aac E false k+1∧Aac E false k+1≤9223372036854775807:=by omega
  have FT:=Aaa (And.intro (A1d E (Aac E false k)) (A1d E (Aac E false k+1)))
  go_upto_region 4 with fail
  refine En.zqc tab rfl (En.ca ((show Calls prog 55 #[(pZ s.sb 0), .int .i64 (Aac E false k)] W2 fun e w1=>e= .returned (.int .i64 (Aem E (Aac E false k)))∧Calls prog 55 #[(pZ s.sb 0), .int .i64 ((Aac E false k)+1)] w1 fun e w'=>e= .returned (.int .i64 (Aem E (Aac E false k+1)))∧(fun X=>Below w.heap.size w X) w' from ((Adz (HH.out W2 HB2.out) (by omega)).mono ?_))) ?_)
  ·rintro e X ⟨rfl,b3⟩
   have b3':=HB2.out.trans (b3.mono HB2.out.size)
   refine ⟨rfl,(Adz (HH.out X b3') f2).mono ?_⟩
   rintro e Y ⟨rfl,b4⟩
   exact ⟨rfl,b3'.trans (b4.mono b3'.size)⟩
  rintro _ W3_ ⟨rfl,CJ⟩
  refine ⟨_,rfl,En.ar (En.wI (f2)) (En.ca (CJ) ?_)⟩
  rintro _ W3_ ⟨rfl,HF⟩
  refine ⟨_,rfl,En.fi ?_⟩
  intro a' W3 b30 ha
  have b3:=HF
  obtain rfl:W3=W3_:=b30
  subst ha
  simp only [En.pM,En.pU,Act.put,qsA,qsB,qsC]
  have HB3:=Aaa b3
  clear b3 HB1 HB2 f2 hrk
  go_upto_region 6 with fail
  refine A9f (mb:=m.mb) (sb:=s.sb) (rk:=Aac E false k) (fun la n c X=>n=(Agw E m.L (Aac E false k)).length∧RM.At X la (Agw E m.L (Aac E false k))∧Below w.heap.size w X) _ W3 _ rfl rfl rfl rfl ((Aj3 (HH.out W3 HB3.out) (HM.out W3 HB3.out) (Aac E false k)).mono ?_) ?_
  ·rintro e X ⟨v,rfl,lo,b4⟩
   have okc:∀y∈Agw E m.L (Aac E false k),y.ok:=fun y hy=>by
        rcases Ae2 hy with hy|hy
        ·cases hy
        ·exact (OK.out y (List.mem_reverse.1 hy)).1
   obtain ⟨la,c,rfl,hat,_⟩:=lo.open Acs okc
   exact ⟨la,_,c,rfl,rfl,hat,HB3.out.trans (b4.mono HB3.out.size)⟩
  intro la n c a' W4 hf ha
  subst ha
  simp only [Act.put,qsA,qsB,qsC]
  obtain ⟨hn,hat,b4⟩:=hf
  have okc:∀y∈Agw E m.L (Aac E false k),y.ok:=fun y hy=>by
   rcases Ae2 hy with hy|hy
   ·cases hy
   ·exact (OK.out y (List.mem_reverse.1 hy)).1
  have lc:=An4 E m.L (Aac E false k)
  have hn9:n≤900000000000:=by rw [hn];have:=HN.out;omega
  have HV:Hid (ovL E m.L k=spL (Aem E (Aac E false k)) (Aem E (Aac E false k+1)) (Agw E m.L (Aac E false k))):=rfl
  have HF:Hid (-9223372036854775808≤Aem E (Aac E false k)∧Aem E (Aac E false k)≤9223372036854775807):=by have:=FT.out;exact ⟨by omega,by omega⟩
  have HT:Hid (-9223372036854775808≤Aem E (Aac E false k+1)∧Aem E (Aac E false k+1)≤9223372036854775807):=by have:=FT.out;exact ⟨by omega,by omega⟩
  have HC:=Aaa okc
  have HA:=Aaa hat
  have HB4:=Aaa b4
  have HL:=Aaa hn
  clear hat b4 okc lc HB3 FT BD HN OK HM HH hn hfew
  generalize Aem E (Aac E false k)=f at *
  generalize Aem E (Aac E false k+1)=t at *
  generalize Agw E m.L (Aac E false k)=C at *
  generalize Aac E false k=rk at *
  go_wp2
  go_loopw [10,36] (fun v10 v36 wr=> ∃(j:Nat) (u:VB),v36= .int .i64 (j:Int)∧j≤n∧v10=u.v∧Hid (RSp.Lo wr W4.heap.size u.v (spL f t (C.take j))∧Below W4.heap.size W4 wr)) (fun _ v36 wr=>n-(match v36 with | .int _ i=>i.toNat|_=>0))
  case atStart=>exact ⟨0,⟨_⟩,rfl,Nat.zero_le _,rfl,by rw [List.take_zero];exact Aae.lo_nil RSp _ _,Below.refl _ _⟩
  case round =>
   obtain ⟨j,u,rfl,hjn,rfl,HI⟩:=hrel
   by_cases hj:j<n
   ·have hjl:j<C.length:=by rw [←HL.out];exact hj
    have hx:=List.getElem?_eq_getElem hjl
    obtain ⟨g,o,rfl,lg,hr⟩:=HA.out.get hjl
    have okx:=HC.out _ (List.getElem_mem hjl)
    obtain ⟨lo,bel4⟩:=HI.out
    have hr2:=Aar hr (bel4.block _ lg)
    have SN:=Aaa (Aw8 f t hx)
    generalize C[j]=x at *
    obtain ⟨bx,bb⟩:=Aae.bx_is RM wr x
    have ez:=Aae.bx_zero Acs wr
    have en:=Aae.bx_new Acs wr okx
    have ll:=Aae.ld Acs okx hr2
    obtain ⟨W5,hW5⟩:∃W5,wr.alloc (.cells (RM.c x).toArray RM.e)=W5:=⟨_,rfl⟩
    rw [hW5] at bx bb en
    go_upto_region 8 with fail
    refine En.zqc tab rfl (En.st ((Ays hj (by omega) _)) (En.st (ll) (En.ef (ez) (En.eu (en) (En.fi ?_)))))
    intro a' W6 hw ha
    obtain rfl:W5=W6:=hw.symm
    subst ha
    simp only [En.pM,En.pU,Act.put,qsA,qsB,qsC]
    have bel45:=bel4.trans (bb.mono bel4.size)
    have lo5:=lo.below bb
    have ck:=A5i okx bx.rng
    have lk:(Instr.loadAt 37 (pZ wr.heap.size (0+34+0))).run prog W5= .ok (.int .u8 x.v.k) W5:=by
        rw [Nat.add_zero]
        go_simp
    obtain ⟨z,hz⟩:∃z,decide (x.v.k≠0)=z:=⟨_,rfl⟩
    go_upto_region 9 with fail
    refine En.zqc tab rfl (En.st (lk) (En.cm (En.neB (hz)) (En.fi ?_)))
    intro a' W6 hw ha
    obtain rfl:W5=W6:=hw.symm
    subst ha
    simp only [En.pM,En.pU,Act.put,qsA,qsB,qsC]
    cases z with
    |false =>
     have NX:Hid (RSp.Lo W5 W4.heap.size u.v (spL f t (C.take (j+1)))∧Below W4.heap.size W4 W5):=⟨by rw [SN.out,hz,if_neg (by decide),List.append_nil];exact lo5,bel45⟩
     clear lo5 bel45 ck lk hz SN en ez ll bx bb hW5 lo bel4 hr hr2 HI
     go_wp2
     rw [show ((j:Int)+1)=((j+1:Nat):Int) by omega]
     refine ⟨⟨j+1,u,rfl,hj,rfl,NX⟩, ?_⟩
     show n-((j+1:Nat):Int).toNat<n-(j:Int).toNat
     omega
    |true =>
     have okp:∀y∈spL f t (C.take j),y.ok:=A0v HF.out HT.out (fun y hy=>HC.out y (List.mem_of_mem_take hy))
     have lnp:(spL f t (C.take j)).length≤n:=by
      have:=Aqf f t (C.take j)
      have:=HL.out
      rw [List.length_take] at *
      omega
     have okn:RSp.ok ⟨f,t,x.nm,x.v⟩:=(show SpV.ok _ from ⟨HF.out.1,HF.out.2,HT.out.1,HT.out.2,okx.nm,okx.v⟩)
     obtain ⟨sv,w1,v',w2,e1,e2,lo2,bl1,z1,gr,qo,_⟩:=Aae.lo_push Aam W5 W4.heap.size u.v (spL f t (C.take j)) okp ⟨f,t,x.nm,x.v⟩ lo5 okn (by unfold maxLen;omega) (by show _*72≤_;omega) bel45.size
     have b41:Below W4.heap.size W4 w1:=bel45.trans (bl1.mono bel45.size)
     have b42:Below W4.heap.size W4 w2:=b41.grown gr b41.size (fun k hk=>((lo5.below bl1).cells hk).1)
     have NX:Hid (RSp.Lo w2 W4.heap.size v' (spL f t (C.take (j+1)))∧Below W4.heap.size W4 w2):=⟨by rw [SN.out,hz,if_pos rfl];exact lo2,b42⟩
     have ln:=Ah2 okx bx.rng
     have lv:=A7o okx bx.rng
     clear lo5 bel45 ck lk hz SN en ez ll bx bb hW5 lo bel4 hr hr2 HI b42 b41 lo2 bl1 gr qo okp okn lnp
     go_upto_region 10 with fail
     refine En.zqc tab rfl (En.st (ln) (En.st (lv) (En.st ((Ab2 _ _ _ _ _)) (En.ef (e1) (En.ef (e2) (En.fi ?_))))))
     intro a' W6 hw ha
     obtain rfl:w2=W6:=hw.symm
     subst ha
     simp only [En.pM,En.pU,Act.put,qsA,qsB,qsC]
     clear e1 e2 ln lv
     go_wp2
     rw [show ((j:Int)+1)=((j+1:Nat):Int) by omega]
     refine ⟨⟨j+1,⟨v'⟩,rfl,hj,rfl,NX⟩, ?_⟩
     show n-((j+1:Nat):Int).toNat<n-(j:Int).toNat
     omega
   ·obtain rfl:n=j:=by omega
    obtain ⟨lo,bel4⟩:=HI.out
    rw [List.take_of_length_le (Nat.le_of_eq HL.out.symm)] at lo
    have bel:=HB4.out.trans (bel4.mono HB4.out.size)
    replace lo:=lo.mono HB4.out.size
    have SO:=Aaa (HS wr w.heap.size u.v (spL f t C) lo (A0v HF.out HT.out HC.out) (by have:=Aqf f t C;have:=HL.out;omega))
    have LO:=Aaa lo
    have BE:=Aaa bel
    clear lo bel bel4 HI
    go_wp2_with (go_at_call 57;refine SO.out.mono ?_;rintro e W7 ⟨rfl,L',hp,hs,lo7,t7⟩)
    go_ret
    refine ⟨_,L',rfl,lo7,by rw [HQ.out,if_pos rfl,HV.out];exact ⟨hp,hs⟩, ?_⟩
    have bel:=BE.out
    exact ⟨t7.os.trans bel.os,t7.tape.trans bel.tape,t7.output.trans bel.output,Nat.le_trans bel.size t7.size,fun k hk=>(t7.block k (by have:=bel.size;omega) (fun e=>by have:=(LO.out.cells e).1;omega)).trans (bel.block k hk)⟩
end
theorem Ayc {w:World} {s:Sx} {E:List Elt} {base:Nat} {m:Mx} (h:Aak w s E) (hm:Acl w base m) {k:IdK} (hk:k.ok):Calls prog 23 #[(pZ m.mb 0), (pZ s.sb 0),k.v] w (OvP w E m k) :=
 A2q Ag8 h hm hk
def Mx.bl (m:Mx) (j:Nat):Prop:=j=m.mb∨j=m.ib∨m.lv.ownBlock=some j
theorem Mx.lt {w:World} {base:Nat} {m:Mx} (h:Acl w base m) {j:Nat} (hj:m.bl j):j<w.heap.size:=by
 rcases hj with rfl|rfl|hj
 ·exact (Array.getElem?_eq_some_iff.1 h.cell).1
 ·exact h.map.lt
 ·exact h.lo.lt hj
theorem Acl.keep {w w':World} {base:Nat} {m:Mx} (h:Acl w base m) (hk:∀j,m.bl j→w'.heap[j]? =w.heap[j]?):Acl w' base m :=
 ⟨(hk _ (.inl rfl)).trans h.cell,h.lo.keep (fun j hj=>hk j (.inr (.inr hj))),h.ok,h.map.below (hk _ (.inr (.inl rfl))),h.n⟩
structure Gr (w:World) (sb mb:Nat) (E:List Elt) (L:List MkV) (W:World):Prop where
 q:∃(s:Sx) (m:Mx),s.sb=sb∧m.mb=mb∧Aak W s E∧Acl W w.heap.size m∧m.L=L∧(∀j∈s.bl,w.heap.size≤j)∧(∀j,m.bl j→w.heap.size≤j)∧(∀j∈s.bl,¬m.bl j)
 bel:Below w.heap.size w W
section
variable {w W:World} {sb mb:Nat} {E:List Elt} {L:List MkV}
end
theorem Ayj (w:World):Calls prog 10 #[] w fun e w'=> ∃m:Mx,e= .returned (pZ m.mb 0)∧Acl w' w.heap.size m∧m.L=[]∧(∀j,m.bl j→w.heap.size≤j)∧Below w.heap.size w w':=by
 have hm:=M.MapAt.new w IdK.v IdK.ok
 have bm:Below w.heap.size w (w.alloc (.map #[] 0)):=(Below.refl _ _).alloc (Nat.le_refl _) _
 have zm:(w.alloc (.map #[] 0)).heap.size=w.heap.size+1:=by simp
 go_enter func10,ntmps10
 have MK:Hid (∀W:World,(Instr.makeMap 84 none).run prog W= .ok (.map (some W.heap.size)) (W.alloc (.map #[] 0))):=fun W=>by kernel_rfl
 go_wp2_with (first
  |(refine Add rfl (Aft rfl (MK.out _)) ?_)
  |fail)
 go_ret
 generalize w.alloc (.map #[] 0)=wm at *
 have hq:=heap_alloc_new wm (.cells #[.slice none 0 0, .map (some w.heap.size)] 87)
 have bq:Below wm.heap.size wm (wm.alloc (.cells #[.slice none 0 0, .map (some w.heap.size)] 87)):=(Below.refl _ _).alloc (Nat.le_refl _) _
 rw [zm] at hq bq
 refine ⟨⟨w.heap.size+1, .slice none 0 0,w.heap.size,[]⟩,rfl,⟨hq,Aae.lo_nil RM _ _,(fun x hx=>by cases hx),hm.below (bq.block _ (by show w.heap.size<_;omega)),by show (0:Nat)≤900000000000;omega⟩,rfl, ?_,bm.trans (bq.mono (by omega))⟩
 rintro j (rfl|rfl|hj)
 ·show _≤w.heap.size+1;omega
 ·exact Nat.le_refl _
 ·cases hj
end
namespace K
open Go.RowKit
namespace V
theorem right_nz {k n:Int} {f:Nat} {s:ByteArray} (h:rightV k n f s=true):f≠9223372036854775808:=by
 unfold rightV at h
 split at h
 ·unfold rightF finB at h
  simp at h
  omega
 ·have h0:f=0:=by
   split at h
   ·unfold rightT at h
    simp at h
    omega
   ·unfold rightB at h
    split at h
    ·simp at h;omega
    ·split at h
     ·simp at h;omega
     ·split at h
      ·simp at h;omega
      ·split at h
       ·simp at h;omega
       ·split at h
        ·simp at h;omega
        ·cases h
  omega
theorem fkey_inj {a b:Nat} (ha:a<18446744073709551616) (hb:b<18446744073709551616) (na:a≠9223372036854775808) (nb:b≠9223372036854775808) (h:fkey a=fkey b):a=b:=by
 unfold fkey at h
 rw [show (2:Nat)^63=9223372036854775808 from by decide] at h
 split at h <;>split at h <;>omega
end V
end K
section
open Go.RowKit Sq
def VaV.cmp (a b:VaV):Int:=K.V.cmpV a.k a.n a.f a.s b.k b.n b.f b.s
theorem Az0 {a b:VaV} (oa:a.ok) (ob:b.ok) (ra:a.right=true) (rb:b.right=true):a.cmp b=0↔a=b:=by
 unfold VaV.cmp K.V.cmpV
 unfold VaV.right at ra rb
 rw [if_pos ⟨ra,rb⟩]
 constructor
 ·intro h
  obtain ⟨h1,h2,h3,h4⟩:=K.V.or4_zero h
  have e3:=K.V.fkey_inj oa.ff ob.ff (K.V.right_nz ra) (K.V.right_nz rb) (Agy h3)
  have e1:=Agy h1
  have e2:=Agy h2
  have e4:=Avm h4
  cases a;cases b
  simp only at e1 e2 e3 e4
  subst e1 e2 e3 e4
  rfl
 ·rintro rfl
  have c0:∀x:Int,cI x x=0:=fun x=>by have:=A17.anti x x;omega
  have s0:∀x,cS x x=0:=fun x=>by have:=A4i.anti x x;omega
  rw [c0,c0,c0,s0]
  rfl
theorem Apn {a b:VaV} (oa:a.ok) (ob:b.ok) {w:World} (hT:K.V.Tabs w):Calls prog 114 #[a.v,b.v] w fun e w'=>e= .returned (.int .i64 (a.cmp b))∧Below w.heap.size w w' :=
 K.V.compare_any a.k a.n a.f a.s b.k b.n b.f b.s w oa.k0 oa.ff (Nat.le_trans oa.ss (by decide)) ob.k0 ob.ff (Nat.le_trans ob.ss (by decide)) hT
section
variable {W:World} {b o:Nat} {x:SpV}
theorem A4a (h:W.rangeAt b o x.c):(Instr.loadAt 40 (pZ b (o+3))).run prog W= .ok x.v.v W :=
 run_loadAt_mid (P:=prog) W b (o+3) 40 x.v.c _ (Ac9 (A:=[.int .i64 x.fr, .int .i64 x.to, .string x.nm]) (C:=[]) (by simpa [SpV.c] using h) rfl) underlying40 rfl (by rw [VaV.len];exact A39)
theorem A2d (h:W.rangeAt b o x.c):(Instr.loadAt 37 (pZ b (o+3+0))).run prog W= .ok (.int .u8 x.v.k) W:=by
 have hc:W.cell? ⟨b,o+3,none⟩=some (.int .u8 x.v.k):=h 3 _ rfl
 rw [Nat.add_zero]
 go_simp
end
theorem Ay3 {p q:SpV} (hp:p.ok) (hq:q.ok) (rp:p.v.right=true) (rq:q.v.right=true) {w:World} (hT:K.V.Tabs w):Calls prog 90 #[p.a,q.a] w fun e w'=>e= .returned (.bool (decide (p.to=q.fr∧p.v=q.v)))∧Below w.heap.size w w':=by
 obtain ⟨w1,hw1⟩:∃w1,w.alloc (.cells p.c.toArray 65)=w1:=⟨_,rfl⟩
 obtain ⟨w2,hw2⟩:∃w2,w1.alloc (.cells q.c.toArray 65)=w2:=⟨_,rfl⟩
 obtain ⟨p1,b1⟩:=Aae.bx_is RSp w p
 obtain ⟨q2,b2⟩:=Aae.bx_is RSp w1 q
 change RSp.Bx (w.alloc (.cells p.c.toArray 65)) _ _ at p1
 change Below _ _ (w.alloc (.cells p.c.toArray 65)) at b1
 change RSp.Bx (w1.alloc (.cells q.c.toArray 65)) _ _ at q2
 change Below _ _ (w1.alloc (.cells q.c.toArray 65)) at b2
 rw [hw1] at p1 b1
 rw [hw2] at q2 b2
 have p2:=p1.below b2
 have b02:=b1.trans (b2.mono b1.size)
 have z1:w1.heap.size=w.heap.size+1:=by rw [←hw1];simp
 rw [z1] at q2
 have L1:=Aaa (Ag0 p2)
 have L2:=Aaa (Aiy q2)
 have L3:=Aaa (A4a p2.rng)
 have L4:=Aaa (A4a q2.rng)
 have CC:=Aaa (Apn hp.v hq.v (hT.below b02))
 have CZ:=Aaa (Az0 hp.v hq.v rp rq)
 have HW:=Aaa (And.intro hw1 hw2)
 have B2:=Aaa b02
 obtain ⟨z,hz⟩:∃z,p.v.cmp q.v=z:=⟨_,rfl⟩
 rw [hz] at CC CZ
 obtain ⟨r,hr⟩:∃r,decide (p.to=q.fr∧p.v=q.v)=r:=⟨_,rfl⟩
 rw [hr]
 have HR:=Aaa hr
 clear hz hr p1 b1 p2 q2 b2 b02 z1 hp hq rp rq hT hw1 hw2
 show Calls prog 90 #[.agg p.c.toArray, .agg q.c.toArray] w _
 go_enter func90,ntmps90
 go_upto_region 1 with fail
 rw [HW.out.1,HW.out.2]
 cases hq:decide (p.to=q.fr) with
 |false =>
  refine En.zqc tab rfl (En.st (L1.out) (En.st (L2.out) (En.cm (c':=false) (hq) (En.fi ?_))))
  intro a' w3 hw ha
  obtain rfl:w2=w3:=hw.symm
  subst ha
  have e:r=false:=by rw [←HR.out];exact decide_eq_false (fun h=>of_decide_eq_false hq h.1)
  subst e
  simp only [En.pM,En.pU,Act.put,qsA,qsB,qsC]
  clear hq L1 L2 L3 L4 CC CZ
  go_wp2
  go_ret
  exact ⟨rfl,B2.out⟩
 |true =>
  have HQ:=Aaa hq
  refine A7y (ab:=w.heap.size) (bb:=w.heap.size+1) (z:=z) (r:=decide (z=0)) (fun W=>Below w2.heap.size w2 W) _ w2 _ rfl rfl rfl hq rfl L1.out L2.out L3.out L4.out CC.out ?_
  intro a' w3 hw ha
  subst ha
  have e:r=decide (z=0):=by
   rw [←HR.out,Bool.eq_iff_iff]
   simp only [decide_eq_true_eq]
   rw [CZ.out]
   exact ⟨fun h=>h.2,fun h=>⟨of_decide_eq_true HQ.out,h⟩⟩
  have HF:=Aaa hw
  have HE:=Aaa e
  clear hq hw e L1 L2 L3 L4 CC CZ
  generalize decide (z=0)=r2 at *
  simp only [Act.put,qsA,qsB,qsC]
  go_wp2
  go_ret
  exact ⟨by rw [HE.out];rfl,B2.out.trans (HF.out.mono B2.out.size)⟩
structure PcV where
 kv:Value
 hv:Value
 xv:Value
def zN (X:List Nat):List Int:=X.map fun (n:Nat)=>(n:Int)
theorem Ag2 (X:List Nat):(zN X).length=X.length:=by simp [zN]
theorem Ait {X:List Nat} {i x:Nat} (h:X[i]? =some x):(zN X)[i]? =some (x:Int):=by simp [zN,h]
theorem A4e (X:List Nat) (i x:Nat):(zN X).set i (x:Int)=zN (X.set i x):=by simp [zN,List.map_set]
structure Acj (w:World) (base pb:Nat) (P:PcV) (K H:List Int) (X:List Nat):Prop where
 cell:w.heap[pb]? =some (.cells #[P.kv,P.hv,P.xv] 152 (0,0))
 k:Ab0 w base P.kv K
 h:Ab0 w base P.hv H
 x:Ab0 w base P.xv (zN X)
 dk:∀j,P.kv.ownBlock=some j→P.hv.ownBlock≠some j∧P.xv.ownBlock≠some j
 dh:∀j,P.hv.ownBlock=some j→P.xv.ownBlock≠some j
 b:base≤pb
def PcV.bl (P:PcV) (pb j:Nat):Prop:=j=pb∨P.kv.ownBlock=some j∨P.hv.ownBlock=some j∨P.xv.ownBlock=some j
theorem A27 {w:World} {g i:Nat} {x:Int} (hc:w.cell? ⟨g,i,none⟩=some (iz x)):(Instr.loadAt 3 (pZ g i)).run prog w= .ok (.int .i64 x) w:=by
 have hc':w.cell? ⟨g,i,none⟩=some (.int .i64 x):=hc
 go_simp
section
variable {w w':World} {base pb:Nat} {P:PcV} {K H:List Int} {X:List Nat}
theorem Acj.keep (h:Acj w base pb P K H X) (hk:∀j,P.bl pb j→w'.heap[j]? =w.heap[j]?):Acj w' base pb P K H X :=
 ⟨(hk _ (.inl rfl)).trans h.cell,h.k.keep (fun j hj=>hk j (.inr (.inl hj))),h.h.keep (fun j hj=>hk j (.inr (.inr (.inl hj)))),h.x.keep (fun j hj=>hk j (.inr (.inr (.inr hj)))),h.dk,h.dh,h.b⟩
theorem Acj.lt (h:Acj w base pb P K H X) {j:Nat} (hj:P.bl pb j):j<w.heap.size:=by
 rcases hj with rfl|hj|hj|hj
 ·exact (Array.getElem?_eq_some_iff.1 h.cell).1
 ·exact h.k.lt hj
 ·exact h.h.lt hj
 ·exact h.x.lt hj
theorem Acj.below (h:Acj w base pb P K H X) (b:Below w.heap.size w w'):Acj w' base pb P K H X:=h.keep (fun j hj=>b.block j (h.lt hj))
theorem Acj.drew (h:Acj w base pb P K H X):Acj w.drew base pb P K H X:=h.keep (fun _ _=>rfl)
theorem Acj.ge (h:Acj w base pb P K H X) {j:Nat} (hj:P.bl pb j):base≤j:=by
 rcases hj with rfl|hj|hj|hj
 ·exact h.b
 ·exact (h.k.ge j hj).1
 ·exact (h.h.ge j hj).1
 ·exact (h.x.ge j hj).1
theorem Acj.npb (h:Acj w base pb P K H X):P.kv.ownBlock≠some pb∧P.hv.ownBlock≠some pb∧P.xv.ownBlock≠some pb:=by
 have no:∀{v:Value} {L:List Int},Ab0 w base v L→v.ownBlock≠some pb:=fun o e=>by
  obtain ⟨_,c,hc⟩:=o.ge pb e
  have:=Aag hc h.cell
  revert this;decide
 exact ⟨no h.k,no h.h,no h.x⟩
theorem Acj.ldk (h:Acj w base pb P K H X):(Instr.loadAt 150 (pZ pb (0+0))).run prog w= .ok P.kv w:=by
 obtain ⟨a,c,e,_⟩:=h.k.form
 have hc:w.cell? ⟨pb,0,none⟩=some (.slice a K.length c):=by rw [←e];exact (cell_of_row w pb 0 _ _ _ h.cell).trans rfl
 rw [e]
 go_simp
theorem Acj.ldh (h:Acj w base pb P K H X):(Instr.loadAt 150 (pZ pb (0+1))).run prog w= .ok P.hv w:=by
 obtain ⟨a,c,e,_⟩:=h.h.form
 have hc:w.cell? ⟨pb,1,none⟩=some (.slice a H.length c):=by rw [←e];exact (cell_of_row w pb 1 _ _ _ h.cell).trans rfl
 rw [e]
 go_simp
theorem Acj.ldx (h:Acj w base pb P K H X):(Instr.loadAt 150 (pZ pb (0+2))).run prog w= .ok P.xv w:=by
 obtain ⟨a,c,e,_⟩:=h.x.form
 have hc:w.cell? ⟨pb,2,none⟩=some (.slice a (zN X).length c):=by rw [←e];exact (cell_of_row w pb 2 _ _ _ h.cell).trans rfl
 rw [e]
 go_simp
theorem Acj.setx (h:Acj w base pb P K H X) {i:Nat} (hi:i<X.length) (x:Nat):∃g cap,P.xv= .slice (some ⟨g,0,none⟩) X.length cap∧(Instr.storeAt 3 (pZ g i) (.int .i64 (x:Int))).run prog w= .ok () (w.setCell ⟨g,i,none⟩ (.int .i64 (x:Int)))∧Acj (w.setCell ⟨g,i,none⟩ (.int .i64 (x:Int))) base pb P K H (X.set i x)∧Tch (fun j=>P.xv.ownBlock=some j) w (w.setCell ⟨g,i,none⟩ (.int .i64 (x:Int))):=by
 obtain ⟨g,cap,e,hg,es,o,t⟩:=h.x.set (i:=i) (by rw [Ag2];exact hi) (x:Int)
 rw [Ag2] at e
 rw [A4e] at o
 have ob:P.xv.ownBlock=some g:=by rw [e];rfl
 have kb:∀j,j<w.heap.size→P.xv.ownBlock≠some j→(w.setCell ⟨g,i,none⟩ (iz (x:Int))).heap[j]? =w.heap[j]? :=fun j hj hn=>t.block j hj hn
 refine ⟨g,cap,e,es,⟨(kb pb (h.lt (.inl rfl)) h.npb.2.2).trans h.cell,h.k.keep (fun j hj=>kb j (h.lt (.inr (.inl hj))) (h.dk j hj).2),h.h.keep (fun j hj=>kb j (h.lt (.inr (.inr (.inl hj)))) (h.dh j hj)),o,h.dk,h.dh,h.b⟩,t⟩
def OpI (w:World) (base pb:Nat) (P:PcV) (K H:List Int) (n s i:Nat) (W:World):Prop :=
 ∃X,Acj W base pb P K H X∧NX H X∧X.length=n∧s≤i∧i<n∧(∀b,s≤b→b<i→H[b]? ≠some (-1))∧Tch (fun j=>P.xv.ownBlock=some j) w W
theorem Ayf (h:Acj w base pb P K H X) (n:NX H X) {s:Nat} (hs:s<X.length) (hm:X.length≤9223372036854775807):Calls prog 113 #[(pZ pb 0), .int .i64 (s:Int)] w fun e w'=> ∃(r:Nat),e= .returned (.int .i64 (r:Int))∧∃X':List Nat,Acj w' base pb P K H X'∧NX H X'∧X'.length=X.length∧s≤r∧X'[r]? =some r∧(∀b,s≤b→b<r→H[b]? ≠some (-1))∧Tch (fun j=>P.xv.ownBlock=some j) w w':=by
 obtain ⟨m,hml⟩:∃m,X.length=m:=⟨_,rfl⟩
 rw [hml] at hm hs ⊢
 have I0:=Aaa (show OpI w base pb P K H m s s w from ⟨X,h,n,hml,Nat.le_refl _,hs,fun b h1 h2=>by omega,Tch.refl _ _⟩)
 have HM:=Aaa hm
 clear h n hml hs hm
 go_enter func113,ntmps113
 go_wp2
 go_loopw [1] (fun v1 wr=> ∃i:Nat,v1= .int .i64 (i:Int)∧i≤m∧Hid (OpI w base pb P K H m s i wr)) (fun v1 _=>m-(intOf v1).toNat)
 case atStart=>exact ⟨s,rfl,Nat.le_of_lt I0.out.choose_spec.2.2.2.2.1,I0⟩
 case round =>
  clear I0
  obtain ⟨i,rfl,him,HI⟩:=hrel
  obtain ⟨Y,hp,n,hl,h1,h2,hcl,t⟩:=HI.out
  obtain ⟨x,hx⟩:∃x,Y[i]? =some x:=⟨_,List.getElem?_eq_getElem (by omega)⟩
  have bd:=n.le i x hx
  have hxl:x<m:=by have:=n.len;omega
  obtain ⟨g,cap,ex,hg0,hg,hget,ob⟩:=hp.x.at (by intro e;have:=Ag2 Y;rw [e] at this;simp at this;omega)
  rw [Ag2,hl] at ex
  have LX:=hp.ldx
  rw [ex] at LX
  have LA:=A27 (hget i _ (Ait hx))
  obtain ⟨r,hr⟩:∃r,decide ((x:Int)≠(i:Int))=r:=⟨_,rfl⟩
  clear HI
  go_upto_region 1 with fail
  refine En.zqc tab rfl (En.st (LX) (En.st ((Awd h2 HM.out _)) (En.st (LA) (En.cm (En.neB (hr)) (En.fi ?_)))))
  intro a' w3 hw ha
  obtain rfl:wr=w3:=hw.symm
  subst ha
  simp only [En.pM,En.pU,Act.put,qsA,qsB,qsC]
  cases r with
  |false =>
   have e:x=i:=by have:=of_decide_eq_false hr;omega
   subst e
   have RES:=Aaa (And.intro hp (And.intro n (And.intro hl (And.intro h1 (And.intro hx (And.intro hcl t))))))
   clear hp n hl h1 hx hcl t LX LA hget ob ex hg hg0 hr bd
   go_wp2
   go_ret
   obtain ⟨q1,q2,q3,q4,q5,q6,q7⟩:=RES.out
   exact ⟨x,rfl,Y,q1,q2,q3,q4,q5,q6,q7⟩
  |true =>
   have hne:x≠i:=by have:=of_decide_eq_true hr;omega
   obtain ⟨y,hy⟩:∃y,Y[x]? =some y:=⟨_,List.getElem?_eq_getElem (by omega)⟩
   have by':=n.le x y hy
   have hyl:y<m:=by have:=n.len;omega
   have LY:=A27 (hget x _ (Ait hy))
   obtain ⟨g2,cap2,e2,es,hp2,t2⟩:=(hp.drew).setx (i:=i) (by omega) y
   rw [hl,ex] at e2
   injection e2 with e3 _ e4
   injection e3 with e3
   injection e3 with e3
   subst e3
   subst e4
   obtain ⟨w2,hw2⟩:∃w2,wr.drew.setCell ⟨g,i,none⟩ (.int .i64 (y:Int))=w2:=⟨_,rfl⟩
   rw [hw2] at es hp2 t2
   have n2:=n.half hx hy hne
   have NI:OpI w base pb P K H m s y w2:=⟨_,hp2,n2,by simp [hl],by omega,hyl,fun b q1 q2=>by
        by_cases c1:b<i
        ·exact hcl b q1 c1
        ·by_cases c2:b<x
         ·exact n.cl i x b hx (by omega) c2
         ·exact n.cl x y b hy (by omega) q2,(t.trans (Tch.refl _ _).drew).trans t2⟩
   have LX2:=hp2.ldx
   rw [ex] at LX2
   have LA2:(Instr.loadAt 3 (pZ g i)).run prog w2= .ok (.int .i64 (y:Int)) w2:=by
        obtain ⟨g3,cap3,ex3,_,_,hget3,_⟩:=hp2.x.at (by intro e;have:=Ag2 (Y.set i y);rw [e] at this;simp at this;omega)
        rw [ex] at ex3
        injection ex3 with e5
        injection e5 with e5
        injection e5 with e5
        subst e5
        exact A27 (hget3 i _ (Ait (by rw [List.getElem?_set_self (by omega)])))
   have NI2:=Aaa NI
   have lx:∀W,W=wr.drew→(Instr.loadAt 150 (pZ pb (0+2))).run prog W= .ok (.slice (some ⟨g,0,none⟩) m cap) W:=fun W e=>by
        have:=hp.drew.ldx
        rw [ex] at this
        rw [e];exact this
   have gd:=hget
   have la:∀W,W=wr.drew→(Instr.loadAt 3 (pZ g i)).run prog W= .ok (.int .i64 (x:Int)) W:=fun W e=>by rw [e];exact A27 (gd i _ (Ait hx))
   have ly:∀W,W=wr.drew→(Instr.loadAt 3 (pZ g x)).run prog W= .ok (.int .i64 (y:Int)) W:=fun W e=>by rw [e];exact A27 (gd x _ (Ait hy))
   have HB:=Aaa (And.intro hxl (And.intro hyl (And.intro bd (And.intro by' hne))))
   have MS:m-(((y:Nat):Int)).toNat<m-((i:Nat):Int).toNat:=by
        simp only [Int.toNat_natCast];omega
   clear hp n hl h1 hcl t LX LA LY hget gd ob ex hg hg0 hr bd by' hne NI hp2 t2 n2 hw2 hx hy
   go_upto_region 2 with fail
   refine En.zyc tab [0,1,2,3,4,5,6,7,8,9,10,11,12,13,14,15,16,17,18,19] 19 (fun w'=>w'=(World.drew wr)) (hS:=(rfl)) (h:=En.sty (fun Xw Xh=>(lx _ Xh)) (En.sty (fun Xw Xh=>(lx _ Xh)) (En.sty (fun Xw Xh=>(lx _ Xh)) (En.sty (fun Xw Xh=>(Awd h2 HM.out _)) (En.sty (fun Xw Xh=>(la _ Xh)) (En.sty (fun Xw Xh=>(Awd HB.out.1 HM.out _)) (En.sty (fun Xw Xh=>(ly _ Xh)) (En.sty (fun Xw Xh=>(Awd h2 HM.out _)) (En.eu (es) (En.fi ?_))))))))))
   intro a' w3 hw ha
   obtain rfl:w2=w3:=hw.symm
   subst ha
   simp only [En.pM,En.pU,Act.put,qsA,qsB,qsC]
   clear lx la ly es
   go_upto_region 3 with fail
   refine En.zqc tab rfl (En.st (LX2) (En.st ((Awd h2 HM.out _)) (En.st (LA2) (En.fi ?_))))
   intro a' w3 hw ha
   obtain rfl:w2=w3:=hw.symm
   subst ha
   simp only [En.pM,En.pU,Act.put,qsA,qsB,qsC]
   clear LX2 LA2
   go_wp2
   exact ⟨⟨y,rfl,Nat.le_of_lt HB.out.2.1,NI2⟩,MS⟩
end
theorem A36 (n:Nat) (hn:n<18446744073709551616):bits .and .u64 (n:Int) 4294967295=((n % 4294967296:Nat):Int):=by
 have h:=u64_and_nat n 4294967295 hn (by omega)
 rw [show ((4294967295:Nat):Int)=4294967295 from rfl] at h
 rw [h,show (4294967295:Nat)=2^32-1 by decide,Nat.and_two_pow_sub_one_eq_mod]
theorem Aok {n:Int} (h0:0≤n) (h1:n<18446744073709551616):IntKind.u64.wrap n=n:=by
 have:IntKind.u64.wrap n=n % 18446744073709551616:=by simp [IntKind.wrap,IntKind.bits,IntKind.signed]
 rw [this];omega
theorem Ar2 (c:Nat) (hc:c<4398046511104) (w:World):Calls prog 167 #[.int .u64 1, .int .u64 (c:Int)] w fun e w'=>e= .returned (.tuple #[.int .u64 0, .int .u64 (c:Int)])∧w'=w:=by
 have h1:bits .and .u64 1 4294967295=1:=A36 1 (by omega)
 have h2:=A36 c (by omega)
 obtain ⟨y,hy⟩:∃y,c % 4294967296=y:=⟨_,rfl⟩
 obtain ⟨z,hz⟩:∃z,c / 4294967296=z:=⟨_,rfl⟩
 rw [hy] at h2
 have hyl:y<4294967296:=by omega
 have hzl:z<1024:=by omega
 have h3:(c:Int) / 4294967296=(z:Int):=by omega
 have h4:IntKind.u64.wrap (1*(y:Int))=(y:Int):=by rw [Aok] <;>omega
 have h5:(y:Int) / 4294967296=0:=by omega
 have h6:IntKind.u64.wrap 0=0:=Aok (by omega) (by omega)
 have h7:bits .and .u64 0 4294967295=0:=A36 0 (by omega)
 have h8:IntKind.u64.wrap (1*(z:Int))=(z:Int):=by rw [Aok] <;>omega
 have h9:(0:Int)+(z:Int)=(z:Int):=by omega
 have h10:IntKind.u64.wrap (z:Int)=(z:Int):=by rw [Aok] <;>omega
 have h11:(z:Int) / 4294967296=0:=by omega
 have h12:(0:Int) / 4294967296=0:=by omega
 have HH:=Aaa (And.intro h1 (And.intro h2 (And.intro h3 (And.intro h4 (And.intro h5 (And.intro h6 (And.intro h7 (And.intro h8 (And.intro h9 (And.intro h10 (And.intro h11 h12)))))))))))
 clear h1 h2 h3 h4 h5 h6 h7 h8 h9 h10 h11 h12 hy hz hyl hzl
 go_enter func167,ntmps167
 go_wp2
 refine bodyPost_ret (results_tmp2 rfl _ _ _) rfl ?_
 obtain ⟨h1,h2,h3,h4,h5,h6,h7,h8,h9,h10,h11,h12⟩:=HH.out
 refine ⟨?_,rfl⟩
 show Ending.returned (.tuple #[.int .u64 _, .int .u64 _])=_
 rw [h1,h2,h3,h4,h5,h6,h7,h8,h9,h10,h11,h12]
 rfl
end
section
open Go.RowKit
theorem Avd {n:Int} (h:IntKind.u64.wrap n=n) (w:World):(convert 3 156 (.int .i64 n)).run prog w= .ok (.int .u64 n) w:=by
 go_simp
theorem A33 {n:Int} (h:IntKind.i64.wrap n=n) (w:World):(convert 156 3 (.int .u64 n)).run prog w= .ok (.int .i64 n) w:=by
 go_simp
theorem A6b {p q:Int} {r:Bool} {w:World} {a:Act} {o:Oper} {x y:Operand} (ho:o.op= .binOp .gtr 156 x y 156) (hx:a.eval x= .int .u64 p) (hy:a.eval y= .int .u64 q) (h:decide (p>q)=r):(execOp a.eval o).run prog w= .ok (.value (.bool r)) w:=by
 subst h
 unfold execOp
 rw [ho]
 simp only [hx,hy]
 go_simp
theorem Ahj {w w2:World} {a:Act} {o:Oper} {x y:Operand} {xv yv v:Value} {ts:Array TypeId} (ho:o.op= .call {callee:= .builtin .copy,args:= #[x,y],argTypes:=ts}) (hx:a.eval x=xv) (hy:a.eval y=yv) (hl:(Builtin.copy_ ts o.type #[xv,yv]).run prog w= .ok v w2):(execOp a.eval o).run prog w= .ok (.value v) w2:=by
 unfold execOp
 simp only [ho,resolve,invoke,builtin,List.map_toArray,List.map_cons,List.map_nil,hx,hy,Sem.run_bind,Sem.run_pure,hl,Result.andThen_ok]
theorem A3w {w:World} {a:Act} {o:Oper} {x y:Operand} {p q k:Nat} (ho:o.op= .binOp .add 3 x y 3) (hx:a.eval x= .int .i64 p) (hy:a.eval y= .int .i64 q) (h:(p:Int)+(q:Int)=(k:Int)) (hb:(k:Int)≤9223372036854775807):(execOp a.eval o).run prog w= .ok (.value (.int .i64 (k:Int))) w:=by
 rw [←h]
 exact An1 ho hx hy (by omega)
def Axx:Array Oper:=(⟨_,rfl⟩:{o // some o=rgB Tryz.f110 4}).1
theorem A9a {c:Nat} (a:Act) (w:World) (Q:Exit→Act→World→Prop) (zz:a.tmps.size=48)
 (t5:a.tmps.getD 5 undef= .int .u64 0)
 (t6:a.tmps.getD 6 undef= .int .u64 (c:Int))
 (hc:decide ((c:Int)>9223372036854775807)=false)
 (h:∀a' w',w'=w→a'=(((((a.put (some 21) (.int .u64 0)).put (some 22) (.bool false)).put (some 23) (.bool false)).put (some 24) (.int .u64 (c:Int))).put (some 25) (.bool false)).put (some 26) (.bool false)→Q .normal a' w') :
 (Code.region 4 Axx false).wp prog Q a w:=by
 refine z0 rfl ?_
 refine zv rfl (xmv rfl (zi t5 rfl)) ?_
 refine zv (v:= .bool false) rfl (A6b rfl (zg zz rfl) rfl (by decide)) ?_
 refine zv rfl (xmv rfl (zg zz rfl)) ?_
 refine zv (zw zz rfl rfl rfl (zg zz rfl)) (xmv rfl (zi t6 rfl)) ?_
 refine zv (v:= .bool false) (zw zz rfl rfl rfl (zg zz rfl)) (A6b rfl (zg zz rfl) rfl hc) ?_
 refine zv rfl (Aa0 rfl (zg zz rfl) (zg zz rfl)) ?_
 exact ze rfl (h _ _ (rfl) rfl)
def Axw:Array Oper:=(⟨_,rfl⟩:{o // some o=rgB Tryz.f110 7}).1
theorem A89 {g c:Nat} {xv:Value} {w1:World} (a:Act) (w:World) (Q:Exit→Act→World→Prop) (zz:a.tmps.size=48)
 (t0:a.tmps.getD 0 undef=xv)
 (t7:a.tmps.getD 7 undef= .slice (some ⟨g,0,none⟩) c c)
 (EC:(Builtin.copy_ #[150,150] 3 #[.slice (some ⟨g,0,none⟩) c c,xv]).run prog w= .ok (.int .i64 1) w1)
 (h:∀a' w',w'=w1→a'=(((a.put (some 31) (.slice (some ⟨g,0,none⟩) c c)).put (some 32) (xv)).put (some 33) (.int .i64 1)).put (some 8) (.int .i64 1)→Q .normal a' w') :
 (Code.region 7 Axw false).wp prog Q a w:=by
 refine z0 rfl ?_
 refine zv rfl (xmv rfl (zi t7 rfl)) ?_
 refine zv rfl (xmv rfl (zi t0 rfl)) ?_
 refine zv (v:= .int .i64 1) rfl (Ahj rfl (zg zz rfl) (zg zz rfl) EC) ?_
 refine zv rfl (xas rfl (zg zz rfl)) ?_
 exact ze rfl (h _ _ (rfl) rfl)
def Axv:Array Oper:=(⟨_,rfl⟩:{o // some o=rgB Tryz.f110 9}).1
theorem A88 {g c d k m k2:Nat} {w1:World} (S:World→Prop) (a:Act) (w:World) (Q:Exit→Act→World→Prop) (zz:a.tmps.size=48)
 (t7:a.tmps.getD 7 undef= .slice (some ⟨g,0,none⟩) c c)
 (t8:a.tmps.getD 8 undef= .int .i64 (k:Int))
 (h0:S w.drew) (E1:∀W,(Instr.sliceAt 150 (.slice (some ⟨g,0,none⟩) c c) (some (.int .i64 (k:Int))) none none).run prog W= .ok (.slice (some ⟨g,k,none⟩) d d) W) (E2:∀W,(Instr.sliceAt 150 (.slice (some ⟨g,0,none⟩) c c) none (some (.int .i64 (k:Int))) none).run prog W= .ok (.slice (some ⟨g,0,none⟩) k c) W) (EC:(Builtin.copy_ #[150,150] 3 #[.slice (some ⟨g,k,none⟩) d d, .slice (some ⟨g,0,none⟩) k c]).run prog w.drew= .ok (.int .i64 (m:Int)) w1) (S1:S w1) (hk:(k:Int)+(m:Int)=(k2:Int)) (hb:(k2:Int)≤9223372036854775807)
 (h:∀a' w',w'=w1→a'=(((((((((a.put (some 38) (.int .i64 (k:Int))).put (some 39) (.slice (some ⟨g,0,none⟩) c c)).put (some 40) (.int .i64 (k:Int))).put (some 41) (.slice (some ⟨g,k,none⟩) d d)).put (some 42) (.slice (some ⟨g,0,none⟩) c c)).put (some 43) (.int .i64 (k:Int))).put (some 44) (.slice (some ⟨g,0,none⟩) k c)).put (some 45) (.int .i64 (m:Int))).put (some 46) (.int .i64 (k2:Int))).put (some 8) (.int .i64 (k2:Int))→Q .normal a' w') :
 (Code.region 9 Axv true).wp prog Q a w:=by
 refine y0 (fun w'=>S w') (h0) (fun hHeld=> ?_)
 refine yv 0 rfl rfl (fun w1 hw=>xmv rfl (zi t8 rfl)) hHeld ?_
 refine yv 1 rfl rfl (fun w1 hw=>xmv rfl (zi t7 rfl)) hHeld ?_
 refine yv 2 rfl rfl (fun w1 hw=>xmv rfl (zi t8 rfl)) hHeld ?_
 refine yv (v:= .slice (some ⟨g,k,none⟩) d d) 3 rfl rfl (fun w1 hw=>Ahi rfl (zg zz rfl) (congrArg some (zg zz rfl)) rfl rfl (E1 _)) hHeld ?_
 refine yv 4 rfl rfl (fun w1 hw=>xmv rfl (zi t7 rfl)) hHeld ?_
 refine yv 5 rfl rfl (fun w1 hw=>xmv rfl (zi t8 rfl)) hHeld ?_
 refine yv (v:= .slice (some ⟨g,0,none⟩) k c) 6 rfl rfl (fun w1 hw=>Ahi rfl (zg zz rfl) rfl (congrArg some (zg zz rfl)) rfl (E2 _)) hHeld ?_
 refine yr (v:= .int .i64 (m:Int)) 7 rfl rfl (Ahj rfl (zg zz rfl) (zg zz rfl) EC) (S1) (fun hHeld=> ?_)
 refine yv (v:= .int .i64 (k2:Int)) 8 rfl rfl (fun w1 hw=>A3w rfl (zg zz rfl) (zg zz rfl) hk hb) hHeld ?_
 refine yv 9 rfl rfl (fun w1 hw=>xas rfl (zg zz rfl)) hHeld ?_
 exact ye rfl (h _ _ (rfl) rfl)
end
section
open Go.RowKit Sq
theorem mul_one (c:Nat) (hc:c<4398046511104) (w:World):Calls prog 141 #[.int .u64 1, .int .u64 (c:Int)] w fun e w'=>e= .returned (.tuple #[.int .u64 0, .int .u64 (c:Int)])∧w'=w:=by
 have H:=Aaa (Ar2 c hc)
 clear hc
 go_enter func141,ntmps141
 go_wp2_with (first
  |(go_at_call 167;refine (H.out _).mono ?_;rintro e _ ⟨rfl,rfl⟩)
  |fail)
 refine bodyPost_ret (results_tmp2 rfl _ _ _) rfl ?_
 exact ⟨rfl,rfl⟩
structure A1s (w:World) (x:Int) (g c k:Nat) (W:World):Prop where
 row:∃cur,W.heap[g]? =some (.cells cur 3 (0,0))∧cur.size=c∧cur.toList.take k=List.replicate k (iz x)
 k1:1≤k
 kc:k≤c
 bel:Below w.heap.size w W
 gg:w.heap.size≤g
theorem szI:(prog.info? 3).map (·.size)=some 1:=by kernel_rfl
theorem Axa {g c k:Nat} (hk:k<c) (hc:c≤9223372036854775807) (W:World):(Instr.sliceAt 150 (.slice (some ⟨g,0,none⟩) c c) (some (.int .i64 (k:Int))) none none).run prog W= .ok (.slice (some ⟨g,k,none⟩) (c-k) (c-k)) W:=by
 have h2:(0:Int)≤(k:Int)∧(k:Int)≤(c:Int):=by omega
 have sz:(sizeOf 3).run prog W= .ok 1 W:=A5k szI W
 simp only [Instr.sliceAt,Instr.slice,Instr.sliceBounds,Instr.sliceBound,run_underlying A0q,asIntOf,Sem.run_bind,Sem.run_pure,Result.andThen_ok,sz]
 rw [if_pos h2]
 simp only [Sem.run_bind,Sem.run_pure,Result.andThen_ok,Int.toNat_natCast]
 have hne:¬c=k:=by omega
 simp [sz,hne,Addr.add]
 omega
theorem Aw9 {g c k:Nat} (hk:k≤c) (W:World):(Instr.sliceAt 150 (.slice (some ⟨g,0,none⟩) c c) none (some (.int .i64 (k:Int))) none).run prog W= .ok (.slice (some ⟨g,0,none⟩) k c) W:=by
 have h1:(0:Int)≤(k:Int)∧(k:Int)≤(c:Int):=by omega
 have sz:(sizeOf 3).run prog W= .ok 1 W:=A5k szI W
 simp only [Instr.sliceAt,Instr.slice,Instr.sliceBounds,Instr.sliceBound,run_underlying A0q,asIntOf,Sem.run_bind,Sem.run_pure,Result.andThen_ok,sz]
 rw [if_pos h1]
 simp only [Sem.run_bind,Sem.run_pure,Result.andThen_ok,Int.toNat_natCast]
 simp [Addr.add]
theorem Axt (cur:List Value) (v:Value) {k m:Nat} (h:cur.take k=List.replicate k v) (hl:k+m≤cur.length):(cur.take k++List.replicate m v++cur.drop (k+(List.replicate m v).length)).take (k+m)=List.replicate (k+m) v:=by
 rw [h,List.replicate_append_replicate]
 rw [List.take_left' (by simp)]
theorem Axu (cur:List Value) (v:Value) {k m:Nat} (hl:k+m≤cur.length):(cur.take k++List.replicate m v++cur.drop (k+(List.replicate m v).length)).length=cur.length:=by
 simp;omega
theorem A1s.more {w W:World} {x:Int} {g c k:Nat} (h:A1s w x g c k W) (hk:k<c):∃m w1,1≤m∧k+m≤c∧(Builtin.copy_ #[150,150] 3 #[.slice (some ⟨g,k,none⟩) (c-k) (c-k), .slice (some ⟨g,0,none⟩) k c]).run prog W= .ok (.int .i64 (m:Int)) w1∧A1s w x g c (k+m) w1:=by
 obtain ⟨⟨cur,hg,hs,ht⟩,k1,kc,b,gg⟩:=h
 obtain ⟨m,hm⟩:∃m,Nat.min k (c-k)=m:=⟨_,rfl⟩
 have m1:1≤m:=by rw [←hm];unfold Nat.min;simp [Nat.min_def];split <;>omega
 have m2:m≤k:=by rw [←hm];exact Nat.min_le_left _ _
 have m3:m≤c-k:=by rw [←hm];exact Nat.min_le_right _ _
 have r:=run_copy_row (P:=prog) W 150 150 3 3 g k (c-k) (c-k) ⟨g,0,none⟩ k c cur 3 (List.replicate m (iz x)) A0q szI hg (by simp [hm]) (fun j v hj=>by
  rw [List.getElem?_replicate] at hj
  split at hj
  ·next hj2 =>
   cases hj
   rw [Addr.add_mid,Nat.zero_add,cell_of_row W g j cur 3 (0,0) hg]
   have:(cur.toList.take k)[j]? =some (iz x):=by rw [ht,List.getElem?_replicate,if_pos (by omega)]
   rw [List.getElem?_take,if_pos (by omega)] at this
   simpa using this
  ·cases hj) (by simp;omega) (fun v hv=>by rw [List.eq_of_mem_replicate hv];rfl)
 rw [List.length_replicate] at r
 have hl:k+m≤cur.toList.length:=by simp;omega
 have e1:=Axt cur.toList (iz x) ht hl
 have e2:=Axu cur.toList (iz x) (k:=k) (m:=m) hl
 rw [List.length_replicate] at e1 e2
 refine ⟨m,_,m1,by omega,r,⟨⟨_,setRow_heap W g _ _ 3 _ hg, ?_, ?_⟩,by omega,by omega,b.trans (below_setRow (Below.refl _ _) gg _),gg⟩⟩
 ·rw [List.size_toArray,e2];simpa using hs
 ·rw [List.toList_toArray];exact e1
theorem A1s.own {w W:World} {x:Int} {g c:Nat} (h:A1s w x g c c W) (hc:c≤maxLen):Ab0 W w.heap.size (.slice (some ⟨g,0,none⟩) c c) (List.replicate c x):=by
 obtain ⟨⟨cur,hg,hs,ht⟩,k1,kc,b,gg⟩:=h
 refine ⟨by simp, .inr ⟨g,c,cur,by simp,gg,hg,by simp,hc,by simpa using hs, ?_⟩⟩
 simpa using ht
theorem A7r (c:Nat):madeCells (Value.int .i64 0).cells c=Array.replicate c (iz 0):=by
 apply Array.ext
 ·simp [madeCells]
 ·intro i h1 h2
  simp [madeCells,Value.cells,Nat.mod_one]
theorem Aqz (c:Nat) (hc:c≤2000000000000) (w:World):(Instr.makeSlice 150 (.int .i64 (c:Int)) (.int .i64 (c:Int))).run prog w= .ok (.slice (some ⟨w.heap.size,0,none⟩) c c) (w.alloc (.cells (Array.replicate c (iz 0)) 3)):=by
 obtain ⟨ie,hi,hz0,hs,hby⟩:=info_parts Ay0
 have hb:(ie.bytes:Int)*(c:Int)≤281474976710656:=by rw [hby];omega
 have r:=run_make (P:=prog) w 150 3 ie _ A0q hi hz0 .i64 .i64 (c:Int) (c:Int) (by omega) (by omega) hb (by omega)
 rw [hs,Nat.mul_one,Int.toNat_natCast,A7r] at r
 exact r
theorem Ao1 {w:World} {base:Nat} {xv:Value} {x:Int} (h:Ab0 w base xv [x]) {c:Nat} (h1:1≤c) (hc:c≤2000000000000):Calls prog 110 #[xv, .int .i64 (c:Int)] w fun e w'=> ∃v,e= .returned v∧Ab0 w' w.heap.size v (List.replicate c x)∧Below w.heap.size w w':=by
 obtain ⟨gx,capx,ex,_,hgx,_,obx⟩:=h.at (by simp)
 have b1:Below w.heap.size w (w.alloc (.cells (Array.replicate c (iz 0)) 3)):=(Below.refl _ _).alloc (Nat.le_refl _) _
 have hx1:Ab0 (w.alloc (.cells (Array.replicate c (iz 0)) 3)) 0 xv [x]:=(h.below b1).mono (Nat.zero_le _)
 have MK:=Aaa (Aqz c hc w)
 have MU:=Aaa (mul_one c (by omega) w)
 have hn:=heap_alloc_new w (.cells (Array.replicate c (iz 0)) 3)
 obtain ⟨w1,hw1⟩:∃w1,w.alloc (.cells (Array.replicate c (iz 0)) 3)=w1:=⟨_,rfl⟩
 rw [hw1] at MK hn b1 hx1
 have CP:∃w2,(Builtin.copy_ #[150,150] 3 #[.slice (some ⟨w.heap.size,0,none⟩) c c,xv]).run prog w1= .ok (.int .i64 1) w2∧A1s w x w.heap.size c 1 w2:=by
  have hx2:Ab0 w1 w.heap.size xv [x]∨True:= .inr trivial
  obtain ⟨g',cap',e',_,_,hget,_⟩:=hx1.at (by simp)
  rw [ex] at e'
  injection e' with e1 _ e3
  injection e1 with e1
  injection e1 with e1
  subst e1
  have r:=run_copy_row (P:=prog) w1 150 150 3 3 w.heap.size 0 c c ⟨gx,0,none⟩ 1 capx _ 3 [iz x] A0q szI hn (by show 1=Nat.min 1 c;exact (Nat.min_eq_left h1).symm) (fun j v hj=>by
   have hl:=(List.getElem?_eq_some_iff.1 hj).1
   obtain rfl:j=0:=by simp at hl;omega
   simp at hj
   subst hj
   exact hget 0 x rfl) (by simp;omega) (fun v hv=>by rw [List.mem_singleton.1 hv];rfl)
  rw [ex]
  refine ⟨_,r,⟨⟨_,setRow_heap w1 _ _ _ 3 _ hn, ?_, ?_⟩,Nat.le_refl _,h1,b1.trans (below_setRow (Below.refl _ _) (Nat.le_refl _) _),Nat.le_refl _⟩⟩
  ·simp;omega
  ·simp
 obtain ⟨w2,ec,RI⟩:=CP
 have wc:IntKind.u64.wrap (c:Int)=(c:Int):=Aok (by omega) (by omega)
 have wi:IntKind.i64.wrap (c:Int)=(c:Int):=by rw [IntKind.wrap_i64];omega
 have w1':IntKind.u64.wrap 1=1:=Aok (by omega) (by omega)
 have q1:decide ((c:Int)<0)=false:=decide_eq_false (by omega)
 have q2:decide ((c:Int)>9223372036854775807)=false:=decide_eq_false (by omega)
 have FX:=Aaa (And.intro wc (And.intro wi (And.intro w1' (And.intro q1 (And.intro q2 hc)))))
 have RI0:=Aaa RI
 have EC:=Aaa ec
 clear hx1 hn b1 h hgx obx ec RI hw1 h1 hc wc wi w1' q1 q2
 rw [show ([x]:List Int).length=1 from rfl] at ex
 subst ex
 go_enter func110,ntmps110
 go_upto_region 1 with fail
 refine En.zqc tab rfl (En.cm (c':=false) (FX.out.2.2.2.1) (En.fi ?_))
 intro a' w3 hw ha
 obtain rfl:w=w3:=hw.symm
 subst ha
 simp only [En.pM,En.pU,Act.put,qsA,qsB,qsC]
 go_upto_region 3 with fail
 refine En.zqc tab rfl (En.ef ((Avd FX.out.2.2.1 _)) (En.ef ((Avd FX.out.1 _)) (En.ca (MU.out) ?_)))
 rintro _ w3_ ⟨rfl,HF⟩
 refine ⟨_,rfl,En.fi ?_⟩
 intro a' w3 hw0 ha
 have hw:=HF
 obtain rfl:w3=w3_:=hw0
 obtain rfl:w=w3:=hw.symm
 subst ha
 simp only [En.pM,En.pU,Act.put,qsA,qsB,qsC]
 go_upto_region 4 with fail
 refine A9a (c:=c) _ w _ rfl rfl rfl FX.out.2.2.2.2.1 ?_
 intro a' w3 hw ha
 obtain rfl:w=w3:=hw.symm
 subst ha
 simp only [Act.put,qsA,qsB,qsC]
 go_upto_region 6 with fail
 refine En.zqc tab rfl (En.ef ((A33 FX.out.2.1 _)) (En.ef (MK.out) (En.fi ?_)))
 intro a' w3 hw ha
 obtain rfl:w1=w3:=hw.symm
 subst ha
 simp only [En.pM,En.pU,Act.put,qsA,qsB,qsC]
 go_upto_region 7 with fail
 refine A89 (g:=w.heap.size) (c:=c) (xv:= .slice (some ⟨gx,0,none⟩) 1 capx) (w1:=w2) _ w1 _ rfl rfl rfl EC.out ?_
 intro a' w3 hw ha
 obtain rfl:w2=w3:=hw.symm
 subst ha
 simp only [Act.put,qsA,qsB,qsC]
 clear MU MK EC
 obtain ⟨g,hg⟩:∃g,w.heap.size=g:=⟨_,rfl⟩
 rw [hg] at RI0 ⊢
 have HG:=Aaa hg
 clear hg
 go_wp2
 go_loopw [8] (fun v8 wr=> ∃k:Nat,v8= .int .i64 (k:Int)∧k≤c∧Hid (A1s w x g c k wr)) (fun v8 _=>c-(intOf v8).toNat)
 case atStart=>exact ⟨1,rfl,RI0.out.kc,RI0⟩
 case round =>
  clear RI0
  obtain ⟨k,rfl,hk,HI⟩:=hrel
  by_cases h:k<c
  ·have h':(k:Int)<(c:Int):=by omega
   obtain ⟨m,w4,m1,m2,ec,r4⟩:=A1s.more (W:=wr.drew) ⟨HI.out.row,HI.out.k1,HI.out.kc,HI.out.bel.drew,HI.out.gg⟩ h
   have R4:=Aaa r4
   have HB:=Aaa (And.intro m1 m2)
   have MS:c-(((k+m:Nat):Int)).toNat<c-((k:Nat):Int).toNat:=by simp only [Int.toNat_natCast];omega
   clear r4 m1 m2 HI
   go_upto_region 9 with fail
   refine A88 (g:=g) (c:=c) (d:=c-k) (k:=k) (m:=m) (k2:=k+m) (w1:=w4) (fun W=>W=wr.drew∨W=w4) _ wr _ rfl rfl rfl (.inl rfl) (fun W=>Axa h (by have:=FX.out.2.2.2.2.2;omega) W) (fun W=>Aw9 hk W) ec (.inr rfl) (by omega) (by have:=FX.out.2.2.2.2.2;have:=HB.out;omega) ?_
   intro a' w5 hw ha
   obtain rfl:w4=w5:=hw.symm
   subst ha
   simp only [Act.put,qsA,qsB,qsC]
   clear ec
   go_wp2
   exact ⟨⟨k+m,rfl,HB.out.2,R4⟩,MS⟩
  ·have h':¬((k:Int)<(c:Int)):=by omega
   obtain rfl:k=c:=by omega
   have RE:=Aaa HI.out
   clear HI hk h
   go_wp2
   go_ret
   have o:=RE.out.own (by have:=FX.out.2.2.2.2.2;unfold maxLen;omega)
   exact ⟨_,rfl,HG.out▸o,HG.out▸RE.out.bel⟩
structure PcB (w:World) (base pb:Nat) (kv xv:Value) (K X:List Int):Prop where
 cell:w.heap[pb]? =some (.cells #[kv, .slice none 0 0,xv] 152 (0,0))
 k:Ab0 w base kv K
 x:Ab0 w base xv X
 d:∀j,kv.ownBlock=some j→xv.ownBlock≠some j
 b:base≤pb
def KT (pb:Nat) (W W':World):Prop:=∀(j:Nat) (c:Array Value) (t:TypeId) (z:Nat × Nat),W.heap[j]? =some (.cells c t z)→t≠3→j≠pb→W'.heap[j]? =W.heap[j]?
theorem KT.trans {pb:Nat} {A B C:World} (h:KT pb A B) (k:KT pb B C):KT pb A C:=fun j c t z hj ht hp=>(k j c t z ((h j c t z hj ht hp).trans hj) ht hp).trans (h j c t z hj ht hp)
theorem KT.tch {pb:Nat} {W W':World} {base:Nat} {v:Value} {L:List Int} (o:Ab0 W base v L) (t:Tch (fun j=>v.ownBlock=some j) W W'):KT pb W W':=fun j c ty z hj ht _=>t.block j (Array.getElem?_eq_some_iff.1 hj).1 (fun e=>by
 obtain ⟨_,c2,hc2⟩:=o.ge j e
 exact ht (Aag hj hc2))
theorem A2c {W:World} {pb:Nat} {x0 x1 x2:Option Addr × Nat × Nat} (h:W.heap[pb]? =some (.cells #[.slice x0.1 x0.2.1 x0.2.2, .slice x1.1 x1.2.1 x1.2.2, .slice x2.1 x2.2.1 x2.2.2] 152 (0,0))) (a:Option Addr) (n c:Nat) :
 ((Instr.storeAt 150 (pZ pb (0+0)) (.slice a n c)).run prog W= .ok () (W.setCell ⟨pb,0,none⟩ (.slice a n c))∧(W.setCell ⟨pb,0,none⟩ (.slice a n c)).heap[pb]? =some (.cells #[.slice a n c, .slice x1.1 x1.2.1 x1.2.2, .slice x2.1 x2.2.1 x2.2.2] 152 (0,0))) ∧
 ((Instr.storeAt 150 (pZ pb (0+1)) (.slice a n c)).run prog W= .ok () (W.setCell ⟨pb,1,none⟩ (.slice a n c))∧(W.setCell ⟨pb,1,none⟩ (.slice a n c)).heap[pb]? =some (.cells #[.slice x0.1 x0.2.1 x0.2.2, .slice a n c, .slice x2.1 x2.2.1 x2.2.2] 152 (0,0))) ∧
 ((Instr.storeAt 150 (pZ pb (0+2)) (.slice a n c)).run prog W= .ok () (W.setCell ⟨pb,2,none⟩ (.slice a n c))∧(W.setCell ⟨pb,2,none⟩ (.slice a n c)).heap[pb]? =some (.cells #[.slice x0.1 x0.2.1 x0.2.2, .slice x1.1 x1.2.1 x1.2.2, .slice a n c] 152 (0,0))):=by
 obtain ⟨a0,n0,c0⟩:=x0
 obtain ⟨a1,n1,c1⟩:=x1
 obtain ⟨a2,n2,c2⟩:=x2
 have h0:W.cell? ⟨pb,0,none⟩=some (.slice a0 n0 c0):=(cell_of_row W pb 0 _ _ _ h).trans rfl
 have h1:W.cell? ⟨pb,1,none⟩=some (.slice a1 n1 c1):=(cell_of_row W pb 1 _ _ _ h).trans rfl
 have h2:W.cell? ⟨pb,2,none⟩=some (.slice a2 n2 c2):=(cell_of_row W pb 2 _ _ _ h).trans rfl
 have f0:=frozen_of_row W pb 0 _ _ h
 have f1:=frozen_of_row W pb 1 _ _ h
 have f2:=frozen_of_row W pb 2 _ _ h
 exact ⟨⟨by clear h1 h2 f1 f2;go_simp,Go.heap_setCell_same _ _ 0 _ _ _ h⟩,⟨by clear h0 h2 f0 f2;go_simp,Go.heap_setCell_same _ _ 1 _ _ _ h⟩,⟨by clear h1 h0 f1 f0;go_simp,Go.heap_setCell_same _ _ 2 _ _ _ h⟩⟩
theorem Abx {W:World} {b i:Nat} {v:Value} {j:Nat} (hj:j≠b):(W.setCell ⟨b,i,none⟩ v).heap[j]? =W.heap[j]? :=Below.heap_setCell _ _ _ _ hj
theorem Axe {W:World} {b i:Nat} {v:Value}:(W.setCell ⟨b,i,none⟩ v).heap.size=W.heap.size:=by simp [World.setCell]
theorem Adu {W:World} {b i:Nat} {v:Value} {base:Nat} (hb:base≤b):Below base W (W.setCell ⟨b,i,none⟩ v):=⟨rfl,rfl,rfl,by rw [Axe];exact Nat.le_refl _,fun k hk=>Abx (by omega)⟩
section
variable {W W':World} {base pb:Nat} {kv xv:Value} {K X:List Int}
theorem PcB.npb (h:PcB W base pb kv xv K X) {v:Value} {L:List Int} (o:Ab0 W base v L):v.ownBlock≠some pb:=fun e=>by
 obtain ⟨_,c,hc⟩:=o.ge pb e
 have:=Aag hc h.cell
 revert this;decide
theorem PcB.ldk (h:PcB W base pb kv xv K X):(Instr.loadAt 150 (pZ pb (0+0))).run prog W= .ok kv W:=by
 obtain ⟨a,c,e,_⟩:=h.k.form
 have hc:W.cell? ⟨pb,0,none⟩=some (.slice a K.length c):=by rw [←e];exact (cell_of_row W pb 0 _ _ _ h.cell).trans rfl
 rw [e]
 go_simp
theorem PcB.ldx (h:PcB W base pb kv xv K X):(Instr.loadAt 150 (pZ pb (0+2))).run prog W= .ok xv W:=by
 obtain ⟨a,c,e,_⟩:=h.x.form
 have hc:W.cell? ⟨pb,2,none⟩=some (.slice a X.length c):=by rw [←e];exact (cell_of_row W pb 2 _ _ _ h.cell).trans rfl
 rw [e]
 go_simp
theorem PcB.below (h:PcB W base pb kv xv K X) (b:Below W.heap.size W W'):PcB W' base pb kv xv K X :=
 ⟨(b.block _ (Array.getElem?_eq_some_iff.1 h.cell).1).trans h.cell,h.k.below b,h.x.below b,h.d,h.b⟩
theorem PcB.putk (h:PcB W base pb kv xv K X) {W2:World} {v2:Value} {K2:List Int} (o:Ab0 W2 base v2 K2) (t:Tch (fun j=>kv.ownBlock=some j) W W2) (q:v2.ownBlock=kv.ownBlock∨∀j,v2.ownBlock=some j→W.heap.size≤j) (bw:base≤W.heap.size):∃W3,(Instr.storeAt 150 (pZ pb (0+0)) v2).run prog W2= .ok () W3∧PcB W3 base pb v2 xv K2 X∧Below base W W3∧KT pb W W3:=by
 have hlt:=(Array.getElem?_eq_some_iff.1 h.cell).1
 have c2:=(t.block pb hlt (h.npb h.k)).trans h.cell
 obtain ⟨a0,d0,e0,_⟩:=h.k.form
 obtain ⟨ax,dx,ex,_⟩:=h.x.form
 obtain ⟨a,c,e,_⟩:=o.form
 have c2':=c2
 rw [e0,ex] at c2'
 obtain ⟨⟨es,hc⟩,_⟩:=A2c (x0:=(a0,_,d0)) (x1:=(none,0,0)) (x2:=(ax,_,dx)) c2' a K2.length c
 have n2:v2.ownBlock≠some pb:=fun q=>by
  obtain ⟨_,c3,hc3⟩:=o.ge pb q
  have:=Aag hc3 c2
  revert this;decide
 have nx:xv.ownBlock≠some pb:=h.npb h.x
 refine ⟨W2.setCell ⟨pb,0,none⟩ (.slice a K2.length c),by rw [e];exact es,⟨by rw [e,ex];exact hc,o.keep (fun j hj=>Abx (fun q=>n2 (by rw [←q];exact hj))),h.x.keep (fun j hj=> ?_),fun j hj hx=> ?_,h.b⟩,(t.below bw (fun j hj=>(h.k.ge j hj).1)).trans (Adu h.b),(KT.tch h.k t).trans (fun j c t z hj _ hp=>Abx hp)⟩
 ·rw [Abx (fun q=>nx (by rw [←q];exact hj))]
  exact t.block j (h.x.lt hj) (fun q=>h.d j q hj)
 ·rcases q with q|q
  ·exact h.d j (by rw [←q];exact hj) hx
  ·have:=q j hj;have:=h.x.lt hx;omega
theorem PcB.putx (h:PcB W base pb kv xv K X) {W2:World} {v2:Value} {X2:List Int} (o:Ab0 W2 base v2 X2) (t:Tch (fun j=>xv.ownBlock=some j) W W2) (q:v2.ownBlock=xv.ownBlock∨∀j,v2.ownBlock=some j→W.heap.size≤j) (bw:base≤W.heap.size):∃W3,(Instr.storeAt 150 (pZ pb (0+2)) v2).run prog W2= .ok () W3∧PcB W3 base pb kv v2 K X2∧Below base W W3∧KT pb W W3:=by
 have hlt:=(Array.getElem?_eq_some_iff.1 h.cell).1
 have c2:=(t.block pb hlt (h.npb h.x)).trans h.cell
 obtain ⟨a0,d0,e0,_⟩:=h.k.form
 obtain ⟨ax,dx,ex,_⟩:=h.x.form
 obtain ⟨a,c,e,_⟩:=o.form
 have c2':=c2
 rw [e0,ex] at c2'
 obtain ⟨_,_,⟨es,hc⟩⟩:=A2c (x0:=(a0,_,d0)) (x1:=(none,0,0)) (x2:=(ax,_,dx)) c2' a X2.length c
 have n2:v2.ownBlock≠some pb:=fun q=>by
  obtain ⟨_,c3,hc3⟩:=o.ge pb q
  have:=Aag hc3 c2
  revert this;decide
 have nk:kv.ownBlock≠some pb:=h.npb h.k
 refine ⟨W2.setCell ⟨pb,2,none⟩ (.slice a X2.length c),by rw [e];exact es,⟨by rw [e,e0];exact hc,h.k.keep (fun j hj=> ?_),o.keep (fun j hj=>Abx (fun q=>n2 (by rw [←q];exact hj))),fun j hj hx=> ?_,h.b⟩,(t.below bw (fun j hj=>(h.x.ge j hj).1)).trans (Adu h.b),(KT.tch h.x t).trans (fun j c t z hj _ hp=>Abx hp)⟩
 ·rw [Abx (fun q=>nk (by rw [←q];exact hj))]
  exact t.block j (h.k.lt hj) (fun q=>h.d j hj q)
 ·rcases q with q|q
  ·exact h.d j hj (by rw [←q];exact hx)
  ·have:=q j hx;have:=h.k.lt hj;omega
theorem PcB.puth (h:PcB W base pb kv xv K X) {W2:World} {v2:Value} {H:List Int} (o:Ab0 W2 W.heap.size v2 H) (b:Below W.heap.size W W2) (bw:base≤W.heap.size) {Y:List Nat} (hY:X=zN Y):∃W3,(Instr.storeAt 150 (pZ pb (0+1)) v2).run prog W2= .ok () W3∧Acj W3 base pb ⟨kv,v2,xv⟩ K H Y∧Below base W W3:=by
 have h2:=h.below b
 obtain ⟨a0,d0,e0,_⟩:=h.k.form
 obtain ⟨ax,dx,ex,_⟩:=h.x.form
 obtain ⟨a,c,e,_⟩:=o.form
 have c2':=h2.cell
 rw [e0,ex] at c2'
 obtain ⟨_,⟨es,hc⟩,_⟩:=A2c (x0:=(a0,_,d0)) (x1:=(none,0,0)) (x2:=(ax,_,dx)) c2' a H.length c
 have n2:v2.ownBlock≠some pb:=fun q=>by
  obtain ⟨_,c3,hc3⟩:=o.ge pb q
  have:=Aag hc3 h2.cell
  revert this;decide
 have k3:∀{v:Value} {L:List Int},Ab0 W2 base v L→v.ownBlock≠some pb→Ab0 (W2.setCell ⟨pb,1,none⟩ (.slice a H.length c)) base v L:=fun q nq=>q.keep (fun j hj=>Abx (fun e=>nq (by rw [←e];exact hj)))
 refine ⟨W2.setCell ⟨pb,1,none⟩ (.slice a H.length c),by rw [e];exact es,⟨by rw [e,e0,ex];exact hc,k3 h2.k (h.npb h.k),k3 (o.mono bw) n2,hY▸k3 h2.x (h.npb h.x),fun j hj=>⟨fun q=> ?_,h.d j hj⟩,fun j hj q=> ?_,h.b⟩,(b.mono bw).trans (Adu h.b)⟩
 ·have:=(o.ge j q).1;have:=h.k.lt hj;omega
 ·have:=(o.ge j hj).1;have:=h.x.lt q;omega
end
theorem PcB.keepk {W W':World} {base pb:Nat} {kv xv:Value} {K X K2:List Int} (h:PcB W base pb kv xv K X) (o:Ab0 W' base kv K2) (t:Tch (fun j=>kv.ownBlock=some j) W W'):PcB W' base pb kv xv K2 X :=
 ⟨(t.block pb (Array.getElem?_eq_some_iff.1 h.cell).1 (h.npb h.k)).trans h.cell,o,h.x.keep (fun j hj=>t.block j (h.x.lt hj) (fun q=>h.d j q hj)),h.d,h.b⟩
theorem A48 (w:World) (x:Int):Ab0 (w.alloc (.cells #[.int .i64 x] 3)) w.heap.size (.slice (some ⟨w.heap.size,0,none⟩) 1 1) [x] :=
 ⟨by simp, .inr ⟨w.heap.size,1, #[.int .i64 x],rfl,Nat.le_refl _,heap_alloc_new _ _,by simp,by decide,by simp,rfl⟩⟩
theorem A5x {W:World} {pb:Nat} {kv hv xv:Value} (h:W.heap[pb]? =some (.cells #[kv,hv,xv] 152 (0,0))) (hk:∃a n c,kv= .slice a n c):(Instr.loadAt 150 (pZ pb (0+0))).run prog W= .ok kv W:=by
 obtain ⟨a,n,c,rfl⟩:=hk
 have hc:W.cell? ⟨pb,0,none⟩=some (.slice a n c):=(cell_of_row W pb 0 _ _ _ h).trans rfl
 go_simp
theorem Ab0.sl {w:World} {base:Nat} {v:Value} {L:List Int} (h:Ab0 w base v L):∃a n c,v= .slice a n c:=by
 obtain ⟨a,c,e,_⟩:=h.form
 exact ⟨a,_,c,e⟩
theorem PcB.ends {W:World} {base pb eb:Nat} {kv xv:Value} {K X:List Int} (h:PcB W base pb kv xv K X) (bw:base≤W.heap.size) (hn:K.length+2≤2000000000000) {x:SpV} (hb:RSp.Bx W eb x) (he:base≤eb) :
 ∃sv v2 w1 w2 w3,(Instr.buildSlice 150 2 #[(0, .int .i64 x.fr),(1, .int .i64 x.to)]).run prog W.drew= .ok sv w1∧(Builtin.append_ #[150,150] 150 #[kv,sv]).run prog w1= .ok v2 w2∧(Instr.storeAt 150 (pZ pb (0+0)) v2).run prog w2= .ok () w3∧PcB w3 base pb v2 xv (K++[x.fr,x.to]) X∧Below base W w3 ∧
  (w1.heap[pb]? =some (.cells #[kv, .slice none 0 0,xv] 152 (0,0))∧RSp.Bx w1 eb x)∧(w2.heap[pb]? =some (.cells #[kv, .slice none 0 0,xv] 152 (0,0))∧RSp.Bx w2 eb x):=by
 have h':PcB W.drew base pb kv xv K X:=h.below (Below.refl _ _).drew
 obtain ⟨sv,w1,v2,w2,e1,b1,e2,o2,t2,q2⟩:=h'.k.app bw [x.fr,x.to] (Axl x.fr x.to W.drew) (by simpa using hn)
 obtain ⟨w3,e3,h3,b3,_⟩:=h'.putk o2 t2 q2 bw
 have hlt:=(Array.getElem?_eq_some_iff.1 h'.cell).1
 have elt:=(Array.getElem?_eq_some_iff.1 hb).1
 have ne:kv.ownBlock≠some eb:=fun e=>by
  obtain ⟨_,c,hc⟩:=h.k.ge eb e
  have:=Aag hc hb
  revert this;decide
 exact ⟨sv,v2,w1,w2,w3,e1,e2,e3,h3,⟨b3.os,b3.tape,b3.output,b3.size,b3.block⟩,⟨(b1.block pb hlt).trans h'.cell,(b1.block eb elt).trans hb⟩,⟨(t2.block pb hlt (h'.npb h'.k)).trans h'.cell,(t2.block eb elt ne).trans hb⟩⟩
def CuI (w:World) (pb:Nat) (L:List Int) (W:World):Prop:=∃kv,PcB W w.heap.size pb kv (.slice none 0 0) L []∧Below w.heap.size w W
def CuX (w:World) (pb:Nat) (K:List Int) (i:Nat) (W:World):Prop:=∃kv xv,PcB W w.heap.size pb kv xv K (zN (List.range i))∧Below w.heap.size w W
theorem Apk {C:List SpV} {i:Nat} {x:SpV} (hx:C[i]? =some x):Ad6 (C.take (i+1))=Ad6 (C.take i)++[x.fr,x.to]:=by
 unfold Ad6
 rw [List.take_add_one,hx,List.flatMap_append]
 rfl
theorem Awg (i:Nat):zN (List.range (i+1))=zN (List.range i)++[(i:Int)]:=by
 unfold zN
 rw [List.range_succ,List.map_append]
 rfl
set_option maxHeartbeats 8000000 in
theorem Auk {w:World} {la:Option Addr} {lc:Nat} {C:List SpV} (hat:RSp.At w la C) (ok:∀x∈C,x.ok) (hlt:∀c∈C,c.fr<c.to) (hne:C≠[]) (hn:C.length≤900000000000) :
 Calls prog 88 #[.slice la C.length lc] w fun e w'=> ∃pb,e= .returned (pZ pb 0)∧∃P,Acj w' w.heap.size pb P (Aaf C) (List.replicate ((Aaf C).length-1) (-1)) (List.range (Aaf C).length)∧Below w.heap.size w w':=by
 have k2:2≤(Aaf C).length:=by obtain ⟨c,hc⟩:=List.exists_mem_of_ne_nil C hne;exact Af6 hc (hlt c hc)
 have kn:=Af7 C
 have b1:Below w.heap.size w (w.alloc (.cells #[.slice none 0 0, .slice none 0 0, .slice none 0 0] 152)):=(Below.refl _ _).alloc (Nat.le_refl _) _
 have c1:=heap_alloc_new w (.cells #[.slice none 0 0, .slice none 0 0, .slice none 0 0] 152)
 have e1:(Instr.box 152 pcZ).run prog w= .ok (pZ w.heap.size 0) (w.alloc (.cells #[.slice none 0 0, .slice none 0 0, .slice none 0 0] 152)):=by kernel_rfl
 obtain ⟨w1,hw1⟩:∃w1,w.alloc (.cells #[.slice none 0 0, .slice none 0 0, .slice none 0 0] 152)=w1:=⟨_,rfl⟩
 rw [hw1] at b1 c1 e1
 have P1:PcB w1 w.heap.size w.heap.size (.slice none 0 0) (.slice none 0 0) [] []:=⟨c1,A0z _ _,A0z _ _,(fun j hj=>by cases hj),Nat.le_refl _⟩
 have I0:=Aaa (show CuI w w.heap.size (Ad6 (C.take 0)) w1 from ⟨_,P1,b1⟩)
 have HAT:=Aaa (fun (W:World) (b:Below w.heap.size w W)=>hat.below b)
 have HOK:=Aaa ok
 obtain ⟨n,hnn⟩:∃n,C.length=n:=⟨_,rfl⟩
 rw [hnn] at hn ⊢
 have HN:=Aaa (And.intro hn hnn)
 have HK:=Aaa (And.intro k2 kn)
 have HNE:=Aaa hne
 obtain ⟨pb,hpb⟩:∃pb,w.heap.size=pb:=⟨_,rfl⟩
 have HPB:=Aaa hpb
 rw [hpb] at e1
 rw [show CuI w w.heap.size=CuI w pb by rw [hpb]] at I0
 clear hat ok hlt hne hn hnn k2 kn b1 c1 hw1 P1 hpb
 go_enter func88,ntmps88
 go_upto_region 1 with fail
 refine En.zqc tab rfl (En.st ((Az9 _)) (En.ef (e1) (En.fi ?_)))
 intro a' w3 hw ha
 obtain rfl:w1=w3:=hw.symm
 subst ha
 simp only [En.pM,En.pU,Act.put,qsA,qsB,qsC]
 clear e1
 go_wp2
 go_loopw [11] (fun v11 wr=> ∃i:Nat,v11= .int .i64 (i:Int)∧i≤n∧Hid (CuI w pb (Ad6 (C.take i)) wr)) (fun v11 _=>n-(intOf v11).toNat)
 case atStart=>exact ⟨0,rfl,Nat.zero_le _,I0⟩
 case round =>
  clear I0
  obtain ⟨i,rfl,hi,HI⟩:=hrel
  by_cases h:i<n
  ·have h':(i:Int)<(n:Int):=by omega
   obtain ⟨kv,hp,bl⟩:=HI.out
   obtain ⟨x,hx⟩:∃x,C[i]? =some x:=⟨_,List.getElem?_eq_getElem (by have:=HN.out;omega)⟩
   have okx:=HOK.out x (List.mem_of_getElem? hx)
   obtain ⟨g,o,rfl,_,hr⟩:=(HAT.out wr bl).get (i:=i) (by have:=HN.out;omega)
   have hr':wr.rangeAt g (o+7*i) x.c:=by
        have e:C[i]'(by have:=HN.out;omega)=x:=(List.getElem?_eq_some_iff.1 hx).2
        rw [e] at hr;exact hr
   have LX:=Aae.ld Aam okx hr'
   have EA:=Aae.bx_zero Aam wr
   have ES:=Aae.bx_new Aam wr okx
   obtain ⟨hbx,hbl⟩:=Aae.bx_is RSp wr x
   have hp2:=hp.below hbl
   have en:=Apk hx
   have bwr:w.heap.size≤wr.heap.size:=bl.size
   have klen:(Ad6 (C.take i)).length+2≤2000000000000:=by
        rw [Ae1,List.length_take]
        have:=HN.out
        omega
   obtain ⟨sv,v2,y1,y2,y3,f1,f2,f3,hp3,b3,s1,s2⟩:=hp2.ends (Nat.le_trans bwr hbl.size) klen hbx bwr
   have hks:=hp2.k.sl
   have c0:=hp2.cell
   have NI:=Aaa (show CuI w pb (Ad6 (C.take (i+1))) y3 from ⟨v2,by rw [en];exact hp3,(bl.trans (hbl.mono bwr)).trans b3⟩)
   have hm:n≤9223372036854775807:=by have:=HN.out;omega
   have MS:n-(((i+1:Nat):Int)).toNat<n-((i:Nat):Int).toNat:=by simp only [Int.toNat_natCast];omega
   clear HI hp hp2 hp3 en klen bl hr hr' b3
   go_upto_region 4 with fail
   refine En.zqc tab rfl (En.st ((Acn h hm _)) (En.st (LX) (En.ef (EA) (En.eu (ES) (En.fi ?_)))))
   intro a' w3 hw ha
   subst ha
   rw [←hw] at f1 hbx c0
   obtain ⟨w4,hw4⟩:∃w4,w3=w4:=⟨_,rfl⟩
   rw [hw4] at f1 hbx c0 ⊢
   simp only [En.pM,En.pU,Act.put,qsA,qsB,qsC]
   clear LX EA ES hbl hw hw4
   go_upto_region 5 with fail
   refine En.zyc tab [0,1,2,3,4,5,6,7,8,9,10,11,12,13] 13 (fun w'=>(fun W=>W.heap[pb]? =some (.cells #[kv, .slice none 0 0, .slice none 0 0] 152 (0,0))∧RSp.Bx W wr.heap.size x) w') (hS:=((show (fun W=>W.heap[pb]? =some (.cells #[kv, .slice none 0 0, .slice none 0 0] 152 (0,0))∧RSp.Bx W wr.heap.size x) (World.drew w4) from ⟨c0,hbx⟩))) (h:=En.sty (fun Xw Xh=>((show ∀W,(fun W=>W.heap[pb]? =some (.cells #[kv, .slice none 0 0, .slice none 0 0] 152 (0,0))∧RSp.Bx W wr.heap.size x) W→(Instr.loadAt 150 (pZ pb (0+0))).run prog W= .ok (kv) W from (fun W hS=>A5x hS.1 hks)) _ Xh)) (En.sty (fun Xw Xh=>((show ∀W,(fun W=>W.heap[pb]? =some (.cells #[kv, .slice none 0 0, .slice none 0 0] 152 (0,0))∧RSp.Bx W wr.heap.size x) W→(Instr.loadAt 3 (pZ wr.heap.size (0+0))).run prog W= .ok (.int .i64 x.fr) W from (fun W hS=>Aiy hS.2)) _ Xh)) (En.sty (fun Xw Xh=>((show ∀W,(fun W=>W.heap[pb]? =some (.cells #[kv, .slice none 0 0, .slice none 0 0] 152 (0,0))∧RSp.Bx W wr.heap.size x) W→(Instr.loadAt 3 (pZ wr.heap.size (0+1))).run prog W= .ok (.int .i64 x.to) W from (fun W hS=>Ag0 hS.2)) _ Xh)) (En.efy (f1) (s1) (En.efy (f2) (s2) (En.eu (f3) (En.fi ?_)))))))
   intro a' w5 hw ha
   obtain rfl:y3=w5:=hw.symm
   subst ha
   simp only [En.pM,En.pU,Act.put,qsA,qsB,qsC]
   clear f1 f2 f3 s1 s2 hbx c0 hks
   go_wp2
   rw [show ((i:Int)+1)=((i+1:Nat):Int) by omega]
   exact ⟨⟨i+1,rfl,h,NI⟩,MS⟩
  ·have h':¬((i:Int)<(n:Int)):=by omega
   obtain rfl:i=n:=by omega
   obtain ⟨kv,hp,bl⟩:=HI.out
   rw [List.take_of_length_le (by have:=HN.out;omega)] at hp
   have zne:Ad6 C≠[]:=fun e=>by have:=Ae1 C;rw [e] at this;have:=HN.out;have:=List.length_pos_iff.2 HNE.out;simp at *;omega
   have zlen:(Ad6 C).length≤2000000000000:=by rw [Ae1];have:=HN.out;omega
   have LK:=hp.ldk
   have bw:=bl.size
   have CS:=Aaa ((hp.k.sort zne zlen).mono (fun e W q=>(⟨q.1,hp.keepk q.2.1 q.2.2,bl.trans (q.2.2.below bw (fun j hj=>(hp.k.ge j hj).1))⟩:e= .returned (.tuple #[])∧PcB W w.heap.size pb kv (.slice none 0 0) (Aop (Ad6 C)) []∧Below w.heap.size w W)))
   have ZL:=Aaa (And.intro zne zlen)
   clear HI hp bl zne zlen bw
   go_upto_region 7 with fail
   refine A92 (pb:=pb) (kv:=kv) _ _ wr _ rfl rfl LK CS.out ?_
   rintro a' w4 ⟨hp,bl⟩ ha
   subst ha
   simp only [Act.put,qsA,qsB,qsC]
   clear LK CS
   have LK:=hp.ldk
   have bw:=bl.size
   have zne:Aop (Ad6 C)≠[]:=fun e=>by have:=Aeu (Ad6 C);rw [e] at this;exact ZL.out.1 (List.eq_nil_of_length_eq_zero this.symm)
   have CS:Calls prog 109 #[kv] w4 fun e w1=> ∃u2,e= .returned u2∧∃w2,(Instr.storeAt 150 (pZ pb (0+0)) u2).run prog w1= .ok () w2∧(PcB w2 w.heap.size pb u2 (.slice none 0 0) (Aaf C) []∧Below w.heap.size w w2):=by
        refine (hp.k.compact zne (by rw [Aeu];exact ZL.out.2)).mono ?_
        rintro e W ⟨v',rfl,o,q,t⟩
        obtain ⟨W3,es,hp3,b3,_⟩:=hp.putk o t (.inl q) bw
        exact ⟨v',rfl,W3,es,hp3,bl.trans b3⟩
   have CC:=Aaa CS
   clear CS hp bl zne bw ZL
   go_upto_region 8 with fail
   refine A91 (pb:=pb) (kv:=kv) (fun u2 W=>PcB W w.heap.size pb u2 (.slice none 0 0) (Aaf C) []∧Below w.heap.size w W) _ w4 _ rfl rfl LK CC.out ?_
   rintro u2 a' w5 ⟨hp,bl⟩ ha
   subst ha
   simp only [Act.put,qsA,qsB,qsC]
   clear LK CC
   obtain ⟨a2,c2,e2,_⟩:=hp.k.form
   have LK:=hp.ldk
   obtain ⟨m,hmm⟩:∃m,(Aaf C).length=m:=⟨_,rfl⟩
   rw [hmm] at e2 HK
   rw [e2] at LK
   have HM:=Aaa hmm
   have hmb:m≤2000000000000:=by have:=HK.out;have:=HN.out;omega
   have X0:=Aaa (show CuX w pb (Aaf C) 0 w5 from ⟨u2,_,hp,bl⟩)
   clear hp bl hmm e2
   go_upto_region 9 with fail
   refine En.zqc tab rfl (En.st (LK) (En.fi ?_))
   intro a' w6 hw ha
   obtain rfl:w5=w6:=hw.symm
   subst ha
   simp only [En.pM,En.pU,Act.put,qsA,qsB,qsC]
   clear LK
   go_wp2
   go_loopw [47] (fun v47 wr=> ∃j:Nat,v47= .int .i64 (j:Int)∧j≤m∧Hid (CuX w pb (Aaf C) j wr)) (fun v47 _=>m-(intOf v47).toNat)
   case atStart=>exact ⟨0,rfl,Nat.zero_le _,X0⟩
   case round =>
        clear X0
        obtain ⟨j,rfl,hj,HJ⟩:=hrel
        by_cases g:j<m
        ·have g':(j:Int)<(m:Int):=by omega
         obtain ⟨kv2,xv2,hp,bl⟩:=HJ.out
         have LX:=hp.ldx
         have bw:=bl.size
         obtain ⟨sv,y1,v2,y2,f1,b1,f2,o2,t2,q2⟩:=hp.x.app bw [(j:Int)] (Al4 (j:Int) _) (by rw [Ag2,List.length_range];have:=HK.out;have:=HN.out;simp;omega)
         obtain ⟨y3,f3,hp3,b3,_⟩:=hp.putx o2 t2 q2 bw
         have NI:=Aaa (show CuX w pb (Aaf C) (j+1) y3 from ⟨kv2,v2,by rw [Awg];exact hp3,bl.trans b3⟩)
         have MS:m-(((j+1:Nat):Int)).toNat<m-((j:Nat):Int).toNat:=by simp only [Int.toNat_natCast];omega
         clear HJ hp bl bw b1 o2 t2 q2 hp3 b3
         go_upto_region 12 with fail
         refine En.zqc tab rfl (En.st (LX) (En.ef (f1) (En.ef (f2) (En.eu (f3) (En.fi ?_)))))
         intro a' w6 hw ha
         obtain rfl:y3=w6:=hw.symm
         subst ha
         simp only [En.pM,En.pU,Act.put,qsA,qsB,qsC]
         clear LX f1 f2 f3
         go_wp2
         rw [show ((j:Int)+1)=((j+1:Nat):Int) by omega]
         exact ⟨⟨j+1,rfl,g,NI⟩,MS⟩
        ·have g':¬((j:Int)<(m:Int)):=by omega
         obtain rfl:j=m:=by omega
         obtain ⟨kv2,xv2,hp,bl⟩:=HJ.out
         have bw:=bl.size
         have EB:=Al4 (-1) wr
         have O1:=A48 wr (-1)
         have b1:Below wr.heap.size wr (wr.alloc (.cells #[.int .i64 (-1)] 3)):=(Below.refl _ _).alloc (Nat.le_refl _) _
         obtain ⟨y1,hy1⟩:∃y1,wr.alloc (.cells #[.int .i64 (-1)] 3)=y1:=⟨_,rfl⟩
         rw [hy1] at EB O1 b1
         have hp1:=hp.below b1
         obtain ⟨a3,c3,e3,_⟩:=hp1.k.form
         rw [HM.out] at e3
         have LK:=hp1.ldk
         rw [e3] at LK
         have bl1:=bl.trans (b1.mono bw)
         have CR:Calls prog 110 #[.slice (some ⟨wr.heap.size,0,none⟩) 1 1, .int .i64 ((j-1:Nat):Int)] y1 fun e w1=> ∃u2,e= .returned u2∧∃w2,(Instr.storeAt 150 (pZ pb (0+1)) u2).run prog w1= .ok () w2∧∃P,Acj w2 w.heap.size pb P (Aaf C) (List.replicate (j-1) (-1)) (List.range j)∧Below w.heap.size w w2:=by
          refine (Ao1 O1 (c:=j-1) (by have:=HK.out;omega) (by have:=HK.out;have:=HN.out;omega)).mono ?_
          rintro e W ⟨v,rfl,o,b⟩
          obtain ⟨W3,es,hp3,b3⟩:=hp1.puth o b (Nat.le_trans bw b1.size) rfl
          exact ⟨v,rfl,W3,es,_,hp3,bl1.trans b3⟩
         have CC:=Aaa CR
         have hsub:(j:Int)-1=((j-1:Nat):Int):=by have:=HK.out;omega
         have hsb: -9223372036854775808≤(j:Int)-1∧(j:Int)-1≤9223372036854775807:=by have:=HK.out;have:=HN.out;omega
         have HS:=Aaa hsub
         have HT:=Aaa hsb
         clear HJ hp hp1 bl bl1 bw b1 O1 hy1 CR e3 hsub hsb
         obtain ⟨q,hq⟩:∃q,j-1=q:=⟨_,rfl⟩
         rw [hq] at CC HS
         have HQ:=Aaa hq
         clear hq
         go_upto_region 14 with fail
         refine A8d (pb:=pb) (n:=j) (c:=c3) (m:=(q:Int)) (la:=a3) (sv:= .slice (some ⟨wr.heap.size,0,none⟩) 1 1) (w1:=y1) (fun u2 W=> ∃P,Acj W w.heap.size pb P (Aaf C) (List.replicate q (-1)) (List.range j)∧Below w.heap.size w W) _ _ _ rfl rfl HS.out HT.out EB LK CC.out ?_
         rintro u2 a' w6 hf ha
         have HF:=Aaa hf
         subst ha
         simp only [Act.put,qsA,qsB,qsC]
         clear EB LK CC hf
         go_wp2
         go_ret
         refine ⟨pb,rfl, ?_⟩
         have:=HF.out
         rw [←HQ.out, ←HM.out] at this
         obtain ⟨P,q1,q2⟩:=this
         exact ⟨⟨P,q1⟩,q2⟩
end
section
open Go.RowKit
theorem Awi {P:Program} {o:Oper} {a:Act} {w:World} {K:Act→World→Prop} {Q:Exit→Act→World→Prop} {l n:Nat} (hp:∀c,o.op≠ .defer c) (h:o.wp P a w K Q):Oper.wpIn (Fence.wide.inRound l) n P o a w K Q:=by
 refine ⟨fun f _=>trivial, ?_⟩
 rw [Oper.semAt_plain _ _ _ hp]
 unfold Oper.wp at h
 generalize (execOp a.eval o).run P w=r at *
 cases r with
 |ok x w' =>
  cases x <;>simp only [Oper.upon,Oper.uponIn] at h ⊢
  case value v=>exact h
  case skip=>exact h
  case defer d=>exact h
  case enter f args=>exact ⟨fun q=>(by cases q),CallsIn.inRound l (callsIn_wide.2 h)⟩
  case row r args=>exact ⟨fun q=>(by cases q),fun c cs _=>by
   obtain ⟨v,w2,hr,s⟩:=h c cs
   exact ⟨v,w2,hr,stepsIn_wide.2 s⟩⟩
 |halt x w'=>cases x <;>simp only [Oper.upon,Oper.uponIn] at h ⊢ <;>exact h
def Afj (o:Oper):Bool:=match o.op with | .defer _=>false|_=>true
theorem Afb {P:Program} {md:Region.Mode} {ops:Array Oper} {Q:Exit→Act→World→Prop} {l n:Nat} (hp:∀(i:Nat) (o:Oper),ops[i]? =some o→Afj o=true) (hL:¬LetsOut Q):∀(fuel:Nat) (listed:Array Bool) (a:Act) (w:World),wpAny P md ops Q fuel listed a w→wpAnyIn (Fence.wide.inRound l) n P md ops Q fuel listed a w
 |0,_,_,_,h=>h
 |fuel+1,listed,a,w,h=>⟨h.1,fun i hi=>by
  have h1:=h.2 i hi
  unfold wpOp at h1
  unfold wpOpIn
  cases ho:ops[i]? with
  |none=>rw [ho] at h1;exact Afb hp hL fuel _ a w h1
  |some o =>
   rw [ho] at h1
   simp only at h1 ⊢
   have hpl:∀c,o.op≠ .defer c:=fun c e=>by
        have:=hp i o ho
        unfold Afj at this
        rw [e] at this
        cases this
   split
   ·next hw =>
    rw [if_pos hw] at h1
    rcases h1 with h1|h1
    ·exact Oper.wpIn_mono (fun a' w' q=>Afb hp hL fuel _ a' w' q) (Awi hpl h1)
    ·exact absurd h1.2 hL
   ·next hw =>
    rw [if_neg hw] at h1
    exact ⟨fun f _=>trivial,Afb hp hL fuel _ _ w h1⟩⟩
theorem Ari {ops:Array Oper} (h:ops.all Afj=true):∀(i:Nat) (o:Oper),ops[i]? =some o→Afj o=true:=fun i o ho=>by
 obtain ⟨hi,rfl⟩:=Array.getElem?_eq_some_iff.1 ho
 exact (Array.all_eq_true.1 h) i hi
theorem Aky {Q:Exit→Act→World→Prop} (h:¬LetsOut Q):¬LetsOut (NoPanic Q):=fun q=>h (by
 obtain ⟨a,w,q⟩:=q
 exact ⟨a,w,q⟩)
theorem Ajb {P:Program} {ops:Array Oper} {Q:Exit→Act→World→Prop} {a:Act} {w:World} {l n id:Nat} (hL:¬LetsOut Q) (hm:P.follows .mixedOrders=true) (hp:ops.all Afj=true) (h:wpAny P .any ops (NoPanic Q) ops.size (Array.replicate ops.size false) a w.drew):(Code.region id ops true).wpIn (Fence.wide.inRound l) n P Q a w :=
 Code.wpIn_mono NoPanic.imp (wpIn_region_any hm (Afb (Ari hp) (Aky hL) _ _ _ _ h))
theorem y0R {P:Program} {ops:Array Oper} {a:Act} {w:World} {Q:Exit→Act→World→Prop} {l n':Nat} {id n:Nat} {rep:Array Bool} (hL:¬LetsOut Q) (S:World→Prop) (hS:S w.drew) (h:S w.drew→YL P .any ops Q S n rep a [] w.drew) (hn:ops.size=n:=by rfl) (hr:Array.replicate n false=rep:=by rfl) (hm:P.follows .mixedOrders=true:=by kernel_rfl) (hp:ops.all Afj=true:=by kernel_rfl):(Code.region id ops true).wpIn (Fence.wide.inRound l) n' P Q a w :=
 Ajb hL hm hp (by rw [hn,hr];exact wpAny_of_held _ _ _ _ (h hS).out)
def Aqv:Oper:=⟨some 11, .move (.tmp 0),196,"iter.go:29", #[],none⟩
def Aqu:Oper:=⟨some 12, .move (.tmp 3),3,"iter.go:29", #[],none⟩
def Aqt:Oper:=⟨some 13, .load 49 (.tmp 1),49,"iter.go:29", #[],none⟩
def Aqs:Oper:=⟨some 14, .move (.tmp 3),3,"iter.go:29", #[],none⟩
def Aqr:Oper:=⟨some 15, .indexAddr 49 (.tmp 13) (.tmp 14),0,"iter.go:29", #[⟨2, .data⟩,⟨3, .data⟩],none⟩
def Aqq:Oper:=⟨some 16, .load 65 (.tmp 15),65,"iter.go:29", #[⟨4, .data⟩],none⟩
def Aks:Oper:=⟨some 17, .call {callee:=Callee.value (.tmp 11),args:= #[.tmp 12, .tmp 16],argTypes:= #[3,65]},4,"iter.go:29", #[⟨0, .data⟩,⟨1, .data⟩,⟨5, .data⟩],none⟩
def Akr:Oper:=⟨some 18, .unOp UnOp.not 4 (.tmp 17),4,"iter.go:29", #[⟨6, .data⟩],none⟩
def Axg:Array Oper:= #[Aqv,Aqu,Aqt,Aqs,Aqr,Aqq,Aks,Akr]
theorem A81 {bs g o n c i l n0:Nat} {x:SpV} (Fin:Bool→World→Prop) (a:Act) (w:World) (Q:Exit→Act→World→Prop) (hsz:a.tmps.size=19)
 (t0:a.tmps.getD 0 undef= .func (.yield l) #[] #[])
 (t1:a.tmps.getD 1 undef= (pZ bs 0))
 (t3:a.tmps.getD 3 undef= .int .i64 (i:Int))
 (hi:i<n) (hm:n≤9223372036854775807) (LB:(Instr.loadAt 49 (pZ bs 0)).run prog w= .ok (.slice (some ⟨g,o,none⟩) n c) w) (LX:(Instr.loadAt 65 (pZ g (o+7*i))).run prog w= .ok (x.a) w) (CY:YieldAt Fence.wide (n0-1) prog l #[.int .i64 (i:Int),x.a] w fun e w'=> ∃b,e= .returned (.bool b)∧Fin b w')
 (h:∀(b:Bool) a' w',Fin b w'→a'=(((((((a.put (some 11) (.func (.yield l) #[] #[])).put (some 12) (.int .i64 (i:Int))).put (some 13) (.slice (some ⟨g,o,none⟩) n c)).put (some 14) (.int .i64 (i:Int))).put (some 15) (pZ g (o+7*i))).put (some 16) (x.a)).put (some 17) (.bool b)).put (some 18) (.bool (!b))→Q .normal a' w') :
 (Code.region 3 Axg false).wpIn Fence.wide n0 prog Q a w:=by
 refine wpIn_region_list ?_
 change wpListIn _ _ _ _ _ [Aqv,Aqu,Aqt,Aqs,Aqr,Aqq,Aks,Akr] _ _
 refine qvI (v:= .func (.yield l) #[] #[]) (by rfl) (xmv rfl t0) (fun a0 e0=> ?_)
 rw [←e0] at h
 have z0:=pz e0 hsz
 replace t1:=pk e0 t1
 replace t3:=pk e0 t3
 clear t0
 have t11:=pq e0 hsz
 clear e0 hsz
 refine qvI (v:= .int .i64 (i:Int)) (by rfl) (xmv rfl t3) (fun a1 e1=> ?_)
 rw [←e1] at h
 have z1:=pz e1 z0
 replace t1:=pk e1 t1
 replace t3:=pk e1 t3
 replace t11:=pk e1 t11
 have t12:=pq e1 z0
 clear e1 z0
 refine qvI (v:= .slice (some ⟨g,o,none⟩) n c) (by rfl) (xld rfl t1 LB) (fun a2 e2=> ?_)
 rw [←e2] at h
 have z2:=pz e2 z1
 replace t3:=pk e2 t3
 replace t11:=pk e2 t11
 replace t12:=pk e2 t12
 clear t1
 have t13:=pq e2 z1
 clear e2 z1
 refine qvI (v:= .int .i64 (i:Int)) (by rfl) (xmv rfl t3) (fun a3 e3=> ?_)
 rw [←e3] at h
 have z3:=pz e3 z2
 replace t11:=pk e3 t11
 replace t12:=pk e3 t12
 replace t13:=pk e3 t13
 clear t3
 have t14:=pq e3 z2
 clear e3 z2
 refine qvI (v:= (pZ g (o+7*i))) (by rfl) (xia rfl t13 t14 (Acn hi hm _)) (fun a4 e4=> ?_)
 rw [←e4] at h
 have z4:=pz e4 z3
 replace t11:=pk e4 t11
 replace t12:=pk e4 t12
 clear t13 t14
 have t15:=pq e4 z3
 clear e4 z3
 refine qvI (v:=x.a) (by rfl) (xld rfl t15 LX) (fun a5 e5=> ?_)
 rw [←e5] at h
 have z5:=pz e5 z4
 replace t11:=pk e5 t11
 replace t12:=pk e5 t12
 clear t15
 have t16:=pq e5 z4
 clear e5 z4
 refine qyI (by rfl) (by unfold Aks;go_simp) (CY) (fun e x6 hx=> ?_)
 obtain ⟨b,rfl,HF⟩:=hx
 replace h:=h b
 refine ⟨_,rfl,fun a6 e6=> ?_⟩
 rw [←e6] at h
 have z6:=pz e6 z5
 clear t11 t12 t16
 have t17:=pq e6 z5
 clear e6 z5
 refine qvI (v:= .bool (!b)) (by rfl) (by unfold Akr;go_simp) (fun a7 e7=> ?_)
 rw [←e7] at h
 have z7:=pz e7 z6
 clear t17
 clear e7 z6
 exact wpListIn_nil (h _ _ (HF) rfl)
def Ay6:Array Oper:=(⟨_,rfl⟩:{o // some o=rgB Tryz.f89 2}).1
theorem A9v {cv:Value} (Fin:Value→World→Prop) (a:Act) (w:World) (Q:Exit→Act→World→Prop) (zz:a.tmps.size=68)
 (t1:a.tmps.getD 1 undef=cv)
 (CB:Calls prog 111 #[cv] w fun e w'=> ∃v,e= .returned v∧Fin v w')
 (h:∀(v:Value) a' w',Fin v w'→a'=(a.put (some 16) (cv)).put (some 17) (v)→Q .normal a' w') :
 (Code.region 2 Ay6 false).wp prog Q a w:=by
 refine z0 rfl ?_
 refine zv rfl (xmv rfl (zi t1 rfl)) ?_
 refine zc rfl (Adc rfl (zg zz rfl)) (CB) (fun e x1 hx=> ?_)
 obtain ⟨v,rfl,HF⟩:=hx
 replace h:=h v
 refine ⟨_,rfl, ?_⟩
 exact ze rfl (h _ _ (HF) rfl)
def Atd:Oper:=⟨some 5, .assign (.tmp 18),3,"runs.go:62", #[],none⟩
def Ay5:Array Oper:= #[Atd]
theorem A9u {l n:Nat} {v:Value} (a:Act) (w:World) (Q:Exit→Act→World→Prop) (hsz:a.tmps.size=68)
 (t18:a.tmps.getD 18 undef=v)
 (h:∀a' w',w'=w→a'=a.put (some 5) (v)→Q .normal a' w') :
 (Code.region 3 Ay5 false).wpIn (Fence.wide.inRound l) n prog Q a w:=by
 refine wpIn_region_list ?_
 change wpListIn _ _ _ _ _ [Atd] _ _
 refine qvI (v:=v) (by rfl) (xas rfl t18) (fun a0 e0=> ?_)
 rw [←e0] at h
 have z0:=pz e0 hsz
 clear t18
 clear e0 hsz
 exact wpListIn_nil (h _ _ (rfl) rfl)
def Atc:Oper:=⟨some 6, .alloc 65,0,"runs.go:62", #[],none⟩
def Atb:Oper:=⟨none, .store 65 (.tmp 6) (.tmp 19),0,"runs.go:62", #[⟨0, .data⟩,⟨0, .phase⟩],none⟩
def Ay4:Array Oper:= #[Atc,Atb]
theorem A9t {l n eb:Nat} {v:Value} {w1 w2:World} (a:Act) (w:World) (Q:Exit→Act→World→Prop) (hsz:a.tmps.size=68)
 (t19:a.tmps.getD 19 undef=v)
 (EA:(Instr.alloc 65 true (.tuple #[])).run prog w= .ok (pZ eb 0) w1) (ES:(Instr.storeAt 65 (pZ eb 0) (v)).run prog w1= .ok () w2)
 (h:∀a' w',w'=w2→a'=a.put (some 6) (pZ eb 0)→Q .normal a' w') :
 (Code.region 4 Ay4 false).wpIn (Fence.wide.inRound l) n prog Q a w:=by
 refine wpIn_region_list ?_
 change wpListIn _ _ _ _ _ [Atc,Atb] _ _
 refine qkI (v:= (pZ eb 0)) (by rfl) (Abd rfl EA) (fun a0 e0=> ?_)
 rw [←e0] at h
 have z0:=pz e0 hsz
 replace t19:=pk e0 t19
 have t6:=pq e0 hsz
 clear e0 hsz
 refine qsI (by rfl) (Aai rfl t6 t19 ES) ?_
 exact wpListIn_nil (h _ _ (rfl) rfl)
def Am8:Array Oper:=(⟨_,rfl⟩:{o // some o=rgB Tryz.f89 5}).1
theorem A9s {l n:Nat} {b2 pb eb r:Nat} {x:SpV} {kv:Value} (S Fin:World→Prop) (a:Act) (w:World) (Q:Exit→Act→World→Prop) (zz:a.tmps.size=68)
 (t2:a.tmps.getD 2 undef= (pZ b2 0))
 (t6:a.tmps.getD 6 undef= (pZ eb 0))
 (hLO:¬LetsOut Q) (h0:S w.drew) (L2:∀W,S W→(Instr.loadAt 148 (pZ b2 0)).run prog W= .ok (pZ pb 0) W) (LK:∀W,S W→(Instr.loadAt 150 (pZ pb (0+0))).run prog W= .ok (kv) W) (LF:∀W,S W→(Instr.loadAt 3 (pZ eb (0+0))).run prog W= .ok (.int .i64 x.fr) W) (CC:Calls prog 112 #[kv, .int .i64 x.fr] w.drew fun e w'=> ∃q,e= .returned (.tuple #[.int .i64 (r:Int), .bool q])∧Fin w'∧S w')
 (h:∀(q:Bool) a' w',Fin w'→a'=(((((((((((a.put (some 21) (pZ pb 0)).put (some 22) (pZ pb 0)).put (some 23) (pZ pb (0+0))).put (some 24) (kv)).put (some 25) (pZ eb (0+0))).put (some 26) (.int .i64 x.fr)).put (some 27) (.tuple #[.int .i64 (r:Int), .bool q])).put (some 20) (.tuple #[.int .i64 (r:Int), .bool q])).put (some 28) (.int .i64 (r:Int))).put (some 29) (.bool q)).put (some 7) (.int .i64 (r:Int))).put (some 8) (.bool q)→Q .normal a' w') :
 (Code.region 5 Am8 true).wpIn (Fence.wide.inRound l) n prog Q a w:=by
 refine y0R hLO (fun w'=>S w') (h0) (fun hHeld=> ?_)
 refine yv 0 rfl rfl (fun w1 hw=>xld rfl (zi t2 rfl) (L2 _ hw)) hHeld ?_
 refine yv 1 rfl rfl (fun w1 hw=>xnc rfl (zg zz rfl)) hHeld ?_
 refine yv 2 rfl rfl (fun w1 hw=>xfa rfl (zg zz rfl) (Aeh _ _ _)) hHeld ?_
 refine yv 3 rfl rfl (fun w1 hw=>xld rfl (zg zz rfl) (LK _ hw)) hHeld ?_
 refine yv 4 rfl rfl (fun w1 hw=>xfa rfl (zi t6 rfl) (Afl _ _ _)) hHeld ?_
 refine yv 5 rfl rfl (fun w1 hw=>xld rfl (zg zz rfl) (LF _ hw)) hHeld ?_
 refine yc 6 rfl rfl (Aap rfl (zg zz rfl) (zg zz rfl)) (CC) (fun e x6 hx=> ?_)
 obtain ⟨q,rfl,HF,S1⟩:=hx
 replace h:=h q
 refine ⟨_,rfl,S1,fun hHeld=> ?_⟩
 refine yv 7 rfl rfl (fun w1 hw=>xmv rfl (zg zz rfl)) hHeld ?_
 refine yv 8 rfl rfl (fun w1 hw=>Aal rfl (zg zz rfl) rfl) hHeld ?_
 refine yv 9 rfl rfl (fun w1 hw=>Aal rfl (zg zz rfl) rfl) hHeld ?_
 refine yv 10 rfl rfl (fun w1 hw=>xas rfl (zg zz rfl)) hHeld ?_
 refine yv 11 rfl rfl (fun w1 hw=>xas rfl (zg zz rfl)) hHeld ?_
 exact ye rfl (h _ _ (HF) rfl)
def Am7:Array Oper:=(⟨_,rfl⟩:{o // some o=rgB Tryz.f89 6}).1
theorem A9r {l n:Nat} {b2 pb eb r:Nat} {x:SpV} {kv:Value} (S Fin:World→Prop) (a:Act) (w:World) (Q:Exit→Act→World→Prop) (zz:a.tmps.size=68)
 (t2:a.tmps.getD 2 undef= (pZ b2 0))
 (t6:a.tmps.getD 6 undef= (pZ eb 0))
 (hLO:¬LetsOut Q) (h0:S w.drew) (L2:∀W,S W→(Instr.loadAt 148 (pZ b2 0)).run prog W= .ok (pZ pb 0) W) (LK:∀W,S W→(Instr.loadAt 150 (pZ pb (0+0))).run prog W= .ok (kv) W) (LF:∀W,S W→(Instr.loadAt 3 (pZ eb (0+1))).run prog W= .ok (.int .i64 x.to) W) (CC:Calls prog 112 #[kv, .int .i64 x.to] w.drew fun e w'=> ∃q,e= .returned (.tuple #[.int .i64 (r:Int), .bool q])∧Fin w'∧S w')
 (h:∀(q:Bool) a' w',Fin w'→a'=(((((((((((a.put (some 31) (pZ pb 0)).put (some 32) (pZ pb 0)).put (some 33) (pZ pb (0+0))).put (some 34) (kv)).put (some 35) (pZ eb (0+1))).put (some 36) (.int .i64 x.to)).put (some 37) (.tuple #[.int .i64 (r:Int), .bool q])).put (some 30) (.tuple #[.int .i64 (r:Int), .bool q])).put (some 38) (.int .i64 (r:Int))).put (some 39) (.bool q)).put (some 9) (.int .i64 (r:Int))).put (some 10) (.bool q)→Q .normal a' w') :
 (Code.region 6 Am7 true).wpIn (Fence.wide.inRound l) n prog Q a w:=by
 refine y0R hLO (fun w'=>S w') (h0) (fun hHeld=> ?_)
 refine yv 0 rfl rfl (fun w1 hw=>xld rfl (zi t2 rfl) (L2 _ hw)) hHeld ?_
 refine yv 1 rfl rfl (fun w1 hw=>xnc rfl (zg zz rfl)) hHeld ?_
 refine yv 2 rfl rfl (fun w1 hw=>xfa rfl (zg zz rfl) (Aeh _ _ _)) hHeld ?_
 refine yv 3 rfl rfl (fun w1 hw=>xld rfl (zg zz rfl) (LK _ hw)) hHeld ?_
 refine yv 4 rfl rfl (fun w1 hw=>xfa rfl (zi t6 rfl) (Ad3 _ _ _)) hHeld ?_
 refine yv 5 rfl rfl (fun w1 hw=>xld rfl (zg zz rfl) (LF _ hw)) hHeld ?_
 refine yc 6 rfl rfl (Aap rfl (zg zz rfl) (zg zz rfl)) (CC) (fun e x6 hx=> ?_)
 obtain ⟨q,rfl,HF,S1⟩:=hx
 replace h:=h q
 refine ⟨_,rfl,S1,fun hHeld=> ?_⟩
 refine yv 7 rfl rfl (fun w1 hw=>xmv rfl (zg zz rfl)) hHeld ?_
 refine yv 8 rfl rfl (fun w1 hw=>Aal rfl (zg zz rfl) rfl) hHeld ?_
 refine yv 9 rfl rfl (fun w1 hw=>Aal rfl (zg zz rfl) rfl) hHeld ?_
 refine yv 10 rfl rfl (fun w1 hw=>xas rfl (zg zz rfl)) hHeld ?_
 refine yv 11 rfl rfl (fun w1 hw=>xas rfl (zg zz rfl)) hHeld ?_
 exact ye rfl (h _ _ (HF) rfl)
def Ata:Oper:=⟨some 40, .load 148 (.tmp 2),148,"runs.go:65", #[],none⟩
def As9:Oper:=⟨some 41, .move (.tmp 7),3,"runs.go:65", #[],none⟩
def Ak6:Oper:=⟨some 42, .call {callee:=Callee.value (Operand.func 113),args:= #[.tmp 40, .tmp 41],argTypes:= #[148,3]},3,"runs.go:65", #[⟨0, .data⟩,⟨1, .data⟩],none⟩
def As8:Oper:=⟨some 7, .assign (.tmp 42),3,"runs.go:65", #[⟨2, .data⟩,⟨2, .chain⟩,⟨0, .phase⟩,⟨1, .phase⟩,⟨2, .phase⟩],none⟩
def Am6:Array Oper:= #[Ata,As9,Ak6,As8]
theorem A9q {l n b2 pb ai:Nat} (Fin:Nat→World→Prop) (a:Act) (w:World) (Q:Exit→Act→World→Prop) (hsz:a.tmps.size=68)
 (t2:a.tmps.getD 2 undef= (pZ b2 0))
 (t7:a.tmps.getD 7 undef= .int .i64 (ai:Int))
 (h1:1≤n) (L2:(Instr.loadAt 148 (pZ b2 0)).run prog w= .ok (pZ pb 0) w) (CO:Calls prog 113 #[(pZ pb 0), .int .i64 (ai:Int)] w fun e w'=> ∃r:Nat,e= .returned (.int .i64 (r:Int))∧Fin r w')
 (h:∀(r:Nat) a' w',Fin r w'→a'=(((a.put (some 40) (pZ pb 0)).put (some 41) (.int .i64 (ai:Int))).put (some 42) (.int .i64 (r:Int))).put (some 7) (.int .i64 (r:Int))→Q .normal a' w') :
 (Code.region 7 Am6 false).wpIn (Fence.wide.inRound l) n prog Q a w:=by
 refine wpIn_region_list ?_
 change wpListIn _ _ _ _ _ [Ata,As9,Ak6,As8] _ _
 refine qvI (v:= (pZ pb 0)) (by rfl) (xld rfl t2 L2) (fun a0 e0=> ?_)
 rw [←e0] at h
 have z0:=pz e0 hsz
 replace t7:=pk e0 t7
 clear t2
 have t40:=pq e0 hsz
 clear e0 hsz
 refine qvI (v:= .int .i64 (ai:Int)) (by rfl) (xmv rfl t7) (fun a1 e1=> ?_)
 rw [←e1] at h
 have z1:=pz e1 z0
 replace t40:=pk e1 t40
 clear t7
 have t41:=pq e1 z0
 clear e1 z0
 refine qcR h1 (by rfl) (by unfold Ak6;go_simp) (CO) (fun e x2 hx=> ?_)
 obtain ⟨r,rfl,HF⟩:=hx
 replace h:=h r
 refine ⟨_,rfl,fun a2 e2=> ?_⟩
 rw [←e2] at h
 have z2:=pz e2 z1
 clear t40 t41
 have t42:=pq e2 z1
 clear e2 z1
 refine qvI (v:= .int .i64 (r:Int)) (by rfl) (xas rfl t42) (fun a3 e3=> ?_)
 rw [←e3] at h
 have z3:=pz e3 z2
 clear t42
 clear e3 z2
 exact wpListIn_nil (h _ _ (HF) rfl)
def As4:Oper:=⟨some 46, .load 148 (.tmp 2),148,"runs.go:65", #[],none⟩
def As3:Oper:=⟨some 47, .move (.tmp 7),3,"runs.go:65", #[],none⟩
def Ak5:Oper:=⟨some 48, .call {callee:=Callee.value (Operand.func 113),args:= #[.tmp 46, .tmp 47],argTypes:= #[148,3]},3,"runs.go:65", #[⟨0, .data⟩,⟨1, .data⟩],none⟩
def As2:Oper:=⟨some 7, .assign (.tmp 48),3,"runs.go:65", #[⟨2, .data⟩,⟨2, .chain⟩,⟨0, .phase⟩,⟨1, .phase⟩,⟨2, .phase⟩],none⟩
def Am4:Array Oper:= #[As4,As3,Ak5,As2]
theorem A9o {l n b2 pb ai:Nat} (Fin:Nat→World→Prop) (a:Act) (w:World) (Q:Exit→Act→World→Prop) (hsz:a.tmps.size=68)
 (t2:a.tmps.getD 2 undef= (pZ b2 0))
 (t7:a.tmps.getD 7 undef= .int .i64 (ai:Int))
 (h1:1≤n) (L2:(Instr.loadAt 148 (pZ b2 0)).run prog w= .ok (pZ pb 0) w) (CO:Calls prog 113 #[(pZ pb 0), .int .i64 (ai:Int)] w fun e w'=> ∃r:Nat,e= .returned (.int .i64 (r:Int))∧Fin r w')
 (h:∀(r:Nat) a' w',Fin r w'→a'=(((a.put (some 46) (pZ pb 0)).put (some 47) (.int .i64 (ai:Int))).put (some 48) (.int .i64 (r:Int))).put (some 7) (.int .i64 (r:Int))→Q .normal a' w') :
 (Code.region 9 Am4 false).wpIn (Fence.wide.inRound l) n prog Q a w:=by
 refine wpIn_region_list ?_
 change wpListIn _ _ _ _ _ [As4,As3,Ak5,As2] _ _
 refine qvI (v:= (pZ pb 0)) (by rfl) (xld rfl t2 L2) (fun a0 e0=> ?_)
 rw [←e0] at h
 have z0:=pz e0 hsz
 replace t7:=pk e0 t7
 clear t2
 have t46:=pq e0 hsz
 clear e0 hsz
 refine qvI (v:= .int .i64 (ai:Int)) (by rfl) (xmv rfl t7) (fun a1 e1=> ?_)
 rw [←e1] at h
 have z1:=pz e1 z0
 replace t46:=pk e1 t46
 clear t7
 have t47:=pq e1 z0
 clear e1 z0
 refine qcR h1 (by rfl) (by unfold Ak5;go_simp) (CO) (fun e x2 hx=> ?_)
 obtain ⟨r,rfl,HF⟩:=hx
 replace h:=h r
 refine ⟨_,rfl,fun a2 e2=> ?_⟩
 rw [←e2] at h
 have z2:=pz e2 z1
 clear t46 t47
 have t48:=pq e2 z1
 clear e2 z1
 refine qvI (v:= .int .i64 (r:Int)) (by rfl) (xas rfl t48) (fun a3 e3=> ?_)
 rw [←e3] at h
 have z3:=pz e3 z2
 clear t48
 clear e3 z2
 exact wpListIn_nil (h _ _ (HF) rfl)
def As7:Oper:=⟨some 43, .move (.tmp 7),3,"runs.go:65", #[],none⟩
def As6:Oper:=⟨some 44, .move (.tmp 9),3,"runs.go:65", #[],none⟩
def As5:Oper:=⟨some 45, .binOp BinOp.lss 3 (.tmp 43) (.tmp 44) 3,4,"runs.go:65", #[⟨0, .data⟩,⟨1, .data⟩],none⟩
def Am5:Array Oper:= #[As7,As6,As5]
theorem A9p {l n ai e:Nat} {r:Bool} (a:Act) (w:World) (Q:Exit→Act→World→Prop) (hsz:a.tmps.size=68)
 (t7:a.tmps.getD 7 undef= .int .i64 (ai:Int))
 (t9:a.tmps.getD 9 undef= .int .i64 (e:Int))
 (hr:decide ((ai:Int)<(e:Int))=r)
 (h:∀a' w',w'=w→a'=((a.put (some 43) (.int .i64 (ai:Int))).put (some 44) (.int .i64 (e:Int))).put (some 45) (.bool r)→Q .normal a' w') :
 (Code.region 8 Am5 false).wpIn (Fence.wide.inRound l) n prog Q a w:=by
 refine wpIn_region_list ?_
 change wpListIn _ _ _ _ _ [As7,As6,As5] _ _
 refine qvI (v:= .int .i64 (ai:Int)) (by rfl) (xmv rfl t7) (fun a0 e0=> ?_)
 rw [←e0] at h
 have z0:=pz e0 hsz
 replace t9:=pk e0 t9
 clear t7
 have t43:=pq e0 hsz
 clear e0 hsz
 refine qvI (v:= .int .i64 (e:Int)) (by rfl) (xmv rfl t9) (fun a1 e1=> ?_)
 rw [←e1] at h
 have z1:=pz e1 z0
 replace t43:=pk e1 t43
 clear t9
 have t44:=pq e1 z0
 clear e1 z0
 refine qvI (v:= .bool r) (by rfl) (Att rfl t43 t44 hr) (fun a2 e2=> ?_)
 rw [←e2] at h
 have z2:=pz e2 z1
 clear t43 t44
 clear e2 z1
 exact wpListIn_nil (h _ _ (rfl) rfl)
def Anv:Oper:=⟨some 49, .load 148 (.tmp 2),148,"runs.go:66", #[],none⟩
def Anu:Oper:=⟨some 50, .nilCheck (.tmp 49),0,"runs.go:66", #[⟨0, .data⟩],none⟩
def Ant:Oper:=⟨some 51, .fieldAddr 152 (.tmp 50) 1,0,"runs.go:66", #[⟨1, .data⟩],none⟩
def Ans:Oper:=⟨some 52, .load 150 (.tmp 51),150,"runs.go:66", #[⟨2, .data⟩],none⟩
def Anr:Oper:=⟨some 53, .move (.tmp 7),3,"runs.go:66", #[],none⟩
def Anq:Oper:=⟨some 54, .move (.tmp 5),3,"runs.go:66", #[],none⟩
def Anp:Oper:=⟨some 55, .indexAddr 150 (.tmp 52) (.tmp 53),0,"runs.go:66", #[⟨3, .data⟩,⟨4, .data⟩,⟨0, .phase⟩,⟨1, .phase⟩,⟨2, .phase⟩,⟨3, .phase⟩,⟨4, .phase⟩,⟨5, .phase⟩],none⟩
def Ano:Oper:=⟨none, .store 3 (.tmp 55) (.tmp 54),0,"runs.go:66", #[⟨6, .data⟩,⟨5, .data⟩,⟨0, .phase⟩,⟨1, .phase⟩,⟨2, .phase⟩,⟨3, .phase⟩,⟨4, .phase⟩,⟨5, .phase⟩],none⟩
def Ajv:Array Oper:= #[Anv,Anu,Ant,Ans,Anr,Anq,Anp,Ano]
theorem A72 {l n b2 pb g m c ai:Nat} {i:Int} {w1:World} (a:Act) (w:World) (Q:Exit→Act→World→Prop) (hsz:a.tmps.size=68)
 (t2:a.tmps.getD 2 undef= (pZ b2 0))
 (t5:a.tmps.getD 5 undef= .int .i64 i)
 (t7:a.tmps.getD 7 undef= .int .i64 (ai:Int))
 (ha:ai<m) (hm:m≤9223372036854775807) (L2:(Instr.loadAt 148 (pZ b2 0)).run prog w= .ok (pZ pb 0) w) (LH:(Instr.loadAt 150 (pZ pb (0+1))).run prog w= .ok (.slice (some ⟨g,0,none⟩) m c) w) (ES:(Instr.storeAt 3 (pZ g ai) (.int .i64 i)).run prog w= .ok () w1)
 (h:∀a' w',w'=w1→a'=((((((a.put (some 49) (pZ pb 0)).put (some 50) (pZ pb 0)).put (some 51) (pZ pb (0+1))).put (some 52) (.slice (some ⟨g,0,none⟩) m c)).put (some 53) (.int .i64 (ai:Int))).put (some 54) (.int .i64 i)).put (some 55) (pZ g ai)→Q .normal a' w') :
 (Code.region 10 Ajv false).wpIn (Fence.wide.inRound l) n prog Q a w:=by
 refine wpIn_region_list ?_
 change wpListIn _ _ _ _ _ [Anv,Anu,Ant,Ans,Anr,Anq,Anp,Ano] _ _
 refine qvI (v:= (pZ pb 0)) (by rfl) (xld rfl t2 L2) (fun a0 e0=> ?_)
 rw [←e0] at h
 have z0:=pz e0 hsz
 replace t5:=pk e0 t5
 replace t7:=pk e0 t7
 clear t2
 have t49:=pq e0 hsz
 clear e0 hsz
 refine qvI (v:= (pZ pb 0)) (by rfl) (xnc rfl t49) (fun a1 e1=> ?_)
 rw [←e1] at h
 have z1:=pz e1 z0
 replace t5:=pk e1 t5
 replace t7:=pk e1 t7
 clear t49
 have t50:=pq e1 z0
 clear e1 z0
 refine qvI (v:= (pZ pb (0+1))) (by rfl) (xfa rfl t50 (Anx _ _ _)) (fun a2 e2=> ?_)
 rw [←e2] at h
 have z2:=pz e2 z1
 replace t5:=pk e2 t5
 replace t7:=pk e2 t7
 clear t50
 have t51:=pq e2 z1
 clear e2 z1
 refine qvI (v:= .slice (some ⟨g,0,none⟩) m c) (by rfl) (xld rfl t51 LH) (fun a3 e3=> ?_)
 rw [←e3] at h
 have z3:=pz e3 z2
 replace t5:=pk e3 t5
 replace t7:=pk e3 t7
 clear t51
 have t52:=pq e3 z2
 clear e3 z2
 refine qvI (v:= .int .i64 (ai:Int)) (by rfl) (xmv rfl t7) (fun a4 e4=> ?_)
 rw [←e4] at h
 have z4:=pz e4 z3
 replace t5:=pk e4 t5
 replace t52:=pk e4 t52
 clear t7
 have t53:=pq e4 z3
 clear e4 z3
 refine qvI (v:= .int .i64 i) (by rfl) (xmv rfl t5) (fun a5 e5=> ?_)
 rw [←e5] at h
 have z5:=pz e5 z4
 replace t52:=pk e5 t52
 replace t53:=pk e5 t53
 clear t5
 have t54:=pq e5 z4
 clear e5 z4
 refine qvI (v:= (pZ g ai)) (by rfl) (xia rfl t52 t53 (Awd ha hm _)) (fun a6 e6=> ?_)
 rw [←e6] at h
 have z6:=pz e6 z5
 replace t54:=pk e6 t54
 clear t52 t53
 have t55:=pq e6 z5
 clear e6 z5
 refine qsI (by rfl) (Aai rfl t55 t54 ES) ?_
 exact wpListIn_nil (h _ _ (rfl) rfl)
def Ann:Oper:=⟨some 56, .load 148 (.tmp 2),148,"runs.go:67", #[],none⟩
def Anm:Oper:=⟨some 57, .nilCheck (.tmp 56),0,"runs.go:67", #[⟨0, .data⟩],none⟩
def Anl:Oper:=⟨some 58, .fieldAddr 152 (.tmp 57) 2,0,"runs.go:67", #[⟨1, .data⟩],none⟩
def Ank:Oper:=⟨some 59, .load 150 (.tmp 58),150,"runs.go:67", #[⟨2, .data⟩],none⟩
def Anj:Oper:=⟨some 60, .move (.tmp 7),3,"runs.go:67", #[],none⟩
def Ani:Oper:=⟨some 61, .move (.tmp 7),3,"runs.go:67", #[],none⟩
def Anh:Oper:=⟨some 62, .binOp BinOp.add 3 (.tmp 61) (Operand.const (Value.int IntKind.i64 1)) 3,3,"runs.go:67", #[⟨5, .data⟩],none⟩
def Ang:Oper:=⟨some 63, .indexAddr 150 (.tmp 59) (.tmp 60),0,"runs.go:67", #[⟨3, .data⟩,⟨4, .data⟩,⟨0, .phase⟩,⟨1, .phase⟩,⟨2, .phase⟩,⟨3, .phase⟩,⟨4, .phase⟩,⟨5, .phase⟩,⟨6, .phase⟩],none⟩
def Anf:Oper:=⟨none, .store 3 (.tmp 63) (.tmp 62),0,"runs.go:67", #[⟨7, .data⟩,⟨6, .data⟩,⟨0, .phase⟩,⟨1, .phase⟩,⟨2, .phase⟩,⟨3, .phase⟩,⟨4, .phase⟩,⟨5, .phase⟩,⟨6, .phase⟩],none⟩
def Aju:Array Oper:= #[Ann,Anm,Anl,Ank,Anj,Ani,Anh,Ang,Anf]
theorem A71 {l n b2 pb g m c ai aj:Nat} {w1:World} (a:Act) (w:World) (Q:Exit→Act→World→Prop) (hsz:a.tmps.size=68)
 (t2:a.tmps.getD 2 undef= (pZ b2 0))
 (t7:a.tmps.getD 7 undef= .int .i64 (ai:Int))
 (ha:ai<m) (hm:m≤9223372036854775807) (hE:(ai:Int)+1=(aj:Int)) (hb:(aj:Int)≤9223372036854775807) (L2:(Instr.loadAt 148 (pZ b2 0)).run prog w= .ok (pZ pb 0) w) (LH:(Instr.loadAt 150 (pZ pb (0+2))).run prog w= .ok (.slice (some ⟨g,0,none⟩) m c) w) (ES:(Instr.storeAt 3 (pZ g ai) (.int .i64 (aj:Int))).run prog w= .ok () w1)
 (h:∀a' w',w'=w1→a'=(((((((a.put (some 56) (pZ pb 0)).put (some 57) (pZ pb 0)).put (some 58) (pZ pb (0+2))).put (some 59) (.slice (some ⟨g,0,none⟩) m c)).put (some 60) (.int .i64 (ai:Int))).put (some 61) (.int .i64 (ai:Int))).put (some 62) (.int .i64 (aj:Int))).put (some 63) (pZ g ai)→Q .normal a' w') :
 (Code.region 11 Aju false).wpIn (Fence.wide.inRound l) n prog Q a w:=by
 refine wpIn_region_list ?_
 change wpListIn _ _ _ _ _ [Ann,Anm,Anl,Ank,Anj,Ani,Anh,Ang,Anf] _ _
 refine qvI (v:= (pZ pb 0)) (by rfl) (xld rfl t2 L2) (fun a0 e0=> ?_)
 rw [←e0] at h
 have z0:=pz e0 hsz
 replace t7:=pk e0 t7
 clear t2
 have t56:=pq e0 hsz
 clear e0 hsz
 refine qvI (v:= (pZ pb 0)) (by rfl) (xnc rfl t56) (fun a1 e1=> ?_)
 rw [←e1] at h
 have z1:=pz e1 z0
 replace t7:=pk e1 t7
 clear t56
 have t57:=pq e1 z0
 clear e1 z0
 refine qvI (v:= (pZ pb (0+2))) (by rfl) (xfa rfl t57 (Ay8 _ _ _)) (fun a2 e2=> ?_)
 rw [←e2] at h
 have z2:=pz e2 z1
 replace t7:=pk e2 t7
 clear t57
 have t58:=pq e2 z1
 clear e2 z1
 refine qvI (v:= .slice (some ⟨g,0,none⟩) m c) (by rfl) (xld rfl t58 LH) (fun a3 e3=> ?_)
 rw [←e3] at h
 have z3:=pz e3 z2
 replace t7:=pk e3 t7
 clear t58
 have t59:=pq e3 z2
 clear e3 z2
 refine qvI (v:= .int .i64 (ai:Int)) (by rfl) (xmv rfl t7) (fun a4 e4=> ?_)
 rw [←e4] at h
 have z4:=pz e4 z3
 replace t7:=pk e4 t7
 replace t59:=pk e4 t59
 have t60:=pq e4 z3
 clear e4 z3
 refine qvI (v:= .int .i64 (ai:Int)) (by rfl) (xmv rfl t7) (fun a5 e5=> ?_)
 rw [←e5] at h
 have z5:=pz e5 z4
 replace t59:=pk e5 t59
 replace t60:=pk e5 t60
 clear t7
 have t61:=pq e5 z4
 clear e5 z4
 refine qvI (v:= .int .i64 (aj:Int)) (by rfl) (A3x hE hb rfl t61 rfl) (fun a6 e6=> ?_)
 rw [←e6] at h
 have z6:=pz e6 z5
 replace t59:=pk e6 t59
 replace t60:=pk e6 t60
 clear t61
 have t62:=pq e6 z5
 clear e6 z5
 refine qvI (v:= (pZ g ai)) (by rfl) (xia rfl t59 t60 (Awd ha hm _)) (fun a7 e7=> ?_)
 rw [←e7] at h
 have z7:=pz e7 z6
 replace t62:=pk e7 t62
 clear t59 t60
 have t63:=pq e7 z6
 clear e7 z6
 refine qsI (by rfl) (Aai rfl t63 t62 ES) ?_
 exact wpListIn_nil (h _ _ (rfl) rfl)
def Ane:Oper:=⟨some 64, .load 3 (.tmp 4),3,"runs.go:68", #[],none⟩
def Anc:Oper:=⟨some 65, .binOp BinOp.sub 3 (.tmp 64) (Operand.const (Value.int IntKind.i64 1)) 3,3,"runs.go:68", #[⟨0, .data⟩],none⟩
def Anb:Oper:=⟨none, .store 3 (.tmp 4) (.tmp 65),0,"runs.go:68", #[⟨1, .data⟩,⟨0, .phase⟩,⟨1, .phase⟩],none⟩
def Ajt:Array Oper:= #[Ane,Anc,Anb]
theorem A70 {l n b4 k k1:Nat} {w1:World} (a:Act) (w:World) (Q:Exit→Act→World→Prop) (hsz:a.tmps.size=68)
 (t4:a.tmps.getD 4 undef= (pZ b4 0))
 (hk:(k:Int)-1=(k1:Int)) (hb: -9223372036854775808≤(k:Int)-1∧(k:Int)-1≤9223372036854775807) (LO:(Instr.loadAt 3 (pZ b4 0)).run prog w= .ok (.int .i64 (k:Int)) w) (ES:(Instr.storeAt 3 (pZ b4 0) (.int .i64 (k1:Int))).run prog w= .ok () w1)
 (h:∀a' w',w'=w1→a'=(a.put (some 64) (.int .i64 (k:Int))).put (some 65) (.int .i64 (k1:Int))→Q .normal a' w') :
 (Code.region 12 Ajt false).wpIn (Fence.wide.inRound l) n prog Q a w:=by
 refine wpIn_region_list ?_
 change wpListIn _ _ _ _ _ [Ane,Anc,Anb] _ _
 refine qvI (v:= .int .i64 (k:Int)) (by rfl) (xld rfl t4 LO) (fun a0 e0=> ?_)
 rw [←e0] at h
 have z0:=pz e0 hsz
 replace t4:=pk e0 t4
 have t64:=pq e0 hsz
 clear e0 hsz
 refine qvI (v:= .int .i64 (k1:Int)) (by rfl) (Alc rfl t64 rfl hk hb) (fun a1 e1=> ?_)
 rw [←e1] at h
 have z1:=pz e1 z0
 replace t4:=pk e1 t4
 clear t64
 have t65:=pq e1 z0
 clear e1 z0
 refine qsI (by rfl) (Aai rfl t4 t65 ES) ?_
 exact wpListIn_nil (h _ _ (rfl) rfl)
def Ana:Oper:=⟨some 66, .load 3 (.tmp 4),3,"runs.go:68", #[],none⟩
def Am9:Oper:=⟨some 67, .binOp BinOp.eql 3 (.tmp 66) (Operand.const (Value.int IntKind.i64 0)) 3,4,"runs.go:68", #[⟨0, .data⟩],none⟩
def Ajs:Array Oper:= #[Ana,Am9]
theorem A7z {l n b4 k:Nat} {r:Bool} (a:Act) (w:World) (Q:Exit→Act→World→Prop) (hsz:a.tmps.size=68)
 (t4:a.tmps.getD 4 undef= (pZ b4 0))
 (hr:decide ((k:Int)=0)=r) (LO:(Instr.loadAt 3 (pZ b4 0)).run prog w= .ok (.int .i64 (k:Int)) w)
 (h:∀a' w',w'=w→a'=(a.put (some 66) (.int .i64 (k:Int))).put (some 67) (.bool r)→Q .normal a' w') :
 (Code.region 13 Ajs false).wpIn (Fence.wide.inRound l) n prog Q a w:=by
 refine wpIn_region_list ?_
 change wpListIn _ _ _ _ _ [Ana,Am9] _ _
 refine qvI (v:= .int .i64 (k:Int)) (by rfl) (xld rfl t4 LO) (fun a0 e0=> ?_)
 rw [←e0] at h
 have z0:=pz e0 hsz
 clear t4
 have t66:=pq e0 hsz
 clear e0 hsz
 refine qvI (v:= .bool r) (by rfl) (Agt rfl t66 rfl hr) (fun a1 e1=> ?_)
 rw [←e1] at h
 have z1:=pz e1 z0
 clear t66
 clear e1 z0
 exact wpListIn_nil (h _ _ (rfl) rfl)
end
section
open Go.RowKit Go.Shelf Sq
abbrev SpP (C:List SpV):={q:SpV × Nat // C[q.2]? =some q.1}
theorem A20 (C:List SpV):∃LA:List (SpP C),LA.map (·.1)=bkZ C:=Ak0 _ fun q hq=>by
 unfold bkZ at hq
 have:=List.mem_reverse.1 hq
 obtain ⟨i,hi⟩:=List.mem_iff_getElem?.1 this
 rw [List.getElem?_zipIdx] at hi
 cases h:C[i]? with
 |none=>rw [h] at hi;cases hi
 |some x =>
  rw [h] at hi
  simp at hi
  subst hi
  exact h
theorem Asd {C:List SpV} {LA:List (SpP C)} (h:LA.map (·.1)=bkZ C):LA.length=C.length:=by
 have:=congrArg List.length h
 rw [List.length_map,Alm] at this
 exact this
theorem A1b {C:List SpV} {LA:List (SpP C)} (h:LA.map (·.1)=bkZ C) {j:Nat} {x:SpV} (hx:C[j]? =some x):∃y:SpP C,LA[C.length-1-j]? =some y∧y.1=(x,j):=by
 have g:=Av1 hx
 rw [←h,List.getElem?_map] at g
 cases q:LA[C.length-1-j]? with
 |none=>rw [q] at g;cases g
 |some y=>rw [q] at g;exact ⟨y,rfl,Option.some.inj g⟩
theorem A29 {C:List SpV} {LA:List (SpP C)} (h:LA.map (·.1)=bkZ C) {j:Nat} {x:SpV} (hx:C[j]? =some x):∃y:SpP C,y.1=(x,j)∧LA.take (C.length-j)=LA.take (C.length-(j+1))++[y]:=by
 have hj:=(List.getElem?_eq_some_iff.1 hx).1
 obtain ⟨y,g,e⟩:=A1b h hx
 refine ⟨y,e, ?_⟩
 rw [show C.length-j=(C.length-1-j)+1 by omega,show C.length-(j+1)=C.length-1-j by omega,List.take_add_one,g]
 rfl
theorem Asc {C:List SpV} {LA:List (SpP C)} (h:LA.map (·.1)=bkZ C) {pre:List (SpP C)} {y:SpP C} {k:Nat} (e:pre++[y]=LA.take k):pre.length<C.length∧y.1.2=C.length-(pre.length+1)∧pre=LA.take pre.length:=by
 have l:=Asd h
 have hl:=congrArg List.length e
 rw [List.length_append,List.length_singleton,List.length_take] at hl
 have hp:pre.length<C.length:=by omega
 have g:(LA.take k)[pre.length]? =some y:=by rw [←e];simp
 rw [List.getElem?_take,if_pos (by omega)] at g
 obtain ⟨x,hx⟩:∃x,C[C.length-1-pre.length]? =some x:=⟨_,List.getElem?_eq_getElem (by omega)⟩
 obtain ⟨y2,g2,e2⟩:=A1b h hx
 rw [show C.length-1-(C.length-1-pre.length)=pre.length by omega,g] at g2
 cases g2
 refine ⟨hp,by rw [e2];show C.length-1-pre.length=_;omega, ?_⟩
 have:=congrArg (List.take pre.length) e
 rw [List.take_left',List.take_take,Nat.min_eq_left (by omega)] at this
 ·exact this
 ·rfl
theorem Aht (w:World) (la:Option Addr) (n c:Nat):Calls prog 111 #[.slice la n c] w fun e w'=>e= .returned (.func (.func 142) #[] #[(pZ w.heap.size 0)])∧w'.heap.size=w.heap.size+1∧w'.heap[w.heap.size]? =some (.cells #[.slice la n c] 49 (0,0))∧Below w.heap.size w w':=by
 go_enter func111,ntmps111
 go_wp2
 go_ret
 exact ⟨rfl,by simp,heap_alloc_new _ _,(Below.refl _ _).alloc (Nat.le_refl _) _⟩
theorem Aou (n0 bs:Nat) (C:List SpV) (ok:∀x∈C,x.ok) (hn:C.length≤900000000000) {LA:List (SpP C)} (hLA:LA.map (·.1)=bkZ C) {la:Option Addr} {c:Nat} (w:World) (hc:w.cell? ⟨bs,0,none⟩=some (.slice la C.length c)) (hat:RSp.At w la C) :
 SeqStopsK Fence.wide n0 prog 142 #[(pZ bs 0)] (fun y:SpP C=> #[.int .i64 (y.1.2:Int),y.1.1.a]) (Kl (bs::adB la)) (fun xs=>xs=LA) (fun xs=> ∃k,xs=LA.take k) C.length w:=by
 intro l J Jx W hW hJ hJx hY h0
 have l1:=block_lt_of_cell hc
 have HC:Hid (∀W',Kl (bs::adB la) W W'→W'.cell? ⟨bs,0,none⟩=some (.slice la C.length c)):=fun W' hk=>(World.cell?_of_block (a:=⟨bs,0,none⟩) (hk bs (by simp))).trans ((hW.cell (p:=⟨bs,0,none⟩) l1).trans hc)
 have HX:Hid (∀(W':World) (j:Nat) (x:SpV),Kl (bs::adB la) W W'→C[j]? =some x→∃g o,la=some ⟨g,o,none⟩∧(Instr.loadAt 65 (pZ g (o+7*j))).run prog W'= .ok x.a W'):=fun W' j x hk hx=>by
  rcases hat with e|⟨b,off,e,hb,hr⟩
  ·rw [e] at hx;cases hx
  ·refine ⟨b,off,e,Aae.ld Aam (ok x (List.mem_of_getElem? hx)) (Aar (Aar (hr j x hx) (hW.block _ hb)) (hk b (by rw [e];simp [adB])))⟩
 have hlen:=Asd hLA
 have HLA:Hid (∀(j:Nat) (x:SpV),C[j]? =some x→∃y:SpP C,y.1=(x,j)∧LA.take (C.length-j)=LA.take (C.length-(j+1))++[y]):=fun j x hx=>A29 hLA hx
 have HY:=Aaa hY
 have H0:=Aaa h0
 obtain ⟨n,hnn⟩:∃n,C.length=n:=⟨_,rfl⟩
 have HN:=Aaa hnn
 rw [hnn] at hn HC
 have HL:=Aaa hlen
 clear hY h0 hc hat hnn hLA hlen ok
 refine callsIn_of_wp func142 rfl trivial ?_ rfl
 simp only [ntmps142,List.size_toArray,List.length_cons,List.length_nil,Nat.reduceAdd,Nat.reduceSub,Array.replicate_succ,Array.replicate_zero,List.push_toArray,List.append_toArray,List.nil_append,List.cons_append]
 refine wpIn_wide.2 ?_
 have hlb0:(Instr.loadAt 49 (pZ bs 0)).run prog W= .ok (.slice la n c) W:=by
  have hc:=HC.out W (fun _ _=>rfl)
  go_simp
 go_upto_region 0 with fail
 refine En.zqc tab rfl (En.st (hlb0) (En.ar (En.wI ((by omega))) (En.fi ?_)))
 intro a' w1 hw ha
 obtain rfl:W=w1:=hw.symm
 subst ha
 simp only [En.pM,En.pU,Act.put,qsA,qsB,qsC]
 clear hlb0
 go_wp2
 go_loopw [3] (fun v3 wr=> ∃k:Nat,v3= .int .i64 ((k:Int)-1)∧k≤n∧Hid (J (LA.take (C.length-k)) wr∧Kl (bs::adB la) W wr)) (fun v3 _=>(match v3 with | .int _ i=>(i+1).toNat|_=>0))
 case atStart=>exact ⟨n,rfl,Nat.le_refl _,by rw [HN.out,Nat.sub_self];exact H0.out,fun _ _=>rfl⟩
 case round =>
  obtain ⟨k,rfl,hk,HI⟩:=hrel
  cases k with
  |zero =>
   go_upto_region 1 with fail
   refine En.zqc tab rfl (En.cm (c':=false) ((by decide)) (En.fi ?_))
   intro a' w1 hw ha
   obtain rfl:wr=w1:=hw.symm
   subst ha
   simp only [En.pM,En.pU,Act.put,qsA,qsB,qsC]
   go_wp2
   go_end0
   refine ⟨⟨_,rfl⟩, .inl ?_⟩
   have:=HI.out.1
   rw [Nat.sub_zero, ←HL.out,List.take_length] at this
   exact this
  |succ j =>
   obtain ⟨x,hx⟩:∃x,C[j]? =some x:=⟨_,List.getElem?_eq_getElem (by rw [HN.out];omega)⟩
   have hz:((j+1:Nat):Int)-1=(j:Int):=by omega
   rw [hz]
   go_upto_region 1 with fail
   refine En.zqc tab rfl (En.cm (c':=true) ((decide_eq_true (by omega))) (En.fi ?_))
   intro a' w1 hw ha
   obtain rfl:wr=w1:=hw.symm
   subst ha
   simp only [En.pM,En.pU,Act.put,qsA,qsB,qsC]
   obtain ⟨g,o,rfl,hld⟩:=HX.out wr j x HI.out.2 hx
   have hlb:(Instr.loadAt 49 (pZ bs 0)).run prog wr= .ok (.slice (some ⟨g,o,none⟩) n c) wr:=by
        have hc:=HC.out wr HI.out.2
        go_simp
   have h63:n≤9223372036854775807:=by omega
   obtain ⟨y,hy,hst⟩:=HLA.out j x hx
   have CY:=HY.out (LA.take (C.length-(j+1))) y wr HI.out.1 (by rw [List.length_take,HL.out,HN.out];omega)
   rw [←hst,hy] at CY
   have HK:=Aaa HI.out.2
   clear HI hst hz hy
   go_upto_region 3 with fail
   refine (wpIn_wide (n:=n0)).1 ?_
   refine A81 (bs:=bs) (g:=g) (o:=o) (n:=n) (c:=c) (i:=j) (l:=l) (x:=x) (fun b W'=>(b=true∧J (LA.take (C.length-j)) W'∧Kl (bs::adB (some ⟨g,o,none⟩)) wr W')∨(b=false∧Jx (LA.take (C.length-j)) W')) _ wr _ rfl rfl rfl rfl hk h63 hlb hld (CY.mono ?_) ?_
   ·rintro e W' (⟨rfl,q1,q2⟩|⟨rfl,q1⟩)
    ·exact ⟨true,rfl, .inl ⟨rfl,q1,q2⟩⟩
    ·exact ⟨false,rfl, .inr ⟨rfl,q1⟩⟩
   intro b a' w2 hP ha
   subst ha
   simp only [Act.put,qsA,qsB,qsC]
   clear hlb hld CY
   rcases hP with ⟨rfl,q1,q2⟩|⟨rfl,q1⟩
   ·have Q1:=Aaa q1
    have Q2:=Aaa (HK.out.trans q2)
    clear q1 q2 HK
    go_upto_region 2 with fail
    refine En.zqc tab rfl (En.ar (En.wI ((by omega))) (En.fi ?_))
    intro a' w3 hw ha
    obtain rfl:w2=w3:=hw.symm
    subst ha
    simp only [En.pM,En.pU,Act.put,qsA,qsB,qsC]
    go_wp2
    refine ⟨⟨j,rfl,by omega,Q1.out,Q2.out⟩, ?_⟩
    show ((j:Int)-1+1).toNat<((j:Int)+1).toNat
    omega
   ·have Q1:=Aaa q1
    clear q1 HK
    go_wp2
    refine bodyPost_ret (results_none rfl _ _ _) rfl ?_
    exact ⟨⟨_,rfl⟩, .inr ⟨_,⟨C.length-j,rfl⟩,Q1.out⟩⟩
structure ZT (B:Nat) (W W':World):Prop where
 bel:Below B W W'
 nz:∀(j:Nat) (c:Array Value) (t:TypeId) (z:Nat × Nat),W.heap[j]? =some (.cells c t z)→t≠3→W'.heap[j]? =W.heap[j]?
 no:∀(j:Nat) (o:Obj),W.heap[j]? =some o→o.isCells=false→W'.heap[j]? =W.heap[j]?
theorem ZT.trans {B:Nat} {W1 W2 W3:World} (h:ZT B W1 W2) (k:ZT B W2 W3):ZT B W1 W3 :=
 ⟨h.bel.trans k.bel,fun j c t z hj ht=>(k.nz j c t z ((h.nz j c t z hj ht).trans hj) ht).trans (h.nz j c t z hj ht),fun j o hj ho=>(k.no j o ((h.no j o hj ho).trans hj) ho).trans (h.no j o hj ho)⟩
theorem ZT.below {B:Nat} {W W':World} (hB:B≤W.heap.size) (b:Below W.heap.size W W'):ZT B W W' :=
 ⟨b.mono hB,fun j c t z hj _=>b.block j (Array.getElem?_eq_some_iff.1 hj).1,fun j o hj _=>b.block j (Array.getElem?_eq_some_iff.1 hj).1⟩
theorem ZT.tch {B:Nat} {W W':World} {base:Nat} {v:Value} {L:List Int} (hB:B≤W.heap.size) (hb:B≤base) (o:Ab0 W base v L) (t:Tch (fun j=>v.ownBlock=some j) W W'):ZT B W W' :=
 ⟨t.below hB (fun j hj=>Nat.le_trans hb (o.ge j hj).1),fun j c ty z hj ht=>t.block j (Array.getElem?_eq_some_iff.1 hj).1 (fun e=>by
  obtain ⟨_,c2,hc2⟩:=o.ge j e
  exact ht (Aag hj hc2)),fun j ob hj ho=>t.block j (Array.getElem?_eq_some_iff.1 hj).1 (fun e=>by
  obtain ⟨_,c2,hc2⟩:=o.ge j e
  rw [hj] at hc2;cases hc2;cases ho)⟩
theorem ZT.refl (B:Nat) (W:World):ZT B W W:=⟨Below.refl _ _,fun _ _ _ _ _ _=>rfl,fun _ _ _ _=>rfl⟩
theorem Acj.seth {w:World} {base pb:Nat} {P:PcV} {K H:List Int} {X:List Nat} (h:Acj w base pb P K H X) {i:Nat} (hi:i<H.length) (x:Int):∃g cap,P.hv= .slice (some ⟨g,0,none⟩) H.length cap∧(Instr.storeAt 3 (pZ g i) (.int .i64 x)).run prog w= .ok () (w.setCell ⟨g,i,none⟩ (.int .i64 x))∧Acj (w.setCell ⟨g,i,none⟩ (.int .i64 x)) base pb P K (H.set i x) X∧Tch (fun j=>P.hv.ownBlock=some j) w (w.setCell ⟨g,i,none⟩ (.int .i64 x)):=by
 obtain ⟨g,cap,e,hg,es,o,t⟩:=h.h.set (i:=i) hi x
 have kb:∀j,j<w.heap.size→P.hv.ownBlock≠some j→(w.setCell ⟨g,i,none⟩ (iz x)).heap[j]? =w.heap[j]? :=fun j hj hn=>t.block j hj hn
 exact ⟨g,cap,e,es,⟨(kb pb (h.lt (.inl rfl)) h.npb.2.1).trans h.cell,h.k.keep (fun j hj=>kb j (h.lt (.inr (.inl hj))) (h.dk j hj).1),o,h.x.keep (fun j hj=>kb j (h.lt (.inr (.inr (.inr hj)))) (fun q=>h.dh j q hj)),h.dk,h.dh,h.b⟩,t⟩
def Azy (H:List Int):Nat:=H.countP (fun z=>decide (z= -1))
structure FdS (w:World) (base pb b2 b4:Nat) (P:PcV) (K:List Int) (R:List Int→List Nat→Prop) (W:World):Prop where
 bx:W.heap[b2]? =some (.cells #[(pZ pb 0)] 148 (0,0))
 st:∃H X,Acj W base pb P K H X∧NX H X∧H.length+1=K.length∧R H X∧W.heap[b4]? =some (.cells #[.int .i64 (Azy H:Int)] 3 (0,0))
 tch:Tch (fun j=>P.hv.ownBlock=some j∨P.xv.ownBlock=some j) w W
 bl:base≤w.heap.size
 b4:w.heap.size≤b4
 pl:∀j,P.bl pb j→j<w.heap.size
section
variable {w W W':World} {base pb b2 b4:Nat} {P:PcV} {K:List Int} {R R':List Int→List Nat→Prop}
theorem FdS.imp (h:FdS w base pb b2 b4 P K R W) (hr:∀H X,H.length+1=K.length→NX H X→R H X→R' H X):FdS w base pb b2 b4 P K R' W:=by
 obtain ⟨H,X,p,n,l,r,c⟩:=h.st
 exact ⟨h.bx,⟨H,X,p,n,l,hr H X l n r,c⟩,h.tch,h.bl,h.b4,h.pl⟩
theorem FdS.ge (h:FdS w base pb b2 b4 P K R W):w.heap.size≤W.heap.size:=h.tch.size
theorem FdS.cp (h:FdS w base pb b2 b4 P K R W) (cp:∀(j:Nat) (c:Array Value) (t:TypeId) (z:Nat × Nat),W.heap[j]? =some (.cells c t z)→W'.heap[j]? =W.heap[j]?) (b:Below w.heap.size W W'):FdS w base pb b2 b4 P K R W':=by
 obtain ⟨H,X,p,n,l,r,c⟩:=h.st
 refine ⟨(cp _ _ _ _ h.bx).trans h.bx,⟨H,X,p.keep (fun j hj=>b.block j (h.pl j hj)),n,l,r,(cp _ _ _ _ c).trans c⟩,⟨b.os.trans h.tch.os,b.tape.trans h.tch.tape,b.output.trans h.tch.output,Nat.le_trans h.tch.size b.size,fun k hk hn=>(b.block k hk).trans (h.tch.block k hk hn)⟩,h.bl,h.b4,h.pl⟩
theorem FdS.below (h:FdS w base pb b2 b4 P K R W) (b:Below W.heap.size W W'):FdS w base pb b2 b4 P K R W' :=
 h.cp (fun j c t z hj=>b.block j (Array.getElem?_eq_some_iff.1 hj).1) (b.mono h.ge)
theorem FdS.ld2 (h:FdS w base pb b2 b4 P K R W):(Instr.loadAt 148 (pZ b2 0)).run prog W= .ok (pZ pb 0) W:=by
 have hc:W.cell? ⟨b2,0,none⟩=some (pZ pb 0):=(cell_of_row W b2 0 _ _ _ h.bx).trans rfl
 go_simp
theorem FdS.zt (h:FdS w base pb b2 b4 P K R W) {v:Value} {L:List Int} (o:Ab0 W base v L) (t:Tch (fun j=>v.ownBlock=some j) W W'):ZT base W W':=ZT.tch (Nat.le_trans h.bl h.ge) (Nat.le_refl _) o t
theorem FdS.search (h:FdS w base pb b2 b4 P K R W) (ka:K.Pairwise (· < ·)) (kn:K.length≤2000000000000) {p:Nat} {x:Int} (hp:K[p]? =some x):Calls prog 112 #[P.kv, .int .i64 x] W fun e w'=> ∃q,e= .returned (.tuple #[.int .i64 (p:Int), .bool q])∧FdS w base pb b2 b4 P K R w'∧ZT base W w':=by
 obtain ⟨H,X,pc,_⟩:=h.st
 refine (pc.k.search ka kn hp).mono ?_
 rintro e w' ⟨b,rfl,q,rfl⟩
 have bd:Below W.heap.size W (W.drewN q):=Go.Proofs.YtifendlpeebofaaGreatDoor.K.below_drewN (Below.refl _ _) q
 exact ⟨b,rfl,h.below bd,ZT.below (Nat.le_trans h.bl h.ge) bd⟩
theorem FdS.open (h:FdS w base pb b2 b4 P K R W) (kn:K.length≤2000000000000) {s:Nat} (hs:s<K.length):Calls prog 113 #[(pZ pb 0), .int .i64 (s:Int)] W fun e w'=> ∃r:Nat,e= .returned (.int .i64 (r:Int))∧s≤r∧r<K.length∧FdS w base pb b2 b4 P K (fun H X=>(∃X0,R H X0)∧X[r]? =some r∧∀b,s≤b→b<r→H[b]? ≠some (-1)) w'∧ZT base W w':=by
 obtain ⟨H,X,pc,n,l,r0,c⟩:=h.st
 have hxl:X.length=K.length:=by have:=n.len;omega
 refine (Ayf pc n (s:=s) (by omega) (by omega)).mono ?_
 rintro e w' ⟨r,rfl,X',q1,q2,q3,q4,q5,q6,q7⟩
 have hz:=h.zt pc.x q7
 have hrl:=(List.getElem?_eq_some_iff.1 q5).1
 refine ⟨r,rfl,q4,by omega,⟨(hz.nz _ _ _ _ h.bx (by decide)).trans h.bx,⟨H,X',q1,q2,l,⟨⟨X,r0⟩,q5,q6⟩, ?_⟩,h.tch.trans' q7 (fun j hj q=> .inr q),h.bl,h.b4,h.pl⟩,hz⟩
 exact (q7.block b4 (Array.getElem?_eq_some_iff.1 c).1 (fun e=>by have:=h.pl b4 (.inr (.inr (.inr e)));have:=h.b4;omega)).trans c
theorem FdS.take (h:FdS w base pb b2 b4 P K R W) (kn:K.length≤2000000000000) {s:Nat} (hs:s+1<K.length) {i:Nat} (hR:∀H X,R H X→X[s]? =some s) :
 ∃gh ch gx cx k W1 W2 W3,(Instr.loadAt 150 (pZ pb (0+1))).run prog W= .ok (.slice (some ⟨gh,0,none⟩) (K.length-1) ch) W∧(Instr.storeAt 3 (pZ gh s) (.int .i64 (i:Int))).run prog W= .ok () W1 ∧
  (Instr.loadAt 148 (pZ b2 0)).run prog W1= .ok (pZ pb 0) W1∧(Instr.loadAt 150 (pZ pb (0+2))).run prog W1= .ok (.slice (some ⟨gx,0,none⟩) K.length cx) W1∧(Instr.storeAt 3 (pZ gx s) (.int .i64 ((s+1:Nat):Int))).run prog W1= .ok () W2 ∧
  (Instr.loadAt 3 (pZ b4 0)).run prog W2= .ok (.int .i64 ((k+1:Nat):Int)) W2∧(Instr.storeAt 3 (pZ b4 0) (.int .i64 (k:Int))).run prog W2= .ok () W3∧(Instr.loadAt 3 (pZ b4 0)).run prog W3= .ok (.int .i64 (k:Int)) W3∧k≤2000000000000 ∧
  FdS w base pb b2 b4 P K (fun H' X'=> ∃H X,R H X∧H[s]? =some (-1)∧H'=H.set s (i:Int)∧Azy H'=k) W3∧ZT base W W3:=by
 obtain ⟨H,X,pc,n,l,r0,c⟩:=h.st
 have hxl:X.length=K.length:=by have:=n.len;omega
 have hx:=hR H X r0
 have ho:H[s]? =some (-1):=by
  rcases (n.fix s s hx).1 rfl with q|q
  ·omega
  ·exact q
 obtain ⟨gh,ch,e1,s1,p1,t1⟩:=pc.seth (i:=s) (by omega) (i:Int)
 obtain ⟨W1,hW1⟩:∃W1,W.setCell ⟨gh,s,none⟩ (.int .i64 (i:Int))=W1:=⟨_,rfl⟩
 rw [hW1] at s1 p1 t1
 obtain ⟨gx,cx,e2,s2,p2,t2⟩:=p1.setx (i:=s) (by omega) (s+1)
 obtain ⟨W2,hW2⟩:∃W2,W1.setCell ⟨gx,s,none⟩ (.int .i64 ((s+1:Nat):Int))=W2:=⟨_,rfl⟩
 rw [hW2] at s2 p2 t2
 have z1:=h.zt pc.h t1
 have n4:∀j,P.bl pb j→j≠b4:=fun j hj e=>by have:=h.pl j hj;have:=h.b4;omega
 have c1:=(t1.block b4 (Array.getElem?_eq_some_iff.1 c).1 (fun e=>n4 b4 (.inr (.inr (.inl e))) rfl)).trans c
 have c2:=(t2.block b4 (Array.getElem?_eq_some_iff.1 c1).1 (fun e=>n4 b4 (.inr (.inr (.inr e))) rfl)).trans c1
 have bw1:base≤W1.heap.size:=Nat.le_trans (Nat.le_trans h.bl h.ge) t1.size
 have z2:ZT base W1 W2:=ZT.tch bw1 (Nat.le_refl _) p1.x t2
 have bx1:=(z1.nz _ _ _ _ h.bx (by decide)).trans h.bx
 have bx2:=(z2.nz _ _ _ _ bx1 (by decide)).trans bx1
 have hcz:Azy H=Azy (H.set s (i:Int))+1:=Aj5 ho (by omega)
 obtain ⟨k,hk⟩:∃k,Azy (H.set s (i:Int))=k:=⟨_,rfl⟩
 rw [hk] at hcz
 rw [hcz] at c2
 have hkl:k≤2000000000000:=by
  have:Azy H≤H.length:=List.countP_le_length
  omega
 have hc:W2.cell? ⟨b4,0,none⟩=some (.int .i64 ((k+1:Nat):Int)):=(cell_of_row W2 b4 0 _ _ _ c2).trans rfl
 have hf:=frozen_of_row W2 b4 0 _ _ c2
 have c3:=Go.heap_setCell_same W2 b4 0 _ _ (.int .i64 (k:Int)) c2
 have l2:(Instr.loadAt 3 (pZ b4 0)).run prog W2= .ok (.int .i64 ((k+1:Nat):Int)) W2:=by clear hf c3;go_simp
 have s3:(Instr.storeAt 3 (pZ b4 0) (.int .i64 (k:Int))).run prog W2= .ok () (W2.setCell ⟨b4,0,none⟩ (.int .i64 (k:Int))):=by clear c3;go_simp
 obtain ⟨W3,hW3⟩:∃W3,W2.setCell ⟨b4,0,none⟩ (.int .i64 (k:Int))=W3:=⟨_,rfl⟩
 have o3:∀j,j≠b4→W3.heap[j]? =W2.heap[j]? :=fun j hj=>by rw [←hW3];exact Abx hj
 have b3:Below base W2 W3:=by rw [←hW3];exact Adu (Nat.le_trans h.bl h.b4)
 rw [hW3] at s3 c3
 have hc3:W3.cell? ⟨b4,0,none⟩=some (.int .i64 (k:Int)):=(cell_of_row W3 b4 0 _ _ _ c3).trans rfl
 have z3:ZT base W2 W3:=⟨b3,fun j cc t z hj ht=>o3 j (fun e=>by rw [e] at hj;exact ht (Aag hj c2)),fun j o hj ho=>o3 j (fun e=>by rw [e,c2] at hj;cases hj;cases ho)⟩
 have p3:=p2.keep (w':=W3) (fun j hj=>o3 j (n4 j hj))
 have L1:=pc.ldh
 rw [e1] at L1
 have L2:=p1.ldx
 rw [e2,hxl] at L2
 refine ⟨gh,ch,gx,cx,k,W1,W2,W3,by rw [show K.length-1=H.length by omega];exact L1,s1, ?_,L2,s2,l2,s3,by clear hc;go_simp,hkl,⟨(z3.nz _ _ _ _ bx2 (by decide)).trans bx2,⟨_,_,p3,n.take hx (by omega) (by omega),by simpa using l,⟨H,X,r0,ho,rfl,hk⟩,by rw [hk];exact c3⟩, ?_,h.bl,h.b4,h.pl⟩,(z1.trans z2).trans z3⟩
 ·have hcb:W1.cell? ⟨b2,0,none⟩=some (pZ pb 0):=(cell_of_row W1 b2 0 _ _ _ bx1).trans rfl
  clear hc hc3
  go_simp
 ·have t12:=(h.tch.trans' t1 (fun j _ q=> .inl q)).trans' t2 (fun j _ q=> .inr q)
  refine ⟨b3.os.trans t12.os,b3.tape.trans t12.tape,b3.output.trans t12.output,Nat.le_trans t12.size b3.size,fun j hj hn=>(o3 j (fun e=>by have:=h.b4;omega)).trans (t12.block j hj hn)⟩
end
attribute [local go_sem] Oper.semAt_some
structure RdS (base bs eb:Nat) (la:Option Addr) (x:SpV) (W0 W:World):Prop where
 zt:ZT base W0 W
 bx:RSp.Bx W eb x
 it:∃c,W.heap[bs]? =some (.cells c 49 (0,0))
 it0:∃c,W0.heap[bs]? =some (.cells c 49 (0,0))
 la:∀j∈adB la,j<base
theorem RdS.step {base bs eb:Nat} {la:Option Addr} {x:SpV} {W0 W W':World} (h:RdS base bs eb la x W0 W) (z:ZT base W W'):RdS base bs eb la x W0 W':=by
 obtain ⟨c,hc⟩:=h.it
 exact ⟨h.zt.trans z,(z.nz _ _ _ _ h.bx (by decide)).trans h.bx,⟨c,(z.nz _ _ _ _ hc (by decide)).trans hc⟩,h.it0,h.la⟩
theorem RdS.keeps {base bs eb:Nat} {la:Option Addr} {x:SpV} {W0 W:World} (h:RdS base bs eb la x W0 W) (B:Nat):KeepsFrom B W0 W∧Kl (bs::adB la) W0 W:=by
 refine ⟨⟨h.zt.bel.size,fun k o _ hk ho=>(h.zt.no k o hk ho).trans hk⟩,fun j hj=> ?_⟩
 rcases List.mem_cons.1 hj with rfl|hj
 ·obtain ⟨c,hc⟩:=h.it0
  exact h.zt.nz _ _ _ _ hc (by decide)
 ·exact h.zt.bel.block j (h.la j hj)
structure SlF (pb b2 b4 i eb ai e:Nat) (a:Act):Prop where
 z:a.tmps.size=68
 t2:a.tmps.getD 2 undef= (pZ b2 0)
 t4:a.tmps.getD 4 undef= (pZ b4 0)
 t5:a.tmps.getD 5 undef= .int .i64 (i:Int)
 t7:a.tmps.getD 7 undef= .int .i64 (ai:Int)
 t9:a.tmps.getD 9 undef= .int .i64 (e:Int)
section
variable {pb b2 b4 i eb ai e:Nat} {a:Act}
theorem SlF.put (h:SlF pb b2 b4 i eb ai e a) {j:Nat} {v:Value} (hj:j≠2∧j≠4∧j≠5∧j≠7∧j≠9):SlF pb b2 b4 i eb ai e (a.put (some j) v):=by
 obtain ⟨h2,h4,h5,h7,h9⟩:=hj
 exact ⟨Aff.trans h.z,by rw [Ac0,if_neg (fun q=>h2 q.symm)];exact h.t2,by rw [Ac0,if_neg (fun q=>h4 q.symm)];exact h.t4,by rw [Ac0,if_neg (fun q=>h5 q.symm)];exact h.t5,by rw [Ac0,if_neg (fun q=>h7 q.symm)];exact h.t7,by rw [Ac0,if_neg (fun q=>h9 q.symm)];exact h.t9⟩
theorem SlF.put7 (h:SlF pb b2 b4 i eb ai e a) (r:Nat):SlF pb b2 b4 i eb r e (a.put (some 7) (.int .i64 (r:Int))) :=
 ⟨Aff.trans h.z,by rw [Ac0,if_neg (by decide)];exact h.t2,by rw [Ac0,if_neg (by decide)];exact h.t4,by rw [Ac0,if_neg (by decide)];exact h.t5,by rw [Ac0,if_pos rfl,if_pos (by rw [h.z];decide)],by rw [Ac0,if_neg (by decide)];exact h.t9⟩
end
structure A66 (i p e:Nat) (G:Nat→List Int→Prop) (D Dx:List Int→Prop):Prop where
 take:∀(a:Nat) (H:List Int),G a H→H[a]? =some (-1)→p≤a→a<e→G (a+1) (H.set a (i:Int))
 more:∀(a r:Nat) (H:List Int),G a H→(∀b,a≤b→b<r→H[b]? ≠some (-1))→G r H
 done:∀(a:Nat) (H:List Int),G a H→e≤a→D H
 full:∀(a:Nat) (H:List Int),G a H→Azy H=0→Dx H
theorem Ak3 {C:List SpV} {K:List Int} {i p e:Nat} {x:SpV} (kc:Ac8 C K) (hc:C[i]? =some x) (hp:K[p]? =some x.fr) (he:K[e]? =some x.to):A66 i p e (fun a H=>FI C K i p e a H) (fun H=>FD C K i H) (fun H=>FD C K 0 H) :=
 ⟨fun a H f ho hpa hae=>f.take kc ho hpa hae,fun a r H f h=>f.more h,fun a H f h=>f.done kc hc hp he h,fun a H f h=>f.full kc hc hp he h⟩
def Ak4:Code:=((Code.region 8 Am5 false).seq (Code.cond (Operand.tmp 45) Code.skip (Code.exit 2))).seq ((Code.block 3 ((Code.region 10 Ajv false).seq ((Code.region 11 Aju false).seq ((Code.region 12 Ajt false).seq ((Code.region 13 Ajs false).seq (Code.cond (Operand.tmp 67) (Code.exit 0) Code.skip)))))).seq (Code.region 9 Am4 false))
set_option maxHeartbeats 8000000 in
theorem Api {l n base pb b2 b4 bs eb i p e:Nat} {P:PcV} {K:List Int} {la:Option Addr} {x:SpV} {w W0:World} {G:Nat→List Int→Prop} {D Dx:List Int→Prop} (gf:A66 i p e G D Dx) (kn:K.length≤2000000000000) (h1:1≤n) (hel:e<K.length)
 {Q:Exit→Act→World→Prop} (hN:∀a W,FdS w base pb b2 b4 P K (fun H X=>D H) W→RdS base bs eb la x W0 W→Q .normal a W) (hX:∀a W,FdS w base pb b2 b4 P K (fun H X=>Dx H) W→RdS base bs eb la x W0 W→Q (.exit 0) a W)
 {a:Act} {W:World} {ai:Nat} (hs:SlF pb b2 b4 i eb ai e a) (hl:ai<K.length) (hf:FdS w base pb b2 b4 P K (fun H X=>G ai H∧X[ai]? =some ai) W) (hpa:p≤ai) (hr:RdS base bs eb la x W0 W) :
 (Code.block 2 (Code.loop Ak4)).wpIn (Fence.wide.inRound l) n prog Q a W:=by
 refine wpIn_block ?_
 refine wpIn_loop (fun a' W'=> ∃ai,SlF pb b2 b4 i eb ai e a'∧ai<K.length∧p≤ai∧FdS w base pb b2 b4 P K (fun H X=>G ai H∧X[ai]? =some ai) W'∧RdS base bs eb la x W0 W') (fun a' _=>K.length-(intOf (a'.tmps.getD 7 undef)).toNat) ⟨ai,hs,hl,hpa,hf,hr⟩ ?_
 clear hs hl hf hpa hr
 rintro a W ⟨ai,hs,hl,hpa,hf,hr⟩
 unfold Ak4
 refine wpIn_seq ?_
 refine wpIn_seq ?_
 obtain ⟨r,hrr⟩:∃r,decide ((ai:Int)<(e:Int))=r:=⟨_,rfl⟩
 refine A9p (ai:=ai) (e:=e) (r:=r) a W _ hs.z hs.t7 hs.t9 hrr ?_
 intro a2 W2 hw ha
 obtain rfl:W=W2:=hw.symm
 have s2:SlF pb b2 b4 i eb ai e a2:=by rw [ha];exact ((hs.put (by decide)).put (by decide)).put (by decide)
 have t45:a2.tmps.getD 45 undef= .bool r:=by rw [ha];simp only [Ac0,Aff,hs.z, ↓reduceIte,Nat.reduceLT,Nat.reduceEqDiff,reduceCtorEq]
 clear ha
 refine wpIn_cond (t:=r) t45 ?_
 cases r with
 |false =>
  refine wpIn_exit ?_
  show Q .normal a2 W
  have hle:e≤ai:=by have:=of_decide_eq_false hrr;omega
  exact hN _ _ (hf.imp (fun H X _ _ f=>gf.done ai H f.1 hle)) hr
 |true =>
  refine wpIn_skip ?_
  have hlt:ai<e:=by have:=of_decide_eq_true hrr;omega
  obtain ⟨gh,ch,gx,cx,k,V1,V2,V3,f1,f2,f3,f4,f5,f6,f7,f8,hk,F3,z3⟩:=hf.take kn (s:=ai) (by omega) (i:=i) (fun H X q=>q.2)
  have r3:=hr.step z3
  refine wpIn_seq ?_
  refine wpIn_block ?_
  refine wpIn_seq ?_
  refine A72 (b2:=b2) (pb:=pb) (g:=gh) (m:=K.length-1) (c:=ch) (ai:=ai) (i:=(i:Int)) (w1:=V1) a2 W _ s2.z s2.t2 s2.t5 s2.t7 (by omega) (by omega) hf.ld2 f1 f2 ?_
  intro a3 W3 hw ha
  obtain rfl:V1=W3:=hw.symm
  have s3:SlF pb b2 b4 i eb ai e a3:=by rw [ha];exact ((((((s2.put (by decide)).put (by decide)).put (by decide)).put (by decide)).put (by decide)).put (by decide)).put (by decide)
  clear ha
  refine wpIn_seq ?_
  refine A71 (b2:=b2) (pb:=pb) (g:=gx) (m:=K.length) (c:=cx) (ai:=ai) (aj:=ai+1) (w1:=V2) a3 V1 _ s3.z s3.t2 s3.t7 hl (by omega) (by omega) (by omega) f3 f4 f5 ?_
  intro a4 W4 hw ha
  obtain rfl:V2=W4:=hw.symm
  have s4:SlF pb b2 b4 i eb ai e a4:=by rw [ha];exact (((((((s3.put (by decide)).put (by decide)).put (by decide)).put (by decide)).put (by decide)).put (by decide)).put (by decide)).put (by decide)
  clear ha
  refine wpIn_seq ?_
  refine A70 (b4:=b4) (k:=k+1) (k1:=k) (w1:=V3) a4 V2 _ s4.z s4.t4 (by omega) (by omega) f6 f7 ?_
  intro a5 W5 hw ha
  obtain rfl:V3=W5:=hw.symm
  have s5:SlF pb b2 b4 i eb ai e a5:=by rw [ha];exact (s4.put (by decide)).put (by decide)
  clear ha
  refine wpIn_seq ?_
  obtain ⟨q,hq⟩:∃q,decide ((k:Int)=0)=q:=⟨_,rfl⟩
  refine A7z (b4:=b4) (k:=k) (r:=q) a5 V3 _ s5.z s5.t4 hq f8 ?_
  intro a6 W6 hw ha
  obtain rfl:V3=W6:=hw.symm
  have s6:SlF pb b2 b4 i eb ai e a6:=by rw [ha];exact (s5.put (by decide)).put (by decide)
  have t67:a6.tmps.getD 67 undef= .bool q:=by rw [ha];simp only [Ac0,Aff,s5.z, ↓reduceIte,Nat.reduceLT,Nat.reduceEqDiff,reduceCtorEq]
  clear ha
  refine wpIn_cond (t:=q) t67 ?_
  cases q with
  |true =>
   refine wpIn_exit ?_
   show Q (.exit 0) a6 V3
   have hk0:k=0:=by have:=of_decide_eq_true hq;omega
   refine hX _ _ (F3.imp (fun H X _ _ f=> ?_)) r3
   obtain ⟨H0,X0,q0,ho,rfl,hcz⟩:=f
   exact gf.full _ _ (gf.take ai H0 q0.1 ho hpa hlt) (by rw [hk0] at hcz;exact hcz)
  |false =>
   refine wpIn_skip ?_
   refine A9o (b2:=b2) (pb:=pb) (ai:=ai) (fun r W'=>ai≤r∧r<K.length∧(FdS w base pb b2 b4 P K (fun H X=>G r H∧X[r]? =some r) W'∧ai<r)∧ZT base V3 W') a6 V3 _ s6.z s6.t2 s6.t7 h1 F3.ld2 ((F3.open kn (s:=ai) hl).mono ?_) ?_
   ·rintro e' W' ⟨r,rfl,q1,q2,q3,q4⟩
    refine ⟨r,rfl,q1,q2,⟨q3.imp (fun H X _ _ f=> ?_), ?_⟩,q4⟩
    ·obtain ⟨⟨X0,H0,X1,g0,ho,rfl,_⟩,g1,g2⟩:=f
     exact ⟨gf.more _ _ _ (gf.take ai H0 g0.1 ho hpa hlt) (fun b h2 h3=>g2 b (by omega) h3),g1⟩
    ·rcases Nat.lt_or_ge ai r with g|g
     ·exact g
     ·obtain rfl:ai=r:=by omega
      obtain ⟨H,X,_,nx,hlen,⟨⟨X0,H0,X1,g0,ho,rfl,_⟩,g1,g2⟩,_⟩:=q3.st
      have al:=(List.getElem?_eq_some_iff.1 ho).1
      rcases (nx.fix ai ai g1).1 rfl with y|y
      ·rw [List.length_set] at y;omega
      ·rw [List.getElem?_set_self al] at y
       have:=Option.some.inj y
       omega
   intro r a7 W7 hF ha
   obtain ⟨q1,q2,⟨q3,q5⟩,q4⟩:=hF
   have s7:SlF pb b2 b4 i eb r e a7:=by rw [ha];exact (((s6.put (by decide)).put (by decide)).put (by decide)).put7 r
   refine ⟨⟨r,s7,q2,by omega,q3,r3.step q4⟩, ?_⟩
   show K.length-(intOf (a7.tmps.getD 7 undef)).toNat<K.length-(intOf (a.tmps.getD 7 undef)).toNat
   rw [s7.t7,hs.t7]
   show K.length-(r:Int).toNat<K.length-(ai:Int).toNat
   simp only [Int.toNat_natCast]
   omega
attribute [local go_sem] Oper.semAt_some
theorem A3l {q:Prop} {i p e:Nat} {G:Nat→List Int→Prop} {D Dx:List Int→Prop} (h:A66 i p e G D Dx):A66 i p e (fun a H=>q→G a H) (fun H=>q→D H) (fun H=>q→Dx H) :=
 ⟨fun a H f ho hpa hae y=>h.take a H (f y) ho hpa hae,fun a r H f g y=>h.more a r H (f y) g,fun a H f g y=>h.done a H (f y) g,fun a H f g y=>h.full a H (f y) g⟩
def FdQ (w:World) (base pb b2 b4 bs:Nat) (P:PcV) (K:List Int) (R:List Int→Prop) (W:World):Prop:=FdS w base pb b2 b4 P K (fun H X=>R H) W∧∃c,W.heap[bs]? =some (.cells c 49 (0,0))
theorem FdQ.own {α:Type} (w:World) (B base pb b2 b4 bs:Nat) (P:PcV) (K:List Int) (R:α→List Int→Prop) (hB:w.heap.size≤B):OwnFrom B (fun s W=>FdQ w base pb b2 b4 bs P K (R s) W):=by
 intro s W W' row hs hg hr
 obtain ⟨h1,c,h2⟩:=hs
 have cp:∀(j:Nat) (c:Array Value) (t:TypeId) (z:Nat × Nat),W.heap[j]? =some (.cells c t z)→W'.heap[j]? =W.heap[j]? :=fun j c t z hj=>hg.block j (Array.getElem?_eq_some_iff.1 hj).1 (fun e=>by
  obtain ⟨_,o,ho,hc⟩:=hr j e.symm
  rw [hj] at ho;cases ho;cases hc)
 exact ⟨h1.cp cp ⟨hg.os,hg.tape,hg.output,hg.size,fun k hk=>hg.block k (Nat.lt_of_lt_of_le hk h1.ge) (fun e=>by have:=(hr k e.symm).1;omega)⟩,c,(cp _ _ _ _ h2).trans h2⟩
structure AxF {C:List SpV} (b2 b4:Nat) (y:SpP C) (a:Act) (W:World):Prop where
 out:∃eb,a.tmps.size=68∧a.tmps.getD 2 undef= (pZ b2 0)∧a.tmps.getD 4 undef= (pZ b4 0)∧a.tmps.getD 5 undef= .int .i64 (y.1.2:Int)∧a.tmps.getD 6 undef= (pZ eb 0)∧RSp.Bx W eb y.1.1
theorem AxF.own {C:List SpV} (b2 b4 B:Nat) (y:SpP C) (a:Act):OwnFrom B (fun (_:Unit) W=>AxF b2 b4 y a W):=by
 intro _ W W' row hs hg hr
 obtain ⟨eb,h0,h1,h2,h3,h4,h6⟩:=hs.out
 refine ⟨eb,h0,h1,h2,h3,h4,(hg.block eb (Array.getElem?_eq_some_iff.1 h6).1 (fun e=> ?_)).trans h6⟩
 obtain ⟨_,o,ho,hc⟩:=hr eb e.symm
 rw [show W.heap[eb]? =_ from h6] at ho;cases ho;cases hc
theorem FdS.ldk {w W:World} {base pb b2 b4:Nat} {P:PcV} {K:List Int} {R:List Int→List Nat→Prop} (h:FdS w base pb b2 b4 P K R W):(Instr.loadAt 150 (pZ pb (0+0))).run prog W= .ok P.kv W:=by
 obtain ⟨H,X,p,_⟩:=h.st
 exact p.ldk
theorem Azx (m:Nat):Azy (List.replicate m (-1))=m:=by simp [Azy,List.countP_replicate]
set_option maxHeartbeats 8000000 in
theorem Aph {l n base pb b2 b4 bs:Nat} {P:PcV} {C:List SpV} {la:Option Addr} {w:World} {LA pre:List (SpP C)} {y:SpP C} (hLA:LA.map (·.1)=bkZ C) (kn:(Aaf C).length≤2000000000000) (h1:1≤n) (hla:∀j∈adB la,j<base) {B:Nat}
 {a:Act} {W:World} (hI:FdQ w base pb b2 b4 bs P (Aaf C) (fun H=>(∃k,pre=LA.take k)→FD C (Aaf C) (C.length-pre.length) H) W) (hA:AxF b2 b4 y a W) :
 (Code.block 1 ((Code.region 5 Am8 true).seq ((Code.region 6 Am7 true).seq ((Code.region 7 Am6 false).seq (Code.block 2 (Code.loop Ak4)))))).wpIn (Fence.wide.inRound l) n prog
  (ownPostG B (Kl (bs::adB la)) (fun pre W=>FdQ w base pb b2 b4 bs P (Aaf C) (fun H=>(∃k,pre=LA.take k)→FD C (Aaf C) (C.length-pre.length) H) W) (fun c pre W=>c= .exit 0∧FdQ w base pb b2 b4 bs P (Aaf C) (fun H=>(∃k,pre=LA.take k)→FD C (Aaf C) 0 H) W) (pre++[y]) W) a W:=by
 obtain ⟨⟨x,i⟩,hxi⟩:=y
 obtain ⟨eb,hz,t2,t4,t5,t6,hE⟩:=hA.out
 simp only at hxi hE t5
 have hxm:=List.mem_of_getElem? hxi
 have kc:=Afp C
 obtain ⟨p,hp⟩:=List.mem_iff_getElem?.1 ((kc.mem x.fr).2 ⟨x,hxm, .inl rfl⟩)
 obtain ⟨e,he⟩:=List.mem_iff_getElem?.1 ((kc.mem x.to).2 ⟨x,hxm, .inr rfl⟩)
 have hpl:=(List.getElem?_eq_some_iff.1 hp).1
 have hel:=(List.getElem?_eq_some_iff.1 he).1
 obtain ⟨hI,cbs,hbs⟩:=hI
 obtain ⟨q,hq⟩:∃q:Prop,q=(∃k,pre++[(⟨(x,i),hxi⟩:SpP C)]=LA.take k):=⟨_,rfl⟩
 have gf:=A3l (q:=q) (Ak3 kc hxi hp he)
 have st:∀H,((∃k,pre=LA.take k)→FD C (Aaf C) (C.length-pre.length) H)→q→FI C (Aaf C) i p e p H:=fun H f y=>by
  rw [hq] at y
  obtain ⟨k,hk⟩:=y
  obtain ⟨g1,g2,g3⟩:=Asc hLA hk
  have:=f ⟨_,g3⟩
  simp only at g2
  rw [show C.length-pre.length=i+1 by omega] at this
  exact this.start p e
 have en:∀H,(q→FD C (Aaf C) i H)→((∃k,pre++[(⟨(x,i),hxi⟩:SpP C)]=LA.take k)→FD C (Aaf C) (C.length-(pre++[(⟨(x,i),hxi⟩:SpP C)]).length) H):=fun H f y=>by
  have y':=y
  obtain ⟨k,hk⟩:=y
  obtain ⟨g1,g2,g3⟩:=Asc hLA hk
  simp only at g2
  rw [List.length_append,List.length_singleton, ←g2]
  exact f (by rw [hq];exact y')
 refine wpIn_block ?_
 refine wpIn_seq ?_
 have R0:RdS base bs eb la x W W:=⟨ZT.refl _ _,hE,⟨cbs,hbs⟩,⟨cbs,hbs⟩,hla⟩
 obtain ⟨R,hR⟩:∃R:List Int→List Nat→Prop,(fun (H:List Int) (X:List Nat)=>((∃k,pre=LA.take k)→FD C (Aaf C) (C.length-pre.length) H))=R:=⟨_,rfl⟩
 rw [hR] at hI
 have bdr:∀W:World,Below W.heap.size W W.drew:=fun W=>(Below.refl _ _).drew
 have hbw:base≤W.heap.size:=Nat.le_trans hI.bl hI.ge
 have zdr:∀W:World,base≤W.heap.size→ZT base W W.drew:=fun W h=>ZT.below h (bdr W)
 refine A9s (b2:=b2) (pb:=pb) (eb:=eb) (r:=p) (x:=x) (kv:=P.kv) (fun W'=>FdS w base pb b2 b4 P (Aaf C) R W'∧RdS base bs eb la x W W') (fun W'=>FdS w base pb b2 b4 P (Aaf C) R W'∧RdS base bs eb la x W W') a W _ hz t2 t6 (by rintro ⟨_,_,h⟩;exact h) ⟨hI.below (bdr W),R0.step (zdr W hbw)⟩ (fun W' h=>h.1.ld2) (fun W' h=>h.1.ldk) (fun W' h=>Aiy h.2.bx) ?_ ?_
 ·refine ((hI.below (bdr W)).search kc.asc kn hp).mono ?_
  rintro e' W' ⟨b,rfl,g1,g2⟩
  exact ⟨b,rfl,⟨g1,(R0.step (zdr W hbw)).step g2⟩,g1,(R0.step (zdr W hbw)).step g2⟩
 intro b a2 W2 hF ha
 obtain ⟨F2,R2⟩:=hF
 have z2:a2.tmps.size=68:=by rw [ha];simp only [Aff];exact hz
 have s2:a2.tmps.getD 2 undef= (pZ b2 0):=by rw [ha];simp only [Ac0,Aff,hz, ↓reduceIte,Nat.reduceLT,Nat.reduceEqDiff,reduceCtorEq];exact t2
 have s4:a2.tmps.getD 4 undef= (pZ b4 0):=by rw [ha];simp only [Ac0,Aff,hz, ↓reduceIte,Nat.reduceLT,Nat.reduceEqDiff,reduceCtorEq];exact t4
 have s5:a2.tmps.getD 5 undef= .int .i64 (i:Int):=by rw [ha];simp only [Ac0,Aff,hz, ↓reduceIte,Nat.reduceLT,Nat.reduceEqDiff,reduceCtorEq];exact t5
 have s6:a2.tmps.getD 6 undef= (pZ eb 0):=by rw [ha];simp only [Ac0,Aff,hz, ↓reduceIte,Nat.reduceLT,Nat.reduceEqDiff,reduceCtorEq];exact t6
 have s7:a2.tmps.getD 7 undef= .int .i64 (p:Int):=by rw [ha];simp only [Ac0,Aff,hz, ↓reduceIte,Nat.reduceLT,Nat.reduceEqDiff,reduceCtorEq]
 clear ha
 have hbw2:base≤W2.heap.size:=Nat.le_trans F2.bl F2.ge
 refine wpIn_seq ?_
 refine A9r (b2:=b2) (pb:=pb) (eb:=eb) (r:=e) (x:=x) (kv:=P.kv) (fun W'=>FdS w base pb b2 b4 P (Aaf C) R W'∧RdS base bs eb la x W W') (fun W'=>FdS w base pb b2 b4 P (Aaf C) R W'∧RdS base bs eb la x W W') a2 W2 _ z2 s2 s6 (by rintro ⟨_,_,h⟩;exact h) ⟨F2.below (bdr W2),R2.step (zdr W2 hbw2)⟩ (fun W' h=>h.1.ld2) (fun W' h=>h.1.ldk) (fun W' h=>Ag0 h.2.bx) ?_ ?_
 ·refine ((F2.below (bdr W2)).search kc.asc kn he).mono ?_
  rintro e' W' ⟨b,rfl,g1,g2⟩
  exact ⟨b,rfl,⟨g1,(R2.step (zdr W2 hbw2)).step g2⟩,g1,(R2.step (zdr W2 hbw2)).step g2⟩
 intro b' a3 W3 hF ha
 obtain ⟨F3,R3⟩:=hF
 have z3:a3.tmps.size=68:=by rw [ha];simp only [Aff];exact z2
 have u2:a3.tmps.getD 2 undef= (pZ b2 0):=by rw [ha];simp only [Ac0,Aff,z2, ↓reduceIte,Nat.reduceLT,Nat.reduceEqDiff,reduceCtorEq];exact s2
 have u4:a3.tmps.getD 4 undef= (pZ b4 0):=by rw [ha];simp only [Ac0,Aff,z2, ↓reduceIte,Nat.reduceLT,Nat.reduceEqDiff,reduceCtorEq];exact s4
 have u5:a3.tmps.getD 5 undef= .int .i64 (i:Int):=by rw [ha];simp only [Ac0,Aff,z2, ↓reduceIte,Nat.reduceLT,Nat.reduceEqDiff,reduceCtorEq];exact s5
 have u7:a3.tmps.getD 7 undef= .int .i64 (p:Int):=by rw [ha];simp only [Ac0,Aff,z2, ↓reduceIte,Nat.reduceLT,Nat.reduceEqDiff,reduceCtorEq];exact s7
 have u9:a3.tmps.getD 9 undef= .int .i64 (e:Int):=by rw [ha];simp only [Ac0,Aff,z2, ↓reduceIte,Nat.reduceLT,Nat.reduceEqDiff,reduceCtorEq]
 clear ha
 have sl:SlF pb b2 b4 i eb p e a3:=⟨z3,u2,u4,u5,u7,u9⟩
 refine wpIn_seq ?_
 refine A9q (b2:=b2) (pb:=pb) (ai:=p) (fun r W'=>p≤r∧r<(Aaf C).length∧FdS w base pb b2 b4 P (Aaf C) (fun H X=>(q→FI C (Aaf C) i p e r H)∧X[r]? =some r) W'∧ZT base W3 W') a3 W3 _ z3 u2 u7 h1 F3.ld2 ((F3.open kn (s:=p) hpl).mono ?_) ?_
 ·rintro e' W' ⟨r,rfl,q1,q2,q3,q4⟩
  refine ⟨r,rfl,q1,q2,q3.imp (fun H X _ _ f=> ?_),q4⟩
  obtain ⟨⟨X0,g0⟩,g1,g2⟩:=f
  rw [←hR] at g0
  exact ⟨fun y=>(st H g0 y).more g2,g1⟩
 intro r a4 W4 hF ha
 obtain ⟨q1,q2,q3,q4⟩:=hF
 have s7:SlF pb b2 b4 i eb r e a4:=by rw [ha];exact (((sl.put (by decide)).put (by decide)).put (by decide)).put7 r
 clear ha
 refine Api (x:=x) (W0:=W) gf kn h1 hel (fun a5 W5 f5 r5=> ?_) (fun a5 W5 f5 r5=> ?_) s7 q2 q3 q1 (R3.step q4)
 ·show KeepsFrom _ _ _∧Kl _ _ _∧FdQ _ _ _ _ _ _ _ _ _ _
  have k5:=r5.keeps B
  exact ⟨k5.1,k5.2,f5.imp (fun H X _ _ f=>en H f),r5.it⟩
 ·show KeepsFrom _ _ _∧_=_∧FdQ _ _ _ _ _ _ _ _ _ _
  have k5:=r5.keeps B
  exact ⟨k5.1,rfl,f5.imp (fun H X _ _ f=>fun y=>f (by rw [hq];exact y)),r5.it⟩
attribute [local go_sem] Oper.semAt_some
theorem A0u {W:World} {b:Nat} {x:Int} (h:W.heap[b]? =some (.cells #[.int .i64 x] 3 (0,0))) (n:Int):(Instr.storeAt 3 (pZ b 0) (.int .i64 n)).run prog W= .ok () (W.setCell ⟨b,0,none⟩ (.int .i64 n))∧(W.setCell ⟨b,0,none⟩ (.int .i64 n)).heap[b]? =some (.cells #[.int .i64 n] 3 (0,0)):=by
 have hc:W.cell? ⟨b,0,none⟩=some (.int .i64 x):=(cell_of_row W b 0 _ _ _ h).trans rfl
 have hf:=frozen_of_row W b 0 _ _ h
 exact ⟨by go_simp,Go.heap_setCell_same _ _ 0 _ _ _ h⟩
theorem A7u {W:World} {b pb:Nat} (h:W.heap[b]? =some (.cells #[(pZ pb 0)] 148 (0,0))):(Instr.loadAt 148 (pZ b 0)).run prog W= .ok (pZ pb 0) W:=by
 have hc:W.cell? ⟨b,0,none⟩=some (pZ pb 0):=(cell_of_row W b 0 _ _ _ h).trans rfl
 go_simp
theorem Anw {w W:World} {base pb b2 b4 D:Nat} {P:PcV} {C:List SpV} {R:List Int→Prop} (hK:W.heap[D]? =some (.deferred (some []))) (hD:w.heap.size≤D) (h:FdS w base pb b2 b4 P (Aaf C) (fun H X=>R H) W) (hr:∀H,R H→FD C (Aaf C) 0 H):∃H X,Acj (W.putObj D (.deferred none)) base pb P (Aaf C) H X∧FD C (Aaf C) 0 H∧Tch (fun j=>P.hv.ownBlock=some j∨P.xv.ownBlock=some j) w (W.putObj D (.deferred none)):=by
 have bD:Below w.heap.size W (W.putObj D (.deferred none)):=(Below.refl _ W).grown (grownBy_putObj' W D (.deferred none)) h.ge (fun k e=>by cases e;exact hD)
 have h2:=h.cp (W':=W.putObj D (.deferred none)) (fun j c t z hj=>World.putObj_heap_other (fun e=>by
  rw [e,hK] at hj
  cases hj)) bD
 obtain ⟨H,X,p,_,_,r,_⟩:=h2.st
 exact ⟨H,X,p,hr H r,h2.tch⟩
set_option maxHeartbeats 8000000 in
theorem Ay7 {w:World} {base pb:Nat} {P:PcV} {C:List SpV} {la:Option Addr} {lc:Nat} (hat:RSp.At w la C) (ok:∀x∈C,x.ok) (hn:C.length≤900000000000) (hla:∀j∈adB la,j<base) (hb:base≤w.heap.size)
 (hp:Acj w base pb P (Aaf C) (List.replicate ((Aaf C).length-1) (-1)) (List.range (Aaf C).length)) (h2:2≤(Aaf C).length) :
 Calls prog 89 #[(pZ pb 0), .slice la C.length lc] w fun e w'=>e= .returned (.tuple #[])∧∃H X,Acj w' base pb P (Aaf C) H X∧FD C (Aaf C) 0 H∧Tch (fun j=>P.hv.ownBlock=some j∨P.xv.ownBlock=some j) w w':=by
 obtain ⟨LA,hLA⟩:=A20 C
 have kn:(Aaf C).length≤2000000000000:=by have:=Af7 C;omega
 have E1:=Aev (P:=prog) 148 (pZ pb 0) w
 have b1:Below w.heap.size w (w.alloc (.cells ((pZ pb 0)).cells 148)):=(Below.refl _ _).alloc (Nat.le_refl _) _
 have c1:(w.alloc (.cells ((pZ pb 0)).cells 148)).heap[w.heap.size]? =some (.cells #[(pZ pb 0)] 148 (0,0)):=heap_alloc_new _ _
 have z1:(w.alloc (.cells ((pZ pb 0)).cells 148)).heap.size=w.heap.size+1:=by simp
 obtain ⟨w1,hw1⟩:∃w1,w.alloc (.cells (Value.pointer (some ⟨pb,0,none⟩)).cells 148)=w1:=⟨_,rfl⟩
 rw [hw1] at E1 b1 c1 z1
 have p1:=hp.below b1
 have EA:(Instr.alloc 3 true (.tuple #[])).run prog w1= .ok (pZ w1.heap.size 0) (w1.alloc (.cells #[.int .i64 0] 3)):=by kernel_rfl
 have b2:Below w1.heap.size w1 (w1.alloc (.cells #[.int .i64 0] 3)):=(Below.refl _ _).alloc (Nat.le_refl _) _
 have c2:=heap_alloc_new w1 (.cells #[.int .i64 0] 3)
 obtain ⟨w2,hw2⟩:∃w2,w1.alloc (.cells #[.int .i64 0] 3)=w2:=⟨_,rfl⟩
 rw [hw2] at EA b2 c2
 obtain ⟨m,hm⟩:∃m,(Aaf C).length-1=m:=⟨_,rfl⟩
 have ES:(Instr.storeAt 3 (pZ w1.heap.size 0) (.int .i64 (m:Int))).run prog w2= .ok () (w2.setCell ⟨w1.heap.size,0,none⟩ (.int .i64 (m:Int))):=(A0u c2 _).1
 have c3:=(A0u c2 (m:Int)).2
 have b3:Below w1.heap.size w2 (w2.setCell ⟨w1.heap.size,0,none⟩ (.int .i64 (m:Int))):=Adu (Nat.le_refl _)
 obtain ⟨w3,hw3⟩:∃w3,w2.setCell ⟨w1.heap.size,0,none⟩ (.int .i64 (m:Int))=w3:=⟨_,rfl⟩
 rw [hw3] at ES c3 b3
 have b13:Below w1.heap.size w1 w3:=b2.trans b3
 have b03:Below w.heap.size w w3:=b1.trans (b13.mono (by omega))
 have p3:=p1.below b13
 rw [hm] at p3
 have FS:FdS w base pb w.heap.size w1.heap.size P (Aaf C) (fun H X=>FD C (Aaf C) C.length H) w3:=by
  refine ⟨(b13.block _ (by omega)).trans c1,⟨_,_,p3, ?_,by simp;omega,FD.zero (by omega), ?_⟩,Aan b03 _,hb,by omega,fun j hj=>hp.lt hj⟩
  ·have:=Ayg m
   rw [show (Aaf C).length=m+1 by omega]
   exact this
  ·rw [Azx];exact c3
 have LH:=p1.ldh
 obtain ⟨ah,ch,eh,_⟩:=p1.h.form
 rw [eh,List.length_replicate,hm] at LH
 have L2:=A7u c1
 have HB:=Aaa (Aht w3 la C.length lc)
 have HAT:=Aaa (hat.below b03)
 have HFS:=Aaa FS
 have HX:=Aaa (And.intro ok (And.intro hn (And.intro hla (And.intro kn hb))))
 have HZ:=Aaa (And.intro z1 b03)
 have HLA:=Aaa hLA
 have HE:=Aaa (And.intro E1 (And.intro L2 (And.intro LH (And.intro EA ES))))
 obtain ⟨B4,hb4⟩:∃B4,w1.heap.size=B4:=⟨_,rfl⟩
 have HB4:=Aaa hb4
 rw [hb4] at HE HFS HZ
 clear hat ok hn hla kn hb E1 b1 c1 z1 hw1 p1 EA b2 c2 hw2 ES c3 b3 hw3 b13 b03 p3 FS LH eh L2 hLA hp hb4 h2 hm
 refine (callsIn_wide (n:=4)).1 ?_
 refine callsIn_of_wp_marks func89 rfl trivial ?_ rfl
 simp only [ntmps89,List.size_toArray,List.length_cons,List.length_nil,Nat.reduceAdd,Nat.reduceSub,Array.replicate_succ,Array.replicate_zero,List.push_toArray,List.append_toArray,List.nil_append,List.cons_append]
 refine wpIn_wide.2 ?_
 go_upto_region 0 with fail
 refine En.zqc tab rfl (En.ef (HE.out.1) (En.fi ?_))
 intro a' wx hw ha
 obtain rfl:w1=wx:=hw.symm
 subst ha
 simp only [En.pM,En.pU,Act.put,qsA,qsB,qsC]
 go_upto_region 1 with fail
 refine wp_scope_straight ?_
 go_upto_region 1 with fail
 refine En.zqc tab rfl (En.st (HE.out.2.1) (En.st (HE.out.2.2.1) (En.ef (HE.out.2.2.2.1) (En.eu (HE.out.2.2.2.2) (En.fi ?_)))))
 intro a' wx hw ha
 obtain rfl:w3=wx:=hw.symm
 subst ha
 simp only [En.pM,En.pU,Act.put,qsA,qsB,qsC]
 clear HE
 go_wp2
 go_step3
 go_upto_region 2 with fail
 refine A9v (cv:= .slice la C.length lc) (fun v W=>v= .func (.func 142) #[] #[(pZ w3.heap.size 0)]∧W.heap.size=w3.heap.size+1∧W.heap[w3.heap.size]? =some (.cells #[.slice la C.length lc] 49 (0,0))∧Below w3.heap.size w3 W) _ w3 _ rfl rfl ?_ ?_
 ·refine HB.out.mono ?_
  rintro e W ⟨rfl,q⟩
  exact ⟨_,rfl,rfl,q⟩
 rintro v a' w7 ⟨rfl,z7,c7,b7⟩ ha
 subst ha
 simp only [Act.put,qsA,qsB,qsC]
 have bz:base≤w3.heap.size:=Nat.le_trans HX.out.2.2.2.2 HZ.out.2.size
 have ST:=Aaa (Aou (4-1) w3.heap.size C HX.out.1 HX.out.2.1 HLA.out w7 ((cell_of_row _ _ 0 _ _ _ c7).trans rfl) (HAT.out.below b7))
 have HI0:=Aaa (show FdQ w base pb w.heap.size B4 w3.heap.size P (Aaf C) (fun H=>(∃k,([]:List (SpP C))=LA.take k)→FD C (Aaf C) (C.length-([]:List (SpP C)).length) H) w7 from ⟨(HFS.out.below b7).imp fun H X _ _ r _=>r,_,c7⟩)
 have Z7:=Aaa z7
 have BZ:=Aaa bz
 have S37:=Aaa (show w.heap.size≤w7.heap.size from Nat.le_trans HZ.out.2.size (by omega))
 have nl:∀(W:World) (j:Nat),w.heap.size≤W.heap.size→j∈adB la→j<W.heap.size:=fun W j h hj=>by
  have h1:=HX.out.2.2.1 j hj
  have h2:=HX.out.2.2.2.2
  omega
 have NL:=Aaa nl
 clear c7 b7 z7 bz nl HB HAT HFS HB4
 go_wp2
 refine (wpIn_wide (n:=4)).1 ?_
 refine wpIn_rangeFunc_ownH (F:=Fence.wide) rfl (by omega) (gf:=142) (lb:= #[(pZ w3.heap.size 0)]) rfl trivial (enters_of func142 (by kernel_rfl) rfl)
  ST.out (fun h k=>h.trans k) ?kb (Below.refl _ _) (fun _=>rfl)
  (fun pre W=>FdQ w base pb w.heap.size B4 w3.heap.size P (Aaf C) (fun H=>(∃k,pre=LA.take k)→FD C (Aaf C) (C.length-pre.length) H) W)
  (fun c pre W=>c= .exit 0∧FdQ w base pb w.heap.size B4 w3.heap.size P (Aaf C) (fun H=>(∃k,pre=LA.take k)→FD C (Aaf C) 0 H) W)
  (FdQ.own w w7.heap.size base pb w.heap.size B4 w3.heap.size P (Aaf C) (fun (pre:List (SpP C)) H=>(∃k,pre=LA.take k)→FD C (Aaf C) (C.length-pre.length) H) S37.out)
  (fun c pre W W' row hs hg hr=>⟨hs.1,FdQ.own w w7.heap.size base pb w.heap.size B4 w3.heap.size P (Aaf C) (fun (pre:List (SpP C)) H=>(∃k,pre=LA.take k)→FD C (Aaf C) 0 H) S37.out pre W W' row hs.2 hg hr⟩)
  HI0.out (AxF w.heap.size B4) (AxF.own w.heap.size B4 w7.heap.size) ?assign ?body ?done ?stop
 case kb =>
  refine Kl.put (fun j hj=> ?_)
  have:=Z7.out
  rcases List.mem_cons.1 hj with rfl|hj
  ·omega
  ·have:=NL.out w7 j S37.out hj
   omega
 case assign =>
  intro l pre x W K hI0 hK
  have hI:=hI0.1
  obtain ⟨cbs,hbs⟩:=hI0.2
  have hz:(#[18,19].zip #[.int .i64 (x.1.2:Int),x.1.1.a]:Array (Tmp × Value))= #[(18, .int .i64 (x.1.2:Int)),(19,x.1.1.a)]:=by simp
  rw [hz]
  simp only [List.foldl_toArray',List.foldl_cons,List.foldl_nil,List.setIfInBounds_toArray,List.set_cons_succ,List.set_cons_zero]
  refine wpIn_seq ?_
  refine A9u (v:= .int .i64 (x.1.2:Int)) _ W _ rfl rfl ?_
  intro a' W' hw ha
  obtain rfl:W=W':=hw.symm
  subst ha
  have hxk:=HX.out.1 x.1.1 (List.mem_of_getElem? x.2)
  refine A9t (v:=x.1.1.a) (eb:=W.heap.size) _ W _ rfl rfl (Aae.bx_zero Aam W) (Aae.bx_new Aam W hxk) ?_
  intro a' W' hw ha
  obtain ⟨hbx,hbl⟩:=Aae.bx_is RSp W x.1.1
  rw [←hw] at hbx hbl
  refine hK _ _ (Ab9 hbl) (fun j hj=>hbl.block j ?_) ⟨hI.below hbl,cbs,(hbl.block _ (Array.getElem?_eq_some_iff.1 hbs).1).trans hbs⟩ ⟨W.heap.size, ?_, ?_, ?_, ?_, ?_,hbx⟩
  ·rcases List.mem_cons.1 hj with rfl|hj
   ·exact (Array.getElem?_eq_some_iff.1 hbs).1
   ·exact NL.out W j hI.ge hj
  ·subst ha;rfl
  ·subst ha;rfl
  ·subst ha;rfl
  ·subst ha;rfl
  ·subst ha;rfl
 case body =>
  rintro l pre x a' W hl hr' hI hA hpl
  exact Aph HLA.out HX.out.2.2.2.1 (by omega) HX.out.2.2.1 hI hA
 case done =>
  rintro D ys W hD rfl hI hK
  have END:=Aaa (Anw (base:=base) (pb:=pb) (P:=P) (C:=C) (R:=fun H=>(∃k,ys=ys.take k)→FD C (Aaf C) (C.length-ys.length) H) hK (Nat.le_trans S37.out hD) hI.1 (fun H r=>by
   have:=r ⟨ys.length,by rw [List.take_length]⟩
   rwa [Asd HLA.out,Nat.sub_self] at this))
  clear hI
  simp only [Exit.inBlock,Exit.noGoto]
  refine ⟨by simp, .inl ⟨_,_,rfl,run_takeDeferred hK, ?_⟩⟩
  exact ⟨.tuple #[],by simp [results,Tryz.f89,go_sem],rfl,END.out⟩
 case stop =>
  rintro D c pre W hD hpre hI hK
  obtain ⟨rfl,hI⟩:=hI
  have END:=Aaa (Anw (base:=base) (pb:=pb) (P:=P) (C:=C) (R:=fun H=>(∃k,pre=LA.take k)→FD C (Aaf C) 0 H) hK (Nat.le_trans S37.out hD) hI.1 (fun H r=>r hpre))
  clear hI
  refine wpIn_exit ?_
  simp only [Exit.inBlock,Exit.noGoto]
  refine ⟨by simp, .inl ⟨_,_,rfl,run_takeDeferred hK, ?_⟩⟩
  exact ⟨.tuple #[],by simp [results,Tryz.f89,go_sem],rfl,END.out⟩
end
section
open Go.RowKit
def Axn:Array Oper:=(⟨_,rfl⟩:{o // some o=rgB Tryz.f64 1}).1
theorem A87 {cv:Value} (Fin:Nat→World→Prop) (a:Act) (w:World) (Q:Exit→Act→World→Prop) (zz:a.tmps.size=81)
 (t0:a.tmps.getD 0 undef=cv)
 (CC:Calls prog 88 #[cv] w fun e w'=> ∃pb,e= .returned (pZ pb 0)∧Fin pb w')
 (h:∀(pb:Nat) a' w',Fin pb w'→a'=((a.put (some 9) (cv)).put (some 10) (pZ pb 0)).put (some 3) (pZ pb 0)→Q .normal a' w') :
 (Code.region 1 Axn false).wp prog Q a w:=by
 refine z0 rfl ?_
 refine zv rfl (xmv rfl (zi t0 rfl)) ?_
 refine zc rfl (Adc rfl (zg zz rfl)) (CC) (fun e x1 hx=> ?_)
 obtain ⟨pb,rfl,HF⟩:=hx
 replace h:=h pb
 refine ⟨_,rfl, ?_⟩
 refine zv rfl (xas rfl (zg zz rfl)) ?_
 exact ze rfl (h _ _ (HF) rfl)
def Axm:Array Oper:=(⟨_,rfl⟩:{o // some o=rgB Tryz.f64 2}).1
theorem A86 {pb:Nat} {cv:Value} (Fin:World→Prop) (a:Act) (w:World) (Q:Exit→Act→World→Prop) (zz:a.tmps.size=81)
 (t3:a.tmps.getD 3 undef= (pZ pb 0))
 (t0:a.tmps.getD 0 undef=cv)
 (CC:Calls prog 89 #[(pZ pb 0),cv] w fun e w'=>e= .returned (.tuple #[])∧Fin w')
 (h:∀a' w',Fin w'→a'=((a.put (some 11) (pZ pb 0)).put (some 12) (cv)).put (some 13) (.tuple #[])→Q .normal a' w') :
 (Code.region 2 Axm false).wp prog Q a w:=by
 refine z0 rfl ?_
 refine zv rfl (xmv rfl (zi t3 rfl)) ?_
 refine zv rfl (xmv rfl (zi t0 rfl)) ?_
 refine zc rfl (Aap rfl (zg zz rfl) (zg zz rfl)) (CC) (fun e x2 hx=> ?_)
 obtain ⟨rfl,HF⟩:=hx
 refine ⟨_,rfl, ?_⟩
 exact ze rfl (h _ _ (HF) rfl)
end
section
open Go.RowKit Go.Shelf Sq
structure Aps (C:List SpV) (nm:ByteArray):Prop where
 ok:∀c∈C,c.ok
 rt:∀c∈C,c.v.right=true
 nm:∀c∈C,c.nm=nm
 lt:∀c∈C,c.fr<c.to
 ne:C≠[]
 len:C.length≤900000000000
theorem Awq {C:List SpV} {z:Int} {v:VaV} (h:Ap7 C z=some v):∃c∈C,c.v=v:=by
 unfold Ap7 A16 at h
 split at h
 ·cases h
 ·simp only at h
  split at h
  ·rename_i c hc
   split at h
   ·cases h
   ·exact ⟨c,List.mem_of_getElem? hc,Option.some.inj h⟩
  ·cases h
def A1v (p:SpV):Prop:=p.ok∧p.v.right=true
theorem Axo {l:List SpV} {p:SpV} (hl:∀q∈l,A1v q) (hp:A1v p):∀q∈Adj l p,A1v q:=by
 intro q hq
 unfold Adj at hq
 split at hq
 ·rename_i r hr
  have hrm:=List.mem_of_getLast? hr
  split at hq
  ·rcases List.mem_append.1 hq with h|h
   ·exact hl q (List.dropLast_subset l h)
   ·rw [List.mem_singleton.1 h]
    have o:=hl r hrm
    exact ⟨⟨o.1.f0,o.1.f1,hp.1.t0,hp.1.t1,o.1.nm,o.1.v⟩,o.2⟩
  ·rcases List.mem_append.1 hq with h|h
   ·exact hl q h
   ·rw [List.mem_singleton.1 h];exact hp
 ·rcases List.mem_append.1 hq with h|h
  ·exact hl q h
  ·rw [List.mem_singleton.1 h];exact hp
section
variable {C:List SpV} {nm:ByteArray}
theorem Aps.cut (h:Aps C nm) {a:Nat} (ha:a<(Aaf C).length): -9223372036854775808≤(Aaf C).getD a 0∧(Aaf C).getD a 0≤9223372036854775807:=by
 obtain ⟨c,hc,e⟩:=((Afp C).mem _).1 (List.mem_of_getElem? (Ac6 ha))
 have o:=h.ok c hc
 rcases e with e|e
 ·rw [e];exact ⟨o.f0,o.f1⟩
 ·rw [e];exact ⟨o.t0,o.t1⟩
theorem Aps.piece (h:Aps C nm) {a:Nat} (ha:a+1<(Aaf C).length) {c:SpV} (hc:c∈C):A1v ⟨(Aaf C).getD a 0,(Aaf C).getD (a+1) 0,nm,c.v⟩:=by
 have h1:=h.cut (a:=a) (by omega)
 have h2:=h.cut ha
 exact ⟨⟨h1.1,h1.2,h2.1,h2.2,by rw [←h.nm c hc];exact (h.ok c hc).nm,(h.ok c hc).v⟩,h.rt c hc⟩
theorem Aps.runs (h:Aps C nm):∀a,a<(Aaf C).length→∀q∈Adq C nm (Aaf C) a,A1v q
 |0,_=>fun q hq=>by cases hq
 |a+1,ha=>by
  have ih:=Aps.runs h a (by omega)
  intro q hq
  unfold Adq Ahx at hq
  split at hq
  ·rename_i v hv
   obtain ⟨c,hc,rfl⟩:=Awq hv
   exact Axo ih (h.piece ha hc) q hq
  ·exact ih q hq
end
theorem Axf {l:List SpV} {q:SpV} (h:l.getLast?=some q) (x:SpV):l.dropLast++[x]=l.set (l.length-1) x:=by
 have hne:l≠[]:=fun e=>by rw [e] at h;cases h
 conv=>rhs;rw [←List.dropLast_concat_getLast hne]
 rw [List.set_append_right _ _ (by simp)]
 simp
theorem Asb {l:List SpV} {m:Nat} (hm:m+1=l.length):∃q,l.getLast?=some q∧l[m]? =some q:=by
 refine ⟨l[m], ?_,List.getElem?_eq_getElem (by omega)⟩
 rw [List.getLast?_eq_getElem?,show l.length-1=m by omega]
 exact List.getElem?_eq_getElem (by omega)
theorem A8i {W:World} {b:Nat} {p:SpV} (h:RSp.Bx W b p) (x:Int):(Instr.storeAt 3 (pZ b (0+0)) (.int .i64 x)).run prog W= .ok () (W.setCell ⟨b,0,none⟩ (.int .i64 x))∧RSp.Bx (W.setCell ⟨b,0,none⟩ (.int .i64 x)) b ⟨x,p.to,p.nm,p.v⟩:=by
 have hc:W.cell? ⟨b,0,none⟩=some (.int .i64 p.fr):=(cell_of_row W b 0 _ _ _ h).trans rfl
 have hf:=frozen_of_row W b 0 _ _ h
 exact ⟨by go_simp,Go.heap_setCell_same _ _ 0 _ _ _ h⟩
theorem A8h {W:World} {b:Nat} {p:SpV} (h:RSp.Bx W b p) (x:Int):(Instr.storeAt 3 (pZ b (0+1)) (.int .i64 x)).run prog W= .ok () (W.setCell ⟨b,1,none⟩ (.int .i64 x))∧RSp.Bx (W.setCell ⟨b,1,none⟩ (.int .i64 x)) b ⟨p.fr,x,p.nm,p.v⟩:=by
 have hc:W.cell? ⟨b,1,none⟩=some (.int .i64 p.to):=(cell_of_row W b 1 _ _ _ h).trans rfl
 have hf:=frozen_of_row W b 1 _ _ h
 exact ⟨by go_simp,Go.heap_setCell_same _ _ 1 _ _ _ h⟩
theorem Acj.geth {w:World} {base pb:Nat} {P:PcV} {K H:List Int} {X:List Nat} (h:Acj w base pb P K H X) (hne:H≠[]):∃g cap,P.hv= .slice (some ⟨g,0,none⟩) H.length cap∧∀i x,H[i]? =some x→(Instr.loadAt 3 (pZ g i)).run prog w= .ok (.int .i64 x) w:=by
 obtain ⟨g,cap,e,_,_,hc,_⟩:=h.h.at hne
 exact ⟨g,cap,e,fun i x hx=>A27 (hc i x hx)⟩
theorem Acj.getk {w:World} {base pb:Nat} {P:PcV} {K H:List Int} {X:List Nat} (h:Acj w base pb P K H X) {g cap:Nat} (e:P.kv= .slice (some ⟨g,0,none⟩) K.length cap):∀i x,K[i]? =some x→(Instr.loadAt 3 (pZ g i)).run prog w= .ok (.int .i64 x) w:=by
 intro i x hx
 obtain ⟨g',cap',e',_,_,hc,_⟩:=h.k.at (fun q=>by rw [q] at hx;cases hx)
 rw [e] at e'
 cases e'
 exact A27 (hc i x hx)
theorem Acj.nsp {w w':World} {base pb:Nat} {P:PcV} {K H:List Int} {X:List Nat} (h:Acj w base pb P K H X) (hk:∀(j:Nat) (c:Array Value) (t:TypeId) (z:Nat × Nat),w.heap[j]? =some (.cells c t z)→t≠RSp.e→w'.heap[j]? =w.heap[j]?):Acj w' base pb P K H X:=by
 refine h.keep fun j hj=> ?_
 have oz:∀{v:Value} {L:List Int},Ab0 w base v L→v.ownBlock=some j→w'.heap[j]? =w.heap[j]? :=fun o e=>by
  obtain ⟨_,c,hc⟩:=o.ge j e
  exact hk j c 3 _ hc (by decide)
 rcases hj with rfl|hj|hj|hj
 ·exact hk _ _ _ _ h.cell (by decide)
 ·exact oz h.k hj
 ·exact oz h.h hj
 ·exact oz h.x hj
theorem Aae.Own.zeroZ {κ:Type} {R:Aae κ} (I:R.Is) {w:World} {base:Nat} {v:Value} {L:List κ} (h:R.Own w base v L) (ok:∀h∈L,R.ok h) {i:Nat} (hi:i<L.length):∃g cap,v= .slice (some ⟨g,0,none⟩) L.length cap∧w.rangeAt g (R.k*i) (R.c L[i]):=by
 rcases h.2 with ⟨rfl,hn⟩|⟨g,cap,cur,rfl,hbg,hg,hnc,hcm,hcs,htake⟩
 ·omega
 ·refine ⟨g,cap,rfl,fun j u hj=> ?_⟩
  have e:=Aae.flat_get I ok (List.getElem?_eq_getElem hi) hj
  rw [cell_of_row w g _ cur R.e (0,0) hg]
  rw [←htake,List.getElem?_take] at e
  split at e
  ·simpa using e
  ·cases e
theorem Arj {w:World} {base g n cap r e sz:Nat} {F:List Value} (h:w.ownsRow base e sz (.slice (some ⟨g,0,none⟩) n cap) n F) (x:Value) (hr:r<F.length):(w.setCell ⟨g,r,none⟩ x).ownsRow base e sz (.slice (some ⟨g,0,none⟩) n cap) n (F.set r x):=by
 refine ⟨by rw [List.length_set];exact h.1, ?_⟩
 rcases h.2 with ⟨e1,_⟩|⟨g2,cap2,cur,e1,hb,hg,hnc,hcm,hcs,ht⟩
 ·cases e1
 ·cases e1
  refine .inr ⟨g,cap,cur.setIfInBounds r x,rfl,hb,Go.heap_setCell_same _ _ r _ _ _ hg,hnc,hcm,by rw [Array.size_setIfInBounds];exact hcs, ?_⟩
  rw [Array.toList_setIfInBounds,List.take_set,ht]
theorem Aae.flat_setZ {κ:Type} {R:Aae κ} (I:R.Is) {L:List κ} (ok:∀x∈L,R.ok x) {i:Nat} (hi:i<L.length) {j:Nat} (hj:j<R.k) {x:κ} {u:Value} (hx:R.c x=(R.c L[i]).set j u):(R.flat L).set (R.k*i+j) u=R.flat (L.set i x):=by
 have e:L=L.take i++L[i]::L.drop (i+1):=by rw [List.getElem_cons_drop];exact (List.take_append_drop i L).symm
 have hl:(L.take i).length=i:=by rw [List.length_take];omega
 have oky:=ok L[i] (List.getElem_mem hi)
 have okA:∀x∈L.take i,R.ok x:=fun x hx=>ok x (List.mem_of_mem_take hx)
 generalize L[i]=y at *
 have e2:L.set i x=L.take i++x::L.drop (i+1):=by
  conv=>lhs;rw [e]
  rw [List.set_append_right _ _ (by omega),hl];simp
 have lA:=Aae.flat_len I okA
 rw [hl] at lA
 have ly:=I.len y oky
 rw [e2]
 conv=>lhs;rw [e]
 rw [Aae.flat_app,Aae.flat_app,Aae.flat_cons,Aae.flat_cons,hx,List.set_append_right _ _ (by omega),lA,show R.k*i+j-R.k*i=j by omega,List.set_append_left _ _ (by omega)]
theorem Aae.own_setCellZ {κ:Type} {R:Aae κ} (I:R.Is) {w:World} {base:Nat} {g cap n:Nat} {L:List κ} (own:R.Own w base (.slice (some ⟨g,0,none⟩) n cap) L) (hn:n=L.length) (ok:∀x∈L,R.ok x) {i:Nat} (hi:i<L.length) {j:Nat} (hj:j<R.k) {x:κ} {u:Value} (hx:R.c x=(R.c L[i]).set j u):R.Own (w.setCell ⟨g,R.k*i+j,none⟩ u) base (.slice (some ⟨g,0,none⟩) n cap) (L.set i x):=by
 subst hn
 unfold Aae.Own
 rw [List.length_set, ←Aae.flat_setZ I ok hi hj hx]
 refine Arj own u ?_
 rw [Aae.flat_len I ok]
 have:=Nat.mul_le_mul_left R.k (show i+1≤L.length from hi)
 rw [Nat.mul_succ] at this
 omega
structure RnI (base pb:Nat) (P:PcV) (K H:List Int) (X:List Nat) (lv:Value) (L:List SpV) (w W:World):Prop where
 pc:Acj W base pb P K H X
 row:RSp.Own W base lv L
 bel:Below base w W
section
variable {base pb:Nat} {P:PcV} {K H:List Int} {X:List Nat} {lv:Value} {L:List SpV} {w W W':World}
theorem RnI.below (h:RnI base pb P K H X lv L w W) (hb:base≤W.heap.size) (b:Below W.heap.size W W'):RnI base pb P K H X lv L w W' :=
 ⟨h.pc.below b,h.row.below b,h.bel.trans (b.mono hb)⟩
theorem RnI.push (h:RnI base pb P K H X lv L w W) (hb:base≤W.heap.size) {x:SpV} (hx:x.ok) (hl:L.length+1≤2000000000000):∃sv w1 v' w',(Instr.buildSlice 49 1 #[(0,x.a)]).run prog W= .ok sv w1∧(Builtin.append_ #[49,49] 49 #[lv,sv]).run prog w1= .ok v' w'∧RnI base pb P K H X v' (L++[x]) w w':=by
 obtain ⟨sv,w1,v',w',e1,e2,o,b1,z1,g,q⟩:=Aae.run_push Aam W base lv L x h.row hx (by unfold maxLen;omega) (by show _*72≤_;omega) hb
 have no:∀k,lv.ownBlock=some k→base≤k∧∃c,W.heap[k]? =some (.cells c RSp.e (0,0)):=fun k hk=>h.row.cells hk
 refine ⟨sv,w1,v',w',e1,e2,(h.pc.below b1).nsp (fun j c t z hj ht=>g.block j (Array.getElem?_eq_some_iff.1 hj).1 (fun e=> ?_)),o, ?_⟩
 ·obtain ⟨_,c2,hc⟩:=no j e.symm
  have hc':=(b1.block j (Array.getElem?_eq_some_iff.1 hc).1).trans hc
  exact ht (Aag hj hc')
 ·exact (h.bel.trans (b1.mono hb)).trans ((Below.refl _ _).grown g (Nat.le_trans hb b1.size) (fun k e=>(no k e).1))
theorem RnI.grow (h:RnI base pb P K H X lv L w W) (ok:∀x∈L,x.ok) {m:Nat} {q:SpV} (hq:L[m]? =some q) (y:Int):∃g cap,lv= .slice (some ⟨g,0,none⟩) L.length cap∧W.rangeAt g (0+7*m) q.c∧g<W.heap.size∧(∀W1,Below W.heap.size W W1→∃W2,(Instr.storeAt 3 (pZ g (0+7*m+1)) (.int .i64 y)).run prog W1= .ok () W2∧(base≤W.heap.size→RnI base pb P K H X lv (L.set m ⟨q.fr,y,q.nm,q.v⟩) w W2)):=by
 have hm:=(List.getElem?_eq_some_iff.1 hq).1
 have he:L[m]=q:=(List.getElem?_eq_some_iff.1 hq).2
 obtain ⟨g,cap,e,hr⟩:=Aae.Own.zeroZ Aam h.row ok hm
 have hr':W.rangeAt g (7*m) q.c:=by rw [he] at hr;exact hr
 obtain ⟨hbg,c0,hc0⟩:=h.row.cells (k:=g) (by rw [e];rfl)
 have hg:=(Array.getElem?_eq_some_iff.1 hc0).1
 refine ⟨g,cap,e,by rw [Nat.zero_add];exact hr',hg,fun W1 b=> ?_⟩
 have hcg:=(b.block g hg).trans hc0
 have hc:W1.cell? ⟨g,7*m+1,none⟩=some (.int .i64 q.to):=(World.cell?_of_block (w:=W) (a:=⟨g,7*m+1,none⟩) (b.block g hg)).trans (hr' 1 _ rfl)
 have hf:=frozen_of_row W1 g (7*m+1) _ _ hcg
 refine ⟨W1.setCell ⟨g,7*m+1,none⟩ (.int .i64 y),by rw [Nat.zero_add];clear hr;go_simp,fun hb=> ?_⟩
 have o1:RSp.Own W1 base lv L:=h.row.below b
 have o2:=o1
 rw [e] at o2
 have o3:=Aae.own_setCellZ Aam o2 rfl ok hm (j:=1) (by decide) (x:=⟨q.fr,y,q.nm,q.v⟩) (u:= .int .i64 y) (by rw [he];rfl)
 refine ⟨(h.pc.below b).nsp (fun j c t z hj ht=>Abx (fun e=> ?_)),by rw [e];exact o3,(h.bel.trans (b.mono hb)).trans (Adu hbg)⟩
 rw [e] at hj
 exact ht (Aag hj hcg)
end
theorem Ai6 {C:List SpV} {nm:ByteArray} {K:List Int} {a:Nat} (h:Ap7 C (hI C 0 (K.getD a 0))=none):Adq C nm K (a+1)=Adq C nm K a:=by
 show Ahx _ _ _ _ _ _=_
 unfold Ahx
 rw [h]
theorem Axi {C:List SpV} {nm:ByteArray} {K:List Int} {a:Nat} {v:VaV} (h:Ap7 C (hI C 0 (K.getD a 0))=some v):Adq C nm K (a+1)=Adj (Adq C nm K a) ⟨K.getD a 0,K.getD (a+1) 0,nm,v⟩:=by
 show Ahx _ _ _ _ _ _=_
 unfold Ahx
 rw [h]
theorem Aq3 {l:List SpV} (p:SpV) (h:l.length=0):Adj l p=l++[p]:=by
 have:=List.eq_nil_of_length_eq_zero h
 subst this
 rfl
theorem Aow {l:List SpV} {p q:SpV} {m:Nat} (hm:m+1=l.length) (hq:l[m]? =some q):Adj l p=if q.to=p.fr∧q.v=p.v then l.set m ⟨q.fr,p.to,q.nm,q.v⟩ else l++[p]:=by
 obtain ⟨q',h1,h2⟩:=Asb hm
 rw [hq] at h2
 cases h2
 unfold Adj
 rw [h1]
 simp only
 rw [Axf h1,show l.length-1=m by omega]
end
end Go.Proofs.YtifendlpeebofaaGreatDoor
