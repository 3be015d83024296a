import Derived.Test.YtifendlpeebofaaGreatDoorP7
import Derived.Laws.FloatArith
import Derived.Test.YtifendlpeebofaaGreatDoorP0
import Derived.Test.YtifendlpeebofaaGreatDoorP2
import Derived.Test.YtifendlpeebofaaGreatDoorTie
import Derived.Test.YtifendlpeebofaaGreatDoorCards
import Derived.Lib.LaidU8T
import Derived.Lib.LaidU8
import Derived.LaidMore
import Derived.MakeChecks
import Derived.Lay
import Derived.Lib.SmallJoins
import Derived.Stop.Joined
import Derived.SevenTiedAt
import Derived.SizedLaws
import Derived.Deep.DeepHandedRow
import Derived.JoinedCond
import Derived.StillTailTactics
import Derived.Test.YtifendlpeebofaaGreatDoorP6
import Derived.Test.YtifendlpeebofaaGreatDoorP5
set_option linter.unusedSimpArgs false
set_option linter.unusedVariables false
set_option maxRecDepth 100000
set_option maxHeartbeats 4000000
namespace Go.Proofs.YtifendlpeebofaaGreatDoor
open Go.Proofs.Tryz
section
open Go.RowKit
theorem A34 (w:World) (a b:Obj):Below w.heap.size w ((w.alloc a).alloc b):=((Below.refl _ _).alloc (Nat.le_refl _) _).alloc (by simp) _
section
open Ieee
theorem Akp {s:Bool} {m k:Nat} (h:signed s m k=0):m=0:=by
 unfold signed at h
 rw [Nat.shiftLeft_eq] at h
 generalize hz:m*2^k=z at h
 have:m*2^k=0:=by
  cases s
  ·simp at h;omega
  ·simp at h;omega
 rcases Nat.mul_eq_zero.1 this with h|h
 ·exact h
 ·exact absurd h (by have:=Nat.two_pow_pos k;omega)
theorem Aye {f:Nat} (h:(Ieee.double.order f 0==some .eq)=true):f % 2^63=0:=by
 have e1:Ieee.double.signWeight=2^63:=rfl
 have e2:Ieee.double.binade=2^52:=rfl
 have e3:Ieee.double.infRung=2047*2^52:=rfl
 have h':Ieee.double.order f 0=some .eq:=by simpa using h
 have z:Ieee.double.read 0= .number false 0 Ieee.double.leastPlace:=by decide +kernel
 have key:∀s m i,Datum.order (.number s m i) (.number false 0 Ieee.double.leastPlace)=some .eq→m=0:=fun s m i q=>by
  simp only [Datum.order,Option.some.injEq] at q
  have q2:=Std.LawfulEqCmp.eq_of_compare q
  have:signed false 0 (Ieee.double.leastPlace-min i Ieee.double.leastPlace).toNat=0:=by simp [signed]
  rw [this] at q2
  exact Akp q2
 unfold Ieee.Format.order at h'
 rw [z] at h'
 unfold Ieee.Format.read at h'
 rw [e1,e2,e3] at h'
 simp only at h'
 split at h'
 ·exact key _ _ _ h'
 ·split at h'
  ·have:=key _ _ _ h'
   omega
  ·split at h'
   ·simp only [Datum.order,Option.some.injEq] at h'
    split at h' <;>cases h'
   ·cases h'
end
theorem A6f {f:Nat} (hf:f<18446744073709551616) (h:(FloatKind.f64.format.order f 0==some .eq)=true):f=0∨f=9223372036854775808:=by
 have:=Aye h
 omega
theorem Aqw {x:VaV} (hx:x.ok) (w:World):Calls prog 53 #[x.v,x.v] w fun e w'=>e= .returned (.bool true)∧Below w.heap.size w w':=by
 obtain ⟨k,n,f,t⟩:=x
 have hf:=hx.ff
 simp only at hf
 clear hx
 show Calls prog 53 #[.agg #[.int .u8 k, .int .i64 n, .float .f64 f, .string t], .agg #[.int .u8 k, .int .i64 n, .float .f64 f, .string t]] w _
 have k1:(k !=k)=false:=by simp
 have n1:(n !=n)=false:=by simp
 have t1:(t.toList !=t.toList)=false:=by simp
 by_cases z1:(FloatKind.f64.format.order f f==some .eq)=true
 ·have z2:(FloatKind.f64.format.order f f !=some .eq)=false:=by rw [bne,z1];rfl
  by_cases z3:(FloatKind.f64.format.order f 0==some .eq)=true
  ·have z4:(FloatKind.f64.format.order f 0 !=some .eq)=false:=by rw [bne,z3];rfl
   obtain ⟨q,hq,hqq⟩:∃q,(∀W,(binOp .quo 38 (.float .f64 4607182418800017408) (.float .f64 f)).run prog W= .ok (.float .f64 q) W)∧(FloatKind.f64.format.order q q==some .eq)=true:=by
        rcases A6f hf z3 with rfl|rfl
        ·exact ⟨9218868437227405312,fun W=>run_float_arith W .quo 38 .f64 _ _ _ (by decide +kernel),by decide +kernel⟩
        ·exact ⟨18442240474082181120,fun W=>run_float_arith W .quo 38 .f64 _ _ _ (by decide +kernel),by decide +kernel⟩
   clear hf
   go_enter func53,ntmps53
   go_wp2
   go_ret
   exact ⟨rfl,A34 _ _ _⟩
  ·replace z3:(FloatKind.f64.format.order f 0==some .eq)=false:=by simpa using z3
   have z4:(FloatKind.f64.format.order f 0 !=some .eq)=true:=by rw [bne,z3];rfl
   clear hf
   go_enter func53,ntmps53
   go_wp2
   go_ret
   exact ⟨rfl,A34 _ _ _⟩
 ·replace z1:(FloatKind.f64.format.order f f==some .eq)=false:=by simpa using z1
  have z2:(FloatKind.f64.format.order f f !=some .eq)=true:=by rw [bne,z1];rfl
  clear hf
  go_enter func53,ntmps53
  go_wp2
  go_ret
  exact ⟨rfl,A34 _ _ _⟩
end
section
open Go.RowKit Go.Shelf Sq
attribute [local go_sem] Oper.semAt_some
section
variable {W:World} {b:Nat} {x:VaV}
theorem Ajn (h:Abz W b x):(Instr.loadAt 2 (pZ b (0+1))).run prog W= .ok (.int .i64 x.n) W:=by
 have hc:W.cell? ⟨b,1,none⟩=some (.int .i64 x.n):=(cell_of_row W b 1 _ _ _ h).trans rfl
 go_simp
theorem Ajo (h:Abz W b x):(Instr.loadAt 38 (pZ b (0+2))).run prog W= .ok (.float .f64 x.f) W:=by
 have hc:W.cell? ⟨b,2,none⟩=some (.float .f64 x.f):=(cell_of_row W b 2 _ _ _ h).trans rfl
 go_simp
theorem Ajm (h:Abz W b x):(Instr.loadAt 9 (pZ b (0+3))).run prog W= .ok (.string x.s) W:=by
 have hc:W.cell? ⟨b,3,none⟩=some (.string x.s):=(cell_of_row W b 3 _ _ _ h).trans rfl
 go_simp
end
theorem Aoq {W:World} {b o:Nat} {x:SpV} (h:W.rangeAt b o x.c):(Instr.loadAt 3 (pZ b (o+0))).run prog W= .ok (.int .i64 x.fr) W∧(Instr.loadAt 3 (pZ b (o+1))).run prog W= .ok (.int .i64 x.to) W∧(Instr.loadAt 9 (pZ b (o+2))).run prog W= .ok (.string x.nm) W:=by
 have h0:W.cell? ⟨b,o+0,none⟩=some (.int .i64 x.fr):=h 0 _ rfl
 have h1:W.cell? ⟨b,o+1,none⟩=some (.int .i64 x.to):=h 1 _ rfl
 have h2:W.cell? ⟨b,o+2,none⟩=some (.string x.nm):=h 2 _ rfl
 rw [Nat.add_zero] at h0
 refine ⟨?_, ?_, ?_⟩
 ·clear h1 h2;go_simp
 ·clear h0 h2;go_simp
 ·clear h0 h1;go_simp
theorem Ai4 {w:World} {la lb:Option Addr} {c c2:Nat} {S:List SpV} (ha:RSp.At w la S) (hb:RSp.At w lb S) (ok:∀x∈S,x.ok) (hn:S.length≤2000000000000):Calls prog 22 #[.slice la S.length c, .slice lb S.length c2] w fun e w'=>e= .returned (.bool true)∧Below w.heap.size w w':=by
 have HA:=Aaa (fun (W:World) (b:Below w.heap.size w W)=>ha.below b)
 have HB:=Aaa (fun (W:World) (b:Below w.heap.size w W)=>hb.below b)
 obtain ⟨n,hnn⟩:∃n,S.length=n:=⟨_,rfl⟩
 have HN:=Aaa (show S.length=n∧n≤2000000000000 from ⟨hnn,by omega⟩)
 have OK:=Aaa ok
 rw [hnn]
 clear ha hb hn hnn ok
 go_enter func22,ntmps22
 go_upto_region 1 with fail
 refine En.zqc tab rfl (En.cm (En.neB ((decide_eq_false (fun q=>q rfl)))) (En.fi ?_))
 intro a' w3 hw ha
 obtain rfl:w=w3:=hw.symm
 subst ha
 simp only [En.pM,En.pU,Act.put,qsA,qsB,qsC]
 go_wp2
 go_loopw [5] (fun v5 wr=> ∃i:Nat,v5= .int .i64 (i:Int)∧i≤n∧Hid (Below w.heap.size w wr)) (fun v5 _=>n-(intOf v5).toNat)
 case atStart=>exact ⟨0,rfl,Nat.zero_le _,Below.refl _ _⟩
 case round =>
  obtain ⟨i,rfl,hi,HI⟩:=hrel
  by_cases h:i<n
  ·have h':(i:Int)<(n:Int):=by omega
   have hn64:n≤9223372036854775807:=by have:=HN.out;omega
   obtain ⟨x,hx⟩:∃x,S[i]? =some x:=⟨_,List.getElem?_eq_getElem (by have:=HN.out;omega)⟩
   obtain ⟨g,o,rfl,gl,hr⟩:=(HA.out wr HI.out).get (i:=i) (by have:=HN.out;omega)
   obtain ⟨g2,o2,rfl,gl2,hr2⟩:=(HB.out wr HI.out).get (i:=i) (by have:=HN.out;omega)
   have e:S[i]'(by have:=HN.out;omega)=x:=(List.getElem?_eq_some_iff.1 hx).2
   have r1:∀W,Below wr.heap.size wr W→W.rangeAt g (o+7*i) x.c:=fun W b=>Aar (by rw [e] at hr;exact hr) (b.block g gl)
   have r2:∀W,Below wr.heap.size wr W→W.rangeAt g2 (o2+7*i) x.c:=fun W b=>Aar (by rw [e] at hr2;exact hr2) (b.block g2 gl2)
   have bd:Below wr.heap.size wr wr.drew:=(Below.refl _ _).drew
   have MS:=Aaa (show n-(((i+1:Nat):Int)).toNat<n-((i:Nat):Int).toNat by simp only [Int.toNat_natCast];omega)
   have HH1:=Aaa h
   have okx:=OK.out x (List.mem_of_getElem? hx)
   clear hr hr2 e hx
   go_upto_region 6 with fail
   refine A8w (g:=g) (o:=o) (g2:=g2) (o2:=o2) (n:=n) (c:=c) (c2:=c2) (i:=i) (x:=x) (fun W=>Below wr.heap.size wr W) _ wr _ rfl rfl rfl rfl bd h hn64 (fun W b=>(Aoq (r1 W b)).1) (fun W b=>(Aoq (r1 W b)).2.1) (fun W b=>(Aoq (r1 W b)).2.2) (fun W b=>A4a (r1 W b)) (fun W b=>(Aoq (r2 W b)).1) (fun W b=>(Aoq (r2 W b)).2.1) (fun W b=>(Aoq (r2 W b)).2.2) (fun W b=>A4a (r2 W b)) ((Aqw okx.v wr.drew).mono fun e W q=>⟨q.1,bd.trans q.2⟩) ?_
   intro a' w4 bw ha
   have NI:=Aaa (HI.out.trans (bw.mono HI.out.size))
   subst ha
   simp only [Act.put,qsA,qsB,qsC]
   clear r1 r2 bd bw HI
   go_wp2
   rw [show ((i:Int)+1)=((i+1:Nat):Int) by omega]
   exact ⟨⟨i+1,rfl,HH1.out,NI⟩,MS.out⟩
  ·have h':¬((i:Int)<(n:Int)):=by omega
   obtain rfl:i=n:=by omega
   go_wp2
   go_ret
   exact ⟨rfl,HI.out⟩
section
variable {w:World} {base:Nat} {m:Mx}
theorem Amp (h:Acl w base m):Calls prog 27 #[(pZ m.mb 0)] w fun e w'=>e= .returned (.int .i64 (m.L.length:Int))∧w'=w:=by
 obtain ⟨a,c,e,_⟩:=h.lvS
 have LL:=h.ldl
 rw [e] at LL
 clear h e
 go_enter func27,ntmps27
 go_upto_region 3 with fail
 refine En.zqc tab rfl (En.st (LL) (En.fi ?_))
 intro a' w3 hw ha
 obtain rfl:w=w3:=hw.symm
 subst ha
 simp only [En.pM,En.pU,Act.put,qsA,qsB,qsC]
 clear LL
 go_wp2
 go_ret
 exact ⟨rfl,rfl⟩
theorem Auj (a:Option Addr) (n c q:Nat) (hq:q≤c) (hc:c≤maxLen) (w:World):Calls prog 46 #[.slice a n c, .int .i64 (q:Int)] w fun e w'=>e= .returned (.slice a q q)∧w'=w:=by
 have S:=Aae.sl_cut Acs a (n:=n) hq w
 have S':(Instr.sliceAt 85 (.slice a n c) none (some (.int .i64 (q:Int))) (some (.int .i64 (q:Int)))).run prog w= .ok (.slice a q q) w:=S
 clear S
 go_enter func46,ntmps46
 go_wp2
 go_ret
 exact ⟨rfl,rfl⟩
end
attribute [local go_sem] Oper.semAt_some
def Aiq (L:List MkV) (k:IdK):Int:=if Afs L k=false then 4 else if (L.getLast?.map (·.id))=some k then 0 else 2
def Aiv (L:List MkV) (k:IdK):List MkV:=if Aiq L k=0 then L.dropLast else L
theorem Azi {L:List MkV} {x:MkV} (hn:((idE (L++[x])).map (·.1)).Nodup):M.del (idE (L++[x])) x.id=idE L:=by
 have hl:idE (L++[x])=idE L++[(x.id,unV)]:=by simp [idE]
 rw [hl] at hn ⊢
 have no:M.fnd (idE L) x.id 0=none:=by
  cases e:M.fnd (idE L) x.id 0 with
  |none=>rfl
  |some q =>
   obtain ⟨i,v⟩:=q
   have h1:=(M.fnd_some e).1
   rw [List.map_append,List.nodup_append] at hn
   exact absurd rfl (hn.2.2 x.id (List.mem_map.2 ⟨_,List.mem_of_getElem? h1,rfl⟩) x.id (by simp))
 have key:∀(A:List (IdK × Value)) (n:Nat),M.fnd A x.id n=none→M.fnd (A++[(x.id,unV)]) x.id n=some (n+A.length,unV):=by
  intro A
  induction A with
  |nil=>intro n _;simp [M.fnd]
  |cons p A ih =>
   intro n h
   unfold M.fnd at h
   split at h
   ·cases h
   ·next hne =>
    rw [List.cons_append,M.fnd,if_neg hne,ih (n+1) h]
    simp
    omega
 unfold M.del
 rw [key _ 0 no]
 simp only [Nat.zero_add]
 rw [List.eraseIdx_append_of_length_le (Nat.le_refl _)]
 simp
section
variable {w:World} {base:Nat} {m:Mx}
theorem Ap9 (h:Acl w base m) (hb:base≤w.heap.size) {k:IdK} (hk:k.ok):Calls prog 14 #[(pZ m.mb 0),k.v] w fun e w'=>e= .returned (.int .i64 (Aiq m.L k))∧MkT m base (Aiv m.L k) w w':=by
 have bx:Below w.heap.size w (w.alloc (.cells k.c.toArray 36)):=(Below.refl _ _).alloc (Nat.le_refl _) _
 have hx:=Acg w k
 obtain ⟨w1,hw1⟩:∃w1,w.alloc (.cells k.c.toArray 36)=w1:=⟨_,rfl⟩
 rw [hw1] at bx hx
 have HW:=Aaa hw1
 have H1:=Aaa (h.below bx)
 have HA:=Aaa (Amq (h.below bx) hk)
 have HX:=Aaa hx
 have B1:=Aaa bx
 have HH:=Aaa h
 have HBB:=Aaa hb
 have SAME:Hid (∀(W:World) (c:Int),Below w.heap.size w W→Aiq m.L k=c→c≠0→(Ending.returned (.int .i64 c):Ending)= .returned (.int .i64 (Aiq m.L k))∧MkT m base (Aiv m.L k) w W):=fun W c b e hc=>by
  refine ⟨by rw [e], ?_⟩
  unfold Aiv
  rw [if_neg (by rw [e];exact hc)]
  exact MkT.same h b
 clear h bx hx hw1 hb
 show Calls prog 14 #[(pZ m.mb 0), .agg k.c.toArray] w _
 go_enter func14,ntmps14
 go_upto_region 3 with fail
 rw [HW.out]
 refine En.zqc tab rfl (En.st ((Aah hk HX.out)) (En.ca (HA.out) ?_))
 rintro _ w2_ ⟨rfl,HF⟩
 refine ⟨_,rfl,En.fi ?_⟩
 intro a' w2 b20 ha
 have b2:=HF
 obtain rfl:w2=w2_:=b20
 subst ha
 simp only [En.pM,En.pU,Act.put,qsA,qsB,qsC]
 have B2:=Aaa (B1.out.trans (b2.mono B1.out.size))
 have X2:=Aaa (HX.out.below b2)
 clear b2 HA
 cases hq:Afs m.L k with
 |false =>
  have HQ:=Aaa hq
  clear hq
  go_wp2
  go_ret
  exact SAME.out _ _ B2.out (by unfold Aiq;rw [if_pos HQ.out]) (by decide)
 |true =>
  have HQ:=Aaa hq
  clear hq
  have hne:m.L≠[]:=fun e=>by have:=HQ.out;rw [e] at this;cases this
  obtain ⟨x,hlast⟩:∃x,m.L.getLast?=some x:=by
   cases e:m.L.getLast? with
   |none=>exact absurd (List.getLast?_eq_none_iff.1 e) hne
   |some x=>exact ⟨x,rfl⟩
  obtain ⟨n,hn⟩:∃n,m.L.length=n+1:=⟨m.L.length-1,by have:=List.length_pos_iff.2 hne;omega⟩
  have hxn:m.L[n]? =some x:=by rw [List.getLast?_eq_getElem?,show m.L.length-1=n by omega] at hlast;exact hlast
  have okx:=(HH.out.ok x (List.mem_of_getElem? hxn)).1
  have H2:=HH.out.below B2.out
  obtain ⟨la,lc,el,hat⟩:=H2.lvS
  have LL:=H2.ldl
  rw [el,hn] at LL
  have n9:=HH.out.n
  have hnb:n+1≤900000000000:=by omega
  go_upto_region 5 with fail
  refine En.zqc tab rfl (En.st (LL) (En.ar ((En.wI ((show -9223372036854775808≤((n+1):Int)-1∧((n+1):Int)-1≤9223372036854775807 from (by omega)))).trans ((show ((n+1):Int)-1=(n:Int) from (by omega)))) (En.fi ?_)))
  intro a' w3 hw ha
  obtain rfl:w2=w3:=hw.symm
  subst ha
  simp only [En.pM,En.pU,Act.put,qsA,qsB,qsC]
  obtain ⟨g,o,rfl,gl,hr⟩:=hat.get (i:=n) (by omega)
  have hr':w2.rangeAt g (o+105*n) x.c:=by
   have e:m.L[n]'(by omega)=x:=(List.getElem?_eq_some_iff.1 hxn).2
   rw [e] at hr;exact hr
  obtain ⟨z,hz⟩:∃z,(!decide (x.id=k))=z:=⟨_,rfl⟩
  have HEL:=Aaa el
  have HNN:=Aaa (And.intro hn hnb)
  have HLA:=Aaa hlast
  clear hr LL hat hne hxn n9
  go_upto_region 6 with fail
  refine En.zyc tab [0,1,2,3,4,5,6,7,8,9] 10 (fun w'=>(fun W=>Below w2.heap.size w2 W) w') (hS:=((show (fun W=>Below w2.heap.size w2 W) (World.drew w2) from ((Below.refl _ _).drew)))) (h:=En.sty (fun Xw Xh=>((show ∀W,(fun W=>Below w2.heap.size w2 W) W→(Instr.loadAt 85 (pZ m.mb (0+0))).run prog W= .ok (.slice (some ⟨g,o,none⟩) (n+1) lc) W from (fun W b=>by have:=(H2.below b).ldl;rw [HEL.out,HNN.out.1] at this;exact this)) _ Xh)) (En.sty (fun Xw Xh=>(Ays (show n<(n+1) from (by omega)) (show (n+1)≤9223372036854775807 from (by omega)) _)) (En.sty (fun Xw Xh=>((show ∀W,(fun W=>Below w2.heap.size w2 W) W→(Instr.loadAt 36 (pZ g (o+105*n+0))).run prog W= .ok (x.id.v) W from (fun W b=>A5j okx (Aar hr' (b.block g gl)))) _ Xh)) (En.sty (fun Xw Xh=>((show ∀W,(fun W=>Below w2.heap.size w2 W) W→(Instr.loadAt 36 (pZ w.heap.size 0)).run prog W= .ok (k.v) W from (fun W b=>Aah hk (X2.out.below b))) _ Xh)) (En.sty (fun Xw Xh=>A7j okx.i hk (hz) _ _ _) (En.fi ?_))))))
  intro a' w4 b40 ha
  have b4:=((show (fun W=>Below w2.heap.size w2 W) (World.drew w2) from ((Below.refl _ _).drew)))
  rw [←b40] at b4
  clear b40
  subst ha
  simp only [En.pM,En.pU,Act.put,qsA,qsB,qsC]
  have B4:=Aaa (B2.out.trans (b4.mono B2.out.size))
  have X4:=Aaa (X2.out.below b4)
  clear hr' b4 H2 X2 el hn hnb hlast
  cases z with
  |true =>
   have hnk:¬x.id=k:=by simpa using hz
   have HNK:=Aaa hnk
   clear hz hnk
   go_wp2
   go_ret
   exact SAME.out _ _ B4.out (by unfold Aiq;rw [if_neg (by rw [HQ.out];decide),HLA.out,if_neg (fun q=>HNK.out (by simpa using q))]) (by decide)
  |false =>
   have hxk:x.id=k:=by simpa using hz
   have HXK:=Aaa hxk
   clear hz hxk
   have H4:=HH.out.below B4.out
   have ap:=H4.apart
   obtain ⟨a0,c0,ev0,_,hlc,hcm,_⟩:=H4.lo.open Acs (fun y hy=>(H4.ok y hy).1)
   rw [HEL.out] at ev0
   obtain ⟨rfl,rfl⟩:lc=c0∧(some ⟨g,o,none⟩:Option Addr)=a0:=by cases ev0;exact ⟨rfl,rfl⟩
   obtain ⟨v',hv',lo',ow'⟩:=H4.lo.cut Acs (fun y hy=>(H4.ok y hy).1) (n:=n) (by have:=HNN.out.1;omega)
   have ev:=hv' _ _ HEL.out
   obtain ⟨w5,e5,n5,t5⟩:=Aqd (a:=some ⟨g,o,none⟩) (n:=n) (c:=n) H4.cell ⟨_,_,_,HEL.out⟩
   have LL4:=H4.ldl
   rw [HEL.out,HNN.out.1] at LL4
   have CC:=Aaa ((Auj (some ⟨g,o,none⟩) (n+1) lc n (by have:=HNN.out.1;omega) hcm w4).mono (R':=fun e w1=> ∃u2,e= .returned u2∧∃w2,(Instr.storeAt 85 (pZ m.mb (0+0)) u2).run prog w1= .ok () w2∧w2=w5) (fun e W q=>by
        obtain ⟨rfl,rfl⟩:=q
        exact ⟨_,rfl,w5,e5,rfl⟩))
   have mp5:M.MapAt w5 m.ib IdK.v IdK.ok (idE m.L):=H4.map.below (t5.block _ H4.map.lt (fun e=>ap.2.2 e.symm))
   obtain ⟨ob,ep,mp6⟩:=M.run_del (P:=prog) (ty:=0) (w:=w5.drew) Asq underlying84 (mp5.below rfl) k hk
   have b5:w4.heap.size≤w5.heap.size:=t5.size
   have X5:Aaz w5 w.heap.size k:=(t5.block _ (Array.getElem?_eq_some_iff.1 X4.out).1 (fun e=>by
        have:=Aag X4.out (e▸H4.cell)
        revert this;decide)).trans X4.out
   have PUT:=Aaa (show MkT m base (Aiv m.L k) w (M.setM w5.drew m.ib ob) by
        have hL:m.L=m.L.dropLast++[x]:=by
         have hne:m.L≠[]:=fun e=>by have:=HLA.out;rw [e] at this;cases this
         have e:=List.dropLast_concat_getLast hne
         have e2:m.L.getLast hne=x:=by have:=HLA.out;rw [List.getLast?_eq_some_getLast hne] at this;exact Option.some.inj this
         rw [e2] at e
         exact e.symm
        have hC:Aiq m.L k=0:=by unfold Aiq;rw [if_neg (by rw [HQ.out];decide),HLA.out,if_pos (by rw [Option.map_some,HXK.out])]
        have hR:Aiv m.L k=m.L.take n:=by
         unfold Aiv
         rw [if_pos hC,List.dropLast_eq_take,show m.L.length-1=n by have:=HNN.out.1;omega]
        have hD:M.del (idE m.L) k=idE (m.L.take n):=by
         have nd:=H4.map.2.1
         have e1:m.L.take n=m.L.dropLast:=by rw [List.dropLast_eq_take,show m.L.length-1=n by have:=HNN.out.1;omega]
         rw [e1, ←HXK.out]
         rw [hL] at nd ⊢
         rw [Azi nd,List.dropLast_concat]
        rw [hR]
        rw [hD] at mp6
        have nib:∀j,v'.ownBlock=some j→j≠m.ib∧j≠m.mb:=fun j hj=>by
         rw [ow'] at hj
         exact ⟨fun e=>ap.2.1 (by rw [←e];exact hj),fun e=>ap.1 (by rw [←e];exact hj)⟩
        have tq:Tch (fun j=>j=m.mb∨j=m.ib) w (M.setM w5.drew m.ib ob):=by
         have t0:Tch (fun j=>j=m.mb∨j=m.ib) w w4:=Aan B4.out _
         have t4:Tch (fun j=>j=m.mb∨j=m.ib) w4 w5:=t5.mono (fun j _ e=> .inl e)
         have t6:Tch (fun j=>j=m.mb∨j=m.ib) w5 (M.setM w5.drew m.ib ob):=⟨rfl,rfl,rfl,by rw [M.setM_size];exact Nat.le_refl _,fun j _ hj=>M.setM_other ob (fun e=>hj (.inr e))⟩
         exact (t0.trans t4).trans t6
        refine ⟨⟨m.mb,v',m.ib,m.L.take n⟩,⟨(M.setM_other ob ap.2.2).trans (by rw [ev];exact n5),(lo'.keep (fun j hj=>t5.block j (lo'.lt hj) (nib j hj).2)).keep (fun j hj=>M.setM_other ob (nib j hj).1),fun y hy=>HH.out.ok y (List.mem_of_mem_take hy),mp6,by simp only [List.length_take];have:=HNN.out;omega⟩,rfl,rfl,rfl, .inl ow', ?_,fun _=>⟨tq, .inl (fun a n c e=>by rw [ev] at e;cases e;rfl)⟩⟩
        have t0:Tch (fun j=>j=m.mb∨j=m.ib∨m.lv.ownBlock=some j) w w4:=Aan B4.out _
        have t4:Tch (fun j=>j=m.mb∨j=m.ib∨m.lv.ownBlock=some j) w4 w5:=t5.mono (fun j _ e=> .inl e)
        have t6:Tch (fun j=>j=m.mb∨j=m.ib∨m.lv.ownBlock=some j) w5 (M.setM w5.drew m.ib ob):=⟨rfl,rfl,rfl,by rw [M.setM_size];exact Nat.le_refl _,fun j _ hj=>M.setM_other ob (fun e=>hj (.inr (.inl e)))⟩
        exact (t0.trans t4).trans t6)
   have C0:=Aaa (show Aiq m.L k=0 by unfold Aiq;rw [if_neg (by rw [HQ.out];decide),HLA.out,if_pos (by rw [Option.map_some,HXK.out])])
   have HEP:=Aaa ep
   have XY:Hid (Aaz w5.drew w.heap.size k∧w5.drew.heap[m.mb]? =some (.cells #[.slice (some ⟨g,o,none⟩) n n, .map (some m.ib)] 87 (0,0))):=⟨X5,n5⟩
   clear ap ev0 hlc hcm hv' lo' ow' ev e5 n5 t5 mp5 ep mp6 b5 X5 H4 X4
   go_upto_region 8 with fail
   refine A8v (mb:=m.mb) (z:=(n:Int)) (lv:= .slice (some ⟨g,o,none⟩) (n+1) lc) (fun u2 W=>W=w5) _ w4 _ rfl rfl rfl LL4 CC.out ?_
   intro u2 a' w6 hw ha
   obtain rfl:w5=w6:=hw.symm
   subst ha
   simp only [Act.put,qsA,qsB,qsC]
   clear LL4 CC
   go_upto_region 9 with fail
   refine A8u (mb:=m.mb) (ib:=m.ib) (b1:=w.heap.size) (k:=k) (w2:=M.setM w5.drew m.ib ob) (fun W=>W=w5.drew) _ w5 _ rfl rfl rfl rfl (fun W e=> ?_) (fun W e=>by rw [e];exact Aah hk XY.out.1) HEP.out ?_
   ·have hc:W.cell? ⟨m.mb,1,none⟩=some (.map (some m.ib)):=by rw [e];exact (cell_of_row w5.drew m.mb 1 _ _ _ XY.out.2).trans rfl
    clear e
    go_simp
   intro a' w6 hw ha
   obtain rfl:M.setM w5.drew m.ib ob=w6:=hw.symm
   subst ha
   simp only [Act.put,qsA,qsB,qsC]
   clear HEP XY
   go_wp2
   go_ret
   exact ⟨by rw [C0.out];rfl,PUT.out⟩
end
section
variable {w W W':World} {sb mb:Nat} {E:List Elt} {L:List MkV}
structure SpW (E:List Elt) (L:List MkV) (v:Value) (b:Nat) (S:List SpV) (W:World):Prop where
 lo:RSp.Lo W b v S
 is:Ac3 (hE E L) S
 ok:∀p∈S,p.ok
 len:S.length≤2000000000000
end
attribute [local go_sem] Oper.semAt_some
end
section
open Go.ChangeShapes Go.WideShapes Go.ChangeAt Go.RowKit Go.Shelf
def A0s:Go.Shelf.Ren:=⟨fun n=>n,fun |119=>177|138=>179|139=>180|n=>n,fun |3=>1|4=>2|n=>n⟩
theorem u8t:U8Types prog A0s:=⟨underlying5,underlying177,underlying179,underlying180⟩
theorem u8x:U8Extra prog A0s:=⟨by kernel_rfl,by kernel_rfl,by kernel_rfl,by kernel_rfl,by kernel_rfl,by kernel_rfl,by kernel_rfl⟩
theorem dF:(Rows.laid_unicode_utf8_first:DataW Unit)=Lib.firstData:=by kernel_rfl
theorem dA:(Rows.laid_unicode_utf8_acceptRanges:DataW Unit)=Lib.acceptData:=by kernel_rfl
theorem A19 {W:World} {laid:List (String × DataW Unit)} (h:laidMet prog laid W) (h3:("unicode/utf8.first",(Rows.laid_unicode_utf8_first:DataW Unit))∈laid) (h4:("unicode/utf8.acceptRanges",(Rows.laid_unicode_utf8_acceptRanges:DataW Unit))∈laid):K.V.Tabs W:=by
 rw [dF] at h3
 rw [dA] at h4
 exact utf8Tabs_of_readsT u8t u8x (Lib.laidMet.reads h h3) (Lib.laidMet.reads h h4)
theorem Ao2 {H:Type} {ts:List TypeId} {ds:List (DataW H)} (hsz:(DataW.weightsEach prog ts ds).all (· ≤reachBytes)=true) (j:Nat) (ht:ts[j]? =some 22) {d:DataW H} (hd:ds[j]? =some d) {len:Nat}
 (h:d= .nil∧len=0∨∃el sp,d= .slice el sp∧el.length=len):len≤800000000000:=by
 rcases h with ⟨_,rfl⟩|⟨el,sp,rfl,rfl⟩
 ·omega
 ·have:=sized_slice hsz (j:=j) (t:=22) (e:=42) ht hd underlying22
  rw [Avn] at this
  simp only [reachBytes] at this
  omega
end
section
open Go.RowKit Sq
structure A8m where
 id:IdK
 bh:IdK
structure A8m.ok (p:A8m):Prop where
 id:p.id.ok
 bh:p.bh.ok
section
variable {w:World} {b o:Nat} {p:A8m}
end
end
section
open Go.RowKit
theorem Ahe {w:World} {b o:Nat} {k:IdK} (hk:k.ok) (h:w.rangeAt b o k.c):(Instr.loadAt 36 (pZ b o)).run prog w= .ok k.v w :=
 run_loadAt_mid (P:=prog) w b o 36 k.c _ h underlying36 rfl (by rw [IdK.len hk];exact Alv)
theorem Axh (a b:Option Addr) (ca cb:Nat) (A B:List IdK) (w:World) (hA:Awa w a A) (hB:Awa w b B) (oA:∀x∈A,x.ok) (oB:∀x∈B,x.ok) (lA:A.length≤7000000000000) :
 Calls prog 29 #[.slice a A.length ca, .slice b B.length cb] w fun e w'=>e= .returned (.bool (decide (A=B)))∧Below w.heap.size w w':=by
 obtain ⟨n,hn⟩:∃n,A.length=n:=⟨_,rfl⟩
 obtain ⟨m,hm⟩:∃m,B.length=m:=⟨_,rfl⟩
 have HN:=Aaa hn
 have HM:=Aaa hm
 have HLA:=Aaa lA
 rw [hn,hm]
 by_cases hnm:n=m
 ·subst hnm
  clear hn hm lA
  go_enter func29,ntmps29
  go_wp2
  go_loopw [5] (fun v5 wr=> ∃i:Nat,v5= .int .i64 (i:Int)∧i≤n∧A.take i=B.take i∧Below w.heap.size w wr) (fun v5 wr=>n-(match v5 with | .int _ i=>i.toNat|_=>0))
  case atStart=>exact ⟨0,rfl,Nat.zero_le _,rfl,Below.refl _ _⟩
  case round =>
   obtain ⟨i,rfl,hin,htk,bel⟩:=hrel
   have hLn:=HN.out
   have hLm:=HM.out
   by_cases hi:i<n
   ·have hxi:A[i]? =some A[i]:=List.getElem?_eq_getElem (by omega)
    have hyi:B[i]? =some B[i]:=List.getElem?_eq_getElem (by omega)
    generalize A[i]=x at hxi
    generalize B[i]=y at hyi
    have hxo:x.ok:=oA x (List.mem_of_getElem? hxi)
    have hyo:y.ok:=oB y (List.mem_of_getElem? hyi)
    obtain ⟨b1,o1,rfl,lb1,r1⟩:∃b1 o1,a=some ⟨b1,o1,none⟩∧b1<w.heap.size∧w.rangeAt b1 (o1+i*33) x.c:=by
        rcases hA with rfl|⟨b1,o1,e,h1,h2⟩
        ·simp at hxi
        ·exact ⟨b1,o1,e,h1,by rw [Nat.mul_comm];exact h2 i x hxi⟩
    obtain ⟨b2,o2,rfl,lb2,r2⟩:∃b1 o1,b=some ⟨b1,o1,none⟩∧b1<w.heap.size∧w.rangeAt b1 (o1+i*33) y.c:=by
        rcases hB with rfl|⟨b1,o1,e,h1,h2⟩
        ·simp at hyi
        ·exact ⟨b1,o1,e,h1,by rw [Nat.mul_comm];exact h2 i y hyi⟩
    have bel':Below w.heap.size w wr.drew:=bel.drew
    have L1:=Aaa (Ahe hxo (Aar r1 (bel'.block _ lb1)))
    have L2:=Aaa (Ahe hyo (Aar r2 (bel'.block _ lb2)))
    have HT:=Aaa htk
    have HX:=Aaa (And.intro hxi hyi)
    clear htk hxi hyi r1 r2 hLn hLm
    go_upto_region 6 with fail
    refine wp_region_still_tail 8 (by kernel_rfl) (by kernel_rfl) ?_
    simp only [List.take_succ_cons,List.take_zero,List.drop_succ_cons,List.drop_zero]
    change wpStill _ _ wr.drew (fun a'=>wpList _ _ _ _ a' wr.drew) _ _
    generalize wr.drew=wd at *
    iterate 3 still_step
    refine Aix rfl (xld (t:=36) (u:= (pZ b1 (o1+i*33))) rfl rfl L1.out) ?_
    simp only [Act.put,qsA,qsB,qsC]
    iterate 3 still_step
    refine Aix rfl (xld (t:=36) (u:= (pZ b2 (o2+i*33))) rfl rfl L2.out) ?_
    simp only [Act.put,qsA,qsB,qsC]
    refine wpStill_nil ?_
    refine Afg rfl (Aca (xv:=x.v) (yv:=y.v) rfl rfl rfl (Aeg _ _ x y _ _) (Ar0 x y hxo hyo _)) ?_
    simp only [Act.put,qsA,qsB,qsC]
    by_cases hxy:x=y
    ·subst hxy
     simp only [decide_true,Bool.not_true]
     go_wp2
     have hwr:Go.RowKit.wrap64 ((i:Int)+1)=((i+1:Nat):Int):=by
      have:=HLA.out
      have:=HN.out
      unfold Go.RowKit.wrap64
      omega
     rw [hwr]
     refine ⟨⟨i+1,rfl,hi, ?_,bel'⟩, ?_⟩
     ·rw [List.take_add_one,List.take_add_one,HX.out.1,HX.out.2,HT.out]
     ·show n-((i+1:Nat):Int).toNat<n-(i:Int).toNat
      omega
    ·have hd:decide (x=y)=false:=by simpa using hxy
     rw [hd]
     simp only [Bool.not_false]
     go_wp2
     go_ret
     refine ⟨?_,bel'⟩
     have:A≠B:=fun e=>by
      rw [e] at HX
      exact hxy (Option.some.inj (HX.out.1.symm.trans HX.out.2))
     simp [this]
   ·obtain rfl:i=n:=by omega
    have hAB:A=B:=by rw [List.take_of_length_le (by omega),List.take_of_length_le (by omega)] at htk;exact htk
    have HAB:=Aaa hAB
    clear hAB htk hLn hLm hin
    go_wp2
    go_ret
    exact ⟨by simp [HAB.out],bel⟩
 ·have hne:A≠B:=fun e=>hnm (by rw [←hn, ←hm,e])
  have hnm2:((n:Int)==(m:Int))=false:=by simp;omega
  have hnm3:((n:Int) !=(m:Int))=true:=by simp;omega
  have HNE:=Aaa hne
  clear hn hm hne hnm
  go_enter func29,ntmps29
  go_wp2
  go_ret
  exact ⟨by simp [HNE.out],Below.refl _ _⟩
end
section
open Go.RowKit Sq
def Ahg (E:List Elt) (c:Bool):List IdK:=(Adg E c).map (·.id)
theorem Asj {E:List Elt} {k b:IdK} (h:Afe E k b=0):1≤k.n∧Abg E k=false∧(b=zId∨Abg E b=true):=by
 unfold Afe at h
 split at h
 ·cases h
 ·next h1 =>
  split at h
  ·cases h
  ·next h2 =>
   split at h
   ·cases h
   ·next h3 =>
    refine ⟨by omega,by simpa using h2, ?_⟩
    by_cases q:b=zId
    ·exact .inl q
    ·refine .inr ?_
     cases r:Abg E b with
     |true=>rfl
     |false=>exact absurd ⟨q,r⟩ h3
theorem Awo (E:List Elt):Adg E false=E:=List.filter_eq_self.2 fun x _=>rfl
theorem Al0 {α:Type} {P:List α→Prop} (h0:P []) (hs:∀l x,P l→P (l++[x])) (l:List α):P l:=by
 have:∀n (l:List α),l.length=n→P l:=by
  intro n
  induction n with
  |zero=>intro l h;rw [List.eq_nil_of_length_eq_zero h];exact h0
  |succ n ih =>
   intro l h
   have hne:l≠[]:=by intro q;rw [q] at h;cases h
   rw [←List.dropLast_concat_getLast hne]
   exact hs _ _ (ih _ (by simp;omega))
 exact this _ l rfl
theorem Agz {F:List Elt} (ok:Abf F) (c:Bool) {i:Nat} (hi:i<F.length):Aac F c F[i].id=((F.take i).countP (cE c):Int):=by
 have hs:F=F.take i++F[i]::F.drop (i+1):=by rw [List.getElem_cons_drop];exact (List.take_append_drop i F).symm
 have hh:Abg F F[i].id=true:=Aao.2 ⟨F[i],List.getElem_mem hi,rfl⟩
 unfold Aac
 rw [if_pos hh]
 have e:F.takeWhile (fun e=> !decide (e.id=F[i].id))=F.take i:=by
  have nd:=ok.nd
  generalize F[i]=x at *
  rw [hs,List.map_append,List.map_cons,List.nodup_append] at nd
  conv=>lhs;rw [hs]
  refine Adi (fun y hy=> ?_) (by simp)
  have:y.id≠x.id:=nd.2.2 y.id (List.mem_map.2 ⟨y,hy,rfl⟩) x.id (by simp)
  simpa using this
 rw [e]
theorem Avf (l:List Elt):l.countP (cE false)=l.length:=List.countP_eq_length.2 fun x _=>rfl
theorem Ama {F:List Elt} (ok:Abf F) {i:Nat} (hi:i<F.length):Aac F false F[i].id=(i:Int):=by
 rw [Agz ok false hi,Avf,List.length_take,Nat.min_eq_left (by omega)]
theorem Adk {F:List Elt} {x:IdK} (h:Abg F x=false) (c:Bool):Aac F c x= -1:=by unfold Aac;rw [h];rfl
theorem Al9 {F:List Elt} {x:IdK} {c:Bool} (h:Abg F x=true):0≤Aac F c x:=by unfold Aac;rw [if_pos h];omega
structure Bae (E F:List Elt) (g:IdK→Prop):Prop where
 sub:((E.map (·.id)).filter (fun x=>Abg F x)).Sublist (F.map (·.id))
 has:∀x,Abg E x=true→Abg F x=false→g x
theorem Ai2 (E:List Elt) (k:IdK) (b:Bool):(Abb E k b).length=E.length:=by simp [Abb]
theorem nth_get {F:List Elt} {i:Nat} (hi:i<F.length):Aex F false (i:Int)=(F[i].id,true):=by
 unfold Aex
 rw [Awo,if_pos (by omega),Int.toNat_natCast,List.getD_eq_getElem?_getD,List.getElem?_map,List.getElem?_eq_getElem hi]
 rfl
theorem Azw {F:List Elt} (c:Bool) {i:Nat} (hi:i<F.length):(F.take (i+1)).countP (cE c)=(F.take i).countP (cE c)+(if cE c F[i]=true then 1 else 0):=by
 rw [List.take_add_one,List.getElem?_eq_getElem hi,Option.toList,List.countP_append,List.countP_cons,List.countP_nil]
 simp
def Ab5 (R:List Elt):List Elt:=R.foldl (fun l e=>Ahc l e.bh e) []
theorem Adx (R:List Elt) (e:Elt):Ab5 (R++[e])=Ahc (Ab5 R) e.bh e:=by simp [Ab5]
theorem Agf (R:List Elt):(Ab5 R).Perm R:=by
 refine Al0 (P:=fun R=>(Ab5 R).Perm R) (List.Perm.refl _) (fun R e ih=> ?_) R
 rw [Adx]
 exact (Agh _ _ _).trans ((List.Perm.cons e ih).trans (List.perm_append_comm (l₁:=[e])))
structure Ac4 (R:List Elt):Prop where
 ok:∀e∈R,e.id.ok∧e.bh.ok∧1≤e.id.n
 nd:(R.map (·.id)).Nodup
 bh:∀A e B,R=A++e::B→e.bh=zId∨Abg A e.bh=true
theorem Ac4.nil:Ac4 []:=⟨fun e he=>by simp at he,by simp,fun A e B h=>by simp at h⟩
theorem Ac4.all {R:List Elt} (h:Ac4 R):∀e∈R,e.bh=zId∨Abg R e.bh=true:=fun e he=>by
 obtain ⟨A,B,rfl⟩:=List.append_of_mem he
 refine (h.bh A e B rfl).imp id (fun q=> ?_)
 obtain ⟨x,hx,r⟩:=Aao.1 q
 exact Aao.2 ⟨x,List.mem_append_left _ hx,r⟩
theorem Ac4.seq {R:List Elt} (h:Ac4 R):Abf R:=⟨h.nd,h.ok,h.all⟩
theorem Ac4.row {R:List Elt} (h:Ac4 R):Abf (Ab5 R):=h.seq.perm (Agf R).symm
theorem Ac4.left {A B:List Elt} (h:Ac4 (A++B)):Ac4 A:=by
 refine ⟨fun e he=>h.ok e (List.mem_append_left _ he), ?_,fun C e D q=>h.bh C e (D++B) (by rw [q];simp)⟩
 have:=h.nd
 rw [List.map_append,List.nodup_append] at this
 exact this.1
theorem Ah5 (R:List Elt) (k:IdK):Abg (Ab5 R) k=Abg R k:=Ajr (Agf R) k
theorem Amz (R:List Elt) (k b:IdK):Afe (Ab5 R) k b=Afe R k b:=by unfold Afe;rw [Ah5,Ah5]
theorem Aql (R:List Elt) (k:IdK):Adt (Ab5 R) k=Adt R k:=by unfold Adt;rw [Ah5]
def Asi (R:List Elt) (k b:IdK):List Elt:=if Afe R k b=0 then R++[⟨k,b,true⟩] else R
theorem Ayx (R:List Elt) (k b:IdK):Ab5 (Asi R k b)=Awe (Ab5 R) k b:=by
 unfold Asi Awe
 rw [Amz]
 split
 ·rw [Adx]
 ·rfl
theorem Ac4.ins {R:List Elt} (h:Ac4 R) {k b:IdK} (hk:k.ok) (hb:b.ok):Ac4 (Asi R k b):=by
 unfold Asi
 split
 ·next q =>
  obtain ⟨h1,h2,h3⟩:=Asj q
  refine ⟨fun e he=> ?_, ?_,fun A e B r=> ?_⟩
  ·rcases List.mem_append.1 he with r|r
   ·exact h.ok e r
   ·rw [List.mem_singleton.1 r];exact ⟨hk,hb,h1⟩
  ·rw [List.map_append,List.nodup_append]
   refine ⟨h.nd,by simp,fun a ha c hc=> ?_⟩
   simp at hc
   rw [hc]
   obtain ⟨e,he,rfl⟩:=List.mem_map.1 ha
   intro r
   have:Abg R k=true:=Aao.2 ⟨e,he,r⟩
   rw [h2] at this;cases this
  ·rcases List.append_eq_append_iff.1 r with ⟨C,e1,e2⟩|⟨C,e1,e2⟩
   ·cases C with
    |nil =>
     simp at e1 e2
     subst e1
     rw [←e2.1];exact h3
    |cons c C =>
     simp at e2
   ·cases C with
    |nil =>
     simp at e1 e2
     subst e1
     rw [e2.1];exact h3
    |cons c C =>
     simp only [List.cons_append,List.cons.injEq] at e2
     exact h.bh A e C (by rw [e1, ←e2.1])
 ·exact h
theorem Ayy (R:List Elt) (k b:IdK):(Asi R k b).length≤R.length+1:=by
 unfold Asi
 split <;>simp
theorem Arb (l:List Elt) (b:IdK) (x:Elt) (k:IdK) (s:Bool):Abb (Ahc l b x) k s=Ahc (Abb l k s) b (if x.id=k then {x with sh:=s} else x):=by
 have hi:∀l:List Elt,Abb (Ash l b x) k s=Ash (Abb l k s) b (if x.id=k then {x with sh:=s} else x):=by
  intro l
  induction l with
  |nil=>rfl
  |cons e l ih =>
   have hid:∀e:Elt,(if e.id=k then {e with sh:=s} else e).id=e.id:=fun e=>by split <;>rfl
   unfold Abb at *
   rw [List.map_cons,Ash,Ash,hid]
   by_cases q:e.id=b
   ·rw [if_pos q,if_pos q];rfl
   ·rw [if_neg q,if_neg q,List.map_cons,ih]
 unfold Ahc
 split
 ·rfl
 ·exact hi l
theorem Axc (R:List Elt) (k:IdK) (s:Bool):Ab5 (Abb R k s)=Abb (Ab5 R) k s:=by
 refine Al0 (P:=fun R=>Ab5 (Abb R k s)=Abb (Ab5 R) k s) rfl (fun R e ih=> ?_) R
 have e1:Abb (R++[e]) k s=Abb R k s++[if e.id=k then {e with sh:=s} else e]:=by simp [Abb]
 rw [e1,Adx,Adx,ih,Arb]
 congr 1
 split <;>rfl
theorem Ac4.show {R:List Elt} (h:Ac4 R) (k:IdK) (s:Bool):Ac4 (Abb R k s):=by
 have ok:=h.seq.show k s
 refine ⟨ok.ok,ok.nd,fun A e B q=> ?_⟩
 unfold Abb at q
 obtain ⟨A',B',e1,e2,e3⟩:=List.map_eq_append_iff.1 q
 obtain ⟨e',B'',e4,e5,e6⟩:=List.map_eq_cons_iff.1 e3
 have:=h.bh A' e' B'' (by rw [e1,e4])
 rw [←e2]
 have hb:e.bh=e'.bh:=by rw [←e5];split <;>rfl
 rw [hb]
 refine this.imp id (fun r=> ?_)
 have:=Ai3 A' k s e'.bh
 unfold Abb at this
 rw [this];exact r
def Akf (l:List Elt) (b:IdK) (k at':Nat):Prop:=(at'=0∧∀j (h:j<l.length),j<k→l[j].id≠b)∨(∃j,∃h:j<l.length,j<k∧at'=j+1∧l[j].id=b)
theorem Akf.zero (l:List Elt) (b:IdK):Akf l b 0 0:= .inl ⟨rfl,fun j _ h=>by omega⟩
theorem Akf.hit {l:List Elt} {b:IdK} {k:Nat} (hk:k<l.length) (h:l[k].id=b):Akf l b (k+1) (k+1):= .inr ⟨k,hk,by omega,rfl,h⟩
theorem Akf.miss {l:List Elt} {b:IdK} {k a:Nat} (hk:k<l.length) (h:l[k].id≠b) (q:Akf l b k a):Akf l b (k+1) a:=by
 rcases q with ⟨h1,h2⟩|⟨j,hj,h1,h2,h3⟩
 ·refine .inl ⟨h1,fun j hj hjk=> ?_⟩
  by_cases e:j=k
  ·subst e;exact h
  ·exact h2 j hj (by omega)
 ·exact .inr ⟨j,hj,by omega,h2,h3⟩
theorem Akf.le {l:List Elt} {b:IdK} {k a:Nat} (q:Akf l b k a):a≤l.length∧a≤k:=by
 rcases q with ⟨h1,h2⟩|⟨j,hj,h1,h2,h3⟩ <;>omega
theorem A4v {l:List Elt} (nd:(l.map (·.id)).Nodup) (h1:∀e∈l,1≤e.id.n) {b:IdK} (hb:b=zId∨Abg l b=true) {a:Nat} (q:Akf l b l.length a) (x:Elt):Ahc l b x=l.take a++x::l.drop a:=by
 rcases q with ⟨rfl,h2⟩|⟨j,hj,_,rfl,h3⟩
 ·have hz:b=zId:=by
   rcases hb with r|r
   ·exact r
   ·obtain ⟨e,he,r⟩:=Aao.1 r
    obtain ⟨i,hi,rfl⟩:=List.getElem_of_mem he
    exact absurd r (h2 i hi hi)
  unfold Ahc
  rw [if_pos hz];rfl
 ·have hz:b≠zId:=fun r=>by
   have:=h1 l[j] (List.getElem_mem hj)
   rw [h3,r] at this
   simp [zId] at this
  have e:l=l.take j++l[j]::l.drop (j+1):=by rw [List.getElem_cons_drop];exact (List.take_append_drop j l).symm
  have et:l.take (j+1)=l.take j++[l[j]]:=by rw [List.take_add_one,List.getElem?_eq_getElem hj];rfl
  generalize l[j]=z at *
  have hn:∀y∈l.take j,y.id≠z.id:=fun y hy=>by
   have nd2:=nd
   rw [e,List.map_append,List.map_cons,List.nodup_append] at nd2
   exact nd2.2.2 y.id (List.mem_map.2 ⟨y,hy,rfl⟩) _ (by simp)
  unfold Ahc
  rw [if_neg hz, ←h3,et]
  conv=>lhs;rw [e]
  rw [Amy (A:=l.take j) (B:=l.drop (j+1)) (e:=z) (x:=x) hn]
  simp
theorem Aos {l:List Elt} {k:Nat} (h0:0<k) (hk:k≤l.length) (y:Elt):(l.take k++y::l.drop k).set k l[k-1]=l.take (k-1)++l[k-1]::l.drop (k-1):=by
 have hl:(l.take k).length=k:=by rw [List.length_take];omega
 have e1:(l.take k++y::l.drop k).set k l[k-1]=l.take k++l[k-1]::l.drop k:=by
  rw [List.set_append_right _ _ (by omega),hl];simp
 have e2:l.take k=l.take (k-1)++[l[k-1]]:=by
  conv=>lhs;rw [show k=(k-1)+1 by omega]
  rw [List.take_add_one,List.getElem?_eq_getElem (by omega)];rfl
 have e3:l.drop (k-1)=l[k-1]::l.drop k:=by
  rw [List.drop_eq_getElem_cons (by omega)]
  congr 2;omega
 rw [e1,e3]
 conv=>lhs;rw [e2]
 rw [List.append_assoc];rfl
theorem Aot {l:List Elt} {a:Nat} (ha:a≤l.length) (y x:Elt):(l.take a++y::l.drop a).set a x=l.take a++x::l.drop a:=by
 have hl:(l.take a).length=a:=by rw [List.length_take];omega
 rw [List.set_append_right _ _ (by omega),hl];simp
theorem Aqn {l:List Elt} {k:Nat} (h0:0<k) (hk:k≤l.length) (y:Elt):(l.take k++y::l.drop k)[k-1]? =some l[k-1]:=by
 rw [List.getElem?_append_left (by rw [List.length_take];omega),List.getElem?_take,if_pos (by omega),List.getElem?_eq_getElem (by omega)]
theorem Aqm (l:List Elt) {k:Nat} (hk:k≤l.length) (y:Elt):(l.take k++y::l.drop k).length=l.length+1:=by simp;omega
theorem Axb {R:List Elt} (nd:(R.map (·.id)).Nodup) {i:Nat} (hi:i<R.length) (s:Bool):R.set i {R[i] with sh:=s}=Abb R R[i].id s:=by
 have e:R=R.take i++R[i]::R.drop (i+1):=by rw [List.getElem_cons_drop];exact (List.take_append_drop i R).symm
 have hl:(R.take i).length=i:=by rw [List.length_take];omega
 generalize hx:R[i]=x at *
 have nd2:=nd
 rw [e,List.map_append,List.map_cons,List.nodup_append] at nd2
 have hn1:∀y∈R.take i,y.id≠x.id:=fun y hy=>nd2.2.2 y.id (List.mem_map.2 ⟨y,hy,rfl⟩) _ (by simp)
 have hn2:∀y∈R.drop (i+1),y.id≠x.id:=fun y hy q=>(List.nodup_cons.1 nd2.2.1).1 (List.mem_map.2 ⟨y,hy,q⟩)
 have hid:∀l:List Elt,(∀y∈l,y.id≠x.id)→Abb l x.id s=l:=fun l h=>by
  unfold Abb
  conv=>rhs;rw [←List.map_id l]
  exact List.map_congr_left fun y hy=>by rw [if_neg (h y hy)];rfl
 have e2:Abb R x.id s=Abb (R.take i) x.id s++{x with sh:=s}::Abb (R.drop (i+1)) x.id s:=by
  conv=>lhs;rw [e]
  simp [Abb]
 rw [e2,hid _ hn1,hid _ hn2]
 conv=>lhs;rw [e]
 rw [List.set_append_right _ _ (by omega),hl];simp
def Elt.c (e:Elt):List Value:=e.id.c++(e.bh.c++[.bool e.sh])
def Elt.wf (e:Elt):Prop:=e.id.ok∧e.bh.ok
def Awh:Elt:=⟨zId,zId,false⟩
theorem Ahn:Awh.wf:=⟨Aay,Aay⟩
theorem Elt.len {e:Elt} (h:e.wf):e.c.length=67:=by simp [Elt.c,IdK.len h.1,IdK.len h.2]
theorem Elt.one (e:Elt):∀v∈e.c,v.oneCell'=true:=by
 intro v hv
 simp only [Elt.c,List.mem_append,List.mem_cons,List.not_mem_nil,or_false] at hv
 rcases hv with h|h|rfl
 ·exact IdK.one _ v h
 ·exact IdK.one _ v h
 ·rfl
def RE:Aae Elt:=⟨Elt.c,Elt.wf,67,88,105,81,Awh⟩
theorem Adr:RE.Is:=⟨Ahn,fun _ h=>Elt.len h,Elt.one,underlying81,by kernel_rfl,⟨_,underlying105,rfl⟩,by decide,by decide⟩
section
variable {w:World} {b o:Nat} {x:Elt}
theorem A5y (hx:x.wf) (h:w.rangeAt b o x.c):(Instr.loadAt 105 (pZ b o)).run prog w= .ok (.agg x.c.toArray) w:=Aae.ld Adr hx h
theorem At6 (hx:x.wf) (h:w.rangeAt b o x.c):(Instr.loadAt 36 (pZ b (o+0))).run prog w= .ok x.id.v w :=
 run_loadAt_mid (P:=prog) w b o 36 x.id.c _ (fun j v hv=>h j v (by rw [Elt.c,List.getElem?_append_left (List.getElem?_eq_some_iff.1 hv).1];exact hv)) underlying36 rfl (by rw [IdK.len hx.1];exact Alv)
theorem A8b (hx:x.wf) (h:w.rangeAt b o x.c):(Instr.loadAt 36 (pZ b (o+33))).run prog w= .ok x.bh.v w :=
 run_loadAt_mid (P:=prog) w b (o+33) 36 x.bh.c _ (fun j v hv=>by
  have hl:=(List.getElem?_eq_some_iff.1 hv).1
  rw [Nat.add_assoc]
  exact h (33+j) v (by rw [Elt.c,List.getElem?_append_right (by rw [IdK.len hx.1];omega),IdK.len hx.1,show 33+j-33=j by omega,List.getElem?_append_left hl];exact hv)) underlying36 rfl (by rw [IdK.len hx.2];exact Alv)
theorem A3z (hx:x.wf) (h:w.rangeAt b o x.c):(Instr.loadAt 4 (pZ b (o+66))).run prog w= .ok (.bool x.sh) w:=by
 have l1:=IdK.len hx.1
 have l2:=IdK.len hx.2
 have hc:w.cell? ⟨b,o+66,none⟩=some (.bool x.sh):=h 66 _ (by rw [Elt.c,List.getElem?_append_right (by omega),l1,List.getElem?_append_right (by omega),l2];rfl)
 go_simp
end
theorem Agp {b o m c i:Nat} (hi:i<m) (hm:m≤1400000000001) (W:World):(Instr.indexAt 81 (.slice (some ⟨b,o,none⟩) m c) (.int .i64 (i:Int))).run prog W= .ok (pZ b (o+67*i)) W:=by
 have h2:m≤9223372036854775807:=by omega
 rw [Nat.mul_comm]
 go_simp
theorem Atl (b o:Nat) (w:World):(Instr.fieldAt 83 (pZ b o) 0).run prog w= .ok (pZ b (o+0)) w:=by go_simp
theorem Avy (W:World):(Instr.build 105 #[]).run prog W= .ok (.agg Awh.c.toArray) W:=by kernel_rfl
structure Abj (w:World) (base d:Nat) (v:Value) (R:List Elt):Prop where
 c0:w.heap[d]? =some (.cells #[v] 83 (0,0))
 own:RE.Own w base v R
 ok:Ac4 R
 hd:base≤d
 len:R.length≤1400000000000
theorem Abj.ne {w:World} {base d:Nat} {v:Value} {R:List Elt} (h:Abj w base d v R):v.ownBlock≠some d:=fun e=>by
 obtain ⟨_,c,q⟩:=h.own.cells e
 rw [h.c0] at q
 simp [RE] at q
theorem Abj.keep {w w':World} {base d:Nat} {v:Value} {R:List Elt} (h:Abj w base d v R) (h1:w'.heap[d]? =w.heap[d]?) (h2:∀k,v.ownBlock=some k→w'.heap[k]? =w.heap[k]?):Abj w' base d v R:=⟨h1.trans h.c0,h.own.keep h2,h.ok,h.hd,h.len⟩
theorem Abj.lt {w:World} {base d:Nat} {v:Value} {R:List Elt} (h:Abj w base d v R):d<w.heap.size:=(Array.getElem?_eq_some_iff.1 h.c0).1
theorem Abj.below {w w':World} {base d:Nat} {v:Value} {R:List Elt} (h:Abj w base d v R) (b:Below w.heap.size w w'):Abj w' base d v R:=h.keep (b.block d h.lt) (fun k hk=>b.block k (h.own.lt hk))
theorem Abj.wf {w:World} {base d:Nat} {v:Value} {R:List Elt} (h:Abj w base d v R):∀e∈R,RE.ok e:=fun e he=>⟨(h.ok.ok e he).1,(h.ok.ok e he).2.1⟩
theorem Abj.open {w:World} {base d:Nat} {v:Value} {R:List Elt} (h:Abj w base d v R):∃a c,v= .slice a R.length c∧RE.At w a R:=by
 obtain ⟨a,c,e,ha,_⟩:=h.own.open Adr h.wf
 exact ⟨a,c,e,ha⟩
theorem Aez {w:World} {d:Nat} {v:Value} {a:Option Addr} {n c:Nat} (h:w.heap[d]? =some (.cells #[v] 83 (0,0))) (e:v= .slice a n c):(Instr.loadAt 81 (pZ d (0+0))).run prog w= .ok v w:=by
 have hc:w.cell? ⟨d,0,none⟩=some v:=by rw [cell_of_row w d 0 _ _ _ h];rfl
 subst e
 rw [Nat.add_zero]
 go_simp
theorem A4l {w:World} {d:Nat} {v:Value} {a:Option Addr} {n c:Nat} (h:w.heap[d]? =some (.cells #[v] 83 (0,0))):(Instr.storeAt 81 (pZ d (0+0)) (.slice a n c)).run prog w= .ok () (w.setCell ⟨d,0,none⟩ (.slice a n c))∧(w.setCell ⟨d,0,none⟩ (.slice a n c)).heap[d]? =some (.cells #[.slice a n c] 83 (0,0)):=by
 have hc:w.cell? ⟨d,0,none⟩=some v:=by rw [cell_of_row w d 0 _ _ _ h];rfl
 have hf:=frozen_of_row w d 0 _ _ h
 refine ⟨by rw [Nat.add_zero];go_simp, ?_⟩
 exact Go.heap_setCell_same _ _ 0 _ _ _ h
theorem Amw {b m c i:Nat} (hi:i<m) (hm:m≤1400000000001) (W:World):(Instr.indexAt 81 (.slice (some ⟨b,0,none⟩) m c) (.int .i64 (i:Int))).run prog W= .ok (pZ b (67*i)) W:=by
 have:=Agp (b:=b) (o:=0) (c:=c) hi hm W
 rwa [Nat.zero_add] at this
theorem App (w:World) (s:Bool) (a0 a1 a2 a3 a4 a5 a6 a7 a8 a9 a10 a11 a12 a13 a14 a15 a16 a17 a18 a19 a20 a21 a22 a23 a24 a25 a26 a27 a28 a29 a30 a31 a32 b0 b1 b2 b3 b4 b5 b6 b7 b8 b9 b10 b11 b12 b13 b14 b15 b16 b17 b18 b19 b20 b21 b22 b23 b24 b25 b26 b27 b28 b29 b30 b31 b32:Value):(Instr.build 105 #[(0, .agg [a0,a1,a2,a3,a4,a5,a6,a7,a8,a9,a10,a11,a12,a13,a14,a15,a16,a17,a18,a19,a20,a21,a22,a23,a24,a25,a26,a27,a28,a29,a30,a31,a32].toArray),(1, .agg [b0,b1,b2,b3,b4,b5,b6,b7,b8,b9,b10,b11,b12,b13,b14,b15,b16,b17,b18,b19,b20,b21,b22,b23,b24,b25,b26,b27,b28,b29,b30,b31,b32].toArray),(2, .bool s)]).run prog w= .ok (.agg ([a0,a1,a2,a3,a4,a5,a6,a7,a8,a9,a10,a11,a12,a13,a14,a15,a16,a17,a18,a19,a20,a21,a22,a23,a24,a25,a26,a27,a28,a29,a30,a31,a32]++([b0,b1,b2,b3,b4,b5,b6,b7,b8,b9,b10,b11,b12,b13,b14,b15,b16,b17,b18,b19,b20,b21,b22,b23,b24,b25,b26,b27,b28,b29,b30,b31,b32]++[Value.bool s])).toArray) w:=by kernel_rfl
theorem Avz (w:World) {p q:IdK} (hp:p.ok) (hq:q.ok) (s:Bool):(Instr.build 105 #[(0,p.v),(1,q.v),(2, .bool s)]).run prog w= .ok (.agg (Elt.c ⟨p,q,s⟩).toArray) w:=by
 have h:=IdK.len hp
 have h2:=IdK.len hq
 unfold Elt.c IdK.v
 simp only
 generalize p.c=l at *
 generalize q.c=m at *
 match l,h,m,h2 with
 |a0::a1::a2::a3::a4::a5::a6::a7::a8::a9::a10::a11::a12::a13::a14::a15::a16::a17::a18::a19::a20::a21::a22::a23::a24::a25::a26::a27::a28::a29::a30::a31::a32::[],_,b0::b1::b2::b3::b4::b5::b6::b7::b8::b9::b10::b11::b12::b13::b14::b15::b16::b17::b18::b19::b20::b21::b22::b23::b24::b25::b26::b27::b28::b29::b30::b31::b32::[],_=>exact App w s a0 a1 a2 a3 a4 a5 a6 a7 a8 a9 a10 a11 a12 a13 a14 a15 a16 a17 a18 a19 a20 a21 a22 a23 a24 a25 a26 a27 a28 a29 a30 a31 a32 b0 b1 b2 b3 b4 b5 b6 b7 b8 b9 b10 b11 b12 b13 b14 b15 b16 b17 b18 b19 b20 b21 b22 b23 b24 b25 b26 b27 b28 b29 b30 b31 b32
theorem A6j {w:World} {a:Act} {o:Oper} {x y z:Operand} {p q:IdK} {s:Bool} (ho:o.op= .build 105 #[(0,x),(1,y),(2,z)]) (hx:a.eval x=p.v) (hy:a.eval y=q.v) (hz:a.eval z= .bool s) (hp:p.ok) (hq:q.ok):(execOp a.eval o).run prog w= .ok (.value (.agg (Elt.c ⟨p,q,s⟩).toArray)) w :=
 Afo ho (by simp [hx,hy,hz]) (Avz w hp hq s)
def Aj2:Array Oper:=(⟨_,rfl⟩:{o // some o=rgB Tryz.f17 7}).1
theorem A6n {d bb:Nat} {b:IdK} (a:Act) (w:World) (Q:Exit→Act→World→Prop) (zz:a.tmps.size=41)
 (t0:a.tmps.getD 0 undef= (pZ d 0))
 (t5:a.tmps.getD 5 undef= (pZ bb 0))
 (hb:b.ok) (hz:b=zId) (h0:Aaz w bb b)
 (h:∀a' w',w'=w→a'=(((((((((a.put (some 20) (b.v)).put (some 21) (zId.v)).put (some 22) (.bool false)).put (some 23) (.bool false)).put (some 24) (undef)).put (some 25) (undef)).put (some 26) (undef)).put (some 27) (undef)).put (some 28) (.bool false)).put (some 19) (.bool false)→Q .normal a' w') :
 (Code.region 7 Aj2 false).wp prog Q a w:=by
 refine z0 rfl ?_
 refine zv rfl (xld rfl (zi t5 rfl) (Aah hb h0)) ?_
 refine zv rfl (Ac2 rfl (Abh _)) ?_
 refine zv (v:= .bool false) rfl (Atr rfl (zg zz rfl) (zg zz rfl) hb Aay (by simp [hz])) ?_
 refine zv rfl (xmv rfl (zg zz rfl)) ?_
 iterate 4 refine zn (zx zz rfl rfl rfl (zg zz rfl)) ?_
 refine zv rfl (Aa0 rfl (zg zz rfl) rfl) ?_
 refine zv rfl (xas rfl (zg zz rfl)) ?_
 exact ze rfl (h _ _ (rfl) rfl)
theorem A1j {d bb:Nat} {b:IdK} {r:Int} {g:Bool} (Fin:World→Prop) (a:Act) (w:World) (Q:Exit→Act→World→Prop) (zz:a.tmps.size=41)
 (t0:a.tmps.getD 0 undef= (pZ d 0))
 (t5:a.tmps.getD 5 undef= (pZ bb 0))
 (hb:b.ok) (hz:b≠zId) (h0:Aaz w bb b) (hg:decide (r<0)=g) (CF:Calls prog 50 #[(pZ d 0),b.v] w fun e w'=>e= .returned (.int .i64 r)∧Fin w')
 (h:∀a' w',Fin w'→a'=(((((((((a.put (some 20) (b.v)).put (some 21) (zId.v)).put (some 22) (.bool true)).put (some 23) (.bool true)).put (some 24) (pZ d 0)).put (some 25) (b.v)).put (some 26) (.int .i64 r)).put (some 27) (.bool g)).put (some 28) (.bool g)).put (some 19) (.bool g)→Q .normal a' w') :
 (Code.region 7 Aj2 false).wp prog Q a w:=by
 refine z0 rfl ?_
 refine zv rfl (xld rfl (zi t5 rfl) (Aah hb h0)) ?_
 refine zv rfl (Ac2 rfl (Abh _)) ?_
 refine zv (v:= .bool true) rfl (Atr rfl (zg zz rfl) (zg zz rfl) hb Aay (by simp [hz])) ?_
 refine zv rfl (xmv rfl (zg zz rfl)) ?_
 refine zv (zw zz rfl rfl rfl (zg zz rfl)) (xmv rfl (zi t0 rfl)) ?_
 refine zv (zw zz rfl rfl rfl (zg zz rfl)) (xld rfl (zi t5 rfl) (Aah hb h0)) ?_
 refine zc (zw zz rfl rfl rfl (zg zz rfl)) (Aap rfl (zg zz rfl) (zg zz rfl)) (CF) (fun e x6 hx=> ?_)
 obtain ⟨rfl,HF⟩:=hx
 refine ⟨_,rfl, ?_⟩
 refine zv (v:= .bool g) (zw zz rfl rfl rfl (zg zz rfl)) (Att rfl (zg zz rfl) rfl hg) ?_
 refine zv rfl (Abm rfl (zg zz rfl) (zg zz rfl)) ?_
 refine zv rfl (xas rfl (zg zz rfl)) ?_
 exact ze rfl (h _ _ (HF) rfl)
def At7:Array Oper:=(⟨_,rfl⟩:{o // some o=rgB Tryz.f17 9}).1
theorem A6m {d kb bb n ec vn vc:Nat} {ea va:Option Addr} {k b:IdK} {sv:Value} {w1 w2 w3:World} (a:Act) (w:World) (Q:Exit→Act→World→Prop) (zz:a.tmps.size=41)
 (t0:a.tmps.getD 0 undef= (pZ d 0))
 (t4:a.tmps.getD 4 undef= (pZ kb 0))
 (t5:a.tmps.getD 5 undef= (pZ bb 0))
 (hk:k.ok) (hb:b.ok) (S0:w.drew.heap[d]? =some (.cells #[.slice ea n ec] 83 (0,0))∧Aaz w.drew kb k∧Aaz w.drew bb b) (S1:w1.heap[d]? =some (.cells #[.slice ea n ec] 83 (0,0))∧Aaz w1 kb k∧Aaz w1 bb b) (S2:w2.heap[d]? =some (.cells #[.slice ea n ec] 83 (0,0))∧Aaz w2 kb k∧Aaz w2 bb b) (E1:(Instr.buildSlice 81 1 #[(0, .agg (Elt.c ⟨k,b,true⟩).toArray)]).run prog w.drew= .ok sv w1) (E2:(Builtin.append_ #[81,81] 81 #[.slice ea n ec,sv]).run prog w1= .ok (.slice va vn vc) w2) (E3:(Instr.storeAt 81 (pZ d (0+0)) (.slice va vn vc)).run prog w2= .ok () w3)
 (h:∀a' w',w'=w3→a'=(((((((((((a.put (some 29) (pZ d 0)).put (some 30) (pZ d 0)).put (some 31) (pZ d 0)).put (some 32) (pZ d (0+0))).put (some 33) (.slice ea n ec)).put (some 34) (k.v)).put (some 35) (b.v)).put (some 36) (.agg (Elt.c ⟨k,b,true⟩).toArray)).put (some 37) (sv)).put (some 38) (.slice va vn vc)).put (some 39) (pZ d 0)).put (some 40) (pZ d (0+0))→Q .normal a' w') :
 (Code.region 9 At7 true).wp prog Q a w:=by
 refine x0 12 (fun w'=>w'.heap[d]? =some (.cells #[.slice ea n ec] 83 (0,0))∧Aaz w' kb k∧Aaz w' bb b) (S0) (fun hHeld=> ?_)
 refine xv 0 rfl rfl (fun w1 hw=>xmv rfl (zi t0 rfl)) hHeld ?_
 refine xv 1 rfl rfl (fun w1 hw=>xmv rfl (zi t0 rfl)) hHeld ?_
 refine xv 2 rfl rfl (fun w1 hw=>xnc rfl (zg zz rfl)) hHeld ?_
 refine xv 3 rfl rfl (fun w1 hw=>xfa rfl (zg zz rfl) (Atl _ _ _)) hHeld ?_
 refine xv 4 rfl rfl (fun w1 hw=>xld rfl (zg zz rfl) (Aez (hw.1) rfl)) hHeld ?_
 refine xv 5 rfl rfl (fun w1 hw=>xld rfl (zi t4 rfl) (Aah hk hw.2.1)) hHeld ?_
 refine xv 6 rfl rfl (fun w1 hw=>xld rfl (zi t5 rfl) (Aah hb hw.2.2)) hHeld ?_
 refine xv (v:= .agg (Elt.c ⟨k,b,true⟩).toArray) 7 rfl rfl (fun w1 hw=>A6j rfl (zg zz rfl) (zg zz rfl) rfl hk hb) hHeld ?_
 refine xr (v:=sv) 8 rfl rfl (Aba rfl (zg zz rfl) E1) (fun _=>S1) (fun hHeld=> ?_)
 replace hHeld:=hHeld (by decide)
 refine xr (v:= .slice va vn vc) 9 rfl rfl (Ab1 rfl (zg zz rfl) (zg zz rfl) E2) (fun _=>S2) (fun hHeld=> ?_)
 replace hHeld:=hHeld (by decide)
 refine xv 10 rfl rfl (fun w1 hw=>xnc rfl (zg zz rfl)) hHeld ?_
 refine xv 11 rfl rfl (fun w1 hw=>xfa rfl (zg zz rfl) (Atl _ _ _)) hHeld ?_
 refine xs 12 rfl rfl (Aai rfl (zg zz rfl) (zg zz rfl) E3) (fun hne=>absurd rfl hne) (fun _=> ?_)
 exact xe rfl (h _ _ (rfl) rfl)
def Aog (w:World) (base:Nat) (pv:Value) (R:List Elt):Prop:=(pv= .pointer none∧R=[])∨∃d v,pv= (pZ d 0)∧Abj w base d v R
theorem Aog.below {w w':World} {base:Nat} {pv:Value} {R:List Elt} (h:Aog w base pv R) (b:Below w.heap.size w w'):Aog w' base pv R:=by
 rcases h with h|⟨d,v,e,h⟩
 ·exact .inl h
 ·exact .inr ⟨d,v,e,h.below b⟩
theorem Aog.ok {w:World} {base:Nat} {pv:Value} {R:List Elt} (h:Aog w base pv R):Ac4 R∧R.length≤1400000000000:=by
 rcases h with ⟨_,rfl⟩|⟨d,v,e,h⟩
 ·exact ⟨Ac4.nil,by simp⟩
 ·exact ⟨h.ok,h.len⟩
theorem Abj.get {w:World} {base d:Nat} {v:Value} {R:List Elt} (h:Abj w base d v R) {i:Nat} (hi:i<R.length):∃eb eo ec,v= .slice (some ⟨eb,eo,none⟩) R.length ec∧eb<w.heap.size∧R[i].wf∧w.rangeAt eb (eo+67*i) R[i].c:=by
 obtain ⟨a,c,e,ha⟩:=h.open
 obtain ⟨b,o,rfl,hl,hr⟩:=ha.get hi
 exact ⟨b,o,c,e,hl,h.wf _ (List.getElem_mem hi),hr⟩
theorem Ah1 {R:List Elt} {k:IdK} (h:∀j (hj:j<R.length),R[j].id≠k):Abg R k=false:=by
 cases q:Abg R k with
 |false=>rfl
 |true =>
  obtain ⟨e,he,r⟩:=Aao.1 q
  obtain ⟨j,hj,rfl⟩:=List.getElem_of_mem he
  exact absurd r (h j hj)
theorem Ak7 {w:World} {base d:Nat} {v:Value} {R:List Elt} (h:Abj w base d v R) {k:IdK} (hk:k.ok):Calls prog 50 #[(pZ d 0),k.v] w fun e w'=>e= .returned (.int .i64 (Aac R false k))∧Below w.heap.size w w':=by
 have bx:Below w.heap.size w (w.alloc (.cells k.c.toArray 36)):=(Below.refl _ _).alloc (Nat.le_refl _) _
 have hx:=Acg w k
 obtain ⟨n,hn⟩:∃n,R.length=n:=⟨_,rfl⟩
 have hN:=h.len
 rw [hn] at hN
 obtain ⟨ea,ec,ev,_⟩:=h.open
 rw [hn] at ev
 have HV:=Aaa ev
 have HN:=Aaa hn
 obtain ⟨r,hr⟩:∃r,Aac R false k=r:=⟨_,rfl⟩
 have HR:=Aaa hr
 rw [hr]
 show Calls prog 50 #[(pZ d 0), .agg k.c.toArray] w _
 clear hr ev hn
 go_enter func50,ntmps50
 go_wp2
 have st0:Hid (Abj (w.alloc (.cells k.c.toArray 36)) base d v R∧Aaz (w.alloc (.cells k.c.toArray 36)) w.heap.size k∧Below w.heap.size w (w.alloc (.cells k.c.toArray 36))):=⟨h.below bx,hx,bx⟩
 generalize w.alloc (.cells k.c.toArray 36)=wx at *
 obtain ⟨kb,hkb⟩:∃kb,w.heap.size=kb:=⟨_,rfl⟩
 rw [hkb] at st0 ⊢
 have HK:=Aaa hkb
 clear hkb bx hx
 go_loopw [5] (fun v5 wr=> ∃(i:Nat),v5= .int .i64 (i:Int)∧i≤n∧Hid (Abj wr base d v R∧Aaz wr kb k∧Below kb w wr)∧Hid (∀j (hj:j<R.length),j<i→R[j].id≠k)) (fun v5 wr=>n-(match v5 with | .int _ i=>i.toNat|_=>0))
 case atStart=>exact ⟨0,rfl,Nat.zero_le _,st0,fun j hj h=>by omega⟩
 case round =>
  clear st0
  obtain ⟨i,rfl,hin,hI,hno⟩:=hrel
  by_cases hi:i<n
  ·have hi':i<R.length:=by rw [HN.out];exact hi
   obtain ⟨eb,eo,ec2,e1,hl,hwf,hra⟩:=hI.out.1.get hi'
   rw [HN.out] at e1
   have hc0:=hI.out.1.c0
   rw [e1] at hc0
   have HX:=Aaa (Ama h.ok.seq hi')
   have HNX:Hid (R[i].id≠k→∀j (hj:j<R.length),j<i+1→R[j].id≠k):=fun q j hj hji=>by
        by_cases e:j=i
        ·subst e;exact q
        ·exact hno.out j hj (by omega)
   generalize R[i]=x at *
   go_upto_region 3 with fail
   refine En.zqc tab rfl (En.st ((Aez hc0 rfl)) (En.cm (c':=true) ((decide_eq_true (by omega))) (En.fi ?_)))
   intro a' w1 hw ha
   subst ha
   obtain rfl:w1=wr:=hw
   simp only [En.pM,En.pU,Act.put,qsA,qsB,qsC]
   go_upto_region 5 with fail
   refine En.zyc tab [0,1,2,3,4,5,6,7,8,9] 10 (fun w'=>w'=(World.drew _)) (hS:=(rfl)) (h:=En.sty (fun Xw Xh=>(Aez (by rw [Xh];exact hc0) rfl)) (En.sty (fun Xw Xh=>(Agp hi (by omega) _)) (En.sty (fun Xw Xh=>(At6 hwf (by rw [Xh];exact hra))) (En.sty (fun Xw Xh=>(Aah hk (by rw [Xh];exact hI.out.2.1))) (En.sty (fun Xw Xh=>A60 hwf.1 hk (rfl) _ _ _) (En.fi ?_))))))
   intro a' w2 hw ha
   subst ha
   obtain rfl:w2=w1.drew:=hw
   simp only [En.pM,En.pU,Act.put,qsA,qsB,qsC]
   have hI2:Hid (Abj w1.drew base d v R∧Aaz w1.drew kb k∧Below kb w w1.drew):=⟨hI.out.1.below ((Below.refl _ _).drew),hI.out.2.1,hI.out.2.2.drew⟩
   generalize w1.drew=w2 at *
   clear hI hra hc0 e1 hl
   cases hd:decide (x.id=k) with
   |true =>
    have e2:r=(i:Int):=by rw [←HR.out, ←HX.out,of_decide_eq_true hd]
    subst e2
    clear hd HX HNX hno
    go_wp2
    go_ret
    exact ⟨rfl,by rw [HK.out];exact hI2.out.2.2⟩
   |false =>
    have HD:=Aaa (of_decide_eq_false hd)
    clear hd HX hno
    go_wp2
    have hq:((i:Int)+1)=((i+1:Nat):Int):=by omega
    rw [hq]
    refine ⟨⟨i+1,rfl,hi,hI2,HNX.out HD.out⟩, ?_⟩
    show n-((i+1:Nat):Int).toNat<n-(i:Int).toNat
    omega
  ·obtain rfl:n=i:=by omega
   have hc0:=hI.out.1.c0
   rw [HV.out] at hc0
   have e2:r= -1:=by
        rw [←HR.out]
        exact Adk (Ah1 (fun j hj=>hno.out j hj (by rw [←HN.out];exact hj))) false
   subst e2
   clear hno
   go_upto_region 3 with fail
   refine En.zqc tab rfl (En.st ((Aez hc0 rfl)) (En.cm (c':=false) ((decide_eq_false (by omega))) (En.fi ?_)))
   intro a' w1 hw ha
   subst ha
   obtain rfl:w1=wr:=hw
   simp only [En.pM,En.pU,Act.put,qsA,qsB,qsC]
   clear hc0
   go_wp2
   go_ret
   exact ⟨rfl,by rw [HK.out];exact hI.out.2.2⟩
theorem Aae.Own.zero {κ:Type} {R:Aae κ} (I:R.Is) {w:World} {base:Nat} {v:Value} {L:List κ} (h:R.Own w base v L) (ok:∀h∈L,R.ok h) {i:Nat} (hi:i<L.length):∃g cap,v= .slice (some ⟨g,0,none⟩) L.length cap∧w.rangeAt g (R.k*i) (R.c L[i]):=by
 rcases h.2 with ⟨rfl,hn⟩|⟨g,cap,cur,rfl,hbg,hg,hnc,hcm,hcs,htake⟩
 ·omega
 ·refine ⟨g,cap,rfl,fun j u hj=> ?_⟩
  have e:=Aae.flat_get I ok (List.getElem?_eq_getElem hi) hj
  rw [cell_of_row w g _ cur R.e (0,0) hg]
  rw [←htake,List.getElem?_take] at e
  split at e
  ·simpa using e
  ·cases e
theorem Afq {R:List Elt} (h:Ac4 R):∀e∈Ab5 R,RE.ok e:=fun e he=>⟨(h.row.ok e he).1,(h.row.ok e he).2.1⟩
theorem Adw (R:List Elt):(Ab5 R).length=R.length:=(Agf R).length_eq
structure RwI (w:World) (l:List Elt) (lv:Value) (wr:World):Prop where
 own:RE.Own wr w.heap.size lv l
 bel:Below w.heap.size w wr
theorem RwI.slice {w wr:World} {l:List Elt} {lv:Value} (h:RwI w l lv wr) (ok:∀e∈l,RE.ok e):∃a c,lv= .slice a l.length c:=by
 obtain ⟨a,c,e,_⟩:=h.own.open Adr ok
 exact ⟨a,c,e⟩
theorem RwI.push {w wr:World} {l:List Elt} {lv:Value} (h:RwI w l lv wr) {x:Elt} (hx:x.wf) (hl:l.length≤1400000000000) :
 ∃sv w1 v2 w2,(Instr.buildSlice 81 1 #[(0, .agg x.c.toArray)]).run prog wr= .ok sv w1∧(Builtin.append_ #[81,81] 81 #[lv,sv]).run prog w1= .ok v2 w2∧RwI w (l++[x]) v2 w2:=by
 obtain ⟨sv,w1,v2,w2,e1,e2,o,b1,z1,g,q⟩:=Aae.run_push Adr wr w.heap.size lv l x h.own hx (by unfold maxLen;omega) (by show _*88≤_;omega) h.bel.size
 refine ⟨sv,w1,v2,w2,e1,e2,o, ?_⟩
 have b2:Below w.heap.size w w1:=h.bel.trans (b1.mono h.bel.size)
 exact ⟨g.os.trans b2.os,g.tape.trans b2.tape,g.output.trans b2.output,Nat.le_trans b2.size g.size,fun k hk=>(g.block k (Nat.lt_of_lt_of_le hk b2.size) (fun e=>by
  have:=(h.own.cells (k:=k) (by rw [←e])).1;omega)).trans (b2.block k hk)⟩
theorem RwI.set {w wr:World} {l:List Elt} {lv:Value} (h:RwI w l lv wr) (ok:∀e∈l,RE.ok e) {i:Nat} (hi:i<l.length) {x:Elt} (hx:x.wf) :
 ∃g cap,lv= .slice (some ⟨g,0,none⟩) l.length cap∧∃w2,(Instr.storeAt 105 (pZ g (67*i)) (.agg x.c.toArray)).run prog wr= .ok () w2∧RwI w (l.set i x) lv w2:=by
 obtain ⟨g,cap,e,hg,w2,e2,o,t,z⟩:=Aae.own_set Adr h.own ok hi hx
 refine ⟨g,cap,e,w2,e2,o,h.bel.trans (t.below h.bel.size (fun k hk=>(h.own.cells hk).1))⟩
theorem RwI.drew {w wr:World} {l:List Elt} {lv:Value} (h:RwI w l lv wr):RwI w l lv wr.drew:=⟨h.own.below ((Below.refl _ _).drew),h.bel.drew⟩
set_option maxHeartbeats 8000000 in
theorem A4t {w:World} {base d:Nat} {v:Value} {R:List Elt} (h:Abj w base d v R):Calls prog 58 #[(pZ d 0)] w fun e w'=> ∃v,e= .returned v∧RE.Own w' w.heap.size v (Ab5 R)∧Below w.heap.size w w':=by
 obtain ⟨n,hn⟩:∃n,R.length=n:=⟨_,rfl⟩
 have hN:=h.len
 rw [hn] at hN
 have HN:=Aaa hn
 have HH:=Aaa h
 have st0:Hid (RwI w (Ab5 (R.take 0)) (.slice none 0 0) w):=⟨Aae.own_nil RE _ _,Below.refl _ _⟩
 clear hn
 go_enter func58,ntmps58
 go_wp2
 go_loopw [3,4] (fun v3 v4 wr=> ∃(i:Nat) (lv:Value),lv=v3∧v4= .int .i64 (i:Int)∧i≤n∧Hid (RwI w (Ab5 (R.take i)) lv wr)) (fun v3 v4 wr=>n-(match v4 with | .int _ i=>i.toNat|_=>0))
 case atStart=>exact ⟨0,_,rfl,rfl,Nat.zero_le _,st0⟩
 case round =>
  clear st0
  obtain ⟨i,lv,rfl,rfl,hin,hI⟩:=hrel
  have href:Abj wr base d v R:=HH.out.below hI.out.bel
  obtain ⟨ea,ec,ev,_⟩:=href.open
  rw [HN.out] at ev
  have hc0:=href.c0
  rw [ev] at hc0
  by_cases hi:i<n
  ·have hi':i<R.length:=by rw [HN.out];exact hi
   have hsp:R=R.take i++R[i]::R.drop (i+1):=by rw [List.getElem_cons_drop];exact (List.take_append_drop i R).symm
   have hTk:Hid (R.take (i+1)=R.take i++[R[i]]):=by show _=_;rw [List.take_add_one,List.getElem?_eq_getElem hi'];rfl
   have okT:Ac4 (R.take i):=by have:=h.ok;rw [hsp] at this;exact this.left
   have hbh:=h.ok.bh (R.take i) R[i] (R.drop (i+1)) hsp
   obtain ⟨eb,eo,ec2,e1,hl,hwf,hra⟩:=HH.out.get hi'
   rw [HN.out] at e1
   have hrl:(Ab5 (R.take i)).length=i:=by rw [Adw,List.length_take];omega
   have HWL:=Aaa (Afq okT)
   have HNX:Hid (∀a,Akf (Ab5 (R.take i)) R[i].bh i a→Ab5 (R.take (i+1))=(Ab5 (R.take i)).take a++R[i]::(Ab5 (R.take i)).drop a):=fun a q=>by
        rw [hTk.out,Adx]
        exact A4v okT.row.nd (fun e he=>(okT.row.ok e he).2.2) (by rw [Ah5];exact hbh) (by rw [hrl];exact q) _
   obtain ⟨l,hl2⟩:∃l,Ab5 (R.take i)=l:=⟨_,rfl⟩
   rw [hl2] at hI hrl HWL HNX
   have HRL:=Aaa hrl
   have HEV:=Aaa e1
   have HRA:Hid (∀W,Below w.heap.size w W→W.heap[d]? =some (.cells #[.slice (some ⟨eb,eo,none⟩) n ec2] 83 (0,0))∧W.rangeAt eb (eo+67*i) R[i].c):=fun W b=>⟨by
    have:=(HH.out.below b).c0
    rw [HEV.out] at this
    exact this,Ahy hra b hl⟩
   generalize R[i]=x at *
   obtain ⟨l',hl'⟩:∃l',Ab5 (R.take (i+1))=l':=⟨_,rfl⟩
   rw [hl'] at HNX
   have HL':=Aaa hl'
   clear hl'
   clear hsp hTk okT hbh hl2 hrl hra ev href e1 hl
   go_upto_region 5 with fail
   refine En.zqc tab rfl (En.st ((Aez hc0 rfl)) (En.cm (c':=true) ((decide_eq_true (by omega))) (En.fi ?_)))
   intro a' w1 hw ha
   subst ha
   obtain rfl:w1=wr:=hw
   simp only [En.pM,En.pU,Act.put,qsA,qsB,qsC]
   clear hc0
   generalize w1=w2 at *
   go_wp2
   go_loopw [5,6] (fun v5 v6 wr=> ∃(at' j:Nat),v5= .int .i64 (at':Int)∧v6= .int .i64 (j:Int)∧j≤i∧Hid (RwI w l lv wr)∧Hid (Akf l x.bh j at')) (fun v5 v6 wr=>i-(match v6 with | .int _ i=>i.toNat|_=>0))
   case atStart=>exact ⟨0,0,rfl,rfl,Nat.zero_le _,hI,Akf.zero _ _⟩
   case round =>
        clear hI
        obtain ⟨at',j,rfl,rfl,hji,hJ,hat⟩:=hrel
        by_cases hj:j<i
        ·have hj':j<l.length:=by rw [HRL.out];exact hj
         obtain ⟨lb,lc,e1,hr2⟩:=hJ.out.own.zero Adr HWL.out hj'
         rw [HRL.out] at e1
         obtain rfl:=e1
         have hy:l[j].wf:=HWL.out _ (List.getElem_mem hj')
         have HIT:Hid (l[j].id=x.bh→Akf l x.bh (j+1) (j+1)):=fun q=>Akf.hit hj' q
         have MIS:Hid (l[j].id≠x.bh→Akf l x.bh (j+1) at'):=fun q=>Akf.miss hj' q hat.out
         generalize l[j]=y at *
         obtain ⟨r1,r2⟩:=HRA.out _ hJ.out.bel
         go_upto_region 11 with fail
         refine En.zyc tab [0,1,2,3,4,5,6,7,8,9,10,11,12,13] 14 (fun w'=>w'=(World.drew _)) (hS:=(rfl)) (h:=En.sty (fun Xw Xh=>(Amw hj (by omega) _)) (En.sty (fun Xw Xh=>(At6 hy (by rw [Xh];exact hr2))) (En.sty (fun Xw Xh=>(Aez (by rw [Xh];exact r1) rfl)) (En.sty (fun Xw Xh=>(Agp hi (by omega) _)) (En.sty (fun Xw Xh=>(A8b hwf (by rw [Xh];exact r2))) (En.sty (fun Xw Xh=>A60 hy.1 hwf.2 (rfl) _ _ _) (En.fi ?_)))))))
         intro a' w3 hw ha
         subst ha
         obtain rfl:w3=wr.drew:=hw
         simp only [En.pM,En.pU,Act.put,qsA,qsB,qsC]
         have hJ2:=Aaa hJ.out.drew
         generalize wr.drew=w3 at *
         clear hJ r1 r2 hr2 hat
         cases hd:decide (y.id=x.bh) with
         |true =>
          have H2:=Aaa (HIT.out (of_decide_eq_true hd))
          clear hd HIT MIS
          go_wp2
          have hq:((j:Int)+1)=((j+1:Nat):Int):=by omega
          rw [hq]
          refine ⟨⟨j+1,j+1,rfl,rfl,hj,hJ2,H2⟩, ?_⟩
          show i-((j+1:Nat):Int).toNat<i-(j:Int).toNat
          omega
         |false =>
          have H2:=Aaa (MIS.out (of_decide_eq_false hd))
          clear hd HIT MIS
          go_wp2
          have hq:((j:Int)+1)=((j+1:Nat):Int):=by omega
          rw [hq]
          refine ⟨⟨at',j+1,rfl,rfl,hj,hJ2,H2⟩, ?_⟩
          show i-((j+1:Nat):Int).toNat<i-(j:Int).toNat
          omega
        ·obtain rfl:i=j:=by omega
         have ale:=hat.out.le
         rw [HRL.out] at ale
         have HL2:=Aaa (HNX.out _ hat.out)
         obtain ⟨la,lc,e1⟩:=hJ.out.slice HWL.out
         rw [HRL.out] at e1
         obtain rfl:=e1
         obtain ⟨sv,w3,v2,w4,e2,e3,P4⟩:=hJ.out.push Ahn (by have:=HRL.out;omega)
         go_upto_region 13 with fail
         refine En.zqc tab rfl (En.st ((Avy _)) (En.ef (e2) (En.ef (e3) (En.fi ?_))))
         intro a' w5 hw ha
         subst ha
         obtain rfl:w5=w4:=hw
         simp only [En.pM,En.pU,Act.put,qsA,qsB,qsC]
         have P5:RwI w (l.take i++Awh::l.drop i) v2 w5:=by
          have e5:l.take i++Awh::l.drop i=l++[Awh]:=by rw [List.take_of_length_le (by rw [HRL.out];exact Nat.le_refl _),List.drop_of_length_le (by rw [HRL.out];exact Nat.le_refl _)]
          rw [e5];exact P4
         have HWS:Hid (∀(kk:Nat) (y:Elt),y.wf→∀e∈l.take kk++y::l.drop kk,RE.ok e):=fun kk y hy e he=>by
          rcases List.mem_append.1 he with q|q
          ·exact HWL.out e (List.mem_of_mem_take q)
          ·rcases List.mem_cons.1 q with rfl|q
           ·exact hy
           ·exact HWL.out e (List.mem_of_mem_drop q)
         have hsl:∀kk y,kk≤i→(l.take kk++y::l.drop kk).length=i+1:=fun kk y hk=>by rw [Aqm l (by rw [HRL.out];exact hk),HRL.out]
         have HSL:=Aaa hsl
         obtain ⟨ga,gc,e6⟩:=P5.slice (HWS.out i Awh Ahn)
         rw [hsl i Awh (Nat.le_refl _)] at e6
         obtain rfl:=e6
         have st2:Hid (∃y:Elt,y.wf∧RwI w (l.take i++y::l.drop i) (.slice ga (i+1) gc) w5):=⟨Awh,Ahn,P5⟩
         clear P4 P5 hJ e2 e3 hat hsl hji
         generalize wr=w6 at *
         go_wp2
         have hq0:((i:Int)+1-1)=(i:Int):=by omega
         try rw [hq0]
         go_loopw [7] (fun v7 wr=> ∃(kk:Nat),v7= .int .i64 (kk:Int)∧at'≤kk∧kk≤i∧Hid (∃y:Elt,y.wf∧RwI w (l.take kk++y::l.drop kk) (.slice ga (i+1) gc) wr)) (fun v7 wr=>(match v7 with | .int _ i=>i.toNat|_=>0))
         case atStart=>exact ⟨i,rfl,ale.2,Nat.le_refl _,st2⟩
         case round =>
          clear st2
          obtain ⟨kk,rfl,hka,hki,hK⟩:=hrel
          obtain ⟨y,hy,hK2⟩:=hK.out
          by_cases hk:at'<kk
          ·obtain ⟨j,rfl⟩:∃j,kk=j+1:=⟨kk-1,by omega⟩
           have hjl:j<l.length:=by have:=HRL.out;omega
           have hz:l[j].wf:=HWL.out _ (List.getElem_mem hjl)
           obtain ⟨lb,cap,e1,w7,e2,P7⟩:=hK2.set (HWS.out _ y hy) (i:=j+1) (by rw [HSL.out _ _ hki];omega) hz
           rw [HSL.out _ _ hki] at e1
           cases e1
           have hget:(l.take (j+1)++y::l.drop (j+1))[j]? =some l[j]:=by
                have:=Aqn (l:=l) (k:=j+1) (by omega) (by omega) y
                simpa using this
           obtain ⟨hjx,hje⟩:=List.getElem?_eq_some_iff.1 hget
           obtain ⟨g2,c2,e3,hr3⟩:=hK2.own.zero Adr (HWS.out _ y hy) hjx
           rw [hje] at hr3
           rw [HSL.out _ _ hki] at e3
           cases e3
           have P8:RwI w (l.take j++l[j]::l.drop j) (.slice (some ⟨lb,0,none⟩) (i+1) gc) w7:=by
                have:=Aos (l:=l) (k:=j+1) (by omega) (by omega) y
                simp only [Nat.add_sub_cancel] at this
                rw [this] at P7
                exact P7
           have hz2:Hid (∃y:Elt,y.wf∧RwI w (l.take j++y::l.drop j) (.slice (some ⟨lb,0,none⟩) (i+1) gc) w7):=⟨l[j],hz,P8⟩
           clear P7 P8
           generalize l[j]=z at *
           go_upto_region 17 with fail
           refine En.zqc tab rfl (En.ar (En.wD ((by omega))) (En.st ((Amw (by omega) (by omega) _)) (En.st ((A5y hz hr3)) (En.st ((Amw (by omega) (by omega) _)) (En.eu (e2) (En.fi ?_))))))
           intro a' w8 hw ha
           subst ha
           obtain rfl:w8=w7:=hw
           simp only [En.pM,En.pU,Act.put,qsA,qsB,qsC]
           clear hr3 hget hjx hje e2 hK2 hK
           go_wp2
           have hq:(((j+1:Nat):Int)-1)=(j:Int):=by omega
           try rw [hq]
           have hq2:((j:Int)+1-1)=(j:Int):=by omega
           try rw [hq2]
           refine ⟨⟨j,rfl,by omega,by omega,hz2⟩, ?_⟩
           show (j:Int).toNat<((j+1:Nat):Int).toNat
           omega
          ·obtain rfl:at'=kk:=by omega
           obtain ⟨lb,cap,e1,w7,e2,P7⟩:=hK2.set (HWS.out _ y hy) (i:=at') (by rw [HSL.out _ _ hki];omega) hwf
           rw [HSL.out _ _ hki] at e1
           cases e1
           rw [Aot (by rw [HRL.out];exact hki), ←HL2.out] at P7
           have HP:=Aaa P7
           obtain ⟨r1,r2⟩:=HRA.out _ hK2.bel
           go_upto_region 18 with fail
           refine En.zqc tab rfl (En.st ((Aez r1 rfl)) (En.st ((Agp hi (by omega) _)) (En.st ((A5y hwf r2)) (En.st ((Amw (by omega) (by omega) _)) (En.eu (e2) (En.fi ?_))))))
           intro a' w8 hw ha
           subst ha
           obtain rfl:w8=w7:=hw
           simp only [En.pM,En.pU,Act.put,qsA,qsB,qsC]
           clear P7 e2 hK2 hK r1 r2 HL2 HNX
           go_wp2
           have hq:((i:Int)+1)=((i+1:Nat):Int):=by omega
           rw [hq]
           refine ⟨⟨i+1,_,rfl,rfl,hi,by rw [HL'.out];exact HP⟩, ?_⟩
           show n-((i+1:Nat):Int).toNat<n-(i:Int).toNat
           omega
  ·obtain rfl:n=i:=by omega
   rw [List.take_of_length_le (by rw [HN.out];exact Nat.le_refl _)] at hI
   go_upto_region 5 with fail
   refine En.zqc tab rfl (En.st ((Aez hc0 rfl)) (En.cm (c':=false) ((decide_eq_false (by omega))) (En.fi ?_)))
   intro a' w1 hw ha
   subst ha
   obtain rfl:w1=wr:=hw
   simp only [En.pM,En.pU,Act.put,qsA,qsB,qsC]
   clear hc0 ev href
   go_wp2
   go_ret
   exact ⟨_,rfl,hI.out.own,hI.out.bel⟩
theorem A2o (w:World):Calls prog 58 #[.pointer none] w fun e w'=> ∃v,e= .returned v∧RE.Own w' w.heap.size v []∧Below w.heap.size w w':=by
 go_enter func58,ntmps58
 go_wp2
 go_ret
 exact ⟨_,rfl,Aae.own_nil RE _ _,Below.refl _ _⟩
theorem Ahv {w:World} {base:Nat} {pv:Value} {R:List Elt} (h:Aog w base pv R):Calls prog 58 #[pv] w fun e w'=> ∃a c,e= .returned (.slice a (Ab5 R).length c)∧RE.Own w' w.heap.size (.slice a (Ab5 R).length c) (Ab5 R)∧Below w.heap.size w w':=by
 have hw:=Afq h.ok.1
 have:Calls prog 58 #[pv] w fun e w'=> ∃v,e= .returned v∧RE.Own w' w.heap.size v (Ab5 R)∧Below w.heap.size w w':=by
  rcases h with ⟨rfl,rfl⟩|⟨d,v,rfl,h⟩
  ·exact A2o w
  ·exact A4t h
 refine this.mono ?_
 rintro e w' ⟨v,rfl,o,b⟩
 obtain ⟨a,c,rfl,_⟩:=o.open Adr hw
 exact ⟨a,c,rfl,o,b⟩
attribute [local go_sem] Oper.semAt_some
theorem bo {P:Program} {op:BinOp} {t:TypeId} {x y:Operand} {xv yv v:Value} {w:World} (hg:(eqGuard op t x y xv yv).run P w= .ok () w) (hl:(binOp op t xv yv).run P w= .ok v w):(do eqGuard op t x y xv yv;binOp op t xv yv:Sem Value).run P w= .ok v w:=by
 rw [Sem.run_bind,hg];exact hl
theorem A40 {p q:IdK} (hp:p.ok) (hq:q.ok) (x y:Operand) (w:World):(do eqGuard .eql 36 x y p.v q.v;binOp .eql 36 p.v q.v:Sem Value).run prog w= .ok (.bool (decide (p=q))) w :=
 bo (Aeg _ _ _ _ _ _) (At4 p q hp hq w)
theorem Ajd {w:World} {la:Option Addr} {lc:Nat} {E:List Elt} (hat:RE.At w la E) (ok:∀e∈E,RE.ok e) (hs:Abf E) (hl:E.length≤1400000000000) {k:IdK} (hk:k.ok) :
 Calls prog 59 #[.slice la E.length lc,k.v] w fun e w'=>e= .returned (.int .i64 (Aac E false k))∧Below w.heap.size w w':=by
 have bx:Below w.heap.size w (w.alloc (.cells k.c.toArray 36)):=(Below.refl _ _).alloc (Nat.le_refl _) _
 have hx:=Acg w k
 have hat2:=hat.below bx
 obtain ⟨n,hn⟩:∃n,E.length=n:=⟨_,rfl⟩
 rw [hn] at hl ⊢
 have HN:=Aaa hn
 obtain ⟨r,hr⟩:∃r,Aac E false k=r:=⟨_,rfl⟩
 have HRR:=Aaa hr
 rw [hr]
 show Calls prog 59 #[.slice la n lc, .agg k.c.toArray] w _
 clear hr hn hat
 go_enter func59,ntmps59
 go_upto_region 1 with fail
 generalize w.alloc (.cells k.c.toArray 36)=wx at *
 obtain ⟨kb,hkb⟩:∃kb,w.heap.size=kb:=⟨_,rfl⟩
 rw [hkb] at hx bx ⊢
 have HX:=Aaa (And.intro hat2 (And.intro hx bx))
 clear hat2 hx bx
 go_wp2
 go_loopw [5] (fun v5 wr=> ∃(i:Nat),v5= .int .i64 (i:Int)∧i≤n∧Hid (RE.At wr la E∧Aaz wr kb k∧Below kb w wr)∧Hid (∀j (hj:j<E.length),j<i→E[j].id≠k)) (fun v5 wr=>n-(match v5 with | .int _ i=>i.toNat|_=>0))
 case atStart=>exact ⟨0,rfl,Nat.zero_le _,HX,fun j hj h=>by omega⟩
 case round =>
  clear HX
  obtain ⟨i,rfl,hin,hI,hno⟩:=hrel
  by_cases hi:i<n
  ·have hi':i<E.length:=by rw [HN.out];exact hi
   obtain ⟨eb,eo,rfl,hra⟩:∃eb eo,la=some ⟨eb,eo,none⟩∧wr.rangeAt eb (eo+67*i) E[i].c:=by
        rcases hI.out.1 with h|⟨g,o,e,hl,h2⟩
        ·rw [h] at hi';simp at hi'
        ·exact ⟨g,o,e,h2 i _ (List.getElem?_eq_getElem hi')⟩
   have hwf:E[i].wf:=ok _ (List.getElem_mem hi')
   have hrd:wr.drew.rangeAt eb (eo+67*i) E[i].c:=hra
   have hkd:Aaz wr.drew kb k:=hI.out.2.1
   go_upto_region 4 with fail
   refine En.zy tab [0,1,2,3,4,5,6] 7 (fun W=>W=wr.drew) (hS:=rfl) (h:=En.se (Agp hi (by omega) _) (En.se (At6 hwf hrd) (En.se (Aah hk hkd) (En.se (A40 hwf.1 hk _ _ _) (En.fi ?_)))))
   simp only [En.pM,En.pU,Act.put,qsA,qsB,qsC]
   have HX2:Hid (RE.At wr.drew (some ⟨eb,eo,none⟩) E∧Aaz wr.drew kb k∧Below kb w wr.drew):=⟨hI.out.1.below ((Below.refl _ _).drew),hkd,hI.out.2.2.drew⟩
   have HG:=Aaa (Agz hs false hi')
   have HNX:Hid (E[i].id≠k→∀j (hj:j<E.length),j<i+1→E[j].id≠k):=fun q j hj hji=>by
        by_cases e:j=i
        ·subst e;exact q
        ·exact hno.out j hj (by omega)
   clear hra hrd hkd hI
   generalize wr.drew=w2 at *
   cases hd:decide (E[i].id=k) with
   |true =>
    have e2:r=(i:Int):=by
     rw [←HRR.out, ←of_decide_eq_true hd,HG.out]
     have:E.take i=E.take i:=rfl
     rw [Avf,List.length_take,Nat.min_eq_left (by omega)]
    subst e2
    clear hd HG HNX hno
    go_wp2
    go_ret
    exact ⟨rfl,by rw [hkb];exact HX2.out.2.2⟩
   |false =>
    have HD:=Aaa (of_decide_eq_false hd)
    clear hd HG hno
    go_wp2
    have hq:((i:Int)+1)=((i+1:Nat):Int):=by omega
    rw [hq]
    refine ⟨⟨i+1,rfl,hi,HX2,HNX.out HD.out⟩, ?_⟩
    show n-((i+1:Nat):Int).toNat<n-(i:Int).toNat
    omega
  ·obtain rfl:n=i:=by omega
   have e2:r= -1:=by
        rw [←HRR.out]
        exact Adk (Ah1 (fun j hj=>hno.out j hj (by rw [←HN.out];exact hj))) _
   subst e2
   clear hno
   go_wp2
   go_ret
   exact ⟨rfl,by rw [hkb];exact hI.out.2.2⟩
attribute [local go_sem] Oper.semAt_some
def q1 (x:MkV):Int:=if bF x.sd=true then 1 else 0
def q2 (x:MkV):Int:=if bT x.sd=true then 2 else 0
def bgD (E:List Elt) (x:MkV) (e:Int):Bool:=decide (x.fr=zId)||(decide (Aac E false x.fr≥0)&&(decide (Aac E false x.fr<e)||(decide (Aac E false x.fr=e)&&decide (q1 x=0))))
def enD (E:List Elt) (x:MkV) (e:Int):Bool:=decide (x.to=zId)||(decide (Aac E false x.to≥0)&&(decide (Aac E false x.to>e)||(decide (Aac E false x.to=e)&& !decide (q2 x=0))))
def A1n (E:List Elt) (x:MkV) (e:Int):Bool:=bgD E x e&&enD E x e
theorem A1m {E:List Elt} {x:MkV} {e:Nat} (he:e<E.length):A1n E x (e:Int)=Air E (e:Int) x:=by
 have he2:(e:Int)<(E.length:Int):=by omega
 have he0:(0:Int)≤(e:Int):=by omega
 unfold A1n bgD enD Air Abo Acp q1 q2
 generalize Aac E false x.fr=f
 generalize Aac E false x.to=t
 generalize (E.length:Int)=n at *
 generalize (e:Int)=e at *
 clear he
 rw [Bool.eq_iff_iff]
 cases bF x.sd <;>cases bT x.sd <;>by_cases hf:x.fr=zId <;>by_cases ht:x.to=zId <;>by_cases h1:f≥0 <;>by_cases h2:t≥0 <;>simp [hf,ht,h1,h2] <;>omega
theorem Awb {p q:IdK} (hp:p.ok) (hq:q.ok) {r:Bool} (h:decide (p=q)=r) (x y:Operand) (w:World):(do eqGuard .eql 36 x y p.v q.v;binOp .eql 36 p.v q.v:Sem Value).run prog w= .ok (.bool r) w:=h▸A40 hp hq x y w
theorem A8o {s q:Int} {m:Int} (h:∀W,(binOp .and 3 (.int .i64 s) (.int .i64 m)).run prog W= .ok (.int .i64 q) W) (x y:Operand) (w:World):(do eqGuard .and 3 x y (.int .i64 s) (.int .i64 m);binOp .and 3 (.int .i64 s) (.int .i64 m):Sem Value).run prog w= .ok (.int .i64 q) w :=
 bo rfl (h w)
theorem six {z g l m s r:Bool} (hr:r=(z||(g&&(l||(m&&s))))):(z=true∧r=true)∨(z=false∧g=false∧r=false)∨(z=false∧g=true∧l=true∧r=true)∨(z=false∧g=true∧l=false∧m=false∧r=false)∨(z=false∧g=true∧l=false∧m=true∧s=true∧r=true)∨(z=false∧g=true∧l=false∧m=true∧s=false∧r=false):=by
 cases z <;>cases g <;>cases l <;>cases m <;>cases s <;>simp_all
set_option maxHeartbeats 8000000 in
theorem Akw {w:World} {la:Option Addr} {lc:Nat} {E:List Elt} (hat:RE.At w la E) (ok:∀e∈E,RE.ok e) (hs:Abf E) (hl:E.length≤1400000000000) {x:MkV} (hx:x.ok) (h3:0≤x.sd∧x.sd≤3) (e:Int) :
 Calls prog 87 #[x.a, .slice la E.length lc, .int .i64 e] w fun en w'=>en= .returned (.bool (A1n E x e))∧Below w.heap.size w w':=by
 have bx:Below w.heap.size w (w.alloc (.cells x.c.toArray 99)):=(Below.refl _ _).alloc (Nat.le_refl _) _
 have hb:(w.alloc (.cells x.c.toArray 99)).heap[w.heap.size]? =some (.cells x.c.toArray 99 (0,0)):=heap_alloc_new _ _
 have PL:Hid (∀W,Below w.heap.size w W→∀k:IdK,k.ok→Calls prog 59 #[.slice la E.length lc,k.v] W fun en w'=>en= .returned (.int .i64 (Aac E false k))∧Below W.heap.size W w'):=fun W b k hk=>Ajd (hat.below b) ok hs hl hk
 have A1:Hid (∀W,(binOp .and 3 (.int .i64 x.sd) (.int .i64 1)).run prog W= .ok (.int .i64 (q1 x)) W):=fun W=>Av4 h3 W
 have A2:Hid (∀W,(binOp .and 3 (.int .i64 x.sd) (.int .i64 2)).run prog W= .ok (.int .i64 (q2 x)) W):=fun W=>Av3 h3 W
 have CD:Hid (A1n E x e=(bgD E x e&&enD E x e)):=rfl
 have BG:Hid (bgD E x e=(decide (x.fr=zId)||(decide (Aac E false x.fr≥0)&&(decide (Aac E false x.fr<e)||(decide (Aac E false x.fr=e)&&decide (q1 x=0)))))):=rfl
 have EN:Hid (enD E x e=(decide (x.to=zId)||(decide (Aac E false x.to≥0)&&(decide (Aac E false x.to>e)||(decide (Aac E false x.to=e)&& !decide (q2 x=0)))))):=rfl
 have C1:=Aaa (PL.out _ bx x.fr hx.fr)
 obtain ⟨f,hf⟩:∃f,Aac E false x.fr=f:=⟨_,rfl⟩
 rw [hf] at C1 BG
 clear hf
 obtain ⟨n,hn⟩:∃n,E.length=n:=⟨_,rfl⟩
 rw [hn] at PL C1 ⊢
 generalize A1n E x e=rr at *
 generalize bgD E x e=r3 at *
 generalize enD E x e=r4 at *
 show Calls prog 87 #[.agg x.c.toArray, .slice la n lc, .int .i64 e] w _
 clear hat ok hs hl hn
 go_enter func87,ntmps87
 go_upto_region 1 with fail
 generalize hw1:w.alloc (.cells x.c.toArray 99)=w1 at *
 have zx:=bx.size
 have RG:Hid (∀W,Below w1.heap.size w1 W→W.rangeAt w.heap.size 0 x.c):=fun W b=>Abi ((b.block _ (Array.getElem?_eq_some_iff.1 hb).1).trans hb)
 have BX:=Aaa bx
 clear bx hb hw1
 generalize hxb:w.heap.size=xb at *
 refine En.zq tab rfl (En.st (A2w hx (RG.out _ (Below.refl _ _))) (En.ca C1.out ?_))
 rintro _ w2 ⟨rfl,b2⟩
 refine ⟨_,rfl,En.fi ?_⟩
 simp only [En.pM,En.pU,Act.put,qsA,qsB,qsC]
 have B2:=Aaa b2
 have C2:=Aaa (PL.out w2 (BX.out.trans (b2.mono (by omega))) x.to hx.to)
 obtain ⟨t,ht⟩:∃t,Aac E false x.to=t:=⟨_,rfl⟩
 rw [ht] at C2 EN
 clear ht
 clear C1 PL b2
 go_upto_region 2 with fail
 refine En.zq tab rfl (En.st (A2u hx (RG.out _ B2.out)) (En.ca C2.out ?_))
 rintro _ w3 ⟨rfl,b3⟩
 refine ⟨_,rfl,En.fi ?_⟩
 simp only [En.pM,En.pU,Act.put,qsA,qsB,qsC]
 have B3:=Aaa (B2.out.trans (b3.mono B2.out.size))
 have LF:=Aaa (A2w hx (RG.out _ B3.out))
 have LT:=Aaa (A2u hx (RG.out _ B3.out))
 have LS:=Aaa (A2v hx (RG.out _ B3.out))
 have HF:=Aaa (And.intro hx.fr hx.to)
 have hB:=Aaa (show Below xb w w3 from (BX.out.trans (B3.out.mono (by omega))))
 clear C2 B2 b3 RG BX B3 hx
 generalize q1 x=p1 at *
 generalize q2 x=p2 at *
 have S3:=six BG.out
 have S4:=six EN.out
 have HS4:=Aaa S4
 clear BG EN S4 zx
 go_upto_region 3 with fail
 rcases S3 with ⟨h,hr⟩|⟨h,h1,hr⟩|⟨h,h1,h2,hr⟩|⟨h,h1,h2,h3,hr⟩|⟨h,h1,h2,h3,h4,hr⟩|⟨h,h1,h2,h3,h4,hr⟩
 all_goals
  first
  |refine En.zq tab rfl (En.st LF.out (En.st (Abh _) (En.st (Awb HF.out.1 Aay h _ _ _) (En.cm h1 (En.cm h2 (En.cm h3 (En.st LS.out (En.st (A8o A1.out _ _ _) (En.cm h4 (En.fi ?_))))))))))
  |refine En.zq tab rfl (En.st LF.out (En.st (Abh _) (En.st (Awb HF.out.1 Aay h _ _ _) (En.cm h1 (En.cm h2 (En.cm h3 (En.fi ?_)))))))
  |refine En.zq tab rfl (En.st LF.out (En.st (Abh _) (En.st (Awb HF.out.1 Aay h _ _ _) (En.cm h1 (En.cm h2 (En.fi ?_))))))
  |refine En.zq tab rfl (En.st LF.out (En.st (Abh _) (En.st (Awb HF.out.1 Aay h _ _ _) (En.cm h1 (En.fi ?_)))))
  |refine En.zq tab rfl (En.st LF.out (En.st (Abh _) (En.st (Awb HF.out.1 Aay h _ _ _) (En.fi ?_))))
  try clear h4
  try clear h3
  try clear h2
  try clear h1
  clear h
  subst hr
  simp only [En.pM,En.pU,Act.put,qsA,qsB,qsC]
  go_upto_region 4 with fail
  rcases HS4.out with ⟨h,hr⟩|⟨h,h1,hr⟩|⟨h,h1,h2,hr⟩|⟨h,h1,h2,h3,hr⟩|⟨h,h1,h2,h3,h4,hr⟩|⟨h,h1,h2,h3,h4,hr⟩
 all_goals
  first
  |refine En.zq tab rfl (En.st LT.out (En.st (Abh _) (En.st (Awb HF.out.2 Aay h _ _ _) (En.cm h1 (En.cm h2 (En.cm h3 (En.st LS.out (En.st (A8o A2.out _ _ _) (En.cm h4 (En.fi ?_))))))))))
  |refine En.zq tab rfl (En.st LT.out (En.st (Abh _) (En.st (Awb HF.out.2 Aay h _ _ _) (En.cm h1 (En.cm h2 (En.cm h3 (En.fi ?_)))))))
  |refine En.zq tab rfl (En.st LT.out (En.st (Abh _) (En.st (Awb HF.out.2 Aay h _ _ _) (En.cm h1 (En.cm h2 (En.fi ?_))))))
  |refine En.zq tab rfl (En.st LT.out (En.st (Abh _) (En.st (Awb HF.out.2 Aay h _ _ _) (En.cm h1 (En.fi ?_)))))
  |refine En.zq tab rfl (En.st LT.out (En.st (Abh _) (En.st (Awb HF.out.2 Aay h _ _ _) (En.fi ?_))))
  try clear h4
  try clear h3
  try clear h2
  try clear h1
  clear h HS4
  subst hr
  simp only [En.pM,En.pU,Act.put,qsA,qsB,qsC]
  go_wp2
  go_ret
  exact ⟨by rw [CD.out];rfl,by rw [hxb];exact hB.out⟩
def OT (w:World) (B:Nat) (v:Value) (L:List ByteArray):Prop:=Ab7 w B 9 v (L.map Value.string)
theorem A1c:(prog.info? 9).map (fun i=>(i.zero,i.size,i.bytes))=some (some (.string ⟨#[]⟩),1,16):=by kernel_rfl
theorem A8j (s:ByteArray) (w:World):(Instr.buildSlice 113 1 #[(0, .string s)]).run prog w= .ok (.slice (some ⟨w.heap.size,0,none⟩) 1 1) (w.alloc (.cells #[.string s] 9)):=by
 obtain ⟨ie,hi,hz0,hs,hby⟩:=info_parts A1c
 refine run_buildSlice w 113 9 1 _ #[.string s] ie _ underlying113 hi hz0 (by rw [hs];decide) (by rw [hs];decide) ?_
 rw [hs]
 have:=Go.Great.fill_whole (s:=1) (by decide) [Value.string s] ((Array.range (1*1)).map ((Value.string ⟨#[]⟩).cells[· % (Value.string ⟨#[]⟩).cells.size]!)) (by intro u hu;simp at hu;subst hu;rfl) (by simp)
 simpa [show (Value.string s).cells= #[Value.string s] from rfl] using this
section
variable {w w':World} {B:Nat} {v:Value} {L:List ByteArray}
theorem OT.below (h:OT w B v L) (b:Below w.heap.size w w'):OT w' B v L:=Ab7.below h b
theorem OT.ge (h:OT w B v L) {j:Nat} (hj:v.ownBlock=some j):B≤j:=(Ab7.ge h j hj).1
theorem A5c (w:World) (B:Nat):OT w B (.slice none 0 0) []:=⟨rfl, .inl ⟨rfl,rfl⟩⟩
theorem OT.sl (h:OT w B v L):∃a c,v= .slice a L.length c:=by
 rcases h.2 with ⟨e,hz⟩|⟨gb,cap,cur,e,_⟩
 ·rw [List.length_map] at hz
  exact ⟨none,0,by rw [e,hz]⟩
 ·rw [List.length_map] at e
  exact ⟨_,_,e⟩
theorem OT.push (own:OT w B v L) (hB:B≤w.heap.size) (hn:L.length+1≤2000000000000) (s:ByteArray) :
 ∃bv w1 v2 w2,(Instr.buildSlice 113 1 #[(0, .string s)]).run prog w= .ok bv w1∧(Builtin.append_ #[113,113] 113 #[v,bv]).run prog w1= .ok v2 w2∧OT w2 B v2 (L++[s])∧Tch (fun j=>v.ownBlock=some j) w w2:=by
 have b1:Below w.heap.size w (w.alloc (.cells #[.string s] 9)):=(Below.refl _ _).alloc (Nat.le_refl _) _
 have e1:=A8j s w
 have hc1:(w.alloc (.cells #[.string s] 9)).cell? ⟨w.heap.size,0,none⟩=some (.string s):=by rw [cell_of_row _ _ _ _ _ _ (heap_alloc_new _ _)];rfl
 have own1:=Ab7.below own b1
 have hB1:=Nat.le_trans hB b1.size
 generalize w.alloc (.cells #[.string s] 9)=w1 at *
 obtain ⟨i,hi,hz,hs,hby⟩:=info_parts A1c
 have hnews:∀j u,[Value.string s][j]? =some u→w1.cell? ((⟨w.heap.size,0,none⟩:Addr).add j)=some u:=fun j u hj=>by
  cases j with
  |zero =>
   obtain rfl:Value.string s=u:=by simpa using hj
   rw [Addr.add_mid];exact hc1
  |succ j=>simp at hj
 obtain ⟨v',w',hr,h2,h3,h5⟩:=Akb (P:=prog) w1 B 113 113 9 i _ 1 16 underlying113 hi hz hs hby rfl (by decide) v _ (L.map Value.string) own1 ⟨w.heap.size,0,none⟩ 1 1 [.string s] (by simp) hnews (by intro u hu;rw [List.mem_singleton.1 hu];rfl) (by unfold maxLen;simp;omega) (by simp;omega) hB1
 have t2:Tch (fun j=>v.ownBlock=some j) w1 w':=⟨h3.os,h3.tape,h3.output,h3.size,fun j hj hn=>h3.block j hj (fun e=>hn e.symm)⟩
 refine ⟨_,w1,v',w',e1,hr, ?_,(Tch.of_below b1 (fun k hk hb=>by omega)).trans' t2 (fun j _ q=>q)⟩
 unfold OT Ab7
 rw [List.map_append,List.length_append]
 exact h2
theorem OT.cell (own:OT w B v L) {i:Nat} {s:ByteArray} (hi:L[i]? =some s):∃g c,v= .slice (some ⟨g,0,none⟩) L.length c∧B≤g∧v.ownBlock=some g∧(Instr.loadAt 9 (pZ g (0+i))).run prog w= .ok (.string s) w:=by
 have hl:i<(L.map Value.string).length:=by rw [List.length_map];exact (List.getElem?_eq_some_iff.1 hi).1
 obtain ⟨bb,c,e,hc⟩:=Ab7.form own hl
 rw [List.length_map] at e
 have he:(L.map Value.string)[i]= .string s:=by rw [List.getElem_map,(List.getElem?_eq_some_iff.1 hi).2]
 rw [he] at hc
 refine ⟨bb,c,e,(Ab7.ge own bb (by rw [e];rfl)).1,by rw [e];rfl, ?_⟩
 rw [Nat.zero_add]
 go_simp
theorem OT.cellB (own:OT w B v L) {i:Nat} {s:ByteArray} (hi:L[i]? =some s):∃g c,v= .slice (some ⟨g,0,none⟩) L.length c∧B≤g∧v.ownBlock=some g∧∀W,Below w.heap.size w W→(Instr.loadAt 9 (pZ g (0+i))).run prog W= .ok (.string s) W:=by
 obtain ⟨g,c,e,hg,hv,_⟩:=own.cell hi
 refine ⟨g,c,e,hg,hv,fun W b=> ?_⟩
 obtain ⟨g2,c2,e2,_,_,h2⟩:=(own.below b).cell hi
 rw [e] at e2
 cases e2
 exact h2
theorem OT.set (own:OT w B v L) {g n c:Nat} (ev:v= .slice (some ⟨g,0,none⟩) n c) {i:Nat} (hi:i<L.length) (t:ByteArray) :
 ∃w',(Instr.storeAt 9 (pZ g (0+i)) (.string t)).run prog w= .ok () w'∧OT w' B v (L.set i t)∧Tch (fun j=>j=g) w w':=by
 rcases own.2 with ⟨e,hz⟩|⟨gb,cap,cur,e,hbg,hg,hnc,hcm,hcs,htake⟩
 ·rw [List.length_map] at hz;omega
 ·rw [ev] at e
  injection e with e1 e2 e3
  injection e1 with e1
  injection e1 with e1
  subst e1
  rw [List.length_map] at e2 hnc
  rw [List.length_map,Nat.mul_one] at htake
  have hl:i<cur.size:=by rw [hcs];omega
  obtain ⟨u,hu⟩:∃u,L[i]? =some u:=⟨_,List.getElem?_eq_getElem hi⟩
  have hcell:w.cell? ⟨g,i,none⟩=some (.string u):=by
   rw [cell_of_row w g i cur 9 (0,0) hg]
   have h1:(L.map Value.string)[i]? =some (.string u):=by rw [List.getElem?_map,hu];rfl
   rw [←htake,List.getElem?_take,if_pos hi] at h1
   simpa using h1
  have hf:=frozen_of_row w g i _ _ hg
  have es:(Instr.storeAt 9 (pZ g (0+i)) (.string t)).run prog w= .ok () (w.setCell ⟨g,i,none⟩ (.string t)):=by
   rw [Nat.zero_add]
   go_simp
  refine ⟨_,es,⟨by simp, .inr ⟨g,cap,cur.set! i (.string t),by rw [ev,List.length_map,List.length_set,e2,e3],hbg, ?_,by rw [List.length_map,List.length_set];exact hnc,hcm,by simp [hcs], ?_⟩⟩,⟨rfl,rfl,rfl,by simp [World.setCell],fun j _ hj=>Go.heap_setCell_other _ _ _ _ hj⟩⟩
  ·obtain ⟨hl2,hv⟩:=Array.getElem?_eq_some_iff.1 hg
   simp [World.setCell,hl2,Array.getElem_modify_self,hv]
  ·rw [List.length_map,List.length_set,Nat.mul_one,List.map_set, ←htake]
   simp [Array.set!,List.take_set]
end
theorem Apt {b o m c i:Nat} (hi:i<m) (hm:m≤9223372036854775807) (W:World):(Instr.indexAt 113 (.slice (some ⟨b,o,none⟩) m c) (.int .i64 (i:Int))).run prog W= .ok (pZ b (o+i)) W:=by go_simp
def ltS (a b:ByteArray):Bool:=Op.bytesLess a.toList b.toList
theorem A7s (s t:ByteArray) (x y:Operand) (w:World):(do eqGuard .lss 9 x y (.string s) (.string t);binOp .lss 9 (.string s) (.string t):Sem Value).run prog w= .ok (.bool (ltS s t)) w :=
 bo rfl (by rw [binOp_string_lss];rfl)
theorem A79 (s t:ByteArray) (x y:Operand) (w:World):(do eqGuard .eql 9 x y (.string s) (.string t);binOp .eql 9 (.string s) (.string t):Sem Value).run prog w= .ok (.bool (decide (s=t))) w:=by
 refine bo rfl ?_
 have h:(binOp .eql 9 (.string s) (.string t)).run prog w= .ok (.bool (s.toList==t.toList)) w:=rfl
 rw [h]
 congr 2
 rw [Bool.eq_iff_iff]
 simp only [beq_iff_eq,decide_eq_true_eq]
 exact ⟨Aka,fun e=>by rw [e]⟩
theorem A4x (b:Nat) (x y:Operand) (w:World):(do eqGuard .neq 29 x y (pZ b 0) (.pointer none);binOp .neq 29 (pZ b 0) (.pointer none):Sem Value).run prog w= .ok (.bool true) w:=by
 refine bo rfl ?_
 go_simp
theorem A2z (a:ByteArray):ltS a a=false:=Ab4 _
theorem A5q {a b c:ByteArray} (h:ltS a b=true) (k:ltS b c=true):ltS a c=true:=Ae9 h k
theorem A2y {a b:ByteArray} (h:ltS a b=false) (k:ltS b a=false):a=b:=Aka (Ail h k)
def Srt (l:List ByteArray):Prop:=l.Pairwise (fun a b=>ltS a b=true)
def AtN (l:List ByteArray) (s:ByteArray) (a:Nat):Prop:=a≤l.length∧(∀j x,j<a→l[j]? =some x→ltS x s=true)∧(∀x,l[a]? =some x→ltS x s=false)
def Apu (l:List ByteArray) (a:Nat) (s:ByteArray):List ByteArray:=if l[a]? =some s then l else l.take a++s::l.drop a
theorem Ayv (l:List ByteArray) (a:Nat) (s t:ByteArray):t∈Apu l a s↔t∈l∨t=s:=by
 unfold Apu
 by_cases h:l[a]? =some s
 ·rw [if_pos h]
  constructor
  ·exact .inl
  ·rintro (q|rfl)
   ·exact q
   ·exact List.mem_of_getElem? h
 ·rw [if_neg h]
  rw [List.mem_append,List.mem_cons]
  have e:t∈l↔t∈l.take a∨t∈l.drop a:=by rw [←List.mem_append,List.take_append_drop]
  rw [e]
  constructor
  ·rintro (q|q|q)
   ·exact .inl (.inl q)
   ·exact .inr q
   ·exact .inl (.inr q)
  ·rintro ((q|q)|q)
   ·exact .inl q
   ·exact .inr (.inr q)
   ·exact .inr (.inl q)
theorem Ayu {l:List ByteArray} {a:Nat} {s:ByteArray} (h:Srt l) (q:AtN l s a):Srt (Apu l a s):=by
 unfold Apu
 by_cases e:l[a]? =some s
 ·rw [if_pos e];exact h
 ·rw [if_neg e]
  unfold Srt at *
  rw [List.pairwise_append,List.pairwise_cons]
  have h2:=h
  rw [←List.take_append_drop a l,List.pairwise_append] at h2
  have lo:∀x∈l.take a,ltS x s=true:=fun x hx=>by
   obtain ⟨j,hj⟩:=List.getElem?_of_mem hx
   rw [List.getElem?_take] at hj
   split at hj
   ·next hja=>exact q.2.1 j x hja hj
   ·cases hj
  have hi:∀x∈l.drop a,ltS s x=true:=fun x hx=>by
   obtain ⟨y,hy⟩:∃y,l[a]? =some y:=by
      cases ey:l[a]? with
      |some y=>exact ⟨y,rfl⟩
      |none =>
       have:l.drop a=[]:=by rw [List.drop_eq_nil_iff];exact List.getElem?_eq_none_iff.1 ey
       rw [this] at hx;cases hx
   have h1:=q.2.2 y hy
   have sy:ltS s y=true:=by
      cases e2:ltS s y with
      |true=>rfl
      |false=>exact absurd (by rw [hy,A2y h1 e2]) e
   rw [List.drop_eq_getElem_cons (List.getElem?_eq_some_iff.1 hy).1,(List.getElem?_eq_some_iff.1 hy).2] at hx
   rcases List.mem_cons.1 hx with rfl|hx
   ·exact sy
   ·have h3:=h2.2.1
    rw [List.drop_eq_getElem_cons (List.getElem?_eq_some_iff.1 hy).1,(List.getElem?_eq_some_iff.1 hy).2,List.pairwise_cons] at h3
    exact A5q sy (h3.1 x hx)
  exact ⟨h2.1,⟨hi,h2.2.1⟩,fun x hx y hy=>by
   rcases List.mem_cons.1 hy with rfl|hy
   ·exact lo x hx
   ·exact h2.2.2 x hx y hy⟩
theorem Ayw (l:List ByteArray) (a:Nat) (s:ByteArray):(Apu l a s).length≤l.length+1:=by
 unfold Apu
 split
 ·omega
 ·simp only [List.length_append,List.length_cons,List.length_take,List.length_drop];omega
structure Acb (L:List MkV) (l:List ByteArray):Prop where
 srt:Srt l
 mem:∀s,s∈l↔ ∃x∈L,x.nm=s
 len:l.length≤L.length
theorem Acb.nil:Acb [] []:=⟨List.Pairwise.nil,fun s=>by simp,Nat.le_refl _⟩
theorem Acb.snoc {L:List MkV} {l:List ByteArray} (h:Acb L l) {x:MkV} {a:Nat} (q:AtN l x.nm a):Acb (L++[x]) (Apu l a x.nm):=by
 refine ⟨Ayu h.srt q,fun s=> ?_, ?_⟩
 ·rw [Ayv,h.mem]
  constructor
  ·rintro (⟨y,hy,e⟩|e)
   ·exact ⟨y,by simp [hy],e⟩
   ·exact ⟨x,by simp,e.symm⟩
  ·rintro ⟨y,hy,e⟩
   rcases List.mem_append.1 hy with hy|hy
   ·exact .inl ⟨y,hy,e⟩
   ·rw [List.mem_singleton.1 hy] at e;exact .inr e.symm
 ·have:=Ayw l a x.nm
  have:=h.len
  simp;omega
theorem A2i {α:Type} {l:List α} {k:Nat} {z:α} (hz:l[k]? =some z) (y:α):(l.take (k+1)++y::l.drop (k+1)).set (k+1) z=l.take k++z::l.drop k:=by
 have hk:=(List.getElem?_eq_some_iff.1 hz).1
 have l1:(l.take (k+1)).length=k+1:=by simp;omega
 rw [List.set_append_right _ _ (by omega),l1,Nat.sub_self]
 show l.take (k+1)++z::l.drop (k+1)=_
 rw [List.take_add_one,hz,List.drop_eq_getElem_cons hk,(List.getElem?_eq_some_iff.1 hz).2]
 simp
theorem A4m {α:Type} {l:List α} {k:Nat} (hk:k<l.length) (y:α):(l.take (k+1)++y::l.drop (k+1))[k]? =l[k]? :=by
 rw [List.getElem?_append_left (by simp;omega),List.getElem?_take,if_pos (by omega)]
theorem A2j {α:Type} {l:List α} {a:Nat} (ha:a≤l.length) (y x:α):(l.take a++y::l.drop a).set a x=l.take a++x::l.drop a:=by
 have l1:(l.take a).length=a:=by simp;omega
 rw [List.set_append_right _ _ (by omega),l1,Nat.sub_self]
 rfl
theorem Aqo {α:Type} {l:List α} {k:Nat} (hk:k≤l.length) (y:α):(l.take k++y::l.drop k).length=l.length+1:=by simp;omega
attribute [local go_sem] Oper.semAt_some
theorem A61 {s t:ByteArray} {r:Bool} (h:ltS s t=r) (x y:Operand) (w:World):(do eqGuard .lss 9 x y (.string s) (.string t);binOp .lss 9 (.string s) (.string t):Sem Value).run prog w= .ok (.bool r) w:=h▸A7s s t x y w
theorem A62 {s t:ByteArray} {r:Bool} (h:decide (s=t)=r) (x y:Operand) (w:World):(do eqGuard .eql 9 x y (.string s) (.string t);binOp .eql 9 (.string s) (.string t):Sem Value).run prog w= .ok (.bool r) w:=h▸A79 s t x y w
theorem Acc {z:Int} (h: -9223372036854775808≤z∧z≤9223372036854775807):IntKind.i64.wrap z=z:=by rw [IntKind.wrap_i64];omega
structure RkH (w:World) (r:Rx) (a:Option Addr) (c:Nat):Prop where
 ld:∀W,Below w.heap.size w W→(Instr.loadAt 88 (pZ r.rb (0+0))).run prog W= .ok (.slice a r.L.length c) W
 row:∀W,Below w.heap.size w W→∀(i:Nat) (x:MkV),r.L[i]? =some x→x.ok∧∃g o,a=some ⟨g,o,none⟩∧W.rangeAt g (o+105*i) x.c
theorem Acr.hid {w:World} {base:Nat} {r:Rx} (h:Acr w base r):∃a c,RkH w r a c:=by
 obtain ⟨a,c,e,hat⟩:=h.sl
 refine ⟨a,c,fun W b=>by rw [←e];exact (h.below b).ldl,fun W b i x hi=>⟨h.ok x (List.mem_of_getElem? hi), ?_⟩⟩
 rcases hat.below b with q|⟨g,o,e2,hl,h2⟩
 ·rw [q] at hi;cases hi
 ·exact ⟨g,o,e2,h2 i x hi⟩
structure NmI (w:World) (L:List MkV) (i:Nat) (l:List ByteArray) (lv:Value) (W:World):Prop where
 own:OT W w.heap.size lv l
 is:Acb (L.take i) l
 bel:Below w.heap.size w W
set_option maxHeartbeats 8000000 in
theorem Aji {w:World} {base:Nat} {r:Rx} (h:Acr w base r) :
 Calls prog 60 #[(pZ r.rb 0)] w fun e w'=> ∃v l,e= .returned v∧Acb r.L l∧OT w' w.heap.size v l∧Below w.heap.size w w':=by
 obtain ⟨a,c,hh⟩:=h.hid
 have HN:=h.n
 have HH:=Aaa hh
 obtain ⟨n,hn⟩:∃n,r.L.length=n:=⟨_,rfl⟩
 have LD:=Aaa hh.ld
 rw [hn] at LD HN
 have HL:=Aaa hn
 clear h hh hn
 go_enter func60,ntmps60
 go_wp2
 go_loopw [3,4] (fun v3 v4 wr=> ∃(i:Nat) (l:List ByteArray),v4= .int .i64 (i:Int)∧i≤n∧Hid (NmI w r.L i l v3 wr)) (fun _ v4 wr=>n-(match v4 with | .int _ i=>i.toNat|_=>0))
 case atStart=>exact ⟨0,[],rfl,Nat.zero_le _,⟨A5c _ _,by simpa using Acb.nil,Below.refl _ _⟩⟩
 case round =>
  obtain ⟨i,l,rfl,hin,HI⟩:=hrel
  obtain ⟨la,lc,ev⟩:=HI.out.own.sl
  have hll:l.length≤n:=by have:=HI.out.is.len;rw [List.length_take] at this;have:=HL.out;omega
  obtain ⟨ln,hln⟩:∃k,l.length=k:=⟨_,rfl⟩
  rw [hln] at ev hll
  subst ev
  by_cases hi:i<n
  ·have ci:decide ((i:Int)<(n:Int))=true:=decide_eq_true (by omega)
   obtain ⟨x,hx⟩:∃x,r.L[i]? =some x:=⟨_,List.getElem?_eq_getElem (by rw [HL.out];exact hi)⟩
   go_upto_region 3 with fail
   refine En.zq tab rfl (En.st (A4x _ _ _ _) (En.st (LD.out _ HI.out.bel) (En.cm ci (En.fi ?_))))
   simp only [En.pM,En.pU,Act.put,qsA,qsB,qsC]
   have HX:=Aaa (And.intro hx hln)
   clear ci hx hln
   go_wp2
   generalize wr=wC at *
   go_loopw [5] (fun v5 wr=> ∃k:Nat,v5= .int .i64 (k:Int)∧k≤ln∧Hid (NmI w r.L i l (.slice la ln lc) wr∧∀j y,j<k→l[j]? =some y→ltS y x.nm=true)) (fun v5 _=>ln-(match v5 with | .int _ i=>i.toNat|_=>0))
   case atStart=>exact ⟨0,rfl,Nat.zero_le _,HI.out,fun j y h=>by omega⟩
   case round =>
        clear HI
        obtain ⟨k,rfl,hk,HJ⟩:=hrel
        have bd:Below wr.heap.size wr wr.drew:=(Below.refl _ _).drew
        have bw:=HJ.out.1.bel.drew
        obtain ⟨hxo,mg,mo,ea,hrm⟩:=HH.out.row _ bw i x HX.out.1
        have LN1:Hid (∀W,Below wr.heap.size wr W→(Instr.loadAt 9 (pZ mg (mo+105*i+33))).run prog W= .ok (.string x.nm) W):=fun W b=>by
         obtain ⟨_,g2,o2,e2,h2⟩:=HH.out.row W (HJ.out.1.bel.trans (b.mono HJ.out.1.bel.size)) i x HX.out.1
         rw [ea] at e2
         cases e2
         exact Ah2 hxo h2
        have LA:Hid (∀W,Below wr.heap.size wr W→(Instr.loadAt 88 (pZ r.rb (0+0))).run prog W= .ok (.slice (some ⟨mg,mo,none⟩) n c) W):=fun W b=>by
         rw [←ea];exact LD.out _ (HJ.out.1.bel.trans (b.mono HJ.out.1.bel.size))
        have D1:Hid (Below wr.heap.size wr wr.drew):=bd
        have D2:Hid (Below wr.heap.size wr wr.drew.drew):=bd.drew
        have ALT:(∃y,l[k]? =some y∧ltS y x.nm=true)∨(∃y,l[k]? =some y∧ltS y x.nm=false∧y=x.nm)∨(∃y,l[k]? =some y∧ltS y x.nm=false∧y≠x.nm)∨k=ln:=by
         by_cases hkl:k<ln
         ·obtain ⟨y,hy⟩:∃y,l[k]? =some y:=⟨_,List.getElem?_eq_getElem (by rw [HX.out.2];exact hkl)⟩
          cases hq:ltS y x.nm with
          |true=>exact .inl ⟨y,hy,hq⟩
          |false =>
           by_cases e:y=x.nm
           ·exact .inr (.inl ⟨y,hy,hq,e⟩)
           ·exact .inr (.inr (.inl ⟨y,hy,hq,e⟩))
         ·exact .inr (.inr (.inr (by omega)))
        have HXO:=Aaa hxo
        clear hrm bd hxo
        rcases ALT with ⟨y,hy,hq⟩|⟨y,hy,hq,e⟩|hc
        ·have hkl:k<ln:=by rw [←HX.out.2];exact (List.getElem?_eq_some_iff.1 hy).1
         obtain ⟨lg,lc2,e3,_,_,lcc⟩:=HJ.out.1.own.cellB hy
         have LC:=Aaa lcc
         clear lcc
         rw [HX.out.2] at e3
         cases e3
         have c1:decide ((k:Int)<(ln:Int))=true:=decide_eq_true (by omega)
         go_upto_region 6 with fail
         refine En.zy tab [0,1,2,3,4,5,6,7,8,9,10,11,12,13,14,15,16,17,18] 19 (fun W=>W=wr.drew) (hS:=rfl) (h:=En.cm c1 (En.se (Apt hkl (by omega) _) (En.se (LC.out _ D1.out) (En.se (LA.out _ D1.out) (En.se (Afw hi (by omega) _) (En.se (LN1.out _ D1.out) (En.se (A61 hq _ _ _) (En.fi ?_))))))))
         simp only [En.pM,En.pU,Act.put,qsA,qsB,qsC]
         have NJ:Hid (NmI w r.L i l (.slice (some ⟨lg,0,none⟩) ln lc) wr.drew∧∀j z,j<k+1→l[j]? =some z→ltS z x.nm=true):=⟨⟨HJ.out.1.own.below ((Below.refl _ _).drew),HJ.out.1.is,bw⟩,fun j z hj hz=>by
          by_cases e:j=k
          ·subst e;rw [hy] at hz;cases hz;exact hq
          ·exact HJ.out.2 j z (by omega) hz⟩
         clear c1 LC hy hq HJ LN1 LA bw D1 D2
         go_wp2
         rw [show ((k:Int)+1)=((k+1:Nat):Int) by omega]
         refine ⟨⟨k+1,rfl,hkl,NJ⟩, ?_⟩
         show ln-((k+1:Nat):Int).toNat<ln-(k:Int).toNat
         omega
        ·have hkl:k<ln:=by rw [←HX.out.2];exact (List.getElem?_eq_some_iff.1 hy).1
         have TK:Hid (NmI w r.L (i+1) l (.slice la ln lc) wr):=⟨HJ.out.1.own,by
          have q:=HJ.out.1.is.snoc (x:=x) (a:=k) ⟨by rw [HX.out.2];exact hk,HJ.out.2,fun z hz=>by rw [hy] at hz;cases hz;exact hq⟩
          unfold Apu at q
          rw [if_pos (by rw [hy,e])] at q
          rw [List.take_add_one,HX.out.1]
          exact q,HJ.out.1.bel⟩
         obtain ⟨lg,lc2,e3,_,_,lcc⟩:=HJ.out.1.own.cellB hy
         rw [HX.out.2] at e3
         cases e3
         have LC:=Aaa lcc
         have c1:decide ((k:Int)<(ln:Int))=true:=decide_eq_true (by omega)
         have ED:=decide_eq_true e
         clear HJ hy e lcc
         go_upto_region 6 with fail
         refine En.zy tab [0,1,2,3,4,5,6,7,8,9,10,11,12,13,14,15,16,17,18] 19 (fun W=>W=wr.drew) (hS:=rfl) (h:=(En.cm c1 (En.se (Apt hkl (by omega) _) (En.se (LC.out _ D1.out) (En.se (LA.out _ D1.out) (En.se (Afw hi (by omega) _) (En.se (LN1.out _ D1.out) (En.se (A61 hq _ _ _) (En.fi ?_)))))))))
         simp only [En.pM,En.pU,Act.put,qsA,qsB,qsC]
         go_upto_region 8 with fail
         refine En.zy tab [0,1,2,3,4,5,6,7,8,9,10,11,12,13,14,15,16,17,18] 19 (fun W=>W=wr.drew.drew) (hS:=rfl) (h:=(En.cm c1 (En.se (Apt hkl (by omega) _) (En.se (LC.out _ D2.out) (En.se (LA.out _ D2.out) (En.se (Afw hi (by omega) _) (En.se (LN1.out _ D2.out) (En.se (A62 ED _ _ _) (En.fi ?_)))))))))
         simp only [En.pM,En.pU,Act.put,qsA,qsB,qsC]
         have T2:Hid (NmI w r.L (i+1) l (.slice (some ⟨lg,0,none⟩) ln lc) wr.drew.drew):=⟨TK.out.own.below ((Below.refl _ _).drew.drew),TK.out.is,bw.drew⟩
         clear c1 LC hq LN1 LA bw TK ED D1 D2
         go_wp2
         rw [show ((i:Int)+1)=((i+1:Nat):Int) by omega]
         refine ⟨⟨i+1,l,rfl,hi,T2⟩, ?_⟩
         show n-((i+1:Nat):Int).toNat<n-(i:Int).toNat
         omega
        ·have NX:Hid (AtN l x.nm k∧Apu l k x.nm=l.take k++x.nm::l.drop k):=by
          rcases hc with ⟨y,hy,hq,e⟩|e
          ·exact ⟨⟨by rw [HX.out.2];exact hk,HJ.out.2,fun z hz=>by rw [hy] at hz;cases hz;exact hq⟩,by unfold Apu;rw [if_neg (by rw [hy];simpa using e)]⟩
          ·have en:l[k]? =none:=by rw [List.getElem?_eq_none_iff,HX.out.2,e];exact Nat.le_refl _
           exact ⟨⟨by rw [HX.out.2];exact hk,HJ.out.2,fun z hz=>by rw [en] at hz;cases hz⟩,by unfold Apu;rw [if_neg (by rw [en];simp)]⟩
         have N2:Hid (NmI w r.L i l (.slice la ln lc) wr.drew.drew):=⟨HJ.out.1.own.below D2.out,HJ.out.1.is,bw.drew⟩
         have LA2:Hid (∀W,Below wr.drew.drew.heap.size wr.drew.drew W→(Instr.loadAt 88 (pZ r.rb (0+0))).run prog W= .ok (.slice (some ⟨mg,mo,none⟩) n c) W):=fun W b=>LA.out W (D2.out.trans (b.mono D2.out.size))
         have LN2:Hid (∀W,Below w.heap.size w W→(Instr.loadAt 9 (pZ mg (mo+105*i+33))).run prog W= .ok (.string x.nm) W):=fun W b=>by
          obtain ⟨_,g2,o2,e2,h2⟩:=HH.out.row W b i x HX.out.1
          rw [ea] at e2
          cases e2
          exact Ah2 HXO.out h2
         have HC:Hid ((∃y,l[k]? =some y∧ltS y x.nm=false∧y≠x.nm)∨k=ln):=hc
         clear hc bw
         rcases HC.out with ⟨y,hy,hq,e⟩|e
         all_goals first
          |(obtain ⟨lg,lc2,e3,_,_,lcc⟩:=HJ.out.1.own.cellB hy
            rw [HX.out.2] at e3
            cases e3
            have LC:=Aaa lcc
            have hkl:k<ln:=by rw [←HX.out.2];exact (List.getElem?_eq_some_iff.1 hy).1
            have c1:decide ((k:Int)<(ln:Int))=true:=decide_eq_true (by omega)
            have ED:=decide_eq_false e
            clear HJ hy e lcc
            go_upto_region 6 with fail
            refine En.zy tab [0,1,2,3,4,5,6,7,8,9,10,11,12,13,14,15,16,17,18] 19 (fun W=>W=wr.drew) (hS:=rfl) (h:=(En.cm c1 (En.se (Apt hkl (by omega) _) (En.se (LC.out _ D1.out) (En.se (LA.out _ D1.out) (En.se (Afw hi (by omega) _) (En.se (LN1.out _ D1.out) (En.se (A61 hq _ _ _) (En.fi ?_)))))))))
            simp only [En.pM,En.pU,Act.put,qsA,qsB,qsC]
            go_upto_region 8 with fail
            refine En.zy tab [0,1,2,3,4,5,6,7,8,9,10,11,12,13,14,15,16,17,18] 19 (fun W=>W=wr.drew.drew) (hS:=rfl) (h:=(En.cm c1 (En.se (Apt hkl (by omega) _) (En.se (LC.out _ D2.out) (En.se (LA.out _ D2.out) (En.se (Afw hi (by omega) _) (En.se (LN1.out _ D2.out) (En.se (A62 ED _ _ _) (En.fi ?_)))))))))
            simp only [En.pM,En.pU,Act.put,qsA,qsB,qsC]
            clear c1 hkl LC hq ED)
          |(have c1:decide ((k:Int)<(ln:Int))=false:=decide_eq_false (by omega)
            clear HJ e
            go_upto_region 6 with fail
            refine En.zy tab [0,1,2,3,4,5,6,7,8,9,10,11,12,13,14,15,16,17,18] 19 (fun W=>W=wr.drew) (hS:=rfl) (h:=(En.cm c1 (En.fi ?_)))
            simp only [En.pM,En.pU,Act.put,qsA,qsB,qsC]
            go_upto_region 8 with fail
            refine En.zy tab [0,1,2,3,4,5,6,7,8,9,10,11,12,13,14,15,16,17,18] 19 (fun W=>W=wr.drew.drew) (hS:=rfl) (h:=(En.cm c1 (En.fi ?_)))
            simp only [En.pM,En.pU,Act.put,qsA,qsB,qsC]
            clear c1)
         all_goals
          clear LA LN1 D1 D2 HC
          generalize wr.drew.drew=w2 at *
          have hl1:l.length+1≤2000000000000:=by rw [HX.out.2];omega
          obtain ⟨bv,w3,v2,w4,e1,e2,o2,t2⟩:=N2.out.own.push N2.out.bel.size hl1 ⟨#[]⟩
          obtain ⟨lg2,lc2,ev2,hg2,ho2,_⟩:=o2.cell (i:=ln) (s:=⟨#[]⟩) (by rw [List.getElem?_append_right (by rw [HX.out.2];exact Nat.le_refl _),HX.out.2,Nat.sub_self];rfl)
          rw [List.length_append,HX.out.2,show ([⟨#[]⟩]:List ByteArray).length=1 from rfl] at ev2
          subst ev2
          have b4:Below w.heap.size w w4:=N2.out.bel.trans (t2.below N2.out.bel.size (fun j e=>(N2.out.own.ge e)))
          have S0:Hid (∃y0,OT w4 w.heap.size (.slice (some ⟨lg2,0,none⟩) (ln+1) lc2) (l.take ln++y0::l.drop ln)∧Below w.heap.size w w4):=⟨⟨#[]⟩,by
           rw [List.take_of_length_le (by rw [HX.out.2];exact Nat.le_refl _),List.drop_of_length_le (by rw [HX.out.2];exact Nat.le_refl _)];exact o2,b4⟩
          have N3:=Aaa N2.out.is
          have HG2:=Aaa hg2
          clear N2 o2 t2 ho2 b4 hl1 LA2 hg2
          go_upto_region 9 with fail
          refine En.zq tab rfl (En.ef e1 (En.ef e2 (En.fi ?_)))
          simp only [En.pM,En.pU,Act.put,qsA,qsB,qsC]
          clear e1 e2
          go_upto_region 10 with fail
          refine En.zq tab rfl (En.ar (z:=(ln:Int)) (by rw [Acc (by omega)];omega) (En.fi ?_))
          simp only [En.pM,En.pU,Act.put,qsA,qsB,qsC]
          generalize wr=wD at *
          go_wp2
          go_loopw [6] (fun v6 wr=> ∃q:Nat,v6= .int .i64 (q:Int)∧k≤q∧q≤ln∧Hid (∃y0,OT wr w.heap.size (.slice (some ⟨lg2,0,none⟩) (ln+1) lc2) (l.take q++y0::l.drop q)∧Below w.heap.size w wr)) (fun v6 _=>(match v6 with | .int _ i=>i.toNat|_=>0))
          case atStart=>exact ⟨ln,rfl,hk,Nat.le_refl _,S0⟩
          case round =>
           clear S0
           obtain ⟨q,rfl,hkq,hq,HS⟩:=hrel
           obtain ⟨y0,ho,hb⟩:=HS.out
           by_cases hc:k<q
           ·obtain ⟨j,rfl⟩:∃j,q=j+1:=⟨q-1,by omega⟩
            obtain ⟨z,hz⟩:∃z,l[j]? =some z:=⟨_,List.getElem?_eq_getElem (by rw [HX.out.2];omega)⟩
            obtain ⟨g3,c3,e3,_,_,lz⟩:=ho.cell (i:=j) (s:=z) (by rw [A4m (by rw [HX.out.2];omega)];exact hz)
            obtain ⟨wn,es,on,tn⟩:=ho.set rfl (i:=j+1) (by rw [Aqo (by rw [HX.out.2];exact hq),HX.out.2];omega) z
            rw [A2i hz] at on
            rw [Aqo (by rw [HX.out.2];exact hq),HX.out.2] at e3
            cases e3
            have NS:Hid (∃y0,OT wn w.heap.size (.slice (some ⟨lg2,0,none⟩) (ln+1) lc2) (l.take j++y0::l.drop j)∧Below w.heap.size w wn):=⟨z,on,hb.trans (tn.below hb.size (fun j e=>by rw [e];exact HG2.out))⟩
            have c1:decide (((j+1:Nat):Int)>(k:Int))=true:=decide_eq_true (by omega)
            clear HS ho hb hz on tn
            go_upto_region 11 with fail
            refine En.zq tab rfl (En.cm c1 (En.fi ?_))
            simp only [En.pM,En.pU,Act.put,qsA,qsB,qsC]
            clear c1
            go_upto_region 13 with fail
            refine En.zq tab rfl (En.ar (z:=(j:Int)) (by rw [Acc (by omega)];omega) (En.st (Apt (show j<ln+1 by omega) (by omega) _) (En.st lz (En.st (Apt (show j+1<ln+1 by omega) (by omega) _) (En.eu es (En.fi ?_))))))
            simp only [En.pM,En.pU,Act.put,qsA,qsB,qsC]
            clear lz es
            go_upto_region 12 with fail
            refine En.zq tab rfl (En.ar (z:=(j:Int)) (by rw [Acc (by omega)];omega) (En.fi ?_))
            simp only [En.pM,En.pU,Act.put,qsA,qsB,qsC]
            go_wp2
            refine ⟨⟨j,rfl,by omega,by omega,NS⟩, ?_⟩
            show (j:Int).toNat<((j+1:Nat):Int).toNat
            omega
           ·obtain rfl:q=k:=by omega
            have c1:decide ((q:Int)>(q:Int))=false:=decide_eq_false (by omega)
            go_upto_region 11 with fail
            refine En.zq tab rfl (En.cm c1 (En.fi ?_))
            simp only [En.pM,En.pU,Act.put,qsA,qsB,qsC]
            clear c1
            obtain ⟨wn,es,on,tn⟩:=ho.set rfl (i:=q) (by rw [Aqo (by rw [HX.out.2];exact hq),HX.out.2];omega) x.nm
            rw [A2j (by rw [HX.out.2];exact hq), ←NX.out.2] at on
            have FN:Hid (NmI w r.L (i+1) (Apu l q x.nm) (.slice (some ⟨lg2,0,none⟩) (ln+1) lc2) wn):=⟨on,by
                rw [List.take_add_one,HX.out.1]
                exact N3.out.snoc NX.out.1,hb.trans (tn.below hb.size (fun j e=>by rw [e];exact HG2.out))⟩
            have LA3:=LD.out _ hb
            rw [ea] at LA3
            have LN3:=LN2.out _ hb
            clear HS ho hb on tn
            go_upto_region 14 with fail
            refine En.zq tab rfl (En.st LA3 (En.st (Afw hi (by omega) _) (En.st LN3 (En.st (Apt (show q<ln+1 by omega) (by omega) _) (En.eu es (En.fi ?_))))))
            simp only [En.pM,En.pU,Act.put,qsA,qsB,qsC]
            clear LA3 LN3 es
            go_wp2
            rw [show ((i:Int)+1)=((i+1:Nat):Int) by omega]
            refine ⟨⟨i+1,_,rfl,hi,FN⟩, ?_⟩
            show n-((i+1:Nat):Int).toNat<n-(i:Int).toNat
            omega
  ·obtain rfl:i=n:=by omega
   have ci:decide ((i:Int)<(i:Int))=false:=decide_eq_false (by omega)
   go_upto_region 3 with fail
   refine En.zq tab rfl (En.st (A4x _ _ _ _) (En.st (LD.out _ HI.out.bel) (En.cm ci (En.fi ?_))))
   simp only [En.pM,En.pU,Act.put,qsA,qsB,qsC]
   clear ci
   go_wp2
   go_ret
   refine ⟨_,l,rfl, ?_,HI.out.own,HI.out.bel⟩
   have:=HI.out.is
   rwa [List.take_of_length_le (by rw [HL.out];exact Nat.le_refl _)] at this
attribute [local go_sem] Oper.semAt_some
theorem Ahf {w:World} {b:Nat} {x:VaV} (h:Abz w b x):(loadVar 40 ⟨b,0,none⟩).run prog w= .ok x.v w :=
 run_loadVar_mid (P:=prog) w b 0 40 x.c _ (Abi h) underlying40 rfl (by rw [VaV.len];exact A39)
theorem Afz {w:World} {b:Nat} {x u:VaV} (h:Abz w b x):(Instr.storeAt 40 (pZ b 0) u.v).run prog w= .ok () (w.setRow b u.c.toArray):=by
 have e2:=run_storeVar_row (P:=prog) w b 40 40 x.c.toArray u.c.toArray h (by rw [List.size_toArray,VaV.len];exact A39)
  (by rw [List.size_toArray,List.size_toArray,VaV.len,VaV.len]) (by rw [List.all_toArray,List.all_eq_true];exact u.one)
 simp only [Instr.storeAt,Instr.sureAddr,Sem.run_bind,Sem.run_pure,Result.andThen_ok,VaV.v,e2]
theorem Abz.set {w:World} {b:Nat} {x:VaV} (u:VaV) (h:Abz w b x):Abz (w.setRow b u.c.toArray) b u:=setRow_heap w b _ _ _ _ h
theorem Akn (w:World):(Instr.alloc 40 true (.tuple #[])).run prog w= .ok (pZ w.heap.size 0) (w.alloc (.cells zVa.c.toArray 40)):=by kernel_rfl
theorem Az6 (w:World):(Instr.build 40 #[]).run prog w= .ok zVa.v w:=by kernel_rfl
def PD (E:List Elt) (nm:ByteArray) (e:Int) (x:MkV):Bool:=decide (x.nm=nm)&&A1n E x e
def hoD (E:List Elt) (L:List MkV) (nm:ByteArray) (e:Int):VaV × Bool:=match (L.filter (PD E nm e)).getLast? with
 |some x=>(x.v, !decide (x.v.k=0))
 |none=>(zVa,false)
theorem A58 {E:List Elt} {L:List MkV} {nm:ByteArray} {e:Int} {i:Nat} {x:MkV} (hi:L[i]? =some x) (hx:PD E nm e x=true) (hno:∀j y,i+1≤j→L[j]? =some y→PD E nm e y=false):hoD E L nm e=(x.v, !decide (x.v.k=0)):=by
 have e1:L=L.take i++x::L.drop (i+1):=by
  have hl:=(List.getElem?_eq_some_iff.1 hi)
  rw [←hl.2,List.getElem_cons_drop,List.take_append_drop]
 have e2:(L.drop (i+1)).filter (PD E nm e)=[]:=List.filter_eq_nil_iff.2 fun y hy=>by
  obtain ⟨j,hj⟩:=List.getElem?_of_mem hy
  rw [List.getElem?_drop] at hj
  rw [hno _ y (by omega) hj];simp
 have e3:(L.filter (PD E nm e)).getLast?=some x:=by
  rw [e1,List.filter_append,List.filter_cons,if_pos hx,e2]
  simp
 unfold hoD
 rw [e3]
theorem A56 {E:List Elt} {L:List MkV} {nm:ByteArray} {e:Int} (hno:∀j y,0≤j→L[j]? =some y→PD E nm e y=false):hoD E L nm e=(zVa,false):=by
 have e2:L.filter (PD E nm e)=[]:=List.filter_eq_nil_iff.2 fun y hy=>by
  obtain ⟨j,hj⟩:=List.getElem?_of_mem hy
  rw [hno _ y (by omega) hj];simp
 unfold hoD
 rw [e2]
 rfl
set_option maxHeartbeats 8000000 in
theorem Ajq {w:World} {base:Nat} {r:Rx} (h:Acr w base r) (h3:∀x∈r.L,0≤x.sd∧x.sd≤3) {la:Option Addr} {lc:Nat} {E:List Elt} (hat:RE.At w la E) (ok:∀e∈E,RE.ok e) (hs:Abf E) (hl:E.length≤1400000000000) (nm:ByteArray) (e:Int) :
 Calls prog 61 #[(pZ r.rb 0), .string nm, .slice la E.length lc, .int .i64 e] w fun en w'=>en= .returned (.tuple #[(hoD E r.L nm e).1.v, .bool (hoD E r.L nm e).2])∧Below w.heap.size w w':=by
 obtain ⟨a,c,hh⟩:=h.hid
 have HN:=h.n
 have HH:=Aaa hh
 have H3:=Aaa h3
 obtain ⟨n,hn⟩:∃n,r.L.length=n:=⟨_,rfl⟩
 have LD:=Aaa hh.ld
 rw [hn] at LD HN
 have HL:=Aaa hn
 have CV:Hid (∀W,Below w.heap.size w W→∀x:MkV,x.ok→0≤x.sd∧x.sd≤3→Calls prog 87 #[x.a, .slice la E.length lc, .int .i64 e] W fun en w'=>en= .returned (.bool (A1n E x e))∧Below W.heap.size W w'):=fun W b x hx q=>Akw (hat.below b) ok hs hl hx q e
 obtain ⟨m,hm⟩:∃m,E.length=m:=⟨_,rfl⟩
 rw [hm] at CV ⊢
 have HO:Hid (∀p,p=hoD E r.L nm e→(Ending.returned (.tuple #[(hoD E r.L nm e).1.v, .bool (hoD E r.L nm e).2])=Ending.returned (.tuple #[p.1.v, .bool p.2]))):=fun p e=>by rw [e]
 generalize (Ending.returned (.tuple #[(hoD E r.L nm e).1.v, .bool (hoD E r.L nm e).2]))=res at *
 have bx:Below w.heap.size w (w.alloc (.cells zVa.c.toArray 40)):=(Below.refl _ _).alloc (Nat.le_refl _) _
 have hv:Abz (w.alloc (.cells zVa.c.toArray 40)) w.heap.size zVa:=heap_alloc_new _ _
 clear h hh hn hat ok hs hl hm h3
 go_enter func61,ntmps61
 go_upto_region 0 with fail
 refine En.zq tab rfl (En.ef (Akn _) (En.fi ?_))
 simp only [En.pM,En.pU,Act.put,qsA,qsB,qsC]
 obtain ⟨vb,hvb⟩:∃b,w.heap.size=b:=⟨_,rfl⟩
 generalize w.alloc (.cells zVa.c.toArray 40)=w1 at *
 have I0:Hid ((∃y,Abz w1 vb y)∧Below w.heap.size w w1):=⟨⟨zVa,by rw [←hvb];exact hv⟩,bx⟩
 have HVB:=Aaa hvb
 rw [hvb]
 clear bx hv hvb
 go_upto_region 1 with fail
 refine En.zq tab rfl (En.st (LD.out _ I0.out.2) (En.ar (z:=(n:Int)-1) (Acc (by omega)) (En.fi ?_)))
 simp only [En.pM,En.pU,Act.put,qsA,qsB,qsC]
 go_wp2
 go_loopw [10] (fun v10 wr=> ∃k:Nat,v10= .int .i64 ((k:Int)-1)∧k≤n∧Hid ((∃y,Abz wr vb y)∧Below w.heap.size w wr)∧Hid (∀j y,k≤j→r.L[j]? =some y→PD E nm e y=false)) (fun v10 _=>(match v10 with | .int _ i=>(i+1).toNat|_=>0))
 case atStart=>exact ⟨n,rfl,Nat.le_refl _,I0,fun j y h1 h2=>by have:=(List.getElem?_eq_some_iff.1 h2).1;have:=HL.out;omega⟩
 case round =>
  clear I0
  obtain ⟨k,rfl,hk,HI,HQ⟩:=hrel
  rcases Nat.eq_zero_or_pos k with rfl|hpos
  ·have c1:decide (((0:Nat):Int)-1≥0)=false:=decide_eq_false (by omega)
   go_upto_region 2 with fail
   refine En.zq tab rfl (En.cm c1 (En.fi ?_))
   simp only [En.pM,En.pU,Act.put,qsA,qsB,qsC]
   have EQ:=HO.out _ (A56 HQ.out).symm
   obtain ⟨⟨y,hy⟩,hb⟩:=HI.out
   have hy2:=hy.set zVa
   have b2:Below w.heap.size w (wr.setRow vb zVa.c.toArray):=hb.trans (Aby _ hb.size (by rw [HVB.out];exact Nat.le_refl _))
   have ST:=Afz (u:=zVa) hy
   have HE:=Aaa (And.intro EQ (And.intro hy2 b2))
   clear c1 EQ hy hb hy2 b2 HQ HI
   go_upto_region 6 with fail
   refine En.zq tab rfl (En.st (Az6 _) (En.eu ST (En.fi ?_)))
   simp only [En.pM,En.pU,Act.put,qsA,qsB,qsC]
   clear ST
   go_wp2
   refine bodyPost_ret (Ade rfl rfl (Ahf HE.out.2.1)) rfl ?_
   exact ⟨HE.out.1.symm,HE.out.2.2⟩
  ·obtain ⟨i,rfl⟩:∃i,k=i+1:=⟨k-1,by omega⟩
   rw [show (((i+1:Nat):Int)-1)=(i:Int) by omega]
   have c1:decide ((i:Int)≥0)=true:=decide_eq_true (by omega)
   obtain ⟨x,hx⟩:∃x,r.L[i]? =some x:=⟨_,List.getElem?_eq_getElem (by rw [HL.out];omega)⟩
   obtain ⟨hxo,g,o,ea,hr⟩:=HH.out.row _ HI.out.2 i x hx
   have LA:=Aaa (LD.out _ HI.out.2)
   rw [ea] at LA
   have hi:i<n:=by omega
   go_upto_region 2 with fail
   refine En.zq tab rfl (En.cm c1 (En.fi ?_))
   simp only [En.pM,En.pU,Act.put,qsA,qsB,qsC]
   clear c1
   have HX:=Aaa (And.intro hx (And.intro hxo ea))
   by_cases e1:x.nm=nm
   ·have ED:=decide_eq_true e1
    have LN:=Ah2 hxo hr
    have LM:(Instr.loadAt 99 (pZ g (o+105*i))).run prog wr= .ok x.a wr:=Aae.ld Ain hxo hr
    have CC:=CV.out _ HI.out.2 x hxo (H3.out x (List.mem_of_getElem? hx))
    obtain ⟨b,hb⟩:∃b,A1n E x e=b:=⟨_,rfl⟩
    rw [hb] at CC
    have HB:=Aaa (And.intro hb e1)
    clear hb e1 hx hxo ea hr
    go_upto_region 4 with fail
    refine En.zq tab rfl (En.st LA.out (En.st (Afw hi (by omega) _) (En.st LN (En.st (A62 ED _ _ _) (En.st LA.out (En.st (Afw hi (by omega) _) (En.st LM (En.ca CC ?_))))))))
    rintro _ w2 ⟨rfl,b2⟩
    refine ⟨_,rfl,En.fi ?_⟩
    simp only [En.pM,En.pU,Act.put,qsA,qsB,qsC]
    have B2:Hid ((∃y,Abz w2 vb y)∧Below w.heap.size w w2):=by
     obtain ⟨⟨y,hy⟩,hb⟩:=HI.out
     exact ⟨⟨y,hy.below b2⟩,hb.trans (b2.mono hb.size)⟩
    clear ED LN LM CC b2 HI LA
    cases b with
    |true =>
     have EQ:=HO.out _ (A58 HX.out.1 (by unfold PD;rw [HB.out.1,HB.out.2];simp) HQ.out).symm
     have HE:=Aaa EQ
     have LL:Hid (∀W,Below w.heap.size w W→(Instr.loadAt 88 (pZ r.rb (0+0))).run prog W= .ok (.slice (some ⟨g,o,none⟩) n c) W):=fun W b=>by rw [←HX.out.2.2];exact LD.out W b
     have LV:Hid (∀W,Below w.heap.size w W→(Instr.loadAt 40 (pZ g (o+105*i+34))).run prog W= .ok x.v.v W∧(Instr.loadAt 37 (pZ g (o+105*i+34+0))).run prog W= .ok (.int .u8 x.v.k) W):=fun W b=>by
      obtain ⟨_,g2,o2,e2,h2⟩:=HH.out.row W b i x HX.out.1
      rw [HX.out.2.2] at e2
      cases e2
      refine ⟨A7o HX.out.2.1 h2, ?_⟩
      have hc:=A5i HX.out.2.1 h2
      go_simp
     obtain ⟨q,hq⟩:∃q,(!decide (x.v.k=0))=q:=⟨_,rfl⟩
     obtain ⟨⟨y,hy⟩,hb⟩:=B2.out
     have hyd:Abz w2.drew vb y:=hy
     have b5:Below w.heap.size w w2.drew:=hb.drew
     have ST:=Afz (u:=x.v) hyd
     have hy2:=hyd.set x.v
     have b6:Below w.heap.size w (w2.drew.setRow vb x.v.c.toArray):=b5.trans (Aby _ b5.size (by rw [HVB.out];exact Nat.le_refl _))
     have HF:=Aaa (And.intro hy2 b6)
     rw [hq] at HE
     clear EQ hy hb hyd hy2 HQ B2
     go_upto_region 5 with fail
     refine En.zy tab [0,1,2,3,4,5,6,7,8,9,10,11,12,13,14,15,16,17,18,19] 20 (fun W=>Below w.heap.size w W) (hS:=b5) (h:=En.sty (fun W b=>LL.out W b) (En.sty (fun W b=>Afw hi (by omega) W) (En.sty (fun W b=>(LV.out W b).1) (En.sty (fun W b=>LL.out W b) (En.sty (fun W b=>Afw hi (by omega) W) (En.sty (fun W b=>(LV.out W b).2) (En.cm hq (En.euy ST b6 (En.fi ?_)))))))))
     simp only [En.pM,En.pU,Act.put,qsA,qsB,qsC]
     clear LL LV ST b5 b6 hq
     go_wp2
     refine bodyPost_ret (Ade rfl rfl (Ahf HF.out.1)) rfl ?_
     exact ⟨HE.out.symm,HF.out.2⟩
    |false =>
     have HR:Hid (∀j y,i≤j→r.L[j]? =some y→PD E nm e y=false):=fun j y h1 h2=>by
      by_cases q:j=i
      ·subst q
       rw [HX.out.1] at h2
       cases h2
       unfold PD
       rw [HB.out.1]
       simp
      ·exact HQ.out j y (by omega) h2
     clear HQ
     go_wp2
     refine ⟨⟨i,rfl,by omega,B2,HR⟩, ?_⟩
     show ((i:Int)-1+1).toNat<((i:Int)+1).toNat
     omega
   ·have ED:=decide_eq_false e1
    have LN:=Ah2 hxo hr
    have HR:Hid (∀j y,i≤j→r.L[j]? =some y→PD E nm e y=false):=fun j y h1 h2=>by
     by_cases q:j=i
     ·subst q
      rw [HX.out.1] at h2
      cases h2
      unfold PD
      rw [ED]
      rfl
     ·exact HQ.out j y (by omega) h2
    clear e1 hx hxo ea hr HQ
    go_upto_region 4 with fail
    refine En.zq tab rfl (En.st LA.out (En.st (Afw hi (by omega) _) (En.st LN (En.st (A62 ED _ _ _) (En.fi ?_)))))
    simp only [En.pM,En.pU,Act.put,qsA,qsB,qsC]
    clear ED LN LA
    go_wp2
    refine ⟨⟨i,rfl,by omega,HI,HR⟩, ?_⟩
    show ((i:Int)-1+1).toNat<((i:Int)+1).toNat
    omega
structure IdI (w:World) (L:List Elt) (rv:Value) (l:List IdK) (lv:Value) (wr:World):Prop where
 row:RE.Own wr w.heap.size rv L
 own:Afd wr w.heap.size lv l
 bel:Below w.heap.size w wr
theorem Afd.blk {w:World} {base:Nat} {v:Value} {l:List IdK} (h:Afd w base v l) {k:Nat} (hk:v.ownBlock=some k):base≤k∧∃c,w.heap[k]? =some (.cells c 36 (0,0)):=by
 rcases h.2 with ⟨rfl,_⟩|⟨g,cap,cur,rfl,hb,hg,_⟩
 ·cases hk
 ·simp only [Value.ownBlock,Option.some.injEq] at hk
  subst hk
  exact ⟨hb,_,hg⟩
theorem IdI.push {w wr:World} {L:List Elt} {rv:Value} {l:List IdK} {lv:Value} (h:IdI w L rv l lv wr) {x:IdK} (hx:x.ok) (hl:l.length≤1400000000000) :
 ∃sv w1 v2 w2,(Instr.buildSlice 56 1 #[(0,x.v)]).run prog wr= .ok sv w1∧(Builtin.append_ #[56,56] 56 #[lv,sv]).run prog w1= .ok v2 w2∧IdI w L rv (l++[x]) v2 w2:=by
 have b1:Below wr.heap.size wr (wr.alloc (.cells (IdK.c x).toArray 36)):=(Below.refl _ _).alloc (Nat.le_refl _) _
 obtain ⟨v2,w2,e2,o2,g,q⟩:=Al6 _ w.heap.size lv l _ [x] 1 (h.own.below b1) (Aso wr x 36) (fun y hy=>by rw [List.mem_singleton.1 hy];exact hx) (by simp;omega) (Nat.le_trans h.bel.size b1.size)
 refine ⟨_,_,v2,w2,Aq0 x hx wr,e2, ?_,o2, ?_⟩
 ·refine (h.row.below b1).keep (fun k hk=> ?_)
  refine g.block k ((h.row.below b1).lt hk) (fun e=> ?_)
  obtain ⟨_,c1,q1⟩:=(h.row.below b1).cells hk
  obtain ⟨_,c2,q2⟩:=(h.own.below b1).blk e.symm
  rw [q1] at q2
  simp [RE] at q2
 ·have b2:Below w.heap.size w (wr.alloc (.cells (IdK.c x).toArray 36)):=h.bel.trans (b1.mono h.bel.size)
  exact b2.grown g b2.size (fun k hk=>(h.own.blk hk).1)
theorem IdI.get {w wr:World} {L:List Elt} {rv:Value} {l:List IdK} {lv:Value} (h:IdI w L rv l lv wr) (ok:∀e∈L,RE.ok e) {i:Nat} (hi:i<L.length):∃eb ec,rv= .slice (some ⟨eb,0,none⟩) L.length ec∧wr.rangeAt eb (0+67*i) L[i].c:=by
 obtain ⟨g,cap,e,hr⟩:=h.row.zero Adr ok hi
 exact ⟨g,cap,e,by rw [Nat.zero_add];exact hr⟩
theorem Awm (L:List Elt) (c:Bool) {i:Nat} (hi:i<L.length):Ahg (L.take (i+1)) c=Ahg (L.take i) c++(if cE c L[i]=true then [L[i].id] else []):=by
 unfold Ahg Adg
 rw [List.take_add_one,List.getElem?_eq_getElem hi,Option.toList,List.filter_append,List.map_append,List.filter_cons,List.filter_nil]
 split <;>rfl
theorem A3e (L:List Elt) (c:Bool):(Ahg L c).length≤L.length:=by
 unfold Ahg
 rw [List.length_map]
 exact List.length_filter_le _ _
theorem Asp {L:List Elt} (ok:∀e∈L,RE.ok e) (c:Bool):∀x∈Ahg L c,x.ok:=fun x hx=>by
 obtain ⟨e,he,rfl⟩:=List.mem_map.1 hx
 exact (ok e (List.mem_filter.1 he).1).1
section
variable {w:World} {base:Nat} {pv:Value} {R:List Elt}
theorem A3d (h:Aog w base pv R):Calls prog 31 #[pv] w fun e w'=> ∃v,e= .returned v∧Afd w' w.heap.size v (Ahg (Ab5 R) false)∧Below w.heap.size w w':=by
 have HR:=Aaa (Ahv h)
 have HWF:=Aaa (Afq h.ok.1)
 have hln:(Ab5 R).length≤1400000000000:=by rw [Adw];exact h.ok.2
 generalize Ab5 R=L at *
 obtain ⟨n,hn⟩:∃n,L.length=n:=⟨_,rfl⟩
 rw [hn] at HR hln
 have HN:=Aaa hn
 clear hn h
 go_enter func31,ntmps31
 go_wp2_with (first
  |(go_at_call 58;refine HR.out.mono ?_;rintro e w1 ⟨ra,rc,rfl,o1,b1⟩)
  |fail)
 have st0:Hid (IdI w L (.slice ra n rc) (Ahg (L.take 0) false) (.slice none 0 0) w1):=⟨o1,⟨by simp [Ahg,Adg,Adf], .inl ⟨rfl,by simp [Ahg,Adg]⟩⟩,b1⟩
 clear o1 b1 HR
 go_loopw [3,5] (fun v3 v5 wr=> ∃(i:Nat) (lv:Value),lv=v3∧v5= .int .i64 (i:Int)∧i≤n∧Hid (IdI w L (.slice ra n rc) (Ahg (L.take i) false) lv wr)) (fun v3 v5 wr=>n-(match v5 with | .int _ i=>i.toNat|_=>0))
 case atStart=>exact ⟨0,_,rfl,rfl,Nat.zero_le _,st0⟩
 case round =>
  clear st0
  obtain ⟨i,lv,rfl,rfl,hin,hI⟩:=hrel
  by_cases hi:i<n
  ·have hi':i<L.length:=by rw [HN.out];exact hi
   obtain ⟨eb,ec,e1,hra⟩:=hI.out.get HWF.out hi'
   rw [HN.out] at e1
   cases e1
   have hwf:L[i].wf:=HWF.out _ (List.getElem_mem hi')
   have HT:=Aaa (Awm L false hi')
   have hll:(Ahg (L.take i) false).length≤1400000000000:=by
        have h1:=A3e (L.take i) false
        rw [List.length_take] at h1
        omega
   obtain ⟨sv,w2,v2,w3,e2,e3,P3⟩:=hI.out.push hwf.1 hll
   have HP:Hid (IdI w L (.slice (some ⟨eb,0,none⟩) n rc) (Ahg (L.take (i+1)) false) v2 w3):=by
        rw [HT.out,show (if cE false L[i]=true then [L[i].id] else [])=[L[i].id] from rfl];exact P3
   clear P3
   generalize L[i]=x at *
   go_upto_region 6 with fail
   refine En.zqc tab rfl (En.st ((Agp hi (by omega) _)) (En.st ((At6 hwf hra)) (En.ef (e2) (En.ef (e3) (En.fi ?_)))))
   intro a' w4 hw ha
   subst ha
   obtain rfl:w4=w3:=hw
   simp only [En.pM,En.pU,Act.put,qsA,qsB,qsC]
   clear e2 e3 hI hra hll
   go_wp2
   have hq:((i:Int)+1)=((i+1:Nat):Int):=by omega
   rw [hq]
   refine ⟨⟨i+1,_,rfl,rfl,hi,HP⟩, ?_⟩
   show n-((i+1:Nat):Int).toNat<n-(i:Int).toNat
   omega
  ·obtain rfl:n=i:=by omega
   rw [List.take_of_length_le (by rw [HN.out];exact Nat.le_refl _)] at hI
   go_wp2
   go_ret
   exact ⟨_,rfl,hI.out.own,hI.out.bel⟩
theorem A3c (h:Aog w base pv R):Calls prog 31 #[pv] w fun e w'=> ∃a c,e= .returned (.slice a (Ahg (Ab5 R) false).length c)∧Afd w' w.heap.size (.slice a (Ahg (Ab5 R) false).length c) (Ahg (Ab5 R) false)∧Below w.heap.size w w':=by
 refine (A3d h).mono ?_
 rintro e w' ⟨v,rfl,o,b⟩
 obtain ⟨a,c,rfl,_⟩:=o.open (Asp (Afq h.ok.1) _)
 exact ⟨a,c,rfl,o,b⟩
theorem Asm (h:Aog w base pv R) {k:IdK} (hk:k.ok):Calls prog 62 #[pv,k.v] w fun e w'=>e= .returned (.int .i64 (Aac (Ab5 R) true k))∧Below w.heap.size w w':=by
 have bx:Below w.heap.size w (w.alloc (.cells k.c.toArray 36)):=(Below.refl _ _).alloc (Nat.le_refl _) _
 have hx:=Acg w k
 have HR:=Aaa (Ahv (h.below bx))
 have HWF:=Aaa (Afq h.ok.1)
 have HOK:=Aaa h.ok.1.row
 have hln:(Ab5 R).length≤1400000000000:=by rw [Adw];exact h.ok.2
 generalize Ab5 R=L at *
 obtain ⟨n,hn⟩:∃n,L.length=n:=⟨_,rfl⟩
 rw [hn] at HR hln
 have HN:=Aaa hn
 obtain ⟨r,hr⟩:∃r,Aac L true k=r:=⟨_,rfl⟩
 have HRR:=Aaa hr
 rw [hr]
 show Calls prog 62 #[pv, .agg k.c.toArray] w _
 clear hr hn h
 go_enter func62,ntmps62
 go_upto_region 1 with fail
 generalize w.alloc (.cells k.c.toArray 36)=wx at *
 obtain ⟨kb,hkb⟩:∃kb,w.heap.size=kb:=⟨_,rfl⟩
 rw [hkb] at hx bx ⊢
 have HK:=Aaa hkb
 clear hkb
 go_wp2_with (first
  |(go_at_call 58;refine HR.out.mono ?_;rintro e w1 ⟨ra,rc,rfl,o1,b1⟩)
  |fail)
 have st0:Hid (RE.Own w1 wx.heap.size (.slice ra n rc) L∧Aaz w1 kb k∧Below kb w w1):=⟨o1,hx.below b1,bx.trans (b1.mono (by rw [←HK.out];exact bx.size))⟩
 clear o1 b1 HR hx bx
 go_loopw [6,7] (fun v6 v7 wr=> ∃(i:Nat),v6= .int .i64 (((L.take i).countP (cE true):Nat):Int)∧v7= .int .i64 (i:Int)∧i≤n∧Hid (RE.Own wr wx.heap.size (.slice ra n rc) L∧Aaz wr kb k∧Below kb w wr)∧Hid (∀j (hj:j<L.length),j<i→L[j].id≠k)) (fun v6 v7 wr=>n-(match v7 with | .int _ i=>i.toNat|_=>0))
 case atStart=>exact ⟨0,rfl,rfl,Nat.zero_le _,st0,fun j hj h=>by omega⟩
 case round =>
  clear st0
  obtain ⟨i,rfl,rfl,hin,hI,hno⟩:=hrel
  by_cases hi:i<n
  ·have hi':i<L.length:=by rw [HN.out];exact hi
   obtain ⟨eb,ec,e1,hra⟩:=hI.out.1.zero Adr HWF.out hi'
   rw [HN.out] at e1
   cases e1
   have hra2:wr.rangeAt eb (0+67*i) L[i].c:=by rw [Nat.zero_add];exact hra
   have hwf:L[i].wf:=HWF.out _ (List.getElem_mem hi')
   have HX:=Aaa (Agz HOK.out true hi')
   have HC:=Aaa (Azw true hi')
   have HNX:Hid (L[i].id≠k→∀j (hj:j<L.length),j<i+1→L[j].id≠k):=fun q j hj hji=>by
        by_cases e:j=i
        ·subst e;exact q
        ·exact hno.out j hj (by omega)
   have hcE:cE true L[i]=L[i].sh:=rfl
   rw [hcE] at HC
   clear hcE
   generalize L[i]=x at *
   obtain ⟨q,hq0⟩:∃q,(L.take i).countP (cE true)=q:=⟨_,rfl⟩
   have HQL:Hid (q≤1400000000000):=by
        have h1:=List.countP_le_length (p:=cE true) (l:=L.take i)
        rw [List.length_take] at h1
        show q≤_
        omega
   rw [hq0] at HX HC ⊢
   clear hq0
   go_upto_region 6 with fail
   refine En.zyc tab [0,1,2,3,4,5,6] 7 (fun w'=>w'=(World.drew _)) (hS:=(rfl)) (h:=En.sty (fun Xw Xh=>(Agp hi (by omega) _)) (En.sty (fun Xw Xh=>(At6 hwf (by rw [Xh];exact hra2))) (En.sty (fun Xw Xh=>(Aah hk (by rw [Xh];exact hI.out.2.1))) (En.sty (fun Xw Xh=>A60 hwf.1 hk (rfl) _ _ _) (En.fi ?_)))))
   intro a' w2 hw ha
   subst ha
   obtain rfl:w2=wr.drew:=hw
   simp only [En.pM,En.pU,Act.put,qsA,qsB,qsC]
   have hI2:Hid (RE.Own wr.drew wx.heap.size (.slice (some ⟨eb,0,none⟩) n rc) L∧Aaz wr.drew kb k∧Below kb w wr.drew):=⟨hI.out.1.below ((Below.refl _ _).drew),hI.out.2.1,hI.out.2.2.drew⟩
   have hra3:wr.drew.rangeAt eb (0+67*i) x.c:=hra2
   generalize wr.drew=w2 at *
   clear hI hra hra2
   cases hd:decide (x.id=k) with
   |true =>
    have e2:r=(q:Int):=by rw [←HRR.out, ←HX.out,of_decide_eq_true hd]
    subst e2
    clear hd HX HNX hno HC
    go_wp2
    go_ret
    exact ⟨rfl,by rw [HK.out];exact hI2.out.2.2⟩
   |false =>
    have HD:=Aaa (of_decide_eq_false hd)
    clear hd HX hno
    go_upto_region 8 with fail
    refine En.zqc tab rfl (En.st ((Agp hi (by omega) _)) (En.st ((A3z hwf hra3)) (En.fi ?_)))
    intro a' w3 hw ha
    subst ha
    obtain rfl:w3=w2:=hw
    simp only [En.pM,En.pU,Act.put,qsA,qsB,qsC]
    clear hra3
    have hql:=HQL.out
    cases hs:x.sh with
    |true =>
     rw [hs] at HC
     clear hs
     go_wp2
     have hq:((i:Int)+1)=((i+1:Nat):Int):=by omega
     have hq2:((q:Int)+1)=((q+1:Nat):Int):=by omega
     rw [hq,hq2]
     refine ⟨⟨i+1,by rw [HC.out];rfl,rfl,hi,hI2,HNX.out HD.out⟩, ?_⟩
     show n-((i+1:Nat):Int).toNat<n-(i:Int).toNat
     omega
    |false =>
     rw [hs] at HC
     clear hs
     go_wp2
     have hq:((i:Int)+1)=((i+1:Nat):Int):=by omega
     rw [hq]
     refine ⟨⟨i+1,by rw [HC.out];rfl,rfl,hi,hI2,HNX.out HD.out⟩, ?_⟩
     show n-((i+1:Nat):Int).toNat<n-(i:Int).toNat
     omega
  ·obtain rfl:n=i:=by omega
   have e2:r= -1:=by
        rw [←HRR.out]
        exact Adk (Ah1 (fun j hj=>hno.out j hj (by rw [←HN.out];exact hj))) _
   subst e2
   clear hno
   go_wp2
   go_ret
   exact ⟨rfl,by rw [HK.out];exact hI.out.2.2⟩
end
attribute [local go_sem] Oper.semAt_some
theorem A1o (p q:SpV):decide (cSp p q<0)=if p.fr≠q.fr then decide (p.fr<q.fr) else if p.to≠q.to then decide (p.to<q.to) else ltS p.nm q.nm:=by
 unfold cSp or3 cI ltS
 by_cases h1:p.fr=q.fr
 ·rw [if_neg (show ¬(p.fr≠q.fr) from fun h=>h h1)]
  by_cases h2:p.to=q.to
  ·rw [if_neg (show ¬(p.to≠q.to) from fun h=>h h2),if_neg (show ¬p.fr<q.fr by omega),if_neg (show ¬q.fr<p.fr by omega),if_pos rfl,if_neg (show ¬p.to<q.to by omega),if_neg (show ¬q.to<p.to by omega),if_pos rfl]
   unfold cS
   cases h:Op.bytesLess p.nm.toList q.nm.toList with
   |true=>simp
   |false =>
    rw [if_neg (by simp)]
    split <;>simp
  ·rw [if_pos h2,if_neg (show ¬p.fr<q.fr by omega),if_neg (show ¬q.fr<p.fr by omega),if_pos rfl]
   by_cases h3:p.to<q.to
   ·rw [if_pos h3];simp [h3]
   ·rw [if_neg h3,if_pos (show q.to<p.to by omega)];simp [h3]
 ·rw [if_pos h1]
  by_cases h3:p.fr<q.fr
  ·rw [if_pos h3];simp [h3]
  ·rw [if_neg h3,if_pos (show q.fr<p.fr by omega)];simp [h3]
theorem Av6 (p q:SpV) (w:World):Calls prog 65 #[p.a,q.a] w fun e w'=>e= .returned (.bool (decide (cSp p q<0)))∧Below w.heap.size w w':=by
 obtain ⟨W,hW⟩:∃W,(w.alloc (.cells p.c.toArray 65)).alloc (.cells q.c.toArray 65)=W:=⟨_,rfl⟩
 have S0:Hid (RSp.Bx W w.heap.size p∧RSp.Bx W (w.heap.size+1) q∧Below w.heap.size w W):=by
  refine ⟨?_, ?_, ?_⟩
  ·rw [←hW]
   show _=_
   rw [Below.heap_alloc _ _ _ (by simp)];exact heap_alloc_new _ _
  ·rw [←hW]
   have:=heap_alloc_new (w.alloc (.cells p.c.toArray 65)) (.cells q.c.toArray 65)
   rw [show (w.alloc (.cells p.c.toArray 65)).heap.size=w.heap.size+1 by simp] at this
   exact this
  ·rw [←hW];exact ((Below.refl _ _).alloc (Nat.le_refl _) _).alloc (by simp) _
 have HX:=Aaa hW
 have HC:=Aaa (A1o p q)
 generalize decide (cSp p q<0)=r at *
 clear hW
 have P1:=Aaa (Aiy S0.out.1)
 have P2:=Aaa (Ag0 S0.out.1)
 have P3:=Aaa (Aw7 S0.out.1)
 have Q1:=Aaa (Aiy S0.out.2.1)
 have Q2:=Aaa (Ag0 S0.out.2.1)
 have Q3:=Aaa (Aw7 S0.out.2.1)
 have HB:=Aaa S0.out.2.2
 clear S0
 unfold SpV.a
 go_enter func65,ntmps65
 go_upto_region 1 with fail
 rw [HX.out]
 clear HX
 by_cases h1:p.fr=q.fr
 ·have c1:(!decide (p.fr=q.fr))=false:=by simp [h1]
  refine En.zq tab rfl (En.st P1.out (En.st Q1.out (En.cm c1 (En.fi ?_))))
  simp only [En.pM,En.pU,Act.put,qsA,qsB,qsC]
  go_upto_region 3 with fail
  by_cases h2:p.to=q.to
  ·have c2:(!decide (p.to=q.to))=false:=by simp [h2]
   refine En.zq tab rfl (En.st P2.out (En.st Q2.out (En.cm c2 (En.fi ?_))))
   simp only [En.pM,En.pU,Act.put,qsA,qsB,qsC]
   go_upto_region 5 with fail
   have hr:ltS p.nm q.nm=r:=by rw [HC.out,if_neg (fun h=>h h1),if_neg (fun h=>h h2)]
   refine En.zq tab rfl (En.st P3.out (En.st Q3.out (En.st (A61 hr _ _ _) (En.fi ?_))))
   simp only [En.pM,En.pU,Act.put,qsA,qsB,qsC]
   clear hr c1 c2 h1 h2 P1 P2 P3 Q1 Q2 Q3 HC
   go_wp2
   go_ret
   exact ⟨rfl,HB.out⟩
  ·have c2:(!decide (p.to=q.to))=true:=by simp [h2]
   refine En.zq tab rfl (En.st P2.out (En.st Q2.out (En.cm c2 (En.fi ?_))))
   simp only [En.pM,En.pU,Act.put,qsA,qsB,qsC]
   go_upto_region 4 with fail
   have hr:decide (p.to<q.to)=r:=by rw [HC.out,if_neg (fun h=>h h1),if_pos h2]
   refine En.zq tab rfl (En.st P2.out (En.st Q2.out (En.cm hr (En.fi ?_))))
   simp only [En.pM,En.pU,Act.put,qsA,qsB,qsC]
   clear hr c1 c2 h1 h2 P1 P2 P3 Q1 Q2 Q3 HC
   go_wp2
   go_ret
   exact ⟨rfl,HB.out⟩
 ·have c1:(!decide (p.fr=q.fr))=true:=by simp [h1]
  refine En.zq tab rfl (En.st P1.out (En.st Q1.out (En.cm c1 (En.fi ?_))))
  simp only [En.pM,En.pU,Act.put,qsA,qsB,qsC]
  go_upto_region 2 with fail
  have hr:decide (p.fr<q.fr)=r:=by rw [HC.out,if_pos h1]
  refine En.zq tab rfl (En.st P1.out (En.st Q1.out (En.cm hr (En.fi ?_))))
  simp only [En.pM,En.pU,Act.put,qsA,qsB,qsC]
  clear hr c1 h1 P1 P2 P3 Q1 Q2 Q3 HC
  go_wp2
  go_ret
  exact ⟨rfl,HB.out⟩
end
end Go.Proofs.YtifendlpeebofaaGreatDoor
