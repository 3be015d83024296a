import Derived.Test.YtifendlpeebofaaGreatDoorP0
import Derived.Test.YtifendlpeebofaaGreatDoorP2
set_option linter.unusedSimpArgs false
set_option linter.unusedVariables false
set_option maxRecDepth 100000
set_option maxHeartbeats 4000000
namespace Go.Proofs.YtifendlpeebofaaGreatDoor
open Go.Proofs.Tryz
section
open Go.RowKit
theorem Ags (b o:Nat) (w:World):(Instr.fieldAt 95 (pZ b o) 1).run prog w= .ok (pZ b (o+33)) w:=by go_simp
theorem A3q (b o:Nat) (w:World):(Instr.fieldAt 95 (pZ b o) 2).run prog w= .ok (pZ b (o+34)) w:=by go_simp
theorem A3p (b o:Nat) (w:World):(Instr.fieldAt 95 (pZ b o) 3).run prog w= .ok (pZ b (o+38)) w:=by go_simp
theorem A3o (b o:Nat) (w:World):(Instr.fieldAt 95 (pZ b o) 4).run prog w= .ok (pZ b (o+71)) w:=by go_simp
theorem Atj (b o:Nat) (w:World):(Instr.fieldAt 95 (pZ b o) 5).run prog w= .ok (pZ b (o+104)) w:=by go_simp
theorem Ak8 (b o:Nat) (w:World):(Instr.fieldAt 87 (pZ b o) 0).run prog w= .ok (pZ b (o+0)) w:=by go_simp
theorem Atk (b o:Nat) (w:World):(Instr.fieldAt 87 (pZ b o) 1).run prog w= .ok (pZ b (o+1)) w:=by go_simp
theorem Ad4 (b o:Nat) (w:World):(Instr.fieldAt 40 (pZ b o) 0).run prog w= .ok (pZ b (o+0)) w:=by go_simp
theorem A1i {w:World} {a:Act} {o:Oper} {x y:Operand} {p q z:Int} (hz:(binOp .and 3 (.int .i64 p) (.int .i64 q)).run prog w= .ok (.int .i64 z) w) (ho:o.op= .binOp .and 3 x y 3) (hx:a.eval x= .int .i64 p) (hy:a.eval y= .int .i64 q):(execOp a.eval o).run prog w= .ok (.value (.int .i64 z)) w:=by
 refine Aca ho hx hy ?_ hz
 kernel_rfl
def Azh:Array Oper:=(⟨_,rfl⟩:{o // some o=rgB Tryz.f102 1}).1
theorem A9y {sp:Value} {b1:Nat} {k:IdK} {r:Int} (Fin:World→Prop) (a:Act) (w:World) (Q:Exit→Act→World→Prop) (zz:a.tmps.size=28)
 (t0:a.tmps.getD 0 undef=sp)
 (t5:a.tmps.getD 5 undef= (pZ b1 0))
 (LK:∀W,W=w→(Instr.loadAt 36 (pZ b1 0)).run prog W= .ok (k.v) W) (CR:Calls prog 54 #[sp,k.v] w fun e w'=>e= .returned (.int .i64 r)∧Fin w')
 (h:∀a' w',Fin w'→a'=(((a.put (some 11) (sp)).put (some 12) (k.v)).put (some 13) (.int .i64 r)).put (some 10) (.int .i64 r)→Q .normal a' w') :
 (Code.region 1 Azh false).wp prog Q a w:=by
 refine z0 rfl ?_
 refine zv rfl (xmv rfl (zi t0 rfl)) ?_
 refine zv rfl (xld rfl (zi t5 rfl) (LK _ rfl)) ?_
 refine zc rfl (Aap rfl (zg zz rfl) (zg zz rfl)) (CR) (fun e x2 hx=> ?_)
 obtain ⟨rfl,HF⟩:=hx
 refine ⟨_,rfl, ?_⟩
 refine zv rfl (xas rfl (zg zz rfl)) ?_
 exact ze rfl (h _ _ (HF) rfl)
def Azg:Array Oper:=(⟨_,rfl⟩:{o // some o=rgB Tryz.f102 2}).1
theorem A9x {b1:Nat} {k:IdK} {z:Bool} (a:Act) (w:World) (Q:Exit→Act→World→Prop) (zz:a.tmps.size=28)
 (t5:a.tmps.getD 5 undef= (pZ b1 0))
 (hk:k.ok) (hz:decide (k=zId)=z) (LK:∀W,W=w→(Instr.loadAt 36 (pZ b1 0)).run prog W= .ok (k.v) W)
 (h:∀a' w',w'=w→a'=(((a.put (some 15) (k.v)).put (some 16) (zId.v)).put (some 17) (.bool z)).put (some 14) (.bool z)→Q .normal a' w') :
 (Code.region 2 Azg false).wp prog Q a w:=by
 refine z0 rfl ?_
 refine zv rfl (xld rfl (zi t5 rfl) (LK _ rfl)) ?_
 refine zv rfl (Ac2 rfl (Abh _)) ?_
 refine zv (v:= .bool z) rfl (A3u rfl (zg zz rfl) (zg zz rfl) hk Aay hz) ?_
 refine zv rfl (xas rfl (zg zz rfl)) ?_
 exact ze rfl (h _ _ (rfl) rfl)
def Ayr:Array Oper:=(⟨_,rfl⟩:{o // some o=rgB Tryz.f55 1}).1
theorem A9m {sp:Value} {r:Int} {k:IdK} {z:Bool} (Fin:Nat→World→Prop) (a:Act) (w:World) (Q:Exit→Act→World→Prop) (zz:a.tmps.size=19)
 (t0:a.tmps.getD 0 undef=sp)
 (t1:a.tmps.getD 1 undef= .int .i64 r)
 (CA:Calls prog 77 #[sp, .int .i64 r] w fun e w'=>e= .returned (.tuple #[k.v, .bool z])∧∃b1 w1 w2,(Instr.alloc 36 true (.tuple #[])).run prog w'= .ok (pZ b1 0) w1∧(Instr.storeAt 36 (pZ b1 0) k.v).run prog w1= .ok () w2∧Fin b1 w2)
 (h:∀(b1:Nat) a' w',Fin b1 w'→a'=(((((((a.put (some 8) (sp)).put (some 9) (.int .i64 r)).put (some 10) (.tuple #[k.v, .bool z])).put (some 7) (.tuple #[k.v, .bool z])).put (some 11) (k.v)).put (some 12) (.bool z)).put (some 5) (pZ b1 0)).put (some 6) (.bool z)→Q .normal a' w') :
 (Code.region 1 Ayr false).wp prog Q a w:=by
 refine z0 rfl ?_
 refine zv rfl (xmv rfl (zi t0 rfl)) ?_
 refine zv rfl (xmv rfl (zi t1 rfl)) ?_
 refine zc rfl (Aap rfl (zg zz rfl) (zg zz rfl)) (CA) (fun e x2 hx=> ?_)
 obtain ⟨rfl,b1,w1,w2,EA,ES,HF⟩:=hx
 replace h:=h b1
 refine ⟨_,rfl, ?_⟩
 refine zv rfl (xmv rfl (zg zz rfl)) ?_
 iterate 2 refine zv rfl (Aal rfl (zg zz rfl) rfl) ?_
 refine zv (v:= (pZ b1 0)) rfl (Abd rfl EA) ?_
 refine zs rfl (Aai rfl (zg zz rfl) (zg zz rfl) ES) ?_
 refine zv rfl (xas rfl (zg zz rfl)) ?_
 exact ze rfl (h _ _ (HF) rfl)
def Ayq:Array Oper:=(⟨_,rfl⟩:{o // some o=rgB Tryz.f55 3}).1
theorem A9l {sp:Value} {b1:Nat} {k:IdK} {r:Int} (Fin:World→Prop) (a:Act) (w:World) (Q:Exit→Act→World→Prop) (zz:a.tmps.size=19)
 (t0:a.tmps.getD 0 undef=sp)
 (t5:a.tmps.getD 5 undef= (pZ b1 0))
 (LK:∀W,W=w→(Instr.loadAt 36 (pZ b1 0)).run prog W= .ok (k.v) W) (CR:Calls prog 78 #[sp,k.v] w fun e w'=>e= .returned (.int .i64 r)∧Fin w')
 (h:∀a' w',Fin w'→a'=(((a.put (some 14) (sp)).put (some 15) (k.v)).put (some 16) (.int .i64 r)).put (some 4) (.int .i64 r)→Q .normal a' w') :
 (Code.region 3 Ayq false).wp prog Q a w:=by
 refine z0 rfl ?_
 refine zv rfl (xmv rfl (zi t0 rfl)) ?_
 refine zv rfl (xld rfl (zi t5 rfl) (LK _ rfl)) ?_
 refine zc rfl (Aap rfl (zg zz rfl) (zg zz rfl)) (CR) (fun e x2 hx=> ?_)
 obtain ⟨rfl,HF⟩:=hx
 refine ⟨_,rfl, ?_⟩
 refine zv rfl (xas rfl (zg zz rfl)) ?_
 exact ze rfl (h _ _ (HF) rfl)
def Axz:Array Oper:=(⟨_,rfl⟩:{o // some o=rgB Tryz.f81 1}).1
theorem A9c {sp:Value} {b:Nat} {x:MkV} {q f:Int} {r z:Bool} (S:World→Prop) (a:Act) (w:World) (Q:Exit→Act→World→Prop) (zz:a.tmps.size=50)
 (t0:a.tmps.getD 0 undef= (pZ b 0))
 (t1:a.tmps.getD 1 undef=sp)
 (h0:S w.drew) (hr:decide (q≠0)=r) (HZ:∀W,(binOp .and 3 (.int .i64 x.sd) (.int .i64 1)).run prog W= .ok (.int .i64 q) W) (LF:∀W,S W→(Instr.loadAt 36 (pZ b (0+38))).run prog W= .ok (x.fr.v) W) (LS:∀W,S W→(Instr.loadAt 3 (pZ b (0+104))).run prog W= .ok (.int .i64 x.sd) W) (CE:Calls prog 102 #[sp,x.fr.v, .bool r, .int .i64 0] w.drew fun e w'=>e= .returned (.tuple #[.int .i64 f, .bool z])∧S w')
 (h:∀a' w',S w'→a'=((((((((((((((((a.put (some 11) (sp)).put (some 12) (pZ b 0)).put (some 13) (pZ b 0)).put (some 14) (pZ b (0+38))).put (some 15) (x.fr.v)).put (some 16) (pZ b 0)).put (some 17) (pZ b 0)).put (some 18) (pZ b (0+104))).put (some 19) (.int .i64 x.sd)).put (some 20) (.int .i64 q)).put (some 21) (.bool r)).put (some 22) (.tuple #[.int .i64 f, .bool z])).put (some 10) (.tuple #[.int .i64 f, .bool z])).put (some 23) (.int .i64 f)).put (some 24) (.bool z)).put (some 6) (.int .i64 f)).put (some 7) (.bool z)→Q .normal a' w') :
 (Code.region 1 Axz true).wp prog Q a w:=by
 refine y0 (fun w'=>S w') (h0) (fun hHeld=> ?_)
 refine yv 0 rfl rfl (fun w1 hw=>xmv rfl (zi t1 rfl)) hHeld ?_
 refine yv 1 rfl rfl (fun w1 hw=>xmv rfl (zi t0 rfl)) hHeld ?_
 refine yv 2 rfl rfl (fun w1 hw=>xnc rfl (zg zz rfl)) hHeld ?_
 refine yv 3 rfl rfl (fun w1 hw=>xfa rfl (zg zz rfl) (A3p _ _ _)) hHeld ?_
 refine yv 4 rfl rfl (fun w1 hw=>xld rfl (zg zz rfl) (LF _ hw)) hHeld ?_
 refine yv 5 rfl rfl (fun w1 hw=>xmv rfl (zi t0 rfl)) hHeld ?_
 refine yv 6 rfl rfl (fun w1 hw=>xnc rfl (zg zz rfl)) hHeld ?_
 refine yv 7 rfl rfl (fun w1 hw=>xfa rfl (zg zz rfl) (Atj _ _ _)) hHeld ?_
 refine yv 8 rfl rfl (fun w1 hw=>xld rfl (zg zz rfl) (LS _ hw)) hHeld ?_
 refine yv (v:= .int .i64 q) 9 rfl rfl (fun w1 hw=>A1i (HZ _) rfl (zg zz rfl) rfl) hHeld ?_
 refine yv (v:= .bool r) 10 rfl rfl (fun w1 hw=>An0 rfl (zg zz rfl) rfl hr) hHeld ?_
 refine yc 11 rfl rfl (Ad5 rfl (zg zz rfl) (zg zz rfl) (zg zz rfl) rfl) (CE) (fun e x11 hx=> ?_)
 obtain ⟨rfl,S1⟩:=hx
 refine ⟨_,rfl,S1,fun hHeld=> ?_⟩
 refine yv 12 rfl rfl (fun w1 hw=>xmv rfl (zg zz rfl)) hHeld ?_
 refine yv 13 rfl rfl (fun w1 hw=>Aal rfl (zg zz rfl) rfl) hHeld ?_
 refine yv 14 rfl rfl (fun w1 hw=>Aal rfl (zg zz rfl) rfl) hHeld ?_
 refine yv 15 rfl rfl (fun w1 hw=>xas rfl (zg zz rfl)) hHeld ?_
 refine yv 16 rfl rfl (fun w1 hw=>xas rfl (zg zz rfl)) hHeld ?_
 exact ye rfl (h _ _ (S1) rfl)
def Axy:Array Oper:=(⟨_,rfl⟩:{o // some o=rgB Tryz.f81 2}).1
theorem A9b {sp:Value} {b:Nat} {x:MkV} {q f n:Int} {r z:Bool} (S:World→Prop) (a:Act) (w:World) (Q:Exit→Act→World→Prop) (zz:a.tmps.size=50)
 (t0:a.tmps.getD 0 undef= (pZ b 0))
 (t1:a.tmps.getD 1 undef=sp)
 (h0:S w.drew) (hr:decide (q≠0)=r) (HZ:∀W,(binOp .and 3 (.int .i64 x.sd) (.int .i64 2)).run prog W= .ok (.int .i64 q) W) (LT:∀W,S W→(Instr.loadAt 36 (pZ b (0+71))).run prog W= .ok (x.to.v) W) (LS:∀W,S W→(Instr.loadAt 3 (pZ b (0+104))).run prog W= .ok (.int .i64 x.sd) W) (CL:Calls prog 103 #[sp] w.drew fun e w1=>e= .returned (.int .i64 n)∧S w1∧Calls prog 102 #[sp,x.to.v, .bool r, .int .i64 n] w1 fun e w'=>e= .returned (.tuple #[.int .i64 f, .bool z])∧S w')
 (h:∀a' w',S w'→a'=((((((((((((((((((a.put (some 26) (sp)).put (some 27) (pZ b 0)).put (some 28) (pZ b 0)).put (some 29) (pZ b (0+71))).put (some 30) (x.to.v)).put (some 31) (pZ b 0)).put (some 32) (pZ b 0)).put (some 33) (pZ b (0+104))).put (some 34) (.int .i64 x.sd)).put (some 35) (.int .i64 q)).put (some 36) (.bool r)).put (some 37) (sp)).put (some 38) (.int .i64 n)).put (some 39) (.tuple #[.int .i64 f, .bool z])).put (some 25) (.tuple #[.int .i64 f, .bool z])).put (some 40) (.int .i64 f)).put (some 41) (.bool z)).put (some 8) (.int .i64 f)).put (some 9) (.bool z)→Q .normal a' w') :
 (Code.region 2 Axy true).wp prog Q a w:=by
 refine y0 (fun w'=>S w') (h0) (fun hHeld=> ?_)
 refine yv 0 rfl rfl (fun w1 hw=>xmv rfl (zi t1 rfl)) hHeld ?_
 refine yv 1 rfl rfl (fun w1 hw=>xmv rfl (zi t0 rfl)) hHeld ?_
 refine yv 2 rfl rfl (fun w1 hw=>xnc rfl (zg zz rfl)) hHeld ?_
 refine yv 3 rfl rfl (fun w1 hw=>xfa rfl (zg zz rfl) (A3o _ _ _)) hHeld ?_
 refine yv 4 rfl rfl (fun w1 hw=>xld rfl (zg zz rfl) (LT _ hw)) hHeld ?_
 refine yv 5 rfl rfl (fun w1 hw=>xmv rfl (zi t0 rfl)) hHeld ?_
 refine yv 6 rfl rfl (fun w1 hw=>xnc rfl (zg zz rfl)) hHeld ?_
 refine yv 7 rfl rfl (fun w1 hw=>xfa rfl (zg zz rfl) (Atj _ _ _)) hHeld ?_
 refine yv 8 rfl rfl (fun w1 hw=>xld rfl (zg zz rfl) (LS _ hw)) hHeld ?_
 refine yv (v:= .int .i64 q) 9 rfl rfl (fun w1 hw=>A1i (HZ _) rfl (zg zz rfl) rfl) hHeld ?_
 refine yv (v:= .bool r) 10 rfl rfl (fun w1 hw=>An0 rfl (zg zz rfl) rfl hr) hHeld ?_
 refine yv 11 rfl rfl (fun w1 hw=>xmv rfl (zi t1 rfl)) hHeld ?_
 refine yc 12 rfl rfl (Adc rfl (zg zz rfl)) (CL) (fun e x12 hx=> ?_)
 obtain ⟨rfl,S0,CE⟩:=hx
 refine ⟨_,rfl,S0,fun hHeld=> ?_⟩
 refine yc 13 rfl rfl (Ad5 rfl (zg zz rfl) (zg zz rfl) (zg zz rfl) (zg zz rfl)) (CE) (fun e x13 hx=> ?_)
 obtain ⟨rfl,S1⟩:=hx
 refine ⟨_,rfl,S1,fun hHeld=> ?_⟩
 refine yv 14 rfl rfl (fun w1 hw=>xmv rfl (zg zz rfl)) hHeld ?_
 refine yv 15 rfl rfl (fun w1 hw=>Aal rfl (zg zz rfl) rfl) hHeld ?_
 refine yv 16 rfl rfl (fun w1 hw=>Aal rfl (zg zz rfl) rfl) hHeld ?_
 refine yv 17 rfl rfl (fun w1 hw=>xas rfl (zg zz rfl)) hHeld ?_
 refine yv 18 rfl rfl (fun w1 hw=>xas rfl (zg zz rfl)) hHeld ?_
 exact ye rfl (h _ _ (S1) rfl)
def Ayk:Array Oper:=(⟨_,rfl⟩:{o // some o=rgB Tryz.f39 1}).1
theorem A9j {mb ib b1 eb:Nat} {k:IdK} {r:Bool} {w1 w2:World} (S:World→Prop) (a:Act) (w:World) (Q:Exit→Act→World→Prop) (zz:a.tmps.size=17)
 (t0:a.tmps.getD 0 undef= (pZ mb 0))
 (t3:a.tmps.getD 3 undef= (pZ b1 0))
 (h0:S w.drew) (LM:∀W,S W→(Instr.loadAt 84 (pZ mb (0+1))).run prog W= .ok (.map (some ib)) W) (LK:∀W,S W→(Instr.loadAt 36 (pZ b1 0)).run prog W= .ok (k.v) W) (LL:∀W,S W→(Instr.lookup 84 (.map (some ib)) k.v true).run prog W= .ok (.tuple #[.agg #[], .bool r]) W) (EA:(Instr.alloc 96 true (.tuple #[])).run prog w.drew= .ok (pZ eb 0) w1) (S1:S w1) (ES:(Instr.storeAt 96 (pZ eb 0) (.agg #[])).run prog w1= .ok () w2) (S2:S w2)
 (h:∀a' w',S w'→a'=((((((((((a.put (some 8) (pZ mb 0)).put (some 9) (pZ mb 0)).put (some 10) (pZ mb (0+1))).put (some 11) (.map (some ib))).put (some 12) (k.v)).put (some 13) (.tuple #[.agg #[], .bool r])).put (some 7) (.tuple #[.agg #[], .bool r])).put (some 14) (.agg #[])).put (some 15) (.bool r)).put (some 5) (pZ eb 0)).put (some 6) (.bool r)→Q .normal a' w') :
 (Code.region 1 Ayk true).wp prog Q a w:=by
 refine y0 (fun w'=>S w') (h0) (fun hHeld=> ?_)
 refine yv 0 rfl rfl (fun w1 hw=>xmv rfl (zi t0 rfl)) hHeld ?_
 refine yv 1 rfl rfl (fun w1 hw=>xnc rfl (zg zz rfl)) hHeld ?_
 refine yv 2 rfl rfl (fun w1 hw=>xfa rfl (zg zz rfl) (Atk _ _ _)) hHeld ?_
 refine yv 3 rfl rfl (fun w1 hw=>xld rfl (zg zz rfl) (LM _ hw)) hHeld ?_
 refine yv 4 rfl rfl (fun w1 hw=>xld rfl (zi t3 rfl) (LK _ hw)) hHeld ?_
 refine yv (v:= .tuple #[.agg #[], .bool r]) 5 rfl rfl (fun w1 hw=>Ac1 rfl (zg zz rfl) (zg zz rfl) (LL _ hw)) hHeld ?_
 refine yv 6 rfl rfl (fun w1 hw=>xmv rfl (zg zz rfl)) hHeld ?_
 refine yv 7 rfl rfl (fun w1 hw=>Aal rfl (zg zz rfl) rfl) hHeld ?_
 refine yv 8 rfl rfl (fun w1 hw=>Aal rfl (zg zz rfl) rfl) hHeld ?_
 refine yr (v:= (pZ eb 0)) 9 rfl rfl (Abd rfl EA) (S1) (fun hHeld=> ?_)
 refine ys 10 rfl rfl (Aai rfl (zg zz rfl) (zg zz rfl) ES) (S2) (fun hHeld=> ?_)
 refine yv 11 rfl rfl (fun w1 hw=>xas rfl (zg zz rfl)) hHeld ?_
 exact ye rfl (h _ _ (S2) rfl)
def Ayl:Array Oper:=(⟨_,rfl⟩:{o // some o=rgB Tryz.f12 5}).1
theorem A9k {mb b1:Nat} {k:IdK} {r:Bool} (Fin:World→Prop) (a:Act) (w:World) (Q:Exit→Act→World→Prop) (zz:a.tmps.size=70)
 (t0:a.tmps.getD 0 undef= (pZ mb 0))
 (t8:a.tmps.getD 8 undef= (pZ b1 0))
 (LK:∀W,W=w→(Instr.loadAt 36 (pZ b1 0)).run prog W= .ok (k.v) W) (CH:Calls prog 39 #[(pZ mb 0),k.v] w fun e w'=>e= .returned (.bool r)∧Fin w')
 (h:∀a' w',Fin w'→a'=(((a.put (some 31) (pZ mb 0)).put (some 32) (k.v)).put (some 33) (.bool r)).put (some 30) (.bool r)→Q .normal a' w') :
 (Code.region 5 Ayl false).wp prog Q a w:=by
 refine z0 rfl ?_
 refine zv rfl (xmv rfl (zi t0 rfl)) ?_
 refine zv rfl (xld rfl (zi t8 rfl) (LK _ rfl)) ?_
 refine zc rfl (Aap rfl (zg zz rfl) (zg zz rfl)) (CH) (fun e x2 hx=> ?_)
 obtain ⟨rfl,HF⟩:=hx
 refine ⟨_,rfl, ?_⟩
 refine zv rfl (xas rfl (zg zz rfl)) ?_
 exact ze rfl (h _ _ (HF) rfl)
end
section
open Go.RowKit Sq
def Acp (E:List Elt) (k:IdK) (bh:Bool) (z:Int):Int × Bool:=if k=zId then (z,true) else if bh=true then (Aac E false k+1,decide (Aac E false k≥0)) else (Aac E false k,decide (Aac E false k≥0))
def bF (s:Int):Bool:=decide (s=1∨s=3)
def bT (s:Int):Bool:=decide (s=2∨s=3)
def Abo (E:List Elt) (x:MkV):Int × Int:=if (Acp E x.fr (bF x.sd) 0).2=true∧(Acp E x.to (bT x.sd) (E.length:Int)).2=true then ((Acp E x.fr (bF x.sd) 0).1,(Acp E x.to (bT x.sd) (E.length:Int)).1) else (0,0)
def Aem (E:List Elt) (r:Int):Int:=if (Aex E false r).2=true then Aac E true (Aex E false r).1 else ((Adg E true).length:Int)
theorem Ap3 (E:List Elt):Adg E false=E:=by
 unfold Adg
 rw [List.filter_eq_self]
 intro e _
 rfl
theorem Aga (E:List Elt) (c:Bool) (k:IdK): -1≤Aac E c k∧Aac E c k≤(E.length:Int):=by
 unfold Aac
 split
 ·have h1:=List.countP_le_length (p:=cE c) (l:=E.takeWhile (fun e=> !decide (e.id=k)))
  have h2:=(List.takeWhile_prefix (fun e:Elt=> !decide (e.id=k)) (l:=E)).length_le
  omega
 ·omega
theorem Aak.few {w:World} {s:Sx} {E:List Elt} (h:Aak w s E):E.length+1≤1400000000000:=by
 have h1:=h.lk.len
 have h2:=h.row.len
 omega
section
variable {w:World} {s:Sx} {E:List Elt}
theorem An2 (h:Aak w s E) {k:IdK} (hk:k.ok) (bh:Bool) {z:Int} (hz: -9223372036854775808≤z∧z≤9223372036854775807):Calls prog 102 #[(pZ s.sb 0),k.v, .bool bh, .int .i64 z] w fun e w'=>e= .returned (.tuple #[.int .i64 (Acp E k bh z).1, .bool (Acp E k bh z).2])∧Below w.heap.size w w':=by
 have bx:Below w.heap.size w (w.alloc (.cells k.c.toArray 36)):=(Below.refl _ _).alloc (Nat.le_refl _) _
 have hx:=Acg w k
 have HR:Hid (∀W,Aak W s E→Calls prog 54 #[(pZ s.sb 0),k.v] W fun e w'=>e= .returned (.int .i64 (Aac E false k))∧Below W.heap.size W w'):=fun W hW=>Amb hW hk
 have HB:=Aaa (And.intro (Aga E false k) h.few)
 have HE:Hid (Acp E k bh z=if k=zId then (z,true) else if bh=true then (Aac E false k+1,decide (Aac E false k≥0)) else (Aac E false k,decide (Aac E false k≥0))):=rfl
 generalize Acp E k bh z=res at *
 generalize Aac E false k=r at *
 show Calls prog 102 #[(pZ s.sb 0), .agg k.c.toArray, .bool bh, .int .i64 z] w _
 go_enter func102,ntmps102
 go_upto_region 1 with fail
 generalize w.alloc (.cells k.c.toArray 36)=wx at *
 have h1:=h.below bx
 have HX:=Aaa hx
 clear hx
 refine A9y (k:=k) (r:=r) (fun W=>Below wx.heap.size wx W) _ wx _ rfl rfl rfl (fun W e=>by rw [e];exact Aah hk HX.out) (HR.out _ h1) ?_
 intro a' w1 hf ha
 subst ha
 simp only [Act.put,qsA,qsB,qsC]
 have HX1:=Aaa (HX.out.below hf)
 have B1:=Aaa (bx.trans (hf.mono bx.size))
 clear HX HR hf h1
 go_upto_region 2 with fail
 obtain ⟨q,hq⟩:∃q,decide (k=zId)=q:=⟨_,rfl⟩
 refine A9x (k:=k) (z:=q) _ w1 _ rfl rfl hk hq (fun W e=>by rw [e];exact Aah hk HX1.out) ?_
 intro a' w2 hw ha
 obtain rfl:w1=w2:=hw.symm
 subst ha
 simp only [Act.put,qsA,qsB,qsC]
 have HQ:=Aaa hq
 clear hq HX1
 cases q with
 |true =>
  have e:res=(z,true):=by rw [HE.out,if_pos (of_decide_eq_true HQ.out)]
  clear HE
  subst e
  go_wp2
  refine bodyPost_ret (results_tmp2 rfl _ _ _) rfl ?_
  exact ⟨rfl,B1.out⟩
 |false =>
  obtain ⟨y,hy⟩:∃y,decide (r≥0)=y:=⟨_,rfl⟩
  have HY:=Aaa hy
  clear hy
  cases bh with
  |true =>
   have e:res=(r+1,y):=by rw [HE.out,if_neg (of_decide_eq_false HQ.out),if_pos rfl,HY.out]
   clear HE
   subst e
   go_upto_region 5 with fail
   refine En.zqc tab rfl (En.ar (En.wI ((by have:=HB.out;omega))) (En.cm (c':=y) (HY.out) (En.fi ?_)))
   intro a' w2 hw ha
   obtain rfl:w1=w2:=hw.symm
   subst ha
   simp only [En.pM,En.pU,Act.put,qsA,qsB,qsC]
   clear HB
   go_wp2
   refine bodyPost_ret (results_tmp2 rfl _ _ _) rfl ?_
   exact ⟨rfl,B1.out⟩
  |false =>
   have e:res=(r,y):=by rw [HE.out,if_neg (of_decide_eq_false HQ.out),if_neg (by decide),HY.out]
   clear HE
   subst e
   go_upto_region 6 with fail
   refine En.zqc tab rfl (En.cm (c':=y) (HY.out) (En.fi ?_))
   intro a' w2 hw ha
   obtain rfl:w1=w2:=hw.symm
   subst ha
   simp only [En.pM,En.pU,Act.put,qsA,qsB,qsC]
   clear HB
   go_wp2
   refine bodyPost_ret (results_tmp2 rfl _ _ _) rfl ?_
   exact ⟨rfl,B1.out⟩
theorem Adz (h:Aak w s E) {r:Int} (hr: -9223372036854775808≤r∧r≤9223372036854775807):Calls prog 55 #[(pZ s.sb 0), .int .i64 r] w fun e w'=>e= .returned (.int .i64 (Aem E r))∧Below w.heap.size w w':=by
 have HE:Hid (Aem E r=if (Aex E false r).2=true then Aac E true (Aex E false r).1 else ((Adg E true).length:Int)):=rfl
 have OK:(Aex E false r).1.ok:=Arz h.lk.ok false r
 have CA:Hid (Calls prog 77 #[(pZ s.sb 0), .int .i64 r] w fun e w'=>e= .returned (.tuple #[(Aex E false r).1.v, .bool (Aex E false r).2])∧∃b1 w1 w2,(Instr.alloc 36 true (.tuple #[])).run prog w'= .ok (pZ b1 0) w1∧(Instr.storeAt 36 (pZ b1 0) (Aex E false r).1.v).run prog w1= .ok () w2∧(Aaz w2 b1 (Aex E false r).1∧Below w.heap.size w w2)):=by
  refine (A6u h r hr).mono ?_
  rintro e w' ⟨rfl,b⟩
  have i0:=Acg w' zId
  have bx:Below w'.heap.size w' (w'.alloc (.cells zId.c.toArray 36)):=(Below.refl _ _).alloc (Nat.le_refl _) _
  refine ⟨rfl,w'.heap.size,_,_,Ak1 w',Af0 Aay OK i0,i0.set _, ?_⟩
  have b2:=b.trans (bx.mono b.size)
  exact b2.trans (Aby _ b2.size b.size)
 have HI:Hid (∀W,Aak W s E→Calls prog 78 #[(pZ s.sb 0),(Aex E false r).1.v] W fun e w'=>e= .returned (.int .i64 (Aac E true (Aex E false r).1))∧Below W.heap.size W w'):=fun W hW=>Asn hW OK
 have HS:Hid (∀W,Aak W s E→Calls prog 79 #[(pZ s.sb 0)] W fun e w'=>e= .returned (.int .i64 ((Adg E true).length:Int))∧Below W.heap.size W w'):=fun W hW=>Aqj hW
 have HH:=Aaa (fun (W:World) (b:Below w.heap.size w W)=>h.below b)
 clear h
 generalize Aem E r=res at *
 generalize Aex E false r=kb at *
 obtain ⟨k,q⟩:=kb
 simp only at OK CA HI HE
 go_enter func55,ntmps55
 go_upto_region 1 with fail
 refine A9m (k:=k) (z:=q) (fun b1 W=>Aaz W b1 k∧Below w.heap.size w W) _ w _ rfl rfl rfl CA.out ?_
 intro b1 a' w1 hf ha
 subst ha
 simp only [Act.put,qsA,qsB,qsC]
 have HF:=Aaa hf
 clear hf CA
 cases q with
 |true =>
  have e:res=Aac E true k:=by rw [HE.out,if_pos rfl]
  clear HE
  subst e
  go_upto_region 3 with fail
  refine A9l (k:=k) (r:=Aac E true k) (fun W=>Below w1.heap.size w1 W) _ w1 _ rfl rfl rfl (fun W e=>by rw [e];exact Aah OK HF.out.1) (HI.out _ (HH.out _ HF.out.2)) ?_
  intro a' w2 hf ha
  subst ha
  simp only [Act.put,qsA,qsB,qsC]
  have B2:Hid (Below w.heap.size w w2):=HF.out.2.trans (hf.mono HF.out.2.size)
  clear hf
  go_wp2
  go_ret
  exact ⟨rfl,B2.out⟩
 |false =>
  have e:res=((Adg E true).length:Int):=by rw [HE.out,if_neg (by decide)]
  clear HE
  subst e
  go_wp2_with (first
   |(go_at_call 79;refine (HS.out _ (HH.out _ HF.out.2)).mono ?_;rintro e w2 ⟨rfl,hb⟩)
   |fail)
  go_ret
  exact ⟨rfl,HF.out.2.trans (hb.mono HF.out.2.size)⟩
end
theorem Av4 {s:Int} (h:0≤s∧s≤3) (W:World):(binOp .and 3 (.int .i64 s) (.int .i64 1)).run prog W= .ok (.int .i64 (if bF s=true then 1 else 0)) W:=by
 rcases (show s=0∨s=1∨s=2∨s=3 by omega) with rfl|rfl|rfl|rfl <;>kernel_rfl
theorem Av3 {s:Int} (h:0≤s∧s≤3) (W:World):(binOp .and 3 (.int .i64 s) (.int .i64 2)).run prog W= .ok (.int .i64 (if bT s=true then 2 else 0)) W:=by
 rcases (show s=0∨s=1∨s=2∨s=3 by omega) with rfl|rfl|rfl|rfl <;>kernel_rfl
section
variable {w:World} {s:Sx} {E:List Elt}
theorem Ajc (h:Aak w s E) {x:MkV} (hx:x.ok) (hs:0≤x.sd∧x.sd≤3) {b:Nat} (hb:RM.Bx w b x):Calls prog 81 #[(pZ b 0), (pZ s.sb 0)] w fun e w'=>e= .returned (.tuple #[.int .i64 (Abo E x).1, .int .i64 (Abo E x).2])∧Below w.heap.size w w':=by
 have HE:Hid (Abo E x=if (Acp E x.fr (bF x.sd) 0).2=true∧(Acp E x.to (bT x.sd) (E.length:Int)).2=true then ((Acp E x.fr (bF x.sd) 0).1,(Acp E x.to (bT x.sd) (E.length:Int)).1) else (0,0)):=rfl
 have hf:=h.few
 have C1:Hid (∀W,Aak W s E→Calls prog 102 #[(pZ s.sb 0),x.fr.v, .bool (bF x.sd), .int .i64 0] W fun e w'=>e= .returned (.tuple #[.int .i64 (Acp E x.fr (bF x.sd) 0).1, .bool (Acp E x.fr (bF x.sd) 0).2])∧Below W.heap.size W w'):=fun W hW=>An2 hW hx.fr _ (by omega)
 have C2:Hid (∀W,Aak W s E→Calls prog 102 #[(pZ s.sb 0),x.to.v, .bool (bT x.sd), .int .i64 (E.length:Int)] W fun e w'=>e= .returned (.tuple #[.int .i64 (Acp E x.to (bT x.sd) (E.length:Int)).1, .bool (Acp E x.to (bT x.sd) (E.length:Int)).2])∧Below W.heap.size W w'):=fun W hW=>An2 hW hx.to _ (by omega)
 have CL:Hid (∀W,Aak W s E→Calls prog 103 #[(pZ s.sb 0)] W fun e w'=>e= .returned (.int .i64 (E.length:Int))∧Below W.heap.size W w'):=fun W hW=>by
  have:=A26 hW
  rw [Ap3] at this
  exact this
 have HH:=Aaa (fun (W:World) (bl:Below w.heap.size w W)=>And.intro (h.below bl) (hb.below bl))
 have hxx:=Aaa hx
 have r1:decide ((if bF x.sd=true then (1:Int) else 0)≠0)=bF x.sd:=by cases bF x.sd <;>rfl
 have r2:decide ((if bT x.sd=true then (2:Int) else 0)≠0)=bT x.sd:=by cases bT x.sd <;>rfl
 obtain ⟨q1,hq1⟩:∃q,(if bF x.sd=true then (1:Int) else 0)=q:=⟨_,rfl⟩
 obtain ⟨q2,hq2⟩:∃q,(if bT x.sd=true then (2:Int) else 0)=q:=⟨_,rfl⟩
 rw [hq1] at r1
 rw [hq2] at r2
 have A1:Hid (∀W,(binOp .and 3 (.int .i64 x.sd) (.int .i64 1)).run prog W= .ok (.int .i64 q1) W):=fun W=>by rw [←hq1];exact Av4 hs W
 have A2:Hid (∀W,(binOp .and 3 (.int .i64 x.sd) (.int .i64 2)).run prog W= .ok (.int .i64 q2) W):=fun W=>by rw [←hq2];exact Av3 hs W
 have R1:=Aaa r1
 have R2:=Aaa r2
 clear h hb hf hx hs r1 r2 hq1 hq2
 generalize Abo E x=res at *
 generalize Acp E x.fr (bF x.sd) 0=e1 at *
 generalize Acp E x.to (bT x.sd) (E.length:Int)=e2 at *
 obtain ⟨f1,z1⟩:=e1
 obtain ⟨f2,z2⟩:=e2
 simp only at C1 C2 HE
 go_enter func81,ntmps81
 go_upto_region 1 with fail
 refine A9c (x:=x) (b:=b) (q:=q1) (f:=f1) (z:=z1) (r:=bF x.sd) (fun W=>Below w.heap.size w W) _ w _ rfl rfl rfl ((Below.refl _ _).drew) R1.out A1.out (fun W bl=>A2w hxx.out (HH.out W bl).2.rng) (fun W bl=>A2v hxx.out (HH.out W bl).2.rng) ((C1.out _ (HH.out _ (Below.refl _ _).drew).1).mono ?_) ?_
 ·rintro e w' ⟨rfl,bl⟩
  exact ⟨rfl,(Below.refl _ _).drew.trans (bl.mono (Below.refl w.heap.size w).drew.size)⟩
 intro a' w1 hf ha
 subst ha
 simp only [Act.put,qsA,qsB,qsC]
 have B1:=Aaa hf
 clear hf C1 R1
 go_upto_region 2 with fail
 refine A9b (x:=x) (b:=b) (q:=q2) (f:=f2) (n:=(E.length:Int)) (z:=z2) (r:=bT x.sd) (fun W=>Below w.heap.size w W) _ w1 _ rfl rfl rfl (B1.out.drew) R2.out A2.out (fun W bl=>A2u hxx.out (HH.out W bl).2.rng) (fun W bl=>A2v hxx.out (HH.out W bl).2.rng) ((CL.out _ (HH.out _ B1.out.drew).1).mono ?_) ?_
 ·rintro e w' ⟨rfl,bl⟩
  have b2:=B1.out.drew.trans (bl.mono B1.out.drew.size)
  refine ⟨rfl,b2,(C2.out _ (HH.out _ b2).1).mono ?_⟩
  rintro e w'' ⟨rfl,bl⟩
  exact ⟨rfl,b2.trans (bl.mono b2.size)⟩
 intro a' w2 hf ha
 subst ha
 simp only [Act.put,qsA,qsB,qsC]
 have B2:=Aaa hf
 clear hf C2 R2 CL HH B1 hxx A1 A2
 generalize bF x.sd=g1 at *
 generalize bT x.sd=g2 at *
 cases z1 with
 |false =>
  have e:res=(0,0):=by rw [HE.out,if_neg (fun q=>by cases q.1)]
  clear HE
  subst e
  go_wp2
  refine bodyPost_ret (results_tmp2 rfl _ _ _) rfl ?_
  exact ⟨rfl,B2.out⟩
 |true =>
  cases z2 with
  |false =>
   have e:res=(0,0):=by rw [HE.out,if_neg (fun q=>by cases q.2)]
   clear HE
   subst e
   go_wp2
   refine bodyPost_ret (results_tmp2 rfl _ _ _) rfl ?_
   exact ⟨rfl,B2.out⟩
  |true =>
   have e:res=(f1,f2):=by rw [HE.out,if_pos ⟨rfl,rfl⟩]
   clear HE
   subst e
   go_wp2
   refine bodyPost_ret (results_tmp2 rfl _ _ _) rfl ?_
   exact ⟨rfl,B2.out⟩
end
end
end Go.Proofs.YtifendlpeebofaaGreatDoor
