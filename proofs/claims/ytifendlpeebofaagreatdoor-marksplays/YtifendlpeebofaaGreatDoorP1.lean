import Derived.Test.YtifendlpeebofaaGreatDoorP0
import Derived.Test.YtifendlpeebofaaGreatDoorXea
import Derived.RangeFuncNested
import Derived.RangeFuncBound
import Derived.RangeFuncCalls
import Derived.RangeFuncLeaves
import Derived.RangeFuncFrom
import Derived.OwnWalkIn
import Derived.TacticsInMore
set_option linter.unusedSimpArgs false
set_option linter.unusedVariables false
set_option maxRecDepth 100000
set_option maxHeartbeats 4000000
namespace Go.Proofs.YtifendlpeebofaaGreatDoor
open Go.RowKit Sq
def RS (rb ro g cap i:Nat) (L:List Sp) (w':World):Prop:=(Instr.loadAt 73 (.pointer (some ⟨rb,ro+0,none⟩))).run Tryz.prog w'= .ok (.slice (some ⟨g,0,none⟩) L.length cap) w'∧(Instr.loadAt 3 (.pointer (some ⟨g,73*i+68,none⟩))).run Tryz.prog w'= .ok (.int .i64 ((gt L i).up:Int)) w'
def TS (rb ro g cap i:Nat) (c:Bool) (L:List Sp) (w':World):Prop:=(Instr.loadAt 73 (.pointer (some ⟨rb,ro+0,none⟩))).run Tryz.prog w'= .ok (.slice (some ⟨g,0,none⟩) L.length cap) w'∧(Instr.loadAt 3 (.pointer (some ⟨g,73*i+69+nb true,none⟩))).run Tryz.prog w'= .ok (.int .i64 (dn (gt L i) true:Int)) w'∧(Instr.loadAt 3 (.pointer (some ⟨g,73*(dn (gt L i) true)+71+nb c,none⟩))).run Tryz.prog w'= .ok (.int .i64 (ct (gt L (dn (gt L i) true)) c:Int)) w'
def weight1_ops:Array Oper:=(⟨_,rfl⟩:{o // some o=rgB Tryz.f124 1}).1
theorem weight1 {rb ro g cap:Nat} {L:List Sp} {i:Nat} (a:Act) (w:World) (Q:Exit→Act→World→Prop) (zz:a.tmps.size=15)
 (t0:a.tmps.getD 0 undef= .pointer (some ⟨rb,ro,none⟩))
 (t1:a.tmps.getD 1 undef= .int .i64 (i:Int))
 (hR:SqAt w rb ro g cap L) (hi:i<L.length) (hs:ct (gt L i) false+1≤9223372036854775807)
 (h:∀a' w',w'=w→a'=((((((((((a.put (some 5) (.pointer (some ⟨rb,ro,none⟩))).put (some 6) (.pointer (some ⟨rb,ro,none⟩))).put (some 7) (.pointer (some ⟨rb,ro+0,none⟩))).put (some 8) (.slice (some ⟨g,0,none⟩) (L).length cap)).put (some 9) (.int .i64 (i:Int))).put (some 10) (.pointer (some ⟨g,73*i,none⟩))).put (some 11) (.pointer (some ⟨g,73*i+71,none⟩))).put (some 12) (.pointer (some ⟨g,73*i+71+nb false,none⟩))).put (some 13) (.int .i64 (ct (gt L i) false:Int))).put (some 14) (.int .i64 ((ct (gt L i) false+1:Nat):Int))).put (some 4) (.int .i64 ((ct (gt L i) false+1:Nat):Int))→Q .normal a' w') :
 (Code.region 1 weight1_ops false).wp Tryz.prog Q a w:=by
 refine z0 rfl ?_
 refine zv rfl (xmv rfl (zi t0 rfl)) ?_
 refine zv rfl (xnc rfl (zg zz rfl)) ?_
 refine zv rfl (xfa rfl (zg zz rfl) (fg_75_0 _ _ _)) ?_
 refine zv rfl (xld rfl (zg zz rfl) (R_sl hR)) ?_
 refine zv rfl (xmv rfl (zi t1 rfl)) ?_
 refine zv rfl (xia rfl (zg zz rfl) (zg zz rfl) (R_ix hi hR.len _)) ?_
 refine zv rfl (xfa rfl (zg zz rfl) (fg_128_4 _ _ _)) ?_
 refine zv rfl (xia rfl (zg zz rfl) rfl (ix_a0 _ _)) ?_
 refine zv rfl (xld rfl (zg zz rfl) (R_ct hR hi false)) ?_
 refine zv (v:= .int .i64 ((ct (gt L i) false+1:Nat):Int)) rfl (ex_addN (q:=1) rfl (zg zz rfl) rfl hs) ?_
 refine zv rfl (xas rfl (zg zz rfl)) ?_
 exact ze rfl (h _ _ (rfl) rfl)
def under1_ops:Array Oper:=(⟨_,rfl⟩:{o // some o=rgB Tryz.f126 1}).1
theorem under1 {rb ro g cap:Nat} {L:List Sp} {i:Nat} {b c:Bool} (a:Act) (w:World) (Q:Exit→Act→World→Prop) (zz:a.tmps.size=28)
 (t0:a.tmps.getD 0 undef= .pointer (some ⟨rb,ro,none⟩))
 (t1:a.tmps.getD 1 undef= .int .i64 (i:Int))
 (t2:a.tmps.getD 2 undef= .int .i64 (nb b:Int))
 (t3:a.tmps.getD 3 undef= .int .i64 (nb c:Int))
 (hR:SqAt w rb ro g cap L) (hi:i<L.length) (hd:dn (gt L i) b<L.length)
 (h:∀a' w',w'=w.drew→a'=(((((((((((((((((((a.put (some 9) (.pointer (some ⟨rb,ro,none⟩))).put (some 10) (.pointer (some ⟨rb,ro,none⟩))).put (some 11) (.pointer (some ⟨rb,ro+0,none⟩))).put (some 12) (.slice (some ⟨g,0,none⟩) (L).length cap)).put (some 13) (.pointer (some ⟨rb,ro,none⟩))).put (some 14) (.pointer (some ⟨rb,ro,none⟩))).put (some 15) (.pointer (some ⟨rb,ro+0,none⟩))).put (some 16) (.slice (some ⟨g,0,none⟩) (L).length cap)).put (some 17) (.int .i64 (i:Int))).put (some 18) (.int .i64 (nb b:Int))).put (some 19) (.pointer (some ⟨g,73*i,none⟩))).put (some 20) (.pointer (some ⟨g,73*i+69,none⟩))).put (some 21) (.pointer (some ⟨g,73*i+69+nb b,none⟩))).put (some 22) (.int .i64 (dn (gt L i) b:Int))).put (some 23) (.int .i64 (nb c:Int))).put (some 24) (.pointer (some ⟨g,73*(dn (gt L i) b),none⟩))).put (some 25) (.pointer (some ⟨g,73*(dn (gt L i) b)+71,none⟩))).put (some 26) (.pointer (some ⟨g,73*(dn (gt L i) b)+71+nb c,none⟩))).put (some 27) (.int .i64 (ct (gt L (dn (gt L i) b)) c:Int))).put (some 8) (.int .i64 (ct (gt L (dn (gt L i) b)) c:Int))→Q .normal a' w') :
 (Code.region 1 under1_ops true).wp Tryz.prog Q a w:=by
 refine y0 (fun w'=>w'=w.drew) (rfl) (fun hHeld=> ?_)
 refine yv 0 rfl rfl (fun w1 hw=>xmv rfl (zi t0 rfl)) hHeld ?_
 refine yv 1 rfl rfl (fun w1 hw=>xnc rfl (zg zz rfl)) hHeld ?_
 refine yv 2 rfl rfl (fun w1 hw=>xfa rfl (zg zz rfl) (fg_75_0 _ _ _)) hHeld ?_
 refine yv 3 rfl rfl (fun w1 hw=>xld rfl (zg zz rfl) (R_sl (hw▸hR.drew))) hHeld ?_
 refine yv 4 rfl rfl (fun w1 hw=>xmv rfl (zi t0 rfl)) hHeld ?_
 refine yv 5 rfl rfl (fun w1 hw=>xnc rfl (zg zz rfl)) hHeld ?_
 refine yv 6 rfl rfl (fun w1 hw=>xfa rfl (zg zz rfl) (fg_75_0 _ _ _)) hHeld ?_
 refine yv 7 rfl rfl (fun w1 hw=>xld rfl (zg zz rfl) (R_sl (hw▸hR.drew))) hHeld ?_
 refine yv 8 rfl rfl (fun w1 hw=>xmv rfl (zi t1 rfl)) hHeld ?_
 refine yv 9 rfl rfl (fun w1 hw=>xmv rfl (zi t2 rfl)) hHeld ?_
 refine yv 10 rfl rfl (fun w1 hw=>xia rfl (zg zz rfl) (zg zz rfl) (R_ix hi hR.len _)) hHeld ?_
 refine yv 11 rfl rfl (fun w1 hw=>xfa rfl (zg zz rfl) (fg_128_3 _ _ _)) hHeld ?_
 refine yv 12 rfl rfl (fun w1 hw=>xia rfl (zg zz rfl) (zg zz rfl) (ix_ar _ b _)) hHeld ?_
 refine yv 13 rfl rfl (fun w1 hw=>xld rfl (zg zz rfl) (R_dn (hw▸hR.drew) hi b)) hHeld ?_
 refine yv 14 rfl rfl (fun w1 hw=>xmv rfl (zi t3 rfl)) hHeld ?_
 refine yv 15 rfl rfl (fun w1 hw=>xia rfl (zg zz rfl) (zg zz rfl) (R_ix hd hR.len _)) hHeld ?_
 refine yv 16 rfl rfl (fun w1 hw=>xfa rfl (zg zz rfl) (fg_128_4 _ _ _)) hHeld ?_
 refine yv 17 rfl rfl (fun w1 hw=>xia rfl (zg zz rfl) (zg zz rfl) (ix_ar _ c _)) hHeld ?_
 refine yv 18 rfl rfl (fun w1 hw=>xld rfl (zg zz rfl) (R_ct (hw▸hR.drew) hd c)) hHeld ?_
 refine yv 19 rfl rfl (fun w1 hw=>xas rfl (zg zz rfl)) hHeld ?_
 exact ye rfl (h _ _ (hHeld) rfl)
def own1a_ops:Array Oper:=(⟨_,rfl⟩:{o // some o=rgB Tryz.f149 1}).1
theorem own1a {rb ro i:Nat} {c:Bool} (a:Act) (w:World) (Q:Exit→Act→World→Prop) (zz:a.tmps.size=19)
 (t0:a.tmps.getD 0 undef= .pointer (some ⟨rb,ro,none⟩))
 (t1:a.tmps.getD 1 undef= .int .i64 (i:Int))
 (t2:a.tmps.getD 2 undef= .int .i64 (nb c:Int))
 (hc:decide ((nb c:Int)=0)=true)
 (h:∀a' w',w'=w→a'=(((((((((((a.put (some 7) (.int .i64 (nb c:Int))).put (some 8) (.bool true)).put (some 9) (.bool true)).put (some 10) (undef)).put (some 11) (undef)).put (some 12) (undef)).put (some 13) (undef)).put (some 14) (undef)).put (some 15) (undef)).put (some 16) (undef)).put (some 17) (undef)).put (some 18) (.bool true)→Q .normal a' w') :
 (Code.region 1 own1a_ops false).wp Tryz.prog Q a w:=by
 refine z0 rfl ?_
 refine zv rfl (xmv rfl (zi t2 rfl)) ?_
 refine zv (v:= .bool true) rfl (ex_eql rfl (zg zz rfl) rfl hc) ?_
 refine zv rfl (xmv rfl (zg zz rfl)) ?_
 iterate 8 refine zn (zx zz rfl rfl rfl (zg zz rfl)) ?_
 refine zv rfl (exec_pickT rfl (zg zz rfl) rfl) ?_
 exact ze rfl (h _ _ (rfl) rfl)
theorem own1b {rb ro g cap:Nat} {L:List Sp} {i:Nat} {c:Bool} (a:Act) (w:World) (Q:Exit→Act→World→Prop) (zz:a.tmps.size=19)
 (t0:a.tmps.getD 0 undef= .pointer (some ⟨rb,ro,none⟩))
 (t1:a.tmps.getD 1 undef= .int .i64 (i:Int))
 (t2:a.tmps.getD 2 undef= .int .i64 (nb c:Int))
 (hR:SqAt w rb ro g cap L) (hi:i<L.length) (hc:decide ((nb c:Int)=0)=false)
 (h:∀a' w',w'=w→a'=(((((((((((a.put (some 7) (.int .i64 (nb c:Int))).put (some 8) (.bool false)).put (some 9) (.bool false)).put (some 10) (.pointer (some ⟨rb,ro,none⟩))).put (some 11) (.pointer (some ⟨rb,ro,none⟩))).put (some 12) (.pointer (some ⟨rb,ro+0,none⟩))).put (some 13) (.slice (some ⟨g,0,none⟩) (L).length cap)).put (some 14) (.int .i64 (i:Int))).put (some 15) (.pointer (some ⟨g,73*i,none⟩))).put (some 16) (.pointer (some ⟨g,73*i+67,none⟩))).put (some 17) (.bool (gt L i).sh)).put (some 18) (.bool (gt L i).sh)→Q .normal a' w') :
 (Code.region 1 own1a_ops false).wp Tryz.prog Q a w:=by
 refine z0 rfl ?_
 refine zv rfl (xmv rfl (zi t2 rfl)) ?_
 refine zv (v:= .bool false) rfl (ex_eql rfl (zg zz rfl) rfl hc) ?_
 refine zv rfl (xmv rfl (zg zz rfl)) ?_
 refine zv (zw zz rfl rfl rfl (zg zz rfl)) (xmv rfl (zi t0 rfl)) ?_
 refine zv (zw zz rfl rfl rfl (zg zz rfl)) (xnc rfl (zg zz rfl)) ?_
 refine zv (zw zz rfl rfl rfl (zg zz rfl)) (xfa rfl (zg zz rfl) (fg_75_0 _ _ _)) ?_
 refine zv (zw zz rfl rfl rfl (zg zz rfl)) (xld rfl (zg zz rfl) (R_sl hR)) ?_
 refine zv (zw zz rfl rfl rfl (zg zz rfl)) (xmv rfl (zi t1 rfl)) ?_
 refine zv (zw zz rfl rfl rfl (zg zz rfl)) (xia rfl (zg zz rfl) (zg zz rfl) (R_ix hi hR.len _)) ?_
 refine zv (zw zz rfl rfl rfl (zg zz rfl)) (xfa rfl (zg zz rfl) (fg_128_1 _ _ _)) ?_
 refine zv (zw zz rfl rfl rfl (zg zz rfl)) (xld rfl (zg zz rfl) (R_sh hR hi)) ?_
 refine zv rfl (exec_pickF rfl (zg zz rfl) (zg zz rfl)) ?_
 exact ze rfl (h _ _ (rfl) rfl)
def upTo1_ops:Array Oper:=(⟨_,rfl⟩:{o // some o=rgB Tryz.f123 1}).1
theorem upTo1 {rb ro i u o:Nat} {c:Bool} (a:Act) (w:World) (Q:Exit→Act→World→Prop) (zz:a.tmps.size=16)
 (t0:a.tmps.getD 0 undef= .pointer (some ⟨rb,ro,none⟩))
 (t1:a.tmps.getD 1 undef= .int .i64 (i:Int))
 (t2:a.tmps.getD 2 undef= .int .i64 (nb c:Int))
 (CU:Calls Tryz.prog 126 #[.pointer (some ⟨rb,ro,none⟩), .int .i64 (i:Int), .int .i64 0, .int .i64 (nb c:Int)] w fun e w'=>e= .returned (.int .i64 (u:Int))∧Qt w w'∧Calls Tryz.prog 149 #[.pointer (some ⟨rb,ro,none⟩), .int .i64 (i:Int), .int .i64 (nb c:Int)] w' fun e2 w2=>e2= .returned (.int .i64 (o:Int))∧Qt w' w2) (hs:u+o≤9223372036854775807)
 (h:∀a' w',Qt w w'→a'=(((((((((a.put (some 7) (.pointer (some ⟨rb,ro,none⟩))).put (some 8) (.int .i64 (i:Int))).put (some 9) (.int .i64 (nb c:Int))).put (some 10) (.int .i64 (u:Int))).put (some 11) (.pointer (some ⟨rb,ro,none⟩))).put (some 12) (.int .i64 (i:Int))).put (some 13) (.int .i64 (nb c:Int))).put (some 14) (.int .i64 (o:Int))).put (some 15) (.int .i64 ((u+o:Nat):Int))).put (some 6) (.int .i64 ((u+o:Nat):Int))→Q .normal a' w') :
 (Code.region 1 upTo1_ops false).wp Tryz.prog Q a w:=by
 refine z0 rfl ?_
 refine zv rfl (xmv rfl (zi t0 rfl)) ?_
 refine zv rfl (xmv rfl (zi t1 rfl)) ?_
 refine zv rfl (xmv rfl (zi t2 rfl)) ?_
 refine zc rfl (exec_c4 rfl (zg zz rfl) (zg zz rfl) rfl (zg zz rfl)) (CU) (fun e x3 hx=> ?_)
 obtain ⟨rfl,q1,CO⟩:=hx
 refine ⟨_,rfl, ?_⟩
 refine zv rfl (xmv rfl (zi t0 rfl)) ?_
 refine zv rfl (xmv rfl (zi t1 rfl)) ?_
 refine zv rfl (xmv rfl (zi t2 rfl)) ?_
 refine zc rfl (exec_c3 rfl (zg zz rfl) (zg zz rfl) (zg zz rfl)) (CO) (fun e x7 hx=> ?_)
 obtain ⟨rfl,q2⟩:=hx
 refine ⟨_,rfl, ?_⟩
 refine zv (v:= .int .i64 ((u+o:Nat):Int)) rfl (ex_addN rfl (zg zz rfl) (zg zz rfl) hs) ?_
 refine zv rfl (xas rfl (zg zz rfl)) ?_
 exact ze rfl (h _ _ (q1.trans q2) rfl)
def side1_ops:Array Oper:=(⟨_,rfl⟩:{o // some o=rgB Tryz.f127 1}).1
theorem side1 {rb ro g cap:Nat} {L:List Sp} {i:Nat} {r:Bool} (a:Act) (w:World) (Q:Exit→Act→World→Prop) (zz:a.tmps.size=23)
 (t0:a.tmps.getD 0 undef= .pointer (some ⟨rb,ro,none⟩))
 (t1:a.tmps.getD 1 undef= .int .i64 (i:Int))
 (hR:SqAt w rb ro g cap L) (hi:i<L.length) (hu:(gt L i).up<L.length) (hr:decide ((dn (gt L (gt L i).up) false:Int)=(i:Int))=r)
 (h:∀a' w',w'=w.drew→a'=(((((((((((((((((a.put (some 5) (.pointer (some ⟨rb,ro,none⟩))).put (some 6) (.pointer (some ⟨rb,ro,none⟩))).put (some 7) (.pointer (some ⟨rb,ro+0,none⟩))).put (some 8) (.slice (some ⟨g,0,none⟩) (L).length cap)).put (some 9) (.pointer (some ⟨rb,ro,none⟩))).put (some 10) (.pointer (some ⟨rb,ro,none⟩))).put (some 11) (.pointer (some ⟨rb,ro+0,none⟩))).put (some 12) (.slice (some ⟨g,0,none⟩) (L).length cap)).put (some 13) (.int .i64 (i:Int))).put (some 14) (.pointer (some ⟨g,73*i,none⟩))).put (some 15) (.pointer (some ⟨g,73*i+68,none⟩))).put (some 16) (.int .i64 ((gt L i).up:Int))).put (some 17) (.pointer (some ⟨g,73*((gt L i).up),none⟩))).put (some 18) (.pointer (some ⟨g,73*((gt L i).up)+69,none⟩))).put (some 19) (.pointer (some ⟨g,73*((gt L i).up)+69+nb false,none⟩))).put (some 20) (.int .i64 (dn (gt L ((gt L i).up)) false:Int))).put (some 21) (.int .i64 (i:Int))).put (some 22) (.bool r)→Q .normal a' w') :
 (Code.region 1 side1_ops true).wp Tryz.prog Q a w:=by
 refine y0 (fun w'=>w'=w.drew) (rfl) (fun hHeld=> ?_)
 refine yv 0 rfl rfl (fun w1 hw=>xmv rfl (zi t0 rfl)) hHeld ?_
 refine yv 1 rfl rfl (fun w1 hw=>xnc rfl (zg zz rfl)) hHeld ?_
 refine yv 2 rfl rfl (fun w1 hw=>xfa rfl (zg zz rfl) (fg_75_0 _ _ _)) hHeld ?_
 refine yv 3 rfl rfl (fun w1 hw=>xld rfl (zg zz rfl) (R_sl (hw▸hR.drew))) hHeld ?_
 refine yv 4 rfl rfl (fun w1 hw=>xmv rfl (zi t0 rfl)) hHeld ?_
 refine yv 5 rfl rfl (fun w1 hw=>xnc rfl (zg zz rfl)) hHeld ?_
 refine yv 6 rfl rfl (fun w1 hw=>xfa rfl (zg zz rfl) (fg_75_0 _ _ _)) hHeld ?_
 refine yv 7 rfl rfl (fun w1 hw=>xld rfl (zg zz rfl) (R_sl (hw▸hR.drew))) hHeld ?_
 refine yv 8 rfl rfl (fun w1 hw=>xmv rfl (zi t1 rfl)) hHeld ?_
 refine yv 9 rfl rfl (fun w1 hw=>xia rfl (zg zz rfl) (zg zz rfl) (R_ix hi hR.len _)) hHeld ?_
 refine yv 10 rfl rfl (fun w1 hw=>xfa rfl (zg zz rfl) (fg_128_2 _ _ _)) hHeld ?_
 refine yv 11 rfl rfl (fun w1 hw=>xld rfl (zg zz rfl) (R_up (hw▸hR.drew) hi)) hHeld ?_
 refine yv 12 rfl rfl (fun w1 hw=>xia rfl (zg zz rfl) (zg zz rfl) (R_ix hu hR.len _)) hHeld ?_
 refine yv 13 rfl rfl (fun w1 hw=>xfa rfl (zg zz rfl) (fg_128_3 _ _ _)) hHeld ?_
 refine yv 14 rfl rfl (fun w1 hw=>xia rfl (zg zz rfl) rfl (ix_a0 _ _)) hHeld ?_
 refine yv 15 rfl rfl (fun w1 hw=>xld rfl (zg zz rfl) (R_dn (hw▸hR.drew) hu false)) hHeld ?_
 refine yv 16 rfl rfl (fun w1 hw=>xmv rfl (zi t1 rfl)) hHeld ?_
 refine yv (v:= .bool r) 17 rfl rfl (fun w1 hw=>ex_eql rfl (zg zz rfl) (zg zz rfl) hr) hHeld ?_
 exact ye rfl (h _ _ (hHeld) rfl)
def hang0_ops:Array Oper:=(⟨_,rfl⟩:{o // some o=rgB Tryz.f72 0}).1
theorem hang0 {rb ro g cap:Nat} {L:List Sp} {u p:Nat} {b:Bool} {w2:World} (a:Act) (w:World) (Q:Exit→Act→World→Prop) (zz:a.tmps.size=28)
 (t0:a.tmps.getD 0 undef= .pointer (some ⟨rb,ro,none⟩))
 (t1:a.tmps.getD 1 undef= .int .i64 (u:Int))
 (t2:a.tmps.getD 2 undef= .int .i64 (nb b:Int))
 (t3:a.tmps.getD 3 undef= .int .i64 (p:Int))
 (hR:SqAt w rb ro g cap L) (hu:u<L.length) (ES:(Instr.storeAt 3 (.pointer (some ⟨g,73*u+69+nb b,none⟩)) (.int .i64 (p:Int))).run Tryz.prog w= .ok () w2)
 (h:∀a' w',w'=w2→a'=(((((((((a.put (some 8) (.pointer (some ⟨rb,ro,none⟩))).put (some 9) (.pointer (some ⟨rb,ro,none⟩))).put (some 10) (.pointer (some ⟨rb,ro+0,none⟩))).put (some 11) (.slice (some ⟨g,0,none⟩) (L).length cap)).put (some 12) (.int .i64 (u:Int))).put (some 13) (.int .i64 (nb b:Int))).put (some 14) (.int .i64 (p:Int))).put (some 15) (.pointer (some ⟨g,73*u,none⟩))).put (some 16) (.pointer (some ⟨g,73*u+69,none⟩))).put (some 17) (.pointer (some ⟨g,73*u+69+nb b,none⟩))→Q .normal a' w') :
 (Code.region 0 hang0_ops false).wp Tryz.prog Q a w:=by
 refine z0 rfl ?_
 refine zv rfl (xmv rfl (zi t0 rfl)) ?_
 refine zv rfl (xnc rfl (zg zz rfl)) ?_
 refine zv rfl (xfa rfl (zg zz rfl) (fg_75_0 _ _ _)) ?_
 refine zv rfl (xld rfl (zg zz rfl) (R_sl hR)) ?_
 refine zv rfl (xmv rfl (zi t1 rfl)) ?_
 refine zv rfl (xmv rfl (zi t2 rfl)) ?_
 refine zv rfl (xmv rfl (zi t3 rfl)) ?_
 refine zv rfl (xia rfl (zg zz rfl) (zg zz rfl) (R_ix hu hR.len _)) ?_
 refine zv rfl (xfa rfl (zg zz rfl) (fg_128_3 _ _ _)) ?_
 refine zv rfl (xia rfl (zg zz rfl) (zg zz rfl) (ix_ar _ b _)) ?_
 refine zs rfl (exec_store rfl (zg zz rfl) (zg zz rfl) ES) ?_
 exact ze rfl (h _ _ (rfl) rfl)
def hang2_ops:Array Oper:=(⟨_,rfl⟩:{o // some o=rgB Tryz.f72 2}).1
theorem hang2 {rb ro g cap:Nat} {L:List Sp} {u p:Nat} {w2:World} (a:Act) (w:World) (Q:Exit→Act→World→Prop) (zz:a.tmps.size=28)
 (t0:a.tmps.getD 0 undef= .pointer (some ⟨rb,ro,none⟩))
 (t1:a.tmps.getD 1 undef= .int .i64 (u:Int))
 (t3:a.tmps.getD 3 undef= .int .i64 (p:Int))
 (hR:SqAt w rb ro g cap L) (hp:p<L.length) (ES:(Instr.storeAt 3 (.pointer (some ⟨g,73*p+68,none⟩)) (.int .i64 (u:Int))).run Tryz.prog w= .ok () w2)
 (h:∀a' w',w'=w2→a'=(((((((a.put (some 20) (.pointer (some ⟨rb,ro,none⟩))).put (some 21) (.pointer (some ⟨rb,ro,none⟩))).put (some 22) (.pointer (some ⟨rb,ro+0,none⟩))).put (some 23) (.slice (some ⟨g,0,none⟩) (L).length cap)).put (some 24) (.int .i64 (p:Int))).put (some 25) (.int .i64 (u:Int))).put (some 26) (.pointer (some ⟨g,73*p,none⟩))).put (some 27) (.pointer (some ⟨g,73*p+68,none⟩))→Q .normal a' w') :
 (Code.region 2 hang2_ops false).wp Tryz.prog Q a w:=by
 refine z0 rfl ?_
 refine zv rfl (xmv rfl (zi t0 rfl)) ?_
 refine zv rfl (xnc rfl (zg zz rfl)) ?_
 refine zv rfl (xfa rfl (zg zz rfl) (fg_75_0 _ _ _)) ?_
 refine zv rfl (xld rfl (zg zz rfl) (R_sl hR)) ?_
 refine zv rfl (xmv rfl (zi t3 rfl)) ?_
 refine zv rfl (xmv rfl (zi t1 rfl)) ?_
 refine zv rfl (xia rfl (zg zz rfl) (zg zz rfl) (R_ix hp hR.len _)) ?_
 refine zv rfl (xfa rfl (zg zz rfl) (fg_128_2 _ _ _)) ?_
 refine zs rfl (exec_store rfl (zg zz rfl) (zg zz rfl) ES) ?_
 exact ze rfl (h _ _ (rfl) rfl)
def first1_ops:Array Oper:=(⟨_,rfl⟩:{o // some o=rgB Tryz.f73 1}).1
theorem first1 {rb ro g cap:Nat} {L:List Sp} {i:Nat} {r:Bool} (a:Act) (w:World) (Q:Exit→Act→World→Prop) (zz:a.tmps.size=25)
 (t0:a.tmps.getD 0 undef= .pointer (some ⟨rb,ro,none⟩))
 (t1:a.tmps.getD 1 undef= .int .i64 (i:Int))
 (hR:SqAt w rb ro g cap L) (hi:i<L.length) (hr:decide ((dn (gt L i) false:Int)≠0)=r)
 (h:∀a' w',w'=w→a'=(((((((((a.put (some 5) (.pointer (some ⟨rb,ro,none⟩))).put (some 6) (.pointer (some ⟨rb,ro,none⟩))).put (some 7) (.pointer (some ⟨rb,ro+0,none⟩))).put (some 8) (.slice (some ⟨g,0,none⟩) (L).length cap)).put (some 9) (.int .i64 (i:Int))).put (some 10) (.pointer (some ⟨g,73*i,none⟩))).put (some 11) (.pointer (some ⟨g,73*i+69,none⟩))).put (some 12) (.pointer (some ⟨g,73*i+69+nb false,none⟩))).put (some 13) (.int .i64 (dn (gt L i) false:Int))).put (some 14) (.bool r)→Q .normal a' w') :
 (Code.region 1 first1_ops false).wp Tryz.prog Q a w:=by
 refine z0 rfl ?_
 refine zv rfl (xmv rfl (zi t0 rfl)) ?_
 refine zv rfl (xnc rfl (zg zz rfl)) ?_
 refine zv rfl (xfa rfl (zg zz rfl) (fg_75_0 _ _ _)) ?_
 refine zv rfl (xld rfl (zg zz rfl) (R_sl hR)) ?_
 refine zv rfl (xmv rfl (zi t1 rfl)) ?_
 refine zv rfl (xia rfl (zg zz rfl) (zg zz rfl) (R_ix hi hR.len _)) ?_
 refine zv rfl (xfa rfl (zg zz rfl) (fg_128_3 _ _ _)) ?_
 refine zv rfl (xia rfl (zg zz rfl) rfl (ix_a0 _ _)) ?_
 refine zv rfl (xld rfl (zg zz rfl) (R_dn hR hi false)) ?_
 refine zv (v:= .bool r) rfl (ex_neq rfl (zg zz rfl) rfl hr) ?_
 exact ze rfl (h _ _ (rfl) rfl)
def first2_ops:Array Oper:=(⟨_,rfl⟩:{o // some o=rgB Tryz.f73 2}).1
theorem first2 {rb ro g cap:Nat} {L:List Sp} {i:Nat} (a:Act) (w:World) (Q:Exit→Act→World→Prop) (zz:a.tmps.size=25)
 (t0:a.tmps.getD 0 undef= .pointer (some ⟨rb,ro,none⟩))
 (t1:a.tmps.getD 1 undef= .int .i64 (i:Int))
 (hR:SqAt w rb ro g cap L) (hi:i<L.length)
 (h:∀a' w',w'=w→a'=(((((((((a.put (some 15) (.pointer (some ⟨rb,ro,none⟩))).put (some 16) (.pointer (some ⟨rb,ro,none⟩))).put (some 17) (.pointer (some ⟨rb,ro+0,none⟩))).put (some 18) (.slice (some ⟨g,0,none⟩) (L).length cap)).put (some 19) (.int .i64 (i:Int))).put (some 20) (.pointer (some ⟨g,73*i,none⟩))).put (some 21) (.pointer (some ⟨g,73*i+69,none⟩))).put (some 22) (.pointer (some ⟨g,73*i+69+nb false,none⟩))).put (some 23) (.int .i64 (dn (gt L i) false:Int))).put (some 1) (.int .i64 (dn (gt L i) false:Int))→Q .normal a' w') :
 (Code.region 2 first2_ops false).wp Tryz.prog Q a w:=by
 refine z0 rfl ?_
 refine zv rfl (xmv rfl (zi t0 rfl)) ?_
 refine zv rfl (xnc rfl (zg zz rfl)) ?_
 refine zv rfl (xfa rfl (zg zz rfl) (fg_75_0 _ _ _)) ?_
 refine zv rfl (xld rfl (zg zz rfl) (R_sl hR)) ?_
 refine zv rfl (xmv rfl (zi t1 rfl)) ?_
 refine zv rfl (xia rfl (zg zz rfl) (zg zz rfl) (R_ix hi hR.len _)) ?_
 refine zv rfl (xfa rfl (zg zz rfl) (fg_128_3 _ _ _)) ?_
 refine zv rfl (xia rfl (zg zz rfl) rfl (ix_a0 _ _)) ?_
 refine zv rfl (xld rfl (zg zz rfl) (R_dn hR hi false)) ?_
 refine zv rfl (xas rfl (zg zz rfl)) ?_
 exact ze rfl (h _ _ (rfl) rfl)
def replace0_ops:Array Oper:=(⟨_,rfl⟩:{o // some o=rgB Tryz.f152 0}).1
theorem replace0 {rb ro g cap:Nat} {L:List Sp} {i p:Nat} {s:Bool} (Fin:World→Prop) (a:Act) (w:World) (Q:Exit→Act→World→Prop) (zz:a.tmps.size=20)
 (t0:a.tmps.getD 0 undef= .pointer (some ⟨rb,ro,none⟩))
 (t1:a.tmps.getD 1 undef= .int .i64 (i:Int))
 (t2:a.tmps.getD 2 undef= .int .i64 (p:Int))
 (hi:i<L.length) (hl:L.length≤1400000000000) (h0:RS rb ro g cap i L w.drew) (CS:Calls Tryz.prog 127 #[.pointer (some ⟨rb,ro,none⟩), .int .i64 (i:Int)] w.drew fun e w'=>e= .returned (.int .i64 (nb s:Int))∧RS rb ro g cap i L w'∧Calls Tryz.prog 72 #[.pointer (some ⟨rb,ro,none⟩), .int .i64 ((gt L i).up:Int), .int .i64 (nb s:Int), .int .i64 (p:Int)] w' fun e2 w2=>e2= .returned (.tuple #[])∧RS rb ro g cap i L w2∧Fin w2)
 (h:∀a' w',Fin w'→a'=(((((((((((((a.put (some 6) (.pointer (some ⟨rb,ro,none⟩))).put (some 7) (.pointer (some ⟨rb,ro,none⟩))).put (some 8) (.pointer (some ⟨rb,ro,none⟩))).put (some 9) (.pointer (some ⟨rb,ro+0,none⟩))).put (some 10) (.slice (some ⟨g,0,none⟩) L.length cap)).put (some 11) (.int .i64 (i:Int))).put (some 12) (.pointer (some ⟨g,73*i,none⟩))).put (some 13) (.pointer (some ⟨g,73*i+68,none⟩))).put (some 14) (.int .i64 ((gt L i).up:Int))).put (some 15) (.pointer (some ⟨rb,ro,none⟩))).put (some 16) (.int .i64 (i:Int))).put (some 18) (.int .i64 (p:Int))).put (some 17) (.int .i64 (nb s:Int))).put (some 19) (.tuple #[])→Q .normal a' w') :
 (Code.region 0 replace0_ops true).wp Tryz.prog Q a w:=by
 refine y0 (fun w'=>(Instr.loadAt 73 (.pointer (some ⟨rb,ro+0,none⟩))).run Tryz.prog w'= .ok (.slice (some ⟨g,0,none⟩) L.length cap) w'∧(Instr.loadAt 3 (.pointer (some ⟨g,73*i+68,none⟩))).run Tryz.prog w'= .ok (.int .i64 ((gt L i).up:Int)) w') (h0) (fun hHeld=> ?_)
 refine yv 0 rfl rfl (fun w1 hw=>xmv rfl (zi t0 rfl)) hHeld ?_
 refine yv 1 rfl rfl (fun w1 hw=>xmv rfl (zi t0 rfl)) hHeld ?_
 refine yv 2 rfl rfl (fun w1 hw=>xnc rfl (zg zz rfl)) hHeld ?_
 refine yv 3 rfl rfl (fun w1 hw=>xfa rfl (zg zz rfl) (fg_75_0 _ _ _)) hHeld ?_
 refine yv 4 rfl rfl (fun w1 hw=>xld rfl (zg zz rfl) hw.1) hHeld ?_
 refine yv 5 rfl rfl (fun w1 hw=>xmv rfl (zi t1 rfl)) hHeld ?_
 refine yv 6 rfl rfl (fun w1 hw=>xia rfl (zg zz rfl) (zg zz rfl) (R_ix hi hl _)) hHeld ?_
 refine yv 7 rfl rfl (fun w1 hw=>xfa rfl (zg zz rfl) (fg_128_2 _ _ _)) hHeld ?_
 refine yv 8 rfl rfl (fun w1 hw=>xld rfl (zg zz rfl) hw.2) hHeld ?_
 refine yv 9 rfl rfl (fun w1 hw=>xmv rfl (zi t0 rfl)) hHeld ?_
 refine yv 10 rfl rfl (fun w1 hw=>xmv rfl (zi t1 rfl)) hHeld ?_
 refine yv 12 rfl rfl (fun w1 hw=>xmv rfl (zi t2 rfl)) hHeld ?_
 refine yc 11 rfl rfl (exec_c2 rfl (zg zz rfl) (zg zz rfl)) (CS) (fun e x11 hx=> ?_)
 obtain ⟨rfl,S1,CH⟩:=hx
 refine ⟨_,rfl,S1,fun hHeld=> ?_⟩
 refine yc 13 rfl rfl (exec_c4 rfl (zg zz rfl) (zg zz rfl) (zg zz rfl) (zg zz rfl)) (CH) (fun e x13 hx=> ?_)
 obtain ⟨rfl,S2,HF⟩:=hx
 refine ⟨_,rfl,S2,fun hHeld=> ?_⟩
 exact ye rfl (h _ _ (HF) rfl)
def tally3_ops:Array Oper:=(⟨_,rfl⟩:{o // some o=rgB Tryz.f96 3}).1
theorem tally3 {rb ro g cap:Nat} {L:List Sp} {i u:Nat} {c:Bool} (Fin:World→Prop) (a:Act) (w:World) (Q:Exit→Act→World→Prop) (zz:a.tmps.size=41)
 (t0:a.tmps.getD 0 undef= .pointer (some ⟨rb,ro,none⟩))
 (t1:a.tmps.getD 1 undef= .int .i64 (i:Int))
 (t4:a.tmps.getD 4 undef= .int .i64 (nb c:Int))
 (hi:i<L.length) (hl:L.length≤1400000000000) (hd:dn (gt L i) true<L.length) (h0:TS rb ro g cap i c L w.drew) (hs:u+ct (gt L (dn (gt L i) true)) c≤9223372036854775807) (CU:Calls Tryz.prog 123 #[.pointer (some ⟨rb,ro,none⟩), .int .i64 (i:Int), .int .i64 (nb c:Int)] w.drew fun e w'=>e= .returned (.int .i64 (u:Int))∧TS rb ro g cap i c L w'∧∃w2,(Instr.storeAt 3 (.pointer (some ⟨g,73*i+71+nb c,none⟩)) (.int .i64 ((u+ct (gt L (dn (gt L i) true)) c:Nat):Int))).run Tryz.prog w'= .ok () w2∧TS rb ro g cap i c L w2∧Fin w2)
 (h:∀a' w',Fin w'→a'=(((((((((((((((((((((((((((((((a.put (some 8) (.pointer (some ⟨rb,ro,none⟩))).put (some 9) (.pointer (some ⟨rb,ro,none⟩))).put (some 10) (.pointer (some ⟨rb,ro+0,none⟩))).put (some 11) (.slice (some ⟨g,0,none⟩) L.length cap)).put (some 12) (.int .i64 (i:Int))).put (some 13) (.int .i64 (nb c:Int))).put (some 14) (.pointer (some ⟨rb,ro,none⟩))).put (some 15) (.int .i64 (i:Int))).put (some 16) (.int .i64 (nb c:Int))).put (some 18) (.pointer (some ⟨rb,ro,none⟩))).put (some 19) (.pointer (some ⟨rb,ro,none⟩))).put (some 20) (.pointer (some ⟨rb,ro+0,none⟩))).put (some 21) (.slice (some ⟨g,0,none⟩) L.length cap)).put (some 22) (.pointer (some ⟨rb,ro,none⟩))).put (some 23) (.pointer (some ⟨rb,ro,none⟩))).put (some 24) (.pointer (some ⟨rb,ro+0,none⟩))).put (some 25) (.slice (some ⟨g,0,none⟩) L.length cap)).put (some 26) (.int .i64 (i:Int))).put (some 27) (.pointer (some ⟨g,73*i,none⟩))).put (some 28) (.pointer (some ⟨g,73*i+69,none⟩))).put (some 29) (.pointer (some ⟨g,73*i+69+nb true,none⟩))).put (some 30) (.int .i64 (dn (gt L i) true:Int))).put (some 31) (.int .i64 (nb c:Int))).put (some 32) (.pointer (some ⟨g,73*(dn (gt L i) true),none⟩))).put (some 33) (.pointer (some ⟨g,73*(dn (gt L i) true)+71,none⟩))).put (some 34) (.pointer (some ⟨g,73*(dn (gt L i) true)+71+nb c,none⟩))).put (some 35) (.int .i64 (ct (gt L (dn (gt L i) true)) c:Int))).put (some 37) (.pointer (some ⟨g,73*i,none⟩))).put (some 38) (.pointer (some ⟨g,73*i+71,none⟩))).put (some 17) (.int .i64 (u:Int))).put (some 36) (.int .i64 ((u+ct (gt L (dn (gt L i) true)) c:Nat):Int))).put (some 39) (.pointer (some ⟨g,73*i+71+nb c,none⟩))→Q .normal a' w') :
 (Code.region 3 tally3_ops true).wp Tryz.prog Q a w:=by
 refine y0 (fun w'=>TS rb ro g cap i c L w') (h0) (fun hHeld=> ?_)
 refine yv 0 rfl rfl (fun w1 hw=>xmv rfl (zi t0 rfl)) hHeld ?_
 refine yv 1 rfl rfl (fun w1 hw=>xnc rfl (zg zz rfl)) hHeld ?_
 refine yv 2 rfl rfl (fun w1 hw=>xfa rfl (zg zz rfl) (fg_75_0 _ _ _)) hHeld ?_
 refine yv 3 rfl rfl (fun w1 hw=>xld rfl (zg zz rfl) hw.1) hHeld ?_
 refine yv 4 rfl rfl (fun w1 hw=>xmv rfl (zi t1 rfl)) hHeld ?_
 refine yv 5 rfl rfl (fun w1 hw=>xmv rfl (zi t4 rfl)) hHeld ?_
 refine yv 6 rfl rfl (fun w1 hw=>xmv rfl (zi t0 rfl)) hHeld ?_
 refine yv 7 rfl rfl (fun w1 hw=>xmv rfl (zi t1 rfl)) hHeld ?_
 refine yv 8 rfl rfl (fun w1 hw=>xmv rfl (zi t4 rfl)) hHeld ?_
 refine yv 10 rfl rfl (fun w1 hw=>xmv rfl (zi t0 rfl)) hHeld ?_
 refine yv 11 rfl rfl (fun w1 hw=>xnc rfl (zg zz rfl)) hHeld ?_
 refine yv 12 rfl rfl (fun w1 hw=>xfa rfl (zg zz rfl) (fg_75_0 _ _ _)) hHeld ?_
 refine yv 13 rfl rfl (fun w1 hw=>xld rfl (zg zz rfl) hw.1) hHeld ?_
 refine yv 14 rfl rfl (fun w1 hw=>xmv rfl (zi t0 rfl)) hHeld ?_
 refine yv 15 rfl rfl (fun w1 hw=>xnc rfl (zg zz rfl)) hHeld ?_
 refine yv 16 rfl rfl (fun w1 hw=>xfa rfl (zg zz rfl) (fg_75_0 _ _ _)) hHeld ?_
 refine yv 17 rfl rfl (fun w1 hw=>xld rfl (zg zz rfl) hw.1) hHeld ?_
 refine yv 18 rfl rfl (fun w1 hw=>xmv rfl (zi t1 rfl)) hHeld ?_
 refine yv 19 rfl rfl (fun w1 hw=>xia rfl (zg zz rfl) (zg zz rfl) (R_ix hi hl _)) hHeld ?_
 refine yv 20 rfl rfl (fun w1 hw=>xfa rfl (zg zz rfl) (fg_128_3 _ _ _)) hHeld ?_
 refine yv 21 rfl rfl (fun w1 hw=>xia rfl (zg zz rfl) rfl (ix_a1 _ _)) hHeld ?_
 refine yv 22 rfl rfl (fun w1 hw=>xld rfl (zg zz rfl) hw.2.1) hHeld ?_
 refine yv 23 rfl rfl (fun w1 hw=>xmv rfl (zi t4 rfl)) hHeld ?_
 refine yv 24 rfl rfl (fun w1 hw=>xia rfl (zg zz rfl) (zg zz rfl) (R_ix hd hl _)) hHeld ?_
 refine yv 25 rfl rfl (fun w1 hw=>xfa rfl (zg zz rfl) (fg_128_4 _ _ _)) hHeld ?_
 refine yv 26 rfl rfl (fun w1 hw=>xia rfl (zg zz rfl) (zg zz rfl) (ix_ar _ c _)) hHeld ?_
 refine yv 27 rfl rfl (fun w1 hw=>xld rfl (zg zz rfl) hw.2.2) hHeld ?_
 refine yv 29 rfl rfl (fun w1 hw=>xia rfl (zg zz rfl) (zg zz rfl) (R_ix hi hl _)) hHeld ?_
 refine yv 30 rfl rfl (fun w1 hw=>xfa rfl (zg zz rfl) (fg_128_4 _ _ _)) hHeld ?_
 refine yc 9 rfl rfl (exec_c3 rfl (zg zz rfl) (zg zz rfl) (zg zz rfl)) (CU) (fun e x9 hx=> ?_)
 obtain ⟨rfl,S1,w2,ES,S2,HF⟩:=hx
 refine ⟨_,rfl,S1,fun hHeld=> ?_⟩
 refine yv (v:= .int .i64 ((u+ct (gt L (dn (gt L i) true)) c:Nat):Int)) 28 rfl rfl (fun w1 hw=>ex_addN rfl (zg zz rfl) (zg zz rfl) hs) hHeld ?_
 refine yv 31 rfl rfl (fun w1 hw=>xia rfl (zg zz rfl) (zg zz rfl) (ix_ar _ c _)) hHeld ?_
 refine ys 32 rfl rfl (exec_store rfl (zg zz rfl) (zg zz rfl) ES) (S2) (fun hHeld=> ?_)
 exact ye rfl (h _ _ (HF) rfl)
structure Fits (L:List Sp):Prop where
 l:∀i,i<L.length→(gt L i).l<L.length
 r:∀i,i<L.length→(gt L i).r<L.length
 u:∀i,i<L.length→(gt L i).up<L.length
 c:∀i,i<L.length→∀w,ct (gt L i) w≤2800000000000
section
variable {w:World} {rb ro g cap i:Nat} {L:List Sp}
theorem weight_any (h:SqAt w rb ro g cap L) (hi:i<L.length) (hc:ct (gt L i) false≤5600000000000):Calls Tryz.prog 124 #[.pointer (some ⟨rb,ro,none⟩), .int .i64 (i:Int)] w fun e w'=>e= .returned (.int .i64 (wt L i:Int))∧w'=w:=by
 go_enter Tryz.func124,Tryz.ntmps124
 go_upto_region 1 with fail
 refine weight1 _ _ _ rfl rfl rfl h hi (by omega) ?_
 intro a' w1 hw ha
 subst ha
 obtain rfl:w1=w:=hw
 simp only [Act.put,qsA,qsB,qsC]
 go_wp2
 go_ret
 exact ⟨rfl,rfl⟩
theorem under_any {b c:Bool} (h:SqAt w rb ro g cap L) (hi:i<L.length) (hd:dn (gt L i) b<L.length):Calls Tryz.prog 126 #[.pointer (some ⟨rb,ro,none⟩), .int .i64 (i:Int), .int .i64 (nb b:Int), .int .i64 (nb c:Int)] w fun e w'=>e= .returned (.int .i64 (under L i b c:Int))∧Qt w w':=by
 go_enter Tryz.func126,Tryz.ntmps126
 go_upto_region 1 with fail
 refine under1 _ _ _ rfl rfl rfl rfl rfl h hi hd ?_
 intro a' w1 hw ha
 subst ha
 simp only [Act.put,qsA,qsB,qsC]
 go_wp2
 go_ret
 exact ⟨rfl,by rw [hw];exact Qt.drew w⟩
theorem own_any {c:Bool} (h:SqAt w rb ro g cap L) (hi:i<L.length):Calls Tryz.prog 149 #[.pointer (some ⟨rb,ro,none⟩), .int .i64 (i:Int), .int .i64 (nb c:Int)] w fun e w'=>e= .returned (.int .i64 (own L i c:Int))∧Qt w w':=by
 cases c with
 |false =>
  have ho:own L i false=1:=by simp [own]
  rw [ho]
  go_enter Tryz.func149,Tryz.ntmps149
  go_upto_region 1 with fail
  refine own1a (c:=false) _ _ _ rfl rfl rfl rfl rfl ?_
  intro a' w1 hw ha
  subst ha
  simp only [Act.put,qsA,qsB,qsC]
  go_wp2
  go_ret
  exact ⟨rfl,by rw [hw];exact Qt.refl w⟩
 |true =>
  have HO:=hidMk (show own L i true=if (gt L i).sh=true then 1 else 0 from by unfold own;simp)
  go_enter Tryz.func149,Tryz.ntmps149
  go_upto_region 1 with fail
  refine own1b (c:=true) _ _ _ rfl rfl rfl rfl h hi rfl ?_
  intro a' w1 hw ha
  subst ha
  replace hw:Qt w w1:=by rw [hw];exact Qt.refl w
  simp only [Act.put,qsA,qsB,qsC]
  cases hs:(gt L i).sh with
  |false =>
   rw [hs] at HO
   clear hs
   go_wp2
   go_ret
   exact ⟨by rw [HO.out];rfl,hw⟩
  |true =>
   rw [hs] at HO
   clear hs
   go_wp2
   go_ret
   exact ⟨by rw [HO.out];rfl,hw⟩
theorem own_le (L:List Sp) (i:Nat) (c:Bool):own L i c≤1:=by unfold own;split <;>omega
theorem upTo_any {c:Bool} (h:SqAt w rb ro g cap L) (hi:i<L.length) (hd:(gt L i).l<L.length) (hc:under L i false c≤2800000000000):Calls Tryz.prog 123 #[.pointer (some ⟨rb,ro,none⟩), .int .i64 (i:Int), .int .i64 (nb c:Int)] w fun e w'=>e= .returned (.int .i64 (upTo L i c:Int))∧Qt w w':=by
 have ho:=own_le L i c
 go_enter Tryz.func123,Tryz.ntmps123
 go_upto_region 1 with fail
 refine upTo1 (u:=under L i false c) (o:=own L i c) _ _ _ rfl rfl rfl rfl ?_ (by omega) ?_
 ·refine (under_any (b:=false) h hi hd).mono ?_
  rintro e w' ⟨rfl,q⟩
  exact ⟨rfl,q,own_any (h.qt q) hi⟩
 intro a' w1 hw ha
 subst ha
 simp only [Act.put,qsA,qsB,qsC]
 go_wp2
 go_ret
 exact ⟨rfl,hw⟩
theorem side_any (h:SqAt w rb ro g cap L) (hi:i<L.length) (hu:(gt L i).up<L.length):Calls Tryz.prog 127 #[.pointer (some ⟨rb,ro,none⟩), .int .i64 (i:Int)] w fun e w'=>e= .returned (.int .i64 (nb (sideOf L i):Int))∧Qt w w':=by
 have he:decide ((dn (gt L (gt L i).up) false:Int)=(i:Int))= !(sideOf L i):=by
  unfold sideOf dn
  simp only [Bool.false_eq_true,if_false,Bool.not_not]
  rw [Bool.eq_iff_iff]
  simp
  omega
 go_enter Tryz.func127,Tryz.ntmps127
 go_upto_region 1 with fail
 refine side1 (r:= !(sideOf L i)) _ _ _ rfl rfl rfl h hi hu he ?_
 intro a' w1 hw ha
 subst ha
 simp only [Act.put,qsA,qsB,qsC]
 replace hw:Qt w w1:=by rw [hw];exact Qt.drew w
 clear he
 cases hs:sideOf L i
 ·have HS:=hidMk hs
  clear hs
  go_wp2
  go_ret
  exact ⟨by rw [HS.out];rfl,hw⟩
 ·have HS:=hidMk hs
  clear hs
  go_wp2
  go_ret
  exact ⟨by rw [HS.out];rfl,hw⟩
end
structure Did (w:World) (rb ro g cap:Nat) (L':List Sp) (w':World):Prop where
 at':SqAt w' rb ro g cap L'
 tch:Tch (fun j=>j=g) w w'
 size:w'.heap.size=w.heap.size
theorem Did.refl {w:World} {rb ro g cap:Nat} {L:List Sp} (h:SqAt w rb ro g cap L):Did w rb ro g cap L w:=⟨h,Tch.refl _ _,rfl⟩
theorem Did.trans {w w1 w2:World} {rb ro g cap:Nat} {L1 L2:List Sp} (h:Did w rb ro g cap L1 w1) (k:Did w1 rb ro g cap L2 w2):Did w rb ro g cap L2 w2:=⟨k.at',h.tch.trans k.tch,k.size.trans h.size⟩
theorem Did.qt {w w1 w2:World} {rb ro g cap:Nat} {L1:List Sp} (h:Did w rb ro g cap L1 w1) (q:Qt w1 w2):Did w rb ro g cap L1 w2:=⟨h.at'.qt q,h.tch.trans (q.tch _),q.size.trans h.size⟩
theorem Did.from {w w1 w2:World} {rb ro g cap:Nat} {L1:List Sp} (q:Qt w w1) (h:Did w1 rb ro g cap L1 w2):Did w rb ro g cap L1 w2:=⟨h.at',(q.tch _).trans h.tch,h.size.trans q.size⟩
section
variable {w:World} {rb ro g cap i:Nat} {L:List Sp}
theorem st_dn (h:SqAt w rb ro g cap L) {u:Nat} (hu:u<L.length) (b:Bool) (p:Nat):∃w',(Instr.storeAt 3 (.pointer (some ⟨g,73*u+69+nb b,none⟩)) (.int .i64 (p:Int))).run Tryz.prog w= .ok () w'∧Did w rb ro g cap (hangD L u b p) w':=by
 obtain ⟨w',e,a,t,z⟩:=h.num (k:=2+nb b) (t:=3) (v:= .int .i64 (p:Int)) hu (setDn · b p) (setDn_up _ _ _).2.2.1 (by cases b <;>rfl) (by cases b <;>simp [nb]) (by kernel_rfl) rfl rfl
 rw [show 73*u+(67+(2+nb b))=73*u+69+nb b by omega] at e
 exact ⟨w',e,a,t,z⟩
theorem st_up (h:SqAt w rb ro g cap L) {p:Nat} (hp:p<L.length) (u:Nat):∃w',(Instr.storeAt 3 (.pointer (some ⟨g,73*p+68,none⟩)) (.int .i64 (u:Int))).run Tryz.prog w= .ok () w'∧Did w rb ro g cap (setUp L p u) w':=by
 obtain ⟨w',e,a,t,z⟩:=h.num (k:=1) (t:=3) (v:= .int .i64 (u:Int)) hp (fun s=>{s with up:=u}) rfl rfl (by decide) (by kernel_rfl) rfl rfl
 exact ⟨w',e,a,t,z⟩
theorem st_ct (h:SqAt w rb ro g cap L) (hi:i<L.length) (c:Bool):∃w',(Instr.storeAt 3 (.pointer (some ⟨g,73*i+71+nb c,none⟩)) (.int .i64 ((upTo L i c+under L i true c:Nat):Int))).run Tryz.prog w= .ok () w'∧Did w rb ro g cap (tallyW L i c) w':=by
 obtain ⟨w',e,a,t,z⟩:=h.num (k:=4+nb c) (t:=3) (v:= .int .i64 ((upTo L i c+under L i true c:Nat):Int)) hi (fun s=>if c then {s with cl:=upTo L i c+under L i true c} else {s with ca:=upTo L i c+under L i true c}) (by cases c <;>rfl) (by cases c <;>rfl) (by cases c <;>simp [nb]) (by kernel_rfl) rfl rfl
 rw [show 73*i+(67+(4+nb c))=73*i+71+nb c by omega] at e
 exact ⟨w',e,a,t,z⟩
theorem hang_any {u p:Nat} {b:Bool} (h:SqAt w rb ro g cap L) (hu:u<L.length) (hp:p<L.length):Calls Tryz.prog 72 #[.pointer (some ⟨rb,ro,none⟩), .int .i64 (u:Int), .int .i64 (nb b:Int), .int .i64 (p:Int)] w fun e w'=>e= .returned (.tuple #[])∧Did w rb ro g cap (hang L u b p) w':=by
 obtain ⟨w2,e2,d2⟩:=st_dn h hu b p
 have hl2:(hangD L u b p).length=L.length:=md_len _ _ _
 by_cases h0:p=0
 ·have HL:Hid (hang L u b p=hangD L u b p):=by unfold hang;exact if_pos h0
  subst h0
  go_enter Tryz.func72,Tryz.ntmps72
  go_upto_region 0 with fail
  refine hang0 _ _ _ rfl rfl rfl rfl rfl h hu e2 ?_
  intro a' w1 hw ha
  subst ha
  subst hw
  simp only [Act.put,qsA,qsB,qsC]
  go_wp2
  go_end0
  exact ⟨rfl,by rw [HL.out];exact d2⟩
 ·have HL:Hid (hang L u b p=setUp (hangD L u b p) p u):=by unfold hang;exact if_neg h0
  obtain ⟨w3,e3,d3⟩:=st_up d2.at' (p:=p) (by rw [hl2];exact hp) u
  have hp0:¬(p:Int)=0:=by omega
  go_enter Tryz.func72,Tryz.ntmps72
  go_upto_region 0 with fail
  refine hang0 _ _ _ rfl rfl rfl rfl rfl h hu e2 ?_
  intro a' w1 hw ha
  subst ha
  subst hw
  simp only [Act.put,qsA,qsB,qsC]
  go_upto_region 2 with fail
  refine hang2 _ _ _ rfl rfl rfl rfl d2.at' (by rw [hl2];exact hp) e3 ?_
  intro a' w1 hw ha
  subst ha
  subst hw
  simp only [Act.put,qsA,qsB,qsC]
  go_wp2
  go_end0
  exact ⟨rfl,by rw [HL.out];exact d2.trans d3⟩
end
def fs:T→Nat
 | .nil=>0
 | .nd i .nil _=>i
 | .nd _ (.nd j a b) _=>fs (.nd j a b)
theorem fs_up:∀(t:T) (c:Ctx),t≠ .nil→upOf (lft t c)=fs t
 | .nil,c,h=>absurd rfl h
 | .nd i .nil r,c,_=>rfl
 | .nd i (.nd j a b) r,c,_=>by
   rw [lft,fs_up (.nd j a b) _ (by simp)]
   rfl
section
variable {w:World} {rb ro g cap i:Nat} {L:List Sp}
theorem first_any {t:T} {p:Nat} (h:SqAt w rb ro g cap L) (hr:Rep L p t) (h0:t.ix≠0) (hn:lsp t≤L.length):Calls Tryz.prog 73 #[.pointer (some ⟨rb,ro,none⟩), .int .i64 (t.ix:Int)] w fun e w'=>e= .returned (.int .i64 (fs t:Int))∧Qt w w':=by
 obtain ⟨N,hN⟩:∃N,N=L.length:=⟨_,rfl⟩
 rw [←hN] at hn
 have HN:=hidMk hN
 clear hN
 go_enter Tryz.func73,Tryz.ntmps73
 go_wp2
 go_loopw [1] (fun v1 wr=> ∃(t':T) (p' a:Nat),v1= .int .i64 (a:Int)∧a=t'.ix∧Rep L p' t'∧a≠0∧fs t'=fs t∧lsp t'≤N∧Qt w wr) (fun v1 _=>dep (fun a=>(gt L a).l) N (match v1 with | .int _ i=>i.toNat|_=>0))
 case atStart=>exact ⟨t,p,t.ix,rfl,rfl,hr,h0,rfl,hn,Qt.refl w⟩
 case round =>
  clear hr h0 hn
  obtain ⟨t',p',a,rfl,ha,hr,h0,hfs,hn,q⟩:=hrel
  replace h:=h.qt q
  cases t' with
  |nil=>exact absurd ha h0
  |nd j l r =>
   obtain rfl:a=j:=ha
   have hj:a<L.length:=hr.2.1
   have hl:(gt L a).l=l.ix:=hr.2.2.2.1
   have hrl:Rep L a l:=hr.2.2.2.2.2.1
   have hd:dn (gt L a) false=l.ix:=hl
   have HD:=hidMk (dep_lsp _ _ N hr hn)
   have HS:=hidMk hfs
   clear hl hfs
   cases l with
   |nil =>
    go_upto_region 1 with fail
    refine first1 (r:=false) _ _ _ rfl rfl rfl h hj (by rw [hd];rfl) ?_
    intro a' w1 hw ha
    subst ha
    obtain rfl:w1=wr:=hw
    simp only [Act.put,qsA,qsB,qsC]
    go_wp2
    go_ret
    exact ⟨by rw [←HS.out];rfl,q⟩
   |nd k x y =>
    have hk0:k≠0:=hrl.1
    go_upto_region 1 with fail
    refine first1 (r:=true) _ _ _ rfl rfl rfl h hj (by rw [hd];simp only [T.ix];simp;omega) ?_
    intro a' w1 hw ha
    subst ha
    obtain rfl:w1=wr:=hw
    simp only [Act.put,qsA,qsB,qsC]
    go_upto_region 2 with fail
    refine first2 _ _ _ rfl rfl rfl h hj ?_
    intro a' w2 hw ha
    subst ha
    obtain rfl:w2=w1:=hw
    rw [hd]
    simp only [Act.put,qsA,qsB,qsC]
    go_wp2
    refine ⟨⟨.nd k x y,a,k,rfl,rfl,hrl,hk0,HS.out, ?_,q⟩, ?_⟩
    ·simp only [lsp] at hn ⊢;omega
    ·show dep (fun a=>(gt L a).l) N (k:Int).toNat<dep (fun a=>(gt L a).l) N (a:Int).toNat
     have e1:=dep_lsp _ _ N hrl (by simp only [lsp] at hn ⊢;omega)
     have e2:=HD.out
     simp only [T.ix] at e1 e2
     rw [Int.toNat_natCast,Int.toNat_natCast,e1,e2]
     simp only [lsp]
     omega
end
section
variable {w:World} {rb ro g cap i:Nat} {L:List Sp}
theorem SqAt.rs (h:SqAt w rb ro g cap L) (hi:i<L.length):RS rb ro g cap i L w:=⟨R_sl h,R_up h hi⟩
theorem replace_any {p:Nat} (h:SqAt w rb ro g cap L) (hi:i<L.length) (hu:(gt L i).up<L.length) (hp:p<L.length) (hip:p≠i):Calls Tryz.prog 152 #[.pointer (some ⟨rb,ro,none⟩), .int .i64 (i:Int), .int .i64 (p:Int)] w fun e w'=>e= .returned (.tuple #[])∧Did w rb ro g cap (repl L i p) w':=by
 go_enter Tryz.func152,Tryz.ntmps152
 go_upto_region 0 with fail
 refine replace0 (s:=sideOf L i) (fun w'=>Did w rb ro g cap (repl L i p) w') _ _ _ rfl rfl rfl rfl hi h.len (h.drew.rs hi) ?_ ?_
 ·refine (side_any h.drew hi hu).mono ?_
  rintro e w1 ⟨rfl,q1⟩
  have h1:=h.drew.qt q1
  refine ⟨rfl,h1.rs hi, ?_⟩
  refine (hang_any h1 hu hp).mono ?_
  rintro e w2 ⟨rfl,d2⟩
  refine ⟨rfl,⟨?_, ?_⟩,Did.from ((Qt.drew w).trans q1) d2⟩
  ·have:=R_sl d2.at'
   rwa [hang_len] at this
  ·have:=R_up d2.at' (i:=i) (by rw [hang_len];exact hi)
   rwa [hang_up,if_neg (fun q=>hip q.1)] at this
 intro a' w1 hw ha
 subst ha
 simp only [Act.put,qsA,qsB,qsC]
 go_wp2
 go_end0
 exact ⟨rfl,hw⟩
def tal (L:List Sp) (i k:Nat):List Sp:=if k=0 then L else if k=1 then tallyW L i false else tally L i
theorem tal_len (L:List Sp) (i k:Nat):(tal L i k).length=L.length:=by
 unfold tal
 split
 ·rfl
 ·split
  ·exact tallyW_len _ _ _
  ·exact tally_len _ _
def wh (k:Nat):Bool:=decide (k=1)
theorem tal_next (L:List Sp) (i k:Nat) (hk:k<2):tallyW (tal L i k) i (wh k)=tal L i (k+1):=by
 have:k=0∨k=1:=by omega
 rcases this with rfl|rfl <;>rfl
theorem tal_rest (L:List Sp) (i k:Nat) (hk:k<2) (j:Nat):(gt (tal L i k) j).l=(gt L j).l∧(gt (tal L i k) j).r=(gt L j).r∧ct (gt (tal L i k) j) (wh k)=ct (gt L j) (wh k):=by
 have:k=0∨k=1:=by omega
 rcases this with rfl|rfl
 ·exact ⟨rfl,rfl,rfl⟩
 ·show (gt (tallyW L i false) j).l=_∧(gt (tallyW L i false) j).r=_∧ct (gt (tallyW L i false) j) true=ct (gt L j) true
  refine ⟨(tallyW_rest _ _ _ _).2.1,(tallyW_rest _ _ _ _).2.2.1, ?_⟩
  rw [tallyW_ct,if_neg (fun q=>by simp at q)]
theorem SqAt.ts {c:Bool} (h:SqAt w rb ro g cap L) (hi:i<L.length) (hd:dn (gt L i) true<L.length):TS rb ro g cap i c L w:=⟨R_sl h,R_dn h hi true,R_ct h hd c⟩
theorem tally_any (h:SqAt w rb ro g cap L) (hi:i<L.length) (hl:(gt L i).l<L.length) (hr:(gt L i).r<L.length) (hri:(gt L i).r≠i) (hcl:∀c,ct (gt L (gt L i).l) c≤2800000000000) (hcr:∀c,ct (gt L (gt L i).r) c≤2800000000000) :
 Calls Tryz.prog 96 #[.pointer (some ⟨rb,ro,none⟩), .int .i64 (i:Int)] w fun e w'=>e= .returned (.tuple #[])∧Did w rb ro g cap (tally L i) w':=by
 go_enter Tryz.func96,Tryz.ntmps96
 go_wp2
 go_loopw [5] (fun v5 wr=> ∃k:Nat,v5= .int .i64 (k:Int)∧k≤2∧Did w rb ro g cap (tal L i k) wr) (fun v5 _=>2-(match v5 with | .int _ i=>i.toNat|_=>0))
 case atStart=>exact ⟨0,rfl,by omega,Did.refl h⟩
 case round =>
  obtain ⟨k,rfl,hk2,d⟩:=hrel
  by_cases hk:k<2
  ·have hk':(k:Int)<2:=by omega
   have HN:=hidMk (tal_next L i k hk)
   obtain ⟨M,hM⟩:∃M,tal L i k=M:=⟨_,rfl⟩
   have lM:M.length=L.length:=by rw [←hM];exact tal_len _ _ _
   have rM:=fun j=>hM▸tal_rest L i k hk j
   rw [hM] at HN d
   clear hM
   have hnb:((nb (wh k):Nat):Int)=(k:Int):=by
        have:k=0∨k=1:=by omega
        rcases this with rfl|rfl <;>rfl
   have e1:dn (gt M i) false=(gt L i).l:=(rM i).1
   have e2:dn (gt M i) true=(gt L i).r:=(rM i).2.1
   have b1:under M i false (wh k)≤2800000000000:=by unfold under;rw [e1,(rM _).2.2];exact hcl _
   have b2:ct (gt M (dn (gt M i) true)) (wh k)≤2800000000000:=by rw [e2,(rM _).2.2];exact hcr _
   have hiM:i<M.length:=by omega
   have hdM:dn (gt M i) true<M.length:=by rw [e2];omega
   have hlM:(gt M i).l<M.length:=by rw [(rM i).1];omega
   have b3:upTo M i (wh k)≤2800000000001:=by have:=own_le M i (wh k);unfold upTo;omega
   have hne:(gt M i).r≠i:=by rw [(rM i).2.1];exact hri
   clear rM e1 e2 hcl hcr hri
   go_upto_region 3 with fail
   refine tally3 (L:=M) (u:=upTo M i (wh k)) (c:=wh k) (fun w'=>Did w rb ro g cap (tal L i (k+1)) w') _ _ _ rfl rfl rfl ?_ hiM (by rw [lM];exact h.len) hdM (d.at'.drew.ts hiM hdM) (by omega) ?_ ?_
   ·show Value.int .i64 (k:Int)=_
    rw [hnb]
   ·refine (upTo_any d.at'.drew hiM hlM b1).mono ?_
    rintro e w1 ⟨rfl,q1⟩
    have h1:=d.at'.drew.qt q1
    refine ⟨rfl,h1.ts hiM hdM, ?_⟩
    obtain ⟨w2,E2,D2⟩:=st_ct h1 hiM (wh k)
    refine ⟨w2,E2,⟨?_, ?_, ?_⟩, ?_⟩
    ·have:=R_sl D2.at'
     rwa [tallyW_len] at this
    ·have:=R_dn D2.at' (i:=i) (by rw [tallyW_len];exact hiM) true
     simp only [dn,(tallyW_rest _ _ _ _).2.2.1] at this
     exact this
    ·have:=R_ct D2.at' (i:=dn (gt M i) true) (by rw [tallyW_len];exact hdM) (wh k)
     rwa [tallyW_ct,if_neg (fun q=>hne q.1.symm)] at this
    ·rw [←HN.out]
     exact d.trans (Did.from ((Qt.drew _).trans q1) D2)
   intro a' w1 hw ha
   subst ha
   simp only [Act.put,qsA,qsB,qsC]
   have HW:=hidMk hw
   clear hw b1 b2 b3 hnb hk' hiM hdM hlM hne
   go_wp2
   rw [show ((k:Int)+1)=((k+1:Nat):Int) by omega]
   refine ⟨⟨k+1,rfl,hk,HW.out⟩, ?_⟩
   show 2-((k+1:Nat):Int).toNat<2-(k:Int).toNat
   omega
  ·obtain rfl:k=2:=by omega
   clear hk hk2
   go_wp2
   go_end0
   exact ⟨rfl,d⟩
end
theorem ex_nb {w:World} {a:Act} {o:Oper} {x y:Operand} {s:Bool} (ho:o.op= .binOp .sub 3 x y 3) (hx:a.eval x= .int .i64 1) (hy:a.eval y= .int .i64 (nb s:Int)):(execOp a.eval o).run Tryz.prog w= .ok (.value (.int .i64 (nb (!s):Int))) w:=by
 have:=ex_sub (w:=w) ho hx hy (by cases s <;>decide)
 rw [this]
 cases s <;>rfl
theorem ex_ix2 {w:World} {a:Act} {o:Oper} {x y:Operand} {s:Bool} {q:Sp} (ho:o.op= .index 126 x y) (hx:a.eval x= .agg #[.int .i64 (q.l:Int), .int .i64 (q.r:Int)]) (hy:a.eval y= .int .i64 (nb s:Int)):(execOp a.eval o).run Tryz.prog w= .ok (.value (.int .i64 (dn q s:Int))) w:=by
 unfold execOp
 rw [ho]
 simp only [hx,hy]
 have hs:=m_sz (t:=3) (n:=1) (by kernel_rfl) w
 have p0:(Go.part 3 #[.int .i64 (q.l:Int), .int .i64 (q.r:Int)] 0).run Tryz.prog w= .ok (.int .i64 (q.l:Int)) w:=m_one (agInt w) rfl
 have p1:(Go.part 3 #[.int .i64 (q.l:Int), .int .i64 (q.r:Int)] 1).run Tryz.prog w= .ok (.int .i64 (q.r:Int)) w:=m_one (agInt w) rfl
 cases s <;>simp only [nb,dn,Bool.false_eq_true,if_false,if_true] <;>simp [Instr.index,run_underlying Tryz.underlying126,asIntOf,hs,p0,p1,Sem.run_bind,Result.andThen]
def MS (rb ro g cap N:Nat) (w':World):Prop:=(Instr.loadAt 73 (.pointer (some ⟨rb,ro+0,none⟩))).run Tryz.prog w'= .ok (.slice (some ⟨g,0,none⟩) N cap) w'
def lift0r_ops:Array Oper:=(⟨_,rfl⟩:{o // some o=rgB Tryz.f125 0}).1
theorem lift0r {rb ro g cap:Nat} {L:List Sp} {i:Nat} {s:Bool} (a:Act) (w:World) (Q:Exit→Act→World→Prop) (zz:a.tmps.size=48)
 (t0:a.tmps.getD 0 undef= .pointer (some ⟨rb,ro,none⟩))
 (t1:a.tmps.getD 1 undef= .int .i64 (i:Int))
 (hR:SqAt w rb ro g cap L) (hi:i<L.length) (hl:L.length≤1400000000000) (CS:Calls Tryz.prog 127 #[.pointer (some ⟨rb,ro,none⟩), .int .i64 (i:Int)] w.drew fun e w'=>e= .returned (.int .i64 (nb s:Int))∧SqAt w' rb ro g cap L∧Qt w w')
 (h:∀a' w',SqAt w' rb ro g cap L∧Qt w w'→a'=((((((((((((a.put (some 6) (.pointer (some ⟨rb,ro,none⟩))).put (some 7) (.pointer (some ⟨rb,ro,none⟩))).put (some 8) (.pointer (some ⟨rb,ro+0,none⟩))).put (some 9) (.slice (some ⟨g,0,none⟩) (L).length cap)).put (some 10) (.int .i64 (i:Int))).put (some 11) (.pointer (some ⟨g,73*i,none⟩))).put (some 12) (.pointer (some ⟨g,73*i+68,none⟩))).put (some 13) (.int .i64 ((gt L i).up:Int))).put (some 14) (.pointer (some ⟨rb,ro,none⟩))).put (some 15) (.int .i64 (i:Int))).put (some 16) (.int .i64 (nb s:Int))).put (some 4) (.int .i64 ((gt L i).up:Int))).put (some 5) (.int .i64 (nb s:Int))→Q .normal a' w') :
 (Code.region 0 lift0r_ops true).wp Tryz.prog Q a w:=by
 refine y0 (fun w'=>SqAt w' rb ro g cap L∧Qt w w') (⟨hR.drew,Qt.drew w⟩) (fun hHeld=> ?_)
 refine yv 0 rfl rfl (fun w1 hw=>xmv rfl (zi t0 rfl)) hHeld ?_
 refine yv 1 rfl rfl (fun w1 hw=>xnc rfl (zg zz rfl)) hHeld ?_
 refine yv 2 rfl rfl (fun w1 hw=>xfa rfl (zg zz rfl) (fg_75_0 _ _ _)) hHeld ?_
 refine yv 3 rfl rfl (fun w1 hw=>xld rfl (zg zz rfl) (R_sl hw.1)) hHeld ?_
 refine yv 4 rfl rfl (fun w1 hw=>xmv rfl (zi t1 rfl)) hHeld ?_
 refine yv 5 rfl rfl (fun w1 hw=>xia rfl (zg zz rfl) (zg zz rfl) (R_ix hi hl _)) hHeld ?_
 refine yv 6 rfl rfl (fun w1 hw=>xfa rfl (zg zz rfl) (fg_128_2 _ _ _)) hHeld ?_
 refine yv 7 rfl rfl (fun w1 hw=>xld rfl (zg zz rfl) (R_up hw.1 hi)) hHeld ?_
 refine yv 8 rfl rfl (fun w1 hw=>xmv rfl (zi t0 rfl)) hHeld ?_
 refine yv 9 rfl rfl (fun w1 hw=>xmv rfl (zi t1 rfl)) hHeld ?_
 refine yc 10 rfl rfl (exec_c2 rfl (zg zz rfl) (zg zz rfl)) (CS) (fun e x10 hx=> ?_)
 obtain ⟨rfl,S1⟩:=hx
 refine ⟨_,rfl,S1,fun hHeld=> ?_⟩
 refine yv 11 rfl rfl (fun w1 hw=>xas rfl (zg zz rfl)) hHeld ?_
 refine yv 12 rfl rfl (fun w1 hw=>xas rfl (zg zz rfl)) hHeld ?_
 exact ye rfl (h _ _ (hHeld) rfl)
def lift2r_ops:Array Oper:=(⟨_,rfl⟩:{o // some o=rgB Tryz.f125 2}).1
theorem lift2r {rb ro g cap:Nat} {L:List Sp} {i u:Nat} {s:Bool} (Fin:World→Prop) (a:Act) (w:World) (Q:Exit→Act→World→Prop) (zz:a.tmps.size=48)
 (t0:a.tmps.getD 0 undef= .pointer (some ⟨rb,ro,none⟩))
 (t1:a.tmps.getD 1 undef= .int .i64 (i:Int))
 (t4:a.tmps.getD 4 undef= .int .i64 (u:Int))
 (t5:a.tmps.getD 5 undef= .int .i64 (nb s:Int))
 (hR:SqAt w rb ro g cap L) (hi:i<L.length) (CH:Calls Tryz.prog 72 #[.pointer (some ⟨rb,ro,none⟩), .int .i64 (u:Int), .int .i64 (nb s:Int), .int .i64 (dn (gt L i) (!s):Int)] w fun e w'=>e= .returned (.tuple #[])∧Fin w')
 (h:∀a' w',Fin w'→a'=((((((((((((((a.put (some 21) (.pointer (some ⟨rb,ro,none⟩))).put (some 22) (.int .i64 (u:Int))).put (some 23) (.int .i64 (nb s:Int))).put (some 24) (.pointer (some ⟨rb,ro,none⟩))).put (some 25) (.pointer (some ⟨rb,ro,none⟩))).put (some 26) (.pointer (some ⟨rb,ro+0,none⟩))).put (some 27) (.slice (some ⟨g,0,none⟩) (L).length cap)).put (some 28) (.int .i64 (i:Int))).put (some 29) (.int .i64 (nb s:Int))).put (some 30) (.int .i64 (nb (!s):Int))).put (some 31) (.pointer (some ⟨g,73*i,none⟩))).put (some 32) (.pointer (some ⟨g,73*i+69,none⟩))).put (some 33) (.pointer (some ⟨g,73*i+69+nb (!s),none⟩))).put (some 34) (.int .i64 (dn (gt L i) (!s):Int))).put (some 35) (.tuple #[])→Q .normal a' w') :
 (Code.region 2 lift2r_ops false).wp Tryz.prog Q a w:=by
 refine z0 rfl ?_
 refine zv rfl (xmv rfl (zi t0 rfl)) ?_
 refine zv rfl (xmv rfl (zi t4 rfl)) ?_
 refine zv rfl (xmv rfl (zi t5 rfl)) ?_
 refine zv rfl (xmv rfl (zi t0 rfl)) ?_
 refine zv rfl (xnc rfl (zg zz rfl)) ?_
 refine zv rfl (xfa rfl (zg zz rfl) (fg_75_0 _ _ _)) ?_
 refine zv rfl (xld rfl (zg zz rfl) (R_sl hR)) ?_
 refine zv rfl (xmv rfl (zi t1 rfl)) ?_
 refine zv rfl (xmv rfl (zi t5 rfl)) ?_
 refine zv (v:= .int .i64 (nb (!s):Int)) rfl (ex_nb rfl rfl (zg zz rfl)) ?_
 refine zv rfl (xia rfl (zg zz rfl) (zg zz rfl) (R_ix hi hR.len _)) ?_
 refine zv rfl (xfa rfl (zg zz rfl) (fg_128_3 _ _ _)) ?_
 refine zv rfl (xia rfl (zg zz rfl) (zg zz rfl) (ix_ar _ (!s) _)) ?_
 refine zv rfl (xld rfl (zg zz rfl) (R_dn hR hi (!s))) ?_
 refine zc rfl (exec_c4 rfl (zg zz rfl) (zg zz rfl) (zg zz rfl) (zg zz rfl)) (CH) (fun e x14 hx=> ?_)
 obtain ⟨rfl,HF⟩:=hx
 refine ⟨_,rfl, ?_⟩
 exact ze rfl (h _ _ (HF) rfl)
def lift3r_ops:Array Oper:=(⟨_,rfl⟩:{o // some o=rgB Tryz.f125 3}).1
theorem lift3r {rb ro i u:Nat} {s:Bool} (Fin:World→Prop) (a:Act) (w:World) (Q:Exit→Act→World→Prop) (zz:a.tmps.size=48)
 (t0:a.tmps.getD 0 undef= .pointer (some ⟨rb,ro,none⟩))
 (t1:a.tmps.getD 1 undef= .int .i64 (i:Int))
 (t4:a.tmps.getD 4 undef= .int .i64 (u:Int))
 (t5:a.tmps.getD 5 undef= .int .i64 (nb s:Int))
 (CH:Calls Tryz.prog 72 #[.pointer (some ⟨rb,ro,none⟩), .int .i64 (i:Int), .int .i64 (nb (!s):Int), .int .i64 (u:Int)] w fun e w'=>e= .returned (.tuple #[])∧Fin w')
 (h:∀a' w',Fin w'→a'=(((((a.put (some 36) (.pointer (some ⟨rb,ro,none⟩))).put (some 37) (.int .i64 (i:Int))).put (some 38) (.int .i64 (nb s:Int))).put (some 39) (.int .i64 (nb (!s):Int))).put (some 40) (.int .i64 (u:Int))).put (some 41) (.tuple #[])→Q .normal a' w') :
 (Code.region 3 lift3r_ops false).wp Tryz.prog Q a w:=by
 refine z0 rfl ?_
 refine zv rfl (xmv rfl (zi t0 rfl)) ?_
 refine zv rfl (xmv rfl (zi t1 rfl)) ?_
 refine zv rfl (xmv rfl (zi t5 rfl)) ?_
 refine zv (v:= .int .i64 (nb (!s):Int)) rfl (ex_nb rfl rfl (zg zz rfl)) ?_
 refine zv rfl (xmv rfl (zi t4 rfl)) ?_
 refine zc rfl (exec_c4 rfl (zg zz rfl) (zg zz rfl) (zg zz rfl) (zg zz rfl)) (CH) (fun e x5 hx=> ?_)
 obtain ⟨rfl,HF⟩:=hx
 refine ⟨_,rfl, ?_⟩
 exact ze rfl (h _ _ (HF) rfl)
def even1_ops:Array Oper:=(⟨_,rfl⟩:{o // some o=rgB Tryz.f97 1}).1
theorem even1 {rb ro g cap:Nat} {L:List Sp} {i:Nat} (a:Act) (w:World) (Q:Exit→Act→World→Prop) (zz:a.tmps.size=79)
 (t0:a.tmps.getD 0 undef= .pointer (some ⟨rb,ro,none⟩))
 (t1:a.tmps.getD 1 undef= .int .i64 (i:Int))
 (hR:SqAt w rb ro g cap L) (hi:i<L.length)
 (h:∀a' w',w'=w→a'=((((((((a.put (some 10) (.pointer (some ⟨rb,ro,none⟩))).put (some 11) (.pointer (some ⟨rb,ro,none⟩))).put (some 12) (.pointer (some ⟨rb,ro+0,none⟩))).put (some 13) (.slice (some ⟨g,0,none⟩) (L).length cap)).put (some 14) (.int .i64 (i:Int))).put (some 15) (.pointer (some ⟨g,73*i,none⟩))).put (some 16) (.pointer (some ⟨g,73*i+69,none⟩))).put (some 17) (.agg #[.int .i64 ((gt L i).l:Int), .int .i64 ((gt L i).r:Int)])).put (some 18) (.int .i64 0)→Q .normal a' w') :
 (Code.region 1 even1_ops false).wp Tryz.prog Q a w:=by
 refine z0 rfl ?_
 refine zv rfl (xmv rfl (zi t0 rfl)) ?_
 refine zv rfl (xnc rfl (zg zz rfl)) ?_
 refine zv rfl (xfa rfl (zg zz rfl) (fg_75_0 _ _ _)) ?_
 refine zv rfl (xld rfl (zg zz rfl) (R_sl hR)) ?_
 refine zv rfl (xmv rfl (zi t1 rfl)) ?_
 refine zv rfl (xia rfl (zg zz rfl) (zg zz rfl) (R_ix hi hR.len _)) ?_
 refine zv rfl (xfa rfl (zg zz rfl) (fg_128_3 _ _ _)) ?_
 refine zv rfl (xld rfl (zg zz rfl) (R_down hR hi)) ?_
 refine zv rfl (xmv rfl rfl) ?_
 exact ze rfl (h _ _ (rfl) rfl)
def even3_ops:Array Oper:=(⟨_,rfl⟩:{o // some o=rgB Tryz.f97 3}).1
theorem even3 {L:List Sp} {i:Nat} {s:Bool} (a:Act) (w:World) (Q:Exit→Act→World→Prop) (zz:a.tmps.size=79)
 (t17:a.tmps.getD 17 undef= .agg #[.int .i64 ((gt L i).l:Int), .int .i64 ((gt L i).r:Int)])
 (t18:a.tmps.getD 18 undef= .int .i64 (nb s:Int))
 (h:∀a' w',w'=w→a'=(((a.put (some 20) (.int .i64 (nb s:Int))).put (some 21) (.int .i64 (dn (gt L i) s:Int))).put (some 5) (.int .i64 (nb s:Int))).put (some 6) (.int .i64 (dn (gt L i) s:Int))→Q .normal a' w') :
 (Code.region 3 even3_ops false).wp Tryz.prog Q a w:=by
 refine z0 rfl ?_
 refine zv rfl (xmv rfl (zi t18 rfl)) ?_
 refine zv (v:= .int .i64 (dn (gt L i) s:Int)) rfl (ex_ix2 rfl (zi t17 rfl) (zi t18 rfl)) ?_
 iterate 2 refine zv rfl (xas rfl (zg zz rfl)) ?_
 exact ze rfl (h _ _ (rfl) rfl)
def even4_ops:Array Oper:=(⟨_,rfl⟩:{o // some o=rgB Tryz.f97 4}).1
theorem even4 {s:Bool} (a:Act) (w:World) (Q:Exit→Act→World→Prop) (zz:a.tmps.size=79)
 (t5:a.tmps.getD 5 undef= .int .i64 (nb s:Int))
 (h:∀a' w',w'=w→a'=((a.put (some 22) (.int .i64 (nb s:Int))).put (some 23) (.int .i64 (nb (!s):Int))).put (some 7) (.int .i64 (nb (!s):Int))→Q .normal a' w') :
 (Code.region 4 even4_ops false).wp Tryz.prog Q a w:=by
 refine z0 rfl ?_
 refine zv rfl (xmv rfl (zi t5 rfl)) ?_
 refine zv (v:= .int .i64 (nb (!s):Int)) rfl (ex_nb rfl rfl (zg zz rfl)) ?_
 refine zv rfl (xas rfl (zg zz rfl)) ?_
 exact ze rfl (h _ _ (rfl) rfl)
def even5_ops:Array Oper:=(⟨_,rfl⟩:{o // some o=rgB Tryz.f97 5}).1
theorem even5 {rb ro g cap:Nat} {L:List Sp} {i p x y:Nat} {o r:Bool} (a:Act) (w:World) (Q:Exit→Act→World→Prop) (zz:a.tmps.size=79)
 (t0:a.tmps.getD 0 undef= .pointer (some ⟨rb,ro,none⟩))
 (t1:a.tmps.getD 1 undef= .int .i64 (i:Int))
 (t6:a.tmps.getD 6 undef= .int .i64 (p:Int))
 (t7:a.tmps.getD 7 undef= .int .i64 (nb o:Int))
 (hR:SqAt w rb ro g cap L) (hi:i<L.length) (hl:L.length≤1400000000000) (hm:3*y≤9223372036854775807) (hr:decide ((x:Int)≤((3*y:Nat):Int))=r) (C1:Calls Tryz.prog 124 #[.pointer (some ⟨rb,ro,none⟩), .int .i64 (p:Int)] w.drew fun e w'=>e= .returned (.int .i64 (x:Int))∧(SqAt w' rb ro g cap L∧Qt w w')∧Calls Tryz.prog 124 #[.pointer (some ⟨rb,ro,none⟩), .int .i64 (dn (gt L i) o:Int)] w' fun e2 w2=>e2= .returned (.int .i64 (y:Int))∧SqAt w2 rb ro g cap L∧Qt w w2)
 (h:∀a' w',SqAt w' rb ro g cap L∧Qt w w'→a'=((((((((((((((((a.put (some 24) (.pointer (some ⟨rb,ro,none⟩))).put (some 25) (.int .i64 (p:Int))).put (some 27) (.pointer (some ⟨rb,ro,none⟩))).put (some 28) (.pointer (some ⟨rb,ro,none⟩))).put (some 29) (.pointer (some ⟨rb,ro,none⟩))).put (some 30) (.pointer (some ⟨rb,ro+0,none⟩))).put (some 31) (.slice (some ⟨g,0,none⟩) (L).length cap)).put (some 32) (.int .i64 (i:Int))).put (some 33) (.int .i64 (nb o:Int))).put (some 34) (.pointer (some ⟨g,73*i,none⟩))).put (some 35) (.pointer (some ⟨g,73*i+69,none⟩))).put (some 36) (.pointer (some ⟨g,73*i+69+nb o,none⟩))).put (some 37) (.int .i64 (dn (gt L i) o:Int))).put (some 26) (.int .i64 (x:Int))).put (some 38) (.int .i64 (y:Int))).put (some 39) (.int .i64 ((3*y:Nat):Int))).put (some 40) (.bool r)→Q .normal a' w') :
 (Code.region 5 even5_ops true).wp Tryz.prog Q a w:=by
 refine y0 (fun w'=>SqAt w' rb ro g cap L∧Qt w w') (⟨hR.drew,Qt.drew w⟩) (fun hHeld=> ?_)
 refine yv 0 rfl rfl (fun w1 hw=>xmv rfl (zi t0 rfl)) hHeld ?_
 refine yv 1 rfl rfl (fun w1 hw=>xmv rfl (zi t6 rfl)) hHeld ?_
 refine yv 3 rfl rfl (fun w1 hw=>xmv rfl (zi t0 rfl)) hHeld ?_
 refine yv 4 rfl rfl (fun w1 hw=>xmv rfl (zi t0 rfl)) hHeld ?_
 refine yv 5 rfl rfl (fun w1 hw=>xnc rfl (zg zz rfl)) hHeld ?_
 refine yv 6 rfl rfl (fun w1 hw=>xfa rfl (zg zz rfl) (fg_75_0 _ _ _)) hHeld ?_
 refine yv 7 rfl rfl (fun w1 hw=>xld rfl (zg zz rfl) (R_sl hw.1)) hHeld ?_
 refine yv 8 rfl rfl (fun w1 hw=>xmv rfl (zi t1 rfl)) hHeld ?_
 refine yv 9 rfl rfl (fun w1 hw=>xmv rfl (zi t7 rfl)) hHeld ?_
 refine yv 10 rfl rfl (fun w1 hw=>xia rfl (zg zz rfl) (zg zz rfl) (R_ix hi hl _)) hHeld ?_
 refine yv 11 rfl rfl (fun w1 hw=>xfa rfl (zg zz rfl) (fg_128_3 _ _ _)) hHeld ?_
 refine yv 12 rfl rfl (fun w1 hw=>xia rfl (zg zz rfl) (zg zz rfl) (ix_ar _ o _)) hHeld ?_
 refine yv 13 rfl rfl (fun w1 hw=>xld rfl (zg zz rfl) (R_dn hw.1 hi o)) hHeld ?_
 refine yc 2 rfl rfl (exec_c2 rfl (zg zz rfl) (zg zz rfl)) (C1) (fun e x2 hx=> ?_)
 obtain ⟨rfl,S1,C2⟩:=hx
 refine ⟨_,rfl,S1,fun hHeld=> ?_⟩
 refine yc 14 rfl rfl (exec_c2 rfl (zg zz rfl) (zg zz rfl)) (C2) (fun e x14 hx=> ?_)
 obtain ⟨rfl,S2⟩:=hx
 refine ⟨_,rfl,S2,fun hHeld=> ?_⟩
 refine yv (v:= .int .i64 ((3*y:Nat):Int)) 15 rfl rfl (fun w1 hw=>ex_mulN (p:=3) rfl rfl (zg zz rfl) hm) hHeld ?_
 refine yv (v:= .bool r) 16 rfl rfl (fun w1 hw=>ex_leq rfl (zg zz rfl) (zg zz rfl) hr) hHeld ?_
 exact ye rfl (h _ _ (hHeld) rfl)
def even6_ops:Array Oper:=(⟨_,rfl⟩:{o // some o=rgB Tryz.f97 6}).1
theorem even6 {rb ro g cap:Nat} {L:List Sp} {p:Nat} {s o:Bool} (a:Act) (w:World) (Q:Exit→Act→World→Prop) (zz:a.tmps.size=79)
 (t0:a.tmps.getD 0 undef= .pointer (some ⟨rb,ro,none⟩))
 (t5:a.tmps.getD 5 undef= .int .i64 (nb s:Int))
 (t6:a.tmps.getD 6 undef= .int .i64 (p:Int))
 (t7:a.tmps.getD 7 undef= .int .i64 (nb o:Int))
 (hR:SqAt w rb ro g cap L) (hp:p<L.length)
 (h:∀a' w',w'=w.drew→a'=(((((((((((((((((((((a.put (some 41) (.pointer (some ⟨rb,ro,none⟩))).put (some 42) (.pointer (some ⟨rb,ro,none⟩))).put (some 43) (.pointer (some ⟨rb,ro+0,none⟩))).put (some 44) (.slice (some ⟨g,0,none⟩) (L).length cap)).put (some 45) (.int .i64 (p:Int))).put (some 46) (.int .i64 (nb o:Int))).put (some 47) (.pointer (some ⟨g,73*p,none⟩))).put (some 48) (.pointer (some ⟨g,73*p+69,none⟩))).put (some 49) (.pointer (some ⟨g,73*p+69+nb o,none⟩))).put (some 50) (.int .i64 (dn (gt L p) o:Int))).put (some 51) (.pointer (some ⟨rb,ro,none⟩))).put (some 52) (.pointer (some ⟨rb,ro,none⟩))).put (some 53) (.pointer (some ⟨rb,ro+0,none⟩))).put (some 54) (.slice (some ⟨g,0,none⟩) (L).length cap)).put (some 55) (.int .i64 (p:Int))).put (some 56) (.int .i64 (nb s:Int))).put (some 57) (.pointer (some ⟨g,73*p,none⟩))).put (some 58) (.pointer (some ⟨g,73*p+69,none⟩))).put (some 59) (.pointer (some ⟨g,73*p+69+nb s,none⟩))).put (some 60) (.int .i64 (dn (gt L p) s:Int))).put (some 8) (.int .i64 (dn (gt L p) o:Int))).put (some 9) (.int .i64 (dn (gt L p) s:Int))→Q .normal a' w') :
 (Code.region 6 even6_ops true).wp Tryz.prog Q a w:=by
 refine y0 (fun w'=>w'=w.drew) (rfl) (fun hHeld=> ?_)
 refine yv 0 rfl rfl (fun w1 hw=>xmv rfl (zi t0 rfl)) hHeld ?_
 refine yv 1 rfl rfl (fun w1 hw=>xnc rfl (zg zz rfl)) hHeld ?_
 refine yv 2 rfl rfl (fun w1 hw=>xfa rfl (zg zz rfl) (fg_75_0 _ _ _)) hHeld ?_
 refine yv 3 rfl rfl (fun w1 hw=>xld rfl (zg zz rfl) (R_sl (hw▸hR.drew))) hHeld ?_
 refine yv 4 rfl rfl (fun w1 hw=>xmv rfl (zi t6 rfl)) hHeld ?_
 refine yv 5 rfl rfl (fun w1 hw=>xmv rfl (zi t7 rfl)) hHeld ?_
 refine yv 6 rfl rfl (fun w1 hw=>xia rfl (zg zz rfl) (zg zz rfl) (R_ix hp hR.len _)) hHeld ?_
 refine yv 7 rfl rfl (fun w1 hw=>xfa rfl (zg zz rfl) (fg_128_3 _ _ _)) hHeld ?_
 refine yv 8 rfl rfl (fun w1 hw=>xia rfl (zg zz rfl) (zg zz rfl) (ix_ar _ o _)) hHeld ?_
 refine yv 9 rfl rfl (fun w1 hw=>xld rfl (zg zz rfl) (R_dn (hw▸hR.drew) hp o)) hHeld ?_
 refine yv 10 rfl rfl (fun w1 hw=>xmv rfl (zi t0 rfl)) hHeld ?_
 refine yv 11 rfl rfl (fun w1 hw=>xnc rfl (zg zz rfl)) hHeld ?_
 refine yv 12 rfl rfl (fun w1 hw=>xfa rfl (zg zz rfl) (fg_75_0 _ _ _)) hHeld ?_
 refine yv 13 rfl rfl (fun w1 hw=>xld rfl (zg zz rfl) (R_sl (hw▸hR.drew))) hHeld ?_
 refine yv 14 rfl rfl (fun w1 hw=>xmv rfl (zi t6 rfl)) hHeld ?_
 refine yv 15 rfl rfl (fun w1 hw=>xmv rfl (zi t5 rfl)) hHeld ?_
 refine yv 16 rfl rfl (fun w1 hw=>xia rfl (zg zz rfl) (zg zz rfl) (R_ix hp hR.len _)) hHeld ?_
 refine yv 17 rfl rfl (fun w1 hw=>xfa rfl (zg zz rfl) (fg_128_3 _ _ _)) hHeld ?_
 refine yv 18 rfl rfl (fun w1 hw=>xia rfl (zg zz rfl) (zg zz rfl) (ix_ar _ s _)) hHeld ?_
 refine yv 19 rfl rfl (fun w1 hw=>xld rfl (zg zz rfl) (R_dn (hw▸hR.drew) hp s)) hHeld ?_
 refine yv 20 rfl rfl (fun w1 hw=>xas rfl (zg zz rfl)) hHeld ?_
 refine yv 21 rfl rfl (fun w1 hw=>xas rfl (zg zz rfl)) hHeld ?_
 exact ye rfl (h _ _ (hHeld) rfl)
def even7_ops:Array Oper:=(⟨_,rfl⟩:{o // some o=rgB Tryz.f97 7}).1
theorem even7 {rb ro p q x y:Nat} {r:Bool} (Fin:World→Prop) (a:Act) (w:World) (Q:Exit→Act→World→Prop) (zz:a.tmps.size=79)
 (t0:a.tmps.getD 0 undef= .pointer (some ⟨rb,ro,none⟩))
 (t8:a.tmps.getD 8 undef= .int .i64 (p:Int))
 (t9:a.tmps.getD 9 undef= .int .i64 (q:Int))
 (hm:2*y≤9223372036854775807) (hr:decide ((x:Int)≥((2*y:Nat):Int))=r) (C1:Calls Tryz.prog 124 #[.pointer (some ⟨rb,ro,none⟩), .int .i64 (p:Int)] w fun e w'=>e= .returned (.int .i64 (x:Int))∧Calls Tryz.prog 124 #[.pointer (some ⟨rb,ro,none⟩), .int .i64 (q:Int)] w' fun e2 w2=>e2= .returned (.int .i64 (y:Int))∧Fin w2)
 (h:∀a' w',Fin w'→a'=(((((((a.put (some 61) (.pointer (some ⟨rb,ro,none⟩))).put (some 62) (.int .i64 (p:Int))).put (some 63) (.int .i64 (x:Int))).put (some 64) (.pointer (some ⟨rb,ro,none⟩))).put (some 65) (.int .i64 (q:Int))).put (some 66) (.int .i64 (y:Int))).put (some 67) (.int .i64 ((2*y:Nat):Int))).put (some 68) (.bool r)→Q .normal a' w') :
 (Code.region 7 even7_ops false).wp Tryz.prog Q a w:=by
 refine z0 rfl ?_
 refine zv rfl (xmv rfl (zi t0 rfl)) ?_
 refine zv rfl (xmv rfl (zi t8 rfl)) ?_
 refine zc rfl (exec_c2 rfl (zg zz rfl) (zg zz rfl)) (C1) (fun e x2 hx=> ?_)
 obtain ⟨rfl,C2⟩:=hx
 refine ⟨_,rfl, ?_⟩
 refine zv rfl (xmv rfl (zi t0 rfl)) ?_
 refine zv rfl (xmv rfl (zi t9 rfl)) ?_
 refine zc rfl (exec_c2 rfl (zg zz rfl) (zg zz rfl)) (C2) (fun e x5 hx=> ?_)
 obtain ⟨rfl,HF⟩:=hx
 refine ⟨_,rfl, ?_⟩
 refine zv (v:= .int .i64 ((2*y:Nat):Int)) rfl (ex_mulN (p:=2) rfl rfl (zg zz rfl) hm) ?_
 refine zv (v:= .bool r) rfl (ex_geq rfl (zg zz rfl) (zg zz rfl) hr) ?_
 exact ze rfl (h _ _ (HF) rfl)
def mend2_ops:Array Oper:=(⟨_,rfl⟩:{o // some o=rgB Tryz.f74 2}).1
theorem mend2 {rb ro g cap N i j k:Nat} (Fin:World→Prop) (a:Act) (w:World) (Q:Exit→Act→World→Prop) (zz:a.tmps.size=19)
 (t0:a.tmps.getD 0 undef= .pointer (some ⟨rb,ro,none⟩))
 (t1:a.tmps.getD 1 undef= .int .i64 (i:Int))
 (h0:MS rb ro g cap N w.drew) (XJ:∀W,(Instr.indexAt 73 (.slice (some ⟨g,0,none⟩) N cap) (.int .i64 (j:Int))).run Tryz.prog W= .ok (.pointer (some ⟨g,73*j,none⟩)) W) (CE:Calls Tryz.prog 97 #[.pointer (some ⟨rb,ro,none⟩), .int .i64 (i:Int)] w.drew fun e w'=>e= .returned (.int .i64 (j:Int))∧MS rb ro g cap N w'∧(Instr.loadAt 3 (.pointer (some ⟨g,73*j+68,none⟩))).run Tryz.prog w'= .ok (.int .i64 (k:Int)) w'∧Fin w')
 (h:∀a' w',Fin w'→a'=((((((((((a.put (some 9) (.pointer (some ⟨rb,ro,none⟩))).put (some 10) (.pointer (some ⟨rb,ro,none⟩))).put (some 11) (.pointer (some ⟨rb,ro+0,none⟩))).put (some 12) (.slice (some ⟨g,0,none⟩) N cap)).put (some 13) (.pointer (some ⟨rb,ro,none⟩))).put (some 14) (.int .i64 (i:Int))).put (some 15) (.int .i64 (j:Int))).put (some 16) (.pointer (some ⟨g,73*j,none⟩))).put (some 17) (.pointer (some ⟨g,73*j+68,none⟩))).put (some 18) (.int .i64 (k:Int))).put (some 1) (.int .i64 (k:Int))→Q .normal a' w') :
 (Code.region 2 mend2_ops true).wp Tryz.prog Q a w:=by
 refine y0 (fun w'=>MS rb ro g cap N w') (h0) (fun hHeld=> ?_)
 refine yv 0 rfl rfl (fun w1 hw=>xmv rfl (zi t0 rfl)) hHeld ?_
 refine yv 1 rfl rfl (fun w1 hw=>xnc rfl (zg zz rfl)) hHeld ?_
 refine yv 2 rfl rfl (fun w1 hw=>xfa rfl (zg zz rfl) (fg_75_0 _ _ _)) hHeld ?_
 refine yv 3 rfl rfl (fun w1 hw=>xld rfl (zg zz rfl) hw) hHeld ?_
 refine yv 4 rfl rfl (fun w1 hw=>xmv rfl (zi t0 rfl)) hHeld ?_
 refine yv 5 rfl rfl (fun w1 hw=>xmv rfl (zi t1 rfl)) hHeld ?_
 refine yc 6 rfl rfl (exec_c2 rfl (zg zz rfl) (zg zz rfl)) (CE) (fun e x6 hx=> ?_)
 obtain ⟨rfl,S1,LK,HF⟩:=hx
 refine ⟨_,rfl,S1,fun hHeld=> ?_⟩
 refine yv 7 rfl rfl (fun w1 hw=>xia rfl (zg zz rfl) (zg zz rfl) (XJ _)) hHeld ?_
 refine yv 8 rfl rfl (fun w1 hw=>xfa rfl (zg zz rfl) (fg_128_2 _ _ _)) hHeld ?_
 refine yr (v:= .int .i64 (k:Int)) 9 rfl rfl (xld rfl (zg zz rfl) LK) (S1) (fun hHeld=> ?_)
 refine yv 10 rfl rfl (fun w1 hw=>xas rfl (zg zz rfl)) hHeld ?_
 exact ye rfl (h _ _ (HF) rfl)
theorem ix_lt {L:List Sp} {p:Nat} {t:T} (h:Rep L p t) (h0:0<L.length):t.ix<L.length:=by
 cases t with
 |nil=>exact h0
 |nd i l r=>exact h.2.1
theorem ids_le {L:List Sp} {c:Ctx} {t:T} (z:Zip L c t):t.ids.length<L.length:=by
 have nd:=(List.nodup_append.1 z.nd).1
 have:(0::t.ids).Nodup:=List.nodup_cons.2 ⟨fun h=>(z.rep.mem 0 h).1 rfl,nd⟩
 have:=this.length_le_of_subset (l₂:=List.range L.length) (fun i hi=>by
  rcases List.mem_cons.1 hi with rfl|hi
  ·exact List.mem_range.2 z.repc.pos
  ·exact List.mem_range.2 (z.rep.mem i hi).2)
 simp at this
 omega
theorem cnt_le (L:List Sp) (w:Bool) (t:T):cnt L w t≤t.ids.length:=by
 unfold cnt
 exact List.countP_le_length
theorem Sq.Cnt.small {L:List Sp} {c:Ctx} {t:T} (h:Cnt L t) (z:Zip L c t) (w:Bool):ct (gt L t.ix) w<L.length:=by
 rw [h.at z.z w]
 have:=cnt_le L w t
 have:=ids_le z
 omega
section
variable {w:World} {rb ro g cap i:Nat} {L:List Sp}
theorem tally_nd {c:Ctx} {l r:T} (h:SqAt w rb ro g cap L) (z:Zip L c (.nd i l r)) (hl:Cnt L l) (hr:Cnt L r):Calls Tryz.prog 96 #[.pointer (some ⟨rb,ro,none⟩), .int .i64 (i:Int)] w fun e w'=>e= .returned (.tuple #[])∧Did w rb ro g cap (tally L i) w':=by
 obtain ⟨h1,h2,h3,h4,h5,h6,h7⟩:=z.rep
 have zl:=Zip.into (s:=false) (o:=r) z
 have zr:=Zip.into (s:=true) (o:=l) z
 have hp:=z.repc.pos
 have hlen:=h.len
 refine tally_any h h2 (by rw [h4];exact ix_lt h6 hp) (by rw [h5];exact ix_lt h7 hp) (fun e=> ?_) (fun d=> ?_) (fun d=> ?_)
 ·rw [h5] at e
  have nd:=(List.nodup_append.1 z.nd).1
  simp only [T.ids,List.nodup_append,List.nodup_cons] at nd
  exact nd.2.1.1 (e▸ix_mem (t:=r) (by rw [e];exact h1))
 ·rw [h4];have:=hl.small zl d;omega
 ·rw [h5];have:=hr.small zr d;omega
theorem tally_mk {c:Ctx} {s:Bool} {t o:T} (h:SqAt w rb ro g cap L) (z:Zip L c (mk i s t o)) (ht:Cnt L t) (ho:Cnt L o):Calls Tryz.prog 96 #[.pointer (some ⟨rb,ro,none⟩), .int .i64 (i:Int)] w fun e w'=>e= .returned (.tuple #[])∧Did w rb ro g cap (tally L i) w':=by
 cases s
 ·exact tally_nd h z ht ho
 ·exact tally_nd h z ho ht
theorem lift_any {c:Ctx} {a b:Nat} {s:Bool} {P Q Z:T} (h:SqAt w rb ro g cap L) (z:Zip L c (mk a s (mk b s P Q) Z)) (hP:Cnt L P) (hQ:Cnt L Q) (hZ:Cnt L Z) :
 Calls Tryz.prog 125 #[.pointer (some ⟨rb,ro,none⟩), .int .i64 (b:Int)] w fun e w'=>e= .returned (.tuple #[])∧Did w rb ro g cap (lift L b) w':=by
 obtain ⟨a1,a2,a3,a4,a5,a6,a7⟩:=rep_mk.1 z.rep
 obtain ⟨b1,b2,b3,b4,b5,b6,b7⟩:=rep_mk.1 a6
 have zi:=z.into
 have sb:sideOf L b=s:=by have:=zi.side (by rw [mk_ix];exact b1);rwa [mk_ix] at this
 have sa:sideOf L a=sd c:=by have:=z.side (by rw [mk_ix];exact a1);rwa [mk_ix] at this
 have hc:RepC L c a:=by have:=z.repc;rwa [mk_ix] at this
 have hu:=hc.up_lt
 have nd:=((mk_perm a s (mk b s P Q) Z).append_right (cids c)).nodup_iff.1 z.nd
 simp only [List.cons_append,List.nodup_cons,List.mem_append,not_or,List.nodup_append,mk_mem] at nd
 have nab:a≠b:=nd.1.1.1.1
 have nbC:b∉cids c:=fun hh=>nd.2.2.2 b (.inl (.inl rfl)) b hh rfl
 have ub:upOf c≠b:=fun e=>by
  rcases upOf_mem c with e0|e0
  ·omega
  ·exact nbC (e▸e0)
 obtain ⟨z1,k1,c1,_⟩:=lift0_zip z
 have sm:∀{t:T},Cnt L t→Cnt (lift0 L b) t:=fun h=>h.same (fun i _=>⟨k1.sh i,fun w=>c1 i w⟩)
 have zin:Zip (lift0 L b) ((b, !s,P)::c) (mk a s Q Z):=by
  rw [mk_flip b] at z1;exact z1.into
 have c2:=tally_cnt zin (sm hQ) (sm hZ)
 have z2:=z1.tally a1
 have nd1:=(((mk_perm b s P _).append_right _).nodup_iff.1 z1.nd)
 simp only [List.cons_append,List.nodup_cons,List.mem_append,not_or,List.nodup_append,mk_mem] at nd1
 have cP2:=(sm hP).tally (a:=a) (fun h=>nd1.2.1.2.2 a h a (.inl rfl) rfl)
 have e1:repl L a b=hang L (upOf c) (sd c) b:=by unfold repl;rw [a3,sa]
 have eQ:dn (gt (repl L a b) b) (!s)=Q.ix:=by rw [e1,hang_dn,if_neg (fun q=>ub q.1)];exact b5
 have qlt:Q.ix<L.length:=ix_lt b7 hc.pos
 have l1:(repl L a b).length=L.length:=by rw [e1,hang_len]
 have EL:=hidMk (show lift0 L b=hang (hang (repl L a b) a s Q.ix) b (!s) a from by
  unfold lift0
  simp only [b3,sb,eQ])
 have ELL:=hidMk (show lift L b=tally (tally (lift0 L b) a) b from by unfold lift;rw [b3])
 clear nd nd1 e1 nbC
 go_enter Tryz.func125,Tryz.ntmps125
 go_upto_region 0 with fail
 refine lift0r (s:=s) _ _ _ rfl rfl rfl h b2 h.len ?_ ?_
 ·refine (side_any h.drew b2 (by rw [b3];exact a2)).mono ?_
  rintro e w1 ⟨rfl,q1⟩
  exact ⟨by rw [sb],h.drew.qt q1,(Qt.drew w).trans q1⟩
 rw [b3]
 intro a' w1 hw ha
 subst ha
 simp only [Act.put,qsA,qsB,qsC]
 have d1:Did w rb ro g cap L w1:=⟨hw.1,hw.2.tch _,hw.2.size⟩
 have HR:=hidMk (replace_any d1.at' a2 (by rw [a3];exact hu) b2 (Ne.symm nab))
 clear hw
 go_upto_region 2 with (first
  |(go_at_call 152;refine HR.out.mono ?_;rintro e w2 ⟨rfl,d2⟩;clear HR)
  |fail)
 replace d2:=d1.trans d2
 refine lift2r (L:=repl L a b) (s:=s) (fun w'=>Did w rb ro g cap (hang (repl L a b) a s Q.ix) w') _ _ _ rfl rfl rfl rfl rfl d2.at' (by rw [l1];exact b2) ?_ ?_
 ·rw [eQ]
  refine (hang_any d2.at' (by rw [l1];exact a2) (by rw [l1];exact qlt)).mono ?_
  rintro e w3 ⟨rfl,d3⟩
  exact ⟨rfl,d2.trans d3⟩
 intro a' w3 d3 ha
 subst ha
 simp only [Act.put,qsA,qsB,qsC]
 go_upto_region 3 with fail
 refine lift3r (s:=s) (fun w'=>Did w rb ro g cap (lift0 L b) w') _ _ _ rfl rfl rfl rfl rfl ?_ ?_
 ·refine (hang_any d3.at' (by rw [hang_len,l1];exact b2) (by rw [hang_len,l1];exact a2)).mono ?_
  rintro e w4 ⟨rfl,d4⟩
  refine ⟨rfl, ?_⟩
  rw [EL.out]
  exact d3.trans d4
 intro a' w4 d4 ha
 subst ha
 simp only [Act.put,qsA,qsB,qsC]
 have HT1:=hidMk (tally_mk d4.at' zin (sm hQ) (sm hZ))
 have HT2:=hidMk (fun (w5:World) (d5:Did w4 rb ro g cap (tally (lift0 L b) a) w5)=>tally_mk d5.at' z2 cP2 c2)
 clear d1 d2 d3 eQ qlt
 go_wp2_with (first
  |(go_at_call_of 96 (Value.int .i64 (a:Int));refine HT1.out.mono ?_;rintro e w5 ⟨rfl,d5⟩;clear HT1)
  |(go_at_call_of 96 (Value.int .i64 (b:Int));refine (HT2.out _ d5).mono ?_;rintro e w6 ⟨rfl,d6⟩;clear HT2)
  |fail)
 go_end0
 refine ⟨rfl, ?_⟩
 rw [ELL.out]
 exact (d4.trans d5).trans d6
end
section
variable {w:World} {rb ro g cap i:Nat} {L:List Sp}
theorem wt_weight {c:Ctx} {t:T} (h:SqAt w rb ro g cap L) (z:Zip L c t) (hc:Cnt L t):Calls Tryz.prog 124 #[.pointer (some ⟨rb,ro,none⟩), .int .i64 (t.ix:Int)] w fun e w'=>e= .returned (.int .i64 (wt L t.ix:Int))∧w'=w:=by
 have:=hc.small z false
 have:=h.len
 exact weight_any h (ix_lt z.rep z.repc.pos) (by omega)
theorem wt_le {c:Ctx} {t:T} (h:SqAt w rb ro g cap L) (z:Zip L c t) (hc:Cnt L t):wt L t.ix≤1400000000000:=by
 have:=h.len
 unfold wt
 have h1:(gt L t.ix).ca<L.length:=by have:=hc.small z false;simpa [ct] using this
 omega
structure Hv (L:List Sp) (c:Ctx) (i:Nat) (s:Bool) (p q:Nat) (P Q Z:T):Prop where
 z:Zip L c (mk i s (mk p s P Q) Z)
 cP:Cnt L P
 cQ:Cnt L Q
 cZ:Cnt L Z
 q:Q.ix=q
 dp:dn (gt L i) s=p
 dP:dn (gt L p) s=P.ix
 dQ:dn (gt L p) (!s)=Q.ix
theorem hv_of {c:Ctx} {s:Bool} {B Z:T} (z:Zip L c (mk i s B Z)) (hc:Cnt L (mk i s B Z)) (hh:heavyAt L i s=true):∃p q P Q,Hv L c i s p q P Q Z:=by
 obtain ⟨h1,h2,h3,h4,h5,h6,h7⟩:=rep_mk.1 z.rep
 obtain ⟨_,cB,cZ⟩:=cnt_mk.1 hc
 have hB:B.ix≠0:=fun e=>by
  unfold heavyAt at hh
  rw [h4,h5,e,wt_nil z.z] at hh
  have:=wt_pos L Z.ix
  simp at hh
  omega
 obtain ⟨P,Q,eB⟩:=as_mk s hB
 obtain ⟨p,hp⟩:∃p,B.ix=p:=⟨_,rfl⟩
 rw [hp] at eB hB h4
 subst eB
 obtain ⟨b1,b2,b3,b4,b5,b6,b7⟩:=rep_mk.1 h6
 obtain ⟨_,cP,cQ⟩:=cnt_mk.1 cB
 exact ⟨p,Q.ix,P,Q,z,cP,cQ,cZ,rfl,h4,b4,b5⟩
theorem Hv.zQ {c:Ctx} {s:Bool} {p q:Nat} {P Q Z:T} (h:Hv L c i s p q P Q Z):Zip L ((p, !s,P)::(i,s,Z)::c) Q:=by
 have:=h.z.into
 rw [mk_flip p] at this
 exact this.into
theorem Hv.zP {c:Ctx} {s:Bool} {p q:Nat} {P Q Z:T} (h:Hv L c i s p q P Q Z):Zip L ((p,s,Q)::(i,s,Z)::c) P:=h.z.into.into
theorem Hv.evenAt {c:Ctx} {s:Bool} {p q:Nat} {P Q Z:T} (h:Hv L c i s p q P Q Z):Sq.evenAt L i s=if 2*wt L P.ix≤wt L Q.ix then (lift (lift L q) q,q) else (lift L p,p):=by
 unfold Sq.evenAt
 simp only [h.dp,h.dP,h.dQ,h.q]
theorem lift_two {c:Ctx} {s:Bool} {p q:Nat} {P Q Z:T} (h:SqAt w rb ro g cap L) (v:Hv L c i s p q P Q Z) (hin:2*wt L P.ix≤wt L Q.ix):Calls Tryz.prog 125 #[.pointer (some ⟨rb,ro,none⟩), .int .i64 (q:Int)] w fun e w'=>e= .returned (.tuple #[])∧Did w rb ro g cap (lift L q) w' ∧
 Calls Tryz.prog 125 #[.pointer (some ⟨rb,ro,none⟩), .int .i64 (q:Int)] w' fun e w2=>e= .returned (.tuple #[])∧Did w rb ro g cap (lift (lift L q) q) w2:=by
 have hQ:Q.ix≠0:=fun e=>by
  rw [e,wt_nil v.z.z] at hin
  have:=wt_pos L P.ix
  omega
 obtain ⟨P',Q',eQ⟩:=as_mk (!s) hQ
 rw [v.q] at eQ
 have z:=v.z
 have cQ:=v.cQ
 rw [eQ] at z cQ
 obtain ⟨_,cP',cQ'⟩:=cnt_mk.1 cQ
 have zin:Zip L ((i,s,Z)::c) (mk p (!s) (mk q (!s) P' Q') P):=by
  have:=z.into
  rwa [mk_flip p] at this
 obtain ⟨z1,c1,k1,e1⟩:=lift_zip zin cP' cQ' v.cP
 have z1o:=z1.out
 rw [mk_flip q (!s),Bool.not_not] at z1o c1
 obtain ⟨_,cX,cP1⟩:=cnt_mk.1 c1
 have nd:=((mk_perm i s _ Z).append_right (cids c)).nodup_iff.1 z.nd
 simp only [List.cons_append,List.nodup_cons,List.mem_append,not_or,List.nodup_append,mk_mem] at nd
 have nqZ:∀j∈Z.ids,j≠p∧j≠q:=fun j hj=>⟨fun e=>nd.2.1.2.2 p (.inl rfl) j hj e.symm,fun e=>nd.2.1.2.2 q (.inr (.inr (.inl rfl))) j hj e.symm⟩
 have cZ1:Cnt (lift L q) Z:=v.cZ.same (fun j hj=>⟨k1.sh j,fun w=>e1 j (nqZ j hj).1 (nqZ j hj).2 w⟩)
 refine (lift_any h zin cP' cQ' v.cP).mono ?_
 rintro e w1 ⟨rfl,d1⟩
 refine ⟨rfl,d1, ?_⟩
 refine (lift_any d1.at' z1o cX cP1 cZ1).mono ?_
 rintro e w2 ⟨rfl,d2⟩
 exact ⟨rfl,d1.trans d2⟩
theorem even_any {c:Ctx} {l r:T} (h:SqAt w rb ro g cap L) (z:Zip L c (.nd i l r)) (hc:Cnt L (.nd i l r)) :
 Calls Tryz.prog 97 #[.pointer (some ⟨rb,ro,none⟩), .int .i64 (i:Int)] w fun e w'=>e= .returned (.int .i64 ((even L i).2:Int))∧Did w rb ro g cap (even L i).1 w':=by
 have hi:i<L.length:=z.rep.2.1
 go_enter Tryz.func97,Tryz.ntmps97
 go_upto_region 1 with fail
 refine even1 _ _ _ rfl rfl rfl h hi ?_
 intro a' w1 hw ha
 subst ha
 obtain rfl:w1=w:=hw
 simp only [Act.put,qsA,qsB,qsC]
 go_wp2
 go_loopw [18] (fun v18 wr=> ∃k:Nat,v18= .int .i64 (k:Int)∧k≤2∧(1≤k→heavyAt L i false=false)∧(2≤k→heavyAt L i true=false)∧Did w1 rb ro g cap L wr) (fun v18 _=>2-(match v18 with | .int _ i=>i.toNat|_=>0))
 case atStart=>exact ⟨0,rfl,by omega,by omega,by omega,Did.refl h⟩
 case round =>
  obtain ⟨k,rfl,hk2,hf1,hf2,d⟩:=hrel
  by_cases hk:k<2
  ·have hk':(k:Int)<2:=by omega
   obtain ⟨s,hs⟩:∃s,s=wh k:=⟨_,rfl⟩
   have hnb:(k:Int)=((nb s:Nat):Int):=by
        have:k=0∨k=1:=by omega
        rw [hs]
        rcases this with rfl|rfl <;>rfl
   have hev:heavyAt L i s=true→even L i=evenAt L i s:=fun hh=>by
        have:k=0∨k=1:=by omega
        rcases this with rfl|rfl
        ·rw [show s=false from hs] at hh ⊢
         unfold even
         rw [if_pos hh]
        ·rw [show s=true from hs] at hh ⊢
         unfold even
         rw [if_neg (by rw [hf1 (by omega)];decide),if_pos hh]
   obtain ⟨B,Z,eT⟩:=as_mk s (t:= .nd i l r) (show i≠0 from z.rep.1)
   change T.nd i l r=mk i s B Z at eT
   have zB:=z
   have cB:=hc
   rw [eT] at zB cB
   obtain ⟨h1,h2,h3,h4,h5,h6,h7⟩:=rep_mk.1 zB.rep
   obtain ⟨_,cB1,cZ1⟩:=cnt_mk.1 cB
   have zB1:=zB.into
   have zZ1:Zip L ((i, !s,B)::c) Z:=by have:=zB;rw [mk_flip] at this;exact this.into
   have HWB:=hidMk (fun (W:World) (hW:SqAt W rb ro g cap L)=>wt_weight hW zB1 cB1)
   have HWZ:=hidMk (fun (W:World) (hW:SqAt W rb ro g cap L)=>wt_weight hW zZ1 cZ1)
   have bZ:=wt_le d.at' zZ1 cZ1
   have hhe:heavyAt L i s=decide (3*wt L Z.ix<wt L B.ix):=by unfold heavyAt;rw [h4,h5]
   have HX:=hidMk (show heavyAt L i s=false→(1≤k+1→heavyAt L i false=false)∧(2≤k+1→heavyAt L i true=false) from fun hq=>by
        have:k=0∨k=1:=by omega
        rcases this with rfl|rfl
        ·rw [show s=false from hs] at hq
         exact ⟨fun _=>hq,fun h=>by omega⟩
        ·rw [show s=true from hs] at hq
         exact ⟨fun _=>hf1 (by omega),fun _=>hq⟩)
   have HNB:=hidMk hnb
   have HEV:=hidMk hev
   clear hf1 hf2 zZ1 zB1 h6 h7 hs hev
   rw [hnb] at hk' ⊢
   clear hnb
   go_upto_region 3 with fail
   refine even3 (s:=s) (i:=i) _ _ _ rfl rfl rfl ?_
   intro a' w2 hw ha
   subst ha
   obtain rfl:w2=wr:=hw
   simp only [Act.put,qsA,qsB,qsC]
   go_upto_region 4 with fail
   refine even4 (s:=s) _ _ _ rfl rfl ?_
   intro a' w3 hw ha
   subst ha
   obtain rfl:w3=w2:=hw
   simp only [Act.put,qsA,qsB,qsC]
   go_upto_region 5 with fail
   refine even5 (L:=L) (p:=dn (gt L i) s) (o:= !s) (x:=wt L B.ix) (y:=wt L Z.ix) (r:= !(heavyAt L i s)) _ _ _ rfl rfl rfl rfl rfl d.at' hi h.len (by omega) ?_ ?_ ?_
   ·rw [hhe,Bool.eq_iff_iff]
    simp
    omega
   ·rw [h4,h5]
    refine (HWB.out _ d.at'.drew).mono ?_
    rintro e wa ⟨rfl,rfl⟩
    refine ⟨rfl,⟨d.at'.drew,Qt.drew _⟩, ?_⟩
    refine (HWZ.out _ d.at'.drew).mono ?_
    rintro e wb ⟨rfl,rfl⟩
    exact ⟨rfl,d.at'.drew,Qt.drew _⟩
   intro a' w4 hw ha
   subst ha
   replace d:=d.qt hw.2
   clear hw HWB HWZ hhe bZ
   simp only [Act.put,qsA,qsB,qsC]
   cases hh:heavyAt L i s with
   |false =>
    have H2:=hidMk (HX.out hh)
    clear hh HX HEV h1 h2 h3 h4 h5 zB cB cB1 cZ1 eT
    go_wp2
    rw [show (((nb s:Nat):Int)+1)=((k+1:Nat):Int) by have:=HNB.out;omega]
    refine ⟨⟨k+1,rfl,hk,H2.out.1,H2.out.2,d⟩, ?_⟩
    show 2-((k+1:Nat):Int).toNat<2-((nb s:Nat):Int).toNat
    rw [←HNB.out]
    omega
   |true =>
    have HE:=hidMk (HEV.out hh)
    obtain ⟨p,q,P,Q,v⟩:=hv_of zB cB hh
    have hpl:p<L.length:=by
     have:=(rep_mk.1 (rep_mk.1 v.z.rep).2.2.2.2.2.1).2.1
     exact this
    have HWQ:=hidMk (fun (W:World) (hW:SqAt W rb ro g cap L)=>wt_weight hW v.zQ v.cQ)
    have HWP:=hidMk (fun (W:World) (hW:SqAt W rb ro g cap L)=>wt_weight hW v.zP v.cP)
    have bP:=wt_le d.at' v.zP v.cP
    have HVE:=hidMk (v.evenAt)
    clear hh HX HEV h1 h2 h3 h4 h5 zB cB cB1 cZ1 eT HNB hk' hk hk2
    rw [v.dp]
    go_upto_region 6 with fail
    refine even6 (s:=s) (o:= !s) _ _ _ rfl rfl rfl rfl rfl d.at' hpl ?_
    rw [v.dP,v.dQ]
    intro a' w5 hw ha
    subst ha
    replace d:=d.qt (show Qt w4 w5 by rw [hw];exact Qt.drew _)
    clear hw
    simp only [Act.put,qsA,qsB,qsC]
    go_upto_region 7 with fail
    by_cases hin:2*wt L P.ix≤wt L Q.ix
    ·refine even7 (p:=Q.ix) (q:=P.ix) (x:=wt L Q.ix) (y:=wt L P.ix) (r:=true) (fun w'=>Did w1 rb ro g cap L w') _ _ _ rfl rfl rfl rfl (by omega) (by simp;omega) ?_ ?_
     ·refine (HWQ.out _ d.at').mono ?_
      rintro e wa ⟨rfl,rfl⟩
      refine ⟨rfl, ?_⟩
      refine (HWP.out _ d.at').mono ?_
      rintro e wb ⟨rfl,rfl⟩
      exact ⟨rfl,d⟩
     rw [v.q]
     intro a' w6 d6 ha
     subst ha
     simp only [Act.put,qsA,qsB,qsC]
     have H1:=hidMk (lift_two d6.at' v hin)
     have HF:=hidMk (show even L i=(lift (lift L q) q,q) by rw [HE.out,HVE.out,if_pos hin])
     clear hin HWQ HWP HE HVE bP d
     go_upto_region 10 with (first
      |(go_at_call 125;refine H1.out.mono ?_;rintro e w7 ⟨rfl,d7,H2⟩;replace H2:=hidMk H2;clear H1)
      |fail)
     go_wp2_with (first
      |(go_at_call 125;refine H2.out.mono ?_;rintro e w8 ⟨rfl,d8⟩;clear H2)
      |fail)
     go_ret
     refine ⟨by rw [HF.out];rfl, ?_⟩
     rw [HF.out]
     exact d6.trans d8
    ·refine even7 (p:=Q.ix) (q:=P.ix) (x:=wt L Q.ix) (y:=wt L P.ix) (r:=false) (fun w'=>Did w1 rb ro g cap L w') _ _ _ rfl rfl rfl rfl (by omega) (by simp;omega) ?_ ?_
     ·refine (HWQ.out _ d.at').mono ?_
      rintro e wa ⟨rfl,rfl⟩
      refine ⟨rfl, ?_⟩
      refine (HWP.out _ d.at').mono ?_
      rintro e wb ⟨rfl,rfl⟩
      exact ⟨rfl,d⟩
     intro a' w6 d6 ha
     subst ha
     simp only [Act.put,qsA,qsB,qsC]
     have H1:=hidMk (lift_any d6.at' v.z v.cP v.cQ v.cZ)
     have HF:=hidMk (show even L i=(lift L p,p) by rw [HE.out,HVE.out,if_neg hin])
     clear hin HWQ HWP HE HVE bP d
     go_wp2_with (first
      |(go_at_call 125;refine H1.out.mono ?_;rintro e w8 ⟨rfl,d8⟩;clear H1)
      |fail)
     go_ret
     refine ⟨by rw [HF.out];rfl, ?_⟩
     rw [HF.out]
     exact d6.trans d8
  ·obtain rfl:k=2:=by omega
   have HF:=hidMk (show even L i=(L,i) by unfold even;rw [if_neg (by rw [hf1 (by omega)];decide),if_neg (by rw [hf2 (by omega)];decide)])
   clear hk hk2 hf1 hf2
   go_wp2
   go_ret
   refine ⟨by rw [HF.out];rfl, ?_⟩
   rw [HF.out]
   exact d
end
def upW (w:World) (g a:Nat):Nat:=match w.cell? ⟨g,73*a+68,none⟩ with |some (.int _ n)=>n.toNat|_=>0
theorem upW_eq {w:World} {rb ro g cap:Nat} {L:List Sp} (h:SqAt w rb ro g cap L):∀a,a<L.length→upW w g a=(gt L a).up:=fun a ha=>by
 have:=R_cell h ha 1 _ rfl
 unfold upW
 rw [show 73*a+68=73*a+(67+1) by omega,this]
 simp
def MInv (L:List Sp) (a:Nat) (I:List Nat):Prop:=(a=0∧∃t,Zip L [] t∧Cnt L t∧t.ids=I)∨∃c i l r,a=i∧Mid L c (.nd i l r)∧(plug c (.nd i l r)).ids=I
theorem MInv.of_mid {L:List Sp} {c:Ctx} {t:T} (m:Mid L c t):MInv L t.ix (plug c t).ids:=by
 obtain ⟨z,hcc,i,l,r,rfl,hl,hr⟩:=m
 exact .inr ⟨c,i,l,r,rfl,⟨z,hcc,i,l,r,rfl,hl,hr⟩,rfl⟩
theorem MInv.of_up {L:List Sp} {c:Ctx} {t:T} (u:Up L c t):MInv L (upOf c) (plug c t).ids:=by
 rcases u.next with ⟨rfl,e⟩|⟨i,s,o,c',rfl,e,_,m⟩
 ·exact .inl ⟨e,t,u.1,u.2.2,rfl⟩
 ·have:=MInv.of_mid m
  rw [mk_ix] at this
  exact this
theorem dep_mid {L:List Sp} {c:Ctx} {i:Nat} {l r:T} (f:Nat→Nat) (hf:∀a,a<L.length→f a=(gt L a).up) (z:Zip L c (.nd i l r)):dep f L.length i=c.length+1:=by
 have hcl:=ctx_len z.repc (List.nodup_append.1 z.nd).2.1
 obtain ⟨h1,h2,h3,_⟩:=z.rep
 obtain ⟨n,hn⟩:∃n,L.length=n+1:=⟨L.length-1,by omega⟩
 rw [hn,dep,if_neg h1,hf i h2,h3,dep_ctx f hf c _ n z.repc (by omega)]
section
variable {w:World} {rb ro g cap i:Nat} {L:List Sp}
theorem mend_any {I:List Nat} (h:SqAt w rb ro g cap L) (m:MInv L i I) :
 Calls Tryz.prog 74 #[.pointer (some ⟨rb,ro,none⟩), .int .i64 (i:Int)] w fun e w'=>e= .returned (.tuple #[])∧∃L' t',Zip L' [] t'∧Cnt L' t'∧t'.ids=I∧Kept L L'∧Did w rb ro g cap L' w':=by
 obtain ⟨N,hN⟩:∃N,L.length=N:=⟨_,rfl⟩
 have hNl:N≤1400000000000:=by rw [←hN];exact h.len
 have HN:=hidMk hN
 clear hN
 go_enter Tryz.func74,Tryz.ntmps74
 go_wp2
 go_loopw [1] (fun v1 wr=> ∃(a:Nat) (L':List Sp),v1= .int .i64 (a:Int)∧MInv L' a I∧Kept L L'∧Did w rb ro g cap L' wr) (fun v1 wr=>dep (upW wr g) N (match v1 with | .int _ i=>i.toNat|_=>0))
 case atStart=>exact ⟨i,L,rfl,m,Kept.refl L,Did.refl h⟩
 case round =>
  clear m
  obtain ⟨a,L1,rfl,m,k,d⟩:=hrel
  rcases m with ⟨rfl,t,zt,ct,it⟩|⟨c,j,l,r,rfl,md,ip⟩
  ·have HP:=hidMk (show ∃L' t',Zip L' [] t'∧Cnt L' t'∧t'.ids=I∧Kept L L'∧Did w rb ro g cap L' wr from ⟨L1,t,zt,ct,it,k,d⟩)
   clear it zt ct k d
   go_wp2
   go_end0
   exact ⟨rfl,HP.out⟩
  ·obtain ⟨t',e2,eup,h0,up2,k2,ids2⟩:=md.step
   obtain ⟨z,hcc,_,_,_,eT,hl,hr⟩:=md
   cases eT
   replace e2:(even (tally L1 a) a).2=t'.ix:=e2
   replace eup:(gt (even (tally L1 a) a).1 t'.ix).up=upOf c:=eup
   replace k2:Kept L1 (even (tally L1 a) a).1:=k2
   replace up2:Up (even (tally L1 a) a).1 c t':=up2
   have ha0:a≠0:=z.rep.1
   have lL1:L1.length=N:=k.len.trans HN.out
   have HD:=hidMk (show dep (upW wr g) N a=c.length+1 by rw [←lL1];exact dep_mid _ (upW_eq d.at') z)
   have HT:=hidMk (tally_nd d.at' z hl hr)
   have HE:=hidMk (fun (W:World) (dW:Did wr rb ro g cap (tally L1 a) W)=>even_any dW.at'.drew (z.tally ha0) (tally_cnt (s:=false) z hl hr))
   have HK:=hidMk (k.trans k2)
   have HI:=hidMk (show (plug c t').ids=I by rw [←ip,plug_ids,plug_ids,ids2])
   have HU:=hidMk up2
   have l2:(even (tally L1 a) a).1.length=N:=k2.len.trans lL1
   obtain ⟨L2,hL2⟩:∃L2,(even (tally L1 a) a).1=L2:=⟨_,rfl⟩
   have hj:t'.ix<L2.length:=by rw [←hL2];exact ix_lt up2.1.rep up2.1.repc.pos
   rw [hL2] at HE HK HU l2 eup
   rw [e2] at HE
   have lT:(tally L1 a).length=N:=by rw [tally_len];exact lL1
   have E2:=hidMk eup
   have ha':¬(a:Int)=0:=by omega
   clear ip ids2 up2 k2 k e2 hcc hl hr hL2 eup
   go_upto_region 2 with (first
        |(go_at_call 96;refine HT.out.mono ?_;rintro e w1 ⟨rfl,d1⟩;clear HT)
        |fail)
   refine mend2 (g:=g) (cap:=cap) (N:=N) (j:=t'.ix) (k:=upOf c) (fun w'=>Did w rb ro g cap L2 w') _ _ _ rfl rfl rfl ?_ ?_ ?_ ?_
   ·have:=R_sl d1.at'.drew
    rw [lT] at this
    exact this
   ·intro W
    have:=R_ix (g:=g) (cap:=cap) hj (by rw [l2];exact hNl) W
    rwa [l2] at this
   ·refine (HE.out _ d1).mono ?_
    rintro e w2 ⟨rfl,d2⟩
    refine ⟨rfl, ?_, ?_,(d.trans d1).trans (Did.from (Qt.drew _) d2)⟩
    ·have:=R_sl d2.at'
     rw [l2] at this
     exact this
    ·have:=R_up d2.at' hj
     rwa [E2.out] at this
   intro a' w2 d2 ha
   subst ha
   simp only [Act.put,qsA,qsB,qsC]
   clear ha' HE l2 lT lL1 hj d1
   go_wp2
   refine ⟨⟨upOf c,L2,rfl, ?_,HK.out,d2⟩, ?_⟩
   ·rw [←HI.out]
    exact MInv.of_up HU.out
   ·show dep (upW w2 g) N (upOf c:Int).toNat<dep (upW wr g) N (a:Int).toNat
    have u:=HU.out
    have hl2:L2.length=N:=HK.out.len.trans HN.out
    have hcl:=ctx_len u.1.repc (List.nodup_append.1 u.1.nd).2.1
    rw [Int.toNat_natCast,Int.toNat_natCast,HD.out,dep_ctx _ (upW_eq d2.at') c _ N u.1.repc (by omega)]
    omega
end
def KS (kb:Nat) (k:KpV) (w':World):Prop:=(Instr.loadAt 78 (.pointer (some ⟨kb,0,none⟩))).run Tryz.prog w'= .ok (KpV.v k) w'
theorem build_sp0 (w:World) (a0 a1 a2 a3 a4 a5 a6 a7 a8 a9 a10 a11 a12 a13 a14 a15 a16 a17 a18 a19 a20 a21 a22 a23 a24 a25 a26 a27 a28 a29 a30 a31 a32 a33 a34 a35 a36 a37 a38 a39 a40 a41 a42 a43 a44 a45 a46 a47 a48 a49 a50 a51 a52 a53 a54 a55 a56 a57 a58 a59 a60 a61 a62 a63 a64 a65 a66:Value):(Instr.build 128 #[(0, .agg [a0,a1,a2,a3,a4,a5,a6,a7,a8,a9,a10,a11,a12,a13,a14,a15,a16,a17,a18,a19,a20,a21,a22,a23,a24,a25,a26,a27,a28,a29,a30,a31,a32,a33,a34,a35,a36,a37,a38,a39,a40,a41,a42,a43,a44,a45,a46,a47,a48,a49,a50,a51,a52,a53,a54,a55,a56,a57,a58,a59,a60,a61,a62,a63,a64,a65,a66].toArray),(1, .bool true)]).run Tryz.prog w= .ok (.agg ([a0,a1,a2,a3,a4,a5,a6,a7,a8,a9,a10,a11,a12,a13,a14,a15,a16,a17,a18,a19,a20,a21,a22,a23,a24,a25,a26,a27,a28,a29,a30,a31,a32,a33,a34,a35,a36,a37,a38,a39,a40,a41,a42,a43,a44,a45,a46,a47,a48,a49,a50,a51,a52,a53,a54,a55,a56,a57,a58,a59,a60,a61,a62,a63,a64,a65,a66]++[Value.bool true, .int .i64 0, .int .i64 0, .int .i64 0, .int .i64 0, .int .i64 0]).toArray) w:=by kernel_rfl
theorem build_sp (w:World) {k:KpV} (hk:KpV.ok k):(Instr.build 128 #[(0,KpV.v k),(1, .bool true)]).run Tryz.prog w= .ok (Sp.v ⟨k,true,0,0,0,0,0⟩) w:=by
 have h:=KpV.len hk
 unfold Sp.v Sp.c KpV.v
 simp only
 generalize KpV.c k=l at *
 match l,h with
 |a0::a1::a2::a3::a4::a5::a6::a7::a8::a9::a10::a11::a12::a13::a14::a15::a16::a17::a18::a19::a20::a21::a22::a23::a24::a25::a26::a27::a28::a29::a30::a31::a32::a33::a34::a35::a36::a37::a38::a39::a40::a41::a42::a43::a44::a45::a46::a47::a48::a49::a50::a51::a52::a53::a54::a55::a56::a57::a58::a59::a60::a61::a62::a63::a64::a65::a66::[],_=>exact build_sp0 w a0 a1 a2 a3 a4 a5 a6 a7 a8 a9 a10 a11 a12 a13 a14 a15 a16 a17 a18 a19 a20 a21 a22 a23 a24 a25 a26 a27 a28 a29 a30 a31 a32 a33 a34 a35 a36 a37 a38 a39 a40 a41 a42 a43 a44 a45 a46 a47 a48 a49 a50 a51 a52 a53 a54 a55 a56 a57 a58 a59 a60 a61 a62 a63 a64 a65 a66
theorem exec_bsp {w:World} {a:Act} {o:Oper} {x:Operand} {k:KpV} (hk:KpV.ok k) (ho:o.op= .build 128 #[(0,x),(1, .const (.bool true))]) (hx:a.eval x=KpV.v k):(execOp a.eval o).run Tryz.prog w= .ok (.value (Sp.v ⟨k,true,0,0,0,0,0⟩)) w :=
 exec_build ho (by simp [hx];rfl) (build_sp w hk)
theorem len_sl {g n c:Nat} (w:World):(Builtin.len_ #[73] 3 #[.slice (some ⟨g,0,none⟩) n c]).run Tryz.prog w= .ok (.int .i64 (n:Int)) w:=by go_simp
def root1_ops:Array Oper:=(⟨_,rfl⟩:{o // some o=rgB Tryz.f115 1}).1
theorem root1 {rb ro g cap:Nat} {L:List Sp} (a:Act) (w:World) (Q:Exit→Act→World→Prop) (zz:a.tmps.size=11)
 (t0:a.tmps.getD 0 undef= .pointer (some ⟨rb,ro,none⟩))
 (hR:SqAt w rb ro g cap L) (h0:0<L.length)
 (h:∀a' w',w'=w→a'=((((((((a.put (some 3) (.pointer (some ⟨rb,ro,none⟩))).put (some 4) (.pointer (some ⟨rb,ro,none⟩))).put (some 5) (.pointer (some ⟨rb,ro+0,none⟩))).put (some 6) (.slice (some ⟨g,0,none⟩) (L).length cap)).put (some 7) (.pointer (some ⟨g,73*0,none⟩))).put (some 8) (.pointer (some ⟨g,73*0+69,none⟩))).put (some 9) (.pointer (some ⟨g,73*0+69+nb true,none⟩))).put (some 10) (.int .i64 (dn (gt L 0) true:Int))).put (some 2) (.int .i64 (dn (gt L 0) true:Int))→Q .normal a' w') :
 (Code.region 1 root1_ops false).wp Tryz.prog Q a w:=by
 refine z0 rfl ?_
 refine zv rfl (xmv rfl (zi t0 rfl)) ?_
 refine zv rfl (xnc rfl (zg zz rfl)) ?_
 refine zv rfl (xfa rfl (zg zz rfl) (fg_75_0 _ _ _)) ?_
 refine zv rfl (xld rfl (zg zz rfl) (R_sl hR)) ?_
 refine zv rfl (xia rfl (zg zz rfl) rfl (R_ix h0 hR.len _)) ?_
 refine zv rfl (xfa rfl (zg zz rfl) (fg_128_3 _ _ _)) ?_
 refine zv rfl (xia rfl (zg zz rfl) rfl (ix_a1 _ _)) ?_
 refine zv rfl (xld rfl (zg zz rfl) (R_dn hR h0 true)) ?_
 refine zv rfl (xas rfl (zg zz rfl)) ?_
 exact ze rfl (h _ _ (rfl) rfl)
def many1_ops:Array Oper:=(⟨_,rfl⟩:{o // some o=rgB Tryz.f91 1}).1
theorem many1 {rb ro g cap:Nat} {L:List Sp} {i:Nat} {c:Bool} (a:Act) (w:World) (Q:Exit→Act→World→Prop) (zz:a.tmps.size=16)
 (t0:a.tmps.getD 0 undef= .pointer (some ⟨rb,ro,none⟩))
 (t1:a.tmps.getD 1 undef= .int .i64 (nb c:Int))
 (hR:SqAt w rb ro g cap L) (hi:i<L.length) (hl:L.length≤1400000000000) (CR:Calls Tryz.prog 115 #[.pointer (some ⟨rb,ro,none⟩)] w.drew fun e w'=>e= .returned (.int .i64 (i:Int))∧SqAt w' rb ro g cap L∧Qt w w')
 (h:∀a' w',SqAt w' rb ro g cap L∧Qt w w'→a'=(((((((((((a.put (some 5) (.pointer (some ⟨rb,ro,none⟩))).put (some 6) (.pointer (some ⟨rb,ro,none⟩))).put (some 7) (.pointer (some ⟨rb,ro+0,none⟩))).put (some 8) (.slice (some ⟨g,0,none⟩) (L).length cap)).put (some 9) (.pointer (some ⟨rb,ro,none⟩))).put (some 11) (.int .i64 (nb c:Int))).put (some 10) (.int .i64 (i:Int))).put (some 12) (.pointer (some ⟨g,73*i,none⟩))).put (some 13) (.pointer (some ⟨g,73*i+71,none⟩))).put (some 14) (.pointer (some ⟨g,73*i+71+nb c,none⟩))).put (some 15) (.int .i64 (ct (gt L i) c:Int))).put (some 4) (.int .i64 (ct (gt L i) c:Int))→Q .normal a' w') :
 (Code.region 1 many1_ops true).wp Tryz.prog Q a w:=by
 refine y0 (fun w'=>SqAt w' rb ro g cap L∧Qt w w') (⟨hR.drew,Qt.drew w⟩) (fun hHeld=> ?_)
 refine yv 0 rfl rfl (fun w1 hw=>xmv rfl (zi t0 rfl)) hHeld ?_
 refine yv 1 rfl rfl (fun w1 hw=>xnc rfl (zg zz rfl)) hHeld ?_
 refine yv 2 rfl rfl (fun w1 hw=>xfa rfl (zg zz rfl) (fg_75_0 _ _ _)) hHeld ?_
 refine yv 3 rfl rfl (fun w1 hw=>xld rfl (zg zz rfl) (R_sl hw.1)) hHeld ?_
 refine yv 4 rfl rfl (fun w1 hw=>xmv rfl (zi t0 rfl)) hHeld ?_
 refine yv 6 rfl rfl (fun w1 hw=>xmv rfl (zi t1 rfl)) hHeld ?_
 refine yc 5 rfl rfl (exec_c1 rfl (zg zz rfl)) (CR) (fun e x5 hx=> ?_)
 obtain ⟨rfl,S1⟩:=hx
 refine ⟨_,rfl,S1,fun hHeld=> ?_⟩
 refine yv 7 rfl rfl (fun w1 hw=>xia rfl (zg zz rfl) (zg zz rfl) (R_ix hi hl _)) hHeld ?_
 refine yv 8 rfl rfl (fun w1 hw=>xfa rfl (zg zz rfl) (fg_128_4 _ _ _)) hHeld ?_
 refine yv 9 rfl rfl (fun w1 hw=>xia rfl (zg zz rfl) (zg zz rfl) (ix_ar _ c _)) hHeld ?_
 refine yv 10 rfl rfl (fun w1 hw=>xld rfl (zg zz rfl) (R_ct hw.1 hi c)) hHeld ?_
 refine yv 11 rfl rfl (fun w1 hw=>xas rfl (zg zz rfl)) hHeld ?_
 exact ye rfl (h _ _ (hHeld) rfl)
def show0_ops:Array Oper:=(⟨_,rfl⟩:{o // some o=rgB Tryz.f51 0}).1
theorem show0 {rb ro g cap:Nat} {L:List Sp} {i:Nat} {b:Bool} {w2:World} (a:Act) (w:World) (Q:Exit→Act→World→Prop) (zz:a.tmps.size=17)
 (t0:a.tmps.getD 0 undef= .pointer (some ⟨rb,ro,none⟩))
 (t1:a.tmps.getD 1 undef= .int .i64 (i:Int))
 (t2:a.tmps.getD 2 undef= .bool b)
 (hR:SqAt w rb ro g cap L) (hi:i<L.length) (ES:(Instr.storeAt 4 (.pointer (some ⟨g,73*i+67,none⟩)) (.bool b)).run Tryz.prog w= .ok () w2)
 (h:∀a' w',w'=w2→a'=(((((((a.put (some 6) (.pointer (some ⟨rb,ro,none⟩))).put (some 7) (.pointer (some ⟨rb,ro,none⟩))).put (some 8) (.pointer (some ⟨rb,ro+0,none⟩))).put (some 9) (.slice (some ⟨g,0,none⟩) (L).length cap)).put (some 10) (.int .i64 (i:Int))).put (some 11) (.bool b)).put (some 12) (.pointer (some ⟨g,73*i,none⟩))).put (some 13) (.pointer (some ⟨g,73*i+67,none⟩))→Q .normal a' w') :
 (Code.region 0 show0_ops false).wp Tryz.prog Q a w:=by
 refine z0 rfl ?_
 refine zv rfl (xmv rfl (zi t0 rfl)) ?_
 refine zv rfl (xnc rfl (zg zz rfl)) ?_
 refine zv rfl (xfa rfl (zg zz rfl) (fg_75_0 _ _ _)) ?_
 refine zv rfl (xld rfl (zg zz rfl) (R_sl hR)) ?_
 refine zv rfl (xmv rfl (zi t1 rfl)) ?_
 refine zv rfl (xmv rfl (zi t2 rfl)) ?_
 refine zv rfl (xia rfl (zg zz rfl) (zg zz rfl) (R_ix hi hR.len _)) ?_
 refine zv rfl (xfa rfl (zg zz rfl) (fg_128_1 _ _ _)) ?_
 refine zs rfl (exec_store rfl (zg zz rfl) (zg zz rfl) ES) ?_
 exact ze rfl (h _ _ (rfl) rfl)
def put1_ops:Array Oper:=(⟨_,rfl⟩:{o // some o=rgB Tryz.f49 1}).1
theorem put1 {rb ro g cap:Nat} {L:List Sp} (a:Act) (w:World) (Q:Exit→Act→World→Prop) (zz:a.tmps.size=50)
 (t0:a.tmps.getD 0 undef= .pointer (some ⟨rb,ro,none⟩))
 (hR:SqAt w rb ro g cap L)
 (h:∀a' w',w'=w→a'=(((((a.put (some 9) (.pointer (some ⟨rb,ro,none⟩))).put (some 10) (.pointer (some ⟨rb,ro,none⟩))).put (some 11) (.pointer (some ⟨rb,ro+0,none⟩))).put (some 12) (.slice (some ⟨g,0,none⟩) (L).length cap)).put (some 13) (.int .i64 (L.length:Int))).put (some 7) (.int .i64 (L.length:Int))→Q .normal a' w') :
 (Code.region 1 put1_ops false).wp Tryz.prog Q a w:=by
 refine z0 rfl ?_
 refine zv rfl (xmv rfl (zi t0 rfl)) ?_
 refine zv rfl (xnc rfl (zg zz rfl)) ?_
 refine zv rfl (xfa rfl (zg zz rfl) (fg_75_0 _ _ _)) ?_
 refine zv rfl (xld rfl (zg zz rfl) (R_sl hR)) ?_
 refine zv rfl (exec_len rfl (zg zz rfl) (len_sl _)) ?_
 refine zv rfl (xas rfl (zg zz rfl)) ?_
 exact ze rfl (h _ _ (rfl) rfl)
def put2_o0:Oper:=⟨some 14, .move (.tmp 0),129,"row.go:64", #[],none⟩
def put2_o1:Oper:=⟨some 15, .move (.tmp 0),129,"row.go:64", #[],none⟩
def put2_o2:Oper:=⟨some 16, .nilCheck (.tmp 15),0,"row.go:64", #[⟨1, .data⟩],none⟩
def put2_o3:Oper:=⟨some 17, .fieldAddr 75 (.tmp 16) 0,0,"row.go:64", #[⟨2, .data⟩],none⟩
def put2_o4:Oper:=⟨some 18, .load 73 (.tmp 17),73,"row.go:64", #[⟨3, .data⟩],none⟩
def put2_o5:Oper:=⟨some 19, .load 78 (.tmp 5),78,"row.go:64", #[],none⟩
def put2_o6:Oper:=⟨some 20, .build 128 #[(0, .tmp 19),(1,Operand.const (Value.bool true))],128,"row.go:64", #[⟨5, .data⟩],none⟩
def put2_o7:Oper:=⟨some 21, .buildSlice 73 1 #[(0, .tmp 20)],73,"row.go:64", #[⟨6, .data⟩],none⟩
def put2_o8:Oper:=⟨some 22, .call {callee:=Callee.builtin Builtin.append,args:= #[.tmp 18, .tmp 21],argTypes:= #[73,73]},73,"row.go:64", #[⟨4, .data⟩,⟨7, .data⟩],none⟩
def put2_o9:Oper:=⟨some 23, .nilCheck (.tmp 14),0,"row.go:64", #[⟨0, .data⟩,⟨0, .phase⟩,⟨1, .phase⟩,⟨2, .phase⟩,⟨3, .phase⟩,⟨4, .phase⟩,⟨5, .phase⟩,⟨6, .phase⟩,⟨7, .phase⟩,⟨8, .phase⟩],none⟩
def put2_o10:Oper:=⟨some 24, .fieldAddr 75 (.tmp 23) 0,0,"row.go:64", #[⟨9, .data⟩,⟨0, .phase⟩,⟨1, .phase⟩,⟨2, .phase⟩,⟨3, .phase⟩,⟨4, .phase⟩,⟨5, .phase⟩,⟨6, .phase⟩,⟨7, .phase⟩,⟨8, .phase⟩],none⟩
def put2_o11:Oper:=⟨none, .store 73 (.tmp 24) (.tmp 22),0,"row.go:64", #[⟨10, .data⟩,⟨8, .data⟩,⟨8, .chain⟩,⟨0, .phase⟩,⟨1, .phase⟩,⟨2, .phase⟩,⟨3, .phase⟩,⟨4, .phase⟩,⟨5, .phase⟩,⟨6, .phase⟩,⟨7, .phase⟩,⟨8, .phase⟩],none⟩
def put2_ops:Array Oper:= #[put2_o0,put2_o1,put2_o2,put2_o3,put2_o4,put2_o5,put2_o6,put2_o7,put2_o8,put2_o9,put2_o10,put2_o11]
theorem put2 {rb ro g cap:Nat} {L:List Sp} {kb:Nat} {k:KpV} {lv qv:Value} {w1 w2 w3:World} (a:Act) (w:World) (Q:Exit→Act→World→Prop) (hsz:a.tmps.size=50)
 (t0:a.tmps.getD 0 undef= .pointer (some ⟨rb,ro,none⟩))
 (t5:a.tmps.getD 5 undef= .pointer (some ⟨kb,0,none⟩))
 (hk:KpV.ok k) (h0:KS kb k w.drew) (LA:(Instr.loadAt 73 (.pointer (some ⟨rb,ro+0,none⟩))).run Tryz.prog w.drew= .ok (.slice (some ⟨g,0,none⟩) L.length cap) w.drew) (EB:(Instr.buildSlice 73 1 #[(0,Sp.v ⟨k,true,0,0,0,0,0⟩)]).run Tryz.prog w.drew= .ok lv w1) (S1:KS kb k w1) (LB:(Instr.loadAt 73 (.pointer (some ⟨rb,ro+0,none⟩))).run Tryz.prog w1= .ok (.slice (some ⟨g,0,none⟩) L.length cap) w1) (EA:(Builtin.append_ #[73,73] 73 #[.slice (some ⟨g,0,none⟩) L.length cap,lv]).run Tryz.prog w1= .ok qv w2) (S2:KS kb k w2) (ES:(Instr.storeAt 73 (.pointer (some ⟨rb,ro+0,none⟩)) qv).run Tryz.prog w2= .ok () w3) (S3:KS kb k w3)
 (h1:∀a' w',w'=w3→a'=((((((((((a.put (some 14) (.pointer (some ⟨rb,ro,none⟩))).put (some 15) (.pointer (some ⟨rb,ro,none⟩))).put (some 16) (.pointer (some ⟨rb,ro,none⟩))).put (some 17) (.pointer (some ⟨rb,ro+0,none⟩))).put (some 19) (KpV.v k)).put (some 20) (Sp.v ⟨k,true,0,0,0,0,0⟩)).put (some 18) (.slice (some ⟨g,0,none⟩) L.length cap)).put (some 21) (lv)).put (some 22) (qv)).put (some 23) (.pointer (some ⟨rb,ro,none⟩))).put (some 24) (.pointer (some ⟨rb,ro+0,none⟩))→Q .normal a' w')
 (h2:∀a' w',w'=w3→a'=((((((((((a.put (some 14) (.pointer (some ⟨rb,ro,none⟩))).put (some 15) (.pointer (some ⟨rb,ro,none⟩))).put (some 16) (.pointer (some ⟨rb,ro,none⟩))).put (some 17) (.pointer (some ⟨rb,ro+0,none⟩))).put (some 19) (KpV.v k)).put (some 20) (Sp.v ⟨k,true,0,0,0,0,0⟩)).put (some 21) (lv)).put (some 18) (.slice (some ⟨g,0,none⟩) L.length cap)).put (some 22) (qv)).put (some 23) (.pointer (some ⟨rb,ro,none⟩))).put (some 24) (.pointer (some ⟨rb,ro+0,none⟩))→Q .normal a' w') :
 (Code.region 2 put2_ops true).wp Tryz.prog Q a w:=by
 refine wp_region_noPanic ?_
 refine wp_region_held_drew (S:=fun w'=>(Instr.loadAt 78 (.pointer (some ⟨kb,0,none⟩))).run Tryz.prog w'= .ok (KpV.v k) w') (by kernel_rfl) (h0) (fun hHeld=> ?_)
 refine wpAnyH_take (i:=0) (oi:=put2_o0) (v:= .pointer (some ⟨rb,ro,none⟩)) rfl (by kernel_rfl) (by kernel_rfl) (by kernel_rfl) (fun _ _ _ h=>h) (Or.inl ⟨by rfl,fun w1 hw=>xmv rfl t0⟩) hHeld ?_
 change wpAnyH _ _ _ _ _ _ _ (a.put (some 14) (.pointer (some ⟨rb,ro,none⟩))) _
 obtain ⟨a1,e1⟩:∃act,act=a.put (some 14) (.pointer (some ⟨rb,ro,none⟩)):=⟨_,rfl⟩
 rw [←e1] at h1 h2 ⊢
 have z1:=pz e1 hsz
 replace t0:=pk e1 t0
 replace t5:=pk e1 t5
 have t14:=pq e1 hsz
 clear e1 hsz
 refine wpAnyH_take (i:=1) (oi:=put2_o1) (v:= .pointer (some ⟨rb,ro,none⟩)) rfl (by kernel_rfl) (by kernel_rfl) (by kernel_rfl) (fun _ _ _ h=>h) (Or.inl ⟨by rfl,fun w1 hw=>xmv rfl t0⟩) hHeld ?_
 change wpAnyH _ _ _ _ _ _ _ (a1.put (some 15) (.pointer (some ⟨rb,ro,none⟩))) _
 obtain ⟨a2,e2⟩:∃act,act=a1.put (some 15) (.pointer (some ⟨rb,ro,none⟩)):=⟨_,rfl⟩
 rw [←e2] at h1 h2 ⊢
 have z2:=pz e2 z1
 replace t5:=pk e2 t5
 replace t14:=pk e2 t14
 clear t0
 have t15:=pq e2 z1
 clear e2 z1
 refine wpAnyH_take (i:=2) (oi:=put2_o2) (v:= .pointer (some ⟨rb,ro,none⟩)) rfl (by kernel_rfl) (by kernel_rfl) (by kernel_rfl) (fun _ _ _ h=>h) (Or.inl ⟨by rfl,fun w1 hw=>xnc rfl t15⟩) hHeld ?_
 change wpAnyH _ _ _ _ _ _ _ (a2.put (some 16) (.pointer (some ⟨rb,ro,none⟩))) _
 obtain ⟨a3,e3⟩:∃act,act=a2.put (some 16) (.pointer (some ⟨rb,ro,none⟩)):=⟨_,rfl⟩
 rw [←e3] at h1 h2 ⊢
 have z3:=pz e3 z2
 replace t5:=pk e3 t5
 replace t14:=pk e3 t14
 clear t15
 have t16:=pq e3 z2
 clear e3 z2
 refine wpAnyH_take (i:=3) (oi:=put2_o3) (v:= .pointer (some ⟨rb,ro+0,none⟩)) rfl (by kernel_rfl) (by kernel_rfl) (by kernel_rfl) (fun _ _ _ h=>h) (Or.inl ⟨by rfl,fun w1 hw=>xfa rfl t16 (fg_75_0 _ _ _)⟩) hHeld ?_
 change wpAnyH _ _ _ _ _ _ _ (a3.put (some 17) (.pointer (some ⟨rb,ro+0,none⟩))) _
 obtain ⟨a4,e4⟩:∃act,act=a3.put (some 17) (.pointer (some ⟨rb,ro+0,none⟩)):=⟨_,rfl⟩
 rw [←e4] at h1 h2 ⊢
 have z4:=pz e4 z3
 replace t5:=pk e4 t5
 replace t14:=pk e4 t14
 clear t16
 have t17:=pq e4 z3
 clear e4 z3
 refine wpAnyH_take (i:=5) (oi:=put2_o5) (v:=KpV.v k) rfl (by kernel_rfl) (by kernel_rfl) (by kernel_rfl) (fun _ _ _ h=>h) (Or.inl ⟨by rfl,fun w1 hw=>xld rfl t5 hw⟩) hHeld ?_
 change wpAnyH _ _ _ _ _ _ _ (a4.put (some 19) (KpV.v k)) _
 obtain ⟨a5,e5⟩:∃act,act=a4.put (some 19) (KpV.v k):=⟨_,rfl⟩
 rw [←e5] at h1 h2 ⊢
 have z5:=pz e5 z4
 replace t14:=pk e5 t14
 replace t17:=pk e5 t17
 clear t5
 have t19:=pq e5 z4
 clear e5 z4
 refine wpAnyH_take (i:=6) (oi:=put2_o6) (v:=Sp.v ⟨k,true,0,0,0,0,0⟩) rfl (by kernel_rfl) (by kernel_rfl) (by kernel_rfl) (fun _ _ _ h=>h) (Or.inl ⟨by rfl,fun w1 hw=>exec_bsp hk rfl t19⟩) hHeld ?_
 change wpAnyH _ _ _ _ _ _ _ (a5.put (some 20) (Sp.v ⟨k,true,0,0,0,0,0⟩)) _
 obtain ⟨a6,e6⟩:∃act,act=a5.put (some 20) (Sp.v ⟨k,true,0,0,0,0,0⟩):=⟨_,rfl⟩
 rw [←e6] at h1 h2 ⊢
 have z6:=pz e6 z5
 replace t14:=pk e6 t14
 replace t17:=pk e6 t17
 clear t19
 have t20:=pq e6 z5
 clear e6 z5
 refine wpAnyH_ready (rs:=[4,7]) (by kernel_rfl) (by simp) ?_
 refine AllReadyH.cons (o:=put2_o4) rfl (fun K hK=> ?_) (AllReadyH.cons (o:=put2_o7) rfl (fun K hK=> ?_) (AllReadyH.nil))
 ·clear h2
  have X:=xld (P:=Tryz.prog) (a:=a6) (o:=put2_o4) rfl t17 LA
  rw [if_pos (by rfl),Oper.wp,X]
  show K _ _
  clear X
  refine hK.out _ _ (h0) (fun hHeld=> ?_)
  clear hK K
  change wpAnyH _ _ _ _ _ _ _ (a6.put (some 18) (.slice (some ⟨g,0,none⟩) L.length cap)) _
  obtain ⟨a7,e7⟩:∃act,act=a6.put (some 18) (.slice (some ⟨g,0,none⟩) L.length cap):=⟨_,rfl⟩
  rw [←e7] at h1 ⊢
  have z7:=pz e7 z6
  replace t14:=pk e7 t14
  replace t20:=pk e7 t20
  clear t17
  have t18:=pq e7 z6
  clear e7 z6
  refine wpAnyH_ready (rs:=[7]) (by kernel_rfl) (by simp) ?_
  refine AllReadyH.cons (o:=put2_o7) rfl (fun K hK=> ?_) AllReadyH.nil
  have X:=exec_buildSlice (P:=Tryz.prog) (a:=a7) (o:=put2_o7) rfl t20 EB
  rw [if_pos (by rfl),Oper.wp,X]
  show K _ _
  clear X
  refine hK.out _ _ (S1) (fun hHeld=> ?_)
  clear hK K
  change wpAnyH _ _ _ _ _ _ _ (a7.put (some 21) (lv)) _
  obtain ⟨a8,e8⟩:∃act,act=a7.put (some 21) (lv):=⟨_,rfl⟩
  rw [←e8] at h1 ⊢
  have z8:=pz e8 z7
  replace t14:=pk e8 t14
  replace t18:=pk e8 t18
  clear t20
  have t21:=pq e8 z7
  clear e8 z7
  refine wpAnyH_ready (rs:=[8]) (by kernel_rfl) (by simp) ?_
  refine AllReadyH.cons (o:=put2_o8) rfl (fun K hK=> ?_) AllReadyH.nil
  have X:=exec_append (P:=Tryz.prog) (a:=a8) (o:=put2_o8) rfl t18 t21 EA
  rw [if_pos (by rfl),Oper.wp,X]
  show K _ _
  clear X
  refine hK.out _ _ (S2) (fun hHeld=> ?_)
  clear hK K
  change wpAnyH _ _ _ _ _ _ _ (a8.put (some 22) (qv)) _
  obtain ⟨a9,e9⟩:∃act,act=a8.put (some 22) (qv):=⟨_,rfl⟩
  rw [←e9] at h1 ⊢
  have z9:=pz e9 z8
  replace t14:=pk e9 t14
  clear t18 t21
  have t22:=pq e9 z8
  clear e9 z8
  refine wpAnyH_take (i:=9) (oi:=put2_o9) (v:= .pointer (some ⟨rb,ro,none⟩)) rfl (by kernel_rfl) (by kernel_rfl) (by kernel_rfl) (fun _ _ _ h=>h) (Or.inl ⟨by rfl,fun w1 hw=>xnc rfl t14⟩) hHeld ?_
  change wpAnyH _ _ _ _ _ _ _ (a9.put (some 23) (.pointer (some ⟨rb,ro,none⟩))) _
  obtain ⟨a10,e10⟩:∃act,act=a9.put (some 23) (.pointer (some ⟨rb,ro,none⟩)):=⟨_,rfl⟩
  rw [←e10] at h1 ⊢
  have z10:=pz e10 z9
  replace t22:=pk e10 t22
  clear t14
  have t23:=pq e10 z9
  clear e10 z9
  refine wpAnyH_take (i:=10) (oi:=put2_o10) (v:= .pointer (some ⟨rb,ro+0,none⟩)) rfl (by kernel_rfl) (by kernel_rfl) (by kernel_rfl) (fun _ _ _ h=>h) (Or.inl ⟨by rfl,fun w1 hw=>xfa rfl t23 (fg_75_0 _ _ _)⟩) hHeld ?_
  change wpAnyH _ _ _ _ _ _ _ (a10.put (some 24) (.pointer (some ⟨rb,ro+0,none⟩))) _
  obtain ⟨a11,e11⟩:∃act,act=a10.put (some 24) (.pointer (some ⟨rb,ro+0,none⟩)):=⟨_,rfl⟩
  rw [←e11] at h1 ⊢
  have z11:=pz e11 z10
  replace t22:=pk e11 t22
  clear t23
  have t24:=pq e11 z10
  clear e11 z10
  refine wpAnyH_ready (rs:=[11]) (by kernel_rfl) (by simp) ?_
  refine AllReadyH.cons (o:=put2_o11) rfl (fun K hK=> ?_) AllReadyH.nil
  have X:=exec_store (P:=Tryz.prog) (a:=a11) (o:=put2_o11) rfl t24 t22 ES
  rw [if_pos (by rfl),Oper.wp,X]
  show K _ _
  clear X
  refine hK.out _ _ (S3) (fun hHeld=> ?_)
  clear hK K
  exact wpAnyH_done (by kernel_rfl) (NoPanic.normal (h1 _ _ (rfl) rfl)) _
 ·clear h1
  have X:=exec_buildSlice (P:=Tryz.prog) (a:=a6) (o:=put2_o7) rfl t20 EB
  rw [if_pos (by rfl),Oper.wp,X]
  show K _ _
  clear X
  refine hK.out _ _ (S1) (fun hHeld=> ?_)
  clear hK K
  change wpAnyH _ _ _ _ _ _ _ (a6.put (some 21) (lv)) _
  obtain ⟨a13,e13⟩:∃act,act=a6.put (some 21) (lv):=⟨_,rfl⟩
  rw [←e13] at h2 ⊢
  have z13:=pz e13 z6
  replace t14:=pk e13 t14
  replace t17:=pk e13 t17
  clear t20
  have t21:=pq e13 z6
  clear e13 z6
  refine wpAnyH_ready (rs:=[4]) (by kernel_rfl) (by simp) ?_
  refine AllReadyH.cons (o:=put2_o4) rfl (fun K hK=> ?_) AllReadyH.nil
  have X:=xld (P:=Tryz.prog) (a:=a13) (o:=put2_o4) rfl t17 LB
  rw [if_pos (by rfl),Oper.wp,X]
  show K _ _
  clear X
  refine hK.out _ _ (S1) (fun hHeld=> ?_)
  clear hK K
  change wpAnyH _ _ _ _ _ _ _ (a13.put (some 18) (.slice (some ⟨g,0,none⟩) L.length cap)) _
  obtain ⟨a14,e14⟩:∃act,act=a13.put (some 18) (.slice (some ⟨g,0,none⟩) L.length cap):=⟨_,rfl⟩
  rw [←e14] at h2 ⊢
  have z14:=pz e14 z13
  replace t14:=pk e14 t14
  replace t21:=pk e14 t21
  clear t17
  have t18:=pq e14 z13
  clear e14 z13
  refine wpAnyH_ready (rs:=[8]) (by kernel_rfl) (by simp) ?_
  refine AllReadyH.cons (o:=put2_o8) rfl (fun K hK=> ?_) AllReadyH.nil
  have X:=exec_append (P:=Tryz.prog) (a:=a14) (o:=put2_o8) rfl t18 t21 EA
  rw [if_pos (by rfl),Oper.wp,X]
  show K _ _
  clear X
  refine hK.out _ _ (S2) (fun hHeld=> ?_)
  clear hK K
  change wpAnyH _ _ _ _ _ _ _ (a14.put (some 22) (qv)) _
  obtain ⟨a15,e15⟩:∃act,act=a14.put (some 22) (qv):=⟨_,rfl⟩
  rw [←e15] at h2 ⊢
  have z15:=pz e15 z14
  replace t14:=pk e15 t14
  clear t21 t18
  have t22:=pq e15 z14
  clear e15 z14
  refine wpAnyH_take (i:=9) (oi:=put2_o9) (v:= .pointer (some ⟨rb,ro,none⟩)) rfl (by kernel_rfl) (by kernel_rfl) (by kernel_rfl) (fun _ _ _ h=>h) (Or.inl ⟨by rfl,fun w1 hw=>xnc rfl t14⟩) hHeld ?_
  change wpAnyH _ _ _ _ _ _ _ (a15.put (some 23) (.pointer (some ⟨rb,ro,none⟩))) _
  obtain ⟨a16,e16⟩:∃act,act=a15.put (some 23) (.pointer (some ⟨rb,ro,none⟩)):=⟨_,rfl⟩
  rw [←e16] at h2 ⊢
  have z16:=pz e16 z15
  replace t22:=pk e16 t22
  clear t14
  have t23:=pq e16 z15
  clear e16 z15
  refine wpAnyH_take (i:=10) (oi:=put2_o10) (v:= .pointer (some ⟨rb,ro+0,none⟩)) rfl (by kernel_rfl) (by kernel_rfl) (by kernel_rfl) (fun _ _ _ h=>h) (Or.inl ⟨by rfl,fun w1 hw=>xfa rfl t23 (fg_75_0 _ _ _)⟩) hHeld ?_
  change wpAnyH _ _ _ _ _ _ _ (a16.put (some 24) (.pointer (some ⟨rb,ro+0,none⟩))) _
  obtain ⟨a17,e17⟩:∃act,act=a16.put (some 24) (.pointer (some ⟨rb,ro+0,none⟩)):=⟨_,rfl⟩
  rw [←e17] at h2 ⊢
  have z17:=pz e17 z16
  replace t22:=pk e17 t22
  clear t23
  have t24:=pq e17 z16
  clear e17 z16
  refine wpAnyH_ready (rs:=[11]) (by kernel_rfl) (by simp) ?_
  refine AllReadyH.cons (o:=put2_o11) rfl (fun K hK=> ?_) AllReadyH.nil
  have X:=exec_store (P:=Tryz.prog) (a:=a17) (o:=put2_o11) rfl t24 t22 ES
  rw [if_pos (by rfl),Oper.wp,X]
  show K _ _
  clear X
  refine hK.out _ _ (S3) (fun hHeld=> ?_)
  clear hK K
  exact wpAnyH_done (by kernel_rfl) (NoPanic.normal (h2 _ _ (rfl) rfl)) _
def put3_ops:Array Oper:=(⟨_,rfl⟩:{o // some o=rgB Tryz.f49 3}).1
theorem put3 {rb ro g cap:Nat} {L:List Sp} {i:Nat} (a:Act) (w:World) (Q:Exit→Act→World→Prop) (zz:a.tmps.size=50)
 (t0:a.tmps.getD 0 undef= .pointer (some ⟨rb,ro,none⟩))
 (t1:a.tmps.getD 1 undef= .int .i64 (i:Int))
 (hR:SqAt w rb ro g cap L) (hi:i<L.length)
 (h:∀a' w',w'=w→a'=(((((((((a.put (some 25) (.pointer (some ⟨rb,ro,none⟩))).put (some 26) (.pointer (some ⟨rb,ro,none⟩))).put (some 27) (.pointer (some ⟨rb,ro+0,none⟩))).put (some 28) (.slice (some ⟨g,0,none⟩) (L).length cap)).put (some 29) (.int .i64 (i:Int))).put (some 30) (.pointer (some ⟨g,73*i,none⟩))).put (some 31) (.pointer (some ⟨g,73*i+69,none⟩))).put (some 32) (.pointer (some ⟨g,73*i+69+nb true,none⟩))).put (some 33) (.int .i64 (dn (gt L i) true:Int))).put (some 8) (.int .i64 (dn (gt L i) true:Int))→Q .normal a' w') :
 (Code.region 3 put3_ops false).wp Tryz.prog Q a w:=by
 refine z0 rfl ?_
 refine zv rfl (xmv rfl (zi t0 rfl)) ?_
 refine zv rfl (xnc rfl (zg zz rfl)) ?_
 refine zv rfl (xfa rfl (zg zz rfl) (fg_75_0 _ _ _)) ?_
 refine zv rfl (xld rfl (zg zz rfl) (R_sl hR)) ?_
 refine zv rfl (xmv rfl (zi t1 rfl)) ?_
 refine zv rfl (xia rfl (zg zz rfl) (zg zz rfl) (R_ix hi hR.len _)) ?_
 refine zv rfl (xfa rfl (zg zz rfl) (fg_128_3 _ _ _)) ?_
 refine zv rfl (xia rfl (zg zz rfl) rfl (ix_a1 _ _)) ?_
 refine zv rfl (xld rfl (zg zz rfl) (R_dn hR hi true)) ?_
 refine zv rfl (xas rfl (zg zz rfl)) ?_
 exact ze rfl (h _ _ (rfl) rfl)
def put6_ops:Array Oper:=(⟨_,rfl⟩:{o // some o=rgB Tryz.f49 6}).1
theorem put6 {rb ro n i j:Nat} (Fin:World→Prop) (a:Act) (w:World) (Q:Exit→Act→World→Prop) (zz:a.tmps.size=50)
 (t0:a.tmps.getD 0 undef= .pointer (some ⟨rb,ro,none⟩))
 (t7:a.tmps.getD 7 undef= .int .i64 (n:Int))
 (t8:a.tmps.getD 8 undef= .int .i64 (i:Int))
 (CF:Calls Tryz.prog 73 #[.pointer (some ⟨rb,ro,none⟩), .int .i64 (i:Int)] w fun e w'=>e= .returned (.int .i64 (j:Int))∧Calls Tryz.prog 72 #[.pointer (some ⟨rb,ro,none⟩), .int .i64 (j:Int), .int .i64 0, .int .i64 (n:Int)] w' fun e2 w2=>e2= .returned (.tuple #[])∧Fin w2)
 (h:∀a' w',Fin w'→a'=(((((a.put (some 40) (.pointer (some ⟨rb,ro,none⟩))).put (some 41) (.pointer (some ⟨rb,ro,none⟩))).put (some 42) (.int .i64 (i:Int))).put (some 43) (.int .i64 (j:Int))).put (some 44) (.int .i64 (n:Int))).put (some 45) (.tuple #[])→Q .normal a' w') :
 (Code.region 6 put6_ops false).wp Tryz.prog Q a w:=by
 refine z0 rfl ?_
 iterate 2 refine zv rfl (xmv rfl (zi t0 rfl)) ?_
 refine zv rfl (xmv rfl (zi t8 rfl)) ?_
 refine zc rfl (exec_c2 rfl (zg zz rfl) (zg zz rfl)) (CF) (fun e x3 hx=> ?_)
 obtain ⟨rfl,CH⟩:=hx
 refine ⟨_,rfl, ?_⟩
 refine zv rfl (xmv rfl (zi t7 rfl)) ?_
 refine zc rfl (exec_c4 rfl (zg zz rfl) (zg zz rfl) rfl (zg zz rfl)) (CH) (fun e x5 hx=> ?_)
 obtain ⟨rfl,HF⟩:=hx
 refine ⟨_,rfl, ?_⟩
 exact ze rfl (h _ _ (HF) rfl)
structure Good (L:List Sp) (t:T):Prop where
 zip:Zip L [] t
 cnt:Cnt L t
 all:∀i,0<i→i<L.length→i∈t.ids
theorem Good.root {L:List Sp} {t:T} (h:Good L t):(gt L 0).r=t.ix:=h.zip.repc.2.1
theorem Good.pos {L:List Sp} {t:T} (h:Good L t):0<L.length:=h.zip.repc.pos
theorem Good.lt {L:List Sp} {t:T} (h:Good L t) {i:Nat} (hi:i∈t.ids):i≠0∧i<L.length:=h.zip.rep.mem i hi
theorem Good.nodup {L:List Sp} {t:T} (h:Good L t):t.ids.Nodup:=by have:=h.zip.nd;simpa [cids] using this
theorem infoS:(Tryz.prog.info? 128).map (fun i=>(i.zero,i.size,i.bytes))=some (some (.agg (Sp.c zSp).toArray),73,136):=by kernel_rfl
theorem zcellsS:(Value.agg (Sp.c zSp).toArray).cells.size=73:=by
 show (Sp.c zSp).toArray.size=73
 rw [List.size_toArray,Sp.len zK_ok]
theorem run_bsS (h:Sp) (ok:KpV.ok h.kp) (w:World):(Instr.buildSlice 73 1 #[(0,Sp.v h)]).run Tryz.prog w= .ok (.slice (some ⟨w.heap.size,0,none⟩) 1 1) (w.alloc (.cells (Sp.c h).toArray 128)):=by
 obtain ⟨ie,hi,hz,hs,hby⟩:=info_parts infoS
 refine run_buildSlice w 73 128 1 _ (Sp.c h).toArray ie _ Tryz.underlying73 hi hz (by rw [hs];decide) (by rw [hs];decide) ?_
 rw [hs]
 have:=Go.Great.fill_whole (s:=73) (by decide) [.agg (Sp.c h).toArray] ((Array.range (1*73)).map ((Value.agg (Sp.c zSp).toArray).cells[· % (Value.agg (Sp.c zSp).toArray).cells.size]!)) (by intro v hv;simp at hv;subst hv;show (Sp.c h).toArray.size=73;rw [List.size_toArray,Sp.len ok]) (by simp)
 simpa [Value.cells,Sp.v] using this
theorem set_tch (w:World) (d k:Nat) (u:Value):Tch (fun j=>j=d) w (w.setCell ⟨d,k,none⟩ u):=by
 have b:=(Below.refl 0 w).setCell (p:=⟨d,k,none⟩) (Nat.zero_le _) u
 exact ⟨b.os,b.tape,b.output,b.size,fun j hj hn=>Below.heap_setCell _ _ _ _ hn⟩
theorem st_hd {w:World} {rb ro:Nat} {u:Value} {a:Option Addr} {n c:Nat} (hc:w.cell? ⟨rb,ro,none⟩=some u) (hb:∃cs t,w.heap[rb]? =some (.cells cs t (0,0))):(Instr.storeAt 73 (.pointer (some ⟨rb,ro+0,none⟩)) (.slice a n c)).run Tryz.prog w= .ok () (w.setCell ⟨rb,ro,none⟩ (.slice a n c))∧(w.setCell ⟨rb,ro,none⟩ (.slice a n c)).cell? ⟨rb,ro,none⟩=some (.slice a n c)∧(∃cs t,(w.setCell ⟨rb,ro,none⟩ (.slice a n c)).heap[rb]? =some (.cells cs t (0,0)))∧(∀k,k≠ro→(w.setCell ⟨rb,ro,none⟩ (.slice a n c)).cell? ⟨rb,k,none⟩=w.cell? ⟨rb,k,none⟩):=by
 obtain ⟨cs,t,h⟩:=hb
 have hf:=frozen_of_row w rb ro _ _ h
 refine ⟨by rw [Nat.add_zero];go_simp,World.cell?_setCell_same w ⟨rb,ro,none⟩ _ hc,⟨_,t,Go.heap_setCell_same _ _ ro _ _ _ h⟩,fun k hk=>World.cell?_setCell_other w ⟨rb,ro,none⟩ ⟨rb,k,none⟩ _ (fun e=>hk (by simpa using e.symm))⟩
section
variable {w:World} {rb ro g cap i:Nat} {L:List Sp}
theorem app_spot (h:SqAt w rb ro g cap L) {k:KpV} (hk:KpV.ok k) (hn:L.length+1≤1400000000000):∃lv qv w1 w2 w3 g' cap',
 (Instr.buildSlice 73 1 #[(0,Sp.v ⟨k,true,0,0,0,0,0⟩)]).run Tryz.prog w= .ok lv w1∧SqAt w1 rb ro g cap L∧Below w.heap.size w w1 ∧
 (Builtin.append_ #[73,73] 73 #[.slice (some ⟨g,0,none⟩) L.length cap,lv]).run Tryz.prog w1= .ok qv w2∧Tch (fun j=>j=g) w w2 ∧
 (Instr.storeAt 73 (.pointer (some ⟨rb,ro+0,none⟩)) qv).run Tryz.prog w2= .ok () w3∧SqAt w3 rb ro g' cap' (L++[⟨k,true,0,0,0,0,0⟩])∧Tch (fun j=>j=g∨j=rb) w w3∧(g'=g∨w.heap.size≤g')∧(∀q,q≠ro→w3.cell? ⟨rb,q,none⟩=w.cell? ⟨rb,q,none⟩):=by
 obtain ⟨s,hs⟩:∃s:Sp,s=⟨k,true,0,0,0,0,0⟩:=⟨_,rfl⟩
 have hk':KpV.ok s.kp:=by rw [hs];exact hk
 rw [←hs]
 have e1:=run_bsS s hk' w
 have b1:Below w.heap.size w (w.alloc (.cells (Sp.c s).toArray 128)):=(Below.refl _ _).alloc (Nat.le_refl _) _
 have hnew:∀j u,(Sp.c s)[j]? =some u→(w.alloc (.cells (Sp.c s).toArray 128)).cell? ⟨w.heap.size,j,none⟩=some u:=fun j u hj=>cell_new w (Sp.c s) _ j u hj
 generalize w.alloc (.cells (Sp.c s).toArray 128)=w1 at *
 have h1:SqAt w1 rb ro g cap L:=h.keep (b1.block _ h.lt.1) (b1.block _ h.lt.2)
 obtain ⟨ii,hi,hz,hsz,hby⟩:=info_parts infoS
 have okN:OkS (L++[s]):=fun x hx=>by
  rcases List.mem_append.1 hx with q|q
  ·exact h.ok x q
  ·simp at q;subst q;exact hk'
 obtain ⟨qv,w2,e2,own2,g2,o2⟩:=app_at (P:=Tryz.prog) w1 0 73 73 128 ii _ 73 136 Tryz.underlying73 hi hz hsz hby zcellsS (by decide) _ L.length (flatS L) h1.own ⟨w.heap.size,0,none⟩ 1 1 (Sp.c s) (by rw [Sp.len hk']) (fun j u hj=>by rw [Addr.add_mid,Nat.zero_add];exact hnew j u hj) (Sp.one s) (by unfold maxLen;omega) (by omega) (Nat.zero_le _)
 have t2:Tch (fun j=>j=g) w w2:=Tch.trans ⟨b1.os,b1.tape,b1.output,b1.size,fun j hj _=>b1.block j hj⟩ ⟨g2.os,g2.tape,g2.output,g2.size,fun j hj hO=>g2.block j hj (fun q=>hO (by simpa [Value.ownBlock] using q))⟩
 have fl:flatS L++Sp.c s=flatS (L++[s]):=by rw [flatS_app];simp [flatS]
 rw [fl] at own2
 rcases own2.2 with ⟨e,hz0⟩|⟨g',cap',cur,rfl,_,hg',r1,r2,r3,r4⟩
 ·omega
 ·have hrb:w2.heap[rb]? =w.heap[rb]? :=t2.block rb h.lt.1 (fun e=>h.ne e)
  have hc2:w2.cell? ⟨rb,ro,none⟩=some (.slice (some ⟨g,0,none⟩) L.length cap):=(World.cell?_of_block (a:=⟨rb,ro,none⟩) hrb).trans h.hd
  obtain ⟨e3,c3,k3,o3⟩:=st_hd (a:=some ⟨g',0,none⟩) (n:=L.length+1) (c:=cap') hc2 (by rw [hrb];exact h.bk)
  have ts:=set_tch w2 rb ro (.slice (some ⟨g',0,none⟩) (L.length+1) cap')
  have hgg:g'=g∨w.heap.size≤g':=by
   rcases o2 with q|q
   ·simp [Value.ownBlock] at q;exact .inl q
   ·simp [Value.ownBlock] at q;exact .inr (by rw [q];exact b1.size)
  have hne:rb≠g':=fun e=>by
   rcases hgg with q|q
   ·exact h.ne (e.trans q)
   ·have:=h.lt.1;omega
  have hg3:(w2.setCell ⟨rb,ro,none⟩ (.slice (some ⟨g',0,none⟩) (L.length+1) cap')).heap[g']? =w2.heap[g']? :=ts.block g' (Array.getElem?_eq_some_iff.1 hg').1 (fun e=>hne e.symm)
  refine ⟨_,_,w1,w2,_,g',cap',e1,h1,b1,e2,t2,e3,⟨?_,⟨?_, .inr ⟨g',cap',cur,by simp,Nat.zero_le _,hg3.trans hg',by simpa using r1,r2,r3,by simpa using r4⟩⟩,okN,hne,by simpa using hn,k3⟩,(t2.mono (fun j _ q=>Or.inl q)).trans (ts.mono (fun j _ q=>Or.inr q)),hgg,fun q hq=>(o3 q hq).trans (World.cell?_of_block (a:=⟨rb,q,none⟩) hrb)⟩
  ·simpa using c3
  ·have:=own2.1;simpa using this
theorem root_any (h:SqAt w rb ro g cap L) {t:T} (hg:Good L t):Calls Tryz.prog 115 #[.pointer (some ⟨rb,ro,none⟩)] w fun e w'=>e= .returned (.int .i64 (t.ix:Int))∧w'=w:=by
 have HR:=hidMk hg.root
 have hp:=hg.pos
 go_enter Tryz.func115,Tryz.ntmps115
 go_upto_region 1 with fail
 refine root1 _ _ _ rfl rfl h hp ?_
 intro a' w1 hw ha
 subst ha
 obtain rfl:w1=w:=hw
 rw [show dn (gt L 0) true=t.ix from HR.out]
 simp only [Act.put,qsA,qsB,qsC]
 go_wp2
 go_ret
 exact ⟨rfl,rfl⟩
theorem rmany_any (h:SqAt w rb ro g cap L) {t:T} (hg:Good L t) (c:Bool):Calls Tryz.prog 91 #[.pointer (some ⟨rb,ro,none⟩), .int .i64 (nb c:Int)] w fun e w'=>e= .returned (.int .i64 (cnt L c t:Int))∧Qt w w':=by
 have HC:=hidMk (hg.cnt.at hg.zip.z c)
 have hi:t.ix<L.length:=ix_lt hg.zip.rep hg.pos
 go_enter Tryz.func91,Tryz.ntmps91
 go_upto_region 1 with fail
 refine many1 (i:=t.ix) _ _ _ rfl rfl rfl h hi h.len ?_ ?_
 ·refine (root_any h.drew hg).mono ?_
  rintro e w1 ⟨rfl,rfl⟩
  exact ⟨rfl,h.drew,Qt.drew w⟩
 rw [HC.out]
 intro a' w1 hw ha
 subst ha
 simp only [Act.put,qsA,qsB,qsC]
 go_wp2
 go_ret
 exact ⟨rfl,hw.2⟩
def setSh (L:List Sp) (i:Nat) (b:Bool):List Sp:=md L i (fun s=>{s with sh:=b})
theorem setSh_gt (L:List Sp) (i:Nat) (b:Bool) (j:Nat):(gt (setSh L i b) j).kp=(gt L j).kp∧Sq.Alike L (setSh L i b) j∧(∀w,ct (gt (setSh L i b) j) w=ct (gt L j) w)∧(gt (setSh L i b) j).sh=if i=j∧i<L.length then b else (gt L j).sh:=by
 unfold setSh
 by_cases e:i=j∧i<L.length
 ·rw [if_pos e]
  have:gt (md L i (fun s=>{s with sh:=b})) j={gt L j with sh:=b}:=by rw [gt_md,if_pos e]
  rw [this]
  exact ⟨rfl,⟨by rw [this],by rw [this],by rw [this]⟩,fun w=>by cases w <;>rfl,rfl⟩
 ·rw [if_neg e]
  have:gt (md L i (fun s=>{s with sh:=b})) j=gt L j:=by rw [gt_md,if_neg e]
  rw [this]
  exact ⟨rfl,⟨by rw [this],by rw [this],by rw [this]⟩,fun w=>rfl,rfl⟩
theorem zip_setSh {L:List Sp} {c:Ctx} {t:T} (z:Zip L c t) (i:Nat) (b:Bool):Zip (setSh L i b) c t :=
 ⟨z.rep.same (md_len _ _ _) (fun j _=>(setSh_gt L i b j).2.1),z.repc.same (md_len _ _ _) (fun j _=>(setSh_gt L i b j).2.1) ⟨(setSh_gt L i b 0).2.1.l,(setSh_gt L i b 0).2.1.r⟩,z.nd,fun w=>by rw [(setSh_gt L i b 0).2.2.1];exact z.z w⟩
theorem Good.focus {t:T} (hg:Good L t) (hi:i∈t.ids):∃c l r,t=plug c (.nd i l r)∧Zip L c (.nd i l r)∧CntC L c∧Cnt L (.nd i l r):=by
 obtain ⟨c,l,r,e⟩:=Sq.focus [] hi
 have e':t=plug c (.nd i l r):=e
 have z:=hg.zip
 have ct:=hg.cnt
 rw [e'] at z ct
 exact ⟨c,l,r,e',z.unplug,(Cnt.unplug ct).1,(Cnt.unplug ct).2⟩
end
section
variable {w:World} {rb ro g cap i:Nat} {L:List Sp}
theorem Good.right {t:T} (hg:Good L t) {b:Nat} (hb:b=0∨b∈t.ids):∃(c:Ctx) (R:T),t=plug c R∧Zip L c R∧CntC L c∧Cnt L R∧upOf c=b∧sd c=true∧(gt L b).r=R.ix∧(b=0∧pre c=[]∨∃A,pre c=A++[b]):=by
 rcases hb with rfl|hb
 ·exact ⟨[],t,rfl,hg.zip,trivial,hg.cnt,rfl,rfl,hg.root, .inl ⟨rfl,rfl⟩⟩
 ·obtain ⟨c,l,r,et,z,hcc,hc⟩:=hg.focus hb
  refine ⟨(b,true,l)::c,r,by rw [et];rfl,Zip.into (s:=true) z,⟨hc.2.1,hcc⟩,hc.2.2,rfl,rfl,z.rep.2.2.2.2.1, .inr ⟨pre c++l.ids, ?_⟩⟩
  simp [pre]
def InsB (I I':List Nat) (b n:Nat):Prop:=∃A B,I=A++B∧I'=A++n::B∧(b=0∧A=[]∨∃A',A=A'++[b])
structure Moved (w:World) (rb ro g:Nat) (g' cap':Nat) (L':List Sp) (w':World):Prop where
 at':SqAt w' rb ro g' cap' L'
 tch:Tch (fun j=>j=g∨j=rb) w w'
 own:g'=g∨w.heap.size≤g'
 oth:∀q,q≠ro→w'.cell? ⟨rb,q,none⟩=w.cell? ⟨rb,q,none⟩
theorem Moved.did {w w1 w2:World} {rb ro g g' cap':Nat} {L1 L2:List Sp} (h:Moved w rb ro g g' cap' L1 w1) (d:Did w1 rb ro g' cap' L2 w2):Moved w rb ro g g' cap' L2 w2:=by
 refine ⟨d.at',h.tch.trans' d.tch (fun j hj q=> ?_),h.own,fun q hq=> ?_⟩
 ·rcases h.own with e|e
  ·exact .inl (q.trans e)
  ·omega
 ·exact (World.cell?_of_block (a:=⟨rb,q,none⟩) (d.tch.block rb h.at'.lt.1 h.at'.ne)).trans (h.oth q hq)
theorem box_ld {w w':World} {kb:Nat} {k:KpV} {t:TypeId} (hk:KpV.ok k) (hb:w.heap[kb]? =some (.cells (KpV.c k).toArray t (0,0))) (e:w'.heap[kb]? =w.heap[kb]?):KS kb k w' :=
 run_loadAt_mid (P:=Tryz.prog) w' kb 0 78 (KpV.c k) _ (cells_range (e.trans hb)) Tryz.underlying78 rfl (by rw [KpV.len hk];exact szK)
theorem rput_any (h:SqAt w rb ro g cap L) {t:T} (hg:Good L t) {b:Nat} (hb:b=0∨b∈t.ids) {k:KpV} (hk:KpV.ok k) (hn:L.length+1≤1400000000000) :
 Calls Tryz.prog 49 #[.pointer (some ⟨rb,ro,none⟩), .int .i64 (b:Int),KpV.v k] w fun e w'=>e= .returned (.int .i64 (L.length:Int))∧∃g' cap' L' t',Good L' t'∧InsB t.ids t'.ids b L.length∧Kept (L++[⟨k,true,0,0,0,0,0⟩]) L'∧Moved w rb ro g g' cap' L' w':=by
 obtain ⟨c,R,et,zR,cc,cR,ub,sb,eR,hpre⟩:=hg.right hb
 have hbl:b<L.length:=by
  rcases hb with rfl|hb
  ·exact hg.pos
  ·exact (hg.lt hb).2
 obtain ⟨n,hnn⟩:∃n,L.length=n:=⟨_,rfl⟩
 have HN:=hidMk hnn
 have zl:=lft_zip zR
 have cl:=lft_cnt cc cR
 obtain ⟨s,hs⟩:∃s:Sp,s=⟨k,true,0,0,0,0,0⟩:=⟨_,rfl⟩
 have m:=put0_mid zl cl k
 have HFin:=hidMk (fun (L':List Sp) (t':T) (zt:Zip L' [] t') (ct:Cnt L' t') (it:t'.ids=(plug (lft R c) (.nd L.length .nil .nil)).ids) (kp:Kept (put0 L (upOf (lft R c)) (sd (lft R c)) k) L')=>show Good L' t'∧InsB t.ids t'.ids b L.length∧Kept (L++[⟨k,true,0,0,0,0,0⟩]) L' from by
  have e1:t'.ids=pre c++L.length::(R.ids++post c):=by
   rw [it,plug_ids,lft_pre,lft_post];simp [T.ids]
  have e2:t.ids=pre c++(R.ids++post c):=by rw [et,plug_ids];simp
  have kl:L'.length=L.length+1:=by
   have:=(put0_kept L (upOf (lft R c)) (sd (lft R c)) k).len
   rw [kp.len,this];simp
  refine ⟨⟨zt,ct,fun i h0 hi=> ?_⟩,⟨pre c,R.ids++post c,e2,e1,hpre⟩,(put0_kept L _ _ k).trans kp⟩
  rw [e1]
  by_cases hil:i<L.length
  ·have:=hg.all i h0 hil
   rw [e2] at this
   rcases List.mem_append.1 this with q|q
   ·exact List.mem_append.2 (.inl q)
   ·exact List.mem_append.2 (.inr (List.mem_cons_of_mem _ q))
  ·have:i=L.length:=by omega
   rw [this];simp)
 have bx:Below w.heap.size w (w.alloc (.cells (KpV.c k).toArray 78)):=(Below.refl _ _).alloc (Nat.le_refl _) _
 have hbx:(w.alloc (.cells (KpV.c k).toArray 78)).heap[w.heap.size]? =some (.cells (KpV.c k).toArray 78 (0,0)):=heap_alloc_new _ _
 have zx:(w.alloc (.cells (KpV.c k).toArray 78)).heap.size=w.heap.size+1:=by simp
 have HWX:=hidMk (show (w.alloc (.cells (KpV.c k).toArray 78)).heap.size=w.heap.size+1 by simp)
 unfold KpV.v
 go_enter Tryz.func49,Tryz.ntmps49
 go_upto_region 1 with fail
 generalize w.alloc (.cells (KpV.c k).toArray 78)=wx at *
 have hx:SqAt wx rb ro g cap L:=h.keep (bx.block _ h.lt.1) (bx.block _ h.lt.2)
 refine put1 _ _ _ rfl rfl hx ?_
 intro a' w1 hw ha
 subst ha
 obtain rfl:w1=wx:=hw
 rw [hnn]
 simp only [Act.put,qsA,qsB,qsC]
 obtain ⟨lv,qv,y1,y2,y3,g',cap',EB,h1,b1,EA,t2,ES,h3,t3,hgg,hoth⟩:=app_spot hx.drew hk hn
 rw [show w1.drew.heap.size=w1.heap.size from rfl] at b1 hgg
 have hne1:w.heap.size≠g:=by have:=h.lt.2;omega
 have hne2:w.heap.size≠rb:=by have:=h.lt.1;omega
 have hlx:w.heap.size<w1.heap.size:=by omega
 go_upto_region 2 with fail
 have mv:Moved w rb ro g g' cap' (L++[s]) y3:=by
  rw [hs]
  refine ⟨h3, ?_, ?_,fun q hq=>(hoth q hq).trans (World.cell?_of_block (a:=⟨rb,q,none⟩) (bx.block rb h.lt.1))⟩
  ·exact Tch.trans (Tch.of_below bx (fun j hj q=>by omega)) (((Qt.drew w1).tch _).trans t3)
  ·rcases hgg with q|q
   ·exact .inl q
   ·exact .inr (by omega)
 have lS:(L++[s]).length=n+1:=by rw [List.length_append,hnn];rfl
 have e3:dn (gt (L++[s]) b) true=R.ix:=by rw [gt_app L s hbl];exact eR
 have hnl:n<(L++[s]).length:=by omega
 have zS:=zR.app s
 have HM:=hidMk (fun (W:World) (dW:Did y3 rb ro g' cap' (put0 L (upOf (lft R c)) (sd (lft R c)) k) W)=>mend_any dW.at' (MInv.of_mid m))
 rw [show (T.nd L.length .nil .nil).ix=L.length from rfl,hnn] at HM
 have HP0:=hidMk (show put0 L (upOf (lft R c)) (sd (lft R c)) k=hang (L++[s]) (upOf (lft R c)) (sd (lft R c)) n by rw [hs, ←hnn];rfl)
 rw [←hs] at HFin
 rw [hnn] at HFin
 clear hpre et cc cR zl cl m hn
 refine put2 (L:=L) (g:=g) (cap:=cap) (k:=k) _ _ _ rfl rfl rfl hk (box_ld hk hbx rfl) (R_sl hx.drew) EB (box_ld hk hbx (b1.block _ hlx)) (R_sl h1) EA (box_ld hk hbx (t2.block _ hlx hne1)) ES (box_ld hk hbx (t3.block _ hlx (fun q=>q.elim hne1 hne2))) ?_ ?_ <;>(
  intro a' w2 hw ha
  subst ha
  obtain rfl:w2=y3:=hw
  simp only [Act.put,qsA,qsB,qsC]
  go_upto_region 3 with fail
  refine put3 (i:=b) _ _ _ rfl rfl rfl mv.at' (by omega) ?_
  rw [e3]
  intro a' w3 hw ha
  subst ha
  obtain rfl:w3=w2:=hw
  simp only [Act.put,qsA,qsB,qsC]
  by_cases hR:R.ix=0
  ·rw [hR]
   obtain rfl:R= .nil:=(rep_ix zR.rep).1 hR
   have HH:=hidMk (hang_any (u:=b) (p:=n) (b:=true) mv.at' (by omega) hnl)
   have HE:=hidMk (show put0 L (upOf (lft .nil c)) (sd (lft .nil c)) k=hang (L++[s]) b true n by rw [HP0.out];show hang (L++[s]) (upOf c) (sd c) n=_;rw [ub,sb])
   clear hR e3 eR EB EA ES
   go_wp2_with (first
        |(go_at_call 72;refine HH.out.mono ?_;rintro e w4 ⟨rfl,d4⟩;rw [←HE.out] at d4;clear HH)
        |(go_at_call 74;refine (HM.out _ d4).mono ?_;rintro e w5 ⟨rfl,L5,t5,z5,c5,i5,k5,d5⟩;clear HM)
        |fail)
   go_ret
   obtain ⟨f1,f2,f3⟩:=HFin.out L5 t5 z5 c5 i5 k5
   rw [HN.out]
   refine ⟨rfl,g',cap',L5,t5,f1,f2, ?_,mv.did (d4.trans d5)⟩
   rw [←hs]
   exact f3
  ·have hRn:R≠ .nil:=fun e=>hR (by rw [e];rfl)
   have lsR:lsp R≤(L++[s]).length:=by have:=lsp_le R;have:=ids_le zS;omega
   have HFs:=hidMk (first_any mv.at' zS.rep hR lsR)
   have eU:upOf (lft R c)=fs R:=fs_up R c hRn
   have eS:sd (lft R c)=false:=lft_sd R c hRn
   have hfl:fs R<(L++[s]).length:=by rw [←eU];exact (lft_zip zS).repc.up_lt
   have HH:=hidMk (fun (W:World) (q:Qt w3 W)=>hang_any (u:=fs R) (p:=n) (b:=false) (mv.at'.qt q) hfl hnl)
   have HE:=hidMk (show put0 L (upOf (lft R c)) (sd (lft R c)) k=hang (L++[s]) (fs R) false n by rw [HP0.out,eU,eS])
   have hR':¬(R.ix:Int)=0:=by omega
   clear e3 eR EB EA ES eU eS
   go_upto_region 6 with fail
   refine put6 (i:=R.ix) (j:=fs R) (n:=n) (fun w'=>Did w3 rb ro g' cap' (hang (L++[s]) (fs R) false n) w') _ _ _ rfl rfl rfl rfl ?_ ?_
   ·refine HFs.out.mono ?_
    rintro e wa ⟨rfl,qa⟩
    refine ⟨rfl, ?_⟩
    refine (HH.out _ qa).mono ?_
    rintro e wb ⟨rfl,db⟩
    exact ⟨rfl,Did.from qa db⟩
   intro a' w4 d4 ha
   subst ha
   rw [←HE.out] at d4
   simp only [Act.put,qsA,qsB,qsC]
   clear hR' hR
   go_wp2_with (first
        |(go_at_call 74;refine (HM.out _ d4).mono ?_;rintro e w5 ⟨rfl,L5,t5,z5,c5,i5,k5,d5⟩;clear HM)
        |fail)
   go_ret
   obtain ⟨f1,f2,f3⟩:=HFin.out L5 t5 z5 c5 i5 k5
   rw [HN.out]
   refine ⟨rfl,g',cap',L5,t5,f1,f2, ?_,mv.did (d4.trans d5)⟩
   rw [←hs]
   exact f3)
end
def Fit (L:List Sp):Prop:=∀i,0<i→i<L.length→(gt L i).up<L.length∧∀b,dn (gt L i) b<L.length
theorem Rep.fit {L:List Sp} (h0:0<L.length):∀{t:T} {p:Nat},Rep L p t→p<L.length→∀i∈t.ids,(gt L i).up<L.length∧∀b,dn (gt L i) b<L.length
 | .nil,_,_,_,i,hi=>by simp [T.ids] at hi
 | .nd j l r,p,h,hp,i,hi=>by
   obtain ⟨h1,h2,h3,h4,h5,h6,h7⟩:=h
   simp only [T.ids,List.mem_append,List.mem_cons] at hi
   rcases hi with hi|rfl|hi
   ·exact Rep.fit h0 h6 h2 i hi
   ·refine ⟨by rw [h3];exact hp,fun b=> ?_⟩
    cases b
    ·show (gt L i).l<_;rw [h4];exact ix_lt h6 h0
    ·show (gt L i).r<_;rw [h5];exact ix_lt h7 h0
   ·exact Rep.fit h0 h7 h2 i hi
theorem Good.fit {L:List Sp} {t:T} (h:Good L t):Fit L:=fun i h0 hi=>Rep.fit h.pos h.zip.rep h.pos i (h.all i h0 hi)
def ahead1_ops:Array Oper:=(⟨_,rfl⟩:{o // some o=rgB Tryz.f98 1}).1
theorem ahead1 {rb ro i u:Nat} {c:Bool} (Fin:World→Prop) (a:Act) (w:World) (Q:Exit→Act→World→Prop) (zz:a.tmps.size=43)
 (t0:a.tmps.getD 0 undef= .pointer (some ⟨rb,ro,none⟩))
 (t1:a.tmps.getD 1 undef= .int .i64 (i:Int))
 (t2:a.tmps.getD 2 undef= .int .i64 (nb c:Int))
 (CU:Calls Tryz.prog 126 #[.pointer (some ⟨rb,ro,none⟩), .int .i64 (i:Int), .int .i64 0, .int .i64 (nb c:Int)] w fun e w'=>e= .returned (.int .i64 (u:Int))∧Fin w')
 (h:∀a' w',Fin w'→a'=((((a.put (some 9) (.pointer (some ⟨rb,ro,none⟩))).put (some 10) (.int .i64 (i:Int))).put (some 11) (.int .i64 (nb c:Int))).put (some 12) (.int .i64 (u:Int))).put (some 7) (.int .i64 (u:Int))→Q .normal a' w') :
 (Code.region 1 ahead1_ops false).wp Tryz.prog Q a w:=by
 refine z0 rfl ?_
 refine zv rfl (xmv rfl (zi t0 rfl)) ?_
 refine zv rfl (xmv rfl (zi t1 rfl)) ?_
 refine zv rfl (xmv rfl (zi t2 rfl)) ?_
 refine zc rfl (exec_c4 rfl (zg zz rfl) (zg zz rfl) rfl (zg zz rfl)) (CU) (fun e x3 hx=> ?_)
 obtain ⟨rfl,HF⟩:=hx
 refine ⟨_,rfl, ?_⟩
 refine zv rfl (xas rfl (zg zz rfl)) ?_
 exact ze rfl (h _ _ (HF) rfl)
def ahead2_ops:Array Oper:=(⟨_,rfl⟩:{o // some o=rgB Tryz.f98 2}).1
theorem ahead2 {rb ro g cap:Nat} {L:List Sp} {i:Nat} (a:Act) (w:World) (Q:Exit→Act→World→Prop) (zz:a.tmps.size=43)
 (t0:a.tmps.getD 0 undef= .pointer (some ⟨rb,ro,none⟩))
 (t1:a.tmps.getD 1 undef= .int .i64 (i:Int))
 (hR:SqAt w rb ro g cap L) (hi:i<L.length)
 (h:∀a' w',w'=w→a'=((((((((a.put (some 13) (.pointer (some ⟨rb,ro,none⟩))).put (some 14) (.pointer (some ⟨rb,ro,none⟩))).put (some 15) (.pointer (some ⟨rb,ro+0,none⟩))).put (some 16) (.slice (some ⟨g,0,none⟩) (L).length cap)).put (some 17) (.int .i64 (i:Int))).put (some 18) (.pointer (some ⟨g,73*i,none⟩))).put (some 19) (.pointer (some ⟨g,73*i+68,none⟩))).put (some 20) (.int .i64 ((gt L i).up:Int))).put (some 8) (.int .i64 ((gt L i).up:Int))→Q .normal a' w') :
 (Code.region 2 ahead2_ops false).wp Tryz.prog Q a w:=by
 refine z0 rfl ?_
 refine zv rfl (xmv rfl (zi t0 rfl)) ?_
 refine zv rfl (xnc rfl (zg zz rfl)) ?_
 refine zv rfl (xfa rfl (zg zz rfl) (fg_75_0 _ _ _)) ?_
 refine zv rfl (xld rfl (zg zz rfl) (R_sl hR)) ?_
 refine zv rfl (xmv rfl (zi t1 rfl)) ?_
 refine zv rfl (xia rfl (zg zz rfl) (zg zz rfl) (R_ix hi hR.len _)) ?_
 refine zv rfl (xfa rfl (zg zz rfl) (fg_128_2 _ _ _)) ?_
 refine zv rfl (xld rfl (zg zz rfl) (R_up hR hi)) ?_
 refine zv rfl (xas rfl (zg zz rfl)) ?_
 exact ze rfl (h _ _ (rfl) rfl)
def ahead4_ops:Array Oper:=(⟨_,rfl⟩:{o // some o=rgB Tryz.f98 4}).1
theorem ahead4 {rb ro g cap:Nat} {L:List Sp} {i:Nat} (a:Act) (w:World) (Q:Exit→Act→World→Prop) (zz:a.tmps.size=43)
 (t0:a.tmps.getD 0 undef= .pointer (some ⟨rb,ro,none⟩))
 (t1:a.tmps.getD 1 undef= .int .i64 (i:Int))
 (hR:SqAt w rb ro g cap L) (hi:i<L.length)
 (h:∀a' w',w'=w→a'=((((((((a.put (some 23) (.pointer (some ⟨rb,ro,none⟩))).put (some 24) (.pointer (some ⟨rb,ro,none⟩))).put (some 25) (.pointer (some ⟨rb,ro+0,none⟩))).put (some 26) (.slice (some ⟨g,0,none⟩) (L).length cap)).put (some 27) (.int .i64 (i:Int))).put (some 28) (.pointer (some ⟨g,73*i,none⟩))).put (some 29) (.pointer (some ⟨g,73*i+68,none⟩))).put (some 30) (.int .i64 ((gt L i).up:Int))).put (some 8) (.int .i64 ((gt L i).up:Int))→Q .normal a' w') :
 (Code.region 4 ahead4_ops false).wp Tryz.prog Q a w:=by
 refine z0 rfl ?_
 refine zv rfl (xmv rfl (zi t0 rfl)) ?_
 refine zv rfl (xnc rfl (zg zz rfl)) ?_
 refine zv rfl (xfa rfl (zg zz rfl) (fg_75_0 _ _ _)) ?_
 refine zv rfl (xld rfl (zg zz rfl) (R_sl hR)) ?_
 refine zv rfl (xmv rfl (zi t1 rfl)) ?_
 refine zv rfl (xia rfl (zg zz rfl) (zg zz rfl) (R_ix hi hR.len _)) ?_
 refine zv rfl (xfa rfl (zg zz rfl) (fg_128_2 _ _ _)) ?_
 refine zv rfl (xld rfl (zg zz rfl) (R_up hR hi)) ?_
 refine zv rfl (xas rfl (zg zz rfl)) ?_
 exact ze rfl (h _ _ (rfl) rfl)
def ahead5_ops:Array Oper:=(⟨_,rfl⟩:{o // some o=rgB Tryz.f98 5}).1
theorem ahead5 {rb ro i:Nat} {s:Bool} (Fin:World→Prop) (a:Act) (w:World) (Q:Exit→Act→World→Prop) (zz:a.tmps.size=43)
 (t0:a.tmps.getD 0 undef= .pointer (some ⟨rb,ro,none⟩))
 (t1:a.tmps.getD 1 undef= .int .i64 (i:Int))
 (hs:decide ((nb s:Int)=1)=s) (CS:Calls Tryz.prog 127 #[.pointer (some ⟨rb,ro,none⟩), .int .i64 (i:Int)] w fun e w'=>e= .returned (.int .i64 (nb s:Int))∧Fin w')
 (h:∀a' w',Fin w'→a'=(((a.put (some 31) (.pointer (some ⟨rb,ro,none⟩))).put (some 32) (.int .i64 (i:Int))).put (some 33) (.int .i64 (nb s:Int))).put (some 34) (.bool s)→Q .normal a' w') :
 (Code.region 5 ahead5_ops false).wp Tryz.prog Q a w:=by
 refine z0 rfl ?_
 refine zv rfl (xmv rfl (zi t0 rfl)) ?_
 refine zv rfl (xmv rfl (zi t1 rfl)) ?_
 refine zc rfl (exec_c2 rfl (zg zz rfl) (zg zz rfl)) (CS) (fun e x2 hx=> ?_)
 obtain ⟨rfl,HF⟩:=hx
 refine ⟨_,rfl, ?_⟩
 refine zv (v:= .bool s) rfl (ex_eql rfl (zg zz rfl) rfl hs) ?_
 exact ze rfl (h _ _ (HF) rfl)
def ahead6_ops:Array Oper:=(⟨_,rfl⟩:{o // some o=rgB Tryz.f98 6}).1
theorem ahead6 {rb ro n u x:Nat} {c:Bool} (Fin:World→Prop) (a:Act) (w:World) (Q:Exit→Act→World→Prop) (zz:a.tmps.size=43)
 (t0:a.tmps.getD 0 undef= .pointer (some ⟨rb,ro,none⟩))
 (t2:a.tmps.getD 2 undef= .int .i64 (nb c:Int))
 (t7:a.tmps.getD 7 undef= .int .i64 (n:Int))
 (t8:a.tmps.getD 8 undef= .int .i64 (u:Int))
 (hs:n+x≤9223372036854775807) (CU:Calls Tryz.prog 123 #[.pointer (some ⟨rb,ro,none⟩), .int .i64 (u:Int), .int .i64 (nb c:Int)] w fun e w'=>e= .returned (.int .i64 (x:Int))∧Fin w')
 (h:∀a' w',Fin w'→a'=((((((a.put (some 35) (.int .i64 (n:Int))).put (some 36) (.pointer (some ⟨rb,ro,none⟩))).put (some 37) (.int .i64 (u:Int))).put (some 38) (.int .i64 (nb c:Int))).put (some 39) (.int .i64 (x:Int))).put (some 40) (.int .i64 ((n+x:Nat):Int))).put (some 7) (.int .i64 ((n+x:Nat):Int))→Q .normal a' w') :
 (Code.region 6 ahead6_ops false).wp Tryz.prog Q a w:=by
 refine z0 rfl ?_
 refine zv rfl (xmv rfl (zi t7 rfl)) ?_
 refine zv rfl (xmv rfl (zi t0 rfl)) ?_
 refine zv rfl (xmv rfl (zi t8 rfl)) ?_
 refine zv rfl (xmv rfl (zi t2 rfl)) ?_
 refine zc rfl (exec_c3 rfl (zg zz rfl) (zg zz rfl) (zg zz rfl)) (CU) (fun e x4 hx=> ?_)
 obtain ⟨rfl,HF⟩:=hx
 refine ⟨_,rfl, ?_⟩
 refine zv (v:= .int .i64 ((n+x:Nat):Int)) rfl (ex_addN rfl (zg zz rfl) (zg zz rfl) hs) ?_
 refine zv rfl (xas rfl (zg zz rfl)) ?_
 exact ze rfl (h _ _ (HF) rfl)
def find3_ops:Array Oper:=(⟨_,rfl⟩:{o // some o=rgB Tryz.f128 3}).1
theorem find3 {rb ro i u x:Nat} {c:Bool} (Fin:World→Prop) (a:Act) (w:World) (Q:Exit→Act→World→Prop) (zz:a.tmps.size=52)
 (t0:a.tmps.getD 0 undef= .pointer (some ⟨rb,ro,none⟩))
 (t2:a.tmps.getD 2 undef= .int .i64 (nb c:Int))
 (t7:a.tmps.getD 7 undef= .int .i64 (i:Int))
 (CU:Calls Tryz.prog 126 #[.pointer (some ⟨rb,ro,none⟩), .int .i64 (i:Int), .int .i64 0, .int .i64 (nb c:Int)] w fun e w'=>e= .returned (.int .i64 (u:Int))∧Calls Tryz.prog 123 #[.pointer (some ⟨rb,ro,none⟩), .int .i64 (i:Int), .int .i64 (nb c:Int)] w' fun e2 w2=>e2= .returned (.int .i64 (x:Int))∧Fin w2)
 (h:∀a' w',Fin w'→a'=(((((((((a.put (some 14) (.pointer (some ⟨rb,ro,none⟩))).put (some 15) (.int .i64 (i:Int))).put (some 16) (.int .i64 (nb c:Int))).put (some 17) (.int .i64 (u:Int))).put (some 18) (.pointer (some ⟨rb,ro,none⟩))).put (some 19) (.int .i64 (i:Int))).put (some 20) (.int .i64 (nb c:Int))).put (some 21) (.int .i64 (x:Int))).put (some 8) (.int .i64 (u:Int))).put (some 9) (.int .i64 (x:Int))→Q .normal a' w') :
 (Code.region 3 find3_ops false).wp Tryz.prog Q a w:=by
 refine z0 rfl ?_
 refine zv rfl (xmv rfl (zi t0 rfl)) ?_
 refine zv rfl (xmv rfl (zi t7 rfl)) ?_
 refine zv rfl (xmv rfl (zi t2 rfl)) ?_
 refine zc rfl (exec_c4 rfl (zg zz rfl) (zg zz rfl) rfl (zg zz rfl)) (CU) (fun e x3 hx=> ?_)
 obtain ⟨rfl,CO⟩:=hx
 refine ⟨_,rfl, ?_⟩
 refine zv rfl (xmv rfl (zi t0 rfl)) ?_
 refine zv rfl (xmv rfl (zi t7 rfl)) ?_
 refine zv rfl (xmv rfl (zi t2 rfl)) ?_
 refine zc rfl (exec_c3 rfl (zg zz rfl) (zg zz rfl) (zg zz rfl)) (CO) (fun e x7 hx=> ?_)
 obtain ⟨rfl,HF⟩:=hx
 refine ⟨_,rfl, ?_⟩
 iterate 2 refine zv rfl (xas rfl (zg zz rfl)) ?_
 exact ze rfl (h _ _ (HF) rfl)
def find6_ops:Array Oper:=(⟨_,rfl⟩:{o // some o=rgB Tryz.f128 6}).1
theorem find6 {k:Int} {u:Nat} {r:Bool} (a:Act) (w:World) (Q:Exit→Act→World→Prop) (zz:a.tmps.size=52)
 (t1:a.tmps.getD 1 undef= .int .i64 k)
 (t8:a.tmps.getD 8 undef= .int .i64 (u:Int))
 (hr:decide (k<(u:Int))=r)
 (h:∀a' w',w'=w→a'=(((a.put (some 35) (.int .i64 k)).put (some 36) (.int .i64 (u:Int))).put (some 37) (.bool r)).put (some 34) (.bool r)→Q .normal a' w') :
 (Code.region 6 find6_ops false).wp Tryz.prog Q a w:=by
 refine z0 rfl ?_
 refine zv rfl (xmv rfl (zi t1 rfl)) ?_
 refine zv rfl (xmv rfl (zi t8 rfl)) ?_
 refine zv (v:= .bool r) rfl (ex_lss rfl (zg zz rfl) (zg zz rfl) hr) ?_
 refine zv rfl (xas rfl (zg zz rfl)) ?_
 exact ze rfl (h _ _ (rfl) rfl)
def find8_ops:Array Oper:=(⟨_,rfl⟩:{o // some o=rgB Tryz.f128 8}).1
theorem find8 {k:Int} {x:Nat} {r:Bool} (a:Act) (w:World) (Q:Exit→Act→World→Prop) (zz:a.tmps.size=52)
 (t1:a.tmps.getD 1 undef= .int .i64 k)
 (t9:a.tmps.getD 9 undef= .int .i64 (x:Int))
 (hr:decide (k<(x:Int))=r)
 (h:∀a' w',w'=w→a'=(((a.put (some 48) (.int .i64 k)).put (some 49) (.int .i64 (x:Int))).put (some 50) (.bool r)).put (some 47) (.bool r)→Q .normal a' w') :
 (Code.region 8 find8_ops false).wp Tryz.prog Q a w:=by
 refine z0 rfl ?_
 refine zv rfl (xmv rfl (zi t1 rfl)) ?_
 refine zv rfl (xmv rfl (zi t9 rfl)) ?_
 refine zv (v:= .bool r) rfl (ex_lss rfl (zg zz rfl) (zg zz rfl) hr) ?_
 refine zv rfl (xas rfl (zg zz rfl)) ?_
 exact ze rfl (h _ _ (rfl) rfl)
def find4_ops:Array Oper:=(⟨_,rfl⟩:{o // some o=rgB Tryz.f128 4}).1
theorem find4 {k:Int} {x:Nat} (a:Act) (w:World) (Q:Exit→Act→World→Prop) (zz:a.tmps.size=52)
 (t1:a.tmps.getD 1 undef= .int .i64 k)
 (t9:a.tmps.getD 9 undef= .int .i64 (x:Int))
 (hs: -9223372036854775808≤k-(x:Int)∧k-(x:Int)≤9223372036854775807)
 (h:∀a' w',w'=w→a'=(((a.put (some 22) (.int .i64 k)).put (some 23) (.int .i64 (x:Int))).put (some 24) (.int .i64 (k-(x:Int)))).put (some 1) (.int .i64 (k-(x:Int)))→Q .normal a' w') :
 (Code.region 4 find4_ops false).wp Tryz.prog Q a w:=by
 refine z0 rfl ?_
 refine zv rfl (xmv rfl (zi t1 rfl)) ?_
 refine zv rfl (xmv rfl (zi t9 rfl)) ?_
 refine zv (v:= .int .i64 (k-(x:Int))) rfl (ex_sub rfl (zg zz rfl) (zg zz rfl) hs) ?_
 refine zv rfl (xas rfl (zg zz rfl)) ?_
 exact ze rfl (h _ _ (rfl) rfl)
def find7_ops:Array Oper:=(⟨_,rfl⟩:{o // some o=rgB Tryz.f128 7}).1
theorem find7 {rb ro g cap:Nat} {L:List Sp} {i:Nat} (a:Act) (w:World) (Q:Exit→Act→World→Prop) (zz:a.tmps.size=52)
 (t0:a.tmps.getD 0 undef= .pointer (some ⟨rb,ro,none⟩))
 (t7:a.tmps.getD 7 undef= .int .i64 (i:Int))
 (hR:SqAt w rb ro g cap L) (hi:i<L.length)
 (h:∀a' w',w'=w→a'=(((((((((a.put (some 38) (.pointer (some ⟨rb,ro,none⟩))).put (some 39) (.pointer (some ⟨rb,ro,none⟩))).put (some 40) (.pointer (some ⟨rb,ro+0,none⟩))).put (some 41) (.slice (some ⟨g,0,none⟩) (L).length cap)).put (some 42) (.int .i64 (i:Int))).put (some 43) (.pointer (some ⟨g,73*i,none⟩))).put (some 44) (.pointer (some ⟨g,73*i+69,none⟩))).put (some 45) (.pointer (some ⟨g,73*i+69+nb false,none⟩))).put (some 46) (.int .i64 (dn (gt L i) false:Int))).put (some 7) (.int .i64 (dn (gt L i) false:Int))→Q .normal a' w') :
 (Code.region 7 find7_ops false).wp Tryz.prog Q a w:=by
 refine z0 rfl ?_
 refine zv rfl (xmv rfl (zi t0 rfl)) ?_
 refine zv rfl (xnc rfl (zg zz rfl)) ?_
 refine zv rfl (xfa rfl (zg zz rfl) (fg_75_0 _ _ _)) ?_
 refine zv rfl (xld rfl (zg zz rfl) (R_sl hR)) ?_
 refine zv rfl (xmv rfl (zi t7 rfl)) ?_
 refine zv rfl (xia rfl (zg zz rfl) (zg zz rfl) (R_ix hi hR.len _)) ?_
 refine zv rfl (xfa rfl (zg zz rfl) (fg_128_3 _ _ _)) ?_
 refine zv rfl (xia rfl (zg zz rfl) rfl (ix_a0 _ _)) ?_
 refine zv rfl (xld rfl (zg zz rfl) (R_dn hR hi false)) ?_
 refine zv rfl (xas rfl (zg zz rfl)) ?_
 exact ze rfl (h _ _ (rfl) rfl)
def find5_ops:Array Oper:=(⟨_,rfl⟩:{o // some o=rgB Tryz.f128 5}).1
theorem find5 {rb ro g cap:Nat} {L:List Sp} {i:Nat} (a:Act) (w:World) (Q:Exit→Act→World→Prop) (zz:a.tmps.size=52)
 (t0:a.tmps.getD 0 undef= .pointer (some ⟨rb,ro,none⟩))
 (t7:a.tmps.getD 7 undef= .int .i64 (i:Int))
 (hR:SqAt w rb ro g cap L) (hi:i<L.length)
 (h:∀a' w',w'=w→a'=(((((((((a.put (some 25) (.pointer (some ⟨rb,ro,none⟩))).put (some 26) (.pointer (some ⟨rb,ro,none⟩))).put (some 27) (.pointer (some ⟨rb,ro+0,none⟩))).put (some 28) (.slice (some ⟨g,0,none⟩) (L).length cap)).put (some 29) (.int .i64 (i:Int))).put (some 30) (.pointer (some ⟨g,73*i,none⟩))).put (some 31) (.pointer (some ⟨g,73*i+69,none⟩))).put (some 32) (.pointer (some ⟨g,73*i+69+nb true,none⟩))).put (some 33) (.int .i64 (dn (gt L i) true:Int))).put (some 7) (.int .i64 (dn (gt L i) true:Int))→Q .normal a' w') :
 (Code.region 5 find5_ops false).wp Tryz.prog Q a w:=by
 refine z0 rfl ?_
 refine zv rfl (xmv rfl (zi t0 rfl)) ?_
 refine zv rfl (xnc rfl (zg zz rfl)) ?_
 refine zv rfl (xfa rfl (zg zz rfl) (fg_75_0 _ _ _)) ?_
 refine zv rfl (xld rfl (zg zz rfl) (R_sl hR)) ?_
 refine zv rfl (xmv rfl (zi t7 rfl)) ?_
 refine zv rfl (xia rfl (zg zz rfl) (zg zz rfl) (R_ix hi hR.len _)) ?_
 refine zv rfl (xfa rfl (zg zz rfl) (fg_128_3 _ _ _)) ?_
 refine zv rfl (xia rfl (zg zz rfl) rfl (ix_a1 _ _)) ?_
 refine zv rfl (xld rfl (zg zz rfl) (R_dn hR hi true)) ?_
 refine zv rfl (xas rfl (zg zz rfl)) ?_
 exact ze rfl (h _ _ (rfl) rfl)
def cq (L:List Sp) (c:Bool) (i:Nat):Bool:= !c||(gt L i).sh
theorem own_cq (L:List Sp) (i:Nat) (c:Bool):own L i c=if cq L c i=true then 1 else 0:=by
 unfold own cq
 cases c <;>simp
theorem cnt_cq (L:List Sp) (c:Bool) (t:T):cnt L c t=t.ids.countP (cq L c):=rfl
theorem under_nd {L:List Sp} {p i:Nat} {l r:T} (h:Rep L p (.nd i l r)) (hl:Cnt L l) (h0:∀w,ct (gt L 0) w=0) (c:Bool):under L i false c=l.ids.countP (cq L c):=by
 unfold under
 rw [show dn (gt L i) false=l.ix from h.2.2.2.1,hl.at h0 c]
 rfl
section
variable {w:World} {rb ro g cap i n:Nat} {L:List Sp}
theorem rahead_any {t:T} {A B:List Nat} (c:Bool) (h:SqAt w rb ro g cap L) (hg:Good L t) (hi:t.ids=A++i::B) :
 Calls Tryz.prog 98 #[.pointer (some ⟨rb,ro,none⟩), .int .i64 (i:Int), .int .i64 (nb c:Int)] w fun e w'=>e= .returned (.int .i64 (A.countP (cq L c):Int))∧Qt w w':=by
 have him:i∈t.ids:=by rw [hi];simp
 obtain ⟨hi0,hil⟩:=hg.lt him
 obtain ⟨c0,l,r,et,z,hcc,hc⟩:=hg.focus him
 have hA:A=pre c0++l.ids:=by
  have nd:=hg.nodup
  have e1:t.ids=(pre c0++l.ids)++i::(r.ids++post c0):=by rw [et,plug_ids];simp [T.ids]
  rw [hi] at e1 nd
  have key:∀(A A' B B':List Nat),(A++i::B).Nodup→A++i::B=A'++i::B'→A=A':=by
   intro A
   induction A with
   |nil =>
    intro A' B B' nd e
    cases A' with
    |nil=>rfl
    |cons a A' =>
     simp only [List.nil_append,List.cons_append,List.cons.injEq] at e
     obtain ⟨rfl,e⟩:=e
     simp only [List.nil_append,List.nodup_cons] at nd
     exact absurd (by rw [e];simp) nd.1
   |cons a A ih =>
    intro A' B B' nd e
    cases A' with
    |nil =>
     simp only [List.nil_append,List.cons_append,List.cons.injEq] at e
     obtain ⟨rfl,e⟩:=e
     simp only [List.cons_append,List.nodup_cons] at nd
     exact absurd (by simp) nd.1
    |cons a' A' =>
     simp only [List.cons_append,List.cons.injEq] at e
     simp only [List.cons_append,List.nodup_cons] at nd
     rw [e.1,ih A' B B' nd.2 e.2]
  exact key A _ B _ nd e1
 obtain ⟨N,hN⟩:∃N,L.length=N:=⟨_,rfl⟩
 have hNl:N≤1400000000000:=by rw [←hN];exact h.len
 have HAL:=hidMk (show A.countP (cq L c)≤N by
  have h1:A.countP (cq L c)≤A.length:=List.countP_le_length
  have h2:=ids_le hg.zip
  rw [hi] at h2
  simp at h2
  omega)
 obtain ⟨K,hK⟩:∃K,A.countP (cq L c)=K:=⟨_,rfl⟩
 rw [hK]
 rw [hK] at HAL
 have HU:=hidMk (under_any (b:=false) (c:=c) h hil (show dn (gt L i) false<L.length from (hg.fit i (by omega) hil).2 false))
 have eu:under L i false c=l.ids.countP (cq L c):=under_nd z.rep hc.2.1 hg.zip.z c
 have hK0:l.ids.countP (cq L c)+(pre c0).countP (cq L c)=K:=by rw [←hK,hA,List.countP_append];omega
 rw [eu] at HU
 have HUP:=hidMk z.rep.2.2.1
 have HN:=hidMk hN
 clear eu hA hK hi him hN
 go_enter Tryz.func98,Tryz.ntmps98
 go_upto_region 1 with fail
 refine ahead1 (c:=c) (fun w'=>Qt w w') _ _ _ rfl rfl rfl rfl HU.out ?_
 intro a' w1 q1 ha
 subst ha
 have h1:=h.qt q1
 simp only [Act.put,List.setIfInBounds_toArray,List.set_cons_zero,List.set_cons_succ,Nat.add_zero]
 go_upto_region 2 with fail
 refine ahead2 _ _ _ rfl rfl rfl h1 hil ?_
 rw [HUP.out]
 intro a' w2 hw ha
 subst ha
 obtain rfl:w2=w1:=hw
 simp only [Act.put,List.setIfInBounds_toArray,List.set_cons_zero,List.set_cons_succ,Nat.add_zero]
 have H0:=hidMk hK0
 clear hK0 HU HUP
 go_wp2
 go_loopw [1,7,8] (fun v1 v7 v8 wr=> ∃(c1:Ctx) (t1:T) (a m u:Nat),v1= .int .i64 (a:Int)∧v7= .int .i64 (m:Int)∧v8= .int .i64 (u:Int)∧a=t1.ix∧a≠0∧u=upOf c1∧Zip L c1 t1∧CntC L c1∧m+(pre c1).countP (cq L c)=K∧Qt w wr) (fun _ _ v8 _=>dep (fun a=>(gt L a).up) N (intOf v8).toNat)
 case atStart=>exact ⟨c0, .nd i l r,i,l.ids.countP (cq L c),upOf c0,rfl,rfl,rfl,rfl,hi0,rfl,z,hcc,H0.out,q1⟩
 case round =>
  clear H0 z hcc hc et h1 hil hi0
  obtain ⟨c1,t1,a,m,u,rfl,rfl,rfl,ha1,ha0,hu1,z1,cc1,hm,q⟩:=hrel
  have hx:=h.qt q
  have HM:=hidMk hm
  have hmN:m≤N:=by have:=HAL.out;omega
  cases c1 with
  |nil =>
   have hu0:u=0:=hu1
   subst hu0
   have HM2:=hidMk (show m=K by have:=HM.out;simpa [pre] using this)
   clear hm hu1 z1 cc1 ha1
   go_wp2
   go_ret
   exact ⟨by rw [←HM2.out];rfl,q⟩
  |cons f c2 =>
   obtain ⟨u',s,o⟩:=f
   obtain rfl:u=u':=hu1
   obtain ⟨r1,r2,r3,r4,r5,r6,r7⟩:=z1.repc
   have zo:=z1.out
   have hal:a<L.length:=by rw [ha1];exact ix_lt z1.rep zo.repc.pos
   have hau:(gt L a).up<L.length:=(hg.fit a (by omega) hal).1
   have sa:sideOf L a=s:=by have:=z1.side (by rw [←ha1];exact ha0);rw [←ha1] at this;exact this
   have HSD:=hidMk (side_any hx hal hau)
   rw [sa] at HSD
   have hu':¬(u:Int)=0:=by omega
   have HD1:=hidMk (show dep (fun a=>(gt L a).up) N u=c2.length+1 by
        have hcl:=ctx_len z1.repc (List.nodup_append.1 z1.nd).2.1
        simp only [List.length_cons] at hcl
        obtain ⟨k,hk⟩:∃k,N=k+1:=⟨N-1,by have:=HN.out;omega⟩
        rw [hk]
        show (if u=0 then 0 else dep (fun a=>(gt L a).up) k (gt L u).up+1)=_
        rw [if_neg r1,r3,dep_ctx _ (fun a _=>rfl) c2 _ k r7 (by have:=HN.out;omega)])
   have HD2:=hidMk (show dep (fun a=>(gt L a).up) N (upOf c2)=c2.length by
        have hcl:=ctx_len z1.repc (List.nodup_append.1 z1.nd).2.1
        simp only [List.length_cons] at hcl
        exact dep_ctx _ (fun a _=>rfl) c2 _ N r7 (by have:=HN.out;omega))
   have HR3:=hidMk r3
   go_upto_region 5 with fail
   refine ahead5 (s:=s) (fun w'=>Qt w w') _ _ _ rfl rfl rfl (by cases s <;>rfl) ?_ ?_
   ·refine HSD.out.mono ?_
    rintro e wa ⟨rfl,qa⟩
    exact ⟨rfl,q.trans qa⟩
   intro a' w3 q3 ha
   subst ha
   have h3:=h.qt q3
   simp only [Act.put,List.setIfInBounds_toArray,List.set_cons_zero,List.set_cons_succ,Nat.add_zero]
   clear HSD sa hau hm
   cases s with
   |false =>
    have HM2:=hidMk (show m+(pre c2).countP (cq L c)=K by have:=HM.out;simpa [pre] using this)
    have Z2:=hidMk zo
    have CC2:=hidMk cc1.2
    clear zo cc1 z1 r4 r5 r6 r7 HM
    go_upto_region 4 with fail
    refine ahead4 (i:=u) _ _ _ rfl rfl rfl h3 r2 ?_
    rw [HR3.out]
    intro a' w4 hw ha
    subst ha
    obtain rfl:w4=w3:=hw
    simp only [Act.put,List.setIfInBounds_toArray,List.set_cons_zero,List.set_cons_succ,Nat.add_zero]
    go_wp2
    refine ⟨⟨c2,mk u false t1 o,u,m,upOf c2,rfl,rfl,rfl,(mk_ix _ _ _ _).symm,r1,rfl,Z2.out,CC2.out,HM2.out,q3⟩, ?_⟩
    show dep (fun a=>(gt L a).up) N (upOf c2:Int).toNat<dep (fun a=>(gt L a).up) N (u:Int).toNat
    rw [Int.toNat_natCast,Int.toNat_natCast,HD1.out,HD2.out]
    omega
   |true =>
    have eup:upTo L u c=o.ids.countP (cq L c)+(if cq L c u=true then 1 else 0):=by
     unfold upTo
     rw [own_cq]
     congr 1
     unfold under
     rw [show dn (gt L u) false=o.ix from r5,cc1.1.at hg.zip.z c]
     rfl
    have HM2:=hidMk (show (m+upTo L u c)+(pre c2).countP (cq L c)=K by
     have:=HM.out
     rw [eup]
     simp only [pre,if_true,List.countP_append,List.countP_cons,List.countP_nil] at this
     omega)
    have hb1:upTo L u c≤N:=by have:=HM2.out;have:=HAL.out;omega
    have hb2:under L u false c≤2800000000000:=by unfold upTo at hb1;omega
    have HUT:=hidMk (upTo_any (c:=c) h3 r2 ((hg.fit u (by omega) r2).2 false) hb2)
    have Z2:=hidMk zo
    have CC2:=hidMk cc1.2
    clear zo cc1 z1 r4 r5 r6 r7 HM eup
    obtain ⟨x,hx2⟩:∃x,upTo L u c=x:=⟨_,rfl⟩
    rw [hx2] at HM2 HUT hb1
    clear hx2 hb2
    go_upto_region 6 with fail
    refine ahead6 (c:=c) (x:=x) (fun w'=>Qt w w') _ _ _ rfl rfl rfl rfl rfl (by omega) ?_ ?_
    ·refine HUT.out.mono ?_
     rintro e wa ⟨rfl,qa⟩
     exact ⟨rfl,q3.trans qa⟩
    intro a' w4 q4 ha
    subst ha
    have h4:=h.qt q4
    simp only [Act.put,List.setIfInBounds_toArray,List.set_cons_zero,List.set_cons_succ,Nat.add_zero]
    obtain ⟨mx,hmx⟩:∃mx,m+x=mx:=⟨_,rfl⟩
    rw [hmx] at HM2 ⊢
    clear hmx hb1
    go_upto_region 4 with fail
    refine ahead4 (i:=u) _ _ _ rfl rfl rfl h4 r2 ?_
    rw [HR3.out]
    intro a' w5 hw ha
    subst ha
    obtain rfl:w5=w4:=hw
    simp only [Act.put,List.setIfInBounds_toArray,List.set_cons_zero,List.set_cons_succ,Nat.add_zero]
    go_wp2
    refine ⟨⟨c2,mk u true t1 o,u,mx,upOf c2,rfl,rfl,rfl,(mk_ix _ _ _ _).symm,r1,rfl,Z2.out,CC2.out,HM2.out,q4⟩, ?_⟩
    show dep (fun a=>(gt L a).up) N (upOf c2:Int).toNat<dep (fun a=>(gt L a).up) N (u:Int).toNat
    rw [Int.toNat_natCast,Int.toNat_natCast,HD1.out,HD2.out]
    omega
end
def nth (l:List Nat) (k:Int):Nat:=if 0≤k∧k<(l.length:Int) then l.getD k.toNat 0 else 0
theorem nth_left {A B:List Nat} {i:Nat} {x:Bool} {k:Int} (h:k<(A.length:Int)):nth (A++((if x then [i] else [])++B)) k=nth A k:=by
 obtain ⟨M,hM⟩:∃M:List Nat,M=if x then [i] else []:=⟨_,rfl⟩
 rw [←hM]
 unfold nth
 by_cases h0:0≤k
 ·rw [if_pos ⟨h0,by simp only [List.length_append];omega⟩,if_pos ⟨h0,h⟩,List.getD_eq_getElem?_getD,List.getD_eq_getElem?_getD,List.getElem?_append_left (by omega)]
 ·rw [if_neg (fun q=>h0 q.1),if_neg (fun q=>h0 q.1)]
theorem nth_mid {A B:List Nat} {i:Nat} {x:Bool} {k:Int} (h1:¬k<(A.length:Int)) (h2:k<((A.length+if x=true then 1 else 0:Nat):Int)):nth (A++((if x then [i] else [])++B)) k=i:=by
 cases x with
 |false=>simp at h2;omega
 |true =>
  simp only [if_true] at h2 ⊢
  have hk:k=(A.length:Int):=by omega
  subst hk
  unfold nth
  rw [if_pos ⟨by omega,by simp only [List.length_append,List.length_cons,List.length_nil];omega⟩,List.getD_eq_getElem?_getD,Int.toNat_natCast,List.getElem?_append_right (Nat.le_refl _)]
  simp
theorem nth_right {A B:List Nat} {i:Nat} {x:Bool} {k:Int} (h2:¬k<((A.length+if x=true then 1 else 0:Nat):Int)):nth (A++((if x then [i] else [])++B)) k=nth B (k-((A.length+if x=true then 1 else 0:Nat):Int)):=by
 obtain ⟨M,hM⟩:∃M:List Nat,M=if x then [i] else []:=⟨_,rfl⟩
 have hl:M.length=if x=true then 1 else 0:=by rw [hM];cases x <;>rfl
 rw [←hl] at h2 ⊢
 rw [←hM]
 clear hl hM
 unfold nth
 by_cases h:k-((A.length+M.length:Nat):Int)<(B.length:Int)
 ·rw [if_pos ⟨by omega,by simp only [List.length_append];omega⟩,if_pos ⟨by omega,h⟩,List.getD_eq_getElem?_getD,List.getD_eq_getElem?_getD, ←List.append_assoc,List.getElem?_append_right (by simp only [List.length_append];omega)]
  congr 2
  simp only [List.length_append]
  omega
 ·rw [if_neg (fun q=>h (by have:=q.2;simp only [List.length_append] at this;omega)),if_neg (fun q=>h q.2)]
def vis (L:List Sp) (c:Bool) (t:T):List Nat:=t.ids.filter (cq L c)
theorem vis_nd (L:List Sp) (c:Bool) (i:Nat) (l r:T):vis L c (.nd i l r)=vis L c l++((if cq L c i then [i] else [])++vis L c r):=by
 unfold vis
 rw [T.ids,List.filter_append,List.filter_cons]
 cases cq L c i <;>simp
theorem vis_len (L:List Sp) (c:Bool) (t:T):(vis L c t).length=cnt L c t:=by
 unfold vis
 rw [cnt_cq,List.countP_eq_length_filter]
section
variable {w:World} {rb ro g cap i n:Nat} {L:List Sp}
theorem rfind_any {t:T} (c:Bool) (k:Int) (hk: -9223372036854775808≤k∧k≤9223372036854775807) (h:SqAt w rb ro g cap L) (hg:Good L t) :
 Calls Tryz.prog 128 #[.pointer (some ⟨rb,ro,none⟩), .int .i64 k, .int .i64 (nb c:Int)] w fun e w'=>e= .returned (.int .i64 (nth (vis L c t) k:Int))∧Qt w w':=by
 have hl:=h.len
 have HRT:=hidMk (root_any h hg)
 obtain ⟨res,hres⟩:∃res,nth (vis L c t) k=res:=⟨_,rfl⟩
 rw [hres]
 have HRES:=hidMk hres
 have HK:=hidMk hk
 clear hres hk
 go_enter Tryz.func128,Tryz.ntmps128
 go_wp2_with (first
  |(go_at_call 115;refine HRT.out.mono ?_;rintro e w1 ⟨rfl,hw⟩;obtain rfl:=hw;clear HRT)
  |fail)
 go_loopw [1,7] (fun v1 v7 wr=> ∃(t1:T) (p a:Nat) (k1:Int),v1= .int .i64 k1∧v7= .int .i64 (a:Int)∧a=t1.ix∧Rep L p t1∧Cnt L t1∧t1.ids.length≤L.length∧nth (vis L c t1) k1=res∧(-9223372036854775808≤k1∧k1≤9223372036854775807)∧Qt w1 wr) (fun _ v7 _=>(gt L (intOf v7).toNat).ca)
 case atStart=>exact ⟨t,0,t.ix,k,rfl,rfl,rfl,hg.zip.rep,hg.cnt,by have:=ids_le hg.zip;omega,HRES.out,HK.out,Qt.refl _⟩
 case round =>
  clear HRES HK
  obtain ⟨t1,p,a,k1,rfl,rfl,ha,hr,hc,hle,hn,hkb,q⟩:=hrel
  have HN:=hidMk hn
  have HKB:=hidMk hkb
  clear hn hkb
  have hx:=h.qt q
  cases t1 with
  |nil =>
   obtain rfl:a=0:=ha
   have HZ:=hidMk (show res=0 by rw [←HN.out];simp [nth,vis,T.ids])
   clear HN hr hc hle
   go_wp2
   go_ret
   exact ⟨by rw [HZ.out];rfl,q⟩
  |nd j l r =>
   obtain rfl:a=j:=ha
   obtain ⟨r1,r2,r3,r4,r5,r6,r7⟩:=hr
   have ha0:¬(a:Int)=0:=by omega
   have hdl:dn (gt L a) false=l.ix:=r4
   have hdr:dn (gt L a) true=r.ix:=r5
   have lids:l.ids.length+r.ids.length+1≤L.length:=by simp [T.ids] at hle;omega
   have eu:under L a false c=(vis L c l).length:=by rw [vis_len,cnt_cq];exact under_nd ⟨r1,r2,r3,r4,r5,r6,r7⟩ hc.2.1 hg.zip.z c
   have vle:(vis L c l).length≤l.ids.length:=List.length_filter_le _ _
   have HU:=hidMk (under_any (b:=false) (c:=c) hx r2 (show dn (gt L a) false<L.length by rw [hdl];exact ix_lt r6 hg.pos))
   have HT:=hidMk (fun (W:World) (qW:Qt w1 W)=>upTo_any (c:=c) (h.qt qW) r2 (show (gt L a).l<L.length by rw [r4];exact ix_lt r6 hg.pos) (by rw [eu];omega))
   have et:upTo L a c=(vis L c l).length+if cq L c a=true then 1 else 0:=by unfold upTo;rw [eu,own_cq]
   rw [eu] at HU
   rw [et] at HT
   have HV:=hidMk (vis_nd L c a l r)
   have HCA:=hidMk (show (gt L a).ca=(T.nd a l r).ids.length by
        have:=hc.1 false
        simp only [ct,Bool.false_eq_true,if_false] at this
        rw [this]
        simp [cnt])
   have hcl:(gt L l.ix).ca=l.ids.length:=by
        have:=hc.2.1.at hg.zip.z false
        simp only [ct,Bool.false_eq_true,if_false] at this
        rw [this]
        simp [cnt]
   have hcr:(gt L r.ix).ca=r.ids.length:=by
        have:=hc.2.2.at hg.zip.z false
        simp only [ct,Bool.false_eq_true,if_false] at this
        rw [this]
        simp [cnt]
   have HCL:=hidMk hcl
   have HCR:=hidMk hcr
   obtain ⟨x,hx1⟩:∃x,(vis L c l).length+(if cq L c a=true then 1 else 0)=x:=⟨_,rfl⟩
   have hxb:x≤1400000000001:=by rw [←hx1];split <;>omega
   rw [hx1] at HT
   have HX:=hidMk hx1
   obtain ⟨u,hu1⟩:∃u,(vis L c l).length=u:=⟨_,rfl⟩
   rw [hu1] at HU
   have HUU:=hidMk hu1
   clear et eu hx1 hu1 hcl hcr vle
   go_upto_region 3 with fail
   refine find3 (c:=c) (u:=u) (x:=x) (fun w'=>Qt w1 w') _ _ _ rfl rfl rfl rfl ?_ ?_
   ·refine HU.out.mono ?_
    rintro e wa ⟨rfl,qa⟩
    refine ⟨rfl, ?_⟩
    refine (HT.out _ (q.trans qa)).mono ?_
    rintro e wb ⟨rfl,qb⟩
    exact ⟨rfl,(q.trans qa).trans qb⟩
   intro a' w2 q2 ha
   subst ha
   have h2:=h.qt q2
   simp only [Act.put,List.setIfInBounds_toArray,List.set_cons_zero,List.set_cons_succ,Nat.add_zero]
   clear HU HT
   go_upto_region 6 with fail
   refine find6 (k:=k1) (u:=u) (r:=decide (k1<(u:Int))) _ _ _ rfl rfl rfl rfl ?_
   intro a' w3 hw ha
   subst ha
   obtain rfl:w3=w2:=hw
   simp only [Act.put,List.setIfInBounds_toArray,List.set_cons_zero,List.set_cons_succ,Nat.add_zero]
   by_cases hku:k1<(u:Int)
   ·rw [show decide (k1<(u:Int))=true from decide_eq_true hku]
    have HN2:=hidMk (show nth (vis L c l) k1=res by rw [←HN.out,HV.out,nth_left (by rw [HUU.out];exact hku)])
    clear hku
    go_upto_region 7 with fail
    refine find7 (i:=a) _ _ _ rfl rfl rfl h2 r2 ?_
    rw [hdl]
    intro a' w4 hw ha
    subst ha
    obtain rfl:w4=w3:=hw
    simp only [Act.put,List.setIfInBounds_toArray,List.set_cons_zero,List.set_cons_succ,Nat.add_zero]
    clear hdl hdr
    go_wp2
    refine ⟨⟨l,a,l.ix,k1,rfl,rfl,rfl,r6,hc.2.1,by omega,HN2.out,HKB.out,q2⟩, ?_⟩
    show (gt L (l.ix:Int).toNat).ca<(gt L (a:Int).toNat).ca
    rw [Int.toNat_natCast,Int.toNat_natCast,HCL.out,HCA.out]
    simp only [T.ids,List.length_append,List.length_cons]
    omega
   ·rw [show decide (k1<(u:Int))=false from decide_eq_false hku]
    go_upto_region 8 with fail
    refine find8 (k:=k1) (x:=x) (r:=decide (k1<(x:Int))) _ _ _ rfl rfl rfl rfl ?_
    intro a' w4 hw ha
    subst ha
    obtain rfl:w4=w3:=hw
    simp only [Act.put,List.setIfInBounds_toArray,List.set_cons_zero,List.set_cons_succ,Nat.add_zero]
    by_cases hkx:k1<(x:Int)
    ·rw [show decide (k1<(x:Int))=true from decide_eq_true hkx]
     have HN2:=hidMk (show res=a by rw [←HN.out,HV.out,nth_mid (by rw [HUU.out];exact hku) (by rw [HX.out];exact hkx)])
     clear hku hkx
     go_wp2
     go_ret
     exact ⟨by rw [HN2.out];rfl,q2⟩
    ·rw [show decide (k1<(x:Int))=false from decide_eq_false hkx]
     have HN2:=hidMk (show nth (vis L c r) (k1-(x:Int))=res by
        rw [←HN.out,HV.out,nth_right (by rw [HX.out];exact hkx),HX.out])
     have hkb:=HKB.out
     have HK2:=hidMk (show -9223372036854775808≤k1-(x:Int)∧k1-(x:Int)≤9223372036854775807 by omega)
     clear hku hkx hkb
     go_upto_region 4 with fail
     refine find4 (k:=k1) (x:=x) _ _ _ rfl rfl rfl HK2.out ?_
     intro a' w5 hw ha
     subst ha
     obtain rfl:w5=w4:=hw
     simp only [Act.put,List.setIfInBounds_toArray,List.set_cons_zero,List.set_cons_succ,Nat.add_zero]
     obtain ⟨k2,hk2⟩:∃k2,k1-(x:Int)=k2:=⟨_,rfl⟩
     rw [hk2] at HN2 HK2 ⊢
     clear hk2
     go_upto_region 5 with fail
     refine find5 (i:=a) _ _ _ rfl rfl rfl h2 r2 ?_
     rw [hdr]
     intro a' w6 hw ha
     subst ha
     obtain rfl:w6=w5:=hw
     simp only [Act.put,List.setIfInBounds_toArray,List.set_cons_zero,List.set_cons_succ,Nat.add_zero]
     clear hdl hdr
     go_wp2
     refine ⟨⟨r,a,r.ix,k2,rfl,rfl,rfl,r7,hc.2.2,by omega,HN2.out,HK2.out,q2⟩, ?_⟩
     show (gt L (r.ix:Int).toNat).ca<(gt L (a:Int).toNat).ca
     rw [Int.toNat_natCast,Int.toNat_natCast,HCR.out,HCA.out]
     simp only [T.ids,List.length_append,List.length_cons]
     omega
end
section
variable {F:Fence} {n:Nat} {P:Program} {ops:Array Oper} {rest:List Oper} {o:Oper} {a:Act} {w w2:World} {Q:Exit→Act→World→Prop}
theorem qkI {v:Value} {d:Nat} (hw:Region.wanted o (yielded ops a.tmps)=true) (hr:(execOp a.eval o).run P w= .ok (.value v) w2) (h:∀a',a'=a.put (some d) v→wpListIn F n P ops Q rest a' w2) (hd:o.dst=some d:=by rfl) (hF:∀f,F.fn f:=by exact fun _=>trivial) (hn:∀c,o.op≠ .defer c:=by intro c h;cases h):wpListIn F n P ops Q (o::rest) a w :=
 wpListIn_step fun K hK=>by
  rw [if_pos hw]
  refine ⟨fun f _=>hF f, ?_⟩
  rw [Oper.semAt_plain F _ _ hn,hr,Oper.uponIn_value]
  exact hK _ _ (by rw [hd];exact h _ rfl)
theorem qvI {v:Value} {d:Nat} (hw:Region.wanted o (yielded ops a.tmps)=true) (hr:(execOp a.eval o).run P w= .ok (.value v) w) (h:∀a',a'=a.put (some d) v→wpListIn F n P ops Q rest a' w) (hd:o.dst=some d:=by rfl) (hF:∀f,F.fn f:=by exact fun _=>trivial) (hn:∀c,o.op≠ .defer c:=by intro c h;cases h):wpListIn F n P ops Q (o::rest) a w:=qkI hw hr h hd hF hn
theorem qsI (hw:Region.wanted o (yielded ops a.tmps)=true) (hr:(execOp a.eval o).run P w= .ok .skip w2) (h:wpListIn F n P ops Q rest a w2) (hd:o.dst=none:=by rfl) (hF:∀f,F.fn f:=by exact fun _=>trivial) (hn:∀c,o.op≠ .defer c:=by intro c h;cases h):wpListIn F n P ops Q (o::rest) a w :=
 wpListIn_step fun K hK=>by
  rw [if_pos hw]
  refine ⟨fun f _=>hF f, ?_⟩
  rw [Oper.semAt_plain F _ _ hn,hr,Oper.uponIn_skip]
  exact hK _ _ (by rw [hd];exact h)
theorem qnI {d:Nat} (hw:Region.wanted o (yielded ops a.tmps)=false) (h:∀a',a'=a.put (some d) undef→wpListIn F n P ops Q rest a' w) (hd:o.dst=some d:=by rfl) (hF:∀f,F.fn f:=by exact fun _=>trivial):wpListIn F n P ops Q (o::rest) a w :=
 wpListIn_step fun K hK=>by
  rw [if_neg (by rw [hw];decide),hd]
  exact ⟨fun f _=>hF f,hK _ _ (h _ rfl)⟩
theorem qcI {f:Nat} {vs:Array Value} {R:Ending→World→Prop} {d:Nat} (hw:Region.wanted o (yielded ops a.tmps)=true) (hr:(execOp a.eval o).run P w= .ok (.enter f vs) w) (hC:Calls P f vs w R) (h:∀e w',R e w'→∃v,e= .returned v∧∀a',a'=a.put (some d) v→wpListIn Fence.wide n P ops Q rest a' w') (hd:o.dst=some d:=by rfl) (hn:∀c,o.op≠ .defer c:=by intro c h;cases h):wpListIn Fence.wide n P ops Q (o::rest) a w :=
 wpListIn_step fun K hK=>by
  rw [if_pos hw]
  refine ⟨fun f _=>trivial, ?_⟩
  rw [Oper.semAt_plain Fence.wide _ _ hn,hr,Oper.uponIn_enter]
  refine ⟨fun h=>by simp [Fence.wide] at h,callsIn_wide.2 (hC.mono ?_)⟩
  intro e w' hp
  obtain ⟨v,rfl,hh⟩:=h e w' hp
  exact hK _ _ (by rw [hd];exact hh _ rfl)
theorem qyI {l:Nat} {vs:Array Value} {R:Ending→World→Prop} {d:Nat} (hw:Region.wanted o (yielded ops a.tmps)=true) (hr:(execOp a.eval o).run P w=(Instr.yield l vs).run P w) (hC:YieldAt Fence.wide (n-1) P l vs w R) (h:∀e w',R e w'→∃v,e= .returned v∧∀a',a'=a.put (some d) v→wpListIn Fence.wide n P ops Q rest a' w') (hd:o.dst=some d:=by rfl) (hn:∀c,o.op≠ .defer c:=by intro c h;cases h):wpListIn Fence.wide n P ops Q (o::rest) a w :=
 wpListIn_step fun K hK=>by
  rw [if_pos hw]
  refine ⟨fun f _=>trivial, ?_⟩
  obtain ⟨fn,tmps,assign,body,hy,hR⟩:=hC
  rw [Oper.semAt_plain Fence.wide _ _ hn,hr,hy,Oper.uponIn_round]
  refine ⟨fun h=>by simp [Fence.wide] at h,hR.mono ?_⟩
  intro e w' hp
  obtain ⟨v,rfl,hh⟩:=h e w' hp
  exact hK _ _ (by rw [hd];exact hh _ rfl)
end
structure Elt where
 id:IdK
 bh:IdK
 sh:Bool
def eltAt (L:List Sp) (i:Nat):Elt:=⟨(gt L i).kp.id,(gt L i).kp.bh,(gt L i).sh⟩
def elts (L:List Sp) (t:T):List Elt:=t.ids.map (eltAt L)
def hasE (E:List Elt) (k:IdK):Bool:=E.any (fun e=>decide (e.id=k))
theorem hasE_iff {E:List Elt} {k:IdK}:hasE E k=true↔ ∃e∈E,e.id=k:=by simp [hasE]
def folE (E:List Elt) (k:IdK):Nat:=E.countP (fun e=>decide (e.bh=k))
structure SeqOk (E:List Elt):Prop where
 nd:(E.map (·.id)).Nodup
 ok:∀e∈E,e.id.ok∧e.bh.ok∧1≤e.id.n
 bh:∀e∈E,e.bh=zId∨hasE E e.bh=true
def insE:List Elt→IdK→Elt→List Elt
 |[],_,x=>[x]
 |e::E,b,x=>if e.id=b then e::x::E else e::insE E b x
def putE (E:List Elt) (b:IdK) (x:Elt):List Elt:=if b=zId then x::E else insE E b x
theorem insE_mid {A B:List Elt} {e x:Elt} (h:∀y∈A,y.id≠e.id):insE (A++e::B) e.id x=A++e::x::B:=by
 induction A with
 |nil=>simp [insE]
 |cons a A ih =>
  rw [List.cons_append,insE,if_neg (h a (by simp)),ih (fun y hy=>h y (by simp [hy]))]
  rfl
theorem insE_perm (E:List Elt) (b:IdK) (x:Elt):(insE E b x).Perm (x::E):=by
 induction E with
 |nil=>exact List.Perm.refl _
 |cons e E ih =>
  unfold insE
  split
  ·exact List.Perm.swap _ _ _
  ·exact (List.Perm.cons e ih).trans (List.Perm.swap _ _ _)
theorem putE_perm (E:List Elt) (b:IdK) (x:Elt):(putE E b x).Perm (x::E):=by
 unfold putE
 split
 ·exact List.Perm.refl _
 ·exact insE_perm E b x
def showE (E:List Elt) (k:IdK) (b:Bool):List Elt:=E.map (fun e=>if e.id=k then {e with sh:=b} else e)
theorem folE_perm {E F:List Elt} (h:E.Perm F) (k:IdK):folE E k=folE F k:=h.countP_eq _
theorem hasE_perm {E F:List Elt} (h:E.Perm F) (k:IdK):hasE E k=hasE F k:=by
 rw [Bool.eq_iff_iff,hasE_iff,hasE_iff]
 exact ⟨fun ⟨e,he,q⟩=>⟨e,h.mem_iff.1 he,q⟩,fun ⟨e,he,q⟩=>⟨e,h.mem_iff.2 he,q⟩⟩
theorem SeqOk.perm {E F:List Elt} (h:SeqOk E) (p:E.Perm F):SeqOk F :=
 ⟨(p.map _).nodup_iff.1 h.nd,fun e he=>h.ok e (p.mem_iff.2 he),fun e he=>(h.bh e (p.mem_iff.2 he)).imp id (fun q=>by rw [←hasE_perm p];exact q)⟩
theorem SeqOk.cons {E:List Elt} (h:SeqOk E) {x:Elt} (hx:x.id.ok∧x.bh.ok∧1≤x.id.n) (hn:hasE E x.id=false) (hb:x.bh=zId∨hasE E x.bh=true):SeqOk (x::E):=by
 have hni:∀e∈E,e.id≠x.id:=fun e he q=>by
  have:hasE E x.id=true:=hasE_iff.2 ⟨e,he,q⟩
  rw [hn] at this;cases this
 refine ⟨?_, ?_, ?_⟩
 ·rw [List.map_cons,List.nodup_cons]
  exact ⟨fun q=>by obtain ⟨e,he,q⟩:=List.mem_map.1 q;exact hni e he q,h.nd⟩
 ·intro e he
  rcases List.mem_cons.1 he with rfl|he
  ·exact hx
  ·exact h.ok e he
 ·intro e he
  have up:∀k,hasE E k=true→hasE (x::E) k=true:=fun k q=>by
   obtain ⟨e,he,q⟩:=hasE_iff.1 q
   exact hasE_iff.2 ⟨e,by simp [he],q⟩
  rcases List.mem_cons.1 he with rfl|he
  ·exact hb.imp id (up _)
  ·exact (h.bh e he).imp id (up _)
theorem SeqOk.put {E:List Elt} (h:SeqOk E) {x:Elt} (hx:x.id.ok∧x.bh.ok∧1≤x.id.n) (hn:hasE E x.id=false) (hb:x.bh=zId∨hasE E x.bh=true):SeqOk (putE E x.bh x) :=
 (h.cons hx hn hb).perm (putE_perm E x.bh x).symm
theorem showE_ids (E:List Elt) (k:IdK) (b:Bool):(showE E k b).map (·.id)=E.map (·.id):=by
 unfold showE
 rw [List.map_map]
 refine List.map_congr_left fun e _=> ?_
 simp only [Function.comp]
 split <;>rfl
theorem showE_has (E:List Elt) (k:IdK) (b:Bool) (x:IdK):hasE (showE E k b) x=hasE E x:=by
 rw [Bool.eq_iff_iff,hasE_iff,hasE_iff]
 unfold showE
 constructor
 ·rintro ⟨e,he,q⟩
  obtain ⟨f,hf,rfl⟩:=List.mem_map.1 he
  refine ⟨f,hf, ?_⟩
  revert q
  split <;>exact id
 ·rintro ⟨e,he,q⟩
  refine ⟨_,List.mem_map.2 ⟨e,he,rfl⟩, ?_⟩
  split <;>exact q
theorem SeqOk.show {E:List Elt} (h:SeqOk E) (k:IdK) (b:Bool):SeqOk (showE E k b):=by
 refine ⟨by rw [showE_ids];exact h.nd,fun e he=> ?_,fun e he=> ?_⟩
 ·obtain ⟨f,hf,rfl⟩:=List.mem_map.1 he
  have:=h.ok f hf
  split <;>exact this
 ·obtain ⟨f,hf,rfl⟩:=List.mem_map.1 he
  rw [showE_has]
  have:=h.bh f hf
  split <;>exact this
theorem folE_show (E:List Elt) (k:IdK) (b:Bool) (x:IdK):folE (showE E k b) x=folE E x:=by
 unfold folE showE
 rw [List.countP_map]
 refine List.countP_congr fun e _=> ?_
 simp only [Function.comp]
 split <;>exact Iff.rfl
structure Sx where
 sb:Nat
 mb:Nat
 g:Nat
 cap:Nat
 L:List Sp
 t:T
 N:List (IdK × Nat)
def Sx.bl (s:Sx):List Nat:=[s.sb,s.mb,s.g]
def entM (N:List (IdK × Nat)):List (IdK × Value):=M.onV (fun n:Nat=>Value.int .i64 (n:Int)) N
structure Lk (s:Sx) (E:List Elt):Prop where
 good:Good s.L s.t
 e:E=elts s.L s.t
 ok:SeqOk E
 map:∀k n,M.look s.N k=some n↔(n∈s.t.ids∧(gt s.L n).kp.id=k)
 zid:(gt s.L 0).kp.id=zId
 fol:∀n,n=0∨n∈s.t.ids→(gt s.L n).kp.fol=(folE E (gt s.L n).kp.id:Int)
structure SeqAt (w:World) (s:Sx) (E:List Elt):Prop where
 c0:w.cell? ⟨s.sb,0,none⟩=some (.map (some s.mb))
 row:SqAt w s.sb 1 s.g s.cap s.L
 map:M.MapAt w s.mb IdK.v IdK.ok (entM s.N)
 nm:s.sb≠s.mb∧s.g≠s.mb
 lk:Lk s E
theorem SeqAt.lt {w:World} {s:Sx} {E:List Elt} (h:SeqAt w s E):∀j∈s.bl,j<w.heap.size:=by
 intro j hj
 simp only [Sx.bl,List.mem_cons,List.not_mem_nil,or_false] at hj
 rcases hj with rfl|rfl|rfl
 ·exact h.row.lt.1
 ·exact h.map.lt
 ·exact h.row.lt.2
theorem SeqAt.keep {w w':World} {s:Sx} {E:List Elt} (h:SeqAt w s E) (hk:∀j∈s.bl,w'.heap[j]? =w.heap[j]?):SeqAt w' s E :=
 ⟨(World.cell?_of_block (a:=⟨s.sb,0,none⟩) (hk s.sb (by simp [Sx.bl]))).trans h.c0,h.row.keep (hk s.sb (by simp [Sx.bl])) (hk s.g (by simp [Sx.bl])),h.map.below (hk s.mb (by simp [Sx.bl])),h.nm,h.lk⟩
theorem SeqAt.below {w w':World} {s:Sx} {E:List Elt} (h:SeqAt w s E) (b:Below w.heap.size w w'):SeqAt w' s E:=h.keep (fun j hj=>b.block j (h.lt j hj))
theorem SeqAt.drew {w:World} {s:Sx} {E:List Elt} (h:SeqAt w s E):SeqAt w.drew s E:=h.keep (fun _ _=>rfl)
theorem SeqAt.qt {w w':World} {s:Sx} {E:List Elt} (h:SeqAt w s E) (q:Qt w w'):SeqAt w' s E:=h.keep (fun j _=>by rw [q.heap])
theorem look_entM (N:List (IdK × Nat)) (k:IdK):M.look (entM N) k=(M.look N k).map (fun n:Nat=>Value.int .i64 (n:Int)):=M.look_on _ _ _
theorem Lk.has {s:Sx} {E:List Elt} (h:Lk s E) (k:IdK):hasE E k=(M.look s.N k).isSome:=by
 rw [Bool.eq_iff_iff,hasE_iff]
 constructor
 ·rintro ⟨e,he,q⟩
  rw [h.e,elts] at he
  obtain ⟨n,hn,rfl⟩:=List.mem_map.1 he
  rw [(h.map k n).2 ⟨hn,q⟩]
  rfl
 ·intro q
  obtain ⟨n,hn⟩:=Option.isSome_iff_exists.1 q
  obtain ⟨h1,h2⟩:=(h.map k n).1 hn
  exact ⟨eltAt s.L n,by rw [h.e,elts];exact List.mem_map.2 ⟨n,h1,rfl⟩,h2⟩
def spotOf (s:Sx) (k:IdK):Nat:=(M.look s.N k).getD 0
theorem Lk.spot {s:Sx} {E:List Elt} (h:Lk s E) {k:IdK} (hk:hasE E k=true):spotOf s k∈s.t.ids∧(gt s.L (spotOf s k)).kp.id=k:=by
 rw [h.has] at hk
 obtain ⟨n,hn⟩:=Option.isSome_iff_exists.1 hk
 unfold spotOf
 rw [hn]
 exact (h.map k n).1 hn
theorem Lk.spot0 {s:Sx} {E:List Elt} (h:Lk s E) {k:IdK} (hk:hasE E k=false):spotOf s k=0:=by
 rw [h.has] at hk
 unfold spotOf
 cases q:M.look s.N k with
 |none=>rfl
 |some n=>rw [q] at hk;cases hk
theorem Lk.zero {s:Sx} {E:List Elt} (h:Lk s E):hasE E zId=false:=by
 cases q:hasE E zId with
 |false=>rfl
 |true =>
  obtain ⟨e,he,q⟩:=hasE_iff.1 q
  have:=(h.ok.ok e he).2.2
  rw [q] at this
  simp [zId] at this
theorem Lk.spot_has {s:Sx} {E:List Elt} (h:Lk s E) (k:IdK):(decide ((spotOf s k:Int)≠0))=hasE E k:=by
 cases q:hasE E k with
 |false=>rw [h.spot0 q];rfl
 |true =>
  have:=(h.good.lt (h.spot q).1).1
  simp;omega
theorem look_spot {w:World} {s:Sx} {E:List Elt} (h:SeqAt w s E) (k:IdK) (hk:k.ok):(Instr.lookup 72 (.map (some s.mb)) k.v false).run Tryz.prog w= .ok (.int .i64 (spotOf s k:Int)) w:=by
 have hz:(zeroValue 3).run Tryz.prog w= .ok (.int .i64 0) w:=by kernel_rfl
 rw [M.run_look idKey Tryz.underlying72 h.map k hk hz false,look_entM,if_neg (by decide)]
 unfold spotOf
 cases M.look s.N k <;>rfl
section
variable {w:World} {rb ro g cap i:Nat} {L:List Sp}
theorem Sp.get_id {s:Sp} {j:Nat} {v:Value} (h:(s.kp.id.c)[j]? =some v):(Sp.c s)[j]? =some v:=by
 have hl:=(List.getElem?_eq_some_iff.1 h).1
 rw [Sp.c,List.getElem?_append_left (by simp [KpV.c];omega),KpV.c,List.getElem?_append_left hl]
 exact h
theorem Sp.get_fol {s:Sp} (ok:KpV.ok s.kp):(Sp.c s)[66]? =some (.int .i64 s.kp.fol):=by
 have l1:=IdK.len ok.id
 have l2:=IdK.len ok.bh
 rw [Sp.c,List.getElem?_append_left (by simp [KpV.c,l1,l2]),KpV.c,List.getElem?_append_right (by omega),l1,List.getElem?_append_right (by omega),l2]
 rfl
theorem R_id (h:SqAt w rb ro g cap L) (hi:i<L.length):(Instr.loadAt 36 (.pointer (some ⟨g,73*i+0+0,none⟩))).run Tryz.prog w= .ok (gt L i).kp.id.v w :=
 run_loadAt_mid (P:=Tryz.prog) w g (73*i) 36 (gt L i).kp.id.c _ (fun j v hv=>h.range hi j v (Sp.get_id hv)) Tryz.underlying36 rfl (by rw [IdK.len (h.ok.gt hi).id];exact szId)
theorem R_fol (h:SqAt w rb ro g cap L) (hi:i<L.length):(Instr.loadAt 3 (.pointer (some ⟨g,73*i+0+66,none⟩))).run Tryz.prog w= .ok (.int .i64 (gt L i).kp.fol) w:=by
 have:=h.range hi 66 _ (Sp.get_fol (h.ok.gt hi))
 rw [Nat.add_zero]
 go_simp
def setFol (L:List Sp) (i:Nat) (v:Int):List Sp:=md L i (fun s=>{s with kp:={s.kp with fol:=v}})
theorem st_fol (h:SqAt w rb ro g cap L) (hi:i<L.length) (v:Int):∃w',(Instr.storeAt 3 (.pointer (some ⟨g,73*i+0+66,none⟩)) (.int .i64 v)).run Tryz.prog w= .ok () w'∧Did w rb ro g cap (setFol L i v) w':=by
 have ok:=h.ok.gt hi
 have l1:=IdK.len ok.id
 have l2:=IdK.len ok.bh
 obtain ⟨w',e,a,t,z⟩:=h.seg (k:=66) (n:=1) (t:=3) (v:= .int .i64 v) hi (fun s=>{s with kp:={s.kp with fol:=v}}) [.int .i64 v] rfl (by
  have e1:(Sp.c (gt L i)).take 66=(gt L i).kp.id.c++(gt L i).kp.bh.c:=by
   rw [Sp.c,KpV.c, ←List.append_assoc,List.append_assoc,List.take_append_of_le_length (by simp [l1,l2]),List.take_of_length_le (by simp [l1,l2])]
  have e2:(Sp.c (gt L i)).drop (66+1)=Sp.t (gt L i):=by
   rw [Sp.c,List.drop_append,KpV.len ok,List.drop_of_length_le (by rw [KpV.len ok];omega)]
   simp
  rw [e1,e2]
  simp [Sp.c,KpV.c,Sp.t]) (by omega) ⟨ok.id,ok.bh⟩ (by simp [Value.oneCell']) (by kernel_rfl) rfl
 exact ⟨w',e,a,t,z⟩
end
theorem setFol_len (L:List Sp) (i:Nat) (v:Int):(setFol L i v).length=L.length:=md_len _ _ _
theorem setFol_gt (L:List Sp) (i:Nat) (v:Int) (j:Nat):(gt (setFol L i v) j).kp.id=(gt L j).kp.id∧(gt (setFol L i v) j).kp.bh=(gt L j).kp.bh∧Sq.Alike L (setFol L i v) j∧(∀w,ct (gt (setFol L i v) j) w=ct (gt L j) w)∧(gt (setFol L i v) j).sh=(gt L j).sh∧(gt (setFol L i v) j).kp.fol=if i=j∧i<L.length then v else (gt L j).kp.fol:=by
 unfold setFol
 by_cases e:i=j∧i<L.length
 ·rw [if_pos e]
  have:gt (md L i (fun s=>{s with kp:={s.kp with fol:=v}})) j={gt L j with kp:={(gt L j).kp with fol:=v}}:=by rw [gt_md,if_pos e]
  rw [this]
  exact ⟨rfl,rfl,⟨by rw [this],by rw [this],by rw [this]⟩,fun w=>by cases w <;>rfl,rfl,rfl⟩
 ·rw [if_neg e]
  have:gt (md L i (fun s=>{s with kp:={s.kp with fol:=v}})) j=gt L j:=by rw [gt_md,if_neg e]
  rw [this]
  exact ⟨rfl,rfl,⟨by rw [this],by rw [this],by rw [this]⟩,fun w=>rfl,rfl,rfl⟩
theorem Good.setFol {L:List Sp} {t:T} (h:Good L t) (i:Nat) (v:Int):Good (setFol L i v) t :=
 ⟨⟨h.zip.rep.same (md_len _ _ _) (fun j _=>(setFol_gt L i v j).2.2.1),h.zip.repc.same (md_len _ _ _) (fun j _=>(setFol_gt L i v j).2.2.1) ⟨(setFol_gt L i v 0).2.2.1.l,(setFol_gt L i v 0).2.2.1.r⟩,h.zip.nd,fun w=>by rw [(setFol_gt L i v 0).2.2.2.1];exact h.zip.z w⟩,
   h.cnt.same (fun j _=>⟨(setFol_gt L i v j).2.2.2.2.1,(setFol_gt L i v j).2.2.2.1⟩),fun j h0 hj=>h.all j h0 (by rw [setFol_len] at hj;exact hj)⟩
theorem fg_80_0 (b o:Nat) (W:World):(Instr.fieldAt 80 (.pointer (some ⟨b,o,none⟩)) 0).run Tryz.prog W= .ok (.pointer (some ⟨b,o+0,none⟩)) W:=by go_simp
theorem fg_80_1 (b o:Nat) (W:World):(Instr.fieldAt 80 (.pointer (some ⟨b,o,none⟩)) 1).run Tryz.prog W= .ok (.pointer (some ⟨b,o+1,none⟩)) W:=by go_simp
theorem fg_78_0 (b o:Nat) (W:World):(Instr.fieldAt 78 (.pointer (some ⟨b,o,none⟩)) 0).run Tryz.prog W= .ok (.pointer (some ⟨b,o+0,none⟩)) W:=by go_simp
theorem fg_78_2 (b o:Nat) (W:World):(Instr.fieldAt 78 (.pointer (some ⟨b,o,none⟩)) 2).run Tryz.prog W= .ok (.pointer (some ⟨b,o+66,none⟩)) W:=by go_simp
theorem fg_36_1 (b o:Nat) (W:World):(Instr.fieldAt 36 (.pointer (some ⟨b,o,none⟩)) 1).run Tryz.prog W= .ok (.pointer (some ⟨b,o+32,none⟩)) W:=by go_simp
theorem ld_map {w:World} {sb mb:Nat} (h:w.cell? ⟨sb,0,none⟩=some (.map (some mb))):(Instr.loadAt 72 (.pointer (some ⟨sb,0,none⟩))).run Tryz.prog w= .ok (.map (some mb)) w:=by go_simp
theorem ld_n {w:World} {b:Nat} {k:IdK} (hk:k.ok) (h:IdAt w b k):(Instr.loadAt 3 (.pointer (some ⟨b,32,none⟩))).run Tryz.prog w= .ok (.int .i64 k.n) w:=by
 have:w.cell? ⟨b,32,none⟩=some (.int .i64 k.n):=by
  have:=cells_range h 32 (.int .i64 k.n) (by
   rw [IdK.c,List.getElem?_append_right (by rw [hcs_len,hk.l];omega),hcs_len,hk.l]
   rfl)
  rwa [Nat.zero_add] at this
 go_simp
theorem build_id (w:World):(Instr.build 36 #[]).run Tryz.prog w= .ok zId.v w:=by kernel_rfl
theorem guard_id (x y:Operand) (a b:IdK) (w:World) (op:BinOp):(eqGuard op 36 x y a.v b.v).run Tryz.prog w= .ok () w:=by
 have h:Tryz.prog.eqGuardType Tryz.prog.depth 36=false:=by kernel_rfl
 have hp:∀w:World,(program).run Tryz.prog w= .ok Tryz.prog w:=fun w=>rfl
 unfold eqGuard IdK.v
 cases op <;>simp [h,hp,Result.andThen]
theorem eql_id (a b:IdK) (ha:a.ok) (hb:b.ok) (w:World):(binOp .eql 36 a.v b.v).run Tryz.prog w= .ok (.bool (decide (a=b))) w:=by
 have h:(Op.equalIn Op.maxDepth 36 a.v b.v).run Tryz.prog w= .ok (decide (a=b)) w:=eqId 9997 a b ha hb w
 unfold IdK.v at h ⊢
 simp [binOp,Op.equal,h,Result.andThen]
theorem neq_id (a b:IdK) (ha:a.ok) (hb:b.ok) (w:World):(binOp .neq 36 a.v b.v).run Tryz.prog w= .ok (.bool (!decide (a=b))) w:=by
 have h:(Op.equalIn Op.maxDepth 36 a.v b.v).run Tryz.prog w= .ok (decide (a=b)) w:=eqId 9997 a b ha hb w
 unfold IdK.v at h ⊢
 simp [binOp,Op.equal,h,Result.andThen]
section
variable {w:World} {a:Act} {o:Oper} {x y:Operand} {p q:IdK} {r:Bool}
theorem ex_neqI (ho:o.op= .binOp .neq 36 x y 36) (hx:a.eval x=p.v) (hy:a.eval y=q.v) (hp:p.ok) (hq:q.ok) (h:(!decide (p=q))=r):(execOp a.eval o).run Tryz.prog w= .ok (.value (.bool r)) w :=
 exec_binOp ho hx hy (guard_id _ _ _ _ _ _) (by rw [neq_id p q hp hq,h])
theorem ex_eqlI (ho:o.op= .binOp .eql 36 x y 36) (hx:a.eval x=p.v) (hy:a.eval y=q.v) (hp:p.ok) (hq:q.ok) (h:decide (p=q)=r):(execOp a.eval o).run Tryz.prog w= .ok (.value (.bool r)) w :=
 exec_binOp ho hx hy (guard_id _ _ _ _ _ _) (by rw [eql_id p q hp hq,h])
theorem build_el0 (w:World) (a0 a1 a2 a3 a4 a5 a6 a7 a8 a9 a10 a11 a12 a13 a14 a15 a16 a17 a18 a19 a20 a21 a22 a23 a24 a25 a26 a27 a28 a29 a30 a31 a32 b0 b1 b2 b3 b4 b5 b6 b7 b8 b9 b10 b11 b12 b13 b14 b15 b16 b17 b18 b19 b20 b21 b22 b23 b24 b25 b26 b27 b28 b29 b30 b31 b32:Value):(Instr.build 78 #[(0, .agg [a0,a1,a2,a3,a4,a5,a6,a7,a8,a9,a10,a11,a12,a13,a14,a15,a16,a17,a18,a19,a20,a21,a22,a23,a24,a25,a26,a27,a28,a29,a30,a31,a32].toArray),(1, .agg [b0,b1,b2,b3,b4,b5,b6,b7,b8,b9,b10,b11,b12,b13,b14,b15,b16,b17,b18,b19,b20,b21,b22,b23,b24,b25,b26,b27,b28,b29,b30,b31,b32].toArray)]).run Tryz.prog w= .ok (.agg ([a0,a1,a2,a3,a4,a5,a6,a7,a8,a9,a10,a11,a12,a13,a14,a15,a16,a17,a18,a19,a20,a21,a22,a23,a24,a25,a26,a27,a28,a29,a30,a31,a32]++([b0,b1,b2,b3,b4,b5,b6,b7,b8,b9,b10,b11,b12,b13,b14,b15,b16,b17,b18,b19,b20,b21,b22,b23,b24,b25,b26,b27,b28,b29,b30,b31,b32]++[Value.int .i64 0])).toArray) w:=by kernel_rfl
theorem build_el (w:World) (hp:p.ok) (hq:q.ok):(Instr.build 78 #[(0,p.v),(1,q.v)]).run Tryz.prog w= .ok (KpV.v ⟨p,q,0⟩) w:=by
 have h:=IdK.len hp
 have h2:=IdK.len hq
 unfold KpV.v KpV.c IdK.v
 simp only
 generalize p.c=l at *
 generalize q.c=m at *
 match l,h,m,h2 with
 |a0::a1::a2::a3::a4::a5::a6::a7::a8::a9::a10::a11::a12::a13::a14::a15::a16::a17::a18::a19::a20::a21::a22::a23::a24::a25::a26::a27::a28::a29::a30::a31::a32::[],_,b0::b1::b2::b3::b4::b5::b6::b7::b8::b9::b10::b11::b12::b13::b14::b15::b16::b17::b18::b19::b20::b21::b22::b23::b24::b25::b26::b27::b28::b29::b30::b31::b32::[],_=>exact build_el0 w a0 a1 a2 a3 a4 a5 a6 a7 a8 a9 a10 a11 a12 a13 a14 a15 a16 a17 a18 a19 a20 a21 a22 a23 a24 a25 a26 a27 a28 a29 a30 a31 a32 b0 b1 b2 b3 b4 b5 b6 b7 b8 b9 b10 b11 b12 b13 b14 b15 b16 b17 b18 b19 b20 b21 b22 b23 b24 b25 b26 b27 b28 b29 b30 b31 b32
theorem ex_el (ho:o.op= .build 78 #[(0,x),(1,y)]) (hx:a.eval x=p.v) (hy:a.eval y=q.v) (hp:p.ok) (hq:q.ok):(execOp a.eval o).run Tryz.prog w= .ok (.value (KpV.v ⟨p,q,0⟩)) w :=
 exec_build ho (by simp [hx,hy]) (build_el w hp hq)
end
end Go.Proofs.YtifendlpeebofaaGreatDoor
