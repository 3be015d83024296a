import Derived.Test.YtifendlpeebofaaGreatDoorP1
import Derived.Test.YtifendlpeebofaaGreatDoorP0
import Derived.Laws.ResultCell
import Derived.Laws.MakeOwn
import Derived.Shelf.Abstract
set_option linter.unusedSimpArgs false
set_option linter.unusedVariables false
set_option maxRecDepth 100000
set_option maxHeartbeats 4000000
namespace Go.Proofs.YtifendlpeebofaaGreatDoor
open Go.RowKit Sq
def has1_o1:Oper:=⟨some 6, .binOp BinOp.neq 23 (.tmp 5) (Operand.const (Value.pointer none)) 23,4,"seq.go:135", #[⟨0, .data⟩],none⟩
def has1_ops:Array Oper:=(⟨_,rfl⟩:{o // some o=rgB Tryz.f47 1}).1
theorem has1 {s:Sx} {E:List Elt} {b1 i:Nat} {k:IdK} {r:Bool} (a:Act) (w:World) (Q:Exit→Act→World→Prop) (zz:a.tmps.size=16)
 (t0:a.tmps.getD 0 undef= .pointer (some ⟨s.sb,0,none⟩))
 (t3:a.tmps.getD 3 undef= .pointer (some ⟨b1,0,none⟩))
 (hS:SeqAt w s E) (hk:k.ok) (ib1:IdAt w b1 k) (ei:spotOf s k=i) (hr:decide ((i:Int)≠0)=r)
 (h:∀a' w',w'=w.drew→a'=(((((((((((a.put (some 5) (.pointer (some ⟨s.sb,0,none⟩))).put (some 6) (.bool true)).put (some 7) (.bool true)).put (some 8) (.pointer (some ⟨s.sb,0,none⟩))).put (some 9) (.pointer (some ⟨s.sb,0,none⟩))).put (some 10) (.pointer (some ⟨s.sb,0,none⟩))).put (some 11) (.map (some s.mb))).put (some 12) (k.v)).put (some 13) (.int .i64 (i:Int))).put (some 14) (.bool r)).put (some 15) (.bool r)).put (some 4) (.bool r)→Q .normal a' w') :
 (Code.region 1 has1_ops true).wp Tryz.prog Q a w:=by
 refine y0 (fun w'=>w'=w.drew) (rfl) (fun hHeld=> ?_)
 refine yv 0 rfl rfl (fun w1 hw=>xmv rfl (zi t0 rfl)) hHeld ?_
 refine yv (v:= .bool true) 1 rfl rfl (fun w1 hw=>zu1 (zg (i:=5) zz rfl) (fun b t5=>by show (execOp b.eval has1_o1).run _ _=_;unfold has1_o1;go_simp)) hHeld ?_
 refine yv 2 rfl rfl (fun w1 hw=>xmv rfl (zg zz rfl)) hHeld ?_
 refine yv 3 rfl (zw zz rfl rfl rfl (zg zz rfl)) (fun w1 hw=>xmv rfl (zi t0 rfl)) hHeld ?_
 refine yv 4 rfl (zw zz rfl rfl rfl (zg zz rfl)) (fun w1 hw=>xnc rfl (zg zz rfl)) hHeld ?_
 refine yv 5 rfl (zw zz rfl rfl rfl (zg zz rfl)) (fun w1 hw=>xfa rfl (zg zz rfl) (fg_80_0 _ _ _)) hHeld ?_
 refine yv 6 rfl (zw zz rfl rfl rfl (zg zz rfl)) (fun w1 hw=>xld rfl (zg zz rfl) (ld_map (hw▸hS.drew:SeqAt _ s E).c0)) hHeld ?_
 refine yv 7 rfl (zw zz rfl rfl rfl (zg zz rfl)) (fun w1 hw=>xld rfl (zi t3 rfl) (load_id hk (hw▸ib1:IdAt _ b1 k))) hHeld ?_
 refine yv (v:= .int .i64 (i:Int)) 8 rfl (zw zz rfl rfl rfl (zg zz rfl)) (fun w1 hw=>exec_lookup rfl (zg zz rfl) (zg zz rfl) (by rw [look_spot (hw▸hS.drew:SeqAt _ s E) k hk,ei])) hHeld ?_
 refine yv (v:= .bool r) 9 rfl (zw zz rfl rfl rfl (zg zz rfl)) (fun w1 hw=>ex_neq rfl (zg zz rfl) rfl hr) hHeld ?_
 refine yv 10 rfl rfl (fun w1 hw=>exec_pickT rfl (zg zz rfl) (zg zz rfl)) hHeld ?_
 refine yv 11 rfl rfl (fun w1 hw=>xas rfl (zg zz rfl)) hHeld ?_
 exact ye rfl (h _ _ (hHeld) rfl)
def elem1_ops:Array Oper:=(⟨_,rfl⟩:{o // some o=rgB Tryz.f48 1}).1
theorem elem1 {s:Sx} {i:Nat} (a:Act) (w:World) (Q:Exit→Act→World→Prop) (zz:a.tmps.size=13)
 (t0:a.tmps.getD 0 undef= .pointer (some ⟨s.sb,0,none⟩))
 (t1:a.tmps.getD 1 undef= .int .i64 (i:Int))
 (hR:SqAt w s.sb 1 s.g s.cap s.L) (hi:i<s.L.length)
 (h:∀a' w',w'=w→a'=((((((((a.put (some 5) (.pointer (some ⟨s.sb,0,none⟩))).put (some 6) (.pointer (some ⟨s.sb,0,none⟩))).put (some 7) (.pointer (some ⟨s.sb,1,none⟩))).put (some 8) (.pointer (some ⟨s.sb,1,none⟩))).put (some 9) (.slice (some ⟨s.g,0,none⟩) (s.L).length s.cap)).put (some 10) (.int .i64 (i:Int))).put (some 11) (.pointer (some ⟨s.g,73*i,none⟩))).put (some 12) (.pointer (some ⟨s.g,73*i+0,none⟩))).put (some 4) (.pointer (some ⟨s.g,73*i+0,none⟩))→Q .normal a' w') :
 (Code.region 1 elem1_ops false).wp Tryz.prog Q a w:=by
 refine z0 rfl ?_
 refine zv rfl (xmv rfl (zi t0 rfl)) ?_
 refine zv rfl (xnc rfl (zg zz rfl)) ?_
 refine zv rfl (xfa rfl (zg zz rfl) (fg_80_1 _ _ _)) ?_
 refine zv rfl (xfa rfl (zg zz rfl) (fg_75_0 _ _ _)) ?_
 refine zv rfl (xld rfl (zg zz rfl) (R_sl hR)) ?_
 refine zv rfl (xmv rfl (zi t1 rfl)) ?_
 refine zv rfl (xia rfl (zg zz rfl) (zg zz rfl) (R_ix hi hR.len _)) ?_
 refine zv rfl (xfa rfl (zg zz rfl) (fg_128_0 _ _ _)) ?_
 refine zv rfl (xas rfl (zg zz rfl)) ?_
 exact ze rfl (h _ _ (rfl) rfl)
def ins3_ops:Array Oper:=(⟨_,rfl⟩:{o // some o=rgB Tryz.f16 3}).1
theorem ins3 {b1:Nat} {k:IdK} {r:Bool} (a:Act) (w:World) (Q:Exit→Act→World→Prop) (zz:a.tmps.size=57)
 (t4:a.tmps.getD 4 undef= .pointer (some ⟨b1,0,none⟩))
 (hk:k.ok) (ib1:IdAt w b1 k) (hr:decide (k.n<1)=r)
 (h:∀a' w',w'=w→a'=(((a.put (some 12) (.pointer (some ⟨b1,32,none⟩))).put (some 13) (.int .i64 k.n)).put (some 14) (.bool r)).put (some 11) (.bool r)→Q .normal a' w') :
 (Code.region 3 ins3_ops false).wp Tryz.prog Q a w:=by
 refine z0 rfl ?_
 refine zv rfl (xfa rfl (zi t4 rfl) (fg_36_1 _ _ _)) ?_
 refine zv rfl (xld rfl (zg zz rfl) (ld_n hk ib1)) ?_
 refine zv (v:= .bool r) rfl (ex_lss rfl (zg zz rfl) rfl hr) ?_
 refine zv rfl (xas rfl (zg zz rfl)) ?_
 exact ze rfl (h _ _ (rfl) rfl)
def ins5_ops:Array Oper:=(⟨_,rfl⟩:{o // some o=rgB Tryz.f16 5}).1
theorem ins5 {s:Sx} {b1:Nat} {k:IdK} {r:Bool} (a:Act) (w:World) (Q:Exit→Act→World→Prop) (zz:a.tmps.size=57)
 (t0:a.tmps.getD 0 undef= .pointer (some ⟨s.sb,0,none⟩))
 (t4:a.tmps.getD 4 undef= .pointer (some ⟨b1,0,none⟩))
 (hk:k.ok) (ib1:IdAt w b1 k) (CH:Calls Tryz.prog 47 #[.pointer (some ⟨s.sb,0,none⟩),k.v] w fun e w'=>e= .returned (.bool r)∧Below w.heap.size w w')
 (h:∀a' w',Below w.heap.size w w'→a'=(((a.put (some 16) (.pointer (some ⟨s.sb,0,none⟩))).put (some 17) (k.v)).put (some 18) (.bool r)).put (some 15) (.bool r)→Q .normal a' w') :
 (Code.region 5 ins5_ops false).wp Tryz.prog Q a w:=by
 refine z0 rfl ?_
 refine zv rfl (xmv rfl (zi t0 rfl)) ?_
 refine zv rfl (xld rfl (zi t4 rfl) (load_id hk ib1)) ?_
 refine zc rfl (exec_c2 rfl (zg zz rfl) (zg zz rfl)) (CH) (fun e x2 hx=> ?_)
 obtain ⟨rfl,S1⟩:=hx
 refine ⟨_,rfl, ?_⟩
 refine zv rfl (xas rfl (zg zz rfl)) ?_
 exact ze rfl (h _ _ (S1) rfl)
def ins7a_ops:Array Oper:=(⟨_,rfl⟩:{o // some o=rgB Tryz.f16 7}).1
theorem ins7a {s:Sx} {b2:Nat} {k:IdK} {r:Bool} (a:Act) (w:World) (Q:Exit→Act→World→Prop) (zz:a.tmps.size=57)
 (t0:a.tmps.getD 0 undef= .pointer (some ⟨s.sb,0,none⟩))
 (t5:a.tmps.getD 5 undef= .pointer (some ⟨b2,0,none⟩))
 (hk:k.ok) (ib2:IdAt w b2 k) (hz:(!decide (k=zId))=true) (CH:Calls Tryz.prog 47 #[.pointer (some ⟨s.sb,0,none⟩),k.v] w fun e w'=>e= .returned (.bool r)∧Below w.heap.size w w')
 (h:∀a' w',Below w.heap.size w w'→a'=(((((((((a.put (some 20) (k.v)).put (some 21) (zId.v)).put (some 22) (.bool true)).put (some 23) (.bool true)).put (some 24) (.pointer (some ⟨s.sb,0,none⟩))).put (some 25) (k.v)).put (some 26) (.bool r)).put (some 27) (.bool (!r))).put (some 28) (.bool (!r))).put (some 19) (.bool (!r))→Q .normal a' w') :
 (Code.region 7 ins7a_ops false).wp Tryz.prog Q a w:=by
 refine z0 rfl ?_
 refine zv rfl (xld rfl (zi t5 rfl) (load_id hk ib2)) ?_
 refine zv rfl (exec_build0 rfl (build_id _)) ?_
 refine zv (v:= .bool true) rfl (ex_neqI rfl (zg zz rfl) (zg zz rfl) hk zId_ok hz) ?_
 refine zv rfl (xmv rfl (zg zz rfl)) ?_
 refine zv (zw zz rfl rfl rfl (zg zz rfl)) (xmv rfl (zi t0 rfl)) ?_
 refine zv (zw zz rfl rfl rfl (zg zz rfl)) (xld rfl (zi t5 rfl) (load_id hk ib2)) ?_
 refine zc (zw zz rfl rfl rfl (zg zz rfl)) (exec_c2 rfl (zg zz rfl) (zg zz rfl)) (CH) (fun e x6 hx=> ?_)
 obtain ⟨rfl,S1⟩:=hx
 refine ⟨_,rfl, ?_⟩
 refine zv (zw zz rfl rfl rfl (zg zz rfl)) (exec_not rfl (zg zz rfl)) ?_
 refine zv rfl (exec_pickT rfl (zg zz rfl) (zg zz rfl)) ?_
 refine zv rfl (xas rfl (zg zz rfl)) ?_
 exact ze rfl (h _ _ (S1) rfl)
theorem ins7b {s:Sx} {b2:Nat} {k:IdK} (a:Act) (w:World) (Q:Exit→Act→World→Prop) (zz:a.tmps.size=57)
 (t0:a.tmps.getD 0 undef= .pointer (some ⟨s.sb,0,none⟩))
 (t5:a.tmps.getD 5 undef= .pointer (some ⟨b2,0,none⟩))
 (hk:k.ok) (ib2:IdAt w b2 k) (hz:(!decide (k=zId))=false)
 (h:∀a' w',w'=w→a'=(((((((((a.put (some 20) (k.v)).put (some 21) (zId.v)).put (some 22) (.bool false)).put (some 23) (.bool false)).put (some 24) (undef)).put (some 25) (undef)).put (some 26) (undef)).put (some 27) (undef)).put (some 28) (.bool false)).put (some 19) (.bool false)→Q .normal a' w') :
 (Code.region 7 ins7a_ops false).wp Tryz.prog Q a w:=by
 refine z0 rfl ?_
 refine zv rfl (xld rfl (zi t5 rfl) (load_id hk ib2)) ?_
 refine zv rfl (exec_build0 rfl (build_id _)) ?_
 refine zv (v:= .bool false) rfl (ex_neqI rfl (zg zz rfl) (zg zz rfl) hk zId_ok hz) ?_
 refine zv rfl (xmv rfl (zg zz rfl)) ?_
 iterate 4 refine zn (zx zz rfl rfl rfl (zg zz rfl)) ?_
 refine zv rfl (exec_pickF rfl (zg zz rfl) rfl) ?_
 refine zv rfl (xas rfl (zg zz rfl)) ?_
 exact ze rfl (h _ _ (rfl) rfl)
def ins9_ops:Array Oper:=(⟨_,rfl⟩:{o // some o=rgB Tryz.f16 9}).1
theorem ins9 {s:Sx} {E:List Elt} {b2 i:Nat} {k:IdK} (a:Act) (w:World) (Q:Exit→Act→World→Prop) (zz:a.tmps.size=57)
 (t0:a.tmps.getD 0 undef= .pointer (some ⟨s.sb,0,none⟩))
 (t5:a.tmps.getD 5 undef= .pointer (some ⟨b2,0,none⟩))
 (hS:SeqAt w s E) (hk:k.ok) (ib2:IdAt w b2 k) (ei:spotOf s k=i)
 (h:∀a' w',w'=w.drew→a'=((((((a.put (some 29) (.pointer (some ⟨s.sb,0,none⟩))).put (some 30) (.pointer (some ⟨s.sb,0,none⟩))).put (some 31) (.pointer (some ⟨s.sb,0,none⟩))).put (some 32) (.map (some s.mb))).put (some 33) (k.v)).put (some 34) (.int .i64 (i:Int))).put (some 7) (.int .i64 (i:Int))→Q .normal a' w') :
 (Code.region 9 ins9_ops true).wp Tryz.prog Q a w:=by
 refine y0 (fun w'=>w'=w.drew) (rfl) (fun hHeld=> ?_)
 refine yv 0 rfl rfl (fun w1 hw=>xmv rfl (zi t0 rfl)) hHeld ?_
 refine yv 1 rfl rfl (fun w1 hw=>xnc rfl (zg zz rfl)) hHeld ?_
 refine yv 2 rfl rfl (fun w1 hw=>xfa rfl (zg zz rfl) (fg_80_0 _ _ _)) hHeld ?_
 refine yv 3 rfl rfl (fun w1 hw=>xld rfl (zg zz rfl) (ld_map (hw▸hS.drew:SeqAt _ s E).c0)) hHeld ?_
 refine yv 4 rfl rfl (fun w1 hw=>xld rfl (zi t5 rfl) (load_id hk (hw▸ib2:IdAt _ b2 k))) hHeld ?_
 refine yv (v:= .int .i64 (i:Int)) 5 rfl rfl (fun w1 hw=>exec_lookup rfl (zg zz rfl) (zg zz rfl) (by rw [look_spot (hw▸hS.drew:SeqAt _ s E) k hk,ei])) hHeld ?_
 refine yv 6 rfl rfl (fun w1 hw=>xas rfl (zg zz rfl)) hHeld ?_
 exact ye rfl (h _ _ (hHeld) rfl)
def ins10_ops:Array Oper:=(⟨_,rfl⟩:{o // some o=rgB Tryz.f16 10}).1
theorem ins10 {s:Sx} {E:List Elt} {i:Nat} {w2:World} (a:Act) (w:World) (Q:Exit→Act→World→Prop) (zz:a.tmps.size=57)
 (t0:a.tmps.getD 0 undef= .pointer (some ⟨s.sb,0,none⟩))
 (t7:a.tmps.getD 7 undef= .int .i64 (i:Int))
 (hS:SeqAt w s E) (hi:i<s.L.length) (hf: -9223372036854775808≤(gt s.L i).kp.fol+1∧(gt s.L i).kp.fol+1≤9223372036854775807) (CE:Calls Tryz.prog 48 #[.pointer (some ⟨s.sb,0,none⟩), .int .i64 (i:Int)] w fun e w'=>e= .returned (.pointer (some ⟨s.g,73*i+0,none⟩))∧w'=w) (ES:(Instr.storeAt 3 (.pointer (some ⟨s.g,73*i+0+66,none⟩)) (.int .i64 ((gt s.L i).kp.fol+1))).run Tryz.prog w= .ok () w2)
 (h:∀a' w',w'=w2→a'=((((((((a.put (some 35) (.pointer (some ⟨s.sb,0,none⟩))).put (some 36) (.int .i64 (i:Int))).put (some 37) (.pointer (some ⟨s.g,73*i+0,none⟩))).put (some 38) (.pointer (some ⟨s.g,73*i+0,none⟩))).put (some 39) (.pointer (some ⟨s.g,73*i+0+66,none⟩))).put (some 40) (.int .i64 (gt s.L i).kp.fol)).put (some 41) (.int .i64 ((gt s.L i).kp.fol+1))).put (some 42) (.pointer (some ⟨s.g,73*i+0,none⟩))).put (some 43) (.pointer (some ⟨s.g,73*i+0+66,none⟩))→Q .normal a' w') :
 (Code.region 10 ins10_ops false).wp Tryz.prog Q a w:=by
 refine z0 rfl ?_
 refine zv rfl (xmv rfl (zi t0 rfl)) ?_
 refine zv rfl (xmv rfl (zi t7 rfl)) ?_
 refine zc rfl (exec_c2 rfl (zg zz rfl) (zg zz rfl)) (CE) (fun e x2 hx=> ?_)
 obtain ⟨rfl,rfl⟩:=hx
 refine ⟨_,rfl, ?_⟩
 refine zv rfl (xnc rfl (zg zz rfl)) ?_
 refine zv rfl (xfa rfl (zg zz rfl) (fg_78_2 _ _ _)) ?_
 refine zv rfl (xld rfl (zg zz rfl) (R_fol hS.row hi)) ?_
 refine zv (v:= .int .i64 ((gt s.L i).kp.fol+1)) rfl (ex_add rfl (zg zz rfl) rfl hf) ?_
 refine zv rfl (xnc rfl (zg zz rfl)) ?_
 refine zv rfl (xfa rfl (zg zz rfl) (fg_78_2 _ _ _)) ?_
 refine zs rfl (exec_store rfl (zg zz rfl) (zg zz rfl) ES) ?_
 exact ze rfl (h _ _ (rfl) rfl)
def IS (s:Sx) (b1 b2:Nat) (k q:IdK) (w':World):Prop:=w'.cell? ⟨s.sb,0,none⟩=some (.map (some s.mb))∧IdAt w' b1 k∧IdAt w' b2 q
def ins11_ops:Array Oper:=(⟨_,rfl⟩:{o // some o=rgB Tryz.f16 11}).1
theorem ins11 {s:Sx} {b1 b2 i n:Nat} {k q:IdK} (Fin:World→Prop) (a:Act) (w:World) (Q:Exit→Act→World→Prop) (zz:a.tmps.size=57)
 (t0:a.tmps.getD 0 undef= .pointer (some ⟨s.sb,0,none⟩))
 (t4:a.tmps.getD 4 undef= .pointer (some ⟨b1,0,none⟩))
 (t5:a.tmps.getD 5 undef= .pointer (some ⟨b2,0,none⟩))
 (t7:a.tmps.getD 7 undef= .int .i64 (i:Int))
 (hk:k.ok) (hq:q.ok) (h0:IS s b1 b2 k q w.drew) (CP:Calls Tryz.prog 49 #[.pointer (some ⟨s.sb,1,none⟩), .int .i64 (i:Int),KpV.v ⟨k,q,0⟩] w.drew fun e w'=>e= .returned (.int .i64 (n:Int))∧IS s b1 b2 k q w'∧∃y,(Instr.mapUpdate 72 (.map (some s.mb)) k.v (.int .i64 (n:Int))).run Tryz.prog w'= .ok () y∧Fin y)
 (h:∀a' w',Fin w'→a'=((((((((((((a.put (some 44) (.pointer (some ⟨s.sb,0,none⟩))).put (some 45) (.pointer (some ⟨s.sb,0,none⟩))).put (some 46) (.pointer (some ⟨s.sb,0,none⟩))).put (some 47) (.map (some s.mb))).put (some 48) (k.v)).put (some 49) (.pointer (some ⟨s.sb,0,none⟩))).put (some 50) (.pointer (some ⟨s.sb,0,none⟩))).put (some 51) (.pointer (some ⟨s.sb,1,none⟩))).put (some 52) (.int .i64 (i:Int))).put (some 53) (k.v)).put (some 54) (q.v)).put (some 55) (KpV.v ⟨k,q,0⟩)).put (some 56) (.int .i64 (n:Int))→Q .normal a' w') :
 (Code.region 11 ins11_ops true).wp Tryz.prog Q a w:=by
 refine x0 13 (fun w'=>IS s b1 b2 k q w') (h0) (fun hHeld=> ?_)
 refine xv 0 rfl rfl (fun w1 hw=>xmv rfl (zi t0 rfl)) hHeld ?_
 refine xv 1 rfl rfl (fun w1 hw=>xnc rfl (zg zz rfl)) hHeld ?_
 refine xv 2 rfl rfl (fun w1 hw=>xfa rfl (zg zz rfl) (fg_80_0 _ _ _)) hHeld ?_
 refine xv 3 rfl rfl (fun w1 hw=>xld rfl (zg zz rfl) (ld_map hw.1)) hHeld ?_
 refine xv 4 rfl rfl (fun w1 hw=>xld rfl (zi t4 rfl) (load_id hk hw.2.1)) hHeld ?_
 refine xv 5 rfl rfl (fun w1 hw=>xmv rfl (zi t0 rfl)) hHeld ?_
 refine xv 6 rfl rfl (fun w1 hw=>xnc rfl (zg zz rfl)) hHeld ?_
 refine xv 7 rfl rfl (fun w1 hw=>xfa rfl (zg zz rfl) (fg_80_1 _ _ _)) hHeld ?_
 refine xv 8 rfl rfl (fun w1 hw=>xmv rfl (zi t7 rfl)) hHeld ?_
 refine xv 9 rfl rfl (fun w1 hw=>xld rfl (zi t4 rfl) (load_id hk hw.2.1)) hHeld ?_
 refine xv 10 rfl rfl (fun w1 hw=>xld rfl (zi t5 rfl) (load_id hq hw.2.2)) hHeld ?_
 refine xv (v:=KpV.v ⟨k,q,0⟩) 11 rfl rfl (fun w1 hw=>ex_el rfl (zg zz rfl) (zg zz rfl) hk hq) hHeld ?_
 refine xc 12 rfl rfl (exec_c3 rfl (zg zz rfl) (zg zz rfl) (zg zz rfl)) (CP) (fun e x12 hx=> ?_)
 obtain ⟨rfl,S1,y,EM,HF⟩:=hx
 refine ⟨_,rfl,fun _=>S1,fun hHeld=> ?_⟩
 replace hHeld:=hHeld (by decide)
 refine xs 13 rfl rfl (exec_mapUpdate rfl (zg zz rfl) (zg zz rfl) (zg zz rfl) EM) (fun hne=>absurd rfl hne) (fun _=> ?_)
 exact xe rfl (h _ _ (HF) rfl)
def smany3_ops:Array Oper:=(⟨_,rfl⟩:{o // some o=rgB Tryz.f100 3}).1
theorem smany3 {s:Sx} {n:Nat} {c:Bool} (Fin:World→Prop) (a:Act) (w:World) (Q:Exit→Act→World→Prop) (zz:a.tmps.size=12)
 (t0:a.tmps.getD 0 undef= .pointer (some ⟨s.sb,0,none⟩))
 (t1:a.tmps.getD 1 undef= .int .i64 (nb c:Int))
 (CT:Calls Tryz.prog 91 #[.pointer (some ⟨s.sb,1,none⟩), .int .i64 (nb c:Int)] w fun e w'=>e= .returned (.int .i64 (n:Int))∧Fin w')
 (h:∀a' w',Fin w'→a'=(((((a.put (some 7) (.pointer (some ⟨s.sb,0,none⟩))).put (some 8) (.pointer (some ⟨s.sb,0,none⟩))).put (some 9) (.pointer (some ⟨s.sb,1,none⟩))).put (some 10) (.int .i64 (nb c:Int))).put (some 11) (.int .i64 (n:Int))).put (some 4) (.int .i64 (n:Int))→Q .normal a' w') :
 (Code.region 3 smany3_ops false).wp Tryz.prog Q a w:=by
 refine z0 rfl ?_
 refine zv rfl (xmv rfl (zi t0 rfl)) ?_
 refine zv rfl (xnc rfl (zg zz rfl)) ?_
 refine zv rfl (xfa rfl (zg zz rfl) (fg_80_1 _ _ _)) ?_
 refine zv rfl (xmv rfl (zi t1 rfl)) ?_
 refine zc rfl (exec_c2 rfl (zg zz rfl) (zg zz rfl)) (CT) (fun e x4 hx=> ?_)
 obtain ⟨rfl,HF⟩:=hx
 refine ⟨_,rfl, ?_⟩
 refine zv rfl (xas rfl (zg zz rfl)) ?_
 exact ze rfl (h _ _ (HF) rfl)
def ah1_ops:Array Oper:=(⟨_,rfl⟩:{o // some o=rgB Tryz.f76 1}).1
theorem ah1 {s:Sx} {b1:Nat} {k:IdK} {r:Bool} (a:Act) (w:World) (Q:Exit→Act→World→Prop) (zz:a.tmps.size=22)
 (t0:a.tmps.getD 0 undef= .pointer (some ⟨s.sb,0,none⟩))
 (t4:a.tmps.getD 4 undef= .pointer (some ⟨b1,0,none⟩))
 (hk:k.ok) (ib1:IdAt w b1 k) (CH:Calls Tryz.prog 47 #[.pointer (some ⟨s.sb,0,none⟩),k.v] w fun e w'=>e= .returned (.bool r)∧Below w.heap.size w w')
 (h:∀a' w',Below w.heap.size w w'→a'=(((a.put (some 7) (.pointer (some ⟨s.sb,0,none⟩))).put (some 8) (k.v)).put (some 9) (.bool r)).put (some 10) (.bool (!r))→Q .normal a' w') :
 (Code.region 1 ah1_ops false).wp Tryz.prog Q a w:=by
 refine z0 rfl ?_
 refine zv rfl (xmv rfl (zi t0 rfl)) ?_
 refine zv rfl (xld rfl (zi t4 rfl) (load_id hk ib1)) ?_
 refine zc rfl (exec_c2 rfl (zg zz rfl) (zg zz rfl)) (CH) (fun e x2 hx=> ?_)
 obtain ⟨rfl,S1⟩:=hx
 refine ⟨_,rfl, ?_⟩
 refine zv rfl (exec_not rfl (zg zz rfl)) ?_
 exact ze rfl (h _ _ (S1) rfl)
def ah3_ops:Array Oper:=(⟨_,rfl⟩:{o // some o=rgB Tryz.f76 3}).1
theorem ah3 {s:Sx} {E:List Elt} {b1 i n:Nat} {k:IdK} {c:Bool} (a:Act) (w:World) (Q:Exit→Act→World→Prop) (zz:a.tmps.size=22)
 (t0:a.tmps.getD 0 undef= .pointer (some ⟨s.sb,0,none⟩))
 (t4:a.tmps.getD 4 undef= .pointer (some ⟨b1,0,none⟩))
 (t2:a.tmps.getD 2 undef= .int .i64 (nb c:Int))
 (hS:SeqAt w s E) (hk:k.ok) (ib1:IdAt w b1 k) (ei:spotOf s k=i) (CT:Calls Tryz.prog 98 #[.pointer (some ⟨s.sb,1,none⟩), .int .i64 (i:Int), .int .i64 (nb c:Int)] w.drew fun e w'=>e= .returned (.int .i64 (n:Int))∧SeqAt w' s E∧IdAt w' b1 k∧Qt w w')
 (h:∀a' w',Qt w w'→a'=(((((((((((a.put (some 11) (.pointer (some ⟨s.sb,0,none⟩))).put (some 12) (.pointer (some ⟨s.sb,0,none⟩))).put (some 13) (.pointer (some ⟨s.sb,1,none⟩))).put (some 14) (.pointer (some ⟨s.sb,0,none⟩))).put (some 15) (.pointer (some ⟨s.sb,0,none⟩))).put (some 16) (.pointer (some ⟨s.sb,0,none⟩))).put (some 17) (.map (some s.mb))).put (some 18) (k.v)).put (some 19) (.int .i64 (i:Int))).put (some 20) (.int .i64 (nb c:Int))).put (some 21) (.int .i64 (n:Int))).put (some 6) (.int .i64 (n:Int))→Q .normal a' w') :
 (Code.region 3 ah3_ops true).wp Tryz.prog Q a w:=by
 refine y0 (fun w'=>SeqAt w' s E∧IdAt w' b1 k∧Qt w w') (⟨hS.drew,ib1,Qt.drew w⟩) (fun hHeld=> ?_)
 refine yv 0 rfl rfl (fun w1 hw=>xmv rfl (zi t0 rfl)) hHeld ?_
 refine yv 1 rfl rfl (fun w1 hw=>xnc rfl (zg zz rfl)) hHeld ?_
 refine yv 2 rfl rfl (fun w1 hw=>xfa rfl (zg zz rfl) (fg_80_1 _ _ _)) hHeld ?_
 refine yv 3 rfl rfl (fun w1 hw=>xmv rfl (zi t0 rfl)) hHeld ?_
 refine yv 4 rfl rfl (fun w1 hw=>xnc rfl (zg zz rfl)) hHeld ?_
 refine yv 5 rfl rfl (fun w1 hw=>xfa rfl (zg zz rfl) (fg_80_0 _ _ _)) hHeld ?_
 refine yv 6 rfl rfl (fun w1 hw=>xld rfl (zg zz rfl) (ld_map hw.1.c0)) hHeld ?_
 refine yv 7 rfl rfl (fun w1 hw=>xld rfl (zi t4 rfl) (load_id hk hw.2.1)) hHeld ?_
 refine yv (v:= .int .i64 (i:Int)) 8 rfl rfl (fun w1 hw=>exec_lookup rfl (zg zz rfl) (zg zz rfl) (by rw [look_spot hw.1 k hk,ei])) hHeld ?_
 refine yv 9 rfl rfl (fun w1 hw=>xmv rfl (zi t2 rfl)) hHeld ?_
 refine yc 10 rfl rfl (exec_c3 rfl (zg zz rfl) (zg zz rfl) (zg zz rfl)) (CT) (fun e x10 hx=> ?_)
 obtain ⟨rfl,S1⟩:=hx
 refine ⟨_,rfl,S1,fun hHeld=> ?_⟩
 refine yv 11 rfl rfl (fun w1 hw=>xas rfl (zg zz rfl)) hHeld ?_
 exact ye rfl (h _ _ (hHeld.2.2) rfl)
def fi3_ops:Array Oper:=(⟨_,rfl⟩:{o // some o=rgB Tryz.f99 3}).1
theorem fi3 {s:Sx} {m:Int} {n:Nat} {c:Bool} (Fin:World→Prop) (a:Act) (w:World) (Q:Exit→Act→World→Prop) (zz:a.tmps.size=27)
 (t0:a.tmps.getD 0 undef= .pointer (some ⟨s.sb,0,none⟩))
 (t1:a.tmps.getD 1 undef= .int .i64 m)
 (t2:a.tmps.getD 2 undef= .int .i64 (nb c:Int))
 (CT:Calls Tryz.prog 128 #[.pointer (some ⟨s.sb,1,none⟩), .int .i64 m, .int .i64 (nb c:Int)] w fun e w'=>e= .returned (.int .i64 (n:Int))∧Fin w')
 (h:∀a' w',Fin w'→a'=((((((a.put (some 12) (.pointer (some ⟨s.sb,0,none⟩))).put (some 13) (.pointer (some ⟨s.sb,0,none⟩))).put (some 14) (.pointer (some ⟨s.sb,1,none⟩))).put (some 15) (.int .i64 m)).put (some 16) (.int .i64 (nb c:Int))).put (some 17) (.int .i64 (n:Int))).put (some 8) (.int .i64 (n:Int))→Q .normal a' w') :
 (Code.region 3 fi3_ops false).wp Tryz.prog Q a w:=by
 refine z0 rfl ?_
 refine zv rfl (xmv rfl (zi t0 rfl)) ?_
 refine zv rfl (xnc rfl (zg zz rfl)) ?_
 refine zv rfl (xfa rfl (zg zz rfl) (fg_80_1 _ _ _)) ?_
 refine zv rfl (xmv rfl (zi t1 rfl)) ?_
 refine zv rfl (xmv rfl (zi t2 rfl)) ?_
 refine zc rfl (exec_c3 rfl (zg zz rfl) (zg zz rfl) (zg zz rfl)) (CT) (fun e x5 hx=> ?_)
 obtain ⟨rfl,HF⟩:=hx
 refine ⟨_,rfl, ?_⟩
 refine zv rfl (xas rfl (zg zz rfl)) ?_
 exact ze rfl (h _ _ (HF) rfl)
def fi4_ops:Array Oper:=(⟨_,rfl⟩:{o // some o=rgB Tryz.f99 4}).1
theorem fi4 {i:Nat} {r:Bool} (a:Act) (w:World) (Q:Exit→Act→World→Prop) (zz:a.tmps.size=27)
 (t8:a.tmps.getD 8 undef= .int .i64 (i:Int))
 (hr:decide ((i:Int)=0)=r)
 (h:∀a' w',w'=w→a'=(a.put (some 18) (.int .i64 (i:Int))).put (some 19) (.bool r)→Q .normal a' w') :
 (Code.region 4 fi4_ops false).wp Tryz.prog Q a w:=by
 refine z0 rfl ?_
 refine zv rfl (xmv rfl (zi t8 rfl)) ?_
 refine zv (v:= .bool r) rfl (ex_eql rfl (zg zz rfl) rfl hr) ?_
 exact ze rfl (h _ _ (rfl) rfl)
def fi5_ops:Array Oper:=(⟨_,rfl⟩:{o // some o=rgB Tryz.f99 5}).1
theorem fi5 {rb:Nat} {w2:World} (a:Act) (w:World) (Q:Exit→Act→World→Prop) (zz:a.tmps.size=27)
 (t6:a.tmps.getD 6 undef= .pointer (some ⟨rb,0,none⟩))
 (ES:(Instr.storeAt 36 (.pointer (some ⟨rb,0,none⟩)) zId.v).run Tryz.prog w= .ok () w2)
 (h:∀a' w',w'=w2→a'=(a.put (some 20) (zId.v)).put (some 7) (.bool false)→Q .normal a' w') :
 (Code.region 5 fi5_ops false).wp Tryz.prog Q a w:=by
 refine z0 rfl ?_
 refine zv rfl (exec_build0 rfl (build_id _)) ?_
 refine zs rfl (exec_store rfl (zi t6 rfl) (zg zz rfl) ES) ?_
 refine zv rfl (xas rfl rfl) ?_
 exact ze rfl (h _ _ (rfl) rfl)
def fi6_ops:Array Oper:=(⟨_,rfl⟩:{o // some o=rgB Tryz.f99 6}).1
theorem fi6 {s:Sx} {E:List Elt} {i rb:Nat} {w2:World} (a:Act) (w:World) (Q:Exit→Act→World→Prop) (zz:a.tmps.size=27)
 (t0:a.tmps.getD 0 undef= .pointer (some ⟨s.sb,0,none⟩))
 (t8:a.tmps.getD 8 undef= .int .i64 (i:Int))
 (t6:a.tmps.getD 6 undef= .pointer (some ⟨rb,0,none⟩))
 (hS:SeqAt w s E) (hi:i<s.L.length) (CE:Calls Tryz.prog 48 #[.pointer (some ⟨s.sb,0,none⟩), .int .i64 (i:Int)] w fun e w'=>e= .returned (.pointer (some ⟨s.g,73*i+0,none⟩))∧w'=w) (ES:(Instr.storeAt 36 (.pointer (some ⟨rb,0,none⟩)) (gt s.L i).kp.id.v).run Tryz.prog w= .ok () w2)
 (h:∀a' w',w'=w2→a'=((((((a.put (some 21) (.pointer (some ⟨s.sb,0,none⟩))).put (some 22) (.int .i64 (i:Int))).put (some 23) (.pointer (some ⟨s.g,73*i+0,none⟩))).put (some 24) (.pointer (some ⟨s.g,73*i+0,none⟩))).put (some 25) (.pointer (some ⟨s.g,73*i+0+0,none⟩))).put (some 26) ((gt s.L i).kp.id.v)).put (some 7) (.bool true)→Q .normal a' w') :
 (Code.region 6 fi6_ops false).wp Tryz.prog Q a w:=by
 refine z0 rfl ?_
 refine zv rfl (xmv rfl (zi t0 rfl)) ?_
 refine zv rfl (xmv rfl (zi t8 rfl)) ?_
 refine zc rfl (exec_c2 rfl (zg zz rfl) (zg zz rfl)) (CE) (fun e x2 hx=> ?_)
 obtain ⟨rfl,rfl⟩:=hx
 refine ⟨_,rfl, ?_⟩
 refine zv rfl (xnc rfl (zg zz rfl)) ?_
 refine zv rfl (xfa rfl (zg zz rfl) (fg_78_0 _ _ _)) ?_
 refine zv rfl (xld rfl (zg zz rfl) (R_id hS.row hi)) ?_
 refine zs rfl (exec_store rfl (zi t6 rfl) (zg zz rfl) ES) ?_
 refine zv rfl (xas rfl rfl) ?_
 exact ze rfl (h _ _ (rfl) rfl)
def li3_ops:Array Oper:=(⟨_,rfl⟩:{o // some o=rgB Tryz.f66 3}).1
theorem li3 {s:Sx} {n g lb:Nat} {c:Bool} (Fin:World→Prop) (a:Act) (w:World) (Q:Exit→Act→World→Prop) (zz:a.tmps.size=27)
 (t0:a.tmps.getD 0 undef= .pointer (some ⟨s.sb,0,none⟩))
 (t1:a.tmps.getD 1 undef= .int .i64 (nb c:Int))
 (CT:Calls Tryz.prog 91 #[.pointer (some ⟨s.sb,1,none⟩), .int .i64 (nb c:Int)] w fun e w'=>e= .returned (.int .i64 (n:Int))∧∃y1 y2 y3,(Instr.makeSlice 56 (.int .i64 0) (.int .i64 (n:Int))).run Tryz.prog w'= .ok (.slice (some ⟨g,0,none⟩) 0 n) y1∧(Instr.alloc 56 true (.tuple #[])).run Tryz.prog y1= .ok (.pointer (some ⟨lb,0,none⟩)) y2∧(Instr.storeAt 56 (.pointer (some ⟨lb,0,none⟩)) (.slice (some ⟨g,0,none⟩) 0 n)).run Tryz.prog y2= .ok () y3∧Fin y3)
 (h:∀a' w',Fin w'→a'=((((((a.put (some 9) (.pointer (some ⟨s.sb,0,none⟩))).put (some 10) (.pointer (some ⟨s.sb,0,none⟩))).put (some 11) (.pointer (some ⟨s.sb,1,none⟩))).put (some 12) (.int .i64 (nb c:Int))).put (some 13) (.int .i64 (n:Int))).put (some 14) (.slice (some ⟨g,0,none⟩) 0 n)).put (some 5) (.pointer (some ⟨lb,0,none⟩))→Q .normal a' w') :
 (Code.region 3 li3_ops false).wp Tryz.prog Q a w:=by
 refine z0 rfl ?_
 refine zv rfl (xmv rfl (zi t0 rfl)) ?_
 refine zv rfl (xnc rfl (zg zz rfl)) ?_
 refine zv rfl (xfa rfl (zg zz rfl) (fg_80_1 _ _ _)) ?_
 refine zv rfl (xmv rfl (zi t1 rfl)) ?_
 refine zc rfl (exec_c2 rfl (zg zz rfl) (zg zz rfl)) (CT) (fun e x4 hx=> ?_)
 obtain ⟨rfl,y1,y2,y3,EM,EA,ES,HF⟩:=hx
 refine ⟨_,rfl, ?_⟩
 refine zv (v:= .slice (some ⟨g,0,none⟩) 0 n) rfl (exec_makeSlice rfl rfl (zg zz rfl) EM) ?_
 refine zv (v:= .pointer (some ⟨lb,0,none⟩)) rfl (exec_alloc rfl EA) ?_
 refine zs rfl (exec_store rfl (zg zz rfl) (zg zz rfl) ES) ?_
 exact ze rfl (h _ _ (HF) rfl)
def li4_ops:Array Oper:=(⟨_,rfl⟩:{o // some o=rgB Tryz.f66 4}).1
theorem li4 {s:Sx} {v:Value} {c:Bool} (Fin:World→Prop) (a:Act) (w:World) (Q:Exit→Act→World→Prop) (zz:a.tmps.size=27)
 (t0:a.tmps.getD 0 undef= .pointer (some ⟨s.sb,0,none⟩))
 (t1:a.tmps.getD 1 undef= .int .i64 (nb c:Int))
 (CT:Calls Tryz.prog 92 #[.pointer (some ⟨s.sb,1,none⟩), .int .i64 (nb c:Int)] w fun e w'=>e= .returned v∧Fin w')
 (h:∀a' w',Fin w'→a'=((((a.put (some 15) (.pointer (some ⟨s.sb,0,none⟩))).put (some 16) (.pointer (some ⟨s.sb,0,none⟩))).put (some 17) (.pointer (some ⟨s.sb,1,none⟩))).put (some 18) (.int .i64 (nb c:Int))).put (some 19) (v)→Q .normal a' w') :
 (Code.region 4 li4_ops false).wp Tryz.prog Q a w:=by
 refine z0 rfl ?_
 refine zv rfl (xmv rfl (zi t0 rfl)) ?_
 refine zv rfl (xnc rfl (zg zz rfl)) ?_
 refine zv rfl (xfa rfl (zg zz rfl) (fg_80_1 _ _ _)) ?_
 refine zv rfl (xmv rfl (zi t1 rfl)) ?_
 refine zc rfl (exec_c2 rfl (zg zz rfl) (zg zz rfl)) (CT) (fun e x4 hx=> ?_)
 obtain ⟨rfl,HF⟩:=hx
 refine ⟨_,rfl, ?_⟩
 exact ze rfl (h _ _ (HF) rfl)
def li5_o0:Oper:=⟨some 6, .alloc 78,0,"seq.go:127", #[],none⟩
def li5_o1:Oper:=⟨none, .store 78 (.tmp 6) (.tmp 20),0,"seq.go:127", #[⟨0, .data⟩,⟨0, .phase⟩],none⟩
def li5_ops:Array Oper:= #[li5_o0,li5_o1]
theorem li5 {l n eb:Nat} {v:Value} {w1 w2:World} (a:Act) (w:World) (Q:Exit→Act→World→Prop) (hsz:a.tmps.size=27)
 (t20:a.tmps.getD 20 undef=v)
 (EA:(Instr.alloc 78 true (.tuple #[])).run Tryz.prog w= .ok (.pointer (some ⟨eb,0,none⟩)) w1) (ES:(Instr.storeAt 78 (.pointer (some ⟨eb,0,none⟩)) v).run Tryz.prog w1= .ok () w2)
 (h:∀a' w',w'=w2→a'=a.put (some 6) (.pointer (some ⟨eb,0,none⟩))→Q .normal a' w') :
 (Code.region 5 li5_ops false).wpIn (Fence.wide.inRound l) n Tryz.prog Q a w:=by
 refine wpIn_region_list ?_
 change wpListIn _ _ _ _ _ [li5_o0,li5_o1] _ _
 refine qkI (v:= .pointer (some ⟨eb,0,none⟩)) (by rfl) (exec_alloc rfl EA) (fun a0 e0=> ?_)
 rw [←e0] at h
 have z0:=pz e0 hsz
 replace t20:=pk e0 t20
 have t6:=pq e0 hsz
 clear e0 hsz
 refine qsI (by rfl) (exec_store rfl t6 t20 ES) ?_
 exact wpListIn_nil (h _ _ (rfl) rfl)
def li6_o0:Oper:=⟨some 21, .load 56 (.tmp 5),56,"seq.go:128", #[],none⟩
def li6_o1:Oper:=⟨some 22, .fieldAddr 78 (.tmp 6) 0,0,"seq.go:128", #[],none⟩
def li6_o2:Oper:=⟨some 23, .load 36 (.tmp 22),36,"seq.go:128", #[⟨1, .data⟩],none⟩
def li6_o3:Oper:=⟨some 24, .buildSlice 56 1 #[(0, .tmp 23)],56,"seq.go:128", #[⟨2, .data⟩],none⟩
def li6_o4:Oper:=⟨some 25, .call {callee:=Callee.builtin Builtin.append,args:= #[.tmp 21, .tmp 24],argTypes:= #[56,56]},56,"seq.go:128", #[⟨0, .data⟩,⟨3, .data⟩],none⟩
def li6_o5:Oper:=⟨none, .store 56 (.tmp 5) (.tmp 25),0,"seq.go:128", #[⟨4, .data⟩,⟨4, .chain⟩,⟨0, .phase⟩,⟨1, .phase⟩,⟨2, .phase⟩,⟨3, .phase⟩,⟨4, .phase⟩],none⟩
def li6_ops:Array Oper:= #[li6_o0,li6_o1,li6_o2,li6_o3,li6_o4,li6_o5]
theorem li6 {l n lb eb gb:Nat} {k:IdK} {u u2:Value} {w1 w2 w3:World} (a:Act) (w:World) (Q:Exit→Act→World→Prop) (hsz:a.tmps.size=27)
 (t5:a.tmps.getD 5 undef= .pointer (some ⟨lb,0,none⟩))
 (t6:a.tmps.getD 6 undef= .pointer (some ⟨eb,0,none⟩))
 (L0:(Instr.loadAt 56 (.pointer (some ⟨lb,0,none⟩))).run Tryz.prog w= .ok u w) (L1:(Instr.loadAt 36 (.pointer (some ⟨eb,0,none⟩))).run Tryz.prog w= .ok k.v w) (EB:(Instr.buildSlice 56 1 #[(0,k.v)]).run Tryz.prog w= .ok (.slice (some ⟨gb,0,none⟩) 1 1) w1) (EA:(Builtin.append_ #[56,56] 56 #[u, .slice (some ⟨gb,0,none⟩) 1 1]).run Tryz.prog w1= .ok u2 w2) (ES:(Instr.storeAt 56 (.pointer (some ⟨lb,0,none⟩)) u2).run Tryz.prog w2= .ok () w3)
 (h:∀a' w',w'=w3→a'=((((a.put (some 21) (u)).put (some 22) (.pointer (some ⟨eb,0,none⟩))).put (some 23) (k.v)).put (some 24) (.slice (some ⟨gb,0,none⟩) 1 1)).put (some 25) (u2)→Q .normal a' w') :
 (Code.region 6 li6_ops false).wpIn (Fence.wide.inRound l) n Tryz.prog Q a w:=by
 refine wpIn_region_list ?_
 change wpListIn _ _ _ _ _ [li6_o0,li6_o1,li6_o2,li6_o3,li6_o4,li6_o5] _ _
 refine qvI (v:=u) (by rfl) (xld rfl t5 L0) (fun a0 e0=> ?_)
 rw [←e0] at h
 have z0:=pz e0 hsz
 replace t5:=pk e0 t5
 replace t6:=pk e0 t6
 have t21:=pq e0 hsz
 clear e0 hsz
 refine qvI (v:= .pointer (some ⟨eb,0,none⟩)) (by rfl) (xfa rfl t6 (fg_78_0 _ _ _)) (fun a1 e1=> ?_)
 rw [←e1] at h
 have z1:=pz e1 z0
 replace t5:=pk e1 t5
 replace t21:=pk e1 t21
 clear t6
 have t22:=pq e1 z0
 clear e1 z0
 refine qvI (v:=k.v) (by rfl) (xld rfl t22 L1) (fun a2 e2=> ?_)
 rw [←e2] at h
 have z2:=pz e2 z1
 replace t5:=pk e2 t5
 replace t21:=pk e2 t21
 clear t22
 have t23:=pq e2 z1
 clear e2 z1
 refine qkI (v:= .slice (some ⟨gb,0,none⟩) 1 1) (by rfl) (exec_buildSlice rfl t23 EB) (fun a3 e3=> ?_)
 rw [←e3] at h
 have z3:=pz e3 z2
 replace t5:=pk e3 t5
 replace t21:=pk e3 t21
 clear t23
 have t24:=pq e3 z2
 clear e3 z2
 refine qkI (v:=u2) (by rfl) (exec_append rfl t21 t24 EA) (fun a4 e4=> ?_)
 rw [←e4] at h
 have z4:=pz e4 z3
 replace t5:=pk e4 t5
 clear t21 t24
 have t25:=pq e4 z3
 clear e4 z3
 refine qsI (by rfl) (exec_store rfl t5 t25 ES) ?_
 exact wpListIn_nil (h _ _ (rfl) rfl)
def li7_ops:Array Oper:=(⟨_,rfl⟩:{o // some o=rgB Tryz.f66 7}).1
theorem li7 {lb:Nat} {u:Value} (a:Act) (w:World) (Q:Exit→Act→World→Prop) (zz:a.tmps.size=27)
 (t5:a.tmps.getD 5 undef= .pointer (some ⟨lb,0,none⟩))
 (L0:(Instr.loadAt 56 (.pointer (some ⟨lb,0,none⟩))).run Tryz.prog w= .ok u w)
 (h:∀a' w',w'=w→a'=(a.put (some 26) (u)).put (some 4) (u)→Q .normal a' w') :
 (Code.region 7 li7_ops false).wp Tryz.prog Q a w:=by
 refine z0 rfl ?_
 refine zv rfl (xld rfl (zi t5 rfl) L0) ?_
 refine zv rfl (xas rfl (zg zz rfl)) ?_
 exact ze rfl (h _ _ (rfl) rfl)
theorem Good.len {L:List Sp} {t:T} (h:Good L t):L.length=t.ids.length+1:=by
 have p:t.ids.Perm (List.range' 1 (L.length-1)):=by
  rw [List.perm_ext_iff_of_nodup h.nodup (List.nodup_range' ..)]
  intro j
  rw [List.mem_range'_1]
  have:=h.pos
  exact ⟨fun q=>by have:=h.lt q;omega,fun q=>h.all j (by omega) (by omega)⟩
 have:=p.length_eq
 have:=h.pos
 simp at *
 omega
theorem Lk.len {s:Sx} {E:List Elt} (h:Lk s E):s.L.length=E.length+1:=by rw [h.good.len,h.e];simp [elts]
theorem Lk.inj {s:Sx} {E:List Elt} (h:Lk s E) {i j:Nat} (hi:i∈s.t.ids) (hj:j∈s.t.ids) (e:(gt s.L i).kp.id=(gt s.L j).kp.id):i=j:=by
 have h1:=(h.map _ i).2 ⟨hi,rfl⟩
 have h2:=(h.map _ j).2 ⟨hj,rfl⟩
 rw [e,h2] at h1
 simpa using h1.symm
theorem Lk.nz {s:Sx} {E:List Elt} (h:Lk s E) {i:Nat} (hi:i∈s.t.ids):(gt s.L i).kp.id≠zId:=fun q=>by
 have:=h.has zId
 rw [h.zero,(h.map zId i).2 ⟨hi,q⟩] at this
 cases this
theorem Lk.inj0 {s:Sx} {E:List Elt} (h:Lk s E) {i j:Nat} (hi:i=0∨i∈s.t.ids) (hj:j=0∨j∈s.t.ids) (e:(gt s.L i).kp.id=(gt s.L j).kp.id):i=j:=by
 rcases hi with rfl|hi <;>rcases hj with rfl|hj
 ·rfl
 ·rw [h.zid] at e;exact absurd e.symm (h.nz hj)
 ·rw [h.zid] at e;exact absurd e (h.nz hi)
 ·exact h.inj hi hj e
theorem Lk.spotIs {s:Sx} {E:List Elt} (h:Lk s E) {k:IdK} (hk:k=zId∨hasE E k=true):(spotOf s k=0∨spotOf s k∈s.t.ids)∧(gt s.L (spotOf s k)).kp.id=k:=by
 rcases hk with rfl|hk
 ·have:=h.spot0 h.zero
  rw [this]
  exact ⟨.inl rfl,h.zid⟩
 ·exact ⟨.inr (h.spot hk).1,(h.spot hk).2⟩
theorem Lk.memE {s:Sx} {E:List Elt} (h:Lk s E) {i:Nat} (hi:i∈s.t.ids):hasE E (gt s.L i).kp.id=true:=hasE_iff.2 ⟨eltAt s.L i,by rw [h.e,elts];exact List.mem_map.2 ⟨i,hi,rfl⟩,rfl⟩
theorem folE_zero {E:List Elt} (h:SeqOk E) {k:IdK} (hk:hasE E k=false) (hz:k≠zId):folE E k=0:=by
 unfold folE
 rw [List.countP_eq_zero]
 intro e he q
 simp only [decide_eq_true_eq] at q
 rcases h.bh e he with q2|q2
 ·exact hz (q.symm.trans q2)
 ·rw [q,hk] at q2;cases q2
theorem folE_le (E:List Elt) (k:IdK):folE E k≤E.length:=List.countP_le_length
theorem gtA {L K:List Sp} {j:Nat} (h:j<L.length):gt (L++K) j=gt L j:=by
 unfold gt
 rw [List.getD_eq_getElem?_getD,List.getD_eq_getElem?_getD,List.getElem?_append_left h]
theorem gtB {L:List Sp} {x:Sp} {n:Nat} (h:L.length=n):gt (L++[x]) n=x:=by
 unfold gt
 rw [List.getD_eq_getElem?_getD,List.getElem?_append_right (by omega),h]
 simp
theorem Lk.put {s:Sx} {E:List Elt} (h:Lk s E) (hN:(s.N.map (·.1)).Nodup) {k b:IdK} (hk:k.ok∧1≤k.n) (hb:b.ok) (hn:hasE E k=false) (hbh:b=zId∨hasE E b=true) {g' cap':Nat} {L':List Sp} {t':T} (hg:Good L' t') (hi:InsB s.t.ids t'.ids (spotOf s b) s.L.length)
 (hK:Kept (setFol s.L (spotOf s b) ((gt s.L (spotOf s b)).kp.fol+1)++[⟨⟨k,b,0⟩,true,0,0,0,0,0⟩]) L'):Lk {s with g:=g',cap:=cap',L:=L',t:=t',N:=M.put s.N k s.L.length} (putE E b ⟨k,b,true⟩):=by
 obtain ⟨hs1,hs2⟩:=h.spotIs hbh
 obtain ⟨p,hp⟩:∃p,spotOf s b=p:=⟨_,rfl⟩
 rw [hp] at hs1 hs2 hi hK
 obtain ⟨n,hnn⟩:∃n,s.L.length=n:=⟨_,rfl⟩
 rw [hnn] at hi ⊢
 have hpn:p<n:=by
  rcases hs1 with rfl|q
  ·rw [←hnn];exact h.good.pos
  ·rw [←hnn];exact (h.good.lt q).2
 have hl0:(setFol s.L p ((gt s.L p).kp.fol+1)).length=n:=by rw [setFol_len,hnn]
 have old:∀j,j<n→(gt L' j).kp.id=(gt s.L j).kp.id∧eltAt L' j=eltAt s.L j∧(gt L' j).kp.fol=if p=j then (gt s.L j).kp.fol+1 else (gt s.L j).kp.fol:=fun j hj=>by
  have e:gt (setFol s.L p ((gt s.L p).kp.fol+1)++[⟨⟨k,b,0⟩,true,0,0,0,0,0⟩]) j=gt (setFol s.L p ((gt s.L p).kp.fol+1)) j:=gtA (by omega)
  have k1:=hK.kp j
  have k2:=hK.sh j
  rw [e] at k1 k2
  obtain ⟨f1,f2,_,_,f5,f6⟩:=setFol_gt s.L p ((gt s.L p).kp.fol+1) j
  refine ⟨by rw [k1,f1],by unfold eltAt;rw [k1,k2,f1,f2,f5], ?_⟩
  rw [k1,f6]
  by_cases q:p=j
  ·subst q;rw [if_pos ⟨rfl,by omega⟩,if_pos rfl]
  ·rw [if_neg (fun q2=>q q2.1),if_neg q]
 have new:(gt L' n).kp=⟨k,b,0⟩∧(gt L' n).sh=true:=by
  have e:gt (setFol s.L p ((gt s.L p).kp.fol+1)++[⟨⟨k,b,0⟩,true,0,0,0,0,0⟩]) n=⟨⟨k,b,0⟩,true,0,0,0,0,0⟩:=gtB hl0
  have k1:=hK.kp n
  have k2:=hK.sh n
  rw [e] at k1 k2
  exact ⟨k1,k2⟩
 obtain ⟨A,B,e1,e2,e3⟩:=hi
 have mem:∀j,j∈t'.ids↔(j=n∨j∈s.t.ids):=fun j=>by
  rw [e1,e2]
  simp only [List.mem_append,List.mem_cons]
  constructor
  ·rintro (q|q|q)
   ·exact .inr (.inl q)
   ·exact .inl q
   ·exact .inr (.inr q)
  ·rintro (q|q|q)
   ·exact .inr (.inl q)
   ·exact .inl q
   ·exact .inr (.inr q)
 have lt:∀j∈s.t.ids,j<n:=fun j hj=>by rw [←hnn];exact (h.good.lt hj).2
 have hkz:k≠zId:=fun q=>by have:=hk.2;rw [q] at this;simp [zId] at this
 have hnm:∀j,j=0∨j∈s.t.ids→(gt s.L j).kp.id≠k:=fun j hj q=>by
  rcases hj with rfl|hj
  ·rw [h.zid] at q;exact hkz q.symm
  ·have:=h.memE hj
   rw [q,hn] at this;cases this
 have hE:putE E b ⟨k,b,true⟩=elts L' t':=by
  have eA:A.map (eltAt L')=A.map (eltAt s.L):=List.map_congr_left fun j hj=>(old j (lt j (by rw [e1];simp [hj]))).2.1
  have eB:B.map (eltAt L')=B.map (eltAt s.L):=List.map_congr_left fun j hj=>(old j (lt j (by rw [e1];simp [hj]))).2.1
  have en:eltAt L' n=⟨k,b,true⟩:=by unfold eltAt;rw [new.1,new.2]
  unfold elts
  rw [e2,List.map_append,List.map_cons,eA,eB,en]
  have eE:E=A.map (eltAt s.L)++B.map (eltAt s.L):=by rw [h.e,elts,e1,List.map_append]
  rcases e3 with ⟨rfl,rfl⟩|⟨A',rfl⟩
  ·have:b=zId:=by rw [←hs2];exact h.zid
   unfold putE
   rw [if_pos this,eE]
   rfl
  ·have hpi:p∈s.t.ids:=by rw [e1];simp
   have hbz:b≠zId:=by rw [←hs2];exact h.nz hpi
   unfold putE
   rw [if_neg hbz,eE]
   simp only [List.map_append,List.map_cons,List.map_nil,List.append_assoc,List.cons_append,List.nil_append]
   have:(eltAt s.L p).id=b:=hs2
   rw [←this]
   refine insE_mid fun y hy q=> ?_
   obtain ⟨j,hj,rfl⟩:=List.mem_map.1 hy
   have hji:j∈s.t.ids:=by rw [e1];simp [hj]
   have:=h.inj hji hpi q
   subst this
   have nd:=h.good.nodup
   rw [e1,List.append_assoc,List.nodup_append] at nd
   exact nd.2.2 j hj j (by simp) rfl
 refine ⟨hg,hE,h.ok.put (x:=⟨k,b,true⟩) ⟨hk.1,hb,hk.2⟩ hn hbh,fun k' m=> ?_, ?_,fun m hm=> ?_⟩
 ·show M.look (M.put s.N k n) k'=some m↔m∈t'.ids∧(gt L' m).kp.id=k'
  rw [M.put_look _ _ _ hN,mem]
  by_cases q:k'=k
  ·subst q
   rw [if_pos rfl]
   constructor
   ·intro q2
    simp only [Option.some.injEq] at q2
    subst q2
    exact ⟨.inl rfl,by rw [new.1]⟩
   ·rintro ⟨rfl|q1,q2⟩
    ·rfl
    ·rw [(old m (lt m q1)).1] at q2
     exact absurd q2 (hnm m (.inr q1))
  ·rw [if_neg q,h.map k' m]
   constructor
   ·rintro ⟨q1,q2⟩
    exact ⟨.inr q1,by rw [(old m (lt m q1)).1];exact q2⟩
   ·rintro ⟨rfl|q1,q2⟩
    ·rw [new.1] at q2;exact absurd q2.symm q
    ·exact ⟨q1,by rw [(old m (lt m q1)).1] at q2;exact q2⟩
 ·show (gt L' 0).kp.id=zId
  rw [(old 0 (by omega)).1];exact h.zid
 ·show (gt L' m).kp.fol=(folE (putE E b ⟨k,b,true⟩) (gt L' m).kp.id:Int)
  have hf:∀i,folE (putE E b ⟨k,b,true⟩) i=(if b=i then 1 else 0)+folE E i:=fun i=>by
   rw [folE_perm (putE_perm E b _) i]
   unfold folE
   rw [List.countP_cons,Nat.add_comm]
   congr 1
   simp
  rw [hf]
  have hm':m=n∨m=0∨m∈s.t.ids:=by
   rcases hm with q|q
   ·exact .inr (.inl q)
   ·rcases (mem m).1 q with q|q
    ·exact .inl q
    ·exact .inr (.inr q)
  rcases hm' with rfl|q
  ·rw [new.1]
   show (0:Int)=_
   have:b≠k:=fun q=>hnm p hs1 (by rw [hs2,q])
   rw [if_neg this,folE_zero h.ok hn hkz]
   rfl
  ·have hmn:m<n:=by
        rcases q with rfl|q
        ·omega
        ·exact lt m q
   rw [(old m hmn).2.2,(old m hmn).1,h.fol m q]
   by_cases e:p=m
   ·subst e
    rw [if_pos rfl,if_pos hs2.symm]
    omega
   ·rw [if_neg e,if_neg (fun q2=>e (h.inj0 hs1 q (by rw [hs2,q2])))]
    omega
theorem Lk.show {s:Sx} {E:List Elt} (h:Lk s E) {k:IdK} (hk:hasE E k=true) {b:Bool} {L':List Sp} {t':T} (hg:Good L' t') (hi:t'.ids=s.t.ids) (hK:Kept (setSh s.L (spotOf s k) b) L'):Lk {s with L:=L',t:=t'} (showE E k b):=by
 obtain ⟨hs1,hs2⟩:=h.spot hk
 obtain ⟨p,hp⟩:∃p,spotOf s k=p:=⟨_,rfl⟩
 rw [hp] at hs1 hs2 hK
 have hpl:=(h.good.lt hs1).2
 have kp:∀j,(gt L' j).kp=(gt s.L j).kp:=fun j=>by rw [hK.kp j,(setSh_gt s.L p b j).1]
 have hE:showE E k b=elts L' t':=by
  unfold elts showE
  rw [hi,h.e,elts,List.map_map]
  refine List.map_congr_left fun j hj=> ?_
  have e1:eltAt L' j={eltAt s.L j with sh:=(gt L' j).sh}:=by unfold eltAt;rw [kp]
  rw [e1,hK.sh j,(setSh_gt s.L p b j).2.2.2]
  simp only [Function.comp]
  by_cases q:p=j
  ·subst q
   rw [if_pos (show (eltAt s.L p).id=k from hs2),if_pos ⟨rfl,hpl⟩]
  ·rw [if_neg (show ¬(eltAt s.L j).id=k from fun q2=>q (h.inj hs1 hj (hs2.trans q2.symm))),if_neg (fun q2=>q q2.1)]
   rfl
 refine ⟨hg,hE,h.ok.show k b,fun k' m=> ?_, ?_,fun m hm=> ?_⟩
 ·show M.look s.N k'=some m↔m∈t'.ids∧(gt L' m).kp.id=k'
  rw [hi,kp];exact h.map k' m
 ·show (gt L' 0).kp.id=zId
  rw [kp];exact h.zid
 ·show (gt L' m).kp.fol=(folE (showE E k b) (gt L' m).kp.id:Int)
  rw [kp,folE_show]
  exact h.fol m (by rw [←hi];exact hm)
theorem IdAt.below {w w':World} {b:Nat} {k:IdK} (h:IdAt w b k) (hb:Below w.heap.size w w'):IdAt w' b k:=(hb.block b (Array.getElem?_eq_some_iff.1 h).1).trans h
theorem IdAt.lt {w:World} {b:Nat} {k:IdK} (h:IdAt w b k):b<w.heap.size:=(Array.getElem?_eq_some_iff.1 h).1
theorem id_new (w:World) (k:IdK):IdAt (w.alloc (.cells k.c.toArray 36)) w.heap.size k:=heap_alloc_new _ _
section
variable {w:World} {s:Sx} {E:List Elt}
theorem has_any (h:SeqAt w s E) {k:IdK} (hk:k.ok):Calls Tryz.prog 47 #[.pointer (some ⟨s.sb,0,none⟩),k.v] w fun e w'=>e= .returned (.bool (hasE E k))∧Below w.heap.size w w':=by
 have bx:Below w.heap.size w (w.alloc (.cells k.c.toArray 36)):=(Below.refl _ _).alloc (Nat.le_refl _) _
 have hx:=id_new w k
 have hr:=h.lk.spot_has k
 unfold IdK.v
 go_enter Tryz.func47,Tryz.ntmps47
 go_upto_region 1 with fail
 generalize w.alloc (.cells k.c.toArray 36)=wx at *
 refine has1 (r:=hasE E k) _ _ _ rfl rfl rfl (h.below bx) hk hx rfl hr ?_
 intro a' w1 hw ha
 subst ha
 obtain rfl:w1=wx.drew:=hw
 simp only [Act.put,qsA,qsB,qsC]
 go_wp2
 go_ret
 exact ⟨rfl,bx.trans ((Below.refl _ _).drew)⟩
theorem element_any {i:Nat} (h:SqAt w s.sb 1 s.g s.cap s.L) (hi:i<s.L.length):Calls Tryz.prog 48 #[.pointer (some ⟨s.sb,0,none⟩), .int .i64 (i:Int)] w fun e w'=>e= .returned (.pointer (some ⟨s.g,73*i+0,none⟩))∧w'=w:=by
 go_enter Tryz.func48,Tryz.ntmps48
 go_upto_region 1 with fail
 refine elem1 _ _ _ rfl rfl rfl h hi ?_
 intro a' w1 hw ha
 subst ha
 obtain rfl:w1=w:=hw
 simp only [Act.put,qsA,qsB,qsC]
 go_wp2
 go_ret
 exact ⟨rfl,rfl⟩
def cE (c:Bool) (e:Elt):Bool:= !c||e.sh
def visE (E:List Elt) (c:Bool):List Elt:=E.filter (cE c)
theorem vis_map (L:List Sp) (c:Bool) (l:List Nat):(l.filter (cq L c)).map (eltAt L)=(l.map (eltAt L)).filter (cE c):=by
 rw [List.filter_map]
 congr 1
theorem Lk.vis (h:Lk s E) (c:Bool):(vis s.L c s.t).map (eltAt s.L)=visE E c:=by
 unfold visE
 rw [h.e,elts, ←vis_map]
 rfl
theorem Lk.cnt (h:Lk s E) (c:Bool):cnt s.L c s.t=(visE E c).length:=by
 rw [←h.vis c,List.length_map]
 unfold Go.Proofs.YtifendlpeebofaaGreatDoor.vis
 rw [cnt_cq,List.countP_eq_length_filter]
theorem smany_any (h:SeqAt w s E) (c:Bool):Calls Tryz.prog 100 #[.pointer (some ⟨s.sb,0,none⟩), .int .i64 (nb c:Int)] w fun e w'=>e= .returned (.int .i64 ((visE E c).length:Int))∧Below w.heap.size w w':=by
 have HM:=hidMk (rmany_any h.row h.lk.good c)
 rw [h.lk.cnt c] at HM
 go_enter Tryz.func100,Tryz.ntmps100
 go_upto_region 3 with fail
 refine smany3 (fun w'=>Qt w w') _ _ _ rfl rfl rfl HM.out ?_
 intro a' w1 hw ha
 subst ha
 simp only [Act.put,qsA,qsB,qsC]
 go_wp2
 go_ret
 exact ⟨rfl,hw.below _⟩
def aheadE (E:List Elt) (c:Bool) (k:IdK):Int:=if hasE E k=true then ((E.takeWhile (fun e=> !decide (e.id=k))).countP (cE c):Int) else -1
theorem takeWhile_mid {α:Type} {A B:List α} {x:α} {p:α→Bool} (h:∀y∈A,p y=true) (hx:p x=false):(A++x::B).takeWhile p=A:=by
 induction A with
 |nil=>simp [List.takeWhile_cons,hx]
 |cons a A ih=>rw [List.cons_append,List.takeWhile_cons,h a (by simp)];simp [ih (fun y hy=>h y (by simp [hy]))]
theorem Lk.split (h:Lk s E) {k:IdK} (hk:hasE E k=true):∃A B,s.t.ids=A++spotOf s k::B∧E.takeWhile (fun e=> !decide (e.id=k))=A.map (eltAt s.L):=by
 obtain ⟨h1,h2⟩:=h.spot hk
 obtain ⟨A,B,e⟩:=List.append_of_mem h1
 refine ⟨A,B,e, ?_⟩
 rw [h.e,elts,e,List.map_append,List.map_cons]
 refine takeWhile_mid (fun y hy=> ?_) ?_
 ·obtain ⟨x,hx,rfl⟩:=List.mem_map.1 hy
  have hxm:x∈s.t.ids:=by rw [e];simp [hx]
  have:(eltAt s.L x).id≠k:=fun q=>by
   have:=h.inj hxm h1 (q.trans h2.symm)
   subst this
   have nd:=h.good.nodup
   rw [e,List.nodup_append] at nd
   exact nd.2.2 _ hx _ (by simp) rfl
  rw [decide_eq_false this];rfl
 ·rw [decide_eq_true (show (eltAt s.L (spotOf s k)).id=k from h2)];rfl
theorem sahead_any (h:SeqAt w s E) {k:IdK} (hk:k.ok) (c:Bool):Calls Tryz.prog 76 #[.pointer (some ⟨s.sb,0,none⟩),k.v, .int .i64 (nb c:Int)] w fun e w'=>e= .returned (.int .i64 (aheadE E c k))∧Below w.heap.size w w':=by
 have bx:Below w.heap.size w (w.alloc (.cells k.c.toArray 36)):=(Below.refl _ _).alloc (Nat.le_refl _) _
 have hx:=id_new w k
 have HA:Hid (∀W,SeqAt W s E→Calls Tryz.prog 47 #[.pointer (some ⟨s.sb,0,none⟩),k.v] W fun e w'=>e= .returned (.bool (hasE E k))∧Below W.heap.size W w'):=fun W hW=>has_any hW hk
 have HE:Hid (aheadE E c k=if hasE E k=true then ((E.takeWhile (fun e=> !decide (e.id=k))).countP (cE c):Int) else -1):=rfl
 show Calls Tryz.prog 76 #[.pointer (some ⟨s.sb,0,none⟩), .agg k.c.toArray, .int .i64 (nb c:Int)] w _
 generalize aheadE E c k=res at *
 go_enter Tryz.func76,Tryz.ntmps76
 go_upto_region 1 with fail
 generalize w.alloc (.cells k.c.toArray 36)=wx at *
 have h1:=h.below bx
 refine ah1 (k:=k) (r:=hasE E k) _ _ _ rfl rfl rfl hk hx (HA.out _ h1) ?_
 intro a' w1 hw ha
 subst ha
 have h2:=h1.below hw
 have hx2:=hx.below hw
 have b2:=bx.trans (hw.mono bx.size)
 simp only [Act.put,qsA,qsB,qsC]
 cases hq:hasE E k with
 |false =>
  have hres:=HE.out
  rw [hq] at hres
  simp only [Bool.false_eq_true,if_false] at hres
  subst hres
  clear HE hq HA
  go_wp2
  go_ret
  exact ⟨rfl,b2⟩
 |true =>
  obtain ⟨A,B,e1,e2⟩:=h.lk.split hq
  have hres:res=(A.countP (cq s.L c):Int):=by
   rw [HE.out,if_pos hq,e2,List.countP_map]
   rfl
  have HR:=hidMk (rahead_any c h2.row.drew h.lk.good e1)
  clear HE HA e2 hq
  go_upto_region 3 with fail
  refine ah3 (E:=E) (k:=k) (n:=A.countP (cq s.L c)) _ _ _ rfl rfl rfl rfl h2 hk hx2 rfl (HR.out.mono ?_) ?_
  ·rintro e w' ⟨rfl,q⟩
   exact ⟨rfl,h2.drew.qt q,(show w'.heap[_]? =_ by rw [q.heap];exact hx2),(Qt.drew w1).trans q⟩
  intro a' w3 hw3 ha
  subst ha
  simp only [Act.put,qsA,qsB,qsC]
  subst hres
  clear HR e1
  go_wp2
  go_ret
  exact ⟨rfl,b2.trans (hw3.below _)⟩
theorem rank_any (h:SeqAt w s E) {k:IdK} (hk:k.ok):Calls Tryz.prog 54 #[.pointer (some ⟨s.sb,0,none⟩),k.v] w fun e w'=>e= .returned (.int .i64 (aheadE E false k))∧Below w.heap.size w w':=by
 have bx:Below w.heap.size w (w.alloc (.cells k.c.toArray 36)):=(Below.refl _ _).alloc (Nat.le_refl _) _
 have hx:=id_new w k
 have HA:Hid (∀W,SeqAt W s E→Calls Tryz.prog 76 #[.pointer (some ⟨s.sb,0,none⟩),k.v, .int .i64 0] W fun e w'=>e= .returned (.int .i64 (aheadE E false k))∧Below W.heap.size W w'):=fun W hW=>sahead_any hW hk false
 show Calls Tryz.prog 54 #[.pointer (some ⟨s.sb,0,none⟩), .agg k.c.toArray] w _
 go_enter Tryz.func54,Tryz.ntmps54
 go_upto_region 1 with fail
 generalize w.alloc (.cells k.c.toArray 36)=wx at *
 have h1:=h.below bx
 have HL:=hidMk (load_id hk hx)
 clear hx
 go_wp2_with (first
  |(refine wload wx rfl rfl rfl HL.out rfl ?_)
  |(go_at_call 76;refine (HA.out _ h1).mono ?_;rintro e w' ⟨rfl,hb⟩)
  |fail)
 go_ret
 exact ⟨rfl,bx.trans (hb.mono bx.size)⟩
theorem index_any (h:SeqAt w s E) {k:IdK} (hk:k.ok):Calls Tryz.prog 78 #[.pointer (some ⟨s.sb,0,none⟩),k.v] w fun e w'=>e= .returned (.int .i64 (aheadE E true k))∧Below w.heap.size w w':=by
 have bx:Below w.heap.size w (w.alloc (.cells k.c.toArray 36)):=(Below.refl _ _).alloc (Nat.le_refl _) _
 have hx:=id_new w k
 have HA:Hid (∀W,SeqAt W s E→Calls Tryz.prog 76 #[.pointer (some ⟨s.sb,0,none⟩),k.v, .int .i64 1] W fun e w'=>e= .returned (.int .i64 (aheadE E true k))∧Below W.heap.size W w'):=fun W hW=>sahead_any hW hk true
 show Calls Tryz.prog 78 #[.pointer (some ⟨s.sb,0,none⟩), .agg k.c.toArray] w _
 go_enter Tryz.func78,Tryz.ntmps78
 go_upto_region 1 with fail
 generalize w.alloc (.cells k.c.toArray 36)=wx at *
 have h1:=h.below bx
 have HL:=hidMk (load_id hk hx)
 clear hx
 go_wp2_with (first
  |(refine wload wx rfl rfl rfl HL.out rfl ?_)
  |(go_at_call 76;refine (HA.out _ h1).mono ?_;rintro e w' ⟨rfl,hb⟩)
  |fail)
 go_ret
 exact ⟨rfl,bx.trans (hb.mono bx.size)⟩
theorem len_any (h:SeqAt w s E):Calls Tryz.prog 103 #[.pointer (some ⟨s.sb,0,none⟩)] w fun e w'=>e= .returned (.int .i64 ((visE E false).length:Int))∧Below w.heap.size w w':=by
 have HA:Hid (Calls Tryz.prog 100 #[.pointer (some ⟨s.sb,0,none⟩), .int .i64 0] w fun e w'=>e= .returned (.int .i64 ((visE E false).length:Int))∧Below w.heap.size w w'):=smany_any h false
 go_enter Tryz.func103,Tryz.ntmps103
 go_wp2_with (first
  |(go_at_call 100;refine HA.out.mono ?_;rintro e w' ⟨rfl,hb⟩)
  |fail)
 go_ret
 exact ⟨rfl,hb⟩
theorem shown_any (h:SeqAt w s E):Calls Tryz.prog 79 #[.pointer (some ⟨s.sb,0,none⟩)] w fun e w'=>e= .returned (.int .i64 ((visE E true).length:Int))∧Below w.heap.size w w':=by
 have HA:Hid (Calls Tryz.prog 100 #[.pointer (some ⟨s.sb,0,none⟩), .int .i64 1] w fun e w'=>e= .returned (.int .i64 ((visE E true).length:Int))∧Below w.heap.size w w'):=smany_any h true
 go_enter Tryz.func79,Tryz.ntmps79
 go_wp2_with (first
  |(go_at_call 100;refine HA.out.mono ?_;rintro e w' ⟨rfl,hb⟩)
  |fail)
 go_ret
 exact ⟨rfl,hb⟩
end
theorem results_c2 {P:Program} {fn:Func} {a b:Nat} {t:TypeId} (h:fn.results= #[.cell a t, .tmp b]) {tmps:Array Value} {w:World} {p:Addr} {v:Value} (ha:tmps.getD a undef= .pointer (some p)) (hl:(loadVar t p).run P w= .ok v w) :
 (results fn tmps).run P w= .ok (.tuple #[v,tmps.getD b undef]) w:=by
 rw [Array.getD_eq_getD_getElem?] at ha
 simp [results,h,asAddr,ha,hl,Array.mapM_eq_mapM_toList,Result.andThen]
theorem loadVar_id {w:World} {b:Nat} {k:IdK} (hk:k.ok) (h:IdAt w b k):(loadVar 36 ⟨b,0,none⟩).run Tryz.prog w= .ok k.v w :=
 run_loadVar_mid (P:=Tryz.prog) w b 0 36 k.c _ (cells_range h) Tryz.underlying36 rfl (by rw [IdK.len hk];exact szId)
theorem zeroId (w:World):(zeroValue 36).run Tryz.prog w= .ok zId.v w:=by kernel_rfl
theorem id_zero (w:World):(Instr.alloc 36 true (.tuple #[])).run Tryz.prog w= .ok (.pointer (some ⟨w.heap.size,0,none⟩)) (w.alloc (.cells zId.c.toArray 36)):=by
 simp only [Instr.alloc,newVar,newRow,newObj,Sem.run_bind,zeroId,Result.andThen_ok,IdK.v,Value.cells]
 rfl
theorem store_id {w:World} {b:Nat} {x u:IdK} (hx:x.ok) (hu:u.ok) (h:IdAt w b x):(Instr.storeAt 36 (.pointer (some ⟨b,0,none⟩)) u.v).run Tryz.prog w= .ok () (w.setRow b u.c.toArray):=by
 have e2:=run_storeVar_row (P:=Tryz.prog) w b 36 36 x.c.toArray u.c.toArray h (by rw [List.size_toArray,IdK.len hu];exact szId)
  (by rw [List.size_toArray,List.size_toArray,IdK.len hu,IdK.len hx]) (by rw [List.all_toArray,List.all_eq_true];exact u.one)
 simp only [Instr.storeAt,Instr.sureAddr,Sem.run_bind,Sem.run_pure,Result.andThen_ok,IdK.v,e2]
theorem IdAt.set {w:World} {b:Nat} {x:IdK} (u:IdK) (h:IdAt w b x):IdAt (w.setRow b u.c.toArray) b u:=setRow_heap w b _ _ _ _ h
theorem two_boxes (w:World) (k u:IdK):IdAt ((w.alloc (.cells k.c.toArray 36)).alloc (.cells u.c.toArray 36)) w.heap.size k∧IdAt ((w.alloc (.cells k.c.toArray 36)).alloc (.cells u.c.toArray 36)) (w.heap.size+1) u ∧
 Below w.heap.size w ((w.alloc (.cells k.c.toArray 36)).alloc (.cells u.c.toArray 36))∧((w.alloc (.cells k.c.toArray 36)).alloc (.cells u.c.toArray 36)).heap.size=w.heap.size+2:=by
 have z:(w.alloc (.cells k.c.toArray 36)).heap.size=w.heap.size+1:=by simp
 refine ⟨?_, ?_,((Below.refl _ _).alloc (Nat.le_refl _) _).alloc (by simp) _,by simp⟩
 ·unfold IdAt
  rw [Below.heap_alloc _ _ _ (by rw [z];omega)]
  exact heap_alloc_new _ _
 ·unfold IdAt
  rw [←z]
  exact heap_alloc_new _ _
theorem set_below {w:World} {b n:Nat} (cs:Array Value) (hn:n≤w.heap.size) (hb:n≤b):Below n w (w.setRow b cs):=(setRow_tch w b cs).below hn (fun j e=>by simp at e;omega)
def nthE (E:List Elt) (c:Bool) (m:Int):IdK × Bool:=if 0≤m∧m<((visE E c).length:Int) then (((visE E c).map (·.id)).getD m.toNat zId,true) else (zId,false)
section
variable {w:World} {s:Sx} {E:List Elt}
theorem lk_nth (h:Lk s E) (c:Bool) (m:Int):(nth (vis s.L c s.t) m=0∧nthE E c m=(zId,false))∨(nth (vis s.L c s.t) m∈s.t.ids∧nthE E c m=((gt s.L (nth (vis s.L c s.t) m)).kp.id,true)):=by
 have hv:=h.vis c
 obtain ⟨V,hV⟩:∃V,Go.Proofs.YtifendlpeebofaaGreatDoor.vis s.L c s.t=V:=⟨_,rfl⟩
 have hs:∀x∈V,x∈s.t.ids:=fun x hx=>by rw [←hV] at hx;exact (List.mem_filter.1 hx).1
 rw [hV] at hv ⊢
 have hl:(visE E c).length=V.length:=by rw [←hv,List.length_map]
 unfold Go.Proofs.YtifendlpeebofaaGreatDoor.nth nthE
 rw [hl]
 by_cases q:0≤m∧m<(V.length:Int)
 ·rw [if_pos q,if_pos q]
  have hm:m.toNat<V.length:=by omega
  have e1:V.getD m.toNat 0=V[m.toNat]:=by rw [List.getD_eq_getElem?_getD,List.getElem?_eq_getElem hm];rfl
  rw [e1]
  refine .inr ⟨hs _ (List.getElem_mem hm), ?_⟩
  rw [←hv,List.map_map,List.getD_eq_getElem?_getD,List.getElem?_map,List.getElem?_eq_getElem hm]
  rfl
 ·rw [if_neg q,if_neg q]
  exact .inl ⟨rfl,rfl⟩
theorem sfind_any (h:SeqAt w s E) (c:Bool) (m:Int) (hm: -9223372036854775808≤m∧m≤9223372036854775807):Calls Tryz.prog 99 #[.pointer (some ⟨s.sb,0,none⟩), .int .i64 m, .int .i64 (nb c:Int)] w fun e w'=>e= .returned (.tuple #[(nthE E c m).1.v, .bool (nthE E c m).2])∧Below w.heap.size w w':=by
 have hr:=id_new w zId
 have bx:Below w.heap.size w (w.alloc (.cells zId.c.toArray 36)):=(Below.refl _ _).alloc (Nat.le_refl _) _
 have zx:(w.alloc (.cells zId.c.toArray 36)).heap.size=w.heap.size+1:=by simp
 have HRF:Hid (∀W,SeqAt W s E→Calls Tryz.prog 128 #[.pointer (some ⟨s.sb,1,none⟩), .int .i64 m, .int .i64 (nb c:Int)] W fun e w'=>e= .returned (.int .i64 (nth (vis s.L c s.t) m:Int))∧Qt W w'):=fun W hW=>rfind_any c m hm hW.row hW.lk.good
 have HN:=hidMk (lk_nth h.lk c m)
 have HL:=hidMk (fun i (hi:i∈s.t.ids)=>(h.lk.good.lt hi))
 generalize nth (vis s.L c s.t) m=i at *
 generalize nthE E c m=res at *
 go_enter Tryz.func99,Tryz.ntmps99
 go_upto_region 3 with (first
  |(refine wpList_run rfl (exec_alloc (t:=36) rfl (id_zero _)) ?_)
  |fail)
 generalize w.alloc (.cells zId.c.toArray 36)=wx at *
 have ZX:=hidMk zx
 clear zx
 have h1:=h.below bx
 refine fi3 (fun w'=>Qt wx w') _ _ _ rfl rfl rfl rfl (HRF.out _ h1) ?_
 intro a' w1 hw ha
 subst ha
 have h2:=h1.qt hw
 have hr2:IdAt w1 w.heap.size zId:=by unfold IdAt;rw [hw.heap];exact hr
 have b2:=bx.trans (hw.below _)
 clear HRF
 simp only [Act.put,qsA,qsB,qsC]
 go_upto_region 4 with fail
 rcases HN.out with ⟨hi0,rfl⟩|⟨him,rfl⟩
 ·subst hi0
  refine fi4 (i:=0) (r:=true) _ _ _ rfl rfl rfl ?_
  intro a' w3 hw3 ha
  subst ha
  obtain rfl:w3=w1:=hw3
  simp only [Act.put,qsA,qsB,qsC]
  go_upto_region 5 with fail
  refine fi5 _ _ _ rfl rfl (store_id zId_ok zId_ok hr2) ?_
  intro a' w4 hw4 ha
  subst ha
  obtain rfl:w4=_:=hw4
  simp only [Act.put,qsA,qsB,qsC]
  have hr3:=hr2.set zId
  have b3:Below w.heap.size w (w3.setRow w.heap.size zId.c.toArray):=b2.trans (set_below _ b2.size (Nat.le_refl _))
  generalize w3.setRow w.heap.size zId.c.toArray=w4 at *
  go_wp2
  refine bodyPost_ret (results_c2 rfl rfl (loadVar_id zId_ok hr3)) rfl ?_
  exact ⟨rfl,b3⟩
 ·obtain ⟨hi0,hil⟩:=HL.out i him
  refine fi4 (i:=i) (r:=false) _ _ _ rfl rfl (by simpa using hi0) ?_
  intro a' w3 hw3 ha
  subst ha
  obtain rfl:w3=w1:=hw3
  simp only [Act.put,qsA,qsB,qsC]
  go_upto_region 6 with fail
  have ok:=(h2.row.ok.gt hil).id
  refine fi6 (E:=E) _ _ _ rfl rfl rfl rfl h2 hil (element_any h2.row hil) (store_id zId_ok ok hr2) ?_
  intro a' w4 hw4 ha
  subst ha
  obtain rfl:w4=_:=hw4
  simp only [Act.put,qsA,qsB,qsC]
  have hr3:=hr2.set (gt s.L i).kp.id
  have b3:Below w.heap.size w (w3.setRow w.heap.size (gt s.L i).kp.id.c.toArray):=b2.trans (set_below _ b2.size (Nat.le_refl _))
  generalize w3.setRow w.heap.size (gt s.L i).kp.id.c.toArray=w4 at *
  go_wp2
  refine bodyPost_ret (results_c2 rfl rfl (loadVar_id ok hr3)) rfl ?_
  exact ⟨rfl,b3⟩
end
structure Nxt (s:Sx) (w:World) (s':Sx) (E':List Elt) (w':World):Prop where
 at':SeqAt w' s' E'
 sb:s'.sb=s.sb
 mb:s'.mb=s.mb
 own:s'.g=s.g∨w.heap.size≤s'.g
 tch:Tch (fun j=>j∈s.bl) w w'
theorem tch_below {w w':World} (h:Below w.heap.size w w') (O:Nat→Prop):Tch O w w':=Tch.of_below h (fun k hk hb=>by omega)
theorem Nxt.same {s:Sx} {w w':World} {E:List Elt} (h:SeqAt w s E) (b:Below w.heap.size w w'):Nxt s w s E w':=⟨h.below b,rfl,rfl, .inl rfl,tch_below b _⟩
theorem SeqAt.did {w w':World} {s:Sx} {E E':List Elt} {L':List Sp} {t':T} (h:SeqAt w s E) (d:Did w s.sb 1 s.g s.cap L' w') (lk:Lk {s with L:=L',t:=t'} E'):SeqAt w' {s with L:=L',t:=t'} E' :=
 ⟨(World.cell?_of_block (a:=⟨s.sb,0,none⟩) (d.tch.block s.sb h.row.lt.1 h.row.ne)).trans h.c0,d.at',h.map.below (d.tch.block s.mb h.map.lt (fun e=>h.nm.2 e.symm)),h.nm,lk⟩
theorem SeqAt.keys {w:World} {s:Sx} {E:List Elt} (h:SeqAt w s E):(s.N.map (·.1)).Nodup:=by
 have:=h.map.2.1
 unfold entM at this
 rwa [M.onV_keys] at this
theorem put_entM (N:List (IdK × Nat)) (k:IdK) (n:Nat):M.put (entM N) k (Value.int .i64 (n:Int))=entM (M.put N k n):=M.put_on (fun n:Nat=>Value.int .i64 (n:Int)) N k n
theorem showE_none {E:List Elt} {k:IdK} (h:hasE E k=false) (b:Bool):showE E k b=E:=by
 unfold showE
 conv=>rhs;rw [←List.map_id E]
 refine List.map_congr_left fun e he=> ?_
 rw [if_neg (fun q=>by have:hasE E k=true:=hasE_iff.2 ⟨e,he,q⟩;rw [h] at this;cases this)]
 rfl
def showC (E:List Elt) (k:IdK):Nat:=if hasE E k=true then 0 else 4
def insC (E:List Elt) (k b:IdK):Nat:=if k.n<1 then 2 else if hasE E k=true then 5 else if b≠zId∧hasE E b=false then 4 else 0
def insR (E:List Elt) (k b:IdK):List Elt:=if insC E k b=0 then putE E b ⟨k,b,true⟩ else E
section
variable {w:World} {s:Sx} {E:List Elt}
end
section
variable {w:World} {s:Sx} {E:List Elt}
theorem ins_end {w4 w5:World} {k b:IdK} {b1 b2:Nat} {v:Int} (h:SeqAt w4 s E) (hb1:IdAt w4 b1 k) (hb2:IdAt w4 b2 b) (n1:b1∉s.bl) (n2:b2∉s.bl) (hk:k.ok) (hb:b.ok) (hp:spotOf s b=0∨spotOf s b∈s.t.ids)
 (d:Did w4 s.sb 1 s.g s.cap (setFol s.L (spotOf s b) v) w5) (hl:s.L.length+1≤1400000000000)
 (hlk:∀g' cap' L' t',Good L' t'→InsB s.t.ids t'.ids (spotOf s b) s.L.length→Kept (setFol s.L (spotOf s b) v++[⟨⟨k,b,0⟩,true,0,0,0,0,0⟩]) L'→Lk {s with g:=g',cap:=cap',L:=L',t:=t',N:=M.put s.N k s.L.length} (putE E b ⟨k,b,true⟩)) :
 IS s b1 b2 k b w5.drew∧Calls Tryz.prog 49 #[.pointer (some ⟨s.sb,1,none⟩), .int .i64 (spotOf s b:Int),KpV.v ⟨k,b,0⟩] w5.drew fun e w'=>e= .returned (.int .i64 (s.L.length:Int))∧IS s b1 b2 k b w'∧∃y,(Instr.mapUpdate 72 (.map (some s.mb)) k.v (.int .i64 (s.L.length:Int))).run Tryz.prog w'= .ok () y∧∃s',Nxt s w4 s' (putE E b ⟨k,b,true⟩) y:=by
 have nb:∀x,x∉s.bl→x≠s.sb∧x≠s.mb∧x≠s.g:=fun x hx=>by simpa [Sx.bl] using hx
 obtain ⟨p1,p2,p3⟩:=nb b1 n1
 obtain ⟨q1,q2,q3⟩:=nb b2 n2
 have l1:=hb1.lt
 have l2:=hb2.lt
 have lm:=h.map.lt
 have ls:=h.row.lt
 have sz:w5.heap.size=w4.heap.size:=d.size
 have is5:IS s b1 b2 k b w5.drew:=⟨(World.cell?_of_block (w:=w4) (w':=w5) (a:=⟨s.sb,0,none⟩) (d.tch.block s.sb ls.1 h.row.ne)).trans h.c0,(d.tch.block b1 l1 p3).trans hb1,(d.tch.block b2 l2 q3).trans hb2⟩
 have m5:M.MapAt w5.drew s.mb IdK.v IdK.ok (entM s.N):=h.map.below (d.tch.block s.mb lm (fun e=>h.nm.2 e.symm))
 refine ⟨is5, ?_⟩
 have rp:=rput_any (k:=⟨k,b,0⟩) d.at'.drew (h.lk.good.setFol (spotOf s b) v) hp ⟨hk,hb⟩ (by rw [setFol_len];exact hl)
 rw [setFol_len] at rp
 refine rp.mono ?_
 rintro e w' ⟨rfl,g',cap',L',t',a1,a2,a3,mv⟩
 have sz6:w5.heap.size≤w'.heap.size:=mv.tch.size
 have keep:∀x,x<w5.heap.size→x≠s.g→x≠s.sb→w'.heap[x]? =w5.heap[x]? :=fun x hx e1 e2=>mv.tch.block x hx (fun q=>q.elim e1 e2)
 have is6:IS s b1 b2 k b w':=⟨(mv.oth 0 (by decide)).trans is5.1,(keep b1 (by omega) p3 p1).trans is5.2.1,(keep b2 (by omega) q3 q1).trans is5.2.2⟩
 have m6:M.MapAt w' s.mb IdK.v IdK.ok (entM s.N):=m5.below (keep s.mb (by omega) (fun e=>h.nm.2 e.symm) (fun e=>h.nm.1 e.symm))
 obtain ⟨o,e1,m7⟩:=M.run_put (P:=Tryz.prog) idKey Tryz.underlying72 m6 k hk (Value.int .i64 (s.L.length:Int))
 rw [put_entM] at m7
 have hgm:g'≠s.mb:=by
  rcases mv.own with e|e
  ·rw [e];exact h.nm.2
  ·have:w5.drew.heap.size=w5.heap.size:=rfl
   omega
 refine ⟨rfl,is6,_,e1,{s with g:=g',cap:=cap',L:=L',t:=t',N:=M.put s.N k s.L.length}, ?_,rfl,rfl, ?_, ?_⟩
 ·refine ⟨(World.cell?_of_block (w:=w') (a:=⟨s.sb,0,none⟩) (M.setM_other o h.nm.1)).trans is6.1,mv.at'.keep (M.setM_other o h.nm.1) (M.setM_other o hgm),m7,⟨h.nm.1,hgm⟩,hlk g' cap' L' t' a1 a2 a3⟩
 ·rcases mv.own with e|e
  ·exact .inl e
  ·exact .inr (by have:w5.drew.heap.size=w5.heap.size:=rfl;show w4.heap.size≤g';omega)
 ·have t1:Tch (fun j=>j∈s.bl) w4 w5.drew:=(d.tch.mono (fun j _ q=>by rw [q];simp [Sx.bl])).drew
  have t2:Tch (fun j=>j∈s.bl) w4 w':=t1.trans' mv.tch (fun j _ q=>by rcases q with q|q <;>rw [q] <;>simp [Sx.bl])
  exact t2.setM (.inr (by simp [Sx.bl])) o
theorem insert_any (h:SeqAt w s E) {k b:IdK} (hk:k.ok) (hb:b.ok) (hl:E.length+2≤1400000000000):Calls Tryz.prog 16 #[.pointer (some ⟨s.sb,0,none⟩),k.v,b.v] w fun e w'=>e= .returned (.int .i64 (insC E k b:Int))∧∃s',Nxt s w s' (insR E k b) w':=by
 have HA:Hid (∀W,SeqAt W s E→∀x:IdK,x.ok→Calls Tryz.prog 47 #[.pointer (some ⟨s.sb,0,none⟩),x.v] W fun e w'=>e= .returned (.bool (hasE E x))∧Below W.heap.size W w'):=fun W hW x hx=>has_any hW hx
 obtain ⟨hx,hy,bx,zx⟩:=two_boxes w k b
 have HB:=hidMk h.lt
 show Calls Tryz.prog 16 #[.pointer (some ⟨s.sb,0,none⟩), .agg k.c.toArray, .agg b.c.toArray] w _
 go_enter Tryz.func16,Tryz.ntmps16
 go_upto_region 3 with fail
 generalize (w.alloc (.cells k.c.toArray 36)).alloc (.cells b.c.toArray 36)=wx at *
 have ZX:=hidMk zx
 clear zx
 have h1:=h.below bx
 cases hn:decide (k.n<1) with
 |true =>
  have HN:=hidMk (of_decide_eq_true hn)
  refine ins3 (k:=k) (r:=true) _ _ _ rfl rfl hk hx hn ?_
  intro a' w1 hw ha
  subst ha
  obtain rfl:w1=wx:=hw
  simp only [Act.put,qsA,qsB,qsC]
  clear hn
  go_wp2
  go_ret
  have e:insC E k b=2:=by unfold insC;rw [if_pos HN.out]
  exact ⟨by rw [e];rfl,s,by unfold insR;rw [e];exact Nxt.same h bx⟩
 |false =>
  have HN:=hidMk (of_decide_eq_false hn)
  refine ins3 (k:=k) (r:=false) _ _ _ rfl rfl hk hx hn ?_
  intro a' w1 hw ha
  subst ha
  obtain rfl:w1=wx:=hw
  simp only [Act.put,qsA,qsB,qsC]
  clear hn
  go_upto_region 5 with fail
  refine ins5 (k:=k) (r:=hasE E k) _ _ _ rfl rfl rfl hk hx (HA.out _ h1 k hk) ?_
  intro a' w2 hw2 ha
  subst ha
  simp only [Act.put,qsA,qsB,qsC]
  have h2:=h1.below hw2
  have hx2:=hx.below hw2
  have hy2:=hy.below hw2
  have b2:=bx.trans (hw2.mono bx.size)
  clear hx hy h1 hw2
  cases hq:hasE E k with
  |true =>
   have HQ:=hidMk hq
   clear hq
   go_wp2
   go_ret
   have e:insC E k b=5:=by unfold insC;rw [if_neg (by have:=HN.out;omega),if_pos HQ.out]
   exact ⟨by rw [e];rfl,s,by unfold insR;rw [e];exact Nxt.same h b2⟩
  |false =>
   have HQ:=hidMk hq
   clear hq
   go_upto_region 7 with fail
   have fin:∀(w3:World),Below w.heap.size w w3→SeqAt w3 s E→IdAt w3 w.heap.size k→IdAt w3 (w.heap.size+1) b→(b=zId∨hasE E b=true)→∃w5 v,(Instr.storeAt 3 (.pointer (some ⟨s.g,73*spotOf s b+0+66,none⟩)) (.int .i64 ((gt s.L (spotOf s b)).kp.fol+1))).run Tryz.prog w3= .ok () w5∧spotOf s b<s.L.length∧(-9223372036854775808≤(gt s.L (spotOf s b)).kp.fol+1∧(gt s.L (spotOf s b)).kp.fol+1≤9223372036854775807) ∧
        IS s w.heap.size (w.heap.size+1) k b w5.drew∧Calls Tryz.prog 49 #[.pointer (some ⟨s.sb,1,none⟩), .int .i64 (spotOf s b:Int),KpV.v ⟨k,b,0⟩] w5.drew fun e w'=>e= .returned (.int .i64 (v:Nat))∧IS s w.heap.size (w.heap.size+1) k b w'∧∃y,(Instr.mapUpdate 72 (.map (some s.mb)) k.v (.int .i64 (v:Nat))).run Tryz.prog w'= .ok () y∧∃s',Nxt s w s' (insR E k b) y:=by
        intro w3 b3 h3 i1 i2 hbb
        have hp:=(h.lk.spotIs hbb).1
        have hpl:spotOf s b<s.L.length:=by
         rcases hp with e|e
         ·rw [e];exact h.lk.good.pos
         ·exact (h.lk.good.lt e).2
        obtain ⟨w5,e5,d5⟩:=st_fol h3.row hpl ((gt s.L (spotOf s b)).kp.fol+1)
        have hfol:=h.lk.fol (spotOf s b) hp
        have hfl:=folE_le E (gt s.L (spotOf s b)).kp.id
        have hlen:=h.lk.len
        have e:insC E k b=0:=by
         unfold insC
         rw [if_neg (by have:=HN.out;omega),if_neg (by rw [HQ.out];decide),if_neg (fun q=>by rcases hbb with r|r;exact q.1 r;rw [r] at q;cases q.2)]
        have he:=ins_end (k:=k) (b:=b) (v:=(gt s.L (spotOf s b)).kp.fol+1) h3 i1 i2 (fun q=>by have:=HB.out _ q;omega) (fun q=>by have:=HB.out _ q;omega) hk hb hp d5 (by omega)
         (fun g' cap' L' t' a1 a2 a3=>h.lk.put h.keys ⟨hk,by have:=HN.out;omega⟩ hb HQ.out hbb a1 a2 a3)
        refine ⟨w5,s.L.length,e5,hpl,by omega,he.1,he.2.mono ?_⟩
        rintro e' w' ⟨r1,r2,y,r3,s',nx⟩
        refine ⟨r1,r2,y,r3,s', ?_⟩
        unfold insR
        rw [if_pos e]
        exact ⟨nx.at',nx.sb,nx.mb,nx.own.imp id (fun q=>Nat.le_trans b3.size q),(tch_below b3 _).trans nx.tch⟩
   have FIN:=hidMk fin
   clear fin
   cases hz:(!decide (b=zId)) with
   |true =>
    have HZ:=hidMk (show b≠zId by simpa using hz)
    refine ins7a (k:=b) (r:=hasE E b) _ _ _ rfl rfl rfl hb hy2 hz (HA.out _ h2 b hb) ?_
    intro a' w3 hw3 ha
    subst ha
    simp only [Act.put,qsA,qsB,qsC]
    have h3:=h2.below hw3
    have hx3:=hx2.below hw3
    have hy3:=hy2.below hw3
    have b3:=b2.trans (hw3.mono b2.size)
    clear hx2 hy2 h2 hw3 b2 HA hz
    cases hq2:hasE E b with
    |false =>
     have HQ2:=hidMk hq2
     clear hq2
     go_wp2
     go_ret
     have e:insC E k b=4:=by unfold insC;rw [if_neg (by have:=HN.out;omega),if_neg (by rw [HQ.out];decide),if_pos ⟨HZ.out,HQ2.out⟩]
     exact ⟨by rw [e];rfl,s,by unfold insR;rw [e];exact Nxt.same h b3⟩
    |true =>
     have HQ2:=hidMk hq2
     clear hq2
     go_upto_region 9 with fail
     refine ins9 (E:=E) (k:=b) _ _ _ rfl rfl rfl h3 hb hy3 rfl ?_
     intro a' w4 hw4 ha
     subst ha
     obtain rfl:w4=w3.drew:=hw4
     simp only [Act.put,qsA,qsB,qsC]
     obtain ⟨w5,v,e5,hpl,hf5,is5,cp5⟩:=FIN.out w3.drew b3.drew h3.drew hx3 hy3 (.inr HQ2.out)
     have IS5:=hidMk is5
     have CP5:=hidMk cp5
     have E0:=hidMk (show insC E k b=0 by
         unfold insC
         rw [if_neg (by have:=HN.out;omega),if_neg (by rw [HQ.out];decide),if_neg (fun q=>by rw [HQ2.out] at q;cases q.2)])
     clear is5 cp5 FIN
     go_upto_region 10 with fail
     refine ins10 (E:=E) _ _ _ rfl rfl rfl h3.drew hpl hf5 (element_any h3.drew.row hpl) e5 ?_
     intro a' w6 hw6 ha
     subst ha
     obtain rfl:w6=w5:=hw6
     simp only [Act.put,qsA,qsB,qsC]
     clear hf5 e5
     go_upto_region 11 with fail
     refine ins11 (k:=k) (q:=b) (fun y=> ∃s',Nxt s w s' (insR E k b) y) _ _ _ rfl rfl rfl rfl rfl hk hb IS5.out CP5.out ?_
     intro a' w7 hw7 ha
     subst ha
     have HW7:=hidMk hw7
     clear hw7 IS5 CP5 h3 hx3 hy3
     simp only [Act.put,qsA,qsB,qsC]
     go_wp2
     go_ret
     exact ⟨by rw [E0.out];rfl,HW7.out⟩
   |false =>
    have HZ:=hidMk (show b=zId by simpa using hz)
    refine ins7b (k:=b) _ _ _ rfl rfl rfl hb hy2 hz ?_
    intro a' w3 hw3 ha
    subst ha
    obtain rfl:w3=w2:=hw3
    simp only [Act.put,qsA,qsB,qsC]
    clear HA hz
    go_upto_region 9 with fail
    refine ins9 (E:=E) (k:=b) _ _ _ rfl rfl rfl h2 hb hy2 rfl ?_
    intro a' w4 hw4 ha
    subst ha
    obtain rfl:w4=w3.drew:=hw4
    simp only [Act.put,qsA,qsB,qsC]
    obtain ⟨w5,v,e5,hpl,hf5,is5,cp5⟩:=FIN.out w3.drew b2.drew h2.drew hx2 hy2 (.inl HZ.out)
    have IS5:=hidMk is5
    have CP5:=hidMk cp5
    have E0:=hidMk (show insC E k b=0 by
        unfold insC
        rw [if_neg (by have:=HN.out;omega),if_neg (by rw [HQ.out];decide),if_neg (fun q=>q.1 HZ.out)])
    clear is5 cp5 FIN
    go_upto_region 10 with fail
    refine ins10 (E:=E) _ _ _ rfl rfl rfl h2.drew hpl hf5 (element_any h2.drew.row hpl) e5 ?_
    intro a' w6 hw6 ha
    subst ha
    obtain rfl:w6=w5:=hw6
    simp only [Act.put,qsA,qsB,qsC]
    clear hf5 e5
    go_upto_region 11 with fail
    refine ins11 (k:=k) (q:=b) (fun y=> ∃s',Nxt s w s' (insR E k b) y) _ _ _ rfl rfl rfl rfl rfl hk hb IS5.out CP5.out ?_
    intro a' w7 hw7 ha
    subst ha
    have HW7:=hidMk hw7
    clear hw7 IS5 CP5 h2 hx2 hy2
    simp only [Act.put,qsA,qsB,qsC]
    go_wp2
    go_ret
    exact ⟨by rw [E0.out];rfl,HW7.out⟩
end
end Go.Proofs.YtifendlpeebofaaGreatDoor
namespace Go.Proofs.YtifendlpeebofaaGreatDoor
open Go.RowKit Go.Shelf Sq
attribute [local go_sem] Oper.semAt_some
section
variable {w:World} {s:Sx} {E:List Elt}
theorem nthE_ok (h:SeqOk E) (c:Bool) (m:Int):(nthE E c m).1.ok:=by
 unfold nthE
 split
 ·rw [List.getD_eq_getElem?_getD]
  cases q:((visE E c).map (·.id))[m.toNat]? with
  |none=>exact zId_ok
  |some x =>
   obtain ⟨e,he,rfl⟩:=List.mem_map.1 (List.mem_of_getElem? q)
   exact (h.ok e (List.mem_filter.1 he).1).1
 ·exact zId_ok
theorem at_any (h:SeqAt w s E) (m:Int) (hm: -9223372036854775808≤m∧m≤9223372036854775807):Calls Tryz.prog 77 #[.pointer (some ⟨s.sb,0,none⟩), .int .i64 m] w fun e w'=>e= .returned (.tuple #[(nthE E false m).1.v, .bool (nthE E false m).2])∧Below w.heap.size w w':=by
 have hr:=id_new w zId
 have bx:Below w.heap.size w (w.alloc (.cells zId.c.toArray 36)):=(Below.refl _ _).alloc (Nat.le_refl _) _
 have zx:(w.alloc (.cells zId.c.toArray 36)).heap.size=w.heap.size+1:=by simp
 have HA:Hid (∀W,SeqAt W s E→Calls Tryz.prog 99 #[.pointer (some ⟨s.sb,0,none⟩), .int .i64 m, .int .i64 0] W fun e w'=>e= .returned (.tuple #[(nthE E false m).1.v, .bool (nthE E false m).2])∧Below W.heap.size W w'):=fun W hW=>sfind_any hW false m hm
 have OK:(nthE E false m).1.ok:=nthE_ok h.lk.ok false m
 generalize nthE E false m=res at *
 go_enter Tryz.func77,Tryz.ntmps77
 go_upto_region 1 with (first
  |(refine wpList_run rfl (exec_alloc (t:=36) rfl (id_zero _)) ?_)
  |fail)
 generalize w.alloc (.cells zId.c.toArray 36)=wx at *
 have h1:=h.below bx
 have HR:=hidMk hr
 have BX:=hidMk bx
 have ZX:=hidMk zx
 clear hr bx zx
 go_wp2_with (first
  |(go_at_call 99;refine (HA.out _ h1).mono ?_;rintro e w1 ⟨rfl,hb⟩;have ST:=hidMk (store_id zId_ok OK (HR.out.below hb)))
  |(refine wpList_skip rfl rfl (exec_store (t:=36) (xv:= .pointer (some ⟨w.heap.size,0,none⟩)) (yv:=res.1.v) rfl rfl rfl ST.out) ?_)
  |fail)
 refine bodyPost_ret (results_c2 rfl rfl (loadVar_id OK ((HR.out.below hb).set res.1))) rfl ?_
 have b2:=BX.out.trans (hb.mono BX.out.size)
 exact ⟨rfl,b2.trans (set_below _ b2.size (Nat.le_refl _))⟩
end
theorem good_new:Good [zSp] .nil:=by
 refine ⟨⟨trivial,⟨by simp,rfl,rfl⟩,by simp [T.ids,cids],fun w=>by cases w <;>rfl⟩,trivial,fun i h0 h1=> ?_⟩
 simp at h1;omega
theorem zSp_ok:OkS [zSp]:=fun x hx=>by
 rw [List.mem_singleton.1 hx];exact zK_ok
theorem lk_new (sb mb g cap:Nat):Lk ⟨sb,mb,g,cap,[zSp], .nil,[]⟩ []:=by
 refine ⟨good_new,rfl,⟨by simp,by simp,by simp⟩,fun k n=> ?_,rfl,fun n hn=> ?_⟩
 ·constructor
  ·intro h;cases h
  ·rintro ⟨h,_⟩;simp [T.ids] at h
 ·rcases hn with rfl|h
  ·rfl
  ·simp [T.ids] at h
theorem make_sp (w:World):(Instr.makeSlice 73 (.int .i64 1) (.int .i64 1)).run Tryz.prog w= .ok (.slice (some ⟨w.heap.size,0,none⟩) 1 1) (w.alloc (.cells (Sp.c zSp).toArray 128)):=by kernel_rfl
theorem results_c1 {P:Program} {fn:Func} {a:Nat} {t:TypeId} (h:fn.results= #[.cell a t]) {tmps:Array Value} {w:World} {p:Addr} {v:Value} (ha:tmps.getD a undef= .pointer (some p)) (hl:(loadVar t p).run P w= .ok v w) :
 (results fn tmps).run P w= .ok v w:=by
 rw [Array.getD_eq_getD_getElem?] at ha
 simp [results,h,asAddr,ha,hl,Array.mapM_eq_mapM_toList,Result.andThen]
theorem newRow_any (w:World):Calls Tryz.prog 38 #[] w fun e w'=>e= .returned (.agg #[.slice (some ⟨w.heap.size+1,0,none⟩) 1 1])∧w'.heap[w.heap.size+1]? =some (.cells (Sp.c zSp).toArray 128 (0,0))∧w'.heap.size=w.heap.size+2∧Below w.heap.size w w':=by
 go_enter Tryz.func38,Tryz.ntmps38
 go_wp2_with (first
  |(refine wpList_run rfl (exec_makeSlice rfl rfl rfl (make_sp _)) ?_)
  |fail)
 have z:(w.alloc (.cells #[.slice (some ⟨w.heap.size+1,0,none⟩) 1 1] 75)).heap.size=w.heap.size+1:=by simp
 have hb:((w.alloc (.cells #[.slice (some ⟨w.heap.size+1,0,none⟩) 1 1] 75)).alloc (.cells (Sp.c zSp).toArray 128)).heap[w.heap.size]? =some (.cells [Value.slice (some ⟨w.heap.size+1,0,none⟩) 1 1].toArray 75 (0,0)):=(Below.heap_alloc _ _ _ (by simp)).trans (heap_alloc_new _ _)
 have hl:=run_loadVar_mid (P:=Tryz.prog) _ w.heap.size 0 75 [Value.slice (some ⟨w.heap.size+1,0,none⟩) 1 1] _ (cells_range hb) Tryz.underlying75 rfl (by kernel_rfl)
 refine bodyPost_ret (results_c1 rfl rfl hl) rfl ?_
 refine ⟨rfl, ?_,by simp,((Below.refl _ _).alloc (Nat.le_refl _) _).alloc (by simp) _⟩
 have hn:=heap_alloc_new (w.alloc (.cells #[.slice (some ⟨w.heap.size+1,0,none⟩) 1 1] 75)) (.cells (Sp.c zSp).toArray 128)
 rw [z] at hn
 exact hn
theorem new_any (w:World):Calls Tryz.prog 8 #[] w fun e w'=> ∃s,e= .returned (.pointer (some ⟨s.sb,0,none⟩))∧SeqAt w' s []∧(∀j∈s.bl,w.heap.size≤j)∧Below w.heap.size w w':=by
 have HR:Hid (∀W,Calls Tryz.prog 38 #[] W fun e w'=>e= .returned (.agg #[.slice (some ⟨W.heap.size+1,0,none⟩) 1 1])∧w'.heap[W.heap.size+1]? =some (.cells (Sp.c zSp).toArray 128 (0,0))∧w'.heap.size=W.heap.size+2∧Below W.heap.size W w'):=newRow_any
 have hm:=M.MapAt.new w IdK.v IdK.ok
 have bm:Below w.heap.size w (w.alloc (.map #[] 0)):=(Below.refl _ _).alloc (Nat.le_refl _) _
 have zm:(w.alloc (.map #[] 0)).heap.size=w.heap.size+1:=by simp
 go_enter Tryz.func8,Tryz.ntmps8
 have MK:Hid (∀W:World,(Instr.makeMap 72 none).run Tryz.prog W= .ok (.map (some W.heap.size)) (W.alloc (.map #[] 0))):=fun W=>by kernel_rfl
 go_wp2_with (first
  |(refine wpList_run rfl (exec_makeMap rfl (MK.out _)) ?_)
  |(go_at_call 38;generalize w.alloc (.map #[] 0)=wm at *;refine (HR.out _).mono ?_;rintro e w1 ⟨rfl,h1,z1,b1⟩)
  |fail)
 rw [zm] at h1 z1 b1
 have hq:=heap_alloc_new w1 (.cells #[.map (some w.heap.size), .slice (some ⟨w.heap.size+1+1,0,none⟩) 1 1] 80)
 have bq:Below w1.heap.size w1 (w1.alloc (.cells #[.map (some w.heap.size), .slice (some ⟨w.heap.size+1+1,0,none⟩) 1 1] 80)):=(Below.refl _ _).alloc (Nat.le_refl _) _
 go_ret
 generalize w1.alloc (.cells #[.map (some w.heap.size), .slice (some ⟨w.heap.size+1+1,0,none⟩) 1 1] 80)=w2 at *
 rw [z1] at hq bq
 have hg:w2.heap[w.heap.size+1+1]? =some (.cells (Sp.c zSp).toArray 128 (0,0)):=(bq.block _ (by omega)).trans h1
 refine ⟨⟨w.heap.size+1+2,w.heap.size,w.heap.size+1+1,1,[zSp], .nil,[]⟩,rfl,⟨?_,⟨?_,⟨?_, .inr ⟨w.heap.size+1+1,1,_,rfl,Nat.zero_le _,hg,Nat.le_refl _,by decide, ?_, ?_⟩⟩, ?_,by show w.heap.size+1+2≠w.heap.size+1+1;omega,by show 1≤1400000000000;omega,_,_,hq⟩, ?_,⟨by show w.heap.size+1+2≠w.heap.size;omega,by show w.heap.size+1+1≠w.heap.size;omega⟩,lk_new _ _ _ _⟩, ?_, ?_⟩
 ·exact (cell_of_row _ _ 0 _ _ _ hq).trans rfl
 ·exact (cell_of_row _ _ 1 _ _ _ hq).trans rfl
 ·show (flatS [zSp]).length=1*73
  rw [flatS_len zSp_ok];rfl
 ·show (Sp.c zSp).toArray.size=1*73
  rw [List.size_toArray,Sp.len zK_ok]
 ·show ((Sp.c zSp).toArray.toList).take (1*73)=flatS [zSp]
  rw [List.toList_toArray,List.take_of_length_le (by rw [Sp.len zK_ok];omega)]
  simp [flatS]
 ·exact zSp_ok
 ·exact hm.below ((bq.block _ (by show w.heap.size<_;omega)).trans (b1.block _ (by show w.heap.size<_;omega)))
 ·intro j hj
  simp only [Sx.bl,List.mem_cons,List.not_mem_nil,or_false] at hj
  rcases hj with rfl|rfl|rfl <;>omega
 ·exact (bm.trans (b1.mono (by omega))).trans (bq.mono (by omega))
end Go.Proofs.YtifendlpeebofaaGreatDoor
namespace Go.Proofs.YtifendlpeebofaaGreatDoor
open Go.RowKit
structure VaV where
 k:Int
 n:Int
 f:Nat
 s:ByteArray
 deriving DecidableEq
structure VaV.ok (x:VaV):Prop where
 k0:0≤x.k
 k1:x.k≤255
 lo: -9223372036854775808≤x.n
 hi:x.n≤9223372036854775807
 ff:x.f<18446744073709551616
 ss:x.s.size≤maxLen
def VaV.c (x:VaV):List Value:=[.int .u8 x.k, .int .i64 x.n, .float .f64 x.f, .string x.s]
def VaV.v (x:VaV):Value:= .agg x.c.toArray
def zVa:VaV:=⟨0,0,0,⟨#[]⟩⟩
theorem zVa_ok:zVa.ok:=⟨by decide,by decide,by decide,by decide,by decide,by decide⟩
theorem VaV.len (x:VaV):x.c.length=4:=rfl
theorem VaV.one (x:VaV):∀v∈x.c,v.oneCell'=true:=by
 intro v hv
 simp only [VaV.c,List.mem_cons,List.not_mem_nil,or_false] at hv
 rcases hv with rfl|rfl|rfl|rfl <;>rfl
structure MkV where
 id:IdK
 nm:ByteArray
 v:VaV
 fr:IdK
 to:IdK
 sd:Int
 deriving DecidableEq
structure MkV.ok (x:MkV):Prop where
 i:x.id.ok
 nm:x.nm.size≤maxLen
 v:x.v.ok
 fr:x.fr.ok
 to:x.to.ok
 s0: -9223372036854775808≤x.sd
 s1:x.sd≤9223372036854775807
def MkV.c (x:MkV):List Value:=x.id.c++(.string x.nm::(x.v.c++(x.fr.c++(x.to.c++[.int .i64 x.sd]))))
def MkV.a (x:MkV):Value:= .agg x.c.toArray
def zMk:MkV:=⟨zId,⟨#[]⟩,zVa,zId,zId,0⟩
theorem zMk_ok:zMk.ok:=⟨zId_ok,by decide,zVa_ok,zId_ok,zId_ok,by decide,by decide⟩
theorem MkV.len {x:MkV} (h:x.ok):x.c.length=105:=by simp [MkV.c,IdK.len h.i,IdK.len h.fr,IdK.len h.to,VaV.len]
theorem MkV.one (x:MkV):∀v∈x.c,v.oneCell'=true:=by
 intro v hv
 rcases List.mem_append.1 hv with h|h
 ·exact x.id.one v h
 ·rcases List.mem_cons.1 h with rfl|h
  ·rfl
  ·rcases List.mem_append.1 h with h|h
   ·exact x.v.one v h
   ·rcases List.mem_append.1 h with h|h
    ·exact x.fr.one v h
    ·rcases List.mem_append.1 h with h|h
     ·exact x.to.one v h
     ·rw [List.mem_singleton.1 h];rfl
def RM:RowT MkV:=⟨MkV.c,MkV.ok,105,184,95,85,zMk⟩
theorem RM_is:RM.Is:=⟨zMk_ok,fun _ h=>MkV.len h,MkV.one,Tryz.underlying85,by kernel_rfl,⟨_,Tryz.underlying95,rfl⟩,by decide,by decide⟩
structure SpV where
 fr:Int
 to:Int
 nm:ByteArray
 v:VaV
 deriving DecidableEq
structure SpV.ok (x:SpV):Prop where
 f0: -9223372036854775808≤x.fr
 f1:x.fr≤9223372036854775807
 t0: -9223372036854775808≤x.to
 t1:x.to≤9223372036854775807
 nm:x.nm.size≤maxLen
 v:x.v.ok
def SpV.c (x:SpV):List Value:= .int .i64 x.fr:: .int .i64 x.to:: .string x.nm::x.v.c
def SpV.a (x:SpV):Value:= .agg x.c.toArray
def zSp7:SpV:=⟨0,0,⟨#[]⟩,zVa⟩
theorem zSp7_ok:zSp7.ok:=⟨by decide,by decide,by decide,by decide,by decide,zVa_ok⟩
theorem SpV.len (x:SpV):x.c.length=7:=rfl
theorem SpV.one (x:SpV):∀v∈x.c,v.oneCell'=true:=by
 intro v hv
 simp only [SpV.c,List.mem_cons] at hv
 rcases hv with rfl|rfl|rfl|h
 ·rfl
 ·rfl
 ·rfl
 ·exact x.v.one v h
def RSp:RowT SpV:=⟨SpV.c,SpV.ok,7,72,65,49,zSp7⟩
theorem RSp_is:RSp.Is:=⟨zSp7_ok,fun x _=>SpV.len x,SpV.one,Tryz.underlying49,by kernel_rfl,⟨_,Tryz.underlying65,rfl⟩,by decide,by decide⟩
theorem rng_sub {W:World} {b o n:Nat} {A B C:List Value} (h:W.rangeAt b o (A++(B++C))) (hA:A.length=n):W.rangeAt b (o+n) B:=fun j v hv=>by
 have hj:=(List.getElem?_eq_some_iff.1 hv).1
 rw [Nat.add_assoc]
 exact h (n+j) v (by rw [List.getElem?_append_right (by omega),hA,show n+j-n=j by omega,List.getElem?_append_left hj];exact hv)
theorem rng_cell {W:World} {b o n:Nat} {A C:List Value} {v:Value} (h:W.rangeAt b o (A++(v::C))) (hA:A.length=n):W.cell? ⟨b,o+n,none⟩=some v :=
 h n v (by rw [List.getElem?_append_right (by omega),hA,Nat.sub_self];rfl)
theorem szVa:(Tryz.prog.info? 40).map (·.size)=some 4:=by kernel_rfl
section
variable {W:World} {b o:Nat} {x:MkV}
theorem mk_split2 (x:MkV):x.c=(x.id.c++[.string x.nm])++(x.v.c++(x.fr.c++(x.to.c++[.int .i64 x.sd]))):=by simp [MkV.c]
theorem mk_split3 (x:MkV):x.c=(x.id.c++[.string x.nm]++x.v.c)++(x.fr.c++(x.to.c++[.int .i64 x.sd])):=by simp [MkV.c]
theorem mk_split4 (x:MkV):x.c=(x.id.c++[.string x.nm]++x.v.c++x.fr.c)++(x.to.c++[.int .i64 x.sd]):=by simp [MkV.c]
theorem mk_split5 (x:MkV):x.c=(x.id.c++[.string x.nm]++x.v.c++x.fr.c++x.to.c)++(.int .i64 x.sd::[]):=by simp [MkV.c]
theorem mk_id (hx:x.ok) (h:W.rangeAt b o x.c):(Instr.loadAt 36 (.pointer (some ⟨b,o+0,none⟩))).run Tryz.prog W= .ok x.id.v W :=
 run_loadAt_mid (P:=Tryz.prog) W b (o+0) 36 x.id.c _ (rng_sub (A:=[]) h rfl) Tryz.underlying36 rfl (by rw [IdK.len hx.i];exact szId)
theorem mk_nmc (hx:x.ok) (h:W.rangeAt b o x.c):W.cell? ⟨b,o+33,none⟩=some (.string x.nm):=rng_cell h (IdK.len hx.i)
theorem mk_nm (hx:x.ok) (h:W.rangeAt b o x.c):(Instr.loadAt 9 (.pointer (some ⟨b,o+33,none⟩))).run Tryz.prog W= .ok (.string x.nm) W:=by
 have hc:=mk_nmc hx h
 go_simp
theorem mk_v (hx:x.ok) (h:W.rangeAt b o x.c):(Instr.loadAt 40 (.pointer (some ⟨b,o+34,none⟩))).run Tryz.prog W= .ok x.v.v W :=
 run_loadAt_mid (P:=Tryz.prog) W b (o+34) 40 x.v.c _ (rng_sub (mk_split2 x▸h) (by simp [IdK.len hx.i])) Tryz.underlying40 rfl (by rw [VaV.len];exact szVa)
theorem mk_kc (hx:x.ok) (h:W.rangeAt b o x.c):W.cell? ⟨b,o+34,none⟩=some (.int .u8 x.v.k):=by
 have:=rng_sub (mk_split2 x▸h) (n:=34) (by simp [IdK.len hx.i]) 0 (.int .u8 x.v.k) rfl
 exact this
theorem mk_fr (hx:x.ok) (h:W.rangeAt b o x.c):(Instr.loadAt 36 (.pointer (some ⟨b,o+38,none⟩))).run Tryz.prog W= .ok x.fr.v W :=
 run_loadAt_mid (P:=Tryz.prog) W b (o+38) 36 x.fr.c _ (rng_sub (mk_split3 x▸h) (by simp [IdK.len hx.i,VaV.len])) Tryz.underlying36 rfl (by rw [IdK.len hx.fr];exact szId)
theorem mk_to (hx:x.ok) (h:W.rangeAt b o x.c):(Instr.loadAt 36 (.pointer (some ⟨b,o+71,none⟩))).run Tryz.prog W= .ok x.to.v W :=
 run_loadAt_mid (P:=Tryz.prog) W b (o+71) 36 x.to.c _ (rng_sub (mk_split4 x▸h) (by simp [IdK.len hx.i,IdK.len hx.fr,VaV.len])) Tryz.underlying36 rfl (by rw [IdK.len hx.to];exact szId)
theorem mk_sdc (hx:x.ok) (h:W.rangeAt b o x.c):W.cell? ⟨b,o+104,none⟩=some (.int .i64 x.sd):=rng_cell (mk_split5 x▸h) (by simp [IdK.len hx.i,IdK.len hx.fr,IdK.len hx.to,VaV.len])
theorem mk_sd (hx:x.ok) (h:W.rangeAt b o x.c):(Instr.loadAt 3 (.pointer (some ⟨b,o+104,none⟩))).run Tryz.prog W= .ok (.int .i64 x.sd) W:=by
 have hc:=mk_sdc hx h
 go_simp
end
theorem fg_95_0 (b o:Nat) (w:World):(Instr.fieldAt 95 (.pointer (some ⟨b,o,none⟩)) 0).run Tryz.prog w= .ok (.pointer (some ⟨b,o+0,none⟩)) w:=by go_simp
theorem fg_95_1 (b o:Nat) (w:World):(Instr.fieldAt 95 (.pointer (some ⟨b,o,none⟩)) 1).run Tryz.prog w= .ok (.pointer (some ⟨b,o+33,none⟩)) w:=by go_simp
theorem fg_95_2 (b o:Nat) (w:World):(Instr.fieldAt 95 (.pointer (some ⟨b,o,none⟩)) 2).run Tryz.prog w= .ok (.pointer (some ⟨b,o+34,none⟩)) w:=by go_simp
theorem fg_95_3 (b o:Nat) (w:World):(Instr.fieldAt 95 (.pointer (some ⟨b,o,none⟩)) 3).run Tryz.prog w= .ok (.pointer (some ⟨b,o+38,none⟩)) w:=by go_simp
theorem fg_95_4 (b o:Nat) (w:World):(Instr.fieldAt 95 (.pointer (some ⟨b,o,none⟩)) 4).run Tryz.prog w= .ok (.pointer (some ⟨b,o+71,none⟩)) w:=by go_simp
theorem fg_95_5 (b o:Nat) (w:World):(Instr.fieldAt 95 (.pointer (some ⟨b,o,none⟩)) 5).run Tryz.prog w= .ok (.pointer (some ⟨b,o+104,none⟩)) w:=by go_simp
theorem fg_87_0 (b o:Nat) (w:World):(Instr.fieldAt 87 (.pointer (some ⟨b,o,none⟩)) 0).run Tryz.prog w= .ok (.pointer (some ⟨b,o+0,none⟩)) w:=by go_simp
theorem fg_87_1 (b o:Nat) (w:World):(Instr.fieldAt 87 (.pointer (some ⟨b,o,none⟩)) 1).run Tryz.prog w= .ok (.pointer (some ⟨b,o+1,none⟩)) w:=by go_simp
theorem fg_40_0 (b o:Nat) (w:World):(Instr.fieldAt 40 (.pointer (some ⟨b,o,none⟩)) 0).run Tryz.prog w= .ok (.pointer (some ⟨b,o+0,none⟩)) w:=by go_simp
theorem ex_neqE {w:World} {a:Act} {o:Oper} {x y:Operand} {p q:Int} {r:Bool} (ho:o.op= .binOp .neq 43 x y 43) (hx:a.eval x= .int .i64 p) (hy:a.eval y= .int .i64 q) (h:decide (p≠q)=r):(execOp a.eval o).run Tryz.prog w= .ok (.value (.bool r)) w:=by
 subst h
 refine exec_binOp ho hx hy ?_ ?_
 ·kernel_rfl
 ·by_cases e:p=q
  ·subst e;go_simp
  ·have e2:(p==q)=false:=by simpa using e
   go_simp
theorem ex_and {w:World} {a:Act} {o:Oper} {x y:Operand} {p q z:Int} (hz:(binOp .and 3 (.int .i64 p) (.int .i64 q)).run Tryz.prog w= .ok (.int .i64 z) w) (ho:o.op= .binOp .and 3 x y 3) (hx:a.eval x= .int .i64 p) (hy:a.eval y= .int .i64 q):(execOp a.eval o).run Tryz.prog w= .ok (.value (.int .i64 z)) w:=by
 refine exec_binOp ho hx hy ?_ hz
 kernel_rfl
theorem exec_build6 {P:Program} {w:World} {a:Act} {o:Oper} {t:TypeId} {x0 x1 x2 x3 x4 x5:Operand} {v0 v1 v2 v3 v4 v5 v:Value} (ho:o.op= .build t #[(0,x0),(1,x1),(2,x2),(3,x3),(4,x4),(5,x5)]) (h0:a.eval x0=v0) (h1:a.eval x1=v1) (h2:a.eval x2=v2) (h3:a.eval x3=v3) (h4:a.eval x4=v4) (h5:a.eval x5=v5) (hl:(Instr.build t #[(0,v0),(1,v1),(2,v2),(3,v3),(4,v4),(5,v5)]).run P w= .ok v w):(execOp a.eval o).run P w= .ok (.value v) w:=by
 unfold execOp;simp only [ho,List.map_toArray,List.map_cons,List.map_nil,h0,h1,h2,h3,h4,h5,Sem.run_bind,hl,Result.andThen_ok,Sem.run_pure]
def edg1_ops:Array Oper:=(⟨_,rfl⟩:{o // some o=rgB Tryz.f102 1}).1
theorem edg1 {sp:Value} {b1:Nat} {k:IdK} {r:Int} (Fin:World→Prop) (a:Act) (w:World) (Q:Exit→Act→World→Prop) (zz:a.tmps.size=28)
 (t0:a.tmps.getD 0 undef=sp)
 (t5:a.tmps.getD 5 undef= .pointer (some ⟨b1,0,none⟩))
 (LK:∀W,W=w→(Instr.loadAt 36 (.pointer (some ⟨b1,0,none⟩))).run Tryz.prog W= .ok (k.v) W) (CR:Calls Tryz.prog 54 #[sp,k.v] w fun e w'=>e= .returned (.int .i64 r)∧Fin w')
 (h:∀a' w',Fin w'→a'=(((a.put (some 11) (sp)).put (some 12) (k.v)).put (some 13) (.int .i64 r)).put (some 10) (.int .i64 r)→Q .normal a' w') :
 (Code.region 1 edg1_ops false).wp Tryz.prog Q a w:=by
 refine z0 rfl ?_
 refine zv rfl (xmv rfl (zi t0 rfl)) ?_
 refine zv rfl (xld rfl (zi t5 rfl) (LK _ rfl)) ?_
 refine zc rfl (exec_c2 rfl (zg zz rfl) (zg zz rfl)) (CR) (fun e x2 hx=> ?_)
 obtain ⟨rfl,HF⟩:=hx
 refine ⟨_,rfl, ?_⟩
 refine zv rfl (xas rfl (zg zz rfl)) ?_
 exact ze rfl (h _ _ (HF) rfl)
def edg2_ops:Array Oper:=(⟨_,rfl⟩:{o // some o=rgB Tryz.f102 2}).1
theorem edg2 {b1:Nat} {k:IdK} {z:Bool} (a:Act) (w:World) (Q:Exit→Act→World→Prop) (zz:a.tmps.size=28)
 (t5:a.tmps.getD 5 undef= .pointer (some ⟨b1,0,none⟩))
 (hk:k.ok) (hz:decide (k=zId)=z) (LK:∀W,W=w→(Instr.loadAt 36 (.pointer (some ⟨b1,0,none⟩))).run Tryz.prog W= .ok (k.v) W)
 (h:∀a' w',w'=w→a'=(((a.put (some 15) (k.v)).put (some 16) (zId.v)).put (some 17) (.bool z)).put (some 14) (.bool z)→Q .normal a' w') :
 (Code.region 2 edg2_ops false).wp Tryz.prog Q a w:=by
 refine z0 rfl ?_
 refine zv rfl (xld rfl (zi t5 rfl) (LK _ rfl)) ?_
 refine zv rfl (exec_build0 rfl (build_id _)) ?_
 refine zv (v:= .bool z) rfl (ex_eqlI rfl (zg zz rfl) (zg zz rfl) hk zId_ok hz) ?_
 refine zv rfl (xas rfl (zg zz rfl)) ?_
 exact ze rfl (h _ _ (rfl) rfl)
def edg5_ops:Array Oper:=(⟨_,rfl⟩:{o // some o=rgB Tryz.f102 5}).1
theorem edg5 {r:Int} {z:Bool} (a:Act) (w:World) (Q:Exit→Act→World→Prop) (zz:a.tmps.size=28)
 (t10:a.tmps.getD 10 undef= .int .i64 r)
 (hb: -9223372036854775808≤r+1∧r+1≤9223372036854775807) (hz:decide (r≥0)=z)
 (h:∀a' w',w'=w→a'=(((((a.put (some 21) (.int .i64 r)).put (some 22) (.int .i64 (r+1))).put (some 23) (.int .i64 r)).put (some 24) (.bool z)).put (some 8) (.int .i64 (r+1))).put (some 9) (.bool z)→Q .normal a' w') :
 (Code.region 5 edg5_ops false).wp Tryz.prog Q a w:=by
 refine z0 rfl ?_
 refine zv rfl (xmv rfl (zi t10 rfl)) ?_
 refine zv (v:= .int .i64 (r+1)) rfl (ex_add rfl (zg zz rfl) rfl hb) ?_
 refine zv rfl (xmv rfl (zi t10 rfl)) ?_
 refine zv (v:= .bool z) rfl (ex_geq rfl (zg zz rfl) rfl hz) ?_
 iterate 2 refine zv rfl (xas rfl (zg zz rfl)) ?_
 exact ze rfl (h _ _ (rfl) rfl)
def edg6_ops:Array Oper:=(⟨_,rfl⟩:{o // some o=rgB Tryz.f102 6}).1
theorem edg6 {r:Int} {z:Bool} (a:Act) (w:World) (Q:Exit→Act→World→Prop) (zz:a.tmps.size=28)
 (t10:a.tmps.getD 10 undef= .int .i64 r)
 (hz:decide (r≥0)=z)
 (h:∀a' w',w'=w→a'=((((a.put (some 25) (.int .i64 r)).put (some 26) (.int .i64 r)).put (some 27) (.bool z)).put (some 8) (.int .i64 r)).put (some 9) (.bool z)→Q .normal a' w') :
 (Code.region 6 edg6_ops false).wp Tryz.prog Q a w:=by
 refine z0 rfl ?_
 iterate 2 refine zv rfl (xmv rfl (zi t10 rfl)) ?_
 refine zv (v:= .bool z) rfl (ex_geq rfl (zg zz rfl) rfl hz) ?_
 iterate 2 refine zv rfl (xas rfl (zg zz rfl)) ?_
 exact ze rfl (h _ _ (rfl) rfl)
def ixa1_ops:Array Oper:=(⟨_,rfl⟩:{o // some o=rgB Tryz.f55 1}).1
theorem ixa1 {sp:Value} {r:Int} {k:IdK} {z:Bool} (Fin:Nat→World→Prop) (a:Act) (w:World) (Q:Exit→Act→World→Prop) (zz:a.tmps.size=19)
 (t0:a.tmps.getD 0 undef=sp)
 (t1:a.tmps.getD 1 undef= .int .i64 r)
 (CA:Calls Tryz.prog 77 #[sp, .int .i64 r] w fun e w'=>e= .returned (.tuple #[k.v, .bool z])∧∃b1 w1 w2,(Instr.alloc 36 true (.tuple #[])).run Tryz.prog w'= .ok (.pointer (some ⟨b1,0,none⟩)) w1∧(Instr.storeAt 36 (.pointer (some ⟨b1,0,none⟩)) k.v).run Tryz.prog w1= .ok () w2∧Fin b1 w2)
 (h:∀(b1:Nat) a' w',Fin b1 w'→a'=(((((((a.put (some 8) (sp)).put (some 9) (.int .i64 r)).put (some 10) (.tuple #[k.v, .bool z])).put (some 7) (.tuple #[k.v, .bool z])).put (some 11) (k.v)).put (some 12) (.bool z)).put (some 5) (.pointer (some ⟨b1,0,none⟩))).put (some 6) (.bool z)→Q .normal a' w') :
 (Code.region 1 ixa1_ops false).wp Tryz.prog Q a w:=by
 refine z0 rfl ?_
 refine zv rfl (xmv rfl (zi t0 rfl)) ?_
 refine zv rfl (xmv rfl (zi t1 rfl)) ?_
 refine zc rfl (exec_c2 rfl (zg zz rfl) (zg zz rfl)) (CA) (fun e x2 hx=> ?_)
 obtain ⟨rfl,b1,w1,w2,EA,ES,HF⟩:=hx
 replace h:=h b1
 refine ⟨_,rfl, ?_⟩
 refine zv rfl (xmv rfl (zg zz rfl)) ?_
 iterate 2 refine zv rfl (exec_extract rfl (zg zz rfl) rfl) ?_
 refine zv (v:= .pointer (some ⟨b1,0,none⟩)) rfl (exec_alloc rfl EA) ?_
 refine zs rfl (exec_store rfl (zg zz rfl) (zg zz rfl) ES) ?_
 refine zv rfl (xas rfl (zg zz rfl)) ?_
 exact ze rfl (h _ _ (HF) rfl)
def ixa3_ops:Array Oper:=(⟨_,rfl⟩:{o // some o=rgB Tryz.f55 3}).1
theorem ixa3 {sp:Value} {b1:Nat} {k:IdK} {r:Int} (Fin:World→Prop) (a:Act) (w:World) (Q:Exit→Act→World→Prop) (zz:a.tmps.size=19)
 (t0:a.tmps.getD 0 undef=sp)
 (t5:a.tmps.getD 5 undef= .pointer (some ⟨b1,0,none⟩))
 (LK:∀W,W=w→(Instr.loadAt 36 (.pointer (some ⟨b1,0,none⟩))).run Tryz.prog W= .ok (k.v) W) (CR:Calls Tryz.prog 78 #[sp,k.v] w fun e w'=>e= .returned (.int .i64 r)∧Fin w')
 (h:∀a' w',Fin w'→a'=(((a.put (some 14) (sp)).put (some 15) (k.v)).put (some 16) (.int .i64 r)).put (some 4) (.int .i64 r)→Q .normal a' w') :
 (Code.region 3 ixa3_ops false).wp Tryz.prog Q a w:=by
 refine z0 rfl ?_
 refine zv rfl (xmv rfl (zi t0 rfl)) ?_
 refine zv rfl (xld rfl (zi t5 rfl) (LK _ rfl)) ?_
 refine zc rfl (exec_c2 rfl (zg zz rfl) (zg zz rfl)) (CR) (fun e x2 hx=> ?_)
 obtain ⟨rfl,HF⟩:=hx
 refine ⟨_,rfl, ?_⟩
 refine zv rfl (xas rfl (zg zz rfl)) ?_
 exact ze rfl (h _ _ (HF) rfl)
def rea1_ops:Array Oper:=(⟨_,rfl⟩:{o // some o=rgB Tryz.f81 1}).1
theorem rea1 {sp:Value} {b:Nat} {x:MkV} {q f:Int} {r z:Bool} (S:World→Prop) (a:Act) (w:World) (Q:Exit→Act→World→Prop) (zz:a.tmps.size=50)
 (t0:a.tmps.getD 0 undef= .pointer (some ⟨b,0,none⟩))
 (t1:a.tmps.getD 1 undef=sp)
 (h0:S w.drew) (hr:decide (q≠0)=r) (HZ:∀W,(binOp .and 3 (.int .i64 x.sd) (.int .i64 1)).run Tryz.prog W= .ok (.int .i64 q) W) (LF:∀W,S W→(Instr.loadAt 36 (.pointer (some ⟨b,0+38,none⟩))).run Tryz.prog W= .ok (x.fr.v) W) (LS:∀W,S W→(Instr.loadAt 3 (.pointer (some ⟨b,0+104,none⟩))).run Tryz.prog W= .ok (.int .i64 x.sd) W) (CE:Calls Tryz.prog 102 #[sp,x.fr.v, .bool r, .int .i64 0] w.drew fun e w'=>e= .returned (.tuple #[.int .i64 f, .bool z])∧S w')
 (h:∀a' w',S w'→a'=((((((((((((((((a.put (some 11) (sp)).put (some 12) (.pointer (some ⟨b,0,none⟩))).put (some 13) (.pointer (some ⟨b,0,none⟩))).put (some 14) (.pointer (some ⟨b,0+38,none⟩))).put (some 15) (x.fr.v)).put (some 16) (.pointer (some ⟨b,0,none⟩))).put (some 17) (.pointer (some ⟨b,0,none⟩))).put (some 18) (.pointer (some ⟨b,0+104,none⟩))).put (some 19) (.int .i64 x.sd)).put (some 20) (.int .i64 q)).put (some 21) (.bool r)).put (some 22) (.tuple #[.int .i64 f, .bool z])).put (some 10) (.tuple #[.int .i64 f, .bool z])).put (some 23) (.int .i64 f)).put (some 24) (.bool z)).put (some 6) (.int .i64 f)).put (some 7) (.bool z)→Q .normal a' w') :
 (Code.region 1 rea1_ops true).wp Tryz.prog Q a w:=by
 refine y0 (fun w'=>S w') (h0) (fun hHeld=> ?_)
 refine yv 0 rfl rfl (fun w1 hw=>xmv rfl (zi t1 rfl)) hHeld ?_
 refine yv 1 rfl rfl (fun w1 hw=>xmv rfl (zi t0 rfl)) hHeld ?_
 refine yv 2 rfl rfl (fun w1 hw=>xnc rfl (zg zz rfl)) hHeld ?_
 refine yv 3 rfl rfl (fun w1 hw=>xfa rfl (zg zz rfl) (fg_95_3 _ _ _)) hHeld ?_
 refine yv 4 rfl rfl (fun w1 hw=>xld rfl (zg zz rfl) (LF _ hw)) hHeld ?_
 refine yv 5 rfl rfl (fun w1 hw=>xmv rfl (zi t0 rfl)) hHeld ?_
 refine yv 6 rfl rfl (fun w1 hw=>xnc rfl (zg zz rfl)) hHeld ?_
 refine yv 7 rfl rfl (fun w1 hw=>xfa rfl (zg zz rfl) (fg_95_5 _ _ _)) hHeld ?_
 refine yv 8 rfl rfl (fun w1 hw=>xld rfl (zg zz rfl) (LS _ hw)) hHeld ?_
 refine yv (v:= .int .i64 q) 9 rfl rfl (fun w1 hw=>ex_and (HZ _) rfl (zg zz rfl) rfl) hHeld ?_
 refine yv (v:= .bool r) 10 rfl rfl (fun w1 hw=>ex_neq rfl (zg zz rfl) rfl hr) hHeld ?_
 refine yc 11 rfl rfl (exec_c4 rfl (zg zz rfl) (zg zz rfl) (zg zz rfl) rfl) (CE) (fun e x11 hx=> ?_)
 obtain ⟨rfl,S1⟩:=hx
 refine ⟨_,rfl,S1,fun hHeld=> ?_⟩
 refine yv 12 rfl rfl (fun w1 hw=>xmv rfl (zg zz rfl)) hHeld ?_
 refine yv 13 rfl rfl (fun w1 hw=>exec_extract rfl (zg zz rfl) rfl) hHeld ?_
 refine yv 14 rfl rfl (fun w1 hw=>exec_extract rfl (zg zz rfl) rfl) hHeld ?_
 refine yv 15 rfl rfl (fun w1 hw=>xas rfl (zg zz rfl)) hHeld ?_
 refine yv 16 rfl rfl (fun w1 hw=>xas rfl (zg zz rfl)) hHeld ?_
 exact ye rfl (h _ _ (S1) rfl)
def rea2_ops:Array Oper:=(⟨_,rfl⟩:{o // some o=rgB Tryz.f81 2}).1
theorem rea2 {sp:Value} {b:Nat} {x:MkV} {q f n:Int} {r z:Bool} (S:World→Prop) (a:Act) (w:World) (Q:Exit→Act→World→Prop) (zz:a.tmps.size=50)
 (t0:a.tmps.getD 0 undef= .pointer (some ⟨b,0,none⟩))
 (t1:a.tmps.getD 1 undef=sp)
 (h0:S w.drew) (hr:decide (q≠0)=r) (HZ:∀W,(binOp .and 3 (.int .i64 x.sd) (.int .i64 2)).run Tryz.prog W= .ok (.int .i64 q) W) (LT:∀W,S W→(Instr.loadAt 36 (.pointer (some ⟨b,0+71,none⟩))).run Tryz.prog W= .ok (x.to.v) W) (LS:∀W,S W→(Instr.loadAt 3 (.pointer (some ⟨b,0+104,none⟩))).run Tryz.prog W= .ok (.int .i64 x.sd) W) (CL:Calls Tryz.prog 103 #[sp] w.drew fun e w1=>e= .returned (.int .i64 n)∧S w1∧Calls Tryz.prog 102 #[sp,x.to.v, .bool r, .int .i64 n] w1 fun e w'=>e= .returned (.tuple #[.int .i64 f, .bool z])∧S w')
 (h:∀a' w',S w'→a'=((((((((((((((((((a.put (some 26) (sp)).put (some 27) (.pointer (some ⟨b,0,none⟩))).put (some 28) (.pointer (some ⟨b,0,none⟩))).put (some 29) (.pointer (some ⟨b,0+71,none⟩))).put (some 30) (x.to.v)).put (some 31) (.pointer (some ⟨b,0,none⟩))).put (some 32) (.pointer (some ⟨b,0,none⟩))).put (some 33) (.pointer (some ⟨b,0+104,none⟩))).put (some 34) (.int .i64 x.sd)).put (some 35) (.int .i64 q)).put (some 36) (.bool r)).put (some 37) (sp)).put (some 38) (.int .i64 n)).put (some 39) (.tuple #[.int .i64 f, .bool z])).put (some 25) (.tuple #[.int .i64 f, .bool z])).put (some 40) (.int .i64 f)).put (some 41) (.bool z)).put (some 8) (.int .i64 f)).put (some 9) (.bool z)→Q .normal a' w') :
 (Code.region 2 rea2_ops true).wp Tryz.prog Q a w:=by
 refine y0 (fun w'=>S w') (h0) (fun hHeld=> ?_)
 refine yv 0 rfl rfl (fun w1 hw=>xmv rfl (zi t1 rfl)) hHeld ?_
 refine yv 1 rfl rfl (fun w1 hw=>xmv rfl (zi t0 rfl)) hHeld ?_
 refine yv 2 rfl rfl (fun w1 hw=>xnc rfl (zg zz rfl)) hHeld ?_
 refine yv 3 rfl rfl (fun w1 hw=>xfa rfl (zg zz rfl) (fg_95_4 _ _ _)) hHeld ?_
 refine yv 4 rfl rfl (fun w1 hw=>xld rfl (zg zz rfl) (LT _ hw)) hHeld ?_
 refine yv 5 rfl rfl (fun w1 hw=>xmv rfl (zi t0 rfl)) hHeld ?_
 refine yv 6 rfl rfl (fun w1 hw=>xnc rfl (zg zz rfl)) hHeld ?_
 refine yv 7 rfl rfl (fun w1 hw=>xfa rfl (zg zz rfl) (fg_95_5 _ _ _)) hHeld ?_
 refine yv 8 rfl rfl (fun w1 hw=>xld rfl (zg zz rfl) (LS _ hw)) hHeld ?_
 refine yv (v:= .int .i64 q) 9 rfl rfl (fun w1 hw=>ex_and (HZ _) rfl (zg zz rfl) rfl) hHeld ?_
 refine yv (v:= .bool r) 10 rfl rfl (fun w1 hw=>ex_neq rfl (zg zz rfl) rfl hr) hHeld ?_
 refine yv 11 rfl rfl (fun w1 hw=>xmv rfl (zi t1 rfl)) hHeld ?_
 refine yc 12 rfl rfl (exec_c1 rfl (zg zz rfl)) (CL) (fun e x12 hx=> ?_)
 obtain ⟨rfl,S0,CE⟩:=hx
 refine ⟨_,rfl,S0,fun hHeld=> ?_⟩
 refine yc 13 rfl rfl (exec_c4 rfl (zg zz rfl) (zg zz rfl) (zg zz rfl) (zg zz rfl)) (CE) (fun e x13 hx=> ?_)
 obtain ⟨rfl,S1⟩:=hx
 refine ⟨_,rfl,S1,fun hHeld=> ?_⟩
 refine yv 14 rfl rfl (fun w1 hw=>xmv rfl (zg zz rfl)) hHeld ?_
 refine yv 15 rfl rfl (fun w1 hw=>exec_extract rfl (zg zz rfl) rfl) hHeld ?_
 refine yv 16 rfl rfl (fun w1 hw=>exec_extract rfl (zg zz rfl) rfl) hHeld ?_
 refine yv 17 rfl rfl (fun w1 hw=>xas rfl (zg zz rfl)) hHeld ?_
 refine yv 18 rfl rfl (fun w1 hw=>xas rfl (zg zz rfl)) hHeld ?_
 exact ye rfl (h _ _ (S1) rfl)
def mha1_ops:Array Oper:=(⟨_,rfl⟩:{o // some o=rgB Tryz.f39 1}).1
theorem mha1 {mb ib b1 eb:Nat} {k:IdK} {r:Bool} {w1 w2:World} (S:World→Prop) (a:Act) (w:World) (Q:Exit→Act→World→Prop) (zz:a.tmps.size=17)
 (t0:a.tmps.getD 0 undef= .pointer (some ⟨mb,0,none⟩))
 (t3:a.tmps.getD 3 undef= .pointer (some ⟨b1,0,none⟩))
 (h0:S w.drew) (LM:∀W,S W→(Instr.loadAt 84 (.pointer (some ⟨mb,0+1,none⟩))).run Tryz.prog W= .ok (.map (some ib)) W) (LK:∀W,S W→(Instr.loadAt 36 (.pointer (some ⟨b1,0,none⟩))).run Tryz.prog W= .ok (k.v) W) (LL:∀W,S W→(Instr.lookup 84 (.map (some ib)) k.v true).run Tryz.prog W= .ok (.tuple #[.agg #[], .bool r]) W) (EA:(Instr.alloc 96 true (.tuple #[])).run Tryz.prog w.drew= .ok (.pointer (some ⟨eb,0,none⟩)) w1) (S1:S w1) (ES:(Instr.storeAt 96 (.pointer (some ⟨eb,0,none⟩)) (.agg #[])).run Tryz.prog w1= .ok () w2) (S2:S w2)
 (h:∀a' w',S w'→a'=((((((((((a.put (some 8) (.pointer (some ⟨mb,0,none⟩))).put (some 9) (.pointer (some ⟨mb,0,none⟩))).put (some 10) (.pointer (some ⟨mb,0+1,none⟩))).put (some 11) (.map (some ib))).put (some 12) (k.v)).put (some 13) (.tuple #[.agg #[], .bool r])).put (some 7) (.tuple #[.agg #[], .bool r])).put (some 14) (.agg #[])).put (some 15) (.bool r)).put (some 5) (.pointer (some ⟨eb,0,none⟩))).put (some 6) (.bool r)→Q .normal a' w') :
 (Code.region 1 mha1_ops true).wp Tryz.prog Q a w:=by
 refine y0 (fun w'=>S w') (h0) (fun hHeld=> ?_)
 refine yv 0 rfl rfl (fun w1 hw=>xmv rfl (zi t0 rfl)) hHeld ?_
 refine yv 1 rfl rfl (fun w1 hw=>xnc rfl (zg zz rfl)) hHeld ?_
 refine yv 2 rfl rfl (fun w1 hw=>xfa rfl (zg zz rfl) (fg_87_1 _ _ _)) hHeld ?_
 refine yv 3 rfl rfl (fun w1 hw=>xld rfl (zg zz rfl) (LM _ hw)) hHeld ?_
 refine yv 4 rfl rfl (fun w1 hw=>xld rfl (zi t3 rfl) (LK _ hw)) hHeld ?_
 refine yv (v:= .tuple #[.agg #[], .bool r]) 5 rfl rfl (fun w1 hw=>exec_lookup rfl (zg zz rfl) (zg zz rfl) (LL _ hw)) hHeld ?_
 refine yv 6 rfl rfl (fun w1 hw=>xmv rfl (zg zz rfl)) hHeld ?_
 refine yv 7 rfl rfl (fun w1 hw=>exec_extract rfl (zg zz rfl) rfl) hHeld ?_
 refine yv 8 rfl rfl (fun w1 hw=>exec_extract rfl (zg zz rfl) rfl) hHeld ?_
 refine yr (v:= .pointer (some ⟨eb,0,none⟩)) 9 rfl rfl (exec_alloc rfl EA) (S1) (fun hHeld=> ?_)
 refine ys 10 rfl rfl (exec_store rfl (zg zz rfl) (zg zz rfl) ES) (S2) (fun hHeld=> ?_)
 refine yv 11 rfl rfl (fun w1 hw=>xas rfl (zg zz rfl)) hHeld ?_
 exact ye rfl (h _ _ (S2) rfl)
def mad3a_ops:Array Oper:=(⟨_,rfl⟩:{o // some o=rgB Tryz.f12 3}).1
theorem mad3a {b1:Nat} {k:IdK} (a:Act) (w:World) (Q:Exit→Act→World→Prop) (zz:a.tmps.size=70)
 (t8:a.tmps.getD 8 undef= .pointer (some ⟨b1,0,none⟩))
 (hn:decide (k.n<1)=true) (LN:∀W,W=w→(Instr.loadAt 3 (.pointer (some ⟨b1,0+32,none⟩))).run Tryz.prog W= .ok (.int .i64 k.n) W)
 (h:∀a' w',w'=w→a'=(((((((((((a.put (some 19) (.pointer (some ⟨b1,0+32,none⟩))).put (some 20) (.int .i64 k.n)).put (some 21) (.bool true)).put (some 22) (.bool true)).put (some 23) (undef)).put (some 24) (undef)).put (some 25) (.bool true)).put (some 26) (.bool true)).put (some 27) (undef)).put (some 28) (undef)).put (some 29) (.bool true)).put (some 18) (.bool true)→Q .normal a' w') :
 (Code.region 3 mad3a_ops false).wp Tryz.prog Q a w:=by
 refine z0 rfl ?_
 refine zv rfl (xfa rfl (zi t8 rfl) (fg_36_1 _ _ _)) ?_
 refine zv rfl (xld rfl (zg zz rfl) (LN _ rfl)) ?_
 refine zv (v:= .bool true) rfl (ex_lss rfl (zg zz rfl) rfl hn) ?_
 refine zv rfl (xmv rfl (zg zz rfl)) ?_
 iterate 2 refine zn (zx zz rfl rfl rfl (zg zz rfl)) ?_
 refine zv rfl (exec_pickT rfl (zg zz rfl) rfl) ?_
 refine zv rfl (xmv rfl (zg zz rfl)) ?_
 iterate 2 refine zn (zx zz rfl rfl rfl (zg zz rfl)) ?_
 refine zv rfl (exec_pickT rfl (zg zz rfl) rfl) ?_
 refine zv rfl (xas rfl (zg zz rfl)) ?_
 exact ze rfl (h _ _ (rfl) rfl)
theorem mad3b {b1:Nat} {k:IdK} {sd:Int} (a:Act) (w:World) (Q:Exit→Act→World→Prop) (zz:a.tmps.size=70)
 (t8:a.tmps.getD 8 undef= .pointer (some ⟨b1,0,none⟩))
 (t6:a.tmps.getD 6 undef= .int .i64 sd)
 (hn:decide (k.n<1)=false) (h1:decide (sd<0)=true) (LN:∀W,W=w→(Instr.loadAt 3 (.pointer (some ⟨b1,0+32,none⟩))).run Tryz.prog W= .ok (.int .i64 k.n) W)
 (h:∀a' w',w'=w→a'=(((((((((((a.put (some 19) (.pointer (some ⟨b1,0+32,none⟩))).put (some 20) (.int .i64 k.n)).put (some 21) (.bool false)).put (some 22) (.bool false)).put (some 23) (.int .i64 sd)).put (some 24) (.bool true)).put (some 25) (.bool true)).put (some 26) (.bool true)).put (some 27) (undef)).put (some 28) (undef)).put (some 29) (.bool true)).put (some 18) (.bool true)→Q .normal a' w') :
 (Code.region 3 mad3a_ops false).wp Tryz.prog Q a w:=by
 refine z0 rfl ?_
 refine zv rfl (xfa rfl (zi t8 rfl) (fg_36_1 _ _ _)) ?_
 refine zv rfl (xld rfl (zg zz rfl) (LN _ rfl)) ?_
 refine zv (v:= .bool false) rfl (ex_lss rfl (zg zz rfl) rfl hn) ?_
 refine zv rfl (xmv rfl (zg zz rfl)) ?_
 refine zv (zw zz rfl rfl rfl (zg zz rfl)) (xmv rfl (zi t6 rfl)) ?_
 refine zv (v:= .bool true) (zw zz rfl rfl rfl (zg zz rfl)) (ex_lss rfl (zg zz rfl) rfl h1) ?_
 refine zv rfl (exec_pickF rfl (zg zz rfl) (zg zz rfl)) ?_
 refine zv rfl (xmv rfl (zg zz rfl)) ?_
 iterate 2 refine zn (zx zz rfl rfl rfl (zg zz rfl)) ?_
 refine zv rfl (exec_pickT rfl (zg zz rfl) rfl) ?_
 refine zv rfl (xas rfl (zg zz rfl)) ?_
 exact ze rfl (h _ _ (rfl) rfl)
theorem mad3c {b1:Nat} {k:IdK} {sd:Int} {r:Bool} (a:Act) (w:World) (Q:Exit→Act→World→Prop) (zz:a.tmps.size=70)
 (t8:a.tmps.getD 8 undef= .pointer (some ⟨b1,0,none⟩))
 (t6:a.tmps.getD 6 undef= .int .i64 sd)
 (hn:decide (k.n<1)=false) (h1:decide (sd<0)=false) (h2:decide (sd>3)=r) (LN:∀W,W=w→(Instr.loadAt 3 (.pointer (some ⟨b1,0+32,none⟩))).run Tryz.prog W= .ok (.int .i64 k.n) W)
 (h:∀a' w',w'=w→a'=(((((((((((a.put (some 19) (.pointer (some ⟨b1,0+32,none⟩))).put (some 20) (.int .i64 k.n)).put (some 21) (.bool false)).put (some 22) (.bool false)).put (some 23) (.int .i64 sd)).put (some 24) (.bool false)).put (some 25) (.bool false)).put (some 26) (.bool false)).put (some 27) (.int .i64 sd)).put (some 28) (.bool r)).put (some 29) (.bool r)).put (some 18) (.bool r)→Q .normal a' w') :
 (Code.region 3 mad3a_ops false).wp Tryz.prog Q a w:=by
 refine z0 rfl ?_
 refine zv rfl (xfa rfl (zi t8 rfl) (fg_36_1 _ _ _)) ?_
 refine zv rfl (xld rfl (zg zz rfl) (LN _ rfl)) ?_
 refine zv (v:= .bool false) rfl (ex_lss rfl (zg zz rfl) rfl hn) ?_
 refine zv rfl (xmv rfl (zg zz rfl)) ?_
 refine zv (zw zz rfl rfl rfl (zg zz rfl)) (xmv rfl (zi t6 rfl)) ?_
 refine zv (v:= .bool false) (zw zz rfl rfl rfl (zg zz rfl)) (ex_lss rfl (zg zz rfl) rfl h1) ?_
 refine zv rfl (exec_pickF rfl (zg zz rfl) (zg zz rfl)) ?_
 refine zv rfl (xmv rfl (zg zz rfl)) ?_
 refine zv (zw zz rfl rfl rfl (zg zz rfl)) (xmv rfl (zi t6 rfl)) ?_
 refine zv (v:= .bool r) (zw zz rfl rfl rfl (zg zz rfl)) (ex_gtr rfl (zg zz rfl) rfl h2) ?_
 refine zv rfl (exec_pickF rfl (zg zz rfl) (zg zz rfl)) ?_
 refine zv rfl (xas rfl (zg zz rfl)) ?_
 exact ze rfl (h _ _ (rfl) rfl)
def mad5_ops:Array Oper:=(⟨_,rfl⟩:{o // some o=rgB Tryz.f12 5}).1
theorem mad5 {mb b1:Nat} {k:IdK} {r:Bool} (Fin:World→Prop) (a:Act) (w:World) (Q:Exit→Act→World→Prop) (zz:a.tmps.size=70)
 (t0:a.tmps.getD 0 undef= .pointer (some ⟨mb,0,none⟩))
 (t8:a.tmps.getD 8 undef= .pointer (some ⟨b1,0,none⟩))
 (LK:∀W,W=w→(Instr.loadAt 36 (.pointer (some ⟨b1,0,none⟩))).run Tryz.prog W= .ok (k.v) W) (CH:Calls Tryz.prog 39 #[.pointer (some ⟨mb,0,none⟩),k.v] w fun e w'=>e= .returned (.bool r)∧Fin w')
 (h:∀a' w',Fin w'→a'=(((a.put (some 31) (.pointer (some ⟨mb,0,none⟩))).put (some 32) (k.v)).put (some 33) (.bool r)).put (some 30) (.bool r)→Q .normal a' w') :
 (Code.region 5 mad5_ops false).wp Tryz.prog Q a w:=by
 refine z0 rfl ?_
 refine zv rfl (xmv rfl (zi t0 rfl)) ?_
 refine zv rfl (xld rfl (zi t8 rfl) (LK _ rfl)) ?_
 refine zc rfl (exec_c2 rfl (zg zz rfl) (zg zz rfl)) (CH) (fun e x2 hx=> ?_)
 obtain ⟨rfl,HF⟩:=hx
 refine ⟨_,rfl, ?_⟩
 refine zv rfl (xas rfl (zg zz rfl)) ?_
 exact ze rfl (h _ _ (HF) rfl)
def mad7_ops:Array Oper:=(⟨_,rfl⟩:{o // some o=rgB Tryz.f12 7}).1
theorem mad7 {nm:ByteArray} {r:Bool} (Fin:World→Prop) (a:Act) (w:World) (Q:Exit→Act→World→Prop) (zz:a.tmps.size=70)
 (t2:a.tmps.getD 2 undef= .string nm)
 (CK:Calls Tryz.prog 40 #[.string nm] w fun e w'=>e= .returned (.bool r)∧Fin w')
 (h:∀a' w',Fin w'→a'=(((a.put (some 35) (.string nm)).put (some 36) (.bool r)).put (some 37) (.bool (!r))).put (some 34) (.bool (!r))→Q .normal a' w') :
 (Code.region 7 mad7_ops false).wp Tryz.prog Q a w:=by
 refine z0 rfl ?_
 refine zv rfl (xmv rfl (zi t2 rfl)) ?_
 refine zc rfl (exec_c1 rfl (zg zz rfl)) (CK) (fun e x1 hx=> ?_)
 obtain ⟨rfl,HF⟩:=hx
 refine ⟨_,rfl, ?_⟩
 refine zv rfl (exec_not rfl (zg zz rfl)) ?_
 refine zv rfl (xas rfl (zg zz rfl)) ?_
 exact ze rfl (h _ _ (HF) rfl)
def mad9a_ops:Array Oper:=(⟨_,rfl⟩:{o // some o=rgB Tryz.f12 9}).1
theorem mad9a {b2:Nat} {x:VaV} {z:Int} (Fin:World→Prop) (a:Act) (w:World) (Q:Exit→Act→World→Prop) (zz:a.tmps.size=70)
 (t10:a.tmps.getD 10 undef= .pointer (some ⟨b2,0,none⟩))
 (hz:decide (z≠0)=true) (LV:∀W,W=w→(Instr.loadAt 40 (.pointer (some ⟨b2,0,none⟩))).run Tryz.prog W= .ok (x.v) W) (CR:Calls Tryz.prog 41 #[x.v] w fun e w'=>e= .returned (.int .i64 z)∧Fin w')
 (h:∀a' w',Fin w'→a'=(((((((((a.put (some 39) (x.v)).put (some 40) (.int .i64 z)).put (some 41) (.bool true)).put (some 42) (.bool true)).put (some 43) (undef)).put (some 44) (undef)).put (some 45) (undef)).put (some 46) (undef)).put (some 47) (.bool true)).put (some 38) (.bool true)→Q .normal a' w') :
 (Code.region 9 mad9a_ops false).wp Tryz.prog Q a w:=by
 refine z0 rfl ?_
 refine zv rfl (xld rfl (zi t10 rfl) (LV _ rfl)) ?_
 refine zc rfl (exec_c1 rfl (zg zz rfl)) (CR) (fun e x1 hx=> ?_)
 obtain ⟨rfl,HF⟩:=hx
 refine ⟨_,rfl, ?_⟩
 refine zv (v:= .bool true) rfl (ex_neqE rfl (zg zz rfl) rfl hz) ?_
 refine zv rfl (xmv rfl (zg zz rfl)) ?_
 iterate 4 refine zn (zx zz rfl rfl rfl (zg zz rfl)) ?_
 refine zv rfl (exec_pickT rfl (zg zz rfl) rfl) ?_
 refine zv rfl (xas rfl (zg zz rfl)) ?_
 exact ze rfl (h _ _ (HF) rfl)
theorem mad9b {b2:Nat} {x:VaV} {z:Int} {r:Bool} (Fin:World→Prop) (a:Act) (w:World) (Q:Exit→Act→World→Prop) (zz:a.tmps.size=70)
 (t10:a.tmps.getD 10 undef= .pointer (some ⟨b2,0,none⟩))
 (hz:decide (z≠0)=false) (LV:∀W,W=w→(Instr.loadAt 40 (.pointer (some ⟨b2,0,none⟩))).run Tryz.prog W= .ok (x.v) W) (CR:Calls Tryz.prog 41 #[x.v] w fun e w'=>e= .returned (.int .i64 z)∧(Instr.loadAt 37 (.pointer (some ⟨b2,0+0,none⟩))).run Tryz.prog w'= .ok (.int .u8 x.k) w'∧Calls Tryz.prog 42 #[.int .u8 x.k] w' fun e w2=>e= .returned (.bool r)∧Fin w2)
 (h:∀a' w',Fin w'→a'=(((((((((a.put (some 39) (x.v)).put (some 40) (.int .i64 z)).put (some 41) (.bool false)).put (some 42) (.bool false)).put (some 43) (.pointer (some ⟨b2,0+0,none⟩))).put (some 44) (.int .u8 x.k)).put (some 45) (.bool r)).put (some 46) (.bool (!r))).put (some 47) (.bool (!r))).put (some 38) (.bool (!r))→Q .normal a' w') :
 (Code.region 9 mad9a_ops false).wp Tryz.prog Q a w:=by
 refine z0 rfl ?_
 refine zv rfl (xld rfl (zi t10 rfl) (LV _ rfl)) ?_
 refine zc rfl (exec_c1 rfl (zg zz rfl)) (CR) (fun e x1 hx=> ?_)
 obtain ⟨rfl,LKD,CS⟩:=hx
 refine ⟨_,rfl, ?_⟩
 refine zv (v:= .bool false) rfl (ex_neqE rfl (zg zz rfl) rfl hz) ?_
 refine zv rfl (xmv rfl (zg zz rfl)) ?_
 refine zv (zw zz rfl rfl rfl (zg zz rfl)) (xfa rfl (zi t10 rfl) (fg_40_0 _ _ _)) ?_
 refine zv (zw zz rfl rfl rfl (zg zz rfl)) (xld rfl (zg zz rfl) LKD) ?_
 refine zc (zw zz rfl rfl rfl (zg zz rfl)) (exec_c1 rfl (zg zz rfl)) (CS) (fun e x6 hx=> ?_)
 obtain ⟨rfl,HF⟩:=hx
 refine ⟨_,rfl, ?_⟩
 refine zv (zw zz rfl rfl rfl (zg zz rfl)) (exec_not rfl (zg zz rfl)) ?_
 refine zv rfl (exec_pickF rfl (zg zz rfl) (zg zz rfl)) ?_
 refine zv rfl (xas rfl (zg zz rfl)) ?_
 exact ze rfl (h _ _ (HF) rfl)
def mad11_ops:Array Oper:=(⟨_,rfl⟩:{o // some o=rgB Tryz.f12 11}).1
theorem mad11 {mb b1 b2 b3 b4:Nat} {x:MkV} {lv sv v2:Value} {w1 w2 w3:World} (S:World→Prop) (a:Act) (w:World) (Q:Exit→Act→World→Prop) (zz:a.tmps.size=70)
 (t0:a.tmps.getD 0 undef= .pointer (some ⟨mb,0,none⟩))
 (t2:a.tmps.getD 2 undef= .string x.nm)
 (t6:a.tmps.getD 6 undef= .int .i64 x.sd)
 (t8:a.tmps.getD 8 undef= .pointer (some ⟨b1,0,none⟩))
 (t10:a.tmps.getD 10 undef= .pointer (some ⟨b2,0,none⟩))
 (t11:a.tmps.getD 11 undef= .pointer (some ⟨b3,0,none⟩))
 (t12:a.tmps.getD 12 undef= .pointer (some ⟨b4,0,none⟩))
 (h0:S w.drew) (L0:∀W,S W→(Instr.loadAt 85 (.pointer (some ⟨mb,0+0,none⟩))).run Tryz.prog W= .ok (lv) W) (L1:∀W,S W→(Instr.loadAt 36 (.pointer (some ⟨b1,0,none⟩))).run Tryz.prog W= .ok (x.id.v) W) (L2:∀W,S W→(Instr.loadAt 40 (.pointer (some ⟨b2,0,none⟩))).run Tryz.prog W= .ok (x.v.v) W) (L3:∀W,S W→(Instr.loadAt 36 (.pointer (some ⟨b3,0,none⟩))).run Tryz.prog W= .ok (x.fr.v) W) (L4:∀W,S W→(Instr.loadAt 36 (.pointer (some ⟨b4,0,none⟩))).run Tryz.prog W= .ok (x.to.v) W) (HB:∀W,(Instr.build 95 #[(0,x.id.v),(1, .string x.nm),(2,x.v.v),(3,x.fr.v),(4,x.to.v),(5, .int .i64 x.sd)]).run Tryz.prog W= .ok x.a W) (E1:(Instr.buildSlice 85 1 #[(0,x.a)]).run Tryz.prog w.drew= .ok sv w1) (S1:S w1) (E2:(Builtin.append_ #[85,85] 85 #[lv,sv]).run Tryz.prog w1= .ok v2 w2) (S2:S w2) (E3:(Instr.storeAt 85 (.pointer (some ⟨mb,0+0,none⟩)) v2).run Tryz.prog w2= .ok () w3)
 (h:∀a' w',w'=w3→a'=(((((((((((((((a.put (some 48) (.pointer (some ⟨mb,0,none⟩))).put (some 49) (.pointer (some ⟨mb,0,none⟩))).put (some 50) (.pointer (some ⟨mb,0,none⟩))).put (some 51) (.pointer (some ⟨mb,0+0,none⟩))).put (some 52) (lv)).put (some 53) (x.id.v)).put (some 54) (.string x.nm)).put (some 55) (x.v.v)).put (some 56) (x.fr.v)).put (some 57) (x.to.v)).put (some 58) (.int .i64 x.sd)).put (some 59) (x.a)).put (some 60) (sv)).put (some 61) (v2)).put (some 62) (.pointer (some ⟨mb,0,none⟩))).put (some 63) (.pointer (some ⟨mb,0+0,none⟩))→Q .normal a' w') :
 (Code.region 11 mad11_ops true).wp Tryz.prog Q a w:=by
 refine x0 16 (fun w'=>S w') (h0) (fun hHeld=> ?_)
 refine xv 0 rfl rfl (fun w1 hw=>xmv rfl (zi t0 rfl)) hHeld ?_
 refine xv 1 rfl rfl (fun w1 hw=>xmv rfl (zi t0 rfl)) hHeld ?_
 refine xv 2 rfl rfl (fun w1 hw=>xnc rfl (zg zz rfl)) hHeld ?_
 refine xv 3 rfl rfl (fun w1 hw=>xfa rfl (zg zz rfl) (fg_87_0 _ _ _)) hHeld ?_
 refine xv 4 rfl rfl (fun w1 hw=>xld rfl (zg zz rfl) (L0 _ hw)) hHeld ?_
 refine xv 5 rfl rfl (fun w1 hw=>xld rfl (zi t8 rfl) (L1 _ hw)) hHeld ?_
 refine xv 6 rfl rfl (fun w1 hw=>xmv rfl (zi t2 rfl)) hHeld ?_
 refine xv 7 rfl rfl (fun w1 hw=>xld rfl (zi t10 rfl) (L2 _ hw)) hHeld ?_
 refine xv 8 rfl rfl (fun w1 hw=>xld rfl (zi t11 rfl) (L3 _ hw)) hHeld ?_
 refine xv 9 rfl rfl (fun w1 hw=>xld rfl (zi t12 rfl) (L4 _ hw)) hHeld ?_
 refine xv 10 rfl rfl (fun w1 hw=>xmv rfl (zi t6 rfl)) hHeld ?_
 refine xv 11 rfl rfl (fun w1 hw=>exec_build6 rfl (zg zz rfl) (zg zz rfl) (zg zz rfl) (zg zz rfl) (zg zz rfl) (zg zz rfl) (HB _)) hHeld ?_
 refine xr (v:=sv) 12 rfl rfl (exec_buildSlice rfl (zg zz rfl) E1) (fun _=>S1) (fun hHeld=> ?_)
 replace hHeld:=hHeld (by decide)
 refine xr (v:=v2) 13 rfl rfl (exec_append rfl (zg zz rfl) (zg zz rfl) E2) (fun _=>S2) (fun hHeld=> ?_)
 replace hHeld:=hHeld (by decide)
 refine xv 14 rfl rfl (fun w1 hw=>xnc rfl (zg zz rfl)) hHeld ?_
 refine xv 15 rfl rfl (fun w1 hw=>xfa rfl (zg zz rfl) (fg_87_0 _ _ _)) hHeld ?_
 refine xs 16 rfl rfl (exec_store rfl (zg zz rfl) (zg zz rfl) E3) (fun hne=>absurd rfl hne) (fun _=> ?_)
 exact xe rfl (h _ _ (rfl) rfl)
def mad12_ops:Array Oper:=(⟨_,rfl⟩:{o // some o=rgB Tryz.f12 12}).1
theorem mad12 {mb ib b1:Nat} {k:IdK} {w2:World} (S:World→Prop) (a:Act) (w:World) (Q:Exit→Act→World→Prop) (zz:a.tmps.size=70)
 (t0:a.tmps.getD 0 undef= .pointer (some ⟨mb,0,none⟩))
 (t8:a.tmps.getD 8 undef= .pointer (some ⟨b1,0,none⟩))
 (h0:S w.drew) (LM:∀W,S W→(Instr.loadAt 84 (.pointer (some ⟨mb,0+1,none⟩))).run Tryz.prog W= .ok (.map (some ib)) W) (LK:∀W,S W→(Instr.loadAt 36 (.pointer (some ⟨b1,0,none⟩))).run Tryz.prog W= .ok (k.v) W) (HU:∀W,(Instr.build 96 #[]).run Tryz.prog W= .ok (.agg #[]) W) (E1:(Instr.mapUpdate 84 (.map (some ib)) k.v (.agg #[])).run Tryz.prog w.drew= .ok () w2)
 (h:∀a' w',w'=w2→a'=(((((a.put (some 64) (.pointer (some ⟨mb,0,none⟩))).put (some 65) (.pointer (some ⟨mb,0,none⟩))).put (some 66) (.pointer (some ⟨mb,0+1,none⟩))).put (some 67) (.map (some ib))).put (some 68) (k.v)).put (some 69) (.agg #[])→Q .normal a' w') :
 (Code.region 12 mad12_ops true).wp Tryz.prog Q a w:=by
 refine x0 6 (fun w'=>S w') (h0) (fun hHeld=> ?_)
 refine xv 0 rfl rfl (fun w1 hw=>xmv rfl (zi t0 rfl)) hHeld ?_
 refine xv 1 rfl rfl (fun w1 hw=>xnc rfl (zg zz rfl)) hHeld ?_
 refine xv 2 rfl rfl (fun w1 hw=>xfa rfl (zg zz rfl) (fg_87_1 _ _ _)) hHeld ?_
 refine xv 3 rfl rfl (fun w1 hw=>xld rfl (zg zz rfl) (LM _ hw)) hHeld ?_
 refine xv 4 rfl rfl (fun w1 hw=>xld rfl (zi t8 rfl) (LK _ hw)) hHeld ?_
 refine xv 5 rfl rfl (fun w1 hw=>exec_build0 rfl (HU _)) hHeld ?_
 refine xs 6 rfl rfl (exec_mapUpdate rfl (zg zz rfl) (zg zz rfl) (zg zz rfl) E1) (fun hne=>absurd rfl hne) (fun _=> ?_)
 exact xe rfl (h _ _ (rfl) rfl)
end Go.Proofs.YtifendlpeebofaaGreatDoor
namespace Go.Proofs.YtifendlpeebofaaGreatDoor
open Go.RowKit Sq
def edgeP (E:List Elt) (k:IdK) (bh:Bool) (z:Int):Int × Bool:=if k=zId then (z,true) else if bh=true then (aheadE E false k+1,decide (aheadE E false k≥0)) else (aheadE E false k,decide (aheadE E false k≥0))
def bF (s:Int):Bool:=decide (s=1∨s=3)
def bT (s:Int):Bool:=decide (s=2∨s=3)
def reachP (E:List Elt) (x:MkV):Int × Int:=if (edgeP E x.fr (bF x.sd) 0).2=true∧(edgeP E x.to (bT x.sd) (E.length:Int)).2=true then ((edgeP E x.fr (bF x.sd) 0).1,(edgeP E x.to (bT x.sd) (E.length:Int)).1) else (0,0)
def idxE (E:List Elt) (r:Int):Int:=if (nthE E false r).2=true then aheadE E true (nthE E false r).1 else ((visE E true).length:Int)
theorem vis_all (E:List Elt):visE E false=E:=by
 unfold visE
 rw [List.filter_eq_self]
 intro e _
 rfl
theorem ahead_bd (E:List Elt) (c:Bool) (k:IdK): -1≤aheadE E c k∧aheadE E c k≤(E.length:Int):=by
 unfold aheadE
 split
 ·have h1:=List.countP_le_length (p:=cE c) (l:=E.takeWhile (fun e=> !decide (e.id=k)))
  have h2:=(List.takeWhile_prefix (fun e:Elt=> !decide (e.id=k)) (l:=E)).length_le
  omega
 ·omega
theorem SeqAt.few {w:World} {s:Sx} {E:List Elt} (h:SeqAt w s E):E.length+1≤1400000000000:=by
 have h1:=h.lk.len
 have h2:=h.row.len
 omega
section
variable {w:World} {s:Sx} {E:List Elt}
theorem edge_any (h:SeqAt w s E) {k:IdK} (hk:k.ok) (bh:Bool) {z:Int} (hz: -9223372036854775808≤z∧z≤9223372036854775807):Calls Tryz.prog 102 #[.pointer (some ⟨s.sb,0,none⟩),k.v, .bool bh, .int .i64 z] w fun e w'=>e= .returned (.tuple #[.int .i64 (edgeP E k bh z).1, .bool (edgeP E k bh z).2])∧Below w.heap.size w w':=by
 have bx:Below w.heap.size w (w.alloc (.cells k.c.toArray 36)):=(Below.refl _ _).alloc (Nat.le_refl _) _
 have hx:=id_new w k
 have HR:Hid (∀W,SeqAt W s E→Calls Tryz.prog 54 #[.pointer (some ⟨s.sb,0,none⟩),k.v] W fun e w'=>e= .returned (.int .i64 (aheadE E false k))∧Below W.heap.size W w'):=fun W hW=>rank_any hW hk
 have HB:=hidMk (And.intro (ahead_bd E false k) h.few)
 have HE:Hid (edgeP E k bh z=if k=zId then (z,true) else if bh=true then (aheadE E false k+1,decide (aheadE E false k≥0)) else (aheadE E false k,decide (aheadE E false k≥0))):=rfl
 generalize edgeP E k bh z=res at *
 generalize aheadE E false k=r at *
 show Calls Tryz.prog 102 #[.pointer (some ⟨s.sb,0,none⟩), .agg k.c.toArray, .bool bh, .int .i64 z] w _
 go_enter Tryz.func102,Tryz.ntmps102
 go_upto_region 1 with fail
 generalize w.alloc (.cells k.c.toArray 36)=wx at *
 have h1:=h.below bx
 have HX:=hidMk hx
 clear hx
 refine edg1 (k:=k) (r:=r) (fun W=>Below wx.heap.size wx W) _ wx _ rfl rfl rfl (fun W e=>by rw [e];exact load_id hk HX.out) (HR.out _ h1) ?_
 intro a' w1 hf ha
 subst ha
 simp only [Act.put,qsA,qsB,qsC]
 have HX1:=hidMk (HX.out.below hf)
 have B1:=hidMk (bx.trans (hf.mono bx.size))
 clear HX HR hf h1
 go_upto_region 2 with fail
 obtain ⟨q,hq⟩:∃q,decide (k=zId)=q:=⟨_,rfl⟩
 refine edg2 (k:=k) (z:=q) _ w1 _ rfl rfl hk hq (fun W e=>by rw [e];exact load_id hk HX1.out) ?_
 intro a' w2 hw ha
 obtain rfl:w1=w2:=hw.symm
 subst ha
 simp only [Act.put,qsA,qsB,qsC]
 have HQ:=hidMk hq
 clear hq HX1
 cases q with
 |true =>
  have e:res=(z,true):=by rw [HE.out,if_pos (of_decide_eq_true HQ.out)]
  clear HE
  subst e
  go_wp2
  refine bodyPost_ret (results_tmp2 rfl _ _ _) rfl ?_
  exact ⟨rfl,B1.out⟩
 |false =>
  obtain ⟨y,hy⟩:∃y,decide (r≥0)=y:=⟨_,rfl⟩
  have HY:=hidMk hy
  clear hy
  cases bh with
  |true =>
   have e:res=(r+1,y):=by rw [HE.out,if_neg (of_decide_eq_false HQ.out),if_pos rfl,HY.out]
   clear HE
   subst e
   go_upto_region 5 with fail
   refine edg5 (r:=r) (z:=y) _ w1 _ rfl rfl (by have:=HB.out;omega) HY.out ?_
   intro a' w2 hw ha
   obtain rfl:w1=w2:=hw.symm
   subst ha
   simp only [Act.put,qsA,qsB,qsC]
   clear HB
   go_wp2
   refine bodyPost_ret (results_tmp2 rfl _ _ _) rfl ?_
   exact ⟨rfl,B1.out⟩
  |false =>
   have e:res=(r,y):=by rw [HE.out,if_neg (of_decide_eq_false HQ.out),if_neg (by decide),HY.out]
   clear HE
   subst e
   go_upto_region 6 with fail
   refine edg6 (r:=r) (z:=y) _ w1 _ rfl rfl HY.out ?_
   intro a' w2 hw ha
   obtain rfl:w1=w2:=hw.symm
   subst ha
   simp only [Act.put,qsA,qsB,qsC]
   clear HB
   go_wp2
   refine bodyPost_ret (results_tmp2 rfl _ _ _) rfl ?_
   exact ⟨rfl,B1.out⟩
theorem index_at_any (h:SeqAt w s E) {r:Int} (hr: -9223372036854775808≤r∧r≤9223372036854775807):Calls Tryz.prog 55 #[.pointer (some ⟨s.sb,0,none⟩), .int .i64 r] w fun e w'=>e= .returned (.int .i64 (idxE E r))∧Below w.heap.size w w':=by
 have HE:Hid (idxE E r=if (nthE E false r).2=true then aheadE E true (nthE E false r).1 else ((visE E true).length:Int)):=rfl
 have OK:(nthE E false r).1.ok:=nthE_ok h.lk.ok false r
 have CA:Hid (Calls Tryz.prog 77 #[.pointer (some ⟨s.sb,0,none⟩), .int .i64 r] w fun e w'=>e= .returned (.tuple #[(nthE E false r).1.v, .bool (nthE E false r).2])∧∃b1 w1 w2,(Instr.alloc 36 true (.tuple #[])).run Tryz.prog w'= .ok (.pointer (some ⟨b1,0,none⟩)) w1∧(Instr.storeAt 36 (.pointer (some ⟨b1,0,none⟩)) (nthE E false r).1.v).run Tryz.prog w1= .ok () w2∧(IdAt w2 b1 (nthE E false r).1∧Below w.heap.size w w2)):=by
  refine (at_any h r hr).mono ?_
  rintro e w' ⟨rfl,b⟩
  have i0:=id_new w' zId
  have bx:Below w'.heap.size w' (w'.alloc (.cells zId.c.toArray 36)):=(Below.refl _ _).alloc (Nat.le_refl _) _
  refine ⟨rfl,w'.heap.size,_,_,id_zero w',store_id zId_ok OK i0,i0.set _, ?_⟩
  have b2:=b.trans (bx.mono b.size)
  exact b2.trans (set_below _ b2.size b.size)
 have HI:Hid (∀W,SeqAt W s E→Calls Tryz.prog 78 #[.pointer (some ⟨s.sb,0,none⟩),(nthE E false r).1.v] W fun e w'=>e= .returned (.int .i64 (aheadE E true (nthE E false r).1))∧Below W.heap.size W w'):=fun W hW=>index_any hW OK
 have HS:Hid (∀W,SeqAt W s E→Calls Tryz.prog 79 #[.pointer (some ⟨s.sb,0,none⟩)] W fun e w'=>e= .returned (.int .i64 ((visE E true).length:Int))∧Below W.heap.size W w'):=fun W hW=>shown_any hW
 have HH:=hidMk (fun (W:World) (b:Below w.heap.size w W)=>h.below b)
 clear h
 generalize idxE E r=res at *
 generalize nthE E false r=kb at *
 obtain ⟨k,q⟩:=kb
 simp only at OK CA HI HE
 go_enter Tryz.func55,Tryz.ntmps55
 go_upto_region 1 with fail
 refine ixa1 (k:=k) (z:=q) (fun b1 W=>IdAt W b1 k∧Below w.heap.size w W) _ w _ rfl rfl rfl CA.out ?_
 intro b1 a' w1 hf ha
 subst ha
 simp only [Act.put,qsA,qsB,qsC]
 have HF:=hidMk hf
 clear hf CA
 cases q with
 |true =>
  have e:res=aheadE E true k:=by rw [HE.out,if_pos rfl]
  clear HE
  subst e
  go_upto_region 3 with fail
  refine ixa3 (k:=k) (r:=aheadE E true k) (fun W=>Below w1.heap.size w1 W) _ w1 _ rfl rfl rfl (fun W e=>by rw [e];exact load_id OK HF.out.1) (HI.out _ (HH.out _ HF.out.2)) ?_
  intro a' w2 hf ha
  subst ha
  simp only [Act.put,qsA,qsB,qsC]
  have B2:Hid (Below w.heap.size w w2):=HF.out.2.trans (hf.mono HF.out.2.size)
  clear hf
  go_wp2
  go_ret
  exact ⟨rfl,B2.out⟩
 |false =>
  have e:res=((visE E true).length:Int):=by rw [HE.out,if_neg (by decide)]
  clear HE
  subst e
  go_wp2_with (first
   |(go_at_call 79;refine (HS.out _ (HH.out _ HF.out.2)).mono ?_;rintro e w2 ⟨rfl,hb⟩)
   |fail)
  go_ret
  exact ⟨rfl,HF.out.2.trans (hb.mono HF.out.2.size)⟩
end
theorem and_one {s:Int} (h:0≤s∧s≤3) (W:World):(binOp .and 3 (.int .i64 s) (.int .i64 1)).run Tryz.prog W= .ok (.int .i64 (if bF s=true then 1 else 0)) W:=by
 rcases (show s=0∨s=1∨s=2∨s=3 by omega) with rfl|rfl|rfl|rfl <;>kernel_rfl
theorem and_two {s:Int} (h:0≤s∧s≤3) (W:World):(binOp .and 3 (.int .i64 s) (.int .i64 2)).run Tryz.prog W= .ok (.int .i64 (if bT s=true then 2 else 0)) W:=by
 rcases (show s=0∨s=1∨s=2∨s=3 by omega) with rfl|rfl|rfl|rfl <;>kernel_rfl
section
variable {w:World} {s:Sx} {E:List Elt}
theorem reach_any (h:SeqAt w s E) {x:MkV} (hx:x.ok) (hs:0≤x.sd∧x.sd≤3) {b:Nat} (hb:RM.Bx w b x):Calls Tryz.prog 81 #[.pointer (some ⟨b,0,none⟩), .pointer (some ⟨s.sb,0,none⟩)] w fun e w'=>e= .returned (.tuple #[.int .i64 (reachP E x).1, .int .i64 (reachP E x).2])∧Below w.heap.size w w':=by
 have HE:Hid (reachP E x=if (edgeP E x.fr (bF x.sd) 0).2=true∧(edgeP E x.to (bT x.sd) (E.length:Int)).2=true then ((edgeP E x.fr (bF x.sd) 0).1,(edgeP E x.to (bT x.sd) (E.length:Int)).1) else (0,0)):=rfl
 have hf:=h.few
 have C1:Hid (∀W,SeqAt W s E→Calls Tryz.prog 102 #[.pointer (some ⟨s.sb,0,none⟩),x.fr.v, .bool (bF x.sd), .int .i64 0] W fun e w'=>e= .returned (.tuple #[.int .i64 (edgeP E x.fr (bF x.sd) 0).1, .bool (edgeP E x.fr (bF x.sd) 0).2])∧Below W.heap.size W w'):=fun W hW=>edge_any hW hx.fr _ (by omega)
 have C2:Hid (∀W,SeqAt W s E→Calls Tryz.prog 102 #[.pointer (some ⟨s.sb,0,none⟩),x.to.v, .bool (bT x.sd), .int .i64 (E.length:Int)] W fun e w'=>e= .returned (.tuple #[.int .i64 (edgeP E x.to (bT x.sd) (E.length:Int)).1, .bool (edgeP E x.to (bT x.sd) (E.length:Int)).2])∧Below W.heap.size W w'):=fun W hW=>edge_any hW hx.to _ (by omega)
 have CL:Hid (∀W,SeqAt W s E→Calls Tryz.prog 103 #[.pointer (some ⟨s.sb,0,none⟩)] W fun e w'=>e= .returned (.int .i64 (E.length:Int))∧Below W.heap.size W w'):=fun W hW=>by
  have:=len_any hW
  rw [vis_all] at this
  exact this
 have HH:=hidMk (fun (W:World) (bl:Below w.heap.size w W)=>And.intro (h.below bl) (hb.below bl))
 have hxx:=hidMk hx
 have r1:decide ((if bF x.sd=true then (1:Int) else 0)≠0)=bF x.sd:=by cases bF x.sd <;>rfl
 have r2:decide ((if bT x.sd=true then (2:Int) else 0)≠0)=bT x.sd:=by cases bT x.sd <;>rfl
 obtain ⟨q1,hq1⟩:∃q,(if bF x.sd=true then (1:Int) else 0)=q:=⟨_,rfl⟩
 obtain ⟨q2,hq2⟩:∃q,(if bT x.sd=true then (2:Int) else 0)=q:=⟨_,rfl⟩
 rw [hq1] at r1
 rw [hq2] at r2
 have A1:Hid (∀W,(binOp .and 3 (.int .i64 x.sd) (.int .i64 1)).run Tryz.prog W= .ok (.int .i64 q1) W):=fun W=>by rw [←hq1];exact and_one hs W
 have A2:Hid (∀W,(binOp .and 3 (.int .i64 x.sd) (.int .i64 2)).run Tryz.prog W= .ok (.int .i64 q2) W):=fun W=>by rw [←hq2];exact and_two hs W
 have R1:=hidMk r1
 have R2:=hidMk r2
 clear h hb hf hx hs r1 r2 hq1 hq2
 generalize reachP E x=res at *
 generalize edgeP E x.fr (bF x.sd) 0=e1 at *
 generalize edgeP E x.to (bT x.sd) (E.length:Int)=e2 at *
 obtain ⟨f1,z1⟩:=e1
 obtain ⟨f2,z2⟩:=e2
 simp only at C1 C2 HE
 go_enter Tryz.func81,Tryz.ntmps81
 go_upto_region 1 with fail
 refine rea1 (x:=x) (b:=b) (q:=q1) (f:=f1) (z:=z1) (r:=bF x.sd) (fun W=>Below w.heap.size w W) _ w _ rfl rfl rfl ((Below.refl _ _).drew) R1.out A1.out (fun W bl=>mk_fr hxx.out (HH.out W bl).2.rng) (fun W bl=>mk_sd hxx.out (HH.out W bl).2.rng) ((C1.out _ (HH.out _ (Below.refl _ _).drew).1).mono ?_) ?_
 ·rintro e w' ⟨rfl,bl⟩
  exact ⟨rfl,(Below.refl _ _).drew.trans (bl.mono (Below.refl w.heap.size w).drew.size)⟩
 intro a' w1 hf ha
 subst ha
 simp only [Act.put,qsA,qsB,qsC]
 have B1:=hidMk hf
 clear hf C1 R1
 go_upto_region 2 with fail
 refine rea2 (x:=x) (b:=b) (q:=q2) (f:=f2) (n:=(E.length:Int)) (z:=z2) (r:=bT x.sd) (fun W=>Below w.heap.size w W) _ w1 _ rfl rfl rfl (B1.out.drew) R2.out A2.out (fun W bl=>mk_to hxx.out (HH.out W bl).2.rng) (fun W bl=>mk_sd hxx.out (HH.out W bl).2.rng) ((CL.out _ (HH.out _ B1.out.drew).1).mono ?_) ?_
 ·rintro e w' ⟨rfl,bl⟩
  have b2:=B1.out.drew.trans (bl.mono B1.out.drew.size)
  refine ⟨rfl,b2,(C2.out _ (HH.out _ b2).1).mono ?_⟩
  rintro e w'' ⟨rfl,bl⟩
  exact ⟨rfl,b2.trans (bl.mono b2.size)⟩
 intro a' w2 hf ha
 subst ha
 simp only [Act.put,qsA,qsB,qsC]
 have B2:=hidMk hf
 clear hf C2 R2 CL HH B1 hxx A1 A2
 generalize bF x.sd=g1 at *
 generalize bT x.sd=g2 at *
 cases z1 with
 |false =>
  have e:res=(0,0):=by rw [HE.out,if_neg (fun q=>by cases q.1)]
  clear HE
  subst e
  go_wp2
  refine bodyPost_ret (results_tmp2 rfl _ _ _) rfl ?_
  exact ⟨rfl,B2.out⟩
 |true =>
  cases z2 with
  |false =>
   have e:res=(0,0):=by rw [HE.out,if_neg (fun q=>by cases q.2)]
   clear HE
   subst e
   go_wp2
   refine bodyPost_ret (results_tmp2 rfl _ _ _) rfl ?_
   exact ⟨rfl,B2.out⟩
  |true =>
   have e:res=(f1,f2):=by rw [HE.out,if_pos ⟨rfl,rfl⟩]
   clear HE
   subst e
   go_wp2
   refine bodyPost_ret (results_tmp2 rfl _ _ _) rfl ?_
   exact ⟨rfl,B2.out⟩
end
end Go.Proofs.YtifendlpeebofaaGreatDoor
